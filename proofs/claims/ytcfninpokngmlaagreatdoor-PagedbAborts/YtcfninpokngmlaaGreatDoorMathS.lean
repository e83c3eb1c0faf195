/- Proved: plain facts of a sync and a reset on a disk that may be armed (stage 8): what they leave behind, and what is found behind a loss of power. No program is named. -/
import Derived.Test.YtcfninpokngmlaaGreatDoorMathD
namespace Wl
open Sc (St)
/- j writes were done, none refused -/
def putsN (s : St) (base : Nat) (all : List UInt8) (k j : Nat) : St := { s with left := if 0 < s.left then s.left - j else s.left, dn := s.dn + j, pend := s.pend ++ parts base all k j }
theorem putsN_zero (s : St) (base : Nat) (all : List UInt8) (k : Nat) : putsN s base all k 0 = s := by
  unfold putsN parts
  obtain ⟨kept, pend, down, left, dn⟩ := s
  simp
/- so many writes are done ahead of the power's going -/
def Lets (s : St) (j : Nat) : Prop := s.left < 0 ∨ (j : Int) ≤ s.left
theorem putsN_left {s : St} {base : Nat} {all : List UInt8} {k j : Nat} (h : Lets s j) : (putsN s base all k j).left = 0 ↔ s.left = (j : Int) := by
  unfold putsN
  simp only
  rcases h with h | h
  · rw [if_neg (by omega)]
    omega
  · by_cases h0 : 0 < s.left
    · rw [if_pos h0]
      omega
    · rw [if_neg h0]
      omega
theorem put_puts {s : St} {base : Nat} {all : List UInt8} {k j : Nat} (h : Lets s j) (h0 : s.left ≠ (j : Int)) : Sc.put (putsN s base all k j) (base + 1 + (k + j)) (ob (sec all (k + j))) = putsN s base all k (j + 1) := by
  unfold Sc.put Sc.spent
  unfold putsN
  rw [parts_succ]
  simp only [List.append_assoc, St.mk.injEq, true_and]
  refine ⟨rfl, ?_, by omega⟩
  rcases h with h | h
  · rw [if_neg (by omega), if_neg (by omega), if_neg (by omega)]
  · by_cases hp : 0 < s.left
    · rw [if_pos hp, if_pos (by omega), if_pos hp]
      omega
    · rw [if_neg hp, if_neg hp, if_neg hp]
/- one write of a sync: it is done, or the power goes -/
theorem write_puts {s : St} {base : Nat} {all : List UInt8} {k j : Nat} (hd : s.down = false) (hb : base + 1 + (k + j) < s.kept.length) (h : Lets s j) :
    (s.left ≠ (j : Int) → Sc.writeS (putsN s base all k j) ((base + 1 + (k + j) : Nat) : Int) (ob (sec all (k + j))) = putsN s base all k (j + 1) ∧ Sc.writeE (putsN s base all k j) ((base + 1 + (k + j) : Nat) : Int) (ob (sec all (k + j))) = 0) ∧
    (s.left = (j : Int) → Sc.writeS (putsN s base all k j) ((base + 1 + (k + j) : Nat) : Int) (ob (sec all (k + j))) = Sc.fell (putsN s base all k j) ∧ Sc.writeE (putsN s base all k j) ((base + 1 + (k + j) : Nat) : Int) (ob (sec all (k + j))) = 10) := by
  have hdn : (putsN s base all k j).down = false := hd
  have hh : Sc.has (putsN s base all k j) ((base + 1 + (k + j) : Nat) : Int) = true := Sc.has_iff.2 ⟨by omega, by show _ < (s.kept.length : Int); omega⟩
  have hx : ¬ 64 < (ob (sec all (k + j))).size := by rw [ob_size]; have := sec_length all (k + j); omega
  have hl := putsN_left (base := base) (all := all) (k := k) h
  refine ⟨fun h0 => ?_, fun h0 => ?_⟩
  · have h1 : ¬ (putsN s base all k j).left = 0 := fun e => h0 (hl.1 e)
    unfold Sc.writeS Sc.writeE
    simp only [hdn, hh, hx, h1, if_false, Bool.false_eq_true, Bool.true_eq_false]
    rw [Int.toNat_natCast, put_puts h h0]
    exact ⟨rfl, trivial⟩
  · have h1 : (putsN s base all k j).left = 0 := hl.2 h0
    unfold Sc.writeS Sc.writeE
    simp only [hdn, hh, hx, h1, if_false, if_true, Bool.false_eq_true, Bool.true_eq_false]
    exact ⟨trivial, trivial⟩
/- how many sectors a sync writes -/
def many (b all : Nat) : Nat := (all + 63) / 64 - b / 64
/- behind the data: what is left of a sync (or a reset): the head, and a flush -/
def markS (s : St) (base e l : Nat) : St := if s.left = 0 then Sc.fell s else if (Sc.put s base (head20 e l)).left = 0 then Sc.fell (Sc.put s base (head20 e l)) else Sc.flushed (Sc.put s base (head20 e l))
def markE (s : St) (base e l : Nat) : Int := if s.left = 0 then 10 else if (Sc.put s base (head20 e l)).left = 0 then 10 else 0
/- a sync of a disk with power -/
def syncS (s : St) (base e : Nat) (b all : ByteArray) : St :=
  if 0 ≤ s.left ∧ s.left < (many b.size all.size : Int) then Sc.fell (putsN s base all.data.toList (b.size / 64) s.left.toNat)
  else if (putsN s base all.data.toList (b.size / 64) (many b.size all.size)).left = 0 then Sc.fell (putsN s base all.data.toList (b.size / 64) (many b.size all.size))
  else markS (Sc.flushed (putsN s base all.data.toList (b.size / 64) (many b.size all.size))) base e all.size
def syncE (s : St) (base e : Nat) (b all : ByteArray) : Int :=
  if 0 ≤ s.left ∧ s.left < (many b.size all.size : Int) then 10
  else if (putsN s base all.data.toList (b.size / 64) (many b.size all.size)).left = 0 then 10
  else markE (Sc.flushed (putsN s base all.data.toList (b.size / 64) (many b.size all.size))) base e all.size
/- what is found behind a loss of power, whatever is kept -/
def Found (s : St) (P : List ByteArray → Prop) : Prop := ∀ f, P (Sc.keepI f s.pend 0 s.kept)
theorem Found.mono {s : St} {P Q : List ByteArray → Prop} (h : Found s P) (k : ∀ ks, P ks → Q ks) : Found s Q := fun f => k _ (h f)
theorem mark_found {s : St} {base n e : Nat} {b : ByteArray} (hp : s.pend = []) (h : On s.kept base n e b) {e' : Nat} {b' : ByteArray} (hb : Holds s.kept base b'.data.toList) (hr : b'.size ≤ 64 * (n - 1)) (he : e' ≤ 4611686018427387904) :
    Found (markS s base e' b'.size) (fun ks => On ks base n e b ∨ On ks base n e' b') ∧ (markE s base e' b'.size = 0 → Found (markS s base e' b'.size) (fun ks => On ks base n e' b') ∧ (markS s base e' b'.size).pend = []) := by
  unfold markS markE
  by_cases h0 : s.left = 0
  · rw [if_pos h0, if_pos h0]
    refine ⟨fun f => .inl ?_, fun h => by cases h⟩
    show On (Sc.keepI f s.pend 0 s.kept) base n e b
    rw [hp]
    exact h
  · rw [if_neg h0, if_neg h0]
    have hpend : (Sc.put s base (head20 e' b'.size)).pend = [(base, Wl.head e' b'.size)] := by
      show s.pend ++ [(base, Sc.fill (head20 e' b'.size))] = _
      rw [hp]
      rfl
    by_cases h1 : (Sc.put s base (head20 e' b'.size)).left = 0
    · rw [if_pos h1, if_pos h1]
      refine ⟨fun f => ?_, fun h => by cases h⟩
      show On (Sc.keepI f (Sc.put s base (head20 e' b'.size)).pend 0 s.kept) base n e b ∨ On (Sc.keepI f (Sc.put s base (head20 e' b'.size)).pend 0 s.kept) base n e' b'
      rw [hpend]
      exact h.either hb hr he f
    · rw [if_neg h1, if_neg h1]
      have hk : (Sc.flushed (Sc.put s base (head20 e' b'.size))).kept = s.kept.set base (Wl.head e' b'.size) := by
        show Sc.keepI (fun _ => true) (Sc.put s base (head20 e' b'.size)).pend 0 s.kept = _
        rw [hpend]
        rfl
      have hf : Found (Sc.flushed (Sc.put s base (head20 e' b'.size))) (fun ks => On ks base n e' b') := fun f => by
        show On (Sc.keepI f [] 0 (Sc.flushed (Sc.put s base (head20 e' b'.size))).kept) base n e' b'
        rw [hk]
        exact h.headed hb hr he
      exact ⟨hf.mono (fun ks h => .inr h), fun _ => ⟨hf, rfl⟩⟩
theorem sync_found {s : St} {base n e : Nat} {b new : ByteArray} (hp : s.pend = []) (h : On s.kept base n e b) (hr : (b ++ new).size ≤ 64 * (n - 1)) :
    Found (syncS s base e b (b ++ new)) (fun ks => On ks base n e b ∨ On ks base n e (b ++ new)) ∧ (syncE s base e b (b ++ new) = 0 → Found (syncS s base e b (b ++ new)) (fun ks => On ks base n e (b ++ new)) ∧ (syncS s base e b (b ++ new)).pend = []) := by
  have hold : ∀ j f, On (Sc.keepI f (putsN s base (b ++ new).data.toList (b.size / 64) j).pend 0 s.kept) base n e b := fun j f => by
    show On (Sc.keepI f (s.pend ++ parts base (b ++ new).data.toList (b.size / 64) j) 0 s.kept) base n e b
    rw [hp, List.nil_append]
    exact h.data (new := new) (parts_part _ _ _ _) f 0
  unfold syncS syncE
  by_cases h1 : 0 ≤ s.left ∧ s.left < (many b.size (b ++ new).size : Int)
  · rw [if_pos h1, if_pos h1]
    exact ⟨fun f => .inl (hold _ f), fun h => by cases h⟩
  · rw [if_neg h1, if_neg h1]
    by_cases h2 : (putsN s base (b ++ new).data.toList (b.size / 64) (many b.size (b ++ new).size)).left = 0
    · rw [if_pos h2, if_pos h2]
      exact ⟨fun f => .inl (hold _ f), fun h => by cases h⟩
    · rw [if_neg h2, if_neg h2]
      have hsz : (b ++ new).size = b.size + new.size := ByteArray.size_append
      have hbl : b.data.toList.length = b.size := (Sc.size_eq b).symm
      have hkept : (Sc.flushed (putsN s base (b ++ new).data.toList (b.size / 64) (many b.size (b ++ new).size))).kept = Sc.keepI (fun _ => true) (parts base (b ++ new).data.toList (b.size / 64) (many b.size (b ++ new).size)) 0 s.kept := by
        show Sc.keepI (fun _ => true) (s.pend ++ parts base (b ++ new).data.toList (b.size / 64) (many b.size (b ++ new).size)) 0 s.kept = _
        rw [hp, List.nil_append]
      have hon := hold (many b.size (b ++ new).size) (fun _ => true)
      have hon' : On (Sc.flushed (putsN s base (b ++ new).data.toList (b.size / 64) (many b.size (b ++ new).size))).kept base n e b := hon
      have hm : (b ++ new).size ≤ 64 * (b.size / 64 + many b.size (b ++ new).size) := by unfold many; omega
      have hholds : Holds (Sc.flushed (putsN s base (b ++ new).data.toList (b.size / 64) (many b.size (b ++ new).size))).kept base (b ++ new).data.toList := by
        rw [hkept]
        have e1 := Holds.flushed (new := new.data.toList) (m := many b.size (b ++ new).size) h.holds (by rw [← app_list, ← Sc.size_eq, hbl]; exact hm) (by
          rw [hbl]
          have := h.fits
          have := h.two
          unfold many
          omega) 0
        rw [← app_list, hbl] at e1
        exact e1
      exact mark_found rfl hon' hholds hr h.most
end Wl
