/- Proved: plain facts of a sync and a reset on a disk that may be armed (stage 8): what they leave behind, and what is found behind a loss of power. No program is named. -/
import Derived.Test.YtcfninpokngmlaaGreatDoorM02
import Derived.Lib.AppendStr
import Derived.Deep.AppendSrc
namespace Wl
open Sc (St)
/- j writes were done, none refused -/
def putsN (s : St) (base : Nat) (all : List UInt8) (k j : Nat) : St := { s with left := if 0 < s.left then s.left - j else s.left, dn := s.dn + j, pend := s.pend ++ parts base all k j }
theorem putsN_zero (s : St) (base : Nat) (all : List UInt8) (k : Nat) : putsN s base all k 0 = s := by
  unfold putsN parts
  obtain ⟨kept, pend, down, left, dn⟩ := s
  simp
/- so many writes are done ahead of the power's going -/
def Lets (s : St) (j : Nat) : Prop := s.left < 0 ∨ (j : Int) ≤ s.left
theorem putsN_left {s : St} {base : Nat} {all : List UInt8} {k j : Nat} (h : Lets s j) : (putsN s base all k j).left = 0 ↔ s.left = (j : Int) := by
  unfold putsN
  simp only
  rcases h with h | h
  · rw [if_neg (by omega)]
    omega
  · by_cases h0 : 0 < s.left
    · rw [if_pos h0]
      omega
    · rw [if_neg h0]
      omega
theorem put_puts {s : St} {base : Nat} {all : List UInt8} {k j : Nat} (h : Lets s j) (h0 : s.left ≠ (j : Int)) : Sc.put (putsN s base all k j) (base + 1 + (k + j)) (ob (sec all (k + j))) = putsN s base all k (j + 1) := by
  unfold Sc.put Sc.spent
  unfold putsN
  rw [parts_succ]
  simp only [List.append_assoc, St.mk.injEq, true_and]
  refine ⟨rfl, ?_, by omega⟩
  rcases h with h | h
  · rw [if_neg (by omega), if_neg (by omega), if_neg (by omega)]
  · by_cases hp : 0 < s.left
    · rw [if_pos hp, if_pos (by omega), if_pos hp]
      omega
    · rw [if_neg hp, if_neg hp, if_neg hp]
/- one write of a sync: it is done, or the power goes -/
theorem write_puts {s : St} {base : Nat} {all : List UInt8} {k j : Nat} (hd : s.down = false) (hb : base + 1 + (k + j) < s.kept.length) (h : Lets s j) :
    (s.left ≠ (j : Int) → Sc.writeS (putsN s base all k j) ((base + 1 + (k + j) : Nat) : Int) (ob (sec all (k + j))) = putsN s base all k (j + 1) ∧ Sc.writeE (putsN s base all k j) ((base + 1 + (k + j) : Nat) : Int) (ob (sec all (k + j))) = 0) ∧
    (s.left = (j : Int) → Sc.writeS (putsN s base all k j) ((base + 1 + (k + j) : Nat) : Int) (ob (sec all (k + j))) = Sc.fell (putsN s base all k j) ∧ Sc.writeE (putsN s base all k j) ((base + 1 + (k + j) : Nat) : Int) (ob (sec all (k + j))) = 10) := by
  have hdn : (putsN s base all k j).down = false := hd
  have hh : Sc.has (putsN s base all k j) ((base + 1 + (k + j) : Nat) : Int) = true := Sc.has_iff.2 ⟨by omega, by show _ < (s.kept.length : Int); omega⟩
  have hx : ¬ 64 < (ob (sec all (k + j))).size := by rw [ob_size]; have := sec_length all (k + j); omega
  have hl := putsN_left (base := base) (all := all) (k := k) h
  refine ⟨fun h0 => ?_, fun h0 => ?_⟩
  · have h1 : ¬ (putsN s base all k j).left = 0 := fun e => h0 (hl.1 e)
    unfold Sc.writeS Sc.writeE
    simp only [hdn, hh, hx, h1, if_false, Bool.false_eq_true, Bool.true_eq_false]
    rw [Int.toNat_natCast, put_puts h h0]
    exact ⟨rfl, trivial⟩
  · have h1 : (putsN s base all k j).left = 0 := hl.2 h0
    unfold Sc.writeS Sc.writeE
    simp only [hdn, hh, hx, h1, if_false, if_true, Bool.false_eq_true, Bool.true_eq_false]
    exact ⟨trivial, trivial⟩
/- how many sectors a sync writes -/
def many (b all : Nat) : Nat := (all + 63) / 64 - b / 64
/- behind the data: what is left of a sync (or a reset): the head, and a flush -/
def markS (s : St) (base e l : Nat) : St := if s.left = 0 then Sc.fell s else if (Sc.put s base (head20 e l)).left = 0 then Sc.fell (Sc.put s base (head20 e l)) else Sc.flushed (Sc.put s base (head20 e l))
def markE (s : St) (base e l : Nat) : Int := if s.left = 0 then 10 else if (Sc.put s base (head20 e l)).left = 0 then 10 else 0
/- a sync of a disk with power -/
def syncS (s : St) (base e : Nat) (b all : ByteArray) : St :=
  if 0 ≤ s.left ∧ s.left < (many b.size all.size : Int) then Sc.fell (putsN s base all.data.toList (b.size / 64) s.left.toNat)
  else if (putsN s base all.data.toList (b.size / 64) (many b.size all.size)).left = 0 then Sc.fell (putsN s base all.data.toList (b.size / 64) (many b.size all.size))
  else markS (Sc.flushed (putsN s base all.data.toList (b.size / 64) (many b.size all.size))) base e all.size
def syncE (s : St) (base e : Nat) (b all : ByteArray) : Int :=
  if 0 ≤ s.left ∧ s.left < (many b.size all.size : Int) then 10
  else if (putsN s base all.data.toList (b.size / 64) (many b.size all.size)).left = 0 then 10
  else markE (Sc.flushed (putsN s base all.data.toList (b.size / 64) (many b.size all.size))) base e all.size
/- what is found behind a loss of power, whatever is kept -/
def Found (s : St) (P : List ByteArray → Prop) : Prop := ∀ f, P (Sc.keepI f s.pend 0 s.kept)
theorem Found.mono {s : St} {P Q : List ByteArray → Prop} (h : Found s P) (k : ∀ ks, P ks → Q ks) : Found s Q := fun f => k _ (h f)
theorem mark_found {s : St} {base n e : Nat} {b : ByteArray} (hp : s.pend = []) (h : On s.kept base n e b) {e' : Nat} {b' : ByteArray} (hb : Holds s.kept base b'.data.toList) (hr : b'.size ≤ 64 * (n - 1)) (he : e' ≤ 4611686018427387904) :
    Found (markS s base e' b'.size) (fun ks => On ks base n e b ∨ On ks base n e' b') ∧ (markE s base e' b'.size = 0 → Found (markS s base e' b'.size) (fun ks => On ks base n e' b') ∧ (markS s base e' b'.size).pend = []) := by
  unfold markS markE
  by_cases h0 : s.left = 0
  · rw [if_pos h0, if_pos h0]
    refine ⟨fun f => .inl ?_, fun h => by cases h⟩
    show On (Sc.keepI f s.pend 0 s.kept) base n e b
    rw [hp]
    exact h
  · rw [if_neg h0, if_neg h0]
    have hpend : (Sc.put s base (head20 e' b'.size)).pend = [(base, Wl.head e' b'.size)] := by
      show s.pend ++ [(base, Sc.fill (head20 e' b'.size))] = _
      rw [hp]
      rfl
    by_cases h1 : (Sc.put s base (head20 e' b'.size)).left = 0
    · rw [if_pos h1, if_pos h1]
      refine ⟨fun f => ?_, fun h => by cases h⟩
      show On (Sc.keepI f (Sc.put s base (head20 e' b'.size)).pend 0 s.kept) base n e b ∨ On (Sc.keepI f (Sc.put s base (head20 e' b'.size)).pend 0 s.kept) base n e' b'
      rw [hpend]
      exact h.either hb hr he f
    · rw [if_neg h1, if_neg h1]
      have hk : (Sc.flushed (Sc.put s base (head20 e' b'.size))).kept = s.kept.set base (Wl.head e' b'.size) := by
        show Sc.keepI (fun _ => true) (Sc.put s base (head20 e' b'.size)).pend 0 s.kept = _
        rw [hpend]
        rfl
      have hf : Found (Sc.flushed (Sc.put s base (head20 e' b'.size))) (fun ks => On ks base n e' b') := fun f => by
        show On (Sc.keepI f [] 0 (Sc.flushed (Sc.put s base (head20 e' b'.size))).kept) base n e' b'
        rw [hk]
        exact h.headed hb hr he
      exact ⟨hf.mono (fun ks h => .inr h), fun _ => ⟨hf, rfl⟩⟩
theorem sync_found {s : St} {base n e : Nat} {b new : ByteArray} (hp : s.pend = []) (h : On s.kept base n e b) (hr : (b ++ new).size ≤ 64 * (n - 1)) :
    Found (syncS s base e b (b ++ new)) (fun ks => On ks base n e b ∨ On ks base n e (b ++ new)) ∧ (syncE s base e b (b ++ new) = 0 → Found (syncS s base e b (b ++ new)) (fun ks => On ks base n e (b ++ new)) ∧ (syncS s base e b (b ++ new)).pend = []) := by
  have hold : ∀ j f, On (Sc.keepI f (putsN s base (b ++ new).data.toList (b.size / 64) j).pend 0 s.kept) base n e b := fun j f => by
    show On (Sc.keepI f (s.pend ++ parts base (b ++ new).data.toList (b.size / 64) j) 0 s.kept) base n e b
    rw [hp, List.nil_append]
    exact h.data (new := new) (parts_part _ _ _ _) f 0
  unfold syncS syncE
  by_cases h1 : 0 ≤ s.left ∧ s.left < (many b.size (b ++ new).size : Int)
  · rw [if_pos h1, if_pos h1]
    exact ⟨fun f => .inl (hold _ f), fun h => by cases h⟩
  · rw [if_neg h1, if_neg h1]
    by_cases h2 : (putsN s base (b ++ new).data.toList (b.size / 64) (many b.size (b ++ new).size)).left = 0
    · rw [if_pos h2, if_pos h2]
      exact ⟨fun f => .inl (hold _ f), fun h => by cases h⟩
    · rw [if_neg h2, if_neg h2]
      have hsz : (b ++ new).size = b.size + new.size := ByteArray.size_append
      have hbl : b.data.toList.length = b.size := (Sc.size_eq b).symm
      have hkept : (Sc.flushed (putsN s base (b ++ new).data.toList (b.size / 64) (many b.size (b ++ new).size))).kept = Sc.keepI (fun _ => true) (parts base (b ++ new).data.toList (b.size / 64) (many b.size (b ++ new).size)) 0 s.kept := by
        show Sc.keepI (fun _ => true) (s.pend ++ parts base (b ++ new).data.toList (b.size / 64) (many b.size (b ++ new).size)) 0 s.kept = _
        rw [hp, List.nil_append]
      have hon := hold (many b.size (b ++ new).size) (fun _ => true)
      have hon' : On (Sc.flushed (putsN s base (b ++ new).data.toList (b.size / 64) (many b.size (b ++ new).size))).kept base n e b := hon
      have hm : (b ++ new).size ≤ 64 * (b.size / 64 + many b.size (b ++ new).size) := by unfold many; omega
      have hholds : Holds (Sc.flushed (putsN s base (b ++ new).data.toList (b.size / 64) (many b.size (b ++ new).size))).kept base (b ++ new).data.toList := by
        rw [hkept]
        have e1 := Holds.flushed (new := new.data.toList) (m := many b.size (b ++ new).size) h.holds (by rw [← app_list, ← Sc.size_eq, hbl]; exact hm) (by
          rw [hbl]
          have := h.fits
          have := h.two
          unfold many
          omega) 0
        rw [← app_list, hbl] at e1
        exact e1
      exact mark_found rfl hon' hholds hr h.most
end Wl
/- Proved: plain facts of the writes of a sync (stage 8), on any disk. No program is named. -/
namespace Wl
open Sc (St)
/- one write behind the other, up to the first that is refused: what the disk is then, and what the last write told -/
def puts (base : Nat) (all : List UInt8) : Nat → Nat → St → St × Int
  | 0, _, s => (s, 0)
  | m + 1, k, s => if Sc.writeE s ((base : Int) + 1 + (k : Int)) (ob (sec all k)) = 0 then puts base all m (k + 1) (Sc.writeS s ((base : Int) + 1 + (k : Int)) (ob (sec all k))) else (Sc.writeS s ((base : Int) + 1 + (k : Int)) (ob (sec all k)), Sc.writeE s ((base : Int) + 1 + (k : Int)) (ob (sec all k)))
theorem puts_yes {base : Nat} {all : List UInt8} {m k : Nat} {s : St} (h : Sc.writeE s ((base : Int) + 1 + (k : Int)) (ob (sec all k)) = 0) : puts base all (m + 1) k s = puts base all m (k + 1) (Sc.writeS s ((base : Int) + 1 + (k : Int)) (ob (sec all k))) := by rw [puts, if_pos h]
theorem puts_no {base : Nat} {all : List UInt8} {m k : Nat} {s : St} (h : Sc.writeE s ((base : Int) + 1 + (k : Int)) (ob (sec all k)) ≠ 0) : puts base all (m + 1) k s = (Sc.writeS s ((base : Int) + 1 + (k : Int)) (ob (sec all k)), Sc.writeE s ((base : Int) + 1 + (k : Int)) (ob (sec all k))) := by rw [puts, if_neg h]
theorem frames_take (l : List ByteArray) (k : Nat) (r : ByteArray) (h : l[k]? = some r) : frames (l.take (k + 1)) = frames (l.take k) ++ frame r := by
  obtain ⟨h1, h2⟩ := List.getElem?_eq_some_iff.1 h
  rw [List.take_succ_eq_append_getElem h1, h2, frames_append]
  apply ext_list
  rw [app_list, app_list, frames, app_list]
  simp [frames, ob]
theorem app_assoc (a b c : ByteArray) : a ++ b ++ c = a ++ (b ++ c) := by
  apply ext_list
  rw [app_list, app_list, app_list, app_list, List.append_assoc]
theorem app_none (a : ByteArray) : a ++ frames [] = a := by
  apply ext_list
  rw [app_list]
  simp [frames, ob]
end Wl
/- Proved: plain facts of a log and its disk (stage 8): what Add, Sync and Reset make of them, and what is found behind a loss of power. No program is named. -/
namespace Wl
open Sc (St)
/- a log: its part of the disk, its epoch, its bytes and their records, what waits, whether it is lost -/
structure Lg where
  base : Nat
  n : Nat
  epoch : Nat
  bytes : ByteArray
  recs : List ByteArray
  wait : List ByteArray
  lost : Bool
structure Lg.Ok (l : Lg) : Prop where
  two : 2 ≤ l.n
  most : l.base + l.n ≤ 65536
  epoch : l.epoch ≤ 4611686018427387904
  is : Is l.bytes l.recs
  fit : Fit l.wait
  room : l.bytes.size + total l.wait ≤ 64 * (l.n - 1)
def room (l : Lg) : Int := 64 * ((l.n : Int) - 1) - (l.bytes.size : Int) - (total l.wait : Int)
def addE (l : Lg) (r : ByteArray) : Int := if l.lost = true then 10 else if 65536 < r.size then 3 else if room l - 8 < (r.size : Int) then 7 else 0
def addS (l : Lg) (r : ByteArray) : Lg := if addE l r = 0 then { l with wait := l.wait ++ [r] } else l
theorem total_append : ∀ (a b : List ByteArray), total (a ++ b) = total a + total b
  | [], b => by simp [total]
  | r :: a, b => by rw [List.cons_append, total, total, total_append a b]; omega
theorem total_le (l : List ByteArray) (k : Nat) : total (l.take k) ≤ total l := by
  have := total_append (l.take k) (l.drop k)
  rw [List.take_append_drop] at this
  omega
theorem total_count : ∀ (l : List ByteArray), 8 * l.length ≤ total l
  | [] => by simp
  | r :: t => by rw [List.length_cons, total]; have := total_count t; omega
theorem addS_ok {l : Lg} (h : l.Ok) (r : ByteArray) : (addS l r).Ok := by
  unfold addS
  by_cases h0 : addE l r = 0
  · rw [if_pos h0]
    have hb := h.room
    have h2 := h.two
    unfold addE at h0
    by_cases hl : l.lost = true
    · rw [if_pos hl] at h0; omega
    · rw [if_neg hl] at h0
      by_cases hr : 65536 < r.size
      · rw [if_pos hr] at h0; omega
      · rw [if_neg hr] at h0
        by_cases hf : room l - 8 < (r.size : Int)
        · rw [if_pos hf] at h0; omega
        · unfold room at hf
          refine ⟨h.two, h.most, h.epoch, h.is, fun x hx => ?_, ?_⟩
          · rcases List.mem_append.1 hx with hx | hx
            · exact h.fit x hx
            · rw [List.mem_singleton.1 hx]; omega
          · show l.bytes.size + total (l.wait ++ [r]) ≤ 64 * (l.n - 1)
            rw [total_append, total, total]
            omega
  · rw [if_neg h0]
    exact h
theorem fill_fill {x : ByteArray} (h : x.size ≤ 64) : Sc.fill (Sc.fill x) = Sc.fill x := by
  apply ext_list
  rw [Sc.fill_list, Sc.fill_size h]
  simp
/- a head is written, and flushed, on any disk -/
def hdS (s : Sc.St) (base e l : Nat) : Sc.St := if Sc.writeE s (base : Int) (head e l) = 0 then Sc.flushS (Sc.writeS s (base : Int) (head e l)) else Sc.writeS s (base : Int) (head e l)
def hdE (s : Sc.St) (base e l : Nat) : Int := if Sc.writeE s (base : Int) (head e l) = 0 then Sc.flushE (Sc.writeS s (base : Int) (head e l)) else Sc.writeE s (base : Int) (head e l)
theorem hd_cases (s : Sc.St) (base e l : Nat) : (Sc.writeE s (base : Int) (head e l) = 0 → hdS s base e l = Sc.flushS (Sc.writeS s (base : Int) (head e l)) ∧ hdE s base e l = Sc.flushE (Sc.writeS s (base : Int) (head e l))) ∧ (Sc.writeE s (base : Int) (head e l) ≠ 0 → hdS s base e l = Sc.writeS s (base : Int) (head e l) ∧ hdE s base e l = Sc.writeE s (base : Int) (head e l)) := by
  unfold hdS hdE
  exact ⟨fun h => by rw [if_pos h, if_pos h]; exact ⟨rfl, rfl⟩, fun h => by rw [if_neg h, if_neg h]; exact ⟨rfl, rfl⟩⟩
def lose (l : Lg) (e : Int) : Lg := if e = 0 then l else { l with lost := true }
theorem lose_ok {l : Lg} (h : l.Ok) (e : Int) : (lose l e).Ok := by
  unfold lose
  split
  · exact h
  · exact ⟨h.two, h.most, h.epoch, h.is, h.fit, h.room⟩
def resetE (l : Lg) (s : Sc.St) : Int := if l.lost = true then 10 else if 0 < l.wait.length then 9 else if l.epoch = 4611686018427387904 then 7 else hdE s l.base (l.epoch + 1) 0
def resetL (l : Lg) (s : Sc.St) : Lg := if l.lost = true then l else if 0 < l.wait.length then l else if l.epoch = 4611686018427387904 then l else if hdE s l.base (l.epoch + 1) 0 = 0 then { l with epoch := l.epoch + 1, bytes := ob [], recs := [] } else lose l (hdE s l.base (l.epoch + 1) 0)
def resetS (l : Lg) (s : Sc.St) : Sc.St := if l.lost = true then s else if 0 < l.wait.length then s else if l.epoch = 4611686018427387904 then s else hdS s l.base (l.epoch + 1) 0
theorem is_nil : Is (ob []) [] := by
  first | exact ⟨rfl, fun _ h => by cases h⟩ | (unfold Is; simp [frames, Fit])
theorem resetL_ok {l : Lg} (h : l.Ok) (s : Sc.St) : (resetL l s).Ok := by
  unfold resetL
  by_cases h1 : l.lost = true
  · rw [if_pos h1]; exact h
  · rw [if_neg h1]
    by_cases h2 : 0 < l.wait.length
    · rw [if_pos h2]; exact h
    · rw [if_neg h2]
      by_cases h3 : l.epoch = 4611686018427387904
      · rw [if_pos h3]; exact h
      · rw [if_neg h3]
        by_cases h4 : hdE s l.base (l.epoch + 1) 0 = 0
        · rw [if_pos h4]
          have h5 := h.epoch
          have hr := h.room
          refine ⟨h.two, h.most, by show l.epoch + 1 ≤ _; omega, is_nil, h.fit, ?_⟩
          show (ob []).size + total l.wait ≤ 64 * (l.n - 1)
          rw [ob_size]
          simp
          omega
        · rw [if_neg h4]; exact lose_ok h _
def all (l : Lg) : ByteArray := l.bytes ++ frames l.wait
theorem all_size (l : Lg) : (all l).size = l.bytes.size + total l.wait := by unfold all; rw [ByteArray.size_append, frames_size]
def writes (l : Lg) (s : Sc.St) : Sc.St × Int := puts l.base (all l).data.toList (many l.bytes.size (all l).size) (l.bytes.size / 64) s
/- a sync of a log that is not lost and has some that wait -/
def syncT (l : Lg) (s : Sc.St) : Sc.St × Int :=
  if (writes l s).2 = 0 then (if Sc.flushE (writes l s).1 = 0 then (hdS (Sc.flushS (writes l s).1) l.base l.epoch (all l).size, hdE (Sc.flushS (writes l s).1) l.base l.epoch (all l).size) else (Sc.flushS (writes l s).1, Sc.flushE (writes l s).1)) else writes l s
def sycE (l : Lg) (s : Sc.St) : Int := if l.lost = true then 10 else if l.wait.length = 0 then 0 else (syncT l s).2
def sycS (l : Lg) (s : Sc.St) : Sc.St := if l.lost = true then s else if l.wait.length = 0 then s else (syncT l s).1
def sycL (l : Lg) (s : Sc.St) : Lg := if l.lost = true then l else if l.wait.length = 0 then l else if (syncT l s).2 = 0 then { l with bytes := all l, recs := l.recs ++ l.wait, wait := [] } else lose l (syncT l s).2
theorem many_num (b a k0 j : Nat) (hk : k0 = b / 64) (h : 64 * (k0 + j) < a) : j < many b a := by unfold many; omega
theorem many_most (b a k0 j : Nat) (hk : k0 = b / 64) (h : ¬ 64 * (k0 + j) < a) : many b a ≤ j := by unfold many; omega
theorem many_le (b a n : Nat) (h : a ≤ 64 * (n - 1)) (h2 : 2 ≤ n) : many b a + b / 64 ≤ n ∨ many b a = 0 := by unfold many; omega
theorem synced_ok {l : Lg} (h : l.Ok) : Lg.Ok { l with bytes := all l, recs := l.recs ++ l.wait, wait := [] } := by
  refine ⟨h.two, h.most, h.epoch, ⟨?_, ?_⟩, (by intro r hr; cases hr), ?_⟩
  · show all l = frames (l.recs ++ l.wait)
    unfold all
    rw [frames_append, ← h.is.1]
  · intro r hr
    rcases List.mem_append.1 hr with hr | hr
    · exact h.is.2 r hr
    · exact h.fit r hr
  · show (all l).size + total [] ≤ 64 * (l.n - 1)
    rw [all_size, total]
    exact h.room
theorem puts_power {s : St} {base : Nat} {all : List UInt8} {k : Nat} (hd : s.down = false) : ∀ (m j : Nat), base + (k + j + m) < s.kept.length → Lets s j → puts base all m (k + j) (putsN s base all k j) = if 0 ≤ s.left ∧ s.left < ((j + m : Nat) : Int) then (Sc.fell (putsN s base all k s.left.toNat), 10) else (putsN s base all k (j + m), 0)
  | 0, j, _, h => by
    rw [puts, if_neg (by unfold Lets at h; omega)]
    rfl
  | m + 1, j, hb, h => by
    have hw := write_puts (s := s) (base := base) (all := all) (k := k) (j := j) hd (by omega) h
    have hi : ((base + 1 + (k + j) : Nat) : Int) = (base : Int) + 1 + ((k + j : Nat) : Int) := by omega
    rw [hi] at hw
    by_cases h0 : s.left = (j : Int)
    · obtain ⟨e1, e2⟩ := hw.2 h0
      rw [puts_no (by rw [e2]; decide), e1, e2, if_pos (by omega), h0]
      rfl
    · obtain ⟨e1, e2⟩ := hw.1 h0
      rw [puts_yes e2, e1]
      have hl : Lets s (j + 1) := by unfold Lets at h ⊢; omega
      have ih := puts_power (base := base) (all := all) (k := k) hd m (j + 1) (by omega) hl
      rw [show k + j + 1 = k + (j + 1) by omega, ih, show j + 1 + m = j + (m + 1) by omega]
theorem put_head (s : St) (base e l : Nat) : Sc.put s base (head e l) = Sc.put s base (head20 e l) := by
  unfold Sc.put head
  rw [fill_fill (by have := head20_size e l; omega)]
theorem hd_mark {s : St} {base e l : Nat} (hd : s.down = false) (hb : base < s.kept.length) : hdS s base e l = markS s base e l ∧ hdE s base e l = markE s base e l := by
  have hh : Sc.has s (base : Int) = true := Sc.has_iff.2 ⟨by omega, by omega⟩
  have hx : ¬ 64 < (head e l).size := by unfold head; rw [Sc.fill_size (by have := head20_size e l; omega)]; omega
  have hd2 : (Sc.put s base (head20 e l)).down = false := hd
  unfold hdS hdE markS markE
  by_cases h0 : s.left = 0
  · have e1 : Sc.writeE s (base : Int) (head e l) = 10 := by unfold Sc.writeE; simp only [hd, hh, hx, h0, if_false, if_true, Bool.false_eq_true, Bool.true_eq_false]
    have e2 : Sc.writeS s (base : Int) (head e l) = Sc.fell s := by unfold Sc.writeS; simp only [hd, hh, hx, h0, if_false, if_true, Bool.false_eq_true, Bool.true_eq_false]
    have hz : ¬ (10 : Int) = 0 := by decide
    rw [e1, e2, if_neg hz, if_neg hz, if_pos h0, if_pos h0]
    exact ⟨rfl, rfl⟩
  · have e1 : Sc.writeE s (base : Int) (head e l) = 0 := by unfold Sc.writeE; simp only [hd, hh, hx, h0, if_false, Bool.false_eq_true, Bool.true_eq_false]
    have e2 : Sc.writeS s (base : Int) (head e l) = Sc.put s base (head20 e l) := by
      unfold Sc.writeS
      simp only [hd, hh, hx, h0, if_false, Bool.false_eq_true, Bool.true_eq_false]
      rw [Int.toNat_natCast, put_head]
    rw [e1, e2, if_pos rfl, if_pos rfl, if_neg h0, if_neg h0]
    unfold Sc.flushS Sc.flushE
    rw [hd2]
    simp only [Bool.false_eq_true, if_false]
    exact ⟨trivial, trivial⟩
/- a sync of a log with power is the sync of the mathematics -/
theorem syncT_power {l : Lg} {s : St} (hd : s.down = false) (h : l.Ok) (hf : l.base + l.n ≤ s.kept.length) : syncT l s = (syncS s l.base l.epoch l.bytes (all l), syncE s l.base l.epoch l.bytes (all l)) := by
  have hz := all_size l
  have hr := h.room
  have h2 := h.two
  have hm : l.bytes.size / 64 + many l.bytes.size (all l).size ≤ l.n - 1 := by unfold many; omega
  have hw : writes l s = if 0 ≤ s.left ∧ s.left < (many l.bytes.size (all l).size : Int) then (Sc.fell (putsN s l.base (all l).data.toList (l.bytes.size / 64) s.left.toNat), 10) else (putsN s l.base (all l).data.toList (l.bytes.size / 64) (many l.bytes.size (all l).size), 0) := by
    have e := puts_power (s := s) (base := l.base) (all := (all l).data.toList) (k := l.bytes.size / 64) hd (many l.bytes.size (all l).size) 0 (by omega) (by unfold Lets; omega)
    rw [putsN_zero, Nat.zero_add, Nat.add_zero] at e
    exact e
  unfold syncT syncS syncE
  rw [hw]
  generalize many l.bytes.size (all l).size = m at *
  by_cases h1 : 0 ≤ s.left ∧ s.left < (m : Int)
  · rw [if_pos h1, if_pos h1, if_pos h1]
    rfl
  · rw [if_neg h1, if_neg h1, if_neg h1]
    have hdn : (putsN s l.base (all l).data.toList (l.bytes.size / 64) m).down = false := hd
    have hkl : (putsN s l.base (all l).data.toList (l.bytes.size / 64) m).kept.length = s.kept.length := rfl
    generalize putsN s l.base (all l).data.toList (l.bytes.size / 64) m = s1 at *
    simp only [if_true]
    have hfl := (Sc.flushS_step s1).len
    by_cases h3 : s1.left = 0
    · have e1 : Sc.flushE s1 = 10 := by unfold Sc.flushE; rw [hdn]; simp [h3]
      have e2 : Sc.flushS s1 = Sc.fell s1 := by unfold Sc.flushS; rw [hdn]; simp [h3]
      rw [e1, e2, if_neg (by decide), if_pos h3, if_pos h3]
    · have e1 : Sc.flushE s1 = 0 := by unfold Sc.flushE; rw [hdn]; simp [h3]
      have e2 : Sc.flushS s1 = Sc.flushed s1 := by unfold Sc.flushS; rw [hdn]; simp [h3]
      rw [e2] at hfl
      obtain ⟨e3, e4⟩ := hd_mark (s := Sc.flushed s1) (base := l.base) (e := l.epoch) (l := (all l).size) hdn (by omega)
      rw [e1, e2, if_pos rfl, if_neg h3, if_neg h3, e3, e4]
end Wl
/- Proved: plain facts of a log on a disk that has power and is not armed (stage 8): what is read there, what a sync and a reset leave, and what of other parts. No program is named. -/
namespace Wl
open Sc (St)
/- what is read of a disk, sector by sector -/
def flat (s : St) : List ByteArray := Sc.keepI (fun _ => true) s.pend 0 s.kept
theorem flat_length (s : St) : (flat s).length = s.kept.length := Sc.keepI_length _ _ _ _
theorem now_flat {s : St} {i : Nat} (hi : i < s.kept.length) : Sc.now s i = (flat s).getD i Sc.zero64 := by
  unfold flat Sc.now
  have e := Sc.keepI_last i s.pend 0 s.kept hi
  rw [List.getD_eq_getElem?_getD (l := Sc.keepI _ _ _ _), e]
  rfl
theorem flat_nil {s : St} (h : s.pend = []) : flat s = s.kept := by unfold flat; rw [h]; rfl
/- a disk of N sectors that has power and is not armed -/
structure Up (N : Nat) (s : St) : Prop where
  down : s.down = false
  left : s.left = -1
  len : s.kept.length = N
theorem Up.flushed {N : Nat} {s : St} (h : Up N s) : Up N (Sc.flushed s) := by
  refine ⟨h.down, ?_, by simp only [Sc.flushed, Sc.keepI_length]; exact h.len⟩
  simp only [Sc.flushed, Sc.spent, h.left]
  decide
theorem Up.put {N : Nat} {s : St} (h : Up N s) (i : Nat) (x : ByteArray) : Up N (Sc.put s i x) := by
  refine ⟨h.down, ?_, h.len⟩
  simp only [Sc.put, Sc.spent, h.left]
  decide
theorem Up.puts {N : Nat} {s : St} (h : Up N s) (base : Nat) (all : List UInt8) (k j : Nat) : Up N (putsN s base all k j) := by
  refine ⟨h.down, ?_, h.len⟩
  simp only [putsN, h.left]
  rw [if_neg (by omega)]
theorem Up.mark {N : Nat} {s : St} (h : Up N s) (base e l : Nat) : markS s base e l = Sc.flushed (Sc.put s base (head20 e l)) ∧ markE s base e l = 0 := by
  have h0 : ¬ s.left = 0 := by have := h.left; omega
  have h1 : ¬ (Sc.put s base (head20 e l)).left = 0 := by have := (h.put base (head20 e l)).left; omega
  unfold markS markE
  rw [if_neg h0, if_neg h0, if_neg h1, if_neg h1]
  exact ⟨rfl, rfl⟩
/- the sectors outside a log's part are as they were -/
def Out (ks ks' : List ByteArray) (base n : Nat) : Prop := ∀ i, i < base ∨ base + n ≤ i → ks'.getD i Sc.zero64 = ks.getD i Sc.zero64
/- what a call that writes leaves of a disk that has power -/
structure Left (N : Nat) (s s' : St) (base n e : Nat) (b : ByteArray) : Prop where
  up : Up N s'
  pend : s'.pend = []
  on : On s'.kept base n e b
  out : Out (flat s) s'.kept base n
  dn : s'.dn ≤ s.dn + n + 3
/- another log's part is as it was -/
theorem On.out {ks ks' : List ByteArray} {base n base' n' e : Nat} {b : ByteArray} (h : On ks base' n' e b) (hl : ks'.length = ks.length) (ho : Out ks ks' base n) (hd : base' + n' ≤ base ∨ base + n ≤ base') : On ks' base' n' e b := by
  have h2 := h.two
  have hroom := h.room
  have hbl : b.data.toList.length = b.size := (Sc.size_eq b).symm
  refine ⟨?_, fun i j hj hi => ?_, h.room, by rw [hl]; exact h.fits, h.two, h.most⟩
  · unfold HeadIs
    rw [ho base' (by omega)]
    exact h.head
  · have hin : base' + 1 + i < base' + n' := by omega
    rw [ho (base' + 1 + i) (by omega)]
    exact h.holds i j hj hi
/- what is read in the sector in which the length ends -/
theorem On.tail {s : St} {base n e : Nat} {b : ByteArray} (h : On (flat s) base n e b) {i j : Nat} (hj : j < 64) (hi : 64 * i + j < b.size) : (Sc.now s (base + 1 + i)).data.toList[j]? = b.data.toList[64 * i + j]? := by
  have h2 := h.two
  have hroom := h.room
  have hf := h.fits
  rw [flat_length] at hf
  rw [now_flat (by omega)]
  exact h.holds i j hj (by rw [← Sc.size_eq]; exact hi)
end Wl
/- Proved: what wal's sumOf and headText answer. -/
namespace Go.Proofs.YtcfninpokngmlaaGreatDoor
open Go.RowKit
theorem Tab.of_block {w w' : World} (h : Tab w) (hb : w'.heap[0]? = w.heap[0]?) : Tab w' := fun i hi => by rw [← h i hi]; exact World.cell?_of_block hb
theorem Tab.below {w w' : World} {B : Nat} (h : Tab w) (hb : Below B w w') (hB : 0 < B) : Tab w' := h.of_block (hb.block 0 hB)
theorem Tab.pos {w : World} (h : Tab w) : 0 < w.heap.size := block_lt_of_cell (h 0 (by omega))
theorem Tab.drew {w : World} (h : Tab w) : Tab w.drew := h
theorem sum_lt (bs : List Nat) (h : ∀ x ∈ bs, x < 256) : Crc.sum bs < 4294967296 := by
  unfold Crc.sum Crc.upd
  exact Crc.turn_lt (Crc.fold_lt _ (Crc.turn_lt (by omega)) h)
set_option maxHeartbeats 400000 in
theorem sumof_any (a b : Option Addr) (la ca lb cb : Nat) (xa bs : List Nat) (w : World) (hA : Bytes w a la xa) (hB : Bytes w b lb bs) (hT : Tab w) :
    Calls Tryz.prog 127 #[.slice a la ca, .slice b lb cb] w fun e w' => e = .returned (.int .u32 (Crc.sum (xa ++ bs) : Nat)) ∧ w' = w := by
  have h1 := sum_any a la ca xa w hA hT
  have h2 := upd_any (Crc.sum xa) b lb cb bs w (sum_lt xa hA.2.1) hB hT
  rw [Crc.upd_sum] at h2
  go_enter Tryz.func127, Tryz.ntmps127
  go_wp2_with fail
  refine h1.mono ?_
  rintro e wS ⟨rfl, hwS⟩
  rw [hwS]
  clear hwS wS
  go_wp2_with fail
  refine h2.mono ?_
  rintro e wS ⟨rfl, hwS⟩
  rw [hwS]
  clear hwS wS
  go_wp2
  go_ret
  exact ⟨rfl, rfl⟩
/- bytes that lie in a row -/
theorem bytes_row {w : World} {g off k t : Nat} {x : ByteArray} (h : w.heap[g]? = some (.cells (bc x).toArray t (0, 0))) (hl : off + k ≤ x.size) (hx : x.size ≤ 9223372036854775807) : Bytes w (some ⟨g, off, none⟩) k (((x.data.toList.drop off).take k).map UInt8.toNat) := by
  have hs := Sc.size_eq x
  refine ⟨by rw [List.length_map, List.length_take, List.length_drop]; omega, fun n hn => ?_, by omega, .inr ⟨g, off, rfl, fun i hi => ?_⟩⟩
  · obtain ⟨b, _, rfl⟩ := List.mem_map.1 hn
    exact b.toNat_lt
  · have hj : off + i < x.data.toList.length := by omega
    rw [cell_of_row w g _ _ _ (0, 0) h, List.getElem?_toArray, bc, List.getElem?_map, List.getElem?_eq_getElem hj, List.getD_eq_getElem?_getD, List.getElem?_map, List.getElem?_take_of_lt hi, List.getElem?_drop, List.getElem?_eq_getElem hj]
    rfl
theorem fill_splice (p q : ByteArray) (h : p.size + q.size ≤ 64) : splice (bc (Sc.fill p)) p.size (bc q) = bc (Sc.fill (p ++ q)) := by
  have hp := Sc.size_eq p
  have hq := Sc.size_eq q
  unfold splice bc
  rw [Sc.fill_list, Sc.fill_list, Wl.app_list, ByteArray.size_append, List.map_append, List.map_append, List.map_append, List.take_left' (by rw [List.length_map, hp]), List.length_map, ← hq, List.drop_append, List.drop_eq_nil_of_le (by rw [List.length_map]; omega), List.length_map, ← hp, List.nil_append, List.map_replicate, List.map_replicate, List.drop_replicate, show 64 - p.size - (p.size + q.size - p.size) = 64 - (p.size + q.size) by omega]
theorem fill_row {w : World} {g t : Nat} {p q : ByteArray} (h : w.heap[g]? = some (.cells (bc (Sc.fill p)).toArray t (0, 0))) (hl : p.size + q.size ≤ 64) : (w.setCells g p.size (bc q)).heap[g]? = some (.cells (bc (Sc.fill (p ++ q))).toArray t (0, 0)) := by
  have hp := Sc.fill_size (x := p) (by omega)
  rw [← fill_splice p q hl]
  exact setCells_splice g t _ _ _ w h (by rw [bc_length, bc_length, hp]; exact hl)
theorem fill_none : Sc.fill (Wl.ob []) = Sc.zero64 := by
  apply Wl.ext_list
  rw [Sc.fill_list, Wl.ob_list, zero64_list, Wl.ob_size]
  rfl
theorem zeroArr (W : World) : (zeroValue 108).run Tryz.prog W = .ok (.agg zsec) W := by kernel_rfl
set_option maxHeartbeats 2000000 in
set_option maxRecDepth 20000 in
theorem head_any (e l : Nat) (w : World) (hT : Tab w) (_he : e < 18446744073709551616) (_hl : l < 18446744073709551616) :
    Calls Tryz.prog 126 #[.int .u64 (e : Int), .int .u64 (l : Int)] w fun r w' => r = .returned (.string (Wl.head e l)) ∧ Below w.heap.size w w' := by
  have hz := zeroArr
  have HT : Hid (Tab w) := hT
  have hpos := hT.pos
  have HR0 : Hid ((w.alloc (.cells zsec 108)).heap[w.heap.size]? = some (.cells (bc (Sc.fill (Wl.ob []))).toArray 108 (0, 0))) := by
    show _ = _
    rw [heap_alloc_new, fill_none]
    rfl
  have HB0 : Hid (Below w.heap.size w (w.alloc (.cells zsec 108))) := (Below.refl _ _).alloc (Nat.le_refl _) _
  have ms : Wl.magic.size = 4 := rfl
  have hcp := Go.run_copy_string (P := Tryz.prog) (w.alloc (.cells zsec 108)) 138 9 3 5 w.heap.size 0 64 64 Wl.magic Tryz.underlying138 size_u8 (by rw [ms]; omega) (fun j hj => (there_row HR0.out (o := 0) (n := 4) (by rw [List.size_toArray, bc_length, Sc.fill_size (by rw [Wl.ob_size]; simp)]; decide) j hj).1) (fun j hj => (there_row HR0.out (o := 0) (n := 4) (by rw [List.size_toArray, bc_length, Sc.fill_size (by rw [Wl.ob_size]; simp)]; decide) j hj).2)
  have HR1 : Hid (((w.alloc (.cells zsec 108)).setCells w.heap.size 0 (bc Wl.magic)).heap[w.heap.size]? = some (.cells (bc (Sc.fill (Wl.ob [] ++ Wl.magic))).toArray 108 (0, 0))) := fill_row (p := Wl.ob []) HR0.out (by decide)
  have HB1 : Hid (Below w.heap.size w ((w.alloc (.cells zsec 108)).setCells w.heap.size 0 (bc Wl.magic))) := below_setCells (Nat.le_refl _) _ _ _ HB0.out
  change Sem.run Tryz.prog (Builtin.copy_ #[138, 9] 3 #[.slice (some ⟨w.heap.size, 0, none⟩) 64 64, .string ⟨#[65, 81, 87, 76]⟩]) (w.alloc (.cells zsec 108)) = .ok _ ((w.alloc (.cells zsec 108)).setCells w.heap.size 0 (bc Wl.magic)) at hcp
  generalize World.setCells _ _ _ (bc Wl.magic) = w1 at *
  clear hT HR0 HB0
  have e1 : Wl.ob [] ++ Wl.magic = Wl.magic := Wl.ext_list (by rw [Wl.app_list, Wl.ob_list, List.nil_append])
  rw [e1] at HR1
  have hf1 : (bc (Sc.fill Wl.magic)).length = 64 := by rw [bc_length, Sc.fill_size (by decide)]
  have HP1 : Hid (Calls Tryz.prog 140 #[.slice (some ⟨w.heap.size, 4, none⟩) 8 8, .int .u64 (e : Int)] w1 fun r w' => r = .returned (.tuple #[]) ∧ w' = w1.setCells w.heap.size 4 (nc e 8)) := putn_any w.heap.size 4 8 8 e 108 _ w1 HR1.out (by rw [hf1]; omega) (by omega)
  have HR2 : Hid ((w1.setCells w.heap.size 4 (nc e 8)).heap[w.heap.size]? = some (.cells (bc (Sc.fill (Wl.magic ++ Wl.put e 8))).toArray 108 (0, 0))) := by
    rw [nc_bc]
    exact fill_row (p := Wl.magic) HR1.out (by rw [Wl.put_size]; decide)
  have HB2 : Hid (Below w.heap.size w (w1.setCells w.heap.size 4 (nc e 8))) := below_setCells (Nat.le_refl _) _ _ _ HB1.out
  generalize w1.setCells w.heap.size 4 (nc e 8) = w2 at *
  have hs2 : (Wl.magic ++ Wl.put e 8).size = 12 := by rw [ByteArray.size_append, Wl.put_size]; rfl
  have hf2 : (bc (Sc.fill (Wl.magic ++ Wl.put e 8))).length = 64 := by rw [bc_length, Sc.fill_size (by omega)]
  have HP2 : Hid (Calls Tryz.prog 140 #[.slice (some ⟨w.heap.size, 12, none⟩) 4 4, .int .u64 (l : Int)] w2 fun r w' => r = .returned (.tuple #[]) ∧ w' = w2.setCells w.heap.size 12 (nc l 4)) := putn_any w.heap.size 12 4 4 l 108 _ w2 HR2.out (by rw [hf2]; omega) (by omega)
  have HR3 : Hid ((w2.setCells w.heap.size 12 (nc l 4)).heap[w.heap.size]? = some (.cells (bc (Sc.fill (Wl.head16 e l))).toArray 108 (0, 0))) := by
    rw [nc_bc]
    have := fill_row (q := Wl.put l 4) HR2.out (by rw [hs2, Wl.put_size]; decide)
    rw [hs2] at this
    exact this
  have HB3 : Hid (Below w.heap.size w (w2.setCells w.heap.size 12 (nc l 4))) := below_setCells (Nat.le_refl _) _ _ _ HB2.out
  generalize w2.setCells w.heap.size 12 (nc l 4) = w3 at *
  have hs3 := Wl.head16_size e l
  have hf3 : (Sc.fill (Wl.head16 e l)).size = 64 := Sc.fill_size (by omega)
  have hbl : (((Sc.fill (Wl.head16 e l)).data.toList.drop 0).take 16).map UInt8.toNat = Wl.nb (Wl.head16 e l) := by
    rw [List.drop_zero, Sc.fill_list, List.take_left' (by rw [← Sc.size_eq]; exact hs3)]
    rfl
  have HSM : Hid (Calls Tryz.prog 116 #[.slice (some ⟨w.heap.size, 0, none⟩) 16 64] w3.drew fun r w' => r = .returned (.int .u32 (Crc.sum (Wl.nb (Wl.head16 e l)) : Nat)) ∧ w' = w3.drew) := by
    have hB := bytes_row (w := w3.drew) (off := 0) (k := 16) HR3.out (by omega) (by omega)
    rw [hbl] at hB
    exact sum_any _ 16 64 _ w3.drew hB (HT.out.below HB3.out hpos).drew
  have hlt := sum_lt _ (Wl.nb_lt (Wl.head16 e l))
  have HP3 : Hid (Calls Tryz.prog 140 #[.slice (some ⟨w.heap.size, 16, none⟩) 4 4, .int .u64 (Crc.sum (Wl.nb (Wl.head16 e l)) : Nat)] w3.drew fun r w' => r = .returned (.tuple #[]) ∧ w' = w3.drew.setCells w.heap.size 16 (nc (Crc.sum (Wl.nb (Wl.head16 e l))) 4)) := putn_any w.heap.size 16 4 4 _ 108 _ w3.drew HR3.out (by rw [bc_length, hf3]; omega) (by omega)
  have HR4 : Hid ((w3.drew.setCells w.heap.size 16 (nc (Crc.sum (Wl.nb (Wl.head16 e l))) 4)).heap[w.heap.size]? = some (.cells (bA (Wl.head e l)) 108 (0, 0))) := by
    rw [nc_bc]
    have := fill_row (w := w3.drew) (q := Wl.sum4 (Wl.head16 e l)) HR3.out (by rw [hs3, Wl.sum4_size]; decide)
    rw [hs3] at this
    exact this
  have HB4 : Hid (Below w.heap.size w (w3.drew.setCells w.heap.size 16 (nc (Crc.sum (Wl.nb (Wl.head16 e l))) 4))) := below_setCells (Nat.le_refl _) _ _ _ HB3.out.drew
  generalize w3.drew.setCells w.heap.size 16 (nc (Crc.sum (Wl.nb (Wl.head16 e l))) 4) = w4 at *
  have hcv := str_of (x := Wl.head e l) (range_row HR4.out) 64
  rw [Wl.head_size] at hcv
  generalize Crc.sum (Wl.nb (Wl.head16 e l)) = sm at *
  generalize Wl.head e l = hd at *
  clear hs2 hf2 hf1 hbl hs3 hf3 HR1 HR2 HR3 HR4 e1 ms
  go_enter Tryz.func126, Tryz.ntmps126
  go_wp2_with fail
  refine HP1.out.mono ?_
  rintro r w' ⟨rfl, hw⟩
  rw [hw]
  clear hw w'
  go_wp2_with fail
  refine HP2.out.mono ?_
  rintro r w' ⟨rfl, hw⟩
  rw [hw]
  clear hw w'
  go_wp2_with fail
  have HS : Hid ((fun _ : World => True) w3.drew) := trivial
  refine wp_region_held_drew (S := fun _ => True) (by kernel_rfl) HS.out (fun _ => ?_)
  refine heldTake 0 (some 14) (.slice (some ⟨w.heap.size, 16, none⟩) 4 4) rfl rfl (by kernel_rfl) (by kernel_rfl) (by kernel_rfl) (fun _ _ _ h => h) (Or.inl ⟨by rfl, fun w hS => ?_⟩) HS.out ?_
  · (go_simp)
  simp only [Act.put, List.setIfInBounds_toArray, List.set_cons_zero, List.set_cons_succ]
  refine heldTake 1 (some 15) (.slice (some ⟨w.heap.size, 0, none⟩) 16 64) rfl rfl (by kernel_rfl) (by kernel_rfl) (by kernel_rfl) (fun _ _ _ h => h) (Or.inl ⟨by rfl, fun w hS => ?_⟩) HS.out ?_
  · (go_simp)
  simp only [Act.put, List.setIfInBounds_toArray, List.set_cons_zero, List.set_cons_succ]
  refine heldOne 2 (by kernel_rfl) rfl (by rfl) (fun KK hK => ?_)
  go_simp
  go_at_call 116
  refine HSM.out.mono ?_
  rintro r w' ⟨rfl, hw⟩
  rw [hw]
  clear hw w'
  refine hK.out _ _ trivial ?_
  clear hK KK
  refine heldTake 3 (some 17) (.int .u64 (sm : Int)) rfl rfl (by kernel_rfl) (by kernel_rfl) (by kernel_rfl) (fun _ _ _ h => h) (Or.inl ⟨by rfl, fun w hS => ?_⟩) HS.out ?_
  · (go_simp; rw [IntKind.wrap_u64]; omega)
  simp only [Act.put, List.setIfInBounds_toArray, List.set_cons_zero, List.set_cons_succ]
  refine heldOne 4 (by kernel_rfl) rfl (by rfl) (fun KK hK => ?_)
  go_simp
  go_at_call 140
  refine HP3.out.mono ?_
  rintro r w' ⟨rfl, hw⟩
  rw [hw]
  clear hw w'
  refine hK.out _ _ trivial ?_
  clear hK KK
  refine wpAnyH_done (by kernel_rfl) ?_ _
  go_wp2
  go_ret
  exact ⟨rfl, HB4.out⟩
end Go.Proofs.YtcfninpokngmlaaGreatDoor
/- Proved: what strings.TrimLeft of noughts answers, and what wal's readHead tells of a head. -/
namespace Go.Proofs.YtcfninpokngmlaaGreatDoor
open Go.RowKit
theorem byte_at (x : ByteArray) (m : Nat) (c : UInt8) (h : x.data.toList[m]? = some c) (hm : m < x.size) : x[m]'hm = c := by
  rw [Array.getElem?_toList] at h
  exact (Array.getElem?_eq_some_iff.1 h).2
set_option maxHeartbeats 1000000 in
theorem trimB_zero (y : ByteArray) (m : Nat) (w : World) (hy : y.data.toList = List.replicate m 0) :
    Calls Tryz.prog 136 #[.string y, .int .u8 0] w fun e w' => (∃ z : ByteArray, e = .returned (.string z) ∧ z.size = 0) ∧ w' = w := by
  go_enter Tryz.func136, Tryz.ntmps136
  go_wp2_with fail
  go_loopw [0] (fun s0 wr => ∃ (j : Nat) (z : ByteArray), j ≤ m ∧ s0 = .string z ∧ z.data.toList = List.replicate j 0 ∧ wr = w) (fun s0 _ => match s0 with | .string z => z.size | _ => 0)
  case atStart => exact ⟨m, y, by omega, rfl, hy, rfl⟩
  case round =>
    obtain ⟨j, z, hj, rfl, hz, hwr⟩ := hrel
    subst hwr
    have hs : z.size = j := by rw [Sc.size_eq, hz, List.length_replicate]
    by_cases h0 : 0 < j
    · have dj : decide ((0 : Int) < (z.size : Int)) = true := decide_eq_true (by omega)
      have hb : ∀ h, (z[0]'h) = 0 := fun h => byte_at z 0 0 (by rw [hz, List.getElem?_replicate, if_pos h0]) h
      have hx : (z.extract 1 z.size).data.toList = List.replicate (j - 1) 0 := by
        rw [Wl.ext_ext, Sc.size_eq, List.take_length, hz, List.drop_replicate]
      have hxs : (z.extract 1 z.size).size = z.size - 1 := by rw [Sc.size_eq, hx, List.length_replicate]; omega
      have HFN : Hid (∃ (j' : Nat) (z' : ByteArray), j' ≤ m ∧ Value.string (z.extract 1 z.size) = .string z' ∧ z'.data.toList = List.replicate j' 0) := ⟨j - 1, _, by omega, rfl, hx⟩
      have hz1 : 1 ≤ z.size := by omega
      clear hx hz hs
      go_wp2
      go_roundw
      case rel =>
        obtain ⟨j', z', h1, h2, h3⟩ := HFN.out
        exact ⟨j', z', h1, h2, h3, trivial⟩
      case measure =>
        simp only [hxs]
        omega
    · have dj : ¬ 0 < z.size := by omega
      have HZ : Hid (z.size = 0) := by show z.size = 0; omega
      clear hz hs h0
      go_wp2
      go_ret
      exact ⟨⟨_, rfl, HZ.out⟩, rfl⟩
set_option maxHeartbeats 1000000 in
theorem trimB_head (y : ByteArray) (b : UInt8) (w : World) (hy : y.data.toList[0]? = some b) (hb : b ≠ 0) :
    Calls Tryz.prog 136 #[.string y, .int .u8 0] w fun e w' => e = .returned (.string y) ∧ w' = w := by
  have hs : 0 < y.size := by rw [Sc.size_eq]; exact (List.getElem?_eq_some_iff.1 hy).1
  have h0 : ∀ h, (y[0]'h) = b := fun h => byte_at y 0 b hy h
  have hbn : b.toNat ≠ 0 := fun e => hb (by rw [← UInt8.toNat_inj, e]; rfl)
  have hbb : ((b.toNat : Int) == 0) = false := by rw [beq_eq_false_iff_ne]; omega
  have dj : decide ((0 : Int) < (y.size : Int)) = true := decide_eq_true (by omega)
  go_enter Tryz.func136, Tryz.ntmps136
  go_wp2_with fail
  go_loopw [0] (fun s0 wr => s0 = .string y ∧ wr = w) (fun _ _ => 0)
  case atStart => exact ⟨rfl, rfl⟩
  case round =>
    obtain ⟨rfl, hwr⟩ := hrel
    subst hwr
    clear hb hbn hy
    go_wp2
    go_ret
    exact ⟨rfl, rfl⟩
set_option maxHeartbeats 1000000 in
set_option maxRecDepth 20000 in
theorem trim_zero (y : ByteArray) (m : Nat) (w : World) (hy : y.data.toList = List.replicate m 0) (h0 : 0 < m) :
    Calls Tryz.prog 124 #[.string y, .string ⟨#[0]⟩] w fun e w' => (∃ z : ByteArray, e = .returned (.string z) ∧ z.size = 0) ∧ w' = w := by
  have HT := trimB_zero y m w hy
  have hs : y.size = m := by rw [Sc.size_eq, hy, List.length_replicate]
  have he : y.toList.isEmpty = false := by rw [ByteArray.toList_eq, hy]; cases m with | zero => omega | succ m => rfl
  clear hy
  go_enter Tryz.func124, Tryz.ntmps124
  go_wp2_with fail
  refine HT.mono ?_
  rintro e w' ⟨⟨z, rfl, hz⟩, hw⟩
  rw [hw]
  go_wp2
  go_ret
  exact ⟨⟨_, rfl, hz⟩, rfl⟩
set_option maxHeartbeats 1000000 in
set_option maxRecDepth 20000 in
theorem trim_head (y : ByteArray) (b : UInt8) (w : World) (hy : y.data.toList[0]? = some b) (hb : b ≠ 0) :
    Calls Tryz.prog 124 #[.string y, .string ⟨#[0]⟩] w fun e w' => e = .returned (.string y) ∧ w' = w := by
  have HT := trimB_head y b w hy hb
  have he : y.toList.isEmpty = false := by
    rw [ByteArray.toList_eq]
    cases h : y.data.toList with
    | nil => rw [h] at hy; simp at hy
    | cons c l => rfl
  clear hy
  go_enter Tryz.func124, Tryz.ntmps124
  go_wp2_with fail
  refine HT.mono ?_
  rintro e w' ⟨rfl, hw⟩
  rw [hw]
  go_wp2
  go_ret
  exact ⟨rfl, rfl⟩
set_option maxHeartbeats 2000000 in
set_option maxRecDepth 20000 in
theorem readHead_zero (w : World) :
    Calls Tryz.prog 97 #[.string Sc.zero64] w fun r w' => r = .returned (.tuple #[.int .u64 0, .int .u64 0, .bool true]) ∧ w' = w := by
  have HT := trim_zero Sc.zero64 64 w zero64_list (by omega)
  generalize Sc.zero64 = y at *
  go_enter Tryz.func97, Tryz.ntmps97
  go_wp2_with fail
  refine HT.mono ?_
  rintro e w' ⟨⟨z, rfl, hz⟩, hw⟩
  rw [hw]
  have he : z.toList.isEmpty = true := by rw [ByteArray.toList_eq, List.isEmpty_iff, ← List.length_eq_zero_iff, ← Sc.size_eq]; exact hz
  clear hz hw
  go_wp2
  go_ret3
  exact ⟨rfl, rfl⟩
/- '[]byte(s)': a row of the call's own with its bytes -/
theorem bytes_of (w : World) (x : ByteArray) (hx : x.size ≤ 9223372036854775807) : ∃ cap w1, (convert 9 138 (.string x)).run Tryz.prog w = .ok (.slice (some ⟨w.heap.size, 0, none⟩) x.size cap) w1 ∧ x.size ≤ cap ∧ (∀ off k, off + k ≤ x.size → Bytes w1 (some ⟨w.heap.size, off, none⟩) k (((x.data.toList.drop off).take k).map UInt8.toNat)) ∧ Below w.heap.size w w1 ∧ w1.heap.size = w.heap.size + 1 := by
  have hs := Sc.size_eq x
  refine ⟨_, _, run_bytes_of_string (P := Tryz.prog) w 9 138 5 x Tryz.underlying9 Tryz.underlying138 Tryz.underlying5, grownCap_ge _ _ _ _, fun off k hk => ⟨by rw [List.length_map, List.length_take, List.length_drop]; omega, fun n hn => ?_, by omega, .inr ⟨w.heap.size, off, rfl, fun i hi => ?_⟩⟩, ((Below.refl _ w).drew.alloc (Nat.le_refl _) _), by simp⟩
  · obtain ⟨b, _, rfl⟩ := List.mem_map.1 hn
    exact b.toNat_lt
  · have hj : off + i < x.data.toList.length := by omega
    have hj2 : off + i < x.size := by omega
    show World.cell? _ ⟨w.drew.heap.size, off + i, none⟩ = _
    rw [cell_of_row _ _ _ _ _ _ (heap_alloc_new w.drew _)]
    unfold bytesRow
    rw [Array.getElem?_append_left (by rw [Array.size_map]; exact hj2), Array.getElem?_map, ← Array.getElem?_toList, List.getElem?_eq_getElem hj, List.getD_eq_getElem?_getD, List.getElem?_map, List.getElem?_take_of_lt hi, List.getElem?_drop, List.getElem?_eq_getElem hj]
    rfl
set_option maxHeartbeats 2000000 in
set_option maxRecDepth 20000 in
theorem readHead_any (e l : Nat) (w : World) (hT : Tab w) (he : e < 18446744073709551616) (hl : l < 4294967296) :
    Calls Tryz.prog 97 #[.string (Wl.head e l)] w fun r w' => r = .returned (.tuple #[.int .u64 (e : Int), .int .u64 (l : Int), .bool true]) ∧ Below w.heap.size w w' := by
  have hpos := hT.pos
  have HT := trim_head (Wl.head e l) 65 w (by rw [Wl.head_list]; rfl) (by decide)
  have hsz := Wl.head_size e l
  obtain ⟨cap, w1, hcv, hcap, hby, hB1, hsz1⟩ := bytes_of w (Wl.head e l) (by omega)
  have ml : Wl.magic.data.toList.length = 4 := rfl
  have e1 : ((Wl.head e l).data.toList.drop 4).take 8 = Wl.putL e 8 := by
    rw [Wl.head_list, List.drop_left' ml, List.take_left' (Wl.putL_length 8 e)]
  have e2 : ((Wl.head e l).data.toList.drop 12).take 4 = Wl.putL l 4 := by
    rw [Wl.head_list, ← List.append_assoc, List.drop_left' (by rw [List.length_append, Wl.putL_length, ml]), List.take_left' (Wl.putL_length 4 l)]
  have hb1 := hby 4 8 (by omega)
  have hb2 := hby 12 4 (by omega)
  rw [e1] at hb1
  rw [e2] at hb2
  have HN1 := number_any _ 8 (cap - 4) _ w1 hb1 (by omega)
  have HN2 := number_any _ 4 (cap - 12) _ w1 hb2 (by omega)
  rw [Wl.getL_putL 8 e (by omega)] at HN1
  rw [Wl.getL_putL 4 l (by omega)] at HN2
  have HHD : Hid (Calls Tryz.prog 126 #[.int .u64 (e : Int), .int .u64 (l : Int)] w1 fun r w' => r = .returned (.string (Wl.head e l)) ∧ Below w1.heap.size w1 w') := head_any e l w1 (hT.below hB1 hpos) he (by omega)
  have HB1 : Hid (Below w.heap.size w w1) := hB1
  have hne : (Wl.head e l).toList.isEmpty = false := by
    rw [ByteArray.toList_eq]
    cases h : (Wl.head e l).data.toList with
    | nil => have := congrArg List.length h; rw [← Sc.size_eq, hsz] at this; simp at this
    | cons c t => rfl
  clear hT hby hb1 hb2 e1 e2 ml hB1 hsz1
  rw [hsz] at hcv
  generalize Wl.head e l = hd at *
  have c1 : (12 : Int) ≤ (cap : Int) := by omega
  have c2 : (16 : Int) ≤ (cap : Int) := by omega
  go_enter Tryz.func97, Tryz.ntmps97
  go_wp2_with fail
  refine HT.mono ?_
  rintro r w' ⟨rfl, hw⟩
  rw [hw]
  clear hw w'
  go_wp2_with fail
  refine HN1.mono ?_
  rintro r w' ⟨rfl, hw⟩
  rw [hw]
  clear hw w'
  go_wp2_with fail
  refine HN2.mono ?_
  rintro r w' ⟨rfl, hw⟩
  rw [hw]
  clear hw w'
  go_wp2_with fail
  refine HHD.out.mono ?_
  rintro r w2 ⟨rfl, hB2⟩
  go_wp2
  go_ret3
  exact ⟨by simp, HB1.out.trans (hB2.mono HB1.out.size)⟩
end Go.Proofs.YtcfninpokngmlaaGreatDoor
/- Proved: laws for bytes and texts that are appended to bytes of the call's own, and what wal's appendFrame makes. -/
namespace Go.Proofs.YtcfninpokngmlaaGreatDoor
open Go.RowKit
theorem bc_append (a b : ByteArray) : bc (a ++ b) = bc a ++ bc b := by unfold bc; rw [Wl.app_list, List.map_append]
theorem info_u8 : Tryz.prog.info? 5 = some Tryz.t5 := by kernel_rfl
/- bytes of the call's own -/
abbrev OwnB (w : World) (N : Nat) (v : Value) (y : ByteArray) : Prop := w.ownsRow N 5 1 v y.size (bc y)
theorem opw_bytes {o : Oper} {a : Act} {W : World} {K : Act → World → Prop} {Q : Exit → Act → World → Prop} (sl x : Operand)
    (ho : o.op = .call { callee := .builtin .append, args := #[sl, x], argTypes := #[138, 138] }) (N : Nat) (v : Value) (y : ByteArray) (hs : a.eval sl = v) (hown : OwnB W N v y)
    (ad : Addr) (c : Nat) (z : ByteArray) (hx : a.eval x = .slice (some ad) z.size c) (hnews : ∀ j u, (bc z)[j]? = some u → W.cell? (ad.add j) = some u) (hb : y.size + z.size ≤ 1000000000) (hN : N ≤ W.heap.size)
    (h : ∀ v' w', OwnB w' N v' (y ++ z) → Below N W w' → K (a.put o.dst v') w') : Oper.wp Tryz.prog o a W K Q := by
  obtain ⟨v', w', hr, h2, h3, h4, h5⟩ := run_append_own_at (P := Tryz.prog) W N 138 o.type 5 Tryz.t5 (.int .u8 0) 1 1 Tryz.underlying138 info_u8 rfl rfl rfl rfl (by omega) v y.size (bc y) hown ad z.size c (bc z) (by rw [bc_length, Nat.mul_one]) hnews (bc_one z) (by unfold maxLen; omega) (by omega) hN
  unfold Oper.wp execOp
  simp only [ho, resolve, invoke, builtin, Sem.run_bind, Sem.run_pure, Result.andThen_ok, List.map_toArray, List.map_cons, List.map_nil, hs, hx, hr]
  refine h v' w' ?_ ((Below.refl _ _).grown h3 hN (fun k hk => (hown.lt k hk).1))
  show w'.ownsRow N 5 1 v' (y ++ z).size (bc (y ++ z))
  rw [ByteArray.size_append, bc_append]
  exact h2
theorem app_bytes {ops : Array Oper} {rest : List Oper} {o : Oper} {a : Act} {Q : Exit → Act → World → Prop} (hgd : o.guard = none) (sl x : Operand)
    (ho : o.op = .call { callee := .builtin .append, args := #[sl, x], argTypes := #[138, 138] }) (W : World) (N : Nat) (v : Value) (y : ByteArray) (hs : a.eval sl = v) (hown : OwnB W N v y)
    (ad : Addr) (c : Nat) (z : ByteArray) (hx : a.eval x = .slice (some ad) z.size c) (hnews : ∀ j u, (bc z)[j]? = some u → W.cell? (ad.add j) = some u) (hb : y.size + z.size ≤ 1000000000) (hN : N ≤ W.heap.size)
    (h : ∀ v' w', OwnB w' N v' (y ++ z) → Below N W w' → wpList Tryz.prog ops Q rest (a.put o.dst v') w') : wpList Tryz.prog ops Q (o :: rest) a W :=
  wpList_plain hgd fun _ hK => opw_bytes sl x ho N v y hs hown ad c z hx hnews hb hN (fun v' w' h1 h2 => hK _ _ (h v' w' h1 h2))
theorem opw_text {o : Oper} {a : Act} {W : World} {K : Act → World → Prop} {Q : Exit → Act → World → Prop} (sl x : Operand)
    (ho : o.op = .call { callee := .builtin .append, args := #[sl, x], argTypes := #[138, 9] }) (N : Nat) (v : Value) (y : ByteArray) (hs : a.eval sl = v) (hown : OwnB W N v y)
    (z : ByteArray) (hx : a.eval x = .string z) (hb : y.size + z.size ≤ 1000000000) (hN : N ≤ W.heap.size)
    (h : ∀ v' w', OwnB w' N v' (y ++ z) → Below N W w' → K (a.put o.dst v') w') : Oper.wp Tryz.prog o a W K Q := by
  obtain ⟨v', w', hr, h2, h3, h4⟩ := Lib.run_append_own_string (P := Tryz.prog) W N 138 9 o.type 5 Tryz.t5 Tryz.underlying138 Tryz.underlying9 info_u8 rfl rfl rfl v y.size (bc y) hown z (by unfold maxLen; omega) (by omega) hN
  unfold Oper.wp execOp
  simp only [ho, resolve, invoke, builtin, Sem.run_bind, Sem.run_pure, Result.andThen_ok, List.map_toArray, List.map_cons, List.map_nil, hs, hx, hr]
  refine h v' w' ?_ ((Below.refl _ _).grown h3 hN (fun k hk => (hown.lt k hk).1))
  show w'.ownsRow N 5 1 v' (y ++ z).size (bc (y ++ z))
  rw [ByteArray.size_append, bc_append]
  exact h2
theorem app_text {ops : Array Oper} {rest : List Oper} {o : Oper} {a : Act} {Q : Exit → Act → World → Prop} (hgd : o.guard = none) (sl x : Operand)
    (ho : o.op = .call { callee := .builtin .append, args := #[sl, x], argTypes := #[138, 9] }) (W : World) (N : Nat) (v : Value) (y : ByteArray) (hs : a.eval sl = v) (hown : OwnB W N v y)
    (z : ByteArray) (hx : a.eval x = .string z) (hb : y.size + z.size ≤ 1000000000) (hN : N ≤ W.heap.size)
    (h : ∀ v' w', OwnB w' N v' (y ++ z) → Below N W w' → wpList Tryz.prog ops Q rest (a.put o.dst v') w') : wpList Tryz.prog ops Q (o :: rest) a W :=
  wpList_plain hgd fun _ hK => opw_text sl x ho N v y hs hown z hx hb hN (fun v' w' h1 h2 => hK _ _ (h v' w' h1 h2))
theorem splice_mid {α : Type} (a b c d : List α) (h : d.length = b.length) : splice (a ++ (b ++ c)) a.length d = a ++ (d ++ c) := by
  unfold splice
  rw [List.take_left' rfl, List.drop_append, List.drop_eq_nil_of_le (by omega), List.nil_append, show a.length + d.length - a.length = d.length by omega, h, List.drop_left' rfl, List.append_assoc]
theorem own_keepB {w w' : World} {N B : Nat} {v : Value} {y : ByteArray} (h : OwnB w N v y) (hb : Below B w w') (hB : w.heap.size ≤ B) : OwnB w' N v y := own_keep h (fun k hk => hb.block k (by have := (h.lt k hk).2; omega))
def z4 : List Value := List.replicate 4 (.int .u8 0)
set_option maxHeartbeats 2000000 in
set_option maxRecDepth 20000 in
theorem appf_any (v : Value) (y r : ByteArray) (N : Nat) (w : World) (hown : OwnB w N v y) (hN0 : 0 < N) (hN : N ≤ w.heap.size) (hT : Tab w) (hr : r.size ≤ 65536) (hy : y.size ≤ 100000000) :
    Calls Tryz.prog 135 #[v, .string r] w fun e w' => ∃ v', e = .returned v' ∧ OwnB w' N v' (y ++ Wl.frame r) ∧ Below N w w' := by
  have HO : Hid (OwnB w N v y) := hown
  have HT : Hid (Tab w) := hT
  have HR0 : Hid ((w.alloc (.cells #[.int .u8 0, .int .u8 0, .int .u8 0, .int .u8 0, .int .u8 0, .int .u8 0, .int .u8 0, .int .u8 0] 200)).heap[w.heap.size]? = some (.cells ([] ++ (z4 ++ z4)).toArray 200 (0, 0))) := heap_alloc_new w _
  have HB0 : Hid (Below w.heap.size w (w.alloc (.cells #[.int .u8 0, .int .u8 0, .int .u8 0, .int .u8 0, .int .u8 0, .int .u8 0, .int .u8 0, .int .u8 0] 200))) := (Below.refl _ _).alloc (Nat.le_refl _) _
  clear hown hT
  go_enter Tryz.func135, Tryz.ntmps135
  go_wp2_with fail
  generalize World.alloc w _ = w0 at *
  have hw0 := HB0.out.size
  have HP1 := putn_any w.heap.size 0 4 4 r.size 200 _ w0 HR0.out (by simp [z4]) (by omega)
  refine HP1.mono ?_
  rintro e w' ⟨rfl, hw⟩
  rw [hw]
  clear hw w' HP1
  have HR1 : Hid ((w0.setCells w.heap.size 0 (nc r.size 4)).heap[w.heap.size]? = some (.cells (nc r.size 4 ++ (z4 ++ [])).toArray 200 (0, 0))) := by
    have := setCells_splice w.heap.size 200 (nc r.size 4) 0 _ w0 HR0.out (by rw [nc_length]; simp [z4])
    rw [show (0 : Nat) = ([] : List Value).length from rfl, splice_mid [] z4 z4 (nc r.size 4) (by rw [nc_length]; rfl)] at this
    rw [List.append_nil]
    exact this
  have HB1 : Hid (Below w.heap.size w (w0.setCells w.heap.size 0 (nc r.size 4))) := below_setCells (Nat.le_refl _) _ _ _ HB0.out
  generalize w0.setCells w.heap.size 0 (nc r.size 4) = w1 at *
  clear HR0 HB0 hw0 w0
  go_wp2_with fail
  obtain ⟨cap, w2, hcv, hcap, hby, hB2, _⟩ := bytes_of w1.drew r (by omega)
  have hbr := hby 0 r.size (by omega)
  rw [List.drop_zero, Sc.size_eq, List.take_length, ← Sc.size_eq] at hbr
  change Bytes w2 _ r.size (Wl.nb r) at hbr
  have HB2 : Hid (Below w.heap.size w w2) := HB1.out.drew.trans (hB2.mono HB1.out.size)
  have hlt1 : w.heap.size < w1.heap.size := (Array.getElem?_eq_some_iff.1 HR1.out).1
  have HR2 : Hid (w2.heap[w.heap.size]? = some (.cells (nc r.size 4 ++ (z4 ++ [])).toArray 200 (0, 0))) := (hB2.block _ hlt1).trans HR1.out
  have hbs : Bytes w2 (some ⟨w.heap.size, 0, none⟩) 4 (Wl.nb (Wl.put r.size 4)) := by
    refine ⟨by rw [Wl.nb, List.length_map, ← Sc.size_eq, Wl.put_size], Wl.nb_lt _, by omega, .inr ⟨w.heap.size, 0, rfl, fun i hi => ?_⟩⟩
    have hil : i < (Wl.put r.size 4).data.toList.length := by rw [← Sc.size_eq, Wl.put_size]; exact hi
    rw [cell_of_row w2 _ _ _ _ (0, 0) HR2.out, List.getElem?_toArray, Nat.zero_add, List.getElem?_append_left (by rw [nc_length]; exact hi), nc_bc, bc, List.getElem?_map, List.getElem?_eq_getElem hil, Wl.nb, List.getD_eq_getElem?_getD, List.getElem?_map, List.getElem?_eq_getElem hil]
    rfl
  have HSM : Hid (Calls Tryz.prog 127 #[.slice (some ⟨w.heap.size, 0, none⟩) 4 4, .slice (some ⟨w1.drew.heap.size, 0, none⟩) r.size cap] w2 fun e w' => e = .returned (.int .u32 (Crc.sum (Wl.nb (Wl.put r.size 4 ++ r)) : Nat)) ∧ w' = w2) := by
    rw [Wl.nb_append]
    exact sumof_any _ _ 4 4 r.size cap _ _ w2 hbs hbr (HT.out.below HB2.out (by omega))
  have hsl := sum_lt _ (Wl.nb_lt (Wl.put r.size 4 ++ r))
  have HP2 := putn_any w.heap.size 4 4 4 (Crc.sum (Wl.nb (Wl.put r.size 4 ++ r))) 200 _ w2 HR2.out (by rw [List.length_append, nc_length]; simp [z4]) (by omega)
  have HR3 : Hid ((w2.setCells w.heap.size 4 (nc (Crc.sum (Wl.nb (Wl.put r.size 4 ++ r))) 4)).heap[w.heap.size]? = some (.cells (bc (Wl.put r.size 4 ++ Wl.sum4 (Wl.put r.size 4 ++ r))).toArray 200 (0, 0))) := by
    have := setCells_splice w.heap.size 200 (nc (Crc.sum (Wl.nb (Wl.put r.size 4 ++ r))) 4) 4 _ w2 HR2.out (by rw [nc_length, List.length_append, nc_length]; simp [z4])
    have e := splice_mid (nc r.size 4) z4 [] (nc (Crc.sum (Wl.nb (Wl.put r.size 4 ++ r))) 4) (by rw [nc_length]; rfl)
    rw [nc_length] at e
    rw [e, List.append_nil, nc_bc, nc_bc, ← bc_append] at this
    rw [nc_bc]
    exact this
  have HB3 : Hid (Below w.heap.size w (w2.setCells w.heap.size 4 (nc (Crc.sum (Wl.nb (Wl.put r.size 4 ++ r))) 4))) := below_setCells (Nat.le_refl _) _ _ _ HB2.out
  have hs8 : (Wl.put r.size 4 ++ Wl.sum4 (Wl.put r.size 4 ++ r)).size = 8 := by rw [ByteArray.size_append, Wl.put_size, Wl.sum4_size]
  have HFR : Hid (y ++ (Wl.put r.size 4 ++ Wl.sum4 (Wl.put r.size 4 ++ r)) ++ r = y ++ Wl.frame r) := by
    unfold Wl.frame
    exact Wl.app_assoc _ _ _
  clear hbs hbr hby hB2 HR2 HR1
  generalize Wl.put r.size 4 ++ Wl.sum4 (Wl.put r.size 4 ++ r) = f8 at *
  generalize Crc.sum (Wl.nb (Wl.put r.size 4 ++ r)) = sm at *
  have HS : Hid ((fun _ : World => True) w1.drew) := trivial
  refine wp_region_held_drew (S := fun _ => True) (by kernel_rfl) HS.out (fun _ => ?_)
  refine heldTake 0 (some 13) (.slice (some ⟨w.heap.size, 4, none⟩) 4 4) rfl rfl (by kernel_rfl) (by kernel_rfl) (by kernel_rfl) (fun _ _ _ h => h) (Or.inl ⟨by rfl, fun w hS => ?_⟩) HS.out ?_
  · (go_simp)
  simp only [Act.put, List.setIfInBounds_toArray, List.set_cons_zero, List.set_cons_succ]
  refine heldTake 1 (some 14) (.slice (some ⟨w.heap.size, 0, none⟩) 4 4) rfl rfl (by kernel_rfl) (by kernel_rfl) (by kernel_rfl) (fun _ _ _ h => h) (Or.inl ⟨by rfl, fun w hS => ?_⟩) HS.out ?_
  · (go_simp)
  simp only [Act.put, List.setIfInBounds_toArray, List.set_cons_zero, List.set_cons_succ]
  refine heldTake 2 (some 15) (.string r) rfl rfl (by kernel_rfl) (by kernel_rfl) (by kernel_rfl) (fun _ _ _ h => h) (Or.inl ⟨by rfl, fun w hS => ?_⟩) HS.out ?_
  · (go_simp)
  simp only [Act.put, List.setIfInBounds_toArray, List.set_cons_zero, List.set_cons_succ]
  refine heldOne 3 (by kernel_rfl) rfl (by rfl) (fun KK hK => ?_)
  go_simp
  refine hK.out _ _ trivial ?_
  clear hK KK
  refine heldOne 4 (by kernel_rfl) rfl (by rfl) (fun KK hK => ?_)
  go_simp
  go_at_call 127
  refine HSM.out.mono ?_
  rintro e w' ⟨rfl, hw⟩
  rw [hw]
  clear hw w'
  refine hK.out _ _ trivial ?_
  clear hK KK
  refine heldTake 5 (some 18) (.int .u64 (sm : Int)) rfl rfl (by kernel_rfl) (by kernel_rfl) (by kernel_rfl) (fun _ _ _ h => h) (Or.inl ⟨by rfl, fun w hS => ?_⟩) HS.out ?_
  · (go_simp; rw [IntKind.wrap_u64]; omega)
  simp only [Act.put, List.setIfInBounds_toArray, List.set_cons_zero, List.set_cons_succ]
  refine heldOne 6 (by kernel_rfl) rfl (by rfl) (fun KK hK => ?_)
  go_simp
  go_at_call 140
  refine HP2.mono ?_
  rintro e w' ⟨rfl, hw⟩
  rw [hw]
  clear hw w'
  refine hK.out _ _ trivial ?_
  clear hK KK
  refine wpAnyH_done (by kernel_rfl) ?_ _
  generalize w2.setCells w.heap.size 4 (nc sm 4) = w3 at *
  have HO3 : Hid (OwnB w3 N v y) := own_keepB HO.out HB3.out (Nat.le_refl _)
  have hw3 := HB3.out.size
  clear HP2 HSM HB2 HB1 hcv
  go_wp2_with (first | (refine app_bytes rfl (.tmp 20) (.tmp 21) rfl _ N v y rfl HO3.out ⟨w.heap.size, 0, none⟩ 8 f8 (by rw [hs8]; rfl) (fun j u hj => by rw [Addr.add_mid]; exact range_all HR3.out j u hj) (by omega) (by omega) ?_; intro v4 w4 hO4 hB4; have HO4 := (show Hid (OwnB w4 N v4 (y ++ f8)) from hO4); have HB4 : Hid (Below N w w4) := (HB3.out.mono hN).trans hB4; have hw4 := HB4.out.size; clear hO4 hB4) | (refine app_text rfl (.tmp 23) (.tmp 24) rfl _ N v4 (y ++ f8) rfl HO4.out r rfl (by rw [ByteArray.size_append]; omega) (by omega) ?_; intro v5 w5 hO5 hB5; have HFN : Hid (OwnB w5 N v5 (y ++ Wl.frame r) ∧ Below N w w5) := ⟨(by rw [← HFR.out]; exact hO5), HB4.out.trans hB5⟩; clear hO5 hB5))
  go_ret
  exact ⟨_, rfl, HFN.out⟩
end Go.Proofs.YtcfninpokngmlaaGreatDoor
/- Proved: laws for texts that are appended to lists of texts. -/
namespace Go.Proofs.YtcfninpokngmlaaGreatDoor
open Go.RowKit
theorem info_str : Tryz.prog.info? 9 = some Tryz.t9 := by kernel_rfl
/- a list of texts that lies in a block of its own, from N on -/
abbrev OwnS (w : World) (N : Nat) (v : Value) (rs : List ByteArray) : Prop := w.ownsRow N 9 1 v rs.length (rs.map Value.string)
theorem grown_refl (W : World) (row : Option Nat) : W.grownBy W row := ⟨rfl, rfl, rfl, Nat.le_refl _, fun _ _ _ => rfl⟩
theorem run_many (W : World) (N : Nat) (ty : TypeId) (v u : Value) (rs gs : List ByteArray) (hown : OwnS W N v rs) (hsrc : OwnS W 0 u gs) (hb : rs.length + gs.length ≤ 10000000) (hN : N ≤ W.heap.size) :
    ∃ v' w', (Builtin.append_ #[114, 114] ty #[v, u]).run Tryz.prog W = .ok v' w' ∧ OwnS w' N v' (rs ++ gs) ∧ W.grownBy w' v.ownBlock ∧ (v'.ownBlock = v.ownBlock ∨ v'.ownBlock = some W.heap.size) := by
  rcases hsrc.2 with ⟨hu, hl⟩ | ⟨pg, pcap, cur, hu, _, hh, _, _, _, ht⟩
  · obtain rfl : gs = [] := List.length_eq_zero_iff.1 hl
    subst hu
    rw [List.append_nil]
    rcases hown.2 with ⟨hv, hl2⟩ | ⟨g', cap', cur', hv, hNg, hg, hc, hm, hcs, htk⟩
    · subst hv
      refine ⟨.slice none 0 0, W, ?_, hown, grown_refl _ _, .inl rfl⟩
      have hf := run_firstCells_none (P := Tryz.prog) W 1 0 0 0
      have hu := Tryz.underlying114
      have hs1 : Tryz.t9.size = 1 := rfl
      simp [Builtin.append_, run_underlying hu, sizeOf, typeInfo, info_str, hs1, Builtin.lenOf, hf]
    · have hr := run_append_room_src (P := Tryz.prog) W 114 114 ty 9 Tryz.t9 Tryz.underlying114 info_str g' 0 rs.length cap' (.slice none 0 0) 0 [] (Src.ofNil W Tryz.underlying114 0) hc (fun j hj => by cases hj) (fun j hj => by cases hj)
      have e0 : W.setCells g' (0 + rs.length * Tryz.t9.size) [] = W := rfl
      rw [e0, Nat.add_zero, ← hv] at hr
      exact ⟨_, _, hr, hown, grown_refl _ _, .inl rfl⟩
  · subst hu
    obtain ⟨v', w', hr, h2, h3, h4, h5⟩ := run_append_own_at (P := Tryz.prog) W N 114 ty 9 Tryz.t9 (.string ByteArray.empty) 1 16 Tryz.underlying114 info_str rfl rfl rfl rfl (by omega) v rs.length (rs.map Value.string) hown ⟨pg, 0, none⟩ gs.length pcap (gs.map Value.string) (by simp) (fun j z hj => by
      have hjl := (List.getElem?_eq_some_iff.1 hj).1
      rw [Addr.add_mid, Nat.zero_add, cell_of_row W pg j cur _ (0, 0) hh, ← Array.getElem?_toList]
      rw [← ht] at hj
      rwa [List.getElem?_take_of_lt (by simpa using hjl)] at hj) (fun z hz => by obtain ⟨r, _, rfl⟩ := List.mem_map.1 hz; rfl) (by unfold maxLen; omega) (by omega) hN
    rw [← List.map_append, ← List.length_append] at h2
    exact ⟨v', w', hr, h2, h3, h5⟩
theorem opw_many {o : Oper} {a : Act} {W : World} {K : Act → World → Prop} {Q : Exit → Act → World → Prop} (sl x : Operand) (d : Option Tmp) (hd : o.dst = d)
    (ho : o.op = .call { callee := .builtin .append, args := #[sl, x], argTypes := #[114, 114] }) (N : Nat) (v u : Value) (rs gs : List ByteArray) (hs : a.eval sl = v) (hown : OwnS W N v rs) (hx : a.eval x = u) (hsrc : OwnS W 0 u gs) (hb : rs.length + gs.length ≤ 10000000) (hN : N ≤ W.heap.size)
    (h : ∀ v' w', OwnS w' N v' (rs ++ gs) → W.grownBy w' v.ownBlock → (v'.ownBlock = v.ownBlock ∨ v'.ownBlock = some W.heap.size) → K (a.put d v') w') : Oper.wp Tryz.prog o a W K Q := by
  subst hd
  obtain ⟨v', w', hr, h2, h3, h4⟩ := run_many W N o.type v u rs gs hown hsrc hb hN
  unfold Oper.wp execOp
  simp only [ho, resolve, invoke, builtin, Sem.run_bind, Sem.run_pure, Result.andThen_ok, List.map_toArray, List.map_cons, List.map_nil, hs, hx, hr]
  exact h v' w' h2 h3 h4
theorem app_many {ops : Array Oper} {rest : List Oper} {o : Oper} {a : Act} {Q : Exit → Act → World → Prop} (hgd : o.guard = none) (sl x : Operand)
    (ho : o.op = .call { callee := .builtin .append, args := #[sl, x], argTypes := #[114, 114] }) (W : World) (N : Nat) (v u : Value) (rs gs : List ByteArray) (hs : a.eval sl = v) (hown : OwnS W N v rs) (hx : a.eval x = u) (hsrc : OwnS W 0 u gs) (hb : rs.length + gs.length ≤ 10000000) (hN : N ≤ W.heap.size)
    (h : ∀ v' w', OwnS w' N v' (rs ++ gs) → W.grownBy w' v.ownBlock → (v'.ownBlock = v.ownBlock ∨ v'.ownBlock = some W.heap.size) → wpList Tryz.prog ops Q rest (a.put o.dst v') w') : wpList Tryz.prog ops Q (o :: rest) a W :=
  wpList_plain hgd fun _ hK => opw_many sl x o.dst rfl ho N v u rs gs hs hown hx hsrc hb hN (fun v' w' h1 h2 h3 => hK _ _ (h v' w' h1 h2 h3))
/- one text that lies in a new block -/
theorem own_new (W : World) (t : ByteArray) : OwnS (W.alloc (.cells #[.string t] 9)) 0 (.slice (some ⟨W.heap.size, 0, none⟩) 1 1) [t] := ⟨rfl, .inr ⟨W.heap.size, 1, _, rfl, Nat.zero_le _, heap_alloc_new W _, Nat.le_refl _, by unfold maxLen; omega, rfl, rfl⟩⟩
theorem own_alloc {w : World} {N e k n : Nat} {v : Value} {vs : List Value} (h : w.ownsRow N e k v n vs) (o : Obj) : (w.alloc o).ownsRow N e k v n vs := own_keep h (fun k hk => Below.heap_alloc w o k (h.lt k hk).2)
theorem own_below {w w' : World} {N e k n : Nat} {v : Value} {vs : List Value} (h : w.ownsRow N e k v n vs) (hb : Below w.heap.size w w') : w'.ownsRow N e k v n vs := own_keep h (fun k hk => hb.block k (h.lt k hk).2)
theorem own_zero {w : World} {N n : Nat} {v : Value} {vs : List Value} {e : TypeId} {k : Nat} (h : w.ownsRow N e k v n vs) : w.ownsRow 0 e k v n vs := by
  obtain ⟨h0, h1⟩ := h
  refine ⟨h0, ?_⟩
  rcases h1 with h1 | ⟨g, cap', cur, hv, _, r⟩
  · exact .inl h1
  · exact .inr ⟨g, cap', cur, hv, Nat.zero_le _, r⟩
theorem below_grown {N : Nat} {W w' : World} {e k n : Nat} {v : Value} {vs : List Value} (h : W.grownBy w' v.ownBlock) (hown : W.ownsRow N e k v n vs) (hN : N ≤ W.heap.size) : Below N W w' := (Below.refl _ _).grown h hN (fun k hk => (hown.lt k hk).1)
/- a list of texts, cell by cell -/
theorem own_strs {w : World} {N n : Nat} {v : Value} {rs : List ByteArray} (h : w.ownsRow N 9 1 v n (rs.map Value.string)) : ∃ a cap, v = .slice a n cap ∧ n ≤ cap ∧ cap ≤ 9223372036854775807 ∧ (0 < n → ∃ g, a = some ⟨g, 0, none⟩ ∧ v.ownBlock = some g ∧ ∀ i r, rs[i]? = some r → w.cell? ⟨g, i, none⟩ = some (.string r)) := by
  have hl : rs.length = n := by have := h.1; simpa using this
  rcases h.2 with ⟨h1, h2⟩ | ⟨g, cap, cur, hv, _, hh, hc, hm, hs, ht⟩
  · exact ⟨none, 0, by rw [h2]; exact h1, by omega, by omega, fun h => by omega⟩
  · unfold maxLen at hm
    refine ⟨_, cap, hv, hc, by omega, fun _ => ⟨g, rfl, by rw [hv]; rfl, fun i r hr => ?_⟩⟩
    have hi := (List.getElem?_eq_some_iff.1 hr).1
    rw [cell_of_row w g i cur _ (0, 0) hh, ← Array.getElem?_toList]
    have e : (cur.toList.take (n * 1))[i]? = (rs.map Value.string)[i]? := by rw [ht]
    rw [List.getElem?_take_of_lt (by omega)] at e
    rw [e, List.getElem?_map, hr]
    rfl
end Go.Proofs.YtcfninpokngmlaaGreatDoor
