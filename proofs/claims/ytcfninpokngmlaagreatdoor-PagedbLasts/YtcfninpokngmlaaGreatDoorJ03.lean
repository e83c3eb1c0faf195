/- Proved: plain facts of a sync and a reset on a disk that may be armed (stage 8): what they leave behind, and what is found behind a loss of power. No program is named. -/
import Derived.Test.YtcfninpokngmlaaGreatDoorJ02
import Derived.Test.YtcfninpokngmlaaGreatDoorJ01
namespace Wl
open Sc (St)
/- j writes were done, none refused -/
def putsN (s : St) (base : Nat) (all : List UInt8) (k j : Nat) : St := { s with left := if 0 < s.left then s.left - j else s.left, dn := s.dn + j, pend := s.pend ++ parts base all k j }
theorem putsN_zero (s : St) (base : Nat) (all : List UInt8) (k : Nat) : putsN s base all k 0 = s := by
  unfold putsN parts
  obtain ⟨kept, pend, down, left, dn⟩ := s
  simp
/- so many writes are done ahead of the power's going -/
def Lets (s : St) (j : Nat) : Prop := s.left < 0 ∨ (j : Int) ≤ s.left
theorem putsN_left {s : St} {base : Nat} {all : List UInt8} {k j : Nat} (h : Lets s j) : (putsN s base all k j).left = 0 ↔ s.left = (j : Int) := by
  unfold putsN
  simp only
  rcases h with h | h
  · rw [if_neg (by omega)]
    omega
  · by_cases h0 : 0 < s.left
    · rw [if_pos h0]
      omega
    · rw [if_neg h0]
      omega
theorem put_puts {s : St} {base : Nat} {all : List UInt8} {k j : Nat} (h : Lets s j) (h0 : s.left ≠ (j : Int)) : Sc.put (putsN s base all k j) (base + 1 + (k + j)) (ob (sec all (k + j))) = putsN s base all k (j + 1) := by
  unfold Sc.put Sc.spent
  unfold putsN
  rw [parts_succ]
  simp only [List.append_assoc, St.mk.injEq, true_and]
  refine ⟨rfl, ?_, by omega⟩
  rcases h with h | h
  · rw [if_neg (by omega), if_neg (by omega), if_neg (by omega)]
  · by_cases hp : 0 < s.left
    · rw [if_pos hp, if_pos (by omega), if_pos hp]
      omega
    · rw [if_neg hp, if_neg hp, if_neg hp]
/- one write of a sync: it is done, or the power goes -/
theorem write_puts {s : St} {base : Nat} {all : List UInt8} {k j : Nat} (hd : s.down = false) (hb : base + 1 + (k + j) < s.kept.length) (h : Lets s j) :
    (s.left ≠ (j : Int) → Sc.writeS (putsN s base all k j) ((base + 1 + (k + j) : Nat) : Int) (ob (sec all (k + j))) = putsN s base all k (j + 1) ∧ Sc.writeE (putsN s base all k j) ((base + 1 + (k + j) : Nat) : Int) (ob (sec all (k + j))) = 0) ∧
    (s.left = (j : Int) → Sc.writeS (putsN s base all k j) ((base + 1 + (k + j) : Nat) : Int) (ob (sec all (k + j))) = Sc.fell (putsN s base all k j) ∧ Sc.writeE (putsN s base all k j) ((base + 1 + (k + j) : Nat) : Int) (ob (sec all (k + j))) = 10) := by
  have hdn : (putsN s base all k j).down = false := hd
  have hh : Sc.has (putsN s base all k j) ((base + 1 + (k + j) : Nat) : Int) = true := Sc.has_iff.2 ⟨by omega, by show _ < (s.kept.length : Int); omega⟩
  have hx : ¬ 64 < (ob (sec all (k + j))).size := by rw [ob_size]; have := sec_length all (k + j); omega
  have hl := putsN_left (base := base) (all := all) (k := k) h
  refine ⟨fun h0 => ?_, fun h0 => ?_⟩
  · have h1 : ¬ (putsN s base all k j).left = 0 := fun e => h0 (hl.1 e)
    unfold Sc.writeS Sc.writeE
    simp only [hdn, hh, hx, h1, if_false, Bool.false_eq_true, Bool.true_eq_false]
    rw [Int.toNat_natCast, put_puts h h0]
    exact ⟨rfl, trivial⟩
  · have h1 : (putsN s base all k j).left = 0 := hl.2 h0
    unfold Sc.writeS Sc.writeE
    simp only [hdn, hh, hx, h1, if_false, if_true, Bool.false_eq_true, Bool.true_eq_false]
    exact ⟨trivial, trivial⟩
/- how many sectors a sync writes -/
def many (b all : Nat) : Nat := (all + 63) / 64 - b / 64
/- behind the data: what is left of a sync (or a reset): the head, and a flush -/
def markS (s : St) (base e l : Nat) : St := if s.left = 0 then Sc.fell s else if (Sc.put s base (head20 e l)).left = 0 then Sc.fell (Sc.put s base (head20 e l)) else Sc.flushed (Sc.put s base (head20 e l))
def markE (s : St) (base e l : Nat) : Int := if s.left = 0 then 10 else if (Sc.put s base (head20 e l)).left = 0 then 10 else 0
/- a sync of a disk with power -/
def syncS (s : St) (base e : Nat) (b all : ByteArray) : St :=
  if 0 ≤ s.left ∧ s.left < (many b.size all.size : Int) then Sc.fell (putsN s base all.data.toList (b.size / 64) s.left.toNat)
  else if (putsN s base all.data.toList (b.size / 64) (many b.size all.size)).left = 0 then Sc.fell (putsN s base all.data.toList (b.size / 64) (many b.size all.size))
  else markS (Sc.flushed (putsN s base all.data.toList (b.size / 64) (many b.size all.size))) base e all.size
def syncE (s : St) (base e : Nat) (b all : ByteArray) : Int :=
  if 0 ≤ s.left ∧ s.left < (many b.size all.size : Int) then 10
  else if (putsN s base all.data.toList (b.size / 64) (many b.size all.size)).left = 0 then 10
  else markE (Sc.flushed (putsN s base all.data.toList (b.size / 64) (many b.size all.size))) base e all.size
/- what is found behind a loss of power, whatever is kept -/
def Found (s : St) (P : List ByteArray → Prop) : Prop := ∀ f, P (Sc.keepI f s.pend 0 s.kept)
theorem Found.mono {s : St} {P Q : List ByteArray → Prop} (h : Found s P) (k : ∀ ks, P ks → Q ks) : Found s Q := fun f => k _ (h f)
theorem mark_found {s : St} {base n e : Nat} {b : ByteArray} (hp : s.pend = []) (h : On s.kept base n e b) {e' : Nat} {b' : ByteArray} (hb : Holds s.kept base b'.data.toList) (hr : b'.size ≤ 64 * (n - 1)) (he : e' ≤ 4611686018427387904) :
    Found (markS s base e' b'.size) (fun ks => On ks base n e b ∨ On ks base n e' b') ∧ (markE s base e' b'.size = 0 → Found (markS s base e' b'.size) (fun ks => On ks base n e' b') ∧ (markS s base e' b'.size).pend = []) := by
  unfold markS markE
  by_cases h0 : s.left = 0
  · rw [if_pos h0, if_pos h0]
    refine ⟨fun f => .inl ?_, fun h => by cases h⟩
    show On (Sc.keepI f s.pend 0 s.kept) base n e b
    rw [hp]
    exact h
  · rw [if_neg h0, if_neg h0]
    have hpend : (Sc.put s base (head20 e' b'.size)).pend = [(base, Wl.head e' b'.size)] := by
      show s.pend ++ [(base, Sc.fill (head20 e' b'.size))] = _
      rw [hp]
      rfl
    by_cases h1 : (Sc.put s base (head20 e' b'.size)).left = 0
    · rw [if_pos h1, if_pos h1]
      refine ⟨fun f => ?_, fun h => by cases h⟩
      show On (Sc.keepI f (Sc.put s base (head20 e' b'.size)).pend 0 s.kept) base n e b ∨ On (Sc.keepI f (Sc.put s base (head20 e' b'.size)).pend 0 s.kept) base n e' b'
      rw [hpend]
      exact h.either hb hr he f
    · rw [if_neg h1, if_neg h1]
      have hk : (Sc.flushed (Sc.put s base (head20 e' b'.size))).kept = s.kept.set base (Wl.head e' b'.size) := by
        show Sc.keepI (fun _ => true) (Sc.put s base (head20 e' b'.size)).pend 0 s.kept = _
        rw [hpend]
        rfl
      have hf : Found (Sc.flushed (Sc.put s base (head20 e' b'.size))) (fun ks => On ks base n e' b') := fun f => by
        show On (Sc.keepI f [] 0 (Sc.flushed (Sc.put s base (head20 e' b'.size))).kept) base n e' b'
        rw [hk]
        exact h.headed hb hr he
      exact ⟨hf.mono (fun ks h => .inr h), fun _ => ⟨hf, rfl⟩⟩
theorem sync_found {s : St} {base n e : Nat} {b new : ByteArray} (hp : s.pend = []) (h : On s.kept base n e b) (hr : (b ++ new).size ≤ 64 * (n - 1)) :
    Found (syncS s base e b (b ++ new)) (fun ks => On ks base n e b ∨ On ks base n e (b ++ new)) ∧ (syncE s base e b (b ++ new) = 0 → Found (syncS s base e b (b ++ new)) (fun ks => On ks base n e (b ++ new)) ∧ (syncS s base e b (b ++ new)).pend = []) := by
  have hold : ∀ j f, On (Sc.keepI f (putsN s base (b ++ new).data.toList (b.size / 64) j).pend 0 s.kept) base n e b := fun j f => by
    show On (Sc.keepI f (s.pend ++ parts base (b ++ new).data.toList (b.size / 64) j) 0 s.kept) base n e b
    rw [hp, List.nil_append]
    exact h.data (new := new) (parts_part _ _ _ _) f 0
  unfold syncS syncE
  by_cases h1 : 0 ≤ s.left ∧ s.left < (many b.size (b ++ new).size : Int)
  · rw [if_pos h1, if_pos h1]
    exact ⟨fun f => .inl (hold _ f), fun h => by cases h⟩
  · rw [if_neg h1, if_neg h1]
    by_cases h2 : (putsN s base (b ++ new).data.toList (b.size / 64) (many b.size (b ++ new).size)).left = 0
    · rw [if_pos h2, if_pos h2]
      exact ⟨fun f => .inl (hold _ f), fun h => by cases h⟩
    · rw [if_neg h2, if_neg h2]
      have hsz : (b ++ new).size = b.size + new.size := ByteArray.size_append
      have hbl : b.data.toList.length = b.size := (Sc.size_eq b).symm
      have hkept : (Sc.flushed (putsN s base (b ++ new).data.toList (b.size / 64) (many b.size (b ++ new).size))).kept = Sc.keepI (fun _ => true) (parts base (b ++ new).data.toList (b.size / 64) (many b.size (b ++ new).size)) 0 s.kept := by
        show Sc.keepI (fun _ => true) (s.pend ++ parts base (b ++ new).data.toList (b.size / 64) (many b.size (b ++ new).size)) 0 s.kept = _
        rw [hp, List.nil_append]
      have hon := hold (many b.size (b ++ new).size) (fun _ => true)
      have hon' : On (Sc.flushed (putsN s base (b ++ new).data.toList (b.size / 64) (many b.size (b ++ new).size))).kept base n e b := hon
      have hm : (b ++ new).size ≤ 64 * (b.size / 64 + many b.size (b ++ new).size) := by unfold many; omega
      have hholds : Holds (Sc.flushed (putsN s base (b ++ new).data.toList (b.size / 64) (many b.size (b ++ new).size))).kept base (b ++ new).data.toList := by
        rw [hkept]
        have e1 := Holds.flushed (new := new.data.toList) (m := many b.size (b ++ new).size) h.holds (by rw [← app_list, ← Sc.size_eq, hbl]; exact hm) (by
          rw [hbl]
          have := h.fits
          have := h.two
          unfold many
          omega) 0
        rw [← app_list, hbl] at e1
        exact e1
      exact mark_found rfl hon' hholds hr h.most
end Wl
/- Proved: plain facts of the writes of a sync (stage 8), on any disk. No program is named. -/
namespace Wl
open Sc (St)
/- one write behind the other, up to the first that is refused: what the disk is then, and what the last write told -/
def puts (base : Nat) (all : List UInt8) : Nat → Nat → St → St × Int
  | 0, _, s => (s, 0)
  | m + 1, k, s => if Sc.writeE s ((base : Int) + 1 + (k : Int)) (ob (sec all k)) = 0 then puts base all m (k + 1) (Sc.writeS s ((base : Int) + 1 + (k : Int)) (ob (sec all k))) else (Sc.writeS s ((base : Int) + 1 + (k : Int)) (ob (sec all k)), Sc.writeE s ((base : Int) + 1 + (k : Int)) (ob (sec all k)))
theorem puts_yes {base : Nat} {all : List UInt8} {m k : Nat} {s : St} (h : Sc.writeE s ((base : Int) + 1 + (k : Int)) (ob (sec all k)) = 0) : puts base all (m + 1) k s = puts base all m (k + 1) (Sc.writeS s ((base : Int) + 1 + (k : Int)) (ob (sec all k))) := by rw [puts, if_pos h]
theorem puts_no {base : Nat} {all : List UInt8} {m k : Nat} {s : St} (h : Sc.writeE s ((base : Int) + 1 + (k : Int)) (ob (sec all k)) ≠ 0) : puts base all (m + 1) k s = (Sc.writeS s ((base : Int) + 1 + (k : Int)) (ob (sec all k)), Sc.writeE s ((base : Int) + 1 + (k : Int)) (ob (sec all k))) := by rw [puts, if_neg h]
/- the k-th sector of these bytes, as a part of them -/
theorem sec_ext (all : ByteArray) (k t : Nat) (h : t = min (64 * k + 64) all.size) : all.extract (64 * k) t = ob (sec all.data.toList k) := by
  apply ext_list
  rw [ext_ext, ob_list, List.drop_take]
  unfold sec
  have hs := Sc.size_eq all
  by_cases h1 : 64 * k + 64 ≤ all.size
  · rw [show t - 64 * k = 64 by omega]
  · rw [List.take_of_length_le (by rw [List.length_drop]; omega), List.take_of_length_le (by rw [List.length_drop]; omega)]
theorem frames_take (l : List ByteArray) (k : Nat) (r : ByteArray) (h : l[k]? = some r) : frames (l.take (k + 1)) = frames (l.take k) ++ frame r := by
  obtain ⟨h1, h2⟩ := List.getElem?_eq_some_iff.1 h
  rw [List.take_succ_eq_append_getElem h1, h2, frames_append]
  apply ext_list
  rw [app_list, app_list, frames, app_list]
  simp [frames, ob]
theorem app_assoc (a b c : ByteArray) : a ++ b ++ c = a ++ (b ++ c) := by
  apply ext_list
  rw [app_list, app_list, app_list, app_list, List.append_assoc]
theorem app_none (a : ByteArray) : a ++ frames [] = a := by
  apply ext_list
  rw [app_list]
  simp [frames, ob]
end Wl
/- Proved: plain facts of a log and its disk (stage 8): what Add, Sync and Reset make of them, and what is found behind a loss of power. No program is named. -/
namespace Wl
open Sc (St)
/- a log: its part of the disk, its epoch, its bytes and their records, what waits, whether it is lost -/
structure Lg where
  base : Nat
  n : Nat
  epoch : Nat
  bytes : ByteArray
  recs : List ByteArray
  wait : List ByteArray
  lost : Bool
structure Lg.Ok (l : Lg) : Prop where
  two : 2 ≤ l.n
  most : l.base + l.n ≤ 65536
  epoch : l.epoch ≤ 4611686018427387904
  is : Is l.bytes l.recs
  fit : Fit l.wait
  room : l.bytes.size + total l.wait ≤ 64 * (l.n - 1)
def room (l : Lg) : Int := 64 * ((l.n : Int) - 1) - (l.bytes.size : Int) - (total l.wait : Int)
def addE (l : Lg) (r : ByteArray) : Int := if l.lost = true then 10 else if 65536 < r.size then 3 else if room l - 8 < (r.size : Int) then 7 else 0
def addS (l : Lg) (r : ByteArray) : Lg := if addE l r = 0 then { l with wait := l.wait ++ [r] } else l
theorem total_append : ∀ (a b : List ByteArray), total (a ++ b) = total a + total b
  | [], b => by simp [total]
  | r :: a, b => by rw [List.cons_append, total, total, total_append a b]; omega
theorem total_take (l : List ByteArray) (k : Nat) (r : ByteArray) (h : l[k]? = some r) : total (l.take (k + 1)) = total (l.take k) + 8 + r.size := by
  obtain ⟨h1, h2⟩ := List.getElem?_eq_some_iff.1 h
  rw [List.take_succ_eq_append_getElem h1, h2, total_append, total, total]
  omega
theorem total_le (l : List ByteArray) (k : Nat) : total (l.take k) ≤ total l := by
  have := total_append (l.take k) (l.drop k)
  rw [List.take_append_drop] at this
  omega
theorem total_count : ∀ (l : List ByteArray), 8 * l.length ≤ total l
  | [] => by simp
  | r :: t => by rw [List.length_cons, total]; have := total_count t; omega
theorem addS_ok {l : Lg} (h : l.Ok) (r : ByteArray) : (addS l r).Ok := by
  unfold addS
  by_cases h0 : addE l r = 0
  · rw [if_pos h0]
    have hb := h.room
    have h2 := h.two
    unfold addE at h0
    by_cases hl : l.lost = true
    · rw [if_pos hl] at h0; omega
    · rw [if_neg hl] at h0
      by_cases hr : 65536 < r.size
      · rw [if_pos hr] at h0; omega
      · rw [if_neg hr] at h0
        by_cases hf : room l - 8 < (r.size : Int)
        · rw [if_pos hf] at h0; omega
        · unfold room at hf
          refine ⟨h.two, h.most, h.epoch, h.is, fun x hx => ?_, ?_⟩
          · rcases List.mem_append.1 hx with hx | hx
            · exact h.fit x hx
            · rw [List.mem_singleton.1 hx]; omega
          · show l.bytes.size + total (l.wait ++ [r]) ≤ 64 * (l.n - 1)
            rw [total_append, total, total]
            omega
  · rw [if_neg h0]
    exact h
theorem fill_fill {x : ByteArray} (h : x.size ≤ 64) : Sc.fill (Sc.fill x) = Sc.fill x := by
  apply ext_list
  rw [Sc.fill_list, Sc.fill_size h]
  simp
/- a head is written, and flushed, on any disk -/
def hdS (s : Sc.St) (base e l : Nat) : Sc.St := if Sc.writeE s (base : Int) (head e l) = 0 then Sc.flushS (Sc.writeS s (base : Int) (head e l)) else Sc.writeS s (base : Int) (head e l)
def hdE (s : Sc.St) (base e l : Nat) : Int := if Sc.writeE s (base : Int) (head e l) = 0 then Sc.flushE (Sc.writeS s (base : Int) (head e l)) else Sc.writeE s (base : Int) (head e l)
theorem hd_cases (s : Sc.St) (base e l : Nat) : (Sc.writeE s (base : Int) (head e l) = 0 → hdS s base e l = Sc.flushS (Sc.writeS s (base : Int) (head e l)) ∧ hdE s base e l = Sc.flushE (Sc.writeS s (base : Int) (head e l))) ∧ (Sc.writeE s (base : Int) (head e l) ≠ 0 → hdS s base e l = Sc.writeS s (base : Int) (head e l) ∧ hdE s base e l = Sc.writeE s (base : Int) (head e l)) := by
  unfold hdS hdE
  exact ⟨fun h => by rw [if_pos h, if_pos h]; exact ⟨rfl, rfl⟩, fun h => by rw [if_neg h, if_neg h]; exact ⟨rfl, rfl⟩⟩
def lose (l : Lg) (e : Int) : Lg := if e = 0 then l else { l with lost := true }
theorem lose_ok {l : Lg} (h : l.Ok) (e : Int) : (lose l e).Ok := by
  unfold lose
  split
  · exact h
  · exact ⟨h.two, h.most, h.epoch, h.is, h.fit, h.room⟩
theorem lose_zero (l : Lg) : lose l 0 = l := by unfold lose; rw [if_pos rfl]
def resetE (l : Lg) (s : Sc.St) : Int := if l.lost = true then 10 else if 0 < l.wait.length then 9 else if l.epoch = 4611686018427387904 then 7 else hdE s l.base (l.epoch + 1) 0
def resetL (l : Lg) (s : Sc.St) : Lg := if l.lost = true then l else if 0 < l.wait.length then l else if l.epoch = 4611686018427387904 then l else if hdE s l.base (l.epoch + 1) 0 = 0 then { l with epoch := l.epoch + 1, bytes := ob [], recs := [] } else lose l (hdE s l.base (l.epoch + 1) 0)
def resetS (l : Lg) (s : Sc.St) : Sc.St := if l.lost = true then s else if 0 < l.wait.length then s else if l.epoch = 4611686018427387904 then s else hdS s l.base (l.epoch + 1) 0
theorem is_nil : Is (ob []) [] := by
  first | exact ⟨rfl, fun _ h => by cases h⟩ | (unfold Is; simp [frames, Fit])
theorem resetL_ok {l : Lg} (h : l.Ok) (s : Sc.St) : (resetL l s).Ok := by
  unfold resetL
  by_cases h1 : l.lost = true
  · rw [if_pos h1]; exact h
  · rw [if_neg h1]
    by_cases h2 : 0 < l.wait.length
    · rw [if_pos h2]; exact h
    · rw [if_neg h2]
      by_cases h3 : l.epoch = 4611686018427387904
      · rw [if_pos h3]; exact h
      · rw [if_neg h3]
        by_cases h4 : hdE s l.base (l.epoch + 1) 0 = 0
        · rw [if_pos h4]
          have h5 := h.epoch
          have hr := h.room
          refine ⟨h.two, h.most, by show l.epoch + 1 ≤ _; omega, is_nil, h.fit, ?_⟩
          show (ob []).size + total l.wait ≤ 64 * (l.n - 1)
          rw [ob_size]
          simp
          omega
        · rw [if_neg h4]; exact lose_ok h _
def all (l : Lg) : ByteArray := l.bytes ++ frames l.wait
theorem all_size (l : Lg) : (all l).size = l.bytes.size + total l.wait := by unfold all; rw [ByteArray.size_append, frames_size]
def writes (l : Lg) (s : Sc.St) : Sc.St × Int := puts l.base (all l).data.toList (many l.bytes.size (all l).size) (l.bytes.size / 64) s
/- a sync of a log that is not lost and has some that wait -/
def syncT (l : Lg) (s : Sc.St) : Sc.St × Int :=
  if (writes l s).2 = 0 then (if Sc.flushE (writes l s).1 = 0 then (hdS (Sc.flushS (writes l s).1) l.base l.epoch (all l).size, hdE (Sc.flushS (writes l s).1) l.base l.epoch (all l).size) else (Sc.flushS (writes l s).1, Sc.flushE (writes l s).1)) else writes l s
def sycE (l : Lg) (s : Sc.St) : Int := if l.lost = true then 10 else if l.wait.length = 0 then 0 else (syncT l s).2
def sycS (l : Lg) (s : Sc.St) : Sc.St := if l.lost = true then s else if l.wait.length = 0 then s else (syncT l s).1
def sycL (l : Lg) (s : Sc.St) : Lg := if l.lost = true then l else if l.wait.length = 0 then l else if (syncT l s).2 = 0 then { l with bytes := all l, recs := l.recs ++ l.wait, wait := [] } else lose l (syncT l s).2
theorem many_num (b a k0 j : Nat) (hk : k0 = b / 64) (h : 64 * (k0 + j) < a) : j < many b a := by unfold many; omega
theorem many_most (b a k0 j : Nat) (hk : k0 = b / 64) (h : ¬ 64 * (k0 + j) < a) : many b a ≤ j := by unfold many; omega
theorem many_le (b a n : Nat) (h : a ≤ 64 * (n - 1)) (h2 : 2 ≤ n) : many b a + b / 64 ≤ n ∨ many b a = 0 := by unfold many; omega
theorem synced_ok {l : Lg} (h : l.Ok) : Lg.Ok { l with bytes := all l, recs := l.recs ++ l.wait, wait := [] } := by
  refine ⟨h.two, h.most, h.epoch, ⟨?_, ?_⟩, (by intro r hr; cases hr), ?_⟩
  · show all l = frames (l.recs ++ l.wait)
    unfold all
    rw [frames_append, ← h.is.1]
  · intro r hr
    rcases List.mem_append.1 hr with hr | hr
    · exact h.is.2 r hr
    · exact h.fit r hr
  · show (all l).size + total [] ≤ 64 * (l.n - 1)
    rw [all_size, total]
    exact h.room
theorem puts_power {s : St} {base : Nat} {all : List UInt8} {k : Nat} (hd : s.down = false) : ∀ (m j : Nat), base + (k + j + m) < s.kept.length → Lets s j → puts base all m (k + j) (putsN s base all k j) = if 0 ≤ s.left ∧ s.left < ((j + m : Nat) : Int) then (Sc.fell (putsN s base all k s.left.toNat), 10) else (putsN s base all k (j + m), 0)
  | 0, j, _, h => by
    rw [puts, if_neg (by unfold Lets at h; omega)]
    rfl
  | m + 1, j, hb, h => by
    have hw := write_puts (s := s) (base := base) (all := all) (k := k) (j := j) hd (by omega) h
    have hi : ((base + 1 + (k + j) : Nat) : Int) = (base : Int) + 1 + ((k + j : Nat) : Int) := by omega
    rw [hi] at hw
    by_cases h0 : s.left = (j : Int)
    · obtain ⟨e1, e2⟩ := hw.2 h0
      rw [puts_no (by rw [e2]; decide), e1, e2, if_pos (by omega), h0]
      rfl
    · obtain ⟨e1, e2⟩ := hw.1 h0
      rw [puts_yes e2, e1]
      have hl : Lets s (j + 1) := by unfold Lets at h ⊢; omega
      have ih := puts_power (base := base) (all := all) (k := k) hd m (j + 1) (by omega) hl
      rw [show k + j + 1 = k + (j + 1) by omega, ih, show j + 1 + m = j + (m + 1) by omega]
theorem put_head (s : St) (base e l : Nat) : Sc.put s base (head e l) = Sc.put s base (head20 e l) := by
  unfold Sc.put head
  rw [fill_fill (by have := head20_size e l; omega)]
theorem hd_mark {s : St} {base e l : Nat} (hd : s.down = false) (hb : base < s.kept.length) : hdS s base e l = markS s base e l ∧ hdE s base e l = markE s base e l := by
  have hh : Sc.has s (base : Int) = true := Sc.has_iff.2 ⟨by omega, by omega⟩
  have hx : ¬ 64 < (head e l).size := by unfold head; rw [Sc.fill_size (by have := head20_size e l; omega)]; omega
  have hd2 : (Sc.put s base (head20 e l)).down = false := hd
  unfold hdS hdE markS markE
  by_cases h0 : s.left = 0
  · have e1 : Sc.writeE s (base : Int) (head e l) = 10 := by unfold Sc.writeE; simp only [hd, hh, hx, h0, if_false, if_true, Bool.false_eq_true, Bool.true_eq_false]
    have e2 : Sc.writeS s (base : Int) (head e l) = Sc.fell s := by unfold Sc.writeS; simp only [hd, hh, hx, h0, if_false, if_true, Bool.false_eq_true, Bool.true_eq_false]
    have hz : ¬ (10 : Int) = 0 := by decide
    rw [e1, e2, if_neg hz, if_neg hz, if_pos h0, if_pos h0]
    exact ⟨rfl, rfl⟩
  · have e1 : Sc.writeE s (base : Int) (head e l) = 0 := by unfold Sc.writeE; simp only [hd, hh, hx, h0, if_false, Bool.false_eq_true, Bool.true_eq_false]
    have e2 : Sc.writeS s (base : Int) (head e l) = Sc.put s base (head20 e l) := by
      unfold Sc.writeS
      simp only [hd, hh, hx, h0, if_false, Bool.false_eq_true, Bool.true_eq_false]
      rw [Int.toNat_natCast, put_head]
    rw [e1, e2, if_pos rfl, if_pos rfl, if_neg h0, if_neg h0]
    unfold Sc.flushS Sc.flushE
    rw [hd2]
    simp only [Bool.false_eq_true, if_false]
    exact ⟨trivial, trivial⟩
/- a sync of a log with power is the sync of the mathematics -/
theorem syncT_power {l : Lg} {s : St} (hd : s.down = false) (h : l.Ok) (hf : l.base + l.n ≤ s.kept.length) : syncT l s = (syncS s l.base l.epoch l.bytes (all l), syncE s l.base l.epoch l.bytes (all l)) := by
  have hz := all_size l
  have hr := h.room
  have h2 := h.two
  have hm : l.bytes.size / 64 + many l.bytes.size (all l).size ≤ l.n - 1 := by unfold many; omega
  have hw : writes l s = if 0 ≤ s.left ∧ s.left < (many l.bytes.size (all l).size : Int) then (Sc.fell (putsN s l.base (all l).data.toList (l.bytes.size / 64) s.left.toNat), 10) else (putsN s l.base (all l).data.toList (l.bytes.size / 64) (many l.bytes.size (all l).size), 0) := by
    have e := puts_power (s := s) (base := l.base) (all := (all l).data.toList) (k := l.bytes.size / 64) hd (many l.bytes.size (all l).size) 0 (by omega) (by unfold Lets; omega)
    rw [putsN_zero, Nat.zero_add, Nat.add_zero] at e
    exact e
  unfold syncT syncS syncE
  rw [hw]
  generalize many l.bytes.size (all l).size = m at *
  by_cases h1 : 0 ≤ s.left ∧ s.left < (m : Int)
  · rw [if_pos h1, if_pos h1, if_pos h1]
    rfl
  · rw [if_neg h1, if_neg h1, if_neg h1]
    have hdn : (putsN s l.base (all l).data.toList (l.bytes.size / 64) m).down = false := hd
    have hkl : (putsN s l.base (all l).data.toList (l.bytes.size / 64) m).kept.length = s.kept.length := rfl
    generalize putsN s l.base (all l).data.toList (l.bytes.size / 64) m = s1 at *
    simp only [if_true]
    have hfl := (Sc.flushS_step s1).len
    by_cases h3 : s1.left = 0
    · have e1 : Sc.flushE s1 = 10 := by unfold Sc.flushE; rw [hdn]; simp [h3]
      have e2 : Sc.flushS s1 = Sc.fell s1 := by unfold Sc.flushS; rw [hdn]; simp [h3]
      rw [e1, e2, if_neg (by decide), if_pos h3, if_pos h3]
    · have e1 : Sc.flushE s1 = 0 := by unfold Sc.flushE; rw [hdn]; simp [h3]
      have e2 : Sc.flushS s1 = Sc.flushed s1 := by unfold Sc.flushS; rw [hdn]; simp [h3]
      rw [e2] at hfl
      obtain ⟨e3, e4⟩ := hd_mark (s := Sc.flushed s1) (base := l.base) (e := l.epoch) (l := (all l).size) hdn (by omega)
      rw [e1, e2, if_pos rfl, if_neg h3, if_neg h3, e3, e4]
end Wl
/- Proved: plain facts of a log on a disk that has power and is not armed (stage 8): what is read there, what a sync and a reset leave, and what of other parts. No program is named. -/
namespace Wl
open Sc (St)
/- what is read of a disk, sector by sector -/
def flat (s : St) : List ByteArray := Sc.keepI (fun _ => true) s.pend 0 s.kept
theorem flat_length (s : St) : (flat s).length = s.kept.length := Sc.keepI_length _ _ _ _
theorem keepI_append (f : Nat → Bool) (l2 : List (Nat × ByteArray)) : ∀ (l1 : List (Nat × ByteArray)) (n : Nat) (ks : List ByteArray), Sc.keepI f (l1 ++ l2) n ks = Sc.keepI f l2 (n + l1.length) (Sc.keepI f l1 n ks)
  | [], n, ks => rfl
  | p :: l1, n, ks => by
    rw [List.cons_append, Sc.keepI, Sc.keepI, keepI_append f l2 l1, List.length_cons, show n + 1 + l1.length = n + (l1.length + 1) by omega]
theorem now_flat {s : St} {i : Nat} (hi : i < s.kept.length) : Sc.now s i = (flat s).getD i Sc.zero64 := by
  unfold flat Sc.now
  have e := Sc.keepI_last i s.pend 0 s.kept hi
  rw [List.getD_eq_getElem?_getD (l := Sc.keepI _ _ _ _), e]
  rfl
theorem flat_nil {s : St} (h : s.pend = []) : flat s = s.kept := by unfold flat; rw [h]; rfl
/- a disk of N sectors that has power and is not armed -/
structure Up (N : Nat) (s : St) : Prop where
  down : s.down = false
  left : s.left = -1
  len : s.kept.length = N
theorem Up.flushed {N : Nat} {s : St} (h : Up N s) : Up N (Sc.flushed s) := by
  refine ⟨h.down, ?_, by simp only [Sc.flushed, Sc.keepI_length]; exact h.len⟩
  simp only [Sc.flushed, Sc.spent, h.left]
  decide
theorem Up.put {N : Nat} {s : St} (h : Up N s) (i : Nat) (x : ByteArray) : Up N (Sc.put s i x) := by
  refine ⟨h.down, ?_, h.len⟩
  simp only [Sc.put, Sc.spent, h.left]
  decide
theorem Up.puts {N : Nat} {s : St} (h : Up N s) (base : Nat) (all : List UInt8) (k j : Nat) : Up N (putsN s base all k j) := by
  refine ⟨h.down, ?_, h.len⟩
  simp only [putsN, h.left]
  rw [if_neg (by omega)]
theorem Up.mark {N : Nat} {s : St} (h : Up N s) (base e l : Nat) : markS s base e l = Sc.flushed (Sc.put s base (head20 e l)) ∧ markE s base e l = 0 := by
  have h0 : ¬ s.left = 0 := by have := h.left; omega
  have h1 : ¬ (Sc.put s base (head20 e l)).left = 0 := by have := (h.put base (head20 e l)).left; omega
  unfold markS markE
  rw [if_neg h0, if_neg h0, if_neg h1, if_neg h1]
  exact ⟨rfl, rfl⟩
/- the sectors outside a log's part are as they were -/
def Out (ks ks' : List ByteArray) (base n : Nat) : Prop := ∀ i, i < base ∨ base + n ≤ i → ks'.getD i Sc.zero64 = ks.getD i Sc.zero64
theorem mark_kept {s : St} (hp : s.pend = []) (base e l : Nat) : (Sc.flushed (Sc.put s base (head20 e l))).kept = s.kept.set base (head e l) := by
  show Sc.keepI (fun _ => true) (s.pend ++ [(base, Sc.fill (head20 e l))]) 0 s.kept = _
  rw [hp]
  rfl
/- what a call that writes leaves of a disk that has power -/
structure Left (N : Nat) (s s' : St) (base n e : Nat) (b : ByteArray) : Prop where
  up : Up N s'
  pend : s'.pend = []
  on : On s'.kept base n e b
  out : Out (flat s) s'.kept base n
  dn : s'.dn ≤ s.dn + n + 3
theorem sync_live {N : Nat} {l : Lg} {s : St} (hu : Up N s) (hok : l.Ok) (hf : l.base + l.n ≤ N) (hon : On (flat s) l.base l.n l.epoch l.bytes) : (syncT l s).2 = 0 ∧ Left N s (syncT l s).1 l.base l.n l.epoch (all l) := by
  have hz := all_size l
  have hr := hok.room
  have h2 := hok.two
  have hm : l.bytes.size / 64 + many l.bytes.size (all l).size ≤ l.n - 1 := by unfold many; omega
  rw [syncT_power hu.down hok (by rw [hu.len]; exact hf)]
  simp only
  have hL : ¬ (0 ≤ s.left ∧ s.left < (many l.bytes.size (all l).size : Int)) := by have := hu.left; omega
  unfold syncS syncE
  rw [if_neg hL, if_neg hL]
  have hP := hu.puts l.base (all l).data.toList (l.bytes.size / 64) (many l.bytes.size (all l).size)
  have hP0 : ¬ (putsN s l.base (all l).data.toList (l.bytes.size / 64) (many l.bytes.size (all l).size)).left = 0 := by have := hP.left; omega
  rw [if_neg hP0, if_neg hP0]
  have hF := hP.flushed
  obtain ⟨e1, e2⟩ := hF.mark l.base l.epoch (all l).size
  have hk1 : (Sc.flushed (putsN s l.base (all l).data.toList (l.bytes.size / 64) (many l.bytes.size (all l).size))).kept = Sc.keepI (fun _ => true) (parts l.base (all l).data.toList (l.bytes.size / 64) (many l.bytes.size (all l).size)) (0 + s.pend.length) (flat s) := by
    show Sc.keepI (fun _ => true) (s.pend ++ parts l.base (all l).data.toList (l.bytes.size / 64) (many l.bytes.size (all l).size)) 0 s.kept = _
    rw [keepI_append]
    rfl
  have hdn : (Sc.flushed (putsN s l.base (all l).data.toList (l.bytes.size / 64) (many l.bytes.size (all l).size))).dn = s.dn + many l.bytes.size (all l).size + 1 := rfl
  have hpe : (Sc.flushed (putsN s l.base (all l).data.toList (l.bytes.size / 64) (many l.bytes.size (all l).size))).pend = [] := rfl
  have hbl : l.bytes.data.toList.length = l.bytes.size := (Sc.size_eq l.bytes).symm
  have hal : (all l).data.toList = l.bytes.data.toList ++ (frames l.wait).data.toList := by unfold all; rw [app_list]
  have hall : (l.bytes.data.toList ++ (frames l.wait).data.toList).length = (all l).size := by rw [← hal, Sc.size_eq]
  have hon1 : On (Sc.flushed (putsN s l.base (all l).data.toList (l.bytes.size / 64) (many l.bytes.size (all l).size))).kept l.base l.n l.epoch l.bytes := by
    rw [hk1]
    exact hon.data (new := frames l.wait) (by have := parts_part l.base (all l).data.toList (l.bytes.size / 64) (many l.bytes.size (all l).size); exact this) _ _
  have hh1 : Holds (Sc.flushed (putsN s l.base (all l).data.toList (l.bytes.size / 64) (many l.bytes.size (all l).size))).kept l.base (all l).data.toList := by
    rw [hk1]
    have := Holds.flushed (new := (frames l.wait).data.toList) (m := many l.bytes.size (all l).size) hon.holds (by rw [hall, hbl]; unfold many; omega) (by rw [hbl, flat_length, hu.len]; omega) (0 + s.pend.length)
    rw [← hal, hbl] at this
    exact this
  have hout1 : Out (flat s) (Sc.flushed (putsN s l.base (all l).data.toList (l.bytes.size / 64) (many l.bytes.size (all l).size))).kept l.base l.n := by
    rw [hk1]
    intro i hi
    rw [List.getD_eq_getElem?_getD, Sc.keepI_apart _ i _ _ _ (fun p hp e => ?_), ← List.getD_eq_getElem?_getD]
    obtain ⟨t, ht, rfl⟩ := List.mem_map.1 hp
    have := List.mem_range.1 ht
    simp only at e
    omega
  rw [e1, e2]
  generalize Sc.flushed (putsN s l.base (all l).data.toList (l.bytes.size / 64) (many l.bytes.size (all l).size)) = s1 at *
  have hkk := mark_kept hpe l.base l.epoch (all l).size
  refine ⟨rfl, (hF.put _ _).flushed, rfl, ?_, ?_, ?_⟩
  · rw [hkk]
    exact hon1.headed hh1 (by omega) hok.epoch
  · rw [hkk]
    intro i hi
    rw [List.getD_eq_getElem?_getD, List.getElem?_set_ne (by omega), ← List.getD_eq_getElem?_getD]
    exact hout1 i hi
  · show s1.dn + 1 + 1 ≤ _
    rw [hdn]
    omega
theorem reset_live {N : Nat} {l : Lg} {s : St} (hu : Up N s) (hok : l.Ok) (hp : s.pend = []) (hf : l.base + l.n ≤ N) (hon : On s.kept l.base l.n l.epoch l.bytes) (he : l.epoch + 1 ≤ 4611686018427387904) : hdE s l.base (l.epoch + 1) 0 = 0 ∧ Left N s (hdS s l.base (l.epoch + 1) 0) l.base l.n (l.epoch + 1) (ob []) := by
  have h2 := hok.two
  obtain ⟨e1, e2⟩ := hd_mark (s := s) (base := l.base) (e := l.epoch + 1) (l := 0) hu.down (by rw [hu.len]; omega)
  obtain ⟨e3, e4⟩ := hu.mark l.base (l.epoch + 1) 0
  rw [e1, e2, e3, e4]
  have hkk := mark_kept hp l.base (l.epoch + 1) 0
  refine ⟨rfl, (hu.put _ _).flushed, rfl, ?_, ?_, ?_⟩
  · rw [hkk]
    exact hon.headed (b' := ob []) (Holds.nil _ _) (by rw [ob_size]; simp) he
  · rw [hkk]
    intro i hi
    rw [List.getD_eq_getElem?_getD, List.getElem?_set_ne (by omega), ← List.getD_eq_getElem?_getD, flat_nil hp]
  · show s.dn + 1 + 1 ≤ _
    omega
/- another log's part is as it was -/
theorem On.out {ks ks' : List ByteArray} {base n base' n' e : Nat} {b : ByteArray} (h : On ks base' n' e b) (hl : ks'.length = ks.length) (ho : Out ks ks' base n) (hd : base' + n' ≤ base ∨ base + n ≤ base') : On ks' base' n' e b := by
  have h2 := h.two
  have hroom := h.room
  have hbl : b.data.toList.length = b.size := (Sc.size_eq b).symm
  refine ⟨?_, fun i j hj hi => ?_, h.room, by rw [hl]; exact h.fits, h.two, h.most⟩
  · unfold HeadIs
    rw [ho base' (by omega)]
    exact h.head
  · have hin : base' + 1 + i < base' + n' := by omega
    rw [ho (base' + 1 + i) (by omega)]
    exact h.holds i j hj hi
/- what is read in the sector in which the length ends -/
theorem On.tail {s : St} {base n e : Nat} {b : ByteArray} (h : On (flat s) base n e b) {i j : Nat} (hj : j < 64) (hi : 64 * i + j < b.size) : (Sc.now s (base + 1 + i)).data.toList[j]? = b.data.toList[64 * i + j]? := by
  have h2 := h.two
  have hroom := h.room
  have hf := h.fits
  rw [flat_length] at hf
  rw [now_flat (by omega)]
  exact h.holds i j hj (by rw [← Sc.size_eq]; exact hi)
end Wl
/- Proved: plain facts of records of pages, and of pages at their places (stage 10). No program is named. -/
namespace Pd
open Wl
def pageOf (i : Nat) (x : Sheet) : ByteArray := Pg.page i x.kind x.body
theorem pageOf_size {i : Nat} {x : Sheet} (h : x.Fine) : (pageOf i x).size = 512 := Pg.page_size h.b
theorem pageOf_open {i : Nat} {x : Sheet} (h : x.Fine) (hi : i ≤ 2147483647) : Pg.openE (i : Int) (pageOf i x) = 0 ∧ Pg.openK (i : Int) (pageOf i x) = (x.kind : Int) ∧ Pg.openB (i : Int) (pageOf i x) = x.body := by
  have hb : Pg.bad (i : Int) (x.kind : Int) = false := Pg.bad_of ⟨by omega, by omega, by have := h.k0; omega, by have := h.k1; omega⟩
  have := Pg.open_same hb h.b
  simpa [pageOf] using this
theorem pageOf_seal {i : Nat} {x : Sheet} (h : x.Fine) (hi : i ≤ 2147483647) : Pg.sealS (i : Int) (x.kind : Int) x.body = pageOf i x := by
  have hb : Pg.bad (i : Int) (x.kind : Int) = false := Pg.bad_of ⟨by omega, by omega, by have := h.k0; omega, by have := h.k1; omega⟩
  unfold Pg.sealS
  rw [hb, if_neg (by simp), if_neg (by have := h.b; omega)]
  rfl
theorem pageOf_ne {i : Nat} {x : Sheet} (h : x.Fine) : pageOf i x ≠ Pg.blank := Pg.page_not_blank (by have := h.k1; omega) (by have := h.k0; omega)
/- the pages of a record, one behind the other -/
def entry (p : Nat × Sheet) : ByteArray := put p.1 4 ++ pageOf p.1 p.2
def entries : Mp → ByteArray
  | [] => none0
  | p :: m => entry p ++ entries m
def recText (n : Nat) (m : Mp) : ByteArray := put n 4 ++ entries m
def Fine (cnt : Nat) (m : Mp) : Prop := ∀ p ∈ m, p.1 < cnt ∧ p.2.Fine
theorem entry_size {p : Nat × Sheet} (h : p.2.Fine) : (entry p).size = 516 := by
  unfold entry
  rw [ByteArray.size_append, put_size, pageOf_size h]
theorem app_none (a : ByteArray) : a ++ none0 = a := ext_list (by rw [app_list]; simp [none0])
theorem none_app (a : ByteArray) : none0 ++ a = a := ext_list (by rw [app_list]; simp [none0])
theorem app_assoc (a b c : ByteArray) : a ++ b ++ c = a ++ (b ++ c) := ext_list (by simp only [app_list, List.append_assoc])
theorem entries_size {cnt : Nat} : ∀ {m : Mp}, Fine cnt m → (entries m).size = 516 * m.length
  | [], _ => rfl
  | p :: m, h => by
    unfold entries
    rw [ByteArray.size_append, entry_size (h p List.mem_cons_self).2, entries_size (fun q hq => h q (List.mem_cons_of_mem _ hq)), List.length_cons]
    omega
theorem entries_snoc (p : Nat × Sheet) : ∀ (m : Mp), entries (m ++ [p]) = entries m ++ entry p
  | [] => by unfold entries; rw [none_app]; unfold entries; exact app_none _
  | q :: m => by
    rw [List.cons_append]
    unfold entries
    rw [entries_snoc p m, app_assoc]
theorem recText_size {cnt n : Nat} {m : Mp} (h : Fine cnt m) : (recText n m).size = 4 + 516 * m.length := by
  unfold recText
  rw [ByteArray.size_append, put_size, entries_size h]
theorem ext_left {a b : ByteArray} {k : Nat} (h : a.size = k) : (a ++ b).extract 0 k = a := ext_list (by
  rw [ext_ext, app_list, List.drop_zero, List.take_append_of_le_length (by rw [← Sc.size_eq]; omega), List.take_of_length_le (by rw [← Sc.size_eq]; omega)])
theorem ext_right {a b : ByteArray} {k n : Nat} (h : a.size = k) (hn : n = (a ++ b).size) : (a ++ b).extract k n = b := ext_list (by
  have h2 : a.data.toList.length = k := by rw [← Sc.size_eq]; exact h
  rw [ext_ext, app_list, List.take_of_length_le (by rw [hn, Sc.size_eq, app_list]; exact Nat.le_refl _), ← h2, List.drop_left])
theorem ext_mid {a b c : ByteArray} {k n : Nat} (h : a.size = k) (hn : n = k + b.size) : (a ++ (b ++ c)).extract k n = b := ext_list (by
  have h2 : a.data.toList.length = k := by rw [← Sc.size_eq]; exact h
  have h3 : b.data.toList.length = b.size := (Sc.size_eq b).symm
  rw [ext_ext, app_list, app_list, hn, ← h2, List.take_length_add_append, List.drop_left, List.take_append_of_le_length (by omega), List.take_of_length_le (by omega)])
/- the number that a text begins with -/
def numb (s : ByteArray) : Nat := getL (s.data.toList.take 4)
theorem numb_put (a : Nat) (b : ByteArray) (h : a < 4294967296) : numb (put a 4 ++ b) = a := by
  unfold numb
  rw [app_list, put_list, List.take_append_of_le_length (by rw [putL_length]; omega), List.take_of_length_le (by rw [putL_length]; omega), getL_putL 4 a h]
theorem numb_put0 (a : Nat) (h : a < 4294967296) : numb (put a 4) = a := by
  have := numb_put a none0 h
  rwa [app_none] at this
/- what is read of a record -/
structure Read1 (s : ByteArray) (p : Nat × Sheet) (rest : ByteArray) : Prop where
  ne : 516 ≤ s.size
  id : numb s = p.1
  page : s.extract 4 516 = pageOf p.1 p.2
  rest : s.extract 516 s.size = rest
theorem read_entry {cnt : Nat} {p : Nat × Sheet} {m : Mp} (h : Fine cnt (p :: m)) (hc : cnt ≤ 1000) : Read1 (entries (p :: m)) p (entries m) := by
  have hp := h p List.mem_cons_self
  have he := entry_size hp.2
  have hs : (entries (p :: m)).size = 516 + (entries m).size := by
    show (entry p ++ entries m).size = _
    rw [ByteArray.size_append, he]
  refine ⟨by omega, ?_, ?_, ?_⟩
  · show numb (entry p ++ entries m) = _
    unfold entry
    rw [app_assoc, numb_put _ _ (by omega)]
  · show (entry p ++ entries m).extract 4 516 = _
    unfold entry
    rw [app_assoc]
    exact ext_mid (put_size _ _) (by rw [pageOf_size hp.2])
  · show (entry p ++ entries m).extract 516 _ = _
    exact ext_right he rfl
/- the state that a sheet tells -/
theorem sheet_numb (t : Stt) : ∀ (i : Nat), i < 7 → (t.text.extract (4 + 4 * i) 32).data.toList.take 4 = putL ([t.high, t.free, t.last, t.r0, t.r1, t.r2, t.r3].getD i 0) 4 := by
  have hl : t.text.data.toList = [65, 81, 68, 66] ++ putL t.high 4 ++ putL t.free 4 ++ putL t.last 4 ++ putL t.r0 4 ++ putL t.r1 4 ++ putL t.r2 4 ++ putL t.r3 4 := by
    unfold Stt.text
    simp only [app_list, put_list]
    rfl
  intro i hi
  rw [ext_ext, hl]
  have e : ∀ n, putL n 4 = [UInt8.ofNat (n % 256), UInt8.ofNat (n / 256 % 256), UInt8.ofNat (n / 256 / 256 % 256), UInt8.ofNat (n / 256 / 256 / 256 % 256)] := fun n => by
    simp [putL]
  simp only [e]
  rcases i with _ | _ | _ | _ | _ | _ | _ | i
  · rfl
  · rfl
  · rfl
  · rfl
  · rfl
  · rfl
  · rfl
  · omega
/- what stands at a page's place -/
def plc (ks : List ByteArray) (n i : Nat) : ByteArray := Pg.joined ((List.range 8).map fun j => ks.getD (n + 8 * i + j) Sc.zero64)
theorem plc_same {ks ks' : List ByteArray} {n i : Nat} (h : ∀ j, j < 8 → ks'.getD (n + 8 * i + j) Sc.zero64 = ks.getD (n + 8 * i + j) Sc.zero64) : plc ks' n i = plc ks n i := by
  unfold plc
  refine congrArg _ (List.map_congr_left fun j hj => h j (List.mem_range.1 hj))
/- the writes of a page -/
def secAt (x : ByteArray) (j : Nat) : ByteArray := (Pg.cut x 64 []).getD j Sc.zero64
def wrOf (n i : Nat) (x : ByteArray) : List (Nat × ByteArray) := (List.range 8).map fun j => (n + 8 * i + j, secAt x j)
def wrAll (n : Nat) (m : Mp) : List (Nat × ByteArray) := m.flatMap fun p => wrOf n p.1 (pageOf p.1 p.2)
theorem secs_len : ∀ (k : Nat) (s : ByteArray) (i : Nat), s.size = i + 64 * k → (Pg.secs s i).length = k ∧ ∀ x ∈ Pg.secs s i, x.size = 64
  | 0, s, i, h => by
    rw [Pg.secs_end (by omega)]
    exact ⟨rfl, fun _ h => nomatch h⟩
  | k + 1, s, i, h => by
    rw [Pg.secs_next (by omega), Nat.min_eq_left (by omega)]
    obtain ⟨h1, h2⟩ := secs_len k s (i + 64) (by omega)
    refine ⟨by rw [List.length_cons, h1], fun x hx => ?_⟩
    rcases List.mem_cons.1 hx with rfl | hx
    · rw [Pg.ext_size s i (i + 64) (by omega)]
      omega
    · exact h2 x hx
theorem cut_secs (s : ByteArray) : Pg.cut s 64 [] = Pg.secs s 0 := by
  unfold Pg.secs
  have : s.extract 0 s.size = s := ext_list (by rw [ext_ext, List.drop_zero, List.take_of_length_le (by rw [← Sc.size_eq]; exact Nat.le_refl _)])
  rw [this]
theorem cut_len {x : ByteArray} (h : x.size = 512) : (Pg.cut x 64 []).length = 8 ∧ ∀ y ∈ Pg.cut x 64 [], y.size = 64 := by
  rw [cut_secs]
  exact secs_len 8 x 0 (by omega)
theorem secAt_size {x : ByteArray} (h : x.size = 512) (j : Nat) : (secAt x j).size = 64 := Sc.getD_size (cut_len h).2 j
theorem range_getD {α : Type} (l : List α) (d : α) : (List.range l.length).map (fun j => l.getD j d) = l := by
  refine List.ext_getElem (by simp) fun i h1 h2 => ?_
  rw [List.getElem_map, List.getElem_range, List.getD_eq_getElem?_getD, List.getElem?_eq_getElem h2]
  rfl
theorem secAt_all {x : ByteArray} (h : x.size = 512) : Pg.joined ((List.range 8).map (secAt x)) = x := by
  have := range_getD (Pg.cut x 64 []) Sc.zero64
  rw [(cut_len h).1] at this
  show Pg.joined ((List.range 8).map fun j => (Pg.cut x 64 []).getD j Sc.zero64) = x
  rw [this]
  exact Pg.sectors_joined x
theorem fill_64 {x : ByteArray} (h : x.size = 64) : Sc.fill x = x := ext_list (by rw [Sc.fill_list, h]; simp)
theorem wr_mem {n : Nat} {m : Mp} {q : Nat × ByteArray} (h : q ∈ wrAll n m) : ∃ p ∈ m, ∃ j, j < 8 ∧ q = (n + 8 * p.1 + j, secAt (pageOf p.1 p.2) j) := by
  obtain ⟨p, hp, hq⟩ := List.mem_flatMap.1 h
  obtain ⟨j, hj, rfl⟩ := List.mem_map.1 hq
  exact ⟨p, hp, j, List.mem_range.1 hj, rfl⟩
theorem wr_there {n : Nat} {m : Mp} {p : Nat × Sheet} (hp : p ∈ m) {j : Nat} (hj : j < 8) : (n + 8 * p.1 + j, secAt (pageOf p.1 p.2) j) ∈ wrAll n m :=
  List.mem_flatMap.2 ⟨p, hp, List.mem_map.2 ⟨j, List.mem_range.2 hj, rfl⟩⟩
/- what is kept of these writes leaves all other places, and the log -/
theorem keep_other {n : Nat} {m : Mp} {l : List (Nat × ByteArray)} (hl : ∀ q ∈ l, q ∈ wrAll n m) (f : Nat → Bool) (k : Nat) (ks : List ByteArray) {x : Nat} (hx : ∀ p ∈ m, x < n + 8 * p.1 ∨ n + 8 * p.1 + 8 ≤ x) : (Sc.keepI f l k ks).getD x Sc.zero64 = ks.getD x Sc.zero64 := by
  rw [List.getD_eq_getElem?_getD, Sc.keepI_apart f x l k ks (fun q hq e => by
    obtain ⟨p, hp, j, hj, rfl⟩ := wr_mem (hl q hq)
    have := hx p hp
    simp only at e
    omega), ← List.getD_eq_getElem?_getD]
theorem keep_log {n : Nat} {m : Mp} {l : List (Nat × ByteArray)} (hl : ∀ q ∈ l, q ∈ wrAll n m) (f : Nat → Bool) (k : Nat) (ks : List ByteArray) {x : Nat} (hx : x < n) : (Sc.keepI f l k ks).getD x Sc.zero64 = ks.getD x Sc.zero64 :=
  keep_other hl f k ks (fun p _ => .inl (by omega))
theorem keep_plc {n : Nat} {m : Mp} {l : List (Nat × ByteArray)} (hl : ∀ q ∈ l, q ∈ wrAll n m) (f : Nat → Bool) (k : Nat) (ks : List ByteArray) {i : Nat} (hi : get m i = none) (hu : Up m) : plc (Sc.keepI f l k ks) n i = plc ks n i :=
  plc_same fun j hj => keep_other hl f k ks (fun p hp => by
    have : p.1 ≠ i := fun e => by
      have h1 := mem_get hu hp
      rw [e, hi] at h1
      cases h1
    omega)
/- all of them kept: the pages are at their places -/
theorem kept_plc {n : Nat} {m : Mp} (hu : Up m) (ks : List ByteArray) {p : Nat × Sheet} (hp : p ∈ m) (hf : p.2.Fine) (hl : n + 8 * p.1 + 8 ≤ ks.length) (k : Nat) : plc (Sc.keepI (fun _ => true) (wrAll n m) k ks) n p.1 = pageOf p.1 p.2 := by
  have h512 := pageOf_size (i := p.1) hf
  unfold plc
  rw [← secAt_all h512]
  refine congrArg _ (List.map_congr_left fun j hj => ?_)
  have hj8 := List.mem_range.1 hj
  rw [List.getD_eq_getElem?_getD, Sc.keepI_last _ _ _ _ (by omega)]
  obtain ⟨q, hq, h1, h2⟩ := last_mem (n + 8 * p.1 + j) (wrAll n m) (ks.getD (n + 8 * p.1 + j) Sc.zero64) ⟨_, wr_there hp hj8, rfl⟩
  obtain ⟨p', hp', j', hj', rfl⟩ := wr_mem hq
  simp only at h1
  have e1 : p'.1 = p.1 := by omega
  have e2 : j' = j := by omega
  have h3 := mem_get hu hp'
  rw [e1, mem_get hu hp] at h3
  have e3 : p'.2 = p.2 := (Option.some.inj h3).symm
  rw [h2]
  show secAt (pageOf p'.1 p'.2) j' = _
  rw [e1, e2, e3]
/- the log's part is as it was -/
theorem On.low {ks ks' : List ByteArray} {n e : Nat} {b : ByteArray} (h : On ks 0 n e b) (hl : ks'.length = ks.length) (ho : ∀ x, x < n → ks'.getD x Sc.zero64 = ks.getD x Sc.zero64) : On ks' 0 n e b := by
  have h2 := h.two
  have hr := h.room
  refine ⟨?_, fun i j hj hi => ?_, h.room, by rw [hl]; exact h.fits, h.two, h.most⟩
  · unfold HeadIs
    rw [ho 0 (by omega)]
    exact h.head
  · rw [ho (0 + 1 + i) (by rw [← Sc.size_eq] at hi; omega)]
    exact h.holds i j hj hi
end Pd
