/- Proved: plain facts of a log and its disk (stage 8): what Add, Sync and Reset make of them, and what is found behind a loss of power. No program is named. -/
import Derived.Test.YtcfninpokngmlaaGreatDoorMathP
namespace Wl
open Sc (St)
/- a log: its part of the disk, its epoch, its bytes and their records, what waits, whether it is lost -/
structure Lg where
  base : Nat
  n : Nat
  epoch : Nat
  bytes : ByteArray
  recs : List ByteArray
  wait : List ByteArray
  lost : Bool
structure Lg.Ok (l : Lg) : Prop where
  two : 2 ≤ l.n
  most : l.base + l.n ≤ 65536
  epoch : l.epoch ≤ 4611686018427387904
  is : Is l.bytes l.recs
  fit : Fit l.wait
  room : l.bytes.size + total l.wait ≤ 64 * (l.n - 1)
def room (l : Lg) : Int := 64 * ((l.n : Int) - 1) - (l.bytes.size : Int) - (total l.wait : Int)
def addE (l : Lg) (r : ByteArray) : Int := if l.lost = true then 10 else if 65536 < r.size then 3 else if room l - 8 < (r.size : Int) then 7 else 0
def addS (l : Lg) (r : ByteArray) : Lg := if addE l r = 0 then { l with wait := l.wait ++ [r] } else l
theorem total_append : ∀ (a b : List ByteArray), total (a ++ b) = total a + total b
  | [], b => by simp [total]
  | r :: a, b => by rw [List.cons_append, total, total, total_append a b]; omega
theorem total_take (l : List ByteArray) (k : Nat) (r : ByteArray) (h : l[k]? = some r) : total (l.take (k + 1)) = total (l.take k) + 8 + r.size := by
  obtain ⟨h1, h2⟩ := List.getElem?_eq_some_iff.1 h
  rw [List.take_succ_eq_append_getElem h1, h2, total_append, total, total]
  omega
theorem total_le (l : List ByteArray) (k : Nat) : total (l.take k) ≤ total l := by
  have := total_append (l.take k) (l.drop k)
  rw [List.take_append_drop] at this
  omega
theorem total_count : ∀ (l : List ByteArray), 8 * l.length ≤ total l
  | [] => by simp
  | r :: t => by rw [List.length_cons, total]; have := total_count t; omega
theorem addS_ok {l : Lg} (h : l.Ok) (r : ByteArray) : (addS l r).Ok := by
  unfold addS
  by_cases h0 : addE l r = 0
  · rw [if_pos h0]
    have hb := h.room
    have h2 := h.two
    unfold addE at h0
    by_cases hl : l.lost = true
    · rw [if_pos hl] at h0; omega
    · rw [if_neg hl] at h0
      by_cases hr : 65536 < r.size
      · rw [if_pos hr] at h0; omega
      · rw [if_neg hr] at h0
        by_cases hf : room l - 8 < (r.size : Int)
        · rw [if_pos hf] at h0; omega
        · unfold room at hf
          refine ⟨h.two, h.most, h.epoch, h.is, fun x hx => ?_, ?_⟩
          · rcases List.mem_append.1 hx with hx | hx
            · exact h.fit x hx
            · rw [List.mem_singleton.1 hx]; omega
          · show l.bytes.size + total (l.wait ++ [r]) ≤ 64 * (l.n - 1)
            rw [total_append, total, total]
            omega
  · rw [if_neg h0]
    exact h
theorem fill_fill {x : ByteArray} (h : x.size ≤ 64) : Sc.fill (Sc.fill x) = Sc.fill x := by
  apply ext_list
  rw [Sc.fill_list, Sc.fill_size h]
  simp
/- a head is written, and flushed, on any disk -/
def hdS (s : Sc.St) (base e l : Nat) : Sc.St := if Sc.writeE s (base : Int) (head e l) = 0 then Sc.flushS (Sc.writeS s (base : Int) (head e l)) else Sc.writeS s (base : Int) (head e l)
def hdE (s : Sc.St) (base e l : Nat) : Int := if Sc.writeE s (base : Int) (head e l) = 0 then Sc.flushE (Sc.writeS s (base : Int) (head e l)) else Sc.writeE s (base : Int) (head e l)
theorem hd_cases (s : Sc.St) (base e l : Nat) : (Sc.writeE s (base : Int) (head e l) = 0 → hdS s base e l = Sc.flushS (Sc.writeS s (base : Int) (head e l)) ∧ hdE s base e l = Sc.flushE (Sc.writeS s (base : Int) (head e l))) ∧ (Sc.writeE s (base : Int) (head e l) ≠ 0 → hdS s base e l = Sc.writeS s (base : Int) (head e l) ∧ hdE s base e l = Sc.writeE s (base : Int) (head e l)) := by
  unfold hdS hdE
  exact ⟨fun h => by rw [if_pos h, if_pos h]; exact ⟨rfl, rfl⟩, fun h => by rw [if_neg h, if_neg h]; exact ⟨rfl, rfl⟩⟩
def lose (l : Lg) (e : Int) : Lg := if e = 0 then l else { l with lost := true }
theorem lose_ok {l : Lg} (h : l.Ok) (e : Int) : (lose l e).Ok := by
  unfold lose
  split
  · exact h
  · exact ⟨h.two, h.most, h.epoch, h.is, h.fit, h.room⟩
theorem lose_zero (l : Lg) : lose l 0 = l := by unfold lose; rw [if_pos rfl]
def resetE (l : Lg) (s : Sc.St) : Int := if l.lost = true then 10 else if 0 < l.wait.length then 9 else if l.epoch = 4611686018427387904 then 7 else hdE s l.base (l.epoch + 1) 0
def resetL (l : Lg) (s : Sc.St) : Lg := if l.lost = true then l else if 0 < l.wait.length then l else if l.epoch = 4611686018427387904 then l else if hdE s l.base (l.epoch + 1) 0 = 0 then { l with epoch := l.epoch + 1, bytes := ob [], recs := [] } else lose l (hdE s l.base (l.epoch + 1) 0)
def resetS (l : Lg) (s : Sc.St) : Sc.St := if l.lost = true then s else if 0 < l.wait.length then s else if l.epoch = 4611686018427387904 then s else hdS s l.base (l.epoch + 1) 0
theorem is_nil : Is (ob []) [] := by
  first | exact ⟨rfl, fun _ h => by cases h⟩ | (unfold Is; simp [frames, Fit])
theorem resetL_ok {l : Lg} (h : l.Ok) (s : Sc.St) : (resetL l s).Ok := by
  unfold resetL
  by_cases h1 : l.lost = true
  · rw [if_pos h1]; exact h
  · rw [if_neg h1]
    by_cases h2 : 0 < l.wait.length
    · rw [if_pos h2]; exact h
    · rw [if_neg h2]
      by_cases h3 : l.epoch = 4611686018427387904
      · rw [if_pos h3]; exact h
      · rw [if_neg h3]
        by_cases h4 : hdE s l.base (l.epoch + 1) 0 = 0
        · rw [if_pos h4]
          have h5 := h.epoch
          have hr := h.room
          refine ⟨h.two, h.most, by show l.epoch + 1 ≤ _; omega, is_nil, h.fit, ?_⟩
          show (ob []).size + total l.wait ≤ 64 * (l.n - 1)
          rw [ob_size]
          simp
          omega
        · rw [if_neg h4]; exact lose_ok h _
def all (l : Lg) : ByteArray := l.bytes ++ frames l.wait
theorem all_size (l : Lg) : (all l).size = l.bytes.size + total l.wait := by unfold all; rw [ByteArray.size_append, frames_size]
def writes (l : Lg) (s : Sc.St) : Sc.St × Int := puts l.base (all l).data.toList (many l.bytes.size (all l).size) (l.bytes.size / 64) s
/- a sync of a log that is not lost and has some that wait -/
def syncT (l : Lg) (s : Sc.St) : Sc.St × Int :=
  if (writes l s).2 = 0 then (if Sc.flushE (writes l s).1 = 0 then (hdS (Sc.flushS (writes l s).1) l.base l.epoch (all l).size, hdE (Sc.flushS (writes l s).1) l.base l.epoch (all l).size) else (Sc.flushS (writes l s).1, Sc.flushE (writes l s).1)) else writes l s
def sycE (l : Lg) (s : Sc.St) : Int := if l.lost = true then 10 else if l.wait.length = 0 then 0 else (syncT l s).2
def sycS (l : Lg) (s : Sc.St) : Sc.St := if l.lost = true then s else if l.wait.length = 0 then s else (syncT l s).1
def sycL (l : Lg) (s : Sc.St) : Lg := if l.lost = true then l else if l.wait.length = 0 then l else if (syncT l s).2 = 0 then { l with bytes := all l, recs := l.recs ++ l.wait, wait := [] } else lose l (syncT l s).2
theorem many_num (b a k0 j : Nat) (hk : k0 = b / 64) (h : 64 * (k0 + j) < a) : j < many b a := by unfold many; omega
theorem many_most (b a k0 j : Nat) (hk : k0 = b / 64) (h : ¬ 64 * (k0 + j) < a) : many b a ≤ j := by unfold many; omega
theorem many_le (b a n : Nat) (h : a ≤ 64 * (n - 1)) (h2 : 2 ≤ n) : many b a + b / 64 ≤ n ∨ many b a = 0 := by unfold many; omega
theorem synced_ok {l : Lg} (h : l.Ok) : Lg.Ok { l with bytes := all l, recs := l.recs ++ l.wait, wait := [] } := by
  refine ⟨h.two, h.most, h.epoch, ⟨?_, ?_⟩, (by intro r hr; cases hr), ?_⟩
  · show all l = frames (l.recs ++ l.wait)
    unfold all
    rw [frames_append, ← h.is.1]
  · intro r hr
    rcases List.mem_append.1 hr with hr | hr
    · exact h.is.2 r hr
    · exact h.fit r hr
  · show (all l).size + total [] ≤ 64 * (l.n - 1)
    rw [all_size, total]
    exact h.room
theorem puts_power {s : St} {base : Nat} {all : List UInt8} {k : Nat} (hd : s.down = false) : ∀ (m j : Nat), base + (k + j + m) < s.kept.length → Lets s j → puts base all m (k + j) (putsN s base all k j) = if 0 ≤ s.left ∧ s.left < ((j + m : Nat) : Int) then (Sc.fell (putsN s base all k s.left.toNat), 10) else (putsN s base all k (j + m), 0)
  | 0, j, _, h => by
    rw [puts, if_neg (by unfold Lets at h; omega)]
    rfl
  | m + 1, j, hb, h => by
    have hw := write_puts (s := s) (base := base) (all := all) (k := k) (j := j) hd (by omega) h
    have hi : ((base + 1 + (k + j) : Nat) : Int) = (base : Int) + 1 + ((k + j : Nat) : Int) := by omega
    rw [hi] at hw
    by_cases h0 : s.left = (j : Int)
    · obtain ⟨e1, e2⟩ := hw.2 h0
      rw [puts_no (by rw [e2]; decide), e1, e2, if_pos (by omega), h0]
      rfl
    · obtain ⟨e1, e2⟩ := hw.1 h0
      rw [puts_yes e2, e1]
      have hl : Lets s (j + 1) := by unfold Lets at h ⊢; omega
      have ih := puts_power (base := base) (all := all) (k := k) hd m (j + 1) (by omega) hl
      rw [show k + j + 1 = k + (j + 1) by omega, ih, show j + 1 + m = j + (m + 1) by omega]
theorem put_head (s : St) (base e l : Nat) : Sc.put s base (head e l) = Sc.put s base (head20 e l) := by
  unfold Sc.put head
  rw [fill_fill (by have := head20_size e l; omega)]
theorem hd_mark {s : St} {base e l : Nat} (hd : s.down = false) (hb : base < s.kept.length) : hdS s base e l = markS s base e l ∧ hdE s base e l = markE s base e l := by
  have hh : Sc.has s (base : Int) = true := Sc.has_iff.2 ⟨by omega, by omega⟩
  have hx : ¬ 64 < (head e l).size := by unfold head; rw [Sc.fill_size (by have := head20_size e l; omega)]; omega
  have hd2 : (Sc.put s base (head20 e l)).down = false := hd
  unfold hdS hdE markS markE
  by_cases h0 : s.left = 0
  · have e1 : Sc.writeE s (base : Int) (head e l) = 10 := by unfold Sc.writeE; simp only [hd, hh, hx, h0, if_false, if_true, Bool.false_eq_true, Bool.true_eq_false]
    have e2 : Sc.writeS s (base : Int) (head e l) = Sc.fell s := by unfold Sc.writeS; simp only [hd, hh, hx, h0, if_false, if_true, Bool.false_eq_true, Bool.true_eq_false]
    have hz : ¬ (10 : Int) = 0 := by decide
    rw [e1, e2, if_neg hz, if_neg hz, if_pos h0, if_pos h0]
    exact ⟨rfl, rfl⟩
  · have e1 : Sc.writeE s (base : Int) (head e l) = 0 := by unfold Sc.writeE; simp only [hd, hh, hx, h0, if_false, Bool.false_eq_true, Bool.true_eq_false]
    have e2 : Sc.writeS s (base : Int) (head e l) = Sc.put s base (head20 e l) := by
      unfold Sc.writeS
      simp only [hd, hh, hx, h0, if_false, Bool.false_eq_true, Bool.true_eq_false]
      rw [Int.toNat_natCast, put_head]
    rw [e1, e2, if_pos rfl, if_pos rfl, if_neg h0, if_neg h0]
    unfold Sc.flushS Sc.flushE
    rw [hd2]
    simp only [Bool.false_eq_true, if_false]
    exact ⟨trivial, trivial⟩
/- a sync of a log with power is the sync of the mathematics -/
theorem syncT_power {l : Lg} {s : St} (hd : s.down = false) (h : l.Ok) (hf : l.base + l.n ≤ s.kept.length) : syncT l s = (syncS s l.base l.epoch l.bytes (all l), syncE s l.base l.epoch l.bytes (all l)) := by
  have hz := all_size l
  have hr := h.room
  have h2 := h.two
  have hm : l.bytes.size / 64 + many l.bytes.size (all l).size ≤ l.n - 1 := by unfold many; omega
  have hw : writes l s = if 0 ≤ s.left ∧ s.left < (many l.bytes.size (all l).size : Int) then (Sc.fell (putsN s l.base (all l).data.toList (l.bytes.size / 64) s.left.toNat), 10) else (putsN s l.base (all l).data.toList (l.bytes.size / 64) (many l.bytes.size (all l).size), 0) := by
    have e := puts_power (s := s) (base := l.base) (all := (all l).data.toList) (k := l.bytes.size / 64) hd (many l.bytes.size (all l).size) 0 (by omega) (by unfold Lets; omega)
    rw [putsN_zero, Nat.zero_add, Nat.add_zero] at e
    exact e
  unfold syncT syncS syncE
  rw [hw]
  generalize many l.bytes.size (all l).size = m at *
  by_cases h1 : 0 ≤ s.left ∧ s.left < (m : Int)
  · rw [if_pos h1, if_pos h1, if_pos h1]
    rfl
  · rw [if_neg h1, if_neg h1, if_neg h1]
    have hdn : (putsN s l.base (all l).data.toList (l.bytes.size / 64) m).down = false := hd
    have hkl : (putsN s l.base (all l).data.toList (l.bytes.size / 64) m).kept.length = s.kept.length := rfl
    generalize putsN s l.base (all l).data.toList (l.bytes.size / 64) m = s1 at *
    simp only [if_true]
    have hfl := (Sc.flushS_step s1).len
    by_cases h3 : s1.left = 0
    · have e1 : Sc.flushE s1 = 10 := by unfold Sc.flushE; rw [hdn]; simp [h3]
      have e2 : Sc.flushS s1 = Sc.fell s1 := by unfold Sc.flushS; rw [hdn]; simp [h3]
      rw [e1, e2, if_neg (by decide), if_pos h3, if_pos h3]
    · have e1 : Sc.flushE s1 = 0 := by unfold Sc.flushE; rw [hdn]; simp [h3]
      have e2 : Sc.flushS s1 = Sc.flushed s1 := by unfold Sc.flushS; rw [hdn]; simp [h3]
      rw [e2] at hfl
      obtain ⟨e3, e4⟩ := hd_mark (s := Sc.flushed s1) (base := l.base) (e := l.epoch) (l := (all l).size) hdn (by omega)
      rw [e1, e2, if_pos rfl, if_neg h3, if_neg h3, e3, e4]
end Wl
