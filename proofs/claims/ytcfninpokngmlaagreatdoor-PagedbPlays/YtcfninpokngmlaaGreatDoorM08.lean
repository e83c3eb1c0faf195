/- Proved: plain facts of a database's states (stage 10): what each page has, what Alloc, Free, Write and SetRoot make of them. No program is named. -/
import Derived.Test.YtcfninpokngmlaaGreatDoorM07
import Derived.Test.YtcfninpokngmlaaGreatDoorM03
import Derived.Test.YtcfninpokngmlaaGreatDoorM01
import Derived.Maps.OwnOps
import Derived.Maps.OwnSet
import Derived.Maps.RangeWalk
import Derived.Maps.Ext
import Derived.MapFrom
import Derived.LoopN
import Derived.Handy
namespace Pd
open Wl
def none0 : ByteArray := ⟨#[]⟩
theorem none0_size : none0.size = 0 := rfl
/- what page 0 tells -/
structure Stt where
  high : Nat
  free : Nat
  last : Nat
  r0 : Nat
  r1 : Nat
  r2 : Nat
  r3 : Nat
def mark : ByteArray := ⟨#[65, 81, 68, 66]⟩
def Stt.text (t : Stt) : ByteArray := mark ++ put t.high 4 ++ put t.free 4 ++ put t.last 4 ++ put t.r0 4 ++ put t.r1 4 ++ put t.r2 4 ++ put t.r3 4
def Stt.sheet (t : Stt) : Sheet := ⟨1, t.text⟩
theorem Stt.text_size (t : Stt) : t.text.size = 32 := by
  unfold Stt.text
  simp only [ByteArray.size_append, put_size]
  rfl
structure Stt.Small (t : Stt) (cnt : Nat) : Prop where
  high : t.high ≤ cnt
  free : t.free < t.high
  last : t.last < t.high
  zero : t.free = 0 ↔ t.last = 0
  r0 : t.r0 ≤ 2147483647
  r1 : t.r1 ≤ 2147483647
  r2 : t.r2 ≤ 2147483647
  r3 : t.r3 ≤ 2147483647
def freeSheet (ahead : Nat) : Sheet := ⟨255, put ahead 4⟩
/- a database as it is seen: its pages from 0 on (none: it is free), the order in which pages came free, its roots -/
structure Ab where
  pgs : List (Option Sheet)
  freed : List Nat
  r0 : Nat
  r1 : Nat
  r2 : Nat
  r3 : Nat
def Ab.stt (A : Ab) : Stt := ⟨A.pgs.length, A.freed.length, A.freed.getLast?.getD 0, A.r0, A.r1, A.r2, A.r3⟩
/- the one that came free ahead of it -/
def prevA : Nat → List Nat → Nat → Nat
  | _, [], _ => 0
  | p, x :: l, i => if x = i then p else prevA x l i
def prev (l : List Nat) (i : Nat) : Nat := prevA 0 l i
theorem prevA_left (y i : Nat) : ∀ (l : List Nat) (p : Nat), i ∈ l → prevA p (l ++ [y]) i = prevA p l i
  | [], _, h => by cases h
  | x :: l, p, h => by
    show (if x = i then p else prevA x (l ++ [y]) i) = if x = i then p else prevA x l i
    by_cases hx : x = i
    · rw [if_pos hx, if_pos hx]
    · rw [if_neg hx, if_neg hx]
      rcases List.mem_cons.1 h with h | h
      · exact absurd h.symm hx
      · exact prevA_left y i l x h
theorem prevA_last (i : Nat) : ∀ (l : List Nat) (p : Nat), i ∉ l → prevA p (l ++ [i]) i = l.getLast?.getD p
  | [], p, _ => by show (if i = i then p else _) = _; rw [if_pos rfl]; rfl
  | x :: l, p, h => by
    have hx : ¬ x = i := fun e => h (e ▸ List.mem_cons_self)
    show (if x = i then p else prevA x (l ++ [i]) i) = _
    rw [if_neg hx, prevA_last i l x (fun hm => h (List.mem_cons_of_mem _ hm)), List.getLast?_cons]
    rfl
def page1 : Sheet := ⟨1, none0⟩
def page00 : Sheet := ⟨0, none0⟩
def Ab.init : Ab := ⟨[some page00], [], 0, 0, 0, 0⟩
/- what a page has -/
def Ab.sh (A : Ab) (i : Nat) : Sheet := if i = 0 then A.stt.sheet else match A.pgs[i]? with
  | some (some x) => x
  | _ => freeSheet (prev A.freed i)
structure Sheet.Fine (x : Sheet) : Prop where
  k0 : 1 ≤ x.kind
  k1 : x.kind ≤ 255
  b : x.body.size ≤ 500
structure Ab.Ok (A : Ab) (cnt : Nat) : Prop where
  one : A.pgs[0]? = some (some page00)
  most : A.pgs.length ≤ cnt
  nodup : A.freed.Nodup
  mem : ∀ i, i ∈ A.freed ↔ A.pgs[i]? = some none
  fine : ∀ i x, 1 ≤ i → A.pgs[i]? = some (some x) → x.Fine ∧ x.kind ≤ 254
  r0 : A.r0 ≤ 2147483647
  r1 : A.r1 ≤ 2147483647
  r2 : A.r2 ≤ 2147483647
  r3 : A.r3 ≤ 2147483647
  small : cnt ≤ 1000
theorem init_ok {cnt : Nat} (h : 1 ≤ cnt) (h2 : cnt ≤ 1000) : Ab.init.Ok cnt := by
  refine ⟨rfl, h, List.nodup_nil, fun i => ⟨fun h => (by cases h), fun h => ?_⟩, fun i x hi h => ?_, by decide, by decide, by decide, by decide, h2⟩
  · cases i with
    | zero => cases h
    | succ i => cases h
  · cases i with
    | zero => omega
    | succ i => cases h
section
variable {A : Ab} {cnt : Nat}
theorem Ab.Ok.pos (h : A.Ok cnt) : 0 < A.pgs.length := (List.getElem?_eq_some_iff.1 h.one).1
theorem Ab.Ok.flt (h : A.Ok cnt) {i : Nat} (hi : i ∈ A.freed) : 1 ≤ i ∧ i < A.pgs.length := by
  have h1 := (h.mem i).1 hi
  refine ⟨?_, (List.getElem?_eq_some_iff.1 h1).1⟩
  rcases Nat.eq_zero_or_pos i with rfl | hp
  · rw [h.one] at h1; cases h1
  · exact hp
theorem last_mem_of {l : List Nat} (h : l ≠ []) : l.getLast?.getD 0 ∈ l := by
  rw [List.getLast?_eq_some_getLast h]
  exact List.getLast_mem h
theorem Ab.Ok.last_lt (h : A.Ok cnt) : A.freed.getLast?.getD 0 < A.pgs.length := by
  by_cases hf : A.freed = []
  · rw [hf]; exact h.pos
  · exact (h.flt (last_mem_of hf)).2
theorem nodup_le : ∀ (n : Nat) (l : List Nat), l.Nodup → (∀ i ∈ l, i < n) → l.length ≤ n
  | 0, [], _, _ => Nat.le_refl _
  | 0, x :: l, _, h => absurd (h x List.mem_cons_self) (Nat.not_lt_zero _)
  | n + 1, l, hn, h => by
    by_cases hm : n ∈ l
    · have h1 := nodup_le n (l.erase n) (hn.erase n) (fun i hi => by
        have h2 := h i (List.mem_of_mem_erase hi)
        have h3 : i ≠ n := fun e => by
          rw [e] at hi
          exact (hn.not_mem_erase) hi
        omega)
      rw [List.length_erase_of_mem hm] at h1
      omega
    · exact Nat.le_succ_of_le (nodup_le n l hn (fun i hi => by
        have h2 := h i hi
        have h3 : i ≠ n := fun e => hm (e ▸ hi)
        omega))
theorem nodup_bound {l : List Nat} {n : Nat} (hn : l.Nodup) (hb : ∀ i ∈ l, 1 ≤ i ∧ i < n) (hne : l ≠ []) : l.length < n := by
  have hp : 0 < n := by
    obtain ⟨x, hx⟩ := List.exists_mem_of_ne_nil l hne
    have := hb x hx
    omega
  exact nodup_le n (0 :: l) (List.nodup_cons.2 ⟨fun hm => by have := hb 0 hm; omega, hn⟩) (fun i hi => by
    rcases List.mem_cons.1 hi with rfl | hi
    · exact hp
    · exact (hb i hi).2)
theorem Ab.Ok.free_lt (h : A.Ok cnt) : A.freed.length < A.pgs.length := by
  by_cases hf : A.freed = []
  · rw [hf]; exact h.pos
  · exact nodup_bound h.nodup (fun i hi => h.flt hi) hf
theorem Ab.Ok.small_stt (h : A.Ok cnt) : A.stt.Small cnt := by
  refine ⟨h.most, h.free_lt, h.last_lt, ?_, h.r0, h.r1, h.r2, h.r3⟩
  show A.freed.length = 0 ↔ A.freed.getLast?.getD 0 = 0
  constructor
  · intro e
    rw [List.length_eq_zero_iff.1 e]
    rfl
  · intro e
    by_cases hf : A.freed = []
    · rw [hf]; rfl
    · have := (h.flt (last_mem_of hf)).1
      omega
theorem Ab.sh_fine (h : A.Ok cnt) (i : Nat) : (A.sh i).Fine := by
  unfold Ab.sh
  split
  · exact ⟨Nat.le_refl _, by show 1 ≤ 255; omega, by show A.stt.text.size ≤ 500; rw [Stt.text_size]; omega⟩
  · split
    · rename_i h0 x hx
      exact (h.fine i x (by omega) hx).1
    · exact ⟨by show 1 ≤ 255; omega, Nat.le_refl _, by show (put _ 4).size ≤ 500; rw [put_size]; omega⟩
theorem Ab.sh_there (h : A.Ok cnt) {i : Nat} {x : Sheet} (h1 : 1 ≤ i) (hx : A.pgs[i]? = some (some x)) : A.sh i = x ∧ x.kind ≠ 255 := by
  refine ⟨?_, by have := (h.fine i x h1 hx).2; omega⟩
  unfold Ab.sh
  rw [if_neg (by omega), hx]
theorem Ab.sh_free {i : Nat} (h1 : 1 ≤ i) (hx : A.pgs[i]? = some none) : A.sh i = freeSheet (prev A.freed i) := by
  unfold Ab.sh
  rw [if_neg (by omega), hx]
theorem Ab.sh_zero (A : Ab) : A.sh 0 = A.stt.sheet := rfl
/- the calls of a transaction -/
def Ab.write (A : Ab) (i : Nat) (x : Sheet) : Ab := { A with pgs := A.pgs.set i (some x) }
def Ab.allocI (A : Ab) : Nat := if A.freed = [] then A.pgs.length else A.freed.getLast?.getD 0
def Ab.alloc (A : Ab) : Ab := if A.freed = [] then { A with pgs := A.pgs ++ [some page1] } else { A with pgs := A.pgs.set (A.freed.getLast?.getD 0) (some page1), freed := A.freed.dropLast }
def Ab.free (A : Ab) (i : Nat) : Ab := { A with pgs := A.pgs.set i none, freed := A.freed ++ [i] }
def Ab.root (A : Ab) (i n : Nat) : Ab := match i with
  | 0 => { A with r0 := n }
  | 1 => { A with r1 := n }
  | 2 => { A with r2 := n }
  | _ => { A with r3 := n }
theorem page1_fine : page1.Fine ∧ page1.kind ≤ 254 := ⟨⟨Nat.le_refl _, by show 1 ≤ 255; omega, Nat.zero_le _⟩, by show 1 ≤ 254; omega⟩
theorem Ab.Ok.write (h : A.Ok cnt) {i : Nat} {x y : Sheet} (h1 : 1 ≤ i) (hy : A.pgs[i]? = some (some y)) (hx : x.Fine ∧ x.kind ≤ 254) : (A.write i x).Ok cnt := by
  have hl := (List.getElem?_eq_some_iff.1 hy).1
  refine ⟨?_, by show (A.pgs.set i (some x)).length ≤ cnt; rw [List.length_set]; exact h.most, h.nodup, fun j => ?_, fun j z hj hz => ?_, h.r0, h.r1, h.r2, h.r3, h.small⟩
  · show (A.pgs.set i (some x))[0]? = _
    rw [List.getElem?_set_ne (by omega)]
    exact h.one
  · show j ∈ A.freed ↔ (A.pgs.set i (some x))[j]? = _
    by_cases e : i = j
    · subst e
      rw [List.getElem?_set_self hl, h.mem i, hy]
      constructor
      · intro e; cases e
      · intro e; cases e
    · rw [List.getElem?_set_ne e]
      exact h.mem j
  · have hz : (A.pgs.set i (some x))[j]? = some (some z) := hz
    by_cases e : i = j
    · subst e
      rw [List.getElem?_set_self hl] at hz
      cases hz
      exact hx
    · rw [List.getElem?_set_ne e] at hz
      exact h.fine j z hj hz
theorem Ab.write_sh (A : Ab) (i j : Nat) (x : Sheet) (h1 : 1 ≤ i) (hl : i < A.pgs.length) : (A.write i x).sh j = if j = i then x else A.sh j := by
  unfold Ab.sh
  by_cases h0 : j = 0
  · rw [if_pos h0, if_neg (by omega), if_pos h0]
    show (Ab.write A i x).stt.sheet = A.stt.sheet
    have : (A.write i x).stt = A.stt := by unfold Ab.stt Ab.write; simp only [List.length_set]
    rw [this]
  · rw [if_neg h0, if_neg h0]
    show (match (A.pgs.set i (some x))[j]? with | some (some x) => x | _ => freeSheet (prev A.freed j)) = _
    by_cases e : j = i
    · subst e
      rw [List.getElem?_set_self hl, if_pos rfl]
    · rw [List.getElem?_set_ne (fun h => e h.symm), if_neg e]
theorem Ab.Ok.alloc (h : A.Ok cnt) (hf : A.freed = [] → A.pgs.length < cnt) : A.alloc.Ok cnt := by
  unfold Ab.alloc
  by_cases e : A.freed = []
  · rw [if_pos e]
    have hlt := hf e
    refine ⟨?_, by show (A.pgs ++ [some page1]).length ≤ cnt; rw [List.length_append]; exact hlt, h.nodup, fun j => ?_, fun j z hj hz => ?_, h.r0, h.r1, h.r2, h.r3, h.small⟩
    · show (A.pgs ++ [some page1])[0]? = _
      rw [List.getElem?_append_left h.pos]
      exact h.one
    · show j ∈ A.freed ↔ (A.pgs ++ [some page1])[j]? = _
      rw [h.mem j]
      rcases Nat.lt_or_ge j A.pgs.length with hl | hl
      · rw [List.getElem?_append_left hl]
      · rw [List.getElem?_append_right hl, List.getElem?_eq_none hl]
        constructor
        · intro e; cases e
        · intro e
          rcases Nat.eq_zero_or_pos (j - A.pgs.length) with h0 | h0
          · rw [h0] at e; cases e
          · rw [List.getElem?_eq_none (by show 1 ≤ _; exact h0)] at e; cases e
    · have hz : (A.pgs ++ [some page1])[j]? = some (some z) := hz
      rcases Nat.lt_or_ge j A.pgs.length with hl | hl
      · rw [List.getElem?_append_left hl] at hz
        exact h.fine j z hj hz
      · rw [List.getElem?_append_right hl] at hz
        rcases Nat.eq_zero_or_pos (j - A.pgs.length) with h0 | h0
        · rw [h0] at hz
          cases hz
          exact page1_fine
        · rw [List.getElem?_eq_none (by show 1 ≤ _; exact h0)] at hz
          cases hz
  · rw [if_neg e]
    have hm := last_mem_of e
    have hfl := h.flt hm
    have hsp : A.freed = A.freed.dropLast ++ [A.freed.getLast?.getD 0] := by
      rw [List.getLast?_eq_some_getLast e]
      exact (List.dropLast_concat_getLast e).symm
    have hnd : A.freed.getLast?.getD 0 ∉ A.freed.dropLast := by
      have := h.nodup
      rw [hsp] at this
      have h2 := (List.nodup_append.1 this).2.2
      intro hm
      exact h2 _ hm _ List.mem_cons_self rfl
    generalize A.freed.getLast?.getD 0 = i at hm hfl hsp hnd
    refine ⟨?_, by show (A.pgs.set i (some page1)).length ≤ cnt; rw [List.length_set]; exact h.most, ?_, fun j => ?_, fun j z hj hz => ?_, h.r0, h.r1, h.r2, h.r3, h.small⟩
    · show (A.pgs.set i (some page1))[0]? = _
      rw [List.getElem?_set_ne (by omega)]
      exact h.one
    · have := h.nodup
      rw [hsp] at this
      exact (List.nodup_append.1 this).1
    · show j ∈ A.freed.dropLast ↔ (A.pgs.set i (some page1))[j]? = _
      by_cases e : i = j
      · subst e
        rw [List.getElem?_set_self hfl.2]
        constructor
        · intro e; exact absurd e hnd
        · intro e; cases e
      · rw [List.getElem?_set_ne e, ← h.mem j]
        constructor
        · intro hj; rw [hsp]; exact List.mem_append_left _ hj
        · intro hj
          rw [hsp] at hj
          rcases List.mem_append.1 hj with hj | hj
          · exact hj
          · exact absurd (List.mem_singleton.1 hj).symm e
    · have hz : (A.pgs.set i (some page1))[j]? = some (some z) := hz
      by_cases e : i = j
      · subst e
        rw [List.getElem?_set_self hfl.2] at hz
        cases hz
        exact page1_fine
      · rw [List.getElem?_set_ne e] at hz
        exact h.fine j z hj hz
theorem Ab.alloc_high (A : Ab) : A.alloc.pgs.length = if A.freed = [] then A.pgs.length + 1 else A.pgs.length := by
  unfold Ab.alloc
  split
  · show (A.pgs ++ [some page1]).length = _
    rw [List.length_append]
    rfl
  · show (A.pgs.set _ _).length = _
    rw [List.length_set]
theorem Ab.allocI_pos (h : A.Ok cnt) : 1 ≤ A.allocI := by
  unfold Ab.allocI
  split
  · exact h.pos
  · rename_i e; exact (h.flt (last_mem_of e)).1
theorem Ab.allocI_lt (h : A.Ok cnt) : A.allocI < A.alloc.pgs.length := by
  rw [Ab.alloc_high]
  unfold Ab.allocI
  split
  · omega
  · rename_i e; exact (h.flt (last_mem_of e)).2
theorem Ab.alloc_sh (h : A.Ok cnt) (j : Nat) (hj : 1 ≤ j) (hjl : j < A.alloc.pgs.length) : A.alloc.sh j = if j = A.allocI then page1 else A.sh j := by
  have h0 : ¬ j = 0 := by omega
  unfold Ab.sh Ab.alloc Ab.allocI
  rw [if_neg h0, if_neg h0]
  by_cases e : A.freed = []
  · rw [if_pos e, if_pos e]
    show (match (A.pgs ++ [some page1])[j]? with | some (some x) => x | _ => freeSheet (prev A.freed j)) = _
    have hle : j ≤ A.pgs.length := by rw [Ab.alloc_high, if_pos e] at hjl; omega
    rcases Nat.lt_or_ge j A.pgs.length with hl | hl
    · rw [List.getElem?_append_left hl, if_neg (by omega)]
    · have : j = A.pgs.length := by omega
      rw [List.getElem?_append_right hl, if_pos this, this, Nat.sub_self]
      rfl
  · rw [if_neg e, if_neg e]
    have hm := last_mem_of e
    have hfl := h.flt hm
    have hsp : A.freed = A.freed.dropLast ++ [A.freed.getLast?.getD 0] := by
      rw [List.getLast?_eq_some_getLast e]
      exact (List.dropLast_concat_getLast e).symm
    show (match (A.pgs.set (A.freed.getLast?.getD 0) (some page1))[j]? with | some (some x) => x | _ => freeSheet (prev A.freed.dropLast j)) = _
    generalize A.freed.getLast?.getD 0 = i at hm hfl hsp
    by_cases e2 : j = i
    · subst e2
      rw [List.getElem?_set_self hfl.2, if_pos rfl]
    · rw [List.getElem?_set_ne (fun h => e2 h.symm), if_neg e2]
      have hlen : j < A.pgs.length := by rw [Ab.alloc_high, if_neg e] at hjl; exact hjl
      cases hx : A.pgs[j]? with
      | none => rw [List.getElem?_eq_getElem hlen] at hx; cases hx
      | some o =>
        cases o with
        | some x => rfl
        | none =>
          have hjm := (h.mem j).2 hx
          show freeSheet _ = freeSheet _
          rw [hsp] at hjm
          have hjd : j ∈ A.freed.dropLast := by
            rcases List.mem_append.1 hjm with hq | hq
            · exact hq
            · exact absurd (List.mem_singleton.1 hq) e2
          have h1 := prevA_left i j A.freed.dropLast 0 hjd
          rw [← hsp] at h1
          unfold prev
          rw [h1]
/- the page that came free last tells the one ahead of it -/
theorem Ab.last_sh (h : A.Ok cnt) (e : A.freed ≠ []) : A.sh (A.freed.getLast?.getD 0) = freeSheet (A.freed.dropLast.getLast?.getD 0) := by
  have hm := last_mem_of e
  have hfl := h.flt hm
  have hsp : A.freed = A.freed.dropLast ++ [A.freed.getLast?.getD 0] := by
    rw [List.getLast?_eq_some_getLast e]
    exact (List.dropLast_concat_getLast e).symm
  have hnd : A.freed.getLast?.getD 0 ∉ A.freed.dropLast := by
    have := h.nodup
    rw [hsp] at this
    intro hm
    exact (List.nodup_append.1 this).2.2 _ hm _ List.mem_cons_self rfl
  rw [Ab.sh_free hfl.1 ((h.mem _).1 hm)]
  generalize A.freed.getLast?.getD 0 = i at hm hfl hsp hnd
  have h1 := prevA_last i A.freed.dropLast 0 hnd
  rw [← hsp] at h1
  unfold prev
  rw [h1]
theorem Ab.Ok.free (h : A.Ok cnt) {i : Nat} {x : Sheet} (h1 : 1 ≤ i) (hx : A.pgs[i]? = some (some x)) : (A.free i).Ok cnt := by
  have hl := (List.getElem?_eq_some_iff.1 hx).1
  have hni : i ∉ A.freed := fun hm => by rw [h.mem i, hx] at hm; cases hm
  refine ⟨?_, by show (A.pgs.set i none).length ≤ cnt; rw [List.length_set]; exact h.most, ?_, fun j => ?_, fun j z hj hz => ?_, h.r0, h.r1, h.r2, h.r3, h.small⟩
  · show (A.pgs.set i none)[0]? = _
    rw [List.getElem?_set_ne (by omega)]
    exact h.one
  · show (A.freed ++ [i]).Nodup
    exact List.nodup_append.2 ⟨h.nodup, by simp, fun a ha b hb => by
      rw [List.mem_singleton.1 hb]
      intro e
      exact hni (e ▸ ha)⟩
  · show j ∈ A.freed ++ [i] ↔ (A.pgs.set i none)[j]? = _
    rw [List.mem_append, List.mem_singleton]
    by_cases e : i = j
    · subst e
      rw [List.getElem?_set_self hl]
      exact ⟨fun _ => rfl, fun _ => .inr rfl⟩
    · rw [List.getElem?_set_ne e, ← h.mem j]
      exact ⟨fun h => h.resolve_right (fun h => e h.symm), .inl⟩
  · have hz : (A.pgs.set i none)[j]? = some (some z) := hz
    by_cases e : i = j
    · subst e
      rw [List.getElem?_set_self hl] at hz
      cases hz
    · rw [List.getElem?_set_ne e] at hz
      exact h.fine j z hj hz
theorem Ab.free_sh (h : A.Ok cnt) {i : Nat} {x : Sheet} (h1 : 1 ≤ i) (hx : A.pgs[i]? = some (some x)) (j : Nat) (hj : 1 ≤ j) (hjl : j < A.pgs.length) : (A.free i).sh j = if j = i then freeSheet (A.freed.getLast?.getD 0) else A.sh j := by
  have hl := (List.getElem?_eq_some_iff.1 hx).1
  have hni : i ∉ A.freed := fun hm => by rw [h.mem i, hx] at hm; cases hm
  have h0 : ¬ j = 0 := by omega
  unfold Ab.sh
  rw [if_neg h0, if_neg h0]
  show (match (A.pgs.set i none)[j]? with | some (some x) => x | _ => freeSheet (prev (A.freed ++ [i]) j)) = _
  by_cases e : j = i
  · subst e
    rw [List.getElem?_set_self hl, if_pos rfl]
    show freeSheet (prevA 0 (A.freed ++ [j]) j) = _
    rw [prevA_last j A.freed 0 hni]
  · rw [List.getElem?_set_ne (fun h => e h.symm), if_neg e]
    cases hz : A.pgs[j]? with
    | none => rw [List.getElem?_eq_getElem hjl] at hz; cases hz
    | some o =>
      cases o with
      | some x => rfl
      | none =>
        show freeSheet (prevA 0 (A.freed ++ [i]) j) = _
        rw [prevA_left i j A.freed 0 ((h.mem j).2 hz)]
        rfl
theorem Ab.Ok.root (h : A.Ok cnt) (i n : Nat) (hn : n ≤ 2147483647) : (A.root i n).Ok cnt := by
  unfold Ab.root
  split
  · exact ⟨h.one, h.most, h.nodup, h.mem, h.fine, hn, h.r1, h.r2, h.r3, h.small⟩
  · exact ⟨h.one, h.most, h.nodup, h.mem, h.fine, h.r0, hn, h.r2, h.r3, h.small⟩
  · exact ⟨h.one, h.most, h.nodup, h.mem, h.fine, h.r0, h.r1, hn, h.r3, h.small⟩
  · exact ⟨h.one, h.most, h.nodup, h.mem, h.fine, h.r0, h.r1, h.r2, hn, h.small⟩
theorem Ab.root_pgs (A : Ab) (i n : Nat) : (A.root i n).pgs = A.pgs ∧ (A.root i n).freed = A.freed := by
  unfold Ab.root
  split <;> exact ⟨rfl, rfl⟩
theorem Ab.root_sh (A : Ab) (i n j : Nat) (hj : 1 ≤ j) : (A.root i n).sh j = A.sh j := by
  unfold Ab.sh
  rw [if_neg (by omega), if_neg (by omega), (A.root_pgs i n).1, (A.root_pgs i n).2]
end
end Pd
/- Proved: plain facts of records of pages, and of pages at their places (stage 10). No program is named. -/
namespace Pd
open Wl
def pageOf (i : Nat) (x : Sheet) : ByteArray := Pg.page i x.kind x.body
theorem pageOf_size {i : Nat} {x : Sheet} (h : x.Fine) : (pageOf i x).size = 512 := Pg.page_size h.b
theorem pageOf_open {i : Nat} {x : Sheet} (h : x.Fine) (hi : i ≤ 2147483647) : Pg.openE (i : Int) (pageOf i x) = 0 ∧ Pg.openK (i : Int) (pageOf i x) = (x.kind : Int) ∧ Pg.openB (i : Int) (pageOf i x) = x.body := by
  have hb : Pg.bad (i : Int) (x.kind : Int) = false := Pg.bad_of ⟨by omega, by omega, by have := h.k0; omega, by have := h.k1; omega⟩
  have := Pg.open_same hb h.b
  simpa [pageOf] using this
theorem pageOf_seal {i : Nat} {x : Sheet} (h : x.Fine) (hi : i ≤ 2147483647) : Pg.sealS (i : Int) (x.kind : Int) x.body = pageOf i x := by
  have hb : Pg.bad (i : Int) (x.kind : Int) = false := Pg.bad_of ⟨by omega, by omega, by have := h.k0; omega, by have := h.k1; omega⟩
  unfold Pg.sealS
  rw [hb, if_neg (by simp), if_neg (by have := h.b; omega)]
  rfl
theorem pageOf_ne {i : Nat} {x : Sheet} (h : x.Fine) : pageOf i x ≠ Pg.blank := Pg.page_not_blank (by have := h.k1; omega) (by have := h.k0; omega)
/- the pages of a record, one behind the other -/
def entry (p : Nat × Sheet) : ByteArray := put p.1 4 ++ pageOf p.1 p.2
def entries : Mp → ByteArray
  | [] => none0
  | p :: m => entry p ++ entries m
def recText (n : Nat) (m : Mp) : ByteArray := put n 4 ++ entries m
def Fine (cnt : Nat) (m : Mp) : Prop := ∀ p ∈ m, p.1 < cnt ∧ p.2.Fine
theorem entry_size {p : Nat × Sheet} (h : p.2.Fine) : (entry p).size = 516 := by
  unfold entry
  rw [ByteArray.size_append, put_size, pageOf_size h]
theorem app_none (a : ByteArray) : a ++ none0 = a := ext_list (by rw [app_list]; simp [none0])
theorem none_app (a : ByteArray) : none0 ++ a = a := ext_list (by rw [app_list]; simp [none0])
theorem app_assoc (a b c : ByteArray) : a ++ b ++ c = a ++ (b ++ c) := ext_list (by simp only [app_list, List.append_assoc])
theorem entries_size {cnt : Nat} : ∀ {m : Mp}, Fine cnt m → (entries m).size = 516 * m.length
  | [], _ => rfl
  | p :: m, h => by
    unfold entries
    rw [ByteArray.size_append, entry_size (h p List.mem_cons_self).2, entries_size (fun q hq => h q (List.mem_cons_of_mem _ hq)), List.length_cons]
    omega
theorem entries_snoc (p : Nat × Sheet) : ∀ (m : Mp), entries (m ++ [p]) = entries m ++ entry p
  | [] => by unfold entries; rw [none_app]; unfold entries; exact app_none _
  | q :: m => by
    rw [List.cons_append]
    unfold entries
    rw [entries_snoc p m, app_assoc]
theorem recText_size {cnt n : Nat} {m : Mp} (h : Fine cnt m) : (recText n m).size = 4 + 516 * m.length := by
  unfold recText
  rw [ByteArray.size_append, put_size, entries_size h]
theorem ext_left {a b : ByteArray} {k : Nat} (h : a.size = k) : (a ++ b).extract 0 k = a := ext_list (by
  rw [ext_ext, app_list, List.drop_zero, List.take_append_of_le_length (by rw [← Sc.size_eq]; omega), List.take_of_length_le (by rw [← Sc.size_eq]; omega)])
theorem ext_right {a b : ByteArray} {k n : Nat} (h : a.size = k) (hn : n = (a ++ b).size) : (a ++ b).extract k n = b := ext_list (by
  have h2 : a.data.toList.length = k := by rw [← Sc.size_eq]; exact h
  rw [ext_ext, app_list, List.take_of_length_le (by rw [hn, Sc.size_eq, app_list]; exact Nat.le_refl _), ← h2, List.drop_left])
theorem ext_mid {a b c : ByteArray} {k n : Nat} (h : a.size = k) (hn : n = k + b.size) : (a ++ (b ++ c)).extract k n = b := ext_list (by
  have h2 : a.data.toList.length = k := by rw [← Sc.size_eq]; exact h
  have h3 : b.data.toList.length = b.size := (Sc.size_eq b).symm
  rw [ext_ext, app_list, app_list, hn, ← h2, List.take_length_add_append, List.drop_left, List.take_append_of_le_length (by omega), List.take_of_length_le (by omega)])
/- the number that a text begins with -/
def numb (s : ByteArray) : Nat := getL (s.data.toList.take 4)
theorem numb_put (a : Nat) (b : ByteArray) (h : a < 4294967296) : numb (put a 4 ++ b) = a := by
  unfold numb
  rw [app_list, put_list, List.take_append_of_le_length (by rw [putL_length]; omega), List.take_of_length_le (by rw [putL_length]; omega), getL_putL 4 a h]
theorem numb_put0 (a : Nat) (h : a < 4294967296) : numb (put a 4) = a := by
  have := numb_put a none0 h
  rwa [app_none] at this
/- what is read of a record -/
structure Read1 (s : ByteArray) (p : Nat × Sheet) (rest : ByteArray) : Prop where
  ne : 516 ≤ s.size
  id : numb s = p.1
  page : s.extract 4 516 = pageOf p.1 p.2
  rest : s.extract 516 s.size = rest
theorem read_entry {cnt : Nat} {p : Nat × Sheet} {m : Mp} (h : Fine cnt (p :: m)) (hc : cnt ≤ 1000) : Read1 (entries (p :: m)) p (entries m) := by
  have hp := h p List.mem_cons_self
  have he := entry_size hp.2
  have hs : (entries (p :: m)).size = 516 + (entries m).size := by
    show (entry p ++ entries m).size = _
    rw [ByteArray.size_append, he]
  refine ⟨by omega, ?_, ?_, ?_⟩
  · show numb (entry p ++ entries m) = _
    unfold entry
    rw [app_assoc, numb_put _ _ (by omega)]
  · show (entry p ++ entries m).extract 4 516 = _
    unfold entry
    rw [app_assoc]
    exact ext_mid (put_size _ _) (by rw [pageOf_size hp.2])
  · show (entry p ++ entries m).extract 516 _ = _
    exact ext_right he rfl
/- the state that a sheet tells -/
theorem sheet_numb (t : Stt) : ∀ (i : Nat), i < 7 → (t.text.extract (4 + 4 * i) 32).data.toList.take 4 = putL ([t.high, t.free, t.last, t.r0, t.r1, t.r2, t.r3].getD i 0) 4 := by
  have hl : t.text.data.toList = [65, 81, 68, 66] ++ putL t.high 4 ++ putL t.free 4 ++ putL t.last 4 ++ putL t.r0 4 ++ putL t.r1 4 ++ putL t.r2 4 ++ putL t.r3 4 := by
    unfold Stt.text
    simp only [app_list, put_list]
    rfl
  intro i hi
  rw [ext_ext, hl]
  have e : ∀ n, putL n 4 = [UInt8.ofNat (n % 256), UInt8.ofNat (n / 256 % 256), UInt8.ofNat (n / 256 / 256 % 256), UInt8.ofNat (n / 256 / 256 / 256 % 256)] := fun n => by
    simp [putL]
  simp only [e]
  rcases i with _ | _ | _ | _ | _ | _ | _ | i
  · rfl
  · rfl
  · rfl
  · rfl
  · rfl
  · rfl
  · rfl
  · omega
/- what stands at a page's place -/
def plc (ks : List ByteArray) (n i : Nat) : ByteArray := Pg.joined ((List.range 8).map fun j => ks.getD (n + 8 * i + j) Sc.zero64)
theorem plc_same {ks ks' : List ByteArray} {n i : Nat} (h : ∀ j, j < 8 → ks'.getD (n + 8 * i + j) Sc.zero64 = ks.getD (n + 8 * i + j) Sc.zero64) : plc ks' n i = plc ks n i := by
  unfold plc
  refine congrArg _ (List.map_congr_left fun j hj => h j (List.mem_range.1 hj))
/- the writes of a page -/
def secAt (x : ByteArray) (j : Nat) : ByteArray := (Pg.cut x 64 []).getD j Sc.zero64
def wrOf (n i : Nat) (x : ByteArray) : List (Nat × ByteArray) := (List.range 8).map fun j => (n + 8 * i + j, secAt x j)
def wrAll (n : Nat) (m : Mp) : List (Nat × ByteArray) := m.flatMap fun p => wrOf n p.1 (pageOf p.1 p.2)
theorem secs_len : ∀ (k : Nat) (s : ByteArray) (i : Nat), s.size = i + 64 * k → (Pg.secs s i).length = k ∧ ∀ x ∈ Pg.secs s i, x.size = 64
  | 0, s, i, h => by
    rw [Pg.secs_end (by omega)]
    exact ⟨rfl, fun _ h => nomatch h⟩
  | k + 1, s, i, h => by
    rw [Pg.secs_next (by omega), Nat.min_eq_left (by omega)]
    obtain ⟨h1, h2⟩ := secs_len k s (i + 64) (by omega)
    refine ⟨by rw [List.length_cons, h1], fun x hx => ?_⟩
    rcases List.mem_cons.1 hx with rfl | hx
    · rw [Pg.ext_size s i (i + 64) (by omega)]
      omega
    · exact h2 x hx
theorem cut_secs (s : ByteArray) : Pg.cut s 64 [] = Pg.secs s 0 := by
  unfold Pg.secs
  have : s.extract 0 s.size = s := ext_list (by rw [ext_ext, List.drop_zero, List.take_of_length_le (by rw [← Sc.size_eq]; exact Nat.le_refl _)])
  rw [this]
theorem cut_len {x : ByteArray} (h : x.size = 512) : (Pg.cut x 64 []).length = 8 ∧ ∀ y ∈ Pg.cut x 64 [], y.size = 64 := by
  rw [cut_secs]
  exact secs_len 8 x 0 (by omega)
theorem secAt_size {x : ByteArray} (h : x.size = 512) (j : Nat) : (secAt x j).size = 64 := Sc.getD_size (cut_len h).2 j
theorem range_getD {α : Type} (l : List α) (d : α) : (List.range l.length).map (fun j => l.getD j d) = l := by
  refine List.ext_getElem (by simp) fun i h1 h2 => ?_
  rw [List.getElem_map, List.getElem_range, List.getD_eq_getElem?_getD, List.getElem?_eq_getElem h2]
  rfl
theorem secAt_all {x : ByteArray} (h : x.size = 512) : Pg.joined ((List.range 8).map (secAt x)) = x := by
  have := range_getD (Pg.cut x 64 []) Sc.zero64
  rw [(cut_len h).1] at this
  show Pg.joined ((List.range 8).map fun j => (Pg.cut x 64 []).getD j Sc.zero64) = x
  rw [this]
  exact Pg.sectors_joined x
theorem fill_64 {x : ByteArray} (h : x.size = 64) : Sc.fill x = x := ext_list (by rw [Sc.fill_list, h]; simp)
theorem wr_mem {n : Nat} {m : Mp} {q : Nat × ByteArray} (h : q ∈ wrAll n m) : ∃ p ∈ m, ∃ j, j < 8 ∧ q = (n + 8 * p.1 + j, secAt (pageOf p.1 p.2) j) := by
  obtain ⟨p, hp, hq⟩ := List.mem_flatMap.1 h
  obtain ⟨j, hj, rfl⟩ := List.mem_map.1 hq
  exact ⟨p, hp, j, List.mem_range.1 hj, rfl⟩
theorem wr_there {n : Nat} {m : Mp} {p : Nat × Sheet} (hp : p ∈ m) {j : Nat} (hj : j < 8) : (n + 8 * p.1 + j, secAt (pageOf p.1 p.2) j) ∈ wrAll n m :=
  List.mem_flatMap.2 ⟨p, hp, List.mem_map.2 ⟨j, List.mem_range.2 hj, rfl⟩⟩
/- what is kept of these writes leaves all other places, and the log -/
theorem keep_other {n : Nat} {m : Mp} {l : List (Nat × ByteArray)} (hl : ∀ q ∈ l, q ∈ wrAll n m) (f : Nat → Bool) (k : Nat) (ks : List ByteArray) {x : Nat} (hx : ∀ p ∈ m, x < n + 8 * p.1 ∨ n + 8 * p.1 + 8 ≤ x) : (Sc.keepI f l k ks).getD x Sc.zero64 = ks.getD x Sc.zero64 := by
  rw [List.getD_eq_getElem?_getD, Sc.keepI_apart f x l k ks (fun q hq e => by
    obtain ⟨p, hp, j, hj, rfl⟩ := wr_mem (hl q hq)
    have := hx p hp
    simp only at e
    omega), ← List.getD_eq_getElem?_getD]
theorem keep_log {n : Nat} {m : Mp} {l : List (Nat × ByteArray)} (hl : ∀ q ∈ l, q ∈ wrAll n m) (f : Nat → Bool) (k : Nat) (ks : List ByteArray) {x : Nat} (hx : x < n) : (Sc.keepI f l k ks).getD x Sc.zero64 = ks.getD x Sc.zero64 :=
  keep_other hl f k ks (fun p _ => .inl (by omega))
theorem keep_plc {n : Nat} {m : Mp} {l : List (Nat × ByteArray)} (hl : ∀ q ∈ l, q ∈ wrAll n m) (f : Nat → Bool) (k : Nat) (ks : List ByteArray) {i : Nat} (hi : get m i = none) (hu : Up m) : plc (Sc.keepI f l k ks) n i = plc ks n i :=
  plc_same fun j hj => keep_other hl f k ks (fun p hp => by
    have : p.1 ≠ i := fun e => by
      have h1 := mem_get hu hp
      rw [e, hi] at h1
      cases h1
    omega)
/- all of them kept: the pages are at their places -/
theorem kept_plc {n : Nat} {m : Mp} (hu : Up m) (ks : List ByteArray) {p : Nat × Sheet} (hp : p ∈ m) (hf : p.2.Fine) (hl : n + 8 * p.1 + 8 ≤ ks.length) (k : Nat) : plc (Sc.keepI (fun _ => true) (wrAll n m) k ks) n p.1 = pageOf p.1 p.2 := by
  have h512 := pageOf_size (i := p.1) hf
  unfold plc
  rw [← secAt_all h512]
  refine congrArg _ (List.map_congr_left fun j hj => ?_)
  have hj8 := List.mem_range.1 hj
  rw [List.getD_eq_getElem?_getD, Sc.keepI_last _ _ _ _ (by omega)]
  obtain ⟨q, hq, h1, h2⟩ := last_mem (n + 8 * p.1 + j) (wrAll n m) (ks.getD (n + 8 * p.1 + j) Sc.zero64) ⟨_, wr_there hp hj8, rfl⟩
  obtain ⟨p', hp', j', hj', rfl⟩ := wr_mem hq
  simp only at h1
  have e1 : p'.1 = p.1 := by omega
  have e2 : j' = j := by omega
  have h3 := mem_get hu hp'
  rw [e1, mem_get hu hp] at h3
  have e3 : p'.2 = p.2 := (Option.some.inj h3).symm
  rw [h2]
  show secAt (pageOf p'.1 p'.2) j' = _
  rw [e1, e2, e3]
/- the log's part is as it was -/
theorem On.low {ks ks' : List ByteArray} {n e : Nat} {b : ByteArray} (h : On ks 0 n e b) (hl : ks'.length = ks.length) (ho : ∀ x, x < n → ks'.getD x Sc.zero64 = ks.getD x Sc.zero64) : On ks' 0 n e b := by
  have h2 := h.two
  have hr := h.room
  refine ⟨?_, fun i j hj hi => ?_, h.room, by rw [hl]; exact h.fits, h.two, h.most⟩
  · unfold HeadIs
    rw [ho 0 (by omega)]
    exact h.head
  · rw [ho (0 + 1 + i) (by rw [← Sc.size_eq] at hi; omega)]
    exact h.holds i j hj hi
end Pd
/- Proved: what pagedb's numberText, number, recordSize, isRoot and at answer. -/
namespace Go.Proofs.YtcfninpokngmlaaGreatDoor
open Go.RowKit
def zq4 : Array Value := (List.replicate 4 zv).toArray
theorem zero4 (W : World) : (zeroValue 167).run Tryz.prog W = .ok (.agg zq4) W := by kernel_rfl
theorem shr_i64 (n j : Nat) (hj : j ≤ 4) : (n : Int).fdiv (2 ^ min (8 * (j : Int)).toNat IntKind.i64.bits) = (n : Int) / 2 ^ (8 * j) := by
  have e : min (8 * (j : Int)).toNat IntKind.i64.bits = 8 * j := by
    show min (8 * (j : Int)).toNat 64 = 8 * j
    omega
  rw [e]
  exact Int.fdiv_eq_ediv_of_nonneg _ (Int.le_of_lt (Int.pow_pos (by omega)))
set_option maxHeartbeats 1000000 in
theorem ntext_any (n : Nat) (w : World) :
    Calls Tryz.prog 90 #[.int .i64 (n : Int)] w fun e w' => e = .returned (.string (Wl.put n 4)) ∧ Below w.heap.size w w' := by
  have HB0 : Hid (Below w.heap.size w (w.alloc (.cells zq4 167))) := (Below.refl _ _).alloc (Nat.le_refl _) _
  have HG : Hid ((w.alloc (.cells zq4 167)).heap[w.heap.size]? = some (.cells (List.replicate 4 zv).toArray 167 (0, 0))) := heap_alloc_new w _
  have hz := zero4
  go_enter Tryz.func90, Tryz.ntmps90
  go_wp2_with fail
  generalize World.alloc w _ = w0 at *
  go_loopw [4, 5] (fun _ s5 wr => ∃ j : Nat, j ≤ 4 ∧ s5 = .int .i64 (j : Int) ∧ wr = w0.setCells w.heap.size 0 (nc n j)) (fun _ s5 _ => 4 - (intOf s5).toNat)
  case atStart => exact ⟨0, by omega, rfl, rfl⟩
  case round =>
    obtain ⟨j, hj, rfl, hwr⟩ := hrel
    have HR : Hid ((w0.setCells w.heap.size 0 (nc n j)).heap[w.heap.size]? = some (.cells (splice (List.replicate 4 zv) 0 (nc n j)).toArray 167 (0, 0))) := setCells_splice w.heap.size 167 _ 0 _ w0 HG.out (by rw [nc_length, List.length_replicate]; omega)
    rw [← hwr] at HR
    by_cases hjk : j < 4
    · have hsl : (splice (List.replicate 4 zv) 0 (nc n j)).length = 4 := by unfold splice; rw [List.length_append, List.length_append, List.length_take, List.length_drop, nc_length, List.length_replicate]; omega
      have HFN : Hid (∃ j' : Nat, j' ≤ 4 ∧ Value.int .i64 ((j : Int) + 1) = .int .i64 (j' : Int) ∧ wr.setCell ⟨w.heap.size, j, none⟩ (.int .u8 ((n : Int) / 2 ^ (8 * j) % 256)) = w0.setCells w.heap.size 0 (nc n j')) := ⟨j + 1, by omega, by go_num, by
        rw [hwr, nc_succ, shr_num]
        have := setCells_snoc w.heap.size (.int .u8 ((n / 256 ^ j % 256 : Nat) : Int)) (nc n j) 0 w0
        rw [nc_length, Nat.zero_add] at this
        exact this⟩
      obtain ⟨u, hu⟩ : ∃ u, wr.cell? ⟨w.heap.size, j, none⟩ = some u := ⟨_, by rw [cell_of_row wr _ _ _ _ (0, 0) HR.out, Array.getElem?_eq_getElem (by rw [List.size_toArray]; omega)]⟩
      have hf : wr.frozen? ⟨w.heap.size, j, none⟩ = false := frozen_of_row wr _ _ _ _ HR.out
      have dj : decide ((j : Int) < 4) = true := decide_eq_true (by omega)
      have j0 : (0 : Int) ≤ (j : Int) := by omega
      have j1 : (j : Int) < 4 := by omega
      have hw8 : IntKind.i64.wrap (8 * (j : Int)) = 8 * (j : Int) := by rw [IntKind.wrap_i64]; omega
      have hsh := shr_i64 n j (by omega)
      clear hwr HR hsl
      go_wp2
      go_roundw
      case rel => first | exact HFN.out | ((repeat apply Exists.intro); exact ⟨HFN.out, rfl⟩)
      case measure => (simp [intOf]) <;> omega
    · obtain rfl : j = 4 := by omega
      have dj : decide (((4 : Nat) : Int) < 4) = false := decide_eq_false (by omega)
      rw [splice_all _ _ (by rw [nc_length, List.length_replicate]), nc_bc] at HR
      have hcv := str_of (x := Wl.put n 4) (range_all HR.out) 4
      rw [Wl.put_size] at hcv
      have HB1 : Hid (Below w.heap.size w wr) := by
        rw [hwr]; exact below_setCells (Nat.le_refl _) _ _ _ HB0.out
      clear hwr HR
      go_wp2
      go_ret
      exact ⟨rfl, HB1.out⟩
theorem i64_or_nat (a b : Nat) (ha : a < 4294967296) (hb : b < 4294967296) : bits .or .i64 (a : Int) (b : Int) = ((a ||| b : Nat) : Int) := by
  have hx : a ||| b < 2 ^ 32 := Nat.or_lt_two_pow (by omega) (by omega)
  show IntKind.i64.wrap ((BitVec.ofInt 64 (a : Int) ||| BitVec.ofInt 64 (b : Int)).toNat : Int) = _
  rw [BitVec.toNat_or, ofInt_u64 a (by omega), ofInt_u64 b (by omega), IntKind.wrap_i64]
  omega
theorem or_i64 (a x j : Nat) (ha : a < 256 ^ j) (hx : x < 256) (hj : j < 4) : bits .or .i64 (a : Int) (wrap64 ((x : Int) * 2 ^ (8 * j))) = ((a + 256 ^ j * x : Nat) : Int) := by
  rw [pow256] at ha ⊢
  have hp : 2 ^ (8 * j) * 256 ≤ 4294967296 := by
    have h1 : 2 ^ (8 * j) * 256 = 2 ^ (8 * j + 8) := by rw [Nat.pow_add]
    have h2 : 2 ^ (8 * j + 8) ≤ 2 ^ 32 := Nat.pow_le_pow_right (by omega) (by omega)
    rw [h1]
    exact h2
  have hx2 : 2 ^ (8 * j) * x < 4294967296 := by
    have h1 : 2 ^ (8 * j) * (x + 1) ≤ 2 ^ (8 * j) * 256 := Nat.mul_le_mul_left _ (by omega)
    have h2 := Nat.two_pow_pos (8 * j)
    rw [Nat.mul_add] at h1
    omega
  have e1 : (x : Int) * 2 ^ (8 * j) = ((2 ^ (8 * j) * x : Nat) : Int) := by push_cast; rw [Int.mul_comm]
  have e2 : wrap64 ((2 ^ (8 * j) * x : Nat) : Int) = ((2 ^ (8 * j) * x : Nat) : Int) := by unfold wrap64; omega
  have h3 : 2 ^ (8 * j) ≤ 4294967296 := by omega
  rw [e1, e2, i64_or_nat _ _ (by omega) (by omega), Nat.or_comm, ← Nat.two_pow_add_eq_or_of_lt ha, Nat.add_comm]
set_option maxHeartbeats 1000000 in
theorem dnumber_any (s : ByteArray) (w : World) (hs : 4 ≤ s.size) :
    Calls Tryz.prog 102 #[.string s] w fun e w' => e = .returned (.int .i64 (Pd.numb s : Nat)) ∧ w' = w := by
  have HZ : Hid (s.size = s.data.toList.length) := Sc.size_eq s
  go_enter Tryz.func102, Tryz.ntmps102
  go_wp2_with fail
  go_loopw [3, 4, 5] (fun s3 _ s5 wr => ∃ j : Nat, j ≤ 4 ∧ s5 = .int .i64 (j : Int) ∧ s3 = .int .i64 ((Wl.getL (s.data.toList.take j) : Nat) : Int) ∧ wr = w) (fun _ _ s5 _ => 4 - (intOf s5).toNat)
  case atStart => exact ⟨0, by omega, rfl, rfl, rfl⟩
  case round =>
    obtain ⟨j, hj, rfl, rfl, hwr⟩ := hrel
    subst hwr
    by_cases hjk : j < 4
    · have hsz := HZ.out
      obtain ⟨c, hc⟩ : ∃ c, s.data.toList[j]? = some c := ⟨_, List.getElem?_eq_getElem (by omega)⟩
      have hb : ∀ h, (s[j]'h) = c := fun h => byte_at s j c hc h
      have dj : decide ((j : Int) < 4) = true := decide_eq_true (by omega)
      have j0 : (0 : Int) ≤ (j : Int) := by omega
      have j1 : (j : Int) < (s.size : Int) := by omega
      have hg := Wl.getL_lt (s.data.toList.take j)
      rw [List.length_take, Nat.min_eq_left (by omega)] at hg
      have hsn : Wl.getL (s.data.toList.take (j + 1)) = Wl.getL (s.data.toList.take j) + 256 ^ j * c.toNat := by
        have hjl : j < s.data.toList.length := by omega
        have e := Wl.getL_split (s.data.toList.take (j + 1)) j (by rw [List.length_take]; omega)
        have hc2 := (List.getElem?_eq_some_iff.1 hc).2
        rw [List.take_take, Nat.min_eq_left (by omega), List.take_succ_eq_append_getElem hjl, List.drop_left' (by rw [List.length_take]; omega), hc2] at e
        rw [List.take_succ_eq_append_getElem hjl, hc2, e]
        simp [Wl.getL]
      have hor := or_i64 (Wl.getL (s.data.toList.take j)) c.toNat j hg c.toNat_lt (by omega)
      rw [← hsn] at hor
      have HFN : Hid (∃ j' : Nat, j' ≤ 4 ∧ Value.int .i64 ((j : Int) + 1) = .int .i64 (j' : Int) ∧ Value.int .i64 ((Wl.getL (s.data.toList.take (j + 1)) : Nat) : Int) = .int .i64 ((Wl.getL (s.data.toList.take j') : Nat) : Int)) := ⟨j + 1, by omega, by go_num, rfl⟩
      have hw8 : IntKind.i64.wrap (8 * (j : Int)) = 8 * (j : Int) := by rw [IntKind.wrap_i64]; omega
      have hwc : IntKind.i64.wrap (c.toNat : Int) = (c.toNat : Int) := by rw [IntKind.wrap_i64]; have := c.toNat_lt; omega
      clear hsn hc hsz
      generalize Wl.getL (s.data.toList.take (j + 1)) = z at *
      generalize Wl.getL (s.data.toList.take j) = y at *
      go_wp2
      go_roundw
      case rel =>
        obtain ⟨j', h1, h2, h3⟩ := HFN.out
        exact ⟨j', h1, h2, h3, trivial⟩
      case measure => (simp [intOf]) <;> omega
    · obtain rfl : j = 4 := by omega
      have dj : decide (((4 : Nat) : Int) < 4) = false := decide_eq_false (by omega)
      have HE : Hid (Wl.getL (s.data.toList.take 4) = Pd.numb s) := rfl
      generalize Wl.getL (s.data.toList.take 4) = z at *
      go_wp2
      go_ret
      exact ⟨by rw [HE.out]; rfl, rfl⟩
theorem rsize_any (k : Nat) (w : World) (hk : k ≤ 100000) :
    Calls Tryz.prog 91 #[.int .i64 (k : Int)] w fun e w' => e = .returned (.int .i64 ((4 + 516 * k : Nat) : Int)) ∧ w' = w := by
  have h1 : IntKind.i64.wrap (516 * (k : Int)) = 516 * (k : Int) := by rw [IntKind.wrap_i64]; omega
  have h2 : IntKind.i64.wrap (4 + 516 * (k : Int)) = ((4 + 516 * k : Nat) : Int) := by rw [IntKind.wrap_i64]; omega
  go_enter Tryz.func91, Tryz.ntmps91
  go_wp2
  go_ret
  refine ⟨?_, rfl⟩
  first | rfl | (congr 2; omega)
def isR (i : Int) : Bool := decide (0 ≤ i) && decide (i < 4)
theorem isroot_any (i : Int) (w : World) :
    Calls Tryz.prog 52 #[.int .i64 i] w fun e w' => e = .returned (.bool (isR i)) ∧ w' = w := by
  unfold isR
  by_cases h1 : 0 ≤ i
  · have d1 : decide (0 ≤ i) = true := decide_eq_true h1
    have d1' : decide (i ≥ 0) = true := decide_eq_true h1
    by_cases h2 : i < 4
    · have d2 : decide (i < 4) = true := decide_eq_true h2
      go_enter Tryz.func52, Tryz.ntmps52
      go_wp2
      go_ret
      exact ⟨by first | rfl | (rw [d1, d2]; rfl), rfl⟩
    · have d2 : decide (i < 4) = false := decide_eq_false h2
      go_enter Tryz.func52, Tryz.ntmps52
      go_wp2
      go_ret
      exact ⟨by first | rfl | (rw [d1, d2]; rfl), rfl⟩
  · have d1 : decide (0 ≤ i) = false := decide_eq_false h1
    have d1' : decide (i ≥ 0) = false := decide_eq_false h1
    go_enter Tryz.func52, Tryz.ntmps52
    go_wp2
    go_ret
    exact ⟨by first | rfl | (rw [d1]; rfl), rfl⟩
end Go.Proofs.YtcfninpokngmlaaGreatDoor
/- Proved: a map of pages in memory: what it tells, and how it is turned. -/
namespace Go.Proofs.YtcfninpokngmlaaGreatDoor
open Go.RowKit Go.Maps Go.MapKept
def shV (x : Pd.Sheet) : Value := .agg #[.int .i64 (x.kind : Int), .string x.body]
def shD (x : Pd.Sheet) : DataW Unit := .agg [.lit (.int .i64 (x.kind : Int)), .lit (.string x.body.data.toList)]
def shL : List Value → Option (DataW Unit × List MemPlace)
  | [.int .i64 k, .string b] => if 0 ≤ k then some (.agg [.lit (.int .i64 k), .lit (.string b.data.toList)], []) else none
  | _ => none
def shR : Value → Option (DataW Unit × List MemPlace)
  | .agg a => shL a.toList
  | _ => none
theorem shR_mk (x : Pd.Sheet) : shR (shV x) = some (shD x, []) := by
  show (if (0 : Int) ≤ (x.kind : Int) then some _ else none) = _
  rw [if_pos (by omega)]
  rfl
theorem shR_inv {v : Value} {y : DataW Unit × List MemPlace} (h : shR v = some y) : ∃ x : Pd.Sheet, v = shV x ∧ y = (shD x, []) := by
  unfold shR at h
  split at h
  · rename_i a
    unfold shL at h
    split at h
    · rename_i k b e
      split at h
      · rename_i hk
        obtain ⟨n, rfl⟩ := Int.eq_ofNat_of_zero_le hk
        refine ⟨⟨n, b⟩, ?_, ?_⟩
        · unfold shV
          rw [← Array.toArray_toList (xs := a), e]
        · cases h
          rfl
      · cases h
    · cases h
  · cases h
theorem shD_inj {x y : Pd.Sheet} (h : shD x = shD y) : x = y := by
  obtain ⟨k, b⟩ := x
  obtain ⟨k', b'⟩ := y
  unfold shD at h
  simp only [DataW.agg.injEq, List.cons.injEq, DataW.lit.injEq, Lit.int.injEq, Lit.string.injEq, and_true, true_and] at h
  have h1 : k = k' := by omega
  have h2 : b = b' := Wl.ext_list h.2
  rw [h1, h2]
def keyL (i : Nat) : Lit := .int .i64 (i : Int)
def dM (m : Pd.Mp) : DataW Unit := .map (m.map fun p => (keyL p.1, shD p.2))
theorem same_key (i j : Nat) : (keyL i).sameKey (keyL j) = decide (i = j) := by
  show decide (IntKind.i64 = IntKind.i64 ∧ (i : Int) = (j : Int)) = _
  by_cases h : i = j
  · rw [decide_eq_true h, decide_eq_true ⟨rfl, by omega⟩]
  · rw [decide_eq_false h, decide_eq_false (fun e => h (by omega))]
theorem before_key (i j : Nat) : (keyL i).before (keyL j) = decide (i < j) := by
  show decide ((i : Int) < (j : Int)) = _
  by_cases h : i < j
  · rw [decide_eq_true h, decide_eq_true (by omega)]
  · rw [decide_eq_false h, decide_eq_false (by omega)]
def strike (i : Nat) (m : Pd.Mp) : Pd.Mp := m.filter fun p => !decide (p.1 = i)
theorem strike_map (i : Nat) (m : Pd.Mp) : (m.map fun p => (keyL p.1, shD p.2)).filter (fun p => !p.1.sameKey (keyL i)) = (strike i m).map fun p => (keyL p.1, shD p.2) := by
  unfold strike
  rw [List.filter_map]
  refine congrArg _ (List.filter_congr fun p _ => ?_)
  show (!(keyL p.1).sameKey (keyL i)) = _
  rw [same_key]
theorem strike_none {i : Nat} : ∀ {m : Pd.Mp}, (∀ p ∈ m, p.1 ≠ i) → strike i m = m := fun {m} h => by
  unfold strike
  refine List.filter_eq_self.2 fun p hp => ?_
  rw [decide_eq_false (h p hp)]
  rfl
theorem insert_set (i : Nat) (x : Pd.Sheet) : ∀ (m : Pd.Mp), Pd.Up m → DataW.insert (keyL i, shD x) ((strike i m).map fun p => (keyL p.1, shD p.2)) = (Pd.set m i x).map fun p => (keyL p.1, shD p.2)
  | [], _ => rfl
  | q :: m, h => by
    have h1 := (List.pairwise_cons.1 h).1
    have h2 : Pd.Up m := (List.pairwise_cons.1 h).2
    unfold Pd.set
    by_cases hlt : i < q.1
    · rw [if_pos hlt, strike_none (fun p hp => by
        rcases List.mem_cons.1 hp with rfl | hp
        · omega
        · have := h1 p hp; omega)]
      show (if (keyL i).before (keyL q.1) then _ else _) = _
      rw [before_key, decide_eq_true hlt, if_pos rfl]
      rfl
    · rw [if_neg hlt]
      by_cases he : q.1 = i
      · rw [if_pos he]
        have e : strike i (q :: m) = m := by
          unfold strike
          rw [List.filter_cons_of_neg (by rw [decide_eq_true he]; decide)]
          exact strike_none (fun p hp => by have := h1 p hp; omega)
        rw [e]
        cases m with
        | nil => rfl
        | cons r m =>
          have := h1 r List.mem_cons_self
          show (if (keyL i).before (keyL r.1) then _ else _) = _
          rw [before_key, decide_eq_true (by omega), if_pos rfl]
          rfl
      · rw [if_neg he]
        have e : strike i (q :: m) = q :: strike i m := by
          unfold strike
          rw [List.filter_cons_of_pos (by rw [decide_eq_false he]; rfl)]
        rw [e]
        show (if (keyL i).before (keyL q.1) then _ else _) = _
        rw [before_key, decide_eq_false hlt, if_neg (by decide)]
        show (keyL q.1, shD q.2) :: DataW.insert (keyL i, shD x) ((strike i m).map fun p => (keyL p.1, shD p.2)) = _
        rw [insert_set i x m h2]
        rfl
theorem put_dM {m : Pd.Mp} (h : Pd.Up m) (i : Nat) (x : Pd.Sheet) : (dM m).put (keyL i) (shD x) = dM (Pd.set m i x) := by
  show DataW.map (DataW.insert (keyL i, shD x) ((m.map fun p => (keyL p.1, shD p.2)).filter fun p => !p.1.sameKey (keyL i))) = _
  rw [strike_map, insert_set i x m h]
  rfl
theorem find_dM (i : Nat) : ∀ (m : Pd.Mp), (m.map fun p => (keyL p.1, shD p.2)).find? (fun p => p.1.sameKey (keyL i)) = (Pd.get m i).map fun x => (keyL i, shD x)
  | [] => rfl
  | q :: m => by
    rw [List.map_cons, List.find?_cons]
    show (match (keyL q.1).sameKey (keyL i) with | true => _ | false => _) = _
    rw [same_key]
    unfold Pd.get
    by_cases h : q.1 = i
    · rw [decide_eq_true h, if_pos h, h]
      rfl
    · rw [decide_eq_false h, if_neg h]
      exact find_dM i m
theorem at_dM (m : Pd.Mp) (i : Nat) (z : DataW Unit) : (dM m).atKey (keyL i) z = match Pd.get m i with | some x => shD x | none => z := by
  unfold dM DataW.atKey
  simp only
  rw [find_dM]
  cases Pd.get m i <;> rfl
theorem has_dM (m : Pd.Mp) (i : Nat) : Maps.has (dM m) (keyL i) = (Pd.get m i).isSome := by
  show (m.map fun p => (keyL p.1, shD p.2)).any (fun p => p.1.sameKey (keyL i)) = _
  have e : ∀ (l : List (Lit × DataW Unit)) (f : Lit × DataW Unit → Bool), l.any f = (l.find? f).isSome := fun l f => by
    induction l with
    | nil => rfl
    | cons x l ih =>
      rw [List.any_cons, List.find?_cons, ih]
      cases f x <;> rfl
  rw [e, find_dM]
  cases Pd.get m i <;> rfl
theorem size_dM (m : Pd.Mp) : Maps.size (dM m) = m.length := by
  show (m.map fun p => (keyL p.1, shD p.2)).length = _
  rw [List.length_map]
theorem has_key {m : Pd.Mp} {kl : Lit} (h : Maps.has (dM m) kl = true) : ∃ p ∈ m, kl = keyL p.1 := by
  have h : (m.map fun p => (keyL p.1, shD p.2)).any (fun p => p.1.sameKey kl) = true := h
  obtain ⟨q, hq, hs⟩ := List.any_eq_true.1 h
  obtain ⟨p, hp, rfl⟩ := List.mem_map.1 hq
  exact ⟨p, hp, (WideAt.sameKey_eq hs).symm⟩
/- block b is a map that has these pages -/
structure MpAt (w : World) (b : Nat) (m : Pd.Mp) : Prop where
  up : Pd.Up m
  own : w.ownsMap Tryz.prog 3 shR b m.length (dM m)
theorem own_exact {w : World} {b n : Nat} {m : Pd.Mp} (h : w.ownsMap Tryz.prog 3 shR b n (dM m)) : w.ownsMap Tryz.prog 3 shR b m.length (dM m) := by
  obtain ⟨es, clock, hb, F, hs, hD⟩ := h
  refine ⟨es, clock, hb, F, ?_, hD⟩
  have h1 := congrArg Maps.size hD
  rw [size_dM] at h1
  rw [h1]
  show es.size ≤ _
  rw [show Maps.size (DataW.map ((es.toList.map (WideElems.rg Tryz.prog 3 shR)).foldr DataW.insert [])) = ((es.toList.map (WideElems.rg Tryz.prog 3 shR)).foldr DataW.insert []).length from rfl, length_read]
  exact Nat.le_refl _
theorem MpAt.lt {w : World} {b : Nat} {m : Pd.Mp} (h : MpAt w b m) : b < w.heap.size := h.own.lt
theorem MpAt.keep {w w' : World} {b : Nat} {m : Pd.Mp} (h : MpAt w b m) (hb : w'.heap[b]? = w.heap[b]?) : MpAt w' b m := by
  obtain ⟨es, clock, hb0, F, hs, hD⟩ := h.own
  exact ⟨h.up, es, clock, hb.trans hb0, F, hs, hD⟩
theorem MpAt.chg {w w' : World} {b : Nat} {m : Pd.Mp} (h : MpAt w b m) {fs : List Nat} (hc : Chg fs w w') (ha : b ∉ fs) : MpAt w' b m := h.keep (hc.block b h.lt ha)
theorem MpAt.below {w w' : World} {b : Nat} {m : Pd.Mp} (h : MpAt w b m) (hB : Below w.heap.size w w') : MpAt w' b m := h.keep (hB.block b h.lt)
theorem MpAt.alloc {w : World} {b : Nat} {m : Pd.Mp} (h : MpAt w b m) (o : Obj) : MpAt (w.alloc o) b m := ⟨h.up, h.own.alloc o⟩
theorem MpAt.made (w : World) : MpAt (w.alloc (.map #[] 0)) w.heap.size [] := ⟨Pd.up_nil, World.ownsMap_made w Tryz.prog 3 shR⟩
theorem lawI : Keyed Tryz.prog 3 := int_keyed Tryz.underlying3
theorem wfI {i : Nat} (h : i ≤ 9223372036854775807) : (Lit.int .i64 (i : Int)).wf = true := WalkArith.wf_i64 (by omega)
theorem keyI {i : Nat} (h : i ≤ 9223372036854775807) : keyOf Tryz.prog 3 (.int .i64 (i : Int)) = some (keyL i) := keyOf_int_mk Tryz.underlying3 (wfI h)
def sh00 : Pd.Sheet := ⟨0, Pd.none0⟩
theorem zeroSh (w : World) : (zeroValue 102).run Tryz.prog w = .ok (shV sh00) w := by kernel_rfl
/- laws for the walk -/
section
variable (w : World) {ops : Array Oper} {rest : List Oper} {o : Oper} {a : Act} {Q : Exit → Act → World → Prop}
theorem mp_look_ok (hg : o.guard = none) (mo x : Operand) (hop : o.op = Op.lookup 59 mo x true) (b : Nat) (m : Pd.Mp) (hm : a.eval mo = .map (some b)) (hM : MpAt w b m) (i : Nat) (hi : i ≤ 9223372036854775807) (hx : a.eval x = .int .i64 (i : Int))
    (hK : wpList Tryz.prog ops Q rest (a.put o.dst (.tuple #[shV ((Pd.get m i).getD sh00), .bool (Pd.get m i).isSome])) w) : wpList Tryz.prog ops Q (o :: rest) a w := by
  refine wpList_lookup_own_ok w hg mo x 59 hop 3 102 lawI Tryz.underlying59 shR (zeroSh w) (shD sh00) [] (shR_mk sh00) b m.length (dM m) hm hM.own _ (keyL i) hx (keyI hi) (fun v ps hv => ?_)
  obtain ⟨y, rfl, hy⟩ := shR_inv hv
  rw [has_dM]
  rw [at_dM] at hy
  have e : y = (Pd.get m i).getD sh00 := by
    cases hg : Pd.get m i with
    | none => rw [hg] at hy; exact (shD_inj (congrArg Prod.fst hy)).symm
    | some z => rw [hg] at hy; exact (shD_inj (congrArg Prod.fst hy)).symm
  rw [e]
  exact hK
theorem mp_look (hg : o.guard = none) (mo x : Operand) (hop : o.op = Op.lookup 59 mo x false) (b : Nat) (m : Pd.Mp) (hm : a.eval mo = .map (some b)) (hM : MpAt w b m) (i : Nat) (hi : i ≤ 9223372036854775807) (hx : a.eval x = .int .i64 (i : Int))
    (hK : wpList Tryz.prog ops Q rest (a.put o.dst (shV ((Pd.get m i).getD sh00))) w) : wpList Tryz.prog ops Q (o :: rest) a w := by
  refine wpList_plain hg fun K' hK' => ?_
  obtain ⟨v, ps, hrun, hv⟩ := hM.own.lookup lawI Tryz.underlying59 (zeroSh w) (shR_mk sh00) (keyI hi)
  obtain ⟨y, rfl, hy⟩ := shR_inv hv
  rw [at_dM] at hy
  have e : y = (Pd.get m i).getD sh00 := by
    cases hg : Pd.get m i with
    | none => rw [hg] at hy; exact (shD_inj (congrArg Prod.fst hy)).symm
    | some z => rw [hg] at hy; exact (shD_inj (congrArg Prod.fst hy)).symm
  rw [e] at hrun
  unfold Oper.wp
  simp [execOp, hop, hm, hx, hrun, Result.andThen]
  exact hK' _ _ hK
theorem mp_put (hg : o.guard = none) (mo x v : Operand) (hop : o.op = Op.mapUpdate 59 mo x v) (b : Nat) (m : Pd.Mp) (hm : a.eval mo = .map (some b)) (hM : MpAt w b m) (hl : m.length ≤ 100000) (i : Nat) (hi : i ≤ 9223372036854775807) (hx : a.eval x = .int .i64 (i : Int)) (y : Pd.Sheet) (hv : a.eval v = shV y)
    (hK : ∀ w', MpAt w' b (Pd.set m i y) → w.grownBy w' (some b) → wpList Tryz.prog ops Q rest (a.put o.dst undef) w') : wpList Tryz.prog ops Q (o :: rest) a w := by
  refine wpList_mapUpdate_own w hg mo x v 59 hop 3 102 lawI Tryz.underlying59 shR b m.length (dM m) hm hM.own (by unfold maxLen; omega) _ _ (keyL i) hx hv (keyI hi) (shD y) [] (shR_mk y) (fun w' ho hg => ?_)
  rw [put_dM hM.up] at ho
  exact hK w' ⟨hM.up.set y i, own_exact ho⟩ hg
theorem mp_len (hg : o.guard = none) (mo : Operand) (hop : o.op = Op.call { callee := Callee.builtin Builtin.len, args := #[mo], argTypes := #[59] }) (b : Nat) (m : Pd.Mp) (hm : a.eval mo = .map (some b)) (hM : MpAt w b m)
    (hK : wpList Tryz.prog ops Q rest (a.put o.dst (.int .i64 (m.length : Int))) w) : wpList Tryz.prog ops Q (o :: rest) a w := by
  refine wpList_len_own w hg mo 59 hop 3 102 Tryz.underlying59 shR b m.length (dM m) hm hM.own ?_
  rw [size_dM]
  exact hK
end
end Go.Proofs.YtcfninpokngmlaaGreatDoor
/- Proved: what pagedb's sealed, freeSheet, readFree, and its states' sound, sheet and readState answer. -/
namespace Go.Proofs.YtcfninpokngmlaaGreatDoor
open Go.RowKit
def shA (x : Pd.Sheet) : Array Value := #[.int .i64 (x.kind : Int), .string x.body]
def stA (t : Pd.Stt) : Array Value := #[.int .i64 (t.high : Int), .int .i64 (t.free : Int), .int .i64 (t.last : Int), .int .i64 (t.r0 : Int), .int .i64 (t.r1 : Int), .int .i64 (t.r2 : Int), .int .i64 (t.r3 : Int)]
def stV (t : Pd.Stt) : Value := .agg (stA t)
theorem sizeSh : (Tryz.prog.info? 102).map (·.size) = some 2 := by kernel_rfl
theorem sizeSt : (Tryz.prog.info? 58).map (·.size) = some 7 := by kernel_rfl
theorem row2 {w : World} {g t : Nat} {a b : Value} (h : w.heap[g]? = some (.cells #[a, b] t (0, 0))) (x y : Value) : ((w.setCell ⟨g, 0, none⟩ x).setCell ⟨g, 1, none⟩ y).heap[g]? = some (.cells #[x, y] t (0, 0)) := setCells_splice g t [x, y] 0 [a, b] w h (by simp)
theorem row7 {w : World} {g t : Nat} {a0 a1 a2 a3 a4 a5 a6 : Value} (h : w.heap[g]? = some (.cells #[a0, a1, a2, a3, a4, a5, a6] t (0, 0))) (x0 x1 x2 x3 x4 x5 x6 : Value) : (w.setCells g 0 [x0, x1, x2, x3, x4, x5, x6]).heap[g]? = some (.cells #[x0, x1, x2, x3, x4, x5, x6] t (0, 0)) := setCells_splice g t [x0, x1, x2, x3, x4, x5, x6] 0 [a0, a1, a2, a3, a4, a5, a6] w h (by simp)
theorem results_sh {fn : Func} {p : Tmp} (h : fn.results = #[.cell p 102]) (tmps : Array Value) (w : World) (g t : Nat) (x y : Value) (hp : tmps.getD p undef = .pointer (some ⟨g, 0, none⟩)) (hg : w.heap[g]? = some (.cells #[x, y] t (0, 0))) :
    (results fn tmps).run Tryz.prog w = .ok (.agg #[x, y]) w := results_cell_row h tmps w g t #[x, y] (0, 0) _ hp hg Tryz.underlying102 rfl sizeSh
theorem results_she {fn : Func} {p u : Tmp} (h : fn.results = #[.cell p 102, .tmp u]) (tmps : Array Value) (w : World) (g t : Nat) (x y v : Value) (hp : tmps.getD p undef = .pointer (some ⟨g, 0, none⟩)) (hv : tmps.getD u undef = v) (hg : w.heap[g]? = some (.cells #[x, y] t (0, 0))) :
    (results fn tmps).run Tryz.prog w = .ok (.tuple #[.agg #[x, y], v]) w := by
  have hp' : tmps[p]?.getD undef = .pointer (some ⟨g, 0, none⟩) := by simpa using hp
  have hv' : tmps[u]?.getD undef = v := by simpa using hv
  simp [results, h, hp', hv', asAddr, run_loadVar_row w g t 102 #[x, y] (0, 0) _ hg Tryz.underlying102 rfl sizeSh]
theorem results_stb {fn : Func} {p u : Tmp} (h : fn.results = #[.cell p 58, .tmp u]) (tmps : Array Value) (w : World) (g t : Nat) (s : Pd.Stt) (v : Value) (hp : tmps.getD p undef = .pointer (some ⟨g, 0, none⟩)) (hv : tmps.getD u undef = v) (hg : w.heap[g]? = some (.cells (stA s) t (0, 0))) :
    (results fn tmps).run Tryz.prog w = .ok (.tuple #[stV s, v]) w := by
  have hp' : tmps[p]?.getD undef = .pointer (some ⟨g, 0, none⟩) := by simpa using hp
  have hv' : tmps[u]?.getD undef = v := by simpa using hv
  have hl := run_loadVar_row w g t 58 (stA s) (0, 0) _ hg Tryz.underlying58 rfl sizeSt
  unfold stV
  simp [results, h, hp', hv', asAddr, hl]
set_option maxHeartbeats 1000000 in
theorem sealed_any (id : Nat) (x : Pd.Sheet) (w : World) (hT : Tab w) (hx : x.Fine) (hi : id ≤ 2147483647) :
    Calls Tryz.prog 105 #[.int .i64 (id : Int), shV x] w fun e w' => e = .returned (.string (Pd.pageOf id x)) ∧ Below w.heap.size w w' := by
  have HT : Hid (Tab w) := hT
  have HB0 : Hid (Below w.heap.size w (w.alloc (.cells (shA x) 102))) := (Below.refl _ _).alloc (Nat.le_refl _) _
  have HS : Hid (Calls Tryz.prog 117 #[.int .i64 (id : Int), .int .i64 (x.kind : Int), .string x.body] (w.alloc (.cells (shA x) 102)) fun e w' => e = .returned (.tuple #[.string (Pd.pageOf id x), .int .i64 (Pg.sealE (id : Int) (x.kind : Int) x.body)]) ∧ Below (w.alloc (.cells (shA x) 102)).heap.size (w.alloc (.cells (shA x) 102)) w') := by
    have := seal_any (id : Int) (x.kind : Int) x.body (w.alloc (.cells (shA x) 102)) (hT.below HB0.out hT.pos)
    rw [Pd.pageOf_seal hx hi] at this
    exact this
  have h0 : (w.alloc (.cells (shA x) 102)).cell? ⟨w.heap.size, 0, none⟩ = some (.int .i64 (x.kind : Int)) := cell_of_row _ _ _ _ _ (0, 0) (heap_alloc_new w _)
  have h1 : (w.alloc (.cells (shA x) 102)).cell? ⟨w.heap.size, 1, none⟩ = some (.string x.body) := cell_of_row _ _ _ _ _ (0, 0) (heap_alloc_new w _)
  generalize Pg.sealE (id : Int) (x.kind : Int) x.body = e0 at *
  generalize Pd.pageOf id x = pg at *
  clear hT hx
  unfold shV
  change Calls Tryz.prog 105 #[.int .i64 (id : Int), .agg (shA x)] w _
  go_enter Tryz.func105, Tryz.ntmps105
  go_wp2_with (first | (generalize World.alloc w _ = w0 at *; fail) | fail)
  generalize World.alloc w _ = w0 at *
  go_wp2_with fail
  refine HS.out.mono ?_
  rintro e w1 ⟨rfl, hB1⟩
  have HB1 : Hid (Below w.heap.size w w1) := below_next HB0.out hB1 HB0.out.size
  clear hB1 HS
  go_wp2
  go_ret
  exact ⟨rfl, HB1.out⟩
set_option maxHeartbeats 1000000 in
theorem freeSheet_any (n : Nat) (w : World) :
    Calls Tryz.prog 66 #[.int .i64 (n : Int)] w fun e w' => e = .returned (shV (Pd.freeSheet n)) ∧ Below w.heap.size w w' := by
  have hz := zeroSh
  unfold shV sh00 Pd.none0 at hz
  show Calls Tryz.prog 66 #[.int .i64 (n : Int)] w fun e w' => e = .returned (.agg #[.int .i64 255, .string (Wl.put n 4)]) ∧ Below w.heap.size w w'
  have HB0 : Hid (Below w.heap.size w (w.alloc (.cells #[.int .i64 0, .string ⟨#[]⟩] 102))) := (Below.refl _ _).alloc (Nat.le_refl _) _
  have HR0 : Hid ((w.alloc (.cells #[.int .i64 0, .string ⟨#[]⟩] 102)).heap[w.heap.size]? = some (.cells #[.int .i64 0, .string ⟨#[]⟩] 102 (0, 0))) := heap_alloc_new w _
  have HN : Hid (∀ W, Calls Tryz.prog 90 #[.int .i64 (n : Int)] W fun e w' => e = .returned (.string (Wl.put n 4)) ∧ Below W.heap.size W w') := fun W => ntext_any n W
  go_enter Tryz.func66, Tryz.ntmps66
  go_wp2_with fail
  generalize World.alloc w _ = w0 at *
  refine (HN.out w0).mono ?_
  rintro e w1 ⟨rfl, hB1⟩
  have HB1 : Hid (Below w.heap.size w w1) := below_next HB0.out hB1 HB0.out.size
  have HR1 : Hid (w1.heap[w.heap.size]? = some (.cells #[.int .i64 0, .string ⟨#[]⟩] 102 (0, 0))) := heap_next HR0.out hB1
  clear hB1 HN HB0 HR0
  have f0 := frozen_of_row w1 w.heap.size 0 _ _ HR1.out
  have f1 := frozen_of_row w1 w.heap.size 1 _ _ HR1.out
  have c0 : w1.cell? ⟨w.heap.size, 0, none⟩ = some (.int .i64 0) := cell_of_row _ _ _ _ _ (0, 0) HR1.out
  have c1 : w1.cell? ⟨w.heap.size, 1, none⟩ = some (.string ⟨#[]⟩) := cell_of_row _ _ _ _ _ (0, 0) HR1.out
  go_wp2
  exact bodyPost_ret (results_sh Tryz.results66 _ _ w.heap.size 102 _ _ rfl (row2 HR1.out _ _)) rfl ⟨rfl, (HB1.out.setCell (by simp) _).setCell (by simp) _⟩
end Go.Proofs.YtcfninpokngmlaaGreatDoor
/- Proved: what pagedb's readFree, and its states' sound and sheet answer. -/
namespace Go.Proofs.YtcfninpokngmlaaGreatDoor
open Go.RowKit
set_option maxHeartbeats 1000000 in
theorem readFree_any (n : Nat) (w : World) (hn : n < 4294967296) :
    Calls Tryz.prog 86 #[shV (Pd.freeSheet n)] w fun e w' => e = .returned (.tuple #[.int .i64 (n : Int), .bool true]) ∧ Below w.heap.size w w' := by
  have HB0 : Hid (Below w.heap.size w (w.alloc (.cells #[.int .i64 255, .string (Wl.put n 4)] 102))) := (Below.refl _ _).alloc (Nat.le_refl _) _
  have hs := Wl.put_size n 4
  have HN : Hid (∀ W, Calls Tryz.prog 102 #[.string (Wl.put n 4)] W fun e w' => e = .returned (.int .i64 (n : Int)) ∧ w' = W) := fun W => by
    have := dnumber_any (Wl.put n 4) W (by rw [hs]; omega)
    rw [Pd.numb_put0 n hn] at this
    exact this
  show Calls Tryz.prog 86 #[.agg #[.int .i64 255, .string (Wl.put n 4)]] w _
  generalize Wl.put n 4 = p at *
  have c0 : (w.alloc (.cells #[.int .i64 255, .string p] 102)).cell? ⟨w.heap.size, 0, none⟩ = some (.int .i64 255) := cell_of_row _ _ _ _ _ (0, 0) (heap_alloc_new w _)
  have c1 : (w.alloc (.cells #[.int .i64 255, .string p] 102)).cell? ⟨w.heap.size, 1, none⟩ = some (.string p) := cell_of_row _ _ _ _ _ (0, 0) (heap_alloc_new w _)
  go_enter Tryz.func86, Tryz.ntmps86
  go_wp2_with fail
  refine (HN.out _).mono ?_
  rintro e w1 ⟨rfl, rfl⟩
  go_wp2
  go_ret2
  exact ⟨rfl, HB0.out⟩
set_option maxHeartbeats 2000000 in
set_option maxRecDepth 20000 in
theorem sound_yes (t : Pd.Stt) (cnt : Nat) (w : World) (h : t.Small cnt) :
    Calls Tryz.prog 87 #[stV t, .int .i64 (cnt : Int)] w fun e w' => e = .returned (.bool true) ∧ Below w.heap.size w w' := by
  have HB0 : Hid (Below w.heap.size w (w.alloc (.cells (stA t) 58))) := (Below.refl _ _).alloc (Nat.le_refl _) _
  have HR0 : Hid ((w.alloc (.cells (stA t) 58)).heap[w.heap.size]? = some (.cells (stA t) 58 (0, 0))) := heap_alloc_new w _
  show Calls Tryz.prog 87 #[.agg (stA t), .int .i64 (cnt : Int)] w _
  obtain ⟨a0, a1, a2, a3, a4, a5, a6⟩ := t
  obtain ⟨h1, h2, h3, h4, h5, h6, h7, h8⟩ := h
  simp only at h1 h2 h3 h4 h5 h6 h7 h8
  have d0 : decide ((2147483647 : Int) < (a3 : Int)) = false := decide_eq_false (by omega)
  have d1 : decide ((2147483647 : Int) < (a4 : Int)) = false := decide_eq_false (by omega)
  have d2 : decide ((2147483647 : Int) < (a5 : Int)) = false := decide_eq_false (by omega)
  have d3 : decide ((2147483647 : Int) < (a6 : Int)) = false := decide_eq_false (by omega)
  have e0 : decide ((a0 : Int) ≤ (cnt : Int)) = true := decide_eq_true (by omega)
  have e1 : decide ((a1 : Int) < (a0 : Int)) = true := decide_eq_true (by omega)
  have e2 : decide ((a2 : Int) < (a0 : Int)) = true := decide_eq_true (by omega)
  have e3 : (((a1 : Int) == 0) == ((a2 : Int) == 0)) = true := by
    by_cases z : a1 = 0
    · have z2 := h4.1 z
      rw [z, z2]; rfl
    · have z2 : ¬ a2 = 0 := fun e => z (h4.2 e)
      have y1 : ((a1 : Int) == 0) = false := beq_false_of_ne (by omega)
      have y2 : ((a2 : Int) == 0) = false := beq_false_of_ne (by omega)
      rw [y1, y2]; rfl
  clear h4 h5 h6 h7 h8
  unfold stA at *
  simp only at HB0 HR0 ⊢
  have c0 : (w.alloc (.cells #[.int .i64 (a0 : Int), .int .i64 (a1 : Int), .int .i64 (a2 : Int), .int .i64 (a3 : Int), .int .i64 (a4 : Int), .int .i64 (a5 : Int), .int .i64 (a6 : Int)] 58)).cell? ⟨w.heap.size, 0, none⟩ = some (.int .i64 (a0 : Int)) := cell_of_row _ _ _ _ _ (0, 0) HR0.out
  have c1 : (w.alloc (.cells #[.int .i64 (a0 : Int), .int .i64 (a1 : Int), .int .i64 (a2 : Int), .int .i64 (a3 : Int), .int .i64 (a4 : Int), .int .i64 (a5 : Int), .int .i64 (a6 : Int)] 58)).cell? ⟨w.heap.size, 1, none⟩ = some (.int .i64 (a1 : Int)) := cell_of_row _ _ _ _ _ (0, 0) HR0.out
  have c2 : (w.alloc (.cells #[.int .i64 (a0 : Int), .int .i64 (a1 : Int), .int .i64 (a2 : Int), .int .i64 (a3 : Int), .int .i64 (a4 : Int), .int .i64 (a5 : Int), .int .i64 (a6 : Int)] 58)).cell? ⟨w.heap.size, 2, none⟩ = some (.int .i64 (a2 : Int)) := cell_of_row _ _ _ _ _ (0, 0) HR0.out
  have c3 : (w.alloc (.cells #[.int .i64 (a0 : Int), .int .i64 (a1 : Int), .int .i64 (a2 : Int), .int .i64 (a3 : Int), .int .i64 (a4 : Int), .int .i64 (a5 : Int), .int .i64 (a6 : Int)] 58)).cell? ⟨w.heap.size, 3, none⟩ = some (.int .i64 (a3 : Int)) := cell_of_row _ _ _ _ _ (0, 0) HR0.out
  have c4 : (w.alloc (.cells #[.int .i64 (a0 : Int), .int .i64 (a1 : Int), .int .i64 (a2 : Int), .int .i64 (a3 : Int), .int .i64 (a4 : Int), .int .i64 (a5 : Int), .int .i64 (a6 : Int)] 58)).cell? ⟨w.heap.size, 4, none⟩ = some (.int .i64 (a4 : Int)) := cell_of_row _ _ _ _ _ (0, 0) HR0.out
  have c5 : (w.alloc (.cells #[.int .i64 (a0 : Int), .int .i64 (a1 : Int), .int .i64 (a2 : Int), .int .i64 (a3 : Int), .int .i64 (a4 : Int), .int .i64 (a5 : Int), .int .i64 (a6 : Int)] 58)).cell? ⟨w.heap.size, 5, none⟩ = some (.int .i64 (a5 : Int)) := cell_of_row _ _ _ _ _ (0, 0) HR0.out
  have c6 : (w.alloc (.cells #[.int .i64 (a0 : Int), .int .i64 (a1 : Int), .int .i64 (a2 : Int), .int .i64 (a3 : Int), .int .i64 (a4 : Int), .int .i64 (a5 : Int), .int .i64 (a6 : Int)] 58)).cell? ⟨w.heap.size, 6, none⟩ = some (.int .i64 (a6 : Int)) := cell_of_row _ _ _ _ _ (0, 0) HR0.out
  have i0 : ∀ W : World, (Instr.index 56 (.agg #[.int .i64 (a3 : Int), .int .i64 (a4 : Int), .int .i64 (a5 : Int), .int .i64 (a6 : Int)]) (.int .i64 0)).run Tryz.prog W = .ok (.int .i64 (a3 : Int)) W := fun W => by kernel_rfl
  have i1 : ∀ W : World, (Instr.index 56 (.agg #[.int .i64 (a3 : Int), .int .i64 (a4 : Int), .int .i64 (a5 : Int), .int .i64 (a6 : Int)]) (.int .i64 1)).run Tryz.prog W = .ok (.int .i64 (a4 : Int)) W := fun W => by kernel_rfl
  have i2 : ∀ W : World, (Instr.index 56 (.agg #[.int .i64 (a3 : Int), .int .i64 (a4 : Int), .int .i64 (a5 : Int), .int .i64 (a6 : Int)]) (.int .i64 2)).run Tryz.prog W = .ok (.int .i64 (a5 : Int)) W := fun W => by kernel_rfl
  have i3 : ∀ W : World, (Instr.index 56 (.agg #[.int .i64 (a3 : Int), .int .i64 (a4 : Int), .int .i64 (a5 : Int), .int .i64 (a6 : Int)]) (.int .i64 3)).run Tryz.prog W = .ok (.int .i64 (a6 : Int)) W := fun W => by kernel_rfl
  go_enter Tryz.func87, Tryz.ntmps87
  go_wp2_with fail
  generalize World.alloc w _ = w0 at *
  refine wp_loop_rounds 5 ?_
  iterate 5 (rw [rounds_succ]; go_wp2)
  go_ret
  exact ⟨rfl, HB0.out⟩
end Go.Proofs.YtcfninpokngmlaaGreatDoor
