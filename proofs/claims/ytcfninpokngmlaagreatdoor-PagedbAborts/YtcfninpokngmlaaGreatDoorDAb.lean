/- Proved: plain facts of a database's states (stage 10): what each page has, what Alloc, Free, Write and SetRoot make of them. No program is named. -/
import Derived.Test.YtcfninpokngmlaaGreatDoorDMap
namespace Pd
open Wl
def none0 : ByteArray := ⟨#[]⟩
theorem none0_size : none0.size = 0 := rfl
/- what page 0 tells -/
structure Stt where
  high : Nat
  free : Nat
  last : Nat
  r0 : Nat
  r1 : Nat
  r2 : Nat
  r3 : Nat
def mark : ByteArray := ⟨#[65, 81, 68, 66]⟩
def Stt.text (t : Stt) : ByteArray := mark ++ put t.high 4 ++ put t.free 4 ++ put t.last 4 ++ put t.r0 4 ++ put t.r1 4 ++ put t.r2 4 ++ put t.r3 4
def Stt.sheet (t : Stt) : Sheet := ⟨1, t.text⟩
theorem Stt.text_size (t : Stt) : t.text.size = 32 := by
  unfold Stt.text
  simp only [ByteArray.size_append, put_size]
  rfl
structure Stt.Small (t : Stt) (cnt : Nat) : Prop where
  high : t.high ≤ cnt
  free : t.free < t.high
  last : t.last < t.high
  zero : t.free = 0 ↔ t.last = 0
  r0 : t.r0 ≤ 2147483647
  r1 : t.r1 ≤ 2147483647
  r2 : t.r2 ≤ 2147483647
  r3 : t.r3 ≤ 2147483647
def freeSheet (ahead : Nat) : Sheet := ⟨255, put ahead 4⟩
/- a database as it is seen: its pages from 0 on (none: it is free), the order in which pages came free, its roots -/
structure Ab where
  pgs : List (Option Sheet)
  freed : List Nat
  r0 : Nat
  r1 : Nat
  r2 : Nat
  r3 : Nat
def Ab.stt (A : Ab) : Stt := ⟨A.pgs.length, A.freed.length, A.freed.getLast?.getD 0, A.r0, A.r1, A.r2, A.r3⟩
/- the one that came free ahead of it -/
def prevA : Nat → List Nat → Nat → Nat
  | _, [], _ => 0
  | p, x :: l, i => if x = i then p else prevA x l i
def prev (l : List Nat) (i : Nat) : Nat := prevA 0 l i
theorem prevA_left (y i : Nat) : ∀ (l : List Nat) (p : Nat), i ∈ l → prevA p (l ++ [y]) i = prevA p l i
  | [], _, h => by cases h
  | x :: l, p, h => by
    show (if x = i then p else prevA x (l ++ [y]) i) = if x = i then p else prevA x l i
    by_cases hx : x = i
    · rw [if_pos hx, if_pos hx]
    · rw [if_neg hx, if_neg hx]
      rcases List.mem_cons.1 h with h | h
      · exact absurd h.symm hx
      · exact prevA_left y i l x h
theorem prevA_last (i : Nat) : ∀ (l : List Nat) (p : Nat), i ∉ l → prevA p (l ++ [i]) i = l.getLast?.getD p
  | [], p, _ => by show (if i = i then p else _) = _; rw [if_pos rfl]; rfl
  | x :: l, p, h => by
    have hx : ¬ x = i := fun e => h (e ▸ List.mem_cons_self)
    show (if x = i then p else prevA x (l ++ [i]) i) = _
    rw [if_neg hx, prevA_last i l x (fun hm => h (List.mem_cons_of_mem _ hm)), List.getLast?_cons]
    rfl
def page1 : Sheet := ⟨1, none0⟩
def page00 : Sheet := ⟨0, none0⟩
def Ab.init : Ab := ⟨[some page00], [], 0, 0, 0, 0⟩
/- what a page has -/
def Ab.sh (A : Ab) (i : Nat) : Sheet := if i = 0 then A.stt.sheet else match A.pgs[i]? with
  | some (some x) => x
  | _ => freeSheet (prev A.freed i)
structure Sheet.Fine (x : Sheet) : Prop where
  k0 : 1 ≤ x.kind
  k1 : x.kind ≤ 255
  b : x.body.size ≤ 500
structure Ab.Ok (A : Ab) (cnt : Nat) : Prop where
  one : A.pgs[0]? = some (some page00)
  most : A.pgs.length ≤ cnt
  nodup : A.freed.Nodup
  mem : ∀ i, i ∈ A.freed ↔ A.pgs[i]? = some none
  fine : ∀ i x, 1 ≤ i → A.pgs[i]? = some (some x) → x.Fine ∧ x.kind ≤ 254
  r0 : A.r0 ≤ 2147483647
  r1 : A.r1 ≤ 2147483647
  r2 : A.r2 ≤ 2147483647
  r3 : A.r3 ≤ 2147483647
  small : cnt ≤ 1000
theorem init_ok {cnt : Nat} (h : 1 ≤ cnt) (h2 : cnt ≤ 1000) : Ab.init.Ok cnt := by
  refine ⟨rfl, h, List.nodup_nil, fun i => ⟨fun h => (by cases h), fun h => ?_⟩, fun i x hi h => ?_, by decide, by decide, by decide, by decide, h2⟩
  · cases i with
    | zero => cases h
    | succ i => cases h
  · cases i with
    | zero => omega
    | succ i => cases h
section
variable {A : Ab} {cnt : Nat}
theorem Ab.Ok.pos (h : A.Ok cnt) : 0 < A.pgs.length := (List.getElem?_eq_some_iff.1 h.one).1
theorem Ab.Ok.flt (h : A.Ok cnt) {i : Nat} (hi : i ∈ A.freed) : 1 ≤ i ∧ i < A.pgs.length := by
  have h1 := (h.mem i).1 hi
  refine ⟨?_, (List.getElem?_eq_some_iff.1 h1).1⟩
  rcases Nat.eq_zero_or_pos i with rfl | hp
  · rw [h.one] at h1; cases h1
  · exact hp
theorem last_mem_of {l : List Nat} (h : l ≠ []) : l.getLast?.getD 0 ∈ l := by
  rw [List.getLast?_eq_some_getLast h]
  exact List.getLast_mem h
theorem Ab.Ok.last_lt (h : A.Ok cnt) : A.freed.getLast?.getD 0 < A.pgs.length := by
  by_cases hf : A.freed = []
  · rw [hf]; exact h.pos
  · exact (h.flt (last_mem_of hf)).2
theorem nodup_le : ∀ (n : Nat) (l : List Nat), l.Nodup → (∀ i ∈ l, i < n) → l.length ≤ n
  | 0, [], _, _ => Nat.le_refl _
  | 0, x :: l, _, h => absurd (h x List.mem_cons_self) (Nat.not_lt_zero _)
  | n + 1, l, hn, h => by
    by_cases hm : n ∈ l
    · have h1 := nodup_le n (l.erase n) (hn.erase n) (fun i hi => by
        have h2 := h i (List.mem_of_mem_erase hi)
        have h3 : i ≠ n := fun e => by
          rw [e] at hi
          exact (hn.not_mem_erase) hi
        omega)
      rw [List.length_erase_of_mem hm] at h1
      omega
    · exact Nat.le_succ_of_le (nodup_le n l hn (fun i hi => by
        have h2 := h i hi
        have h3 : i ≠ n := fun e => hm (e ▸ hi)
        omega))
theorem nodup_bound {l : List Nat} {n : Nat} (hn : l.Nodup) (hb : ∀ i ∈ l, 1 ≤ i ∧ i < n) (hne : l ≠ []) : l.length < n := by
  have hp : 0 < n := by
    obtain ⟨x, hx⟩ := List.exists_mem_of_ne_nil l hne
    have := hb x hx
    omega
  exact nodup_le n (0 :: l) (List.nodup_cons.2 ⟨fun hm => by have := hb 0 hm; omega, hn⟩) (fun i hi => by
    rcases List.mem_cons.1 hi with rfl | hi
    · exact hp
    · exact (hb i hi).2)
theorem Ab.Ok.free_lt (h : A.Ok cnt) : A.freed.length < A.pgs.length := by
  by_cases hf : A.freed = []
  · rw [hf]; exact h.pos
  · exact nodup_bound h.nodup (fun i hi => h.flt hi) hf
theorem Ab.Ok.small_stt (h : A.Ok cnt) : A.stt.Small cnt := by
  refine ⟨h.most, h.free_lt, h.last_lt, ?_, h.r0, h.r1, h.r2, h.r3⟩
  show A.freed.length = 0 ↔ A.freed.getLast?.getD 0 = 0
  constructor
  · intro e
    rw [List.length_eq_zero_iff.1 e]
    rfl
  · intro e
    by_cases hf : A.freed = []
    · rw [hf]; rfl
    · have := (h.flt (last_mem_of hf)).1
      omega
theorem prevA_lt {n : Nat} : ∀ (l : List Nat) (p i : Nat), p < n → (∀ x ∈ l, x < n) → prevA p l i < n
  | [], p, _, hp, _ => by show 0 < n; omega
  | x :: l, p, i, hp, h => by
    show (if x = i then p else prevA x l i) < n
    split
    · exact hp
    · exact prevA_lt l x i (h x List.mem_cons_self) (fun y hy => h y (List.mem_cons_of_mem _ hy))
theorem Ab.sh_fine (h : A.Ok cnt) (i : Nat) : (A.sh i).Fine := by
  unfold Ab.sh
  split
  · exact ⟨Nat.le_refl _, by show 1 ≤ 255; omega, by show A.stt.text.size ≤ 500; rw [Stt.text_size]; omega⟩
  · split
    · rename_i h0 x hx
      exact (h.fine i x (by omega) hx).1
    · exact ⟨by show 1 ≤ 255; omega, Nat.le_refl _, by show (put _ 4).size ≤ 500; rw [put_size]; omega⟩
theorem Ab.sh_there (h : A.Ok cnt) {i : Nat} {x : Sheet} (h1 : 1 ≤ i) (hx : A.pgs[i]? = some (some x)) : A.sh i = x ∧ x.kind ≠ 255 := by
  refine ⟨?_, by have := (h.fine i x h1 hx).2; omega⟩
  unfold Ab.sh
  rw [if_neg (by omega), hx]
theorem Ab.sh_free {i : Nat} (h1 : 1 ≤ i) (hx : A.pgs[i]? = some none) : A.sh i = freeSheet (prev A.freed i) := by
  unfold Ab.sh
  rw [if_neg (by omega), hx]
theorem Ab.sh_zero (A : Ab) : A.sh 0 = A.stt.sheet := rfl
/- the calls of a transaction -/
def Ab.write (A : Ab) (i : Nat) (x : Sheet) : Ab := { A with pgs := A.pgs.set i (some x) }
def Ab.allocI (A : Ab) : Nat := if A.freed = [] then A.pgs.length else A.freed.getLast?.getD 0
def Ab.alloc (A : Ab) : Ab := if A.freed = [] then { A with pgs := A.pgs ++ [some page1] } else { A with pgs := A.pgs.set (A.freed.getLast?.getD 0) (some page1), freed := A.freed.dropLast }
def Ab.free (A : Ab) (i : Nat) : Ab := { A with pgs := A.pgs.set i none, freed := A.freed ++ [i] }
def Ab.root (A : Ab) (i n : Nat) : Ab := match i with
  | 0 => { A with r0 := n }
  | 1 => { A with r1 := n }
  | 2 => { A with r2 := n }
  | _ => { A with r3 := n }
theorem page1_fine : page1.Fine ∧ page1.kind ≤ 254 := ⟨⟨Nat.le_refl _, by show 1 ≤ 255; omega, Nat.zero_le _⟩, by show 1 ≤ 254; omega⟩
theorem Ab.Ok.write (h : A.Ok cnt) {i : Nat} {x y : Sheet} (h1 : 1 ≤ i) (hy : A.pgs[i]? = some (some y)) (hx : x.Fine ∧ x.kind ≤ 254) : (A.write i x).Ok cnt := by
  have hl := (List.getElem?_eq_some_iff.1 hy).1
  refine ⟨?_, by show (A.pgs.set i (some x)).length ≤ cnt; rw [List.length_set]; exact h.most, h.nodup, fun j => ?_, fun j z hj hz => ?_, h.r0, h.r1, h.r2, h.r3, h.small⟩
  · show (A.pgs.set i (some x))[0]? = _
    rw [List.getElem?_set_ne (by omega)]
    exact h.one
  · show j ∈ A.freed ↔ (A.pgs.set i (some x))[j]? = _
    by_cases e : i = j
    · subst e
      rw [List.getElem?_set_self hl, h.mem i, hy]
      constructor
      · intro e; cases e
      · intro e; cases e
    · rw [List.getElem?_set_ne e]
      exact h.mem j
  · have hz : (A.pgs.set i (some x))[j]? = some (some z) := hz
    by_cases e : i = j
    · subst e
      rw [List.getElem?_set_self hl] at hz
      cases hz
      exact hx
    · rw [List.getElem?_set_ne e] at hz
      exact h.fine j z hj hz
theorem Ab.write_sh (A : Ab) (i j : Nat) (x : Sheet) (h1 : 1 ≤ i) (hl : i < A.pgs.length) : (A.write i x).sh j = if j = i then x else A.sh j := by
  unfold Ab.sh
  by_cases h0 : j = 0
  · rw [if_pos h0, if_neg (by omega), if_pos h0]
    show (Ab.write A i x).stt.sheet = A.stt.sheet
    have : (A.write i x).stt = A.stt := by unfold Ab.stt Ab.write; simp only [List.length_set]
    rw [this]
  · rw [if_neg h0, if_neg h0]
    show (match (A.pgs.set i (some x))[j]? with | some (some x) => x | _ => freeSheet (prev A.freed j)) = _
    by_cases e : j = i
    · subst e
      rw [List.getElem?_set_self hl, if_pos rfl]
    · rw [List.getElem?_set_ne (fun h => e h.symm), if_neg e]
theorem Ab.Ok.alloc (h : A.Ok cnt) (hf : A.freed = [] → A.pgs.length < cnt) : A.alloc.Ok cnt := by
  unfold Ab.alloc
  by_cases e : A.freed = []
  · rw [if_pos e]
    have hlt := hf e
    refine ⟨?_, by show (A.pgs ++ [some page1]).length ≤ cnt; rw [List.length_append]; exact hlt, h.nodup, fun j => ?_, fun j z hj hz => ?_, h.r0, h.r1, h.r2, h.r3, h.small⟩
    · show (A.pgs ++ [some page1])[0]? = _
      rw [List.getElem?_append_left h.pos]
      exact h.one
    · show j ∈ A.freed ↔ (A.pgs ++ [some page1])[j]? = _
      rw [h.mem j]
      rcases Nat.lt_or_ge j A.pgs.length with hl | hl
      · rw [List.getElem?_append_left hl]
      · rw [List.getElem?_append_right hl, List.getElem?_eq_none hl]
        constructor
        · intro e; cases e
        · intro e
          rcases Nat.eq_zero_or_pos (j - A.pgs.length) with h0 | h0
          · rw [h0] at e; cases e
          · rw [List.getElem?_eq_none (by show 1 ≤ _; exact h0)] at e; cases e
    · have hz : (A.pgs ++ [some page1])[j]? = some (some z) := hz
      rcases Nat.lt_or_ge j A.pgs.length with hl | hl
      · rw [List.getElem?_append_left hl] at hz
        exact h.fine j z hj hz
      · rw [List.getElem?_append_right hl] at hz
        rcases Nat.eq_zero_or_pos (j - A.pgs.length) with h0 | h0
        · rw [h0] at hz
          cases hz
          exact page1_fine
        · rw [List.getElem?_eq_none (by show 1 ≤ _; exact h0)] at hz
          cases hz
  · rw [if_neg e]
    have hm := last_mem_of e
    have hfl := h.flt hm
    have hsp : A.freed = A.freed.dropLast ++ [A.freed.getLast?.getD 0] := by
      rw [List.getLast?_eq_some_getLast e]
      exact (List.dropLast_concat_getLast e).symm
    have hnd : A.freed.getLast?.getD 0 ∉ A.freed.dropLast := by
      have := h.nodup
      rw [hsp] at this
      have h2 := (List.nodup_append.1 this).2.2
      intro hm
      exact h2 _ hm _ List.mem_cons_self rfl
    generalize A.freed.getLast?.getD 0 = i at hm hfl hsp hnd
    refine ⟨?_, by show (A.pgs.set i (some page1)).length ≤ cnt; rw [List.length_set]; exact h.most, ?_, fun j => ?_, fun j z hj hz => ?_, h.r0, h.r1, h.r2, h.r3, h.small⟩
    · show (A.pgs.set i (some page1))[0]? = _
      rw [List.getElem?_set_ne (by omega)]
      exact h.one
    · have := h.nodup
      rw [hsp] at this
      exact (List.nodup_append.1 this).1
    · show j ∈ A.freed.dropLast ↔ (A.pgs.set i (some page1))[j]? = _
      by_cases e : i = j
      · subst e
        rw [List.getElem?_set_self hfl.2]
        constructor
        · intro e; exact absurd e hnd
        · intro e; cases e
      · rw [List.getElem?_set_ne e, ← h.mem j]
        constructor
        · intro hj; rw [hsp]; exact List.mem_append_left _ hj
        · intro hj
          rw [hsp] at hj
          rcases List.mem_append.1 hj with hj | hj
          · exact hj
          · exact absurd (List.mem_singleton.1 hj).symm e
    · have hz : (A.pgs.set i (some page1))[j]? = some (some z) := hz
      by_cases e : i = j
      · subst e
        rw [List.getElem?_set_self hfl.2] at hz
        cases hz
        exact page1_fine
      · rw [List.getElem?_set_ne e] at hz
        exact h.fine j z hj hz
theorem Ab.alloc_high (A : Ab) : A.alloc.pgs.length = if A.freed = [] then A.pgs.length + 1 else A.pgs.length := by
  unfold Ab.alloc
  split
  · show (A.pgs ++ [some page1]).length = _
    rw [List.length_append]
    rfl
  · show (A.pgs.set _ _).length = _
    rw [List.length_set]
theorem Ab.allocI_pos (h : A.Ok cnt) : 1 ≤ A.allocI := by
  unfold Ab.allocI
  split
  · exact h.pos
  · rename_i e; exact (h.flt (last_mem_of e)).1
theorem Ab.allocI_lt (h : A.Ok cnt) : A.allocI < A.alloc.pgs.length := by
  rw [Ab.alloc_high]
  unfold Ab.allocI
  split
  · omega
  · rename_i e; exact (h.flt (last_mem_of e)).2
theorem Ab.alloc_sh (h : A.Ok cnt) (j : Nat) (hj : 1 ≤ j) (hjl : j < A.alloc.pgs.length) : A.alloc.sh j = if j = A.allocI then page1 else A.sh j := by
  have h0 : ¬ j = 0 := by omega
  unfold Ab.sh Ab.alloc Ab.allocI
  rw [if_neg h0, if_neg h0]
  by_cases e : A.freed = []
  · rw [if_pos e, if_pos e]
    show (match (A.pgs ++ [some page1])[j]? with | some (some x) => x | _ => freeSheet (prev A.freed j)) = _
    have hle : j ≤ A.pgs.length := by rw [Ab.alloc_high, if_pos e] at hjl; omega
    rcases Nat.lt_or_ge j A.pgs.length with hl | hl
    · rw [List.getElem?_append_left hl, if_neg (by omega)]
    · have : j = A.pgs.length := by omega
      rw [List.getElem?_append_right hl, if_pos this, this, Nat.sub_self]
      rfl
  · rw [if_neg e, if_neg e]
    have hm := last_mem_of e
    have hfl := h.flt hm
    have hsp : A.freed = A.freed.dropLast ++ [A.freed.getLast?.getD 0] := by
      rw [List.getLast?_eq_some_getLast e]
      exact (List.dropLast_concat_getLast e).symm
    show (match (A.pgs.set (A.freed.getLast?.getD 0) (some page1))[j]? with | some (some x) => x | _ => freeSheet (prev A.freed.dropLast j)) = _
    generalize A.freed.getLast?.getD 0 = i at hm hfl hsp
    by_cases e2 : j = i
    · subst e2
      rw [List.getElem?_set_self hfl.2, if_pos rfl]
    · rw [List.getElem?_set_ne (fun h => e2 h.symm), if_neg e2]
      have hlen : j < A.pgs.length := by rw [Ab.alloc_high, if_neg e] at hjl; exact hjl
      cases hx : A.pgs[j]? with
      | none => rw [List.getElem?_eq_getElem hlen] at hx; cases hx
      | some o =>
        cases o with
        | some x => rfl
        | none =>
          have hjm := (h.mem j).2 hx
          show freeSheet _ = freeSheet _
          rw [hsp] at hjm
          have hjd : j ∈ A.freed.dropLast := by
            rcases List.mem_append.1 hjm with hq | hq
            · exact hq
            · exact absurd (List.mem_singleton.1 hq) e2
          have h1 := prevA_left i j A.freed.dropLast 0 hjd
          rw [← hsp] at h1
          unfold prev
          rw [h1]
/- the page that came free last tells the one ahead of it -/
theorem Ab.last_sh (h : A.Ok cnt) (e : A.freed ≠ []) : A.sh (A.freed.getLast?.getD 0) = freeSheet (A.freed.dropLast.getLast?.getD 0) := by
  have hm := last_mem_of e
  have hfl := h.flt hm
  have hsp : A.freed = A.freed.dropLast ++ [A.freed.getLast?.getD 0] := by
    rw [List.getLast?_eq_some_getLast e]
    exact (List.dropLast_concat_getLast e).symm
  have hnd : A.freed.getLast?.getD 0 ∉ A.freed.dropLast := by
    have := h.nodup
    rw [hsp] at this
    intro hm
    exact (List.nodup_append.1 this).2.2 _ hm _ List.mem_cons_self rfl
  rw [Ab.sh_free hfl.1 ((h.mem _).1 hm)]
  generalize A.freed.getLast?.getD 0 = i at hm hfl hsp hnd
  have h1 := prevA_last i A.freed.dropLast 0 hnd
  rw [← hsp] at h1
  unfold prev
  rw [h1]
theorem Ab.Ok.free (h : A.Ok cnt) {i : Nat} {x : Sheet} (h1 : 1 ≤ i) (hx : A.pgs[i]? = some (some x)) : (A.free i).Ok cnt := by
  have hl := (List.getElem?_eq_some_iff.1 hx).1
  have hni : i ∉ A.freed := fun hm => by rw [h.mem i, hx] at hm; cases hm
  refine ⟨?_, by show (A.pgs.set i none).length ≤ cnt; rw [List.length_set]; exact h.most, ?_, fun j => ?_, fun j z hj hz => ?_, h.r0, h.r1, h.r2, h.r3, h.small⟩
  · show (A.pgs.set i none)[0]? = _
    rw [List.getElem?_set_ne (by omega)]
    exact h.one
  · show (A.freed ++ [i]).Nodup
    exact List.nodup_append.2 ⟨h.nodup, by simp, fun a ha b hb => by
      rw [List.mem_singleton.1 hb]
      intro e
      exact hni (e ▸ ha)⟩
  · show j ∈ A.freed ++ [i] ↔ (A.pgs.set i none)[j]? = _
    rw [List.mem_append, List.mem_singleton]
    by_cases e : i = j
    · subst e
      rw [List.getElem?_set_self hl]
      exact ⟨fun _ => rfl, fun _ => .inr rfl⟩
    · rw [List.getElem?_set_ne e, ← h.mem j]
      exact ⟨fun h => h.resolve_right (fun h => e h.symm), .inl⟩
  · have hz : (A.pgs.set i none)[j]? = some (some z) := hz
    by_cases e : i = j
    · subst e
      rw [List.getElem?_set_self hl] at hz
      cases hz
    · rw [List.getElem?_set_ne e] at hz
      exact h.fine j z hj hz
theorem Ab.free_sh (h : A.Ok cnt) {i : Nat} {x : Sheet} (h1 : 1 ≤ i) (hx : A.pgs[i]? = some (some x)) (j : Nat) (hj : 1 ≤ j) (hjl : j < A.pgs.length) : (A.free i).sh j = if j = i then freeSheet (A.freed.getLast?.getD 0) else A.sh j := by
  have hl := (List.getElem?_eq_some_iff.1 hx).1
  have hni : i ∉ A.freed := fun hm => by rw [h.mem i, hx] at hm; cases hm
  have h0 : ¬ j = 0 := by omega
  unfold Ab.sh
  rw [if_neg h0, if_neg h0]
  show (match (A.pgs.set i none)[j]? with | some (some x) => x | _ => freeSheet (prev (A.freed ++ [i]) j)) = _
  by_cases e : j = i
  · subst e
    rw [List.getElem?_set_self hl, if_pos rfl]
    show freeSheet (prevA 0 (A.freed ++ [j]) j) = _
    rw [prevA_last j A.freed 0 hni]
  · rw [List.getElem?_set_ne (fun h => e h.symm), if_neg e]
    cases hz : A.pgs[j]? with
    | none => rw [List.getElem?_eq_getElem hjl] at hz; cases hz
    | some o =>
      cases o with
      | some x => rfl
      | none =>
        show freeSheet (prevA 0 (A.freed ++ [i]) j) = _
        rw [prevA_left i j A.freed 0 ((h.mem j).2 hz)]
        rfl
theorem Ab.Ok.root (h : A.Ok cnt) (i n : Nat) (hn : n ≤ 2147483647) : (A.root i n).Ok cnt := by
  unfold Ab.root
  split
  · exact ⟨h.one, h.most, h.nodup, h.mem, h.fine, hn, h.r1, h.r2, h.r3, h.small⟩
  · exact ⟨h.one, h.most, h.nodup, h.mem, h.fine, h.r0, hn, h.r2, h.r3, h.small⟩
  · exact ⟨h.one, h.most, h.nodup, h.mem, h.fine, h.r0, h.r1, hn, h.r3, h.small⟩
  · exact ⟨h.one, h.most, h.nodup, h.mem, h.fine, h.r0, h.r1, h.r2, hn, h.small⟩
theorem Ab.root_pgs (A : Ab) (i n : Nat) : (A.root i n).pgs = A.pgs ∧ (A.root i n).freed = A.freed := by
  unfold Ab.root
  split <;> exact ⟨rfl, rfl⟩
theorem Ab.root_sh (A : Ab) (i n j : Nat) (hj : 1 ≤ j) : (A.root i n).sh j = A.sh j := by
  unfold Ab.sh
  rw [if_neg (by omega), if_neg (by omega), (A.root_pgs i n).1, (A.root_pgs i n).2]
end
end Pd
