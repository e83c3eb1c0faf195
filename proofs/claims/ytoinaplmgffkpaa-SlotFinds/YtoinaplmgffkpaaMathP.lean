/- Proved: what was put in is found, what was cut is not, all else stays (stage 11). -/
import Derived.Test.YtoinaplmgffkpaaPut
import Derived.Test.YtoinaplmgffkpaaEncB
namespace Go.Proofs.Ytoinaplmgffkpaa
open Sl (Cel Nod)
theorem first_mid (key : ByteArray) : ∀ (A : List ByteArray) (y : ByteArray) (B : List ByteArray), (∀ x ∈ A, Sl.lt x key = true) → Sl.lt y key = false → first key (A ++ y :: B) = A.length
  | [], y, B, _, h => by
    show first key (y :: B) = 0
    unfold first
    rw [if_neg (by rw [h]; simp)]
  | a :: A, y, B, h1, h2 => by
    show first key (a :: (A ++ y :: B)) = _
    unfold first
    rw [if_pos (h1 a (by simp)), first_mid key A y B (fun x hx => h1 x (by simp [hx])) h2]
    rfl
theorem first_split (key : ByteArray) : ∀ K : List ByteArray, (∀ x ∈ K.take (first key K), Sl.lt x key = true) ∧ ∀ y B, K.drop (first key K) = y :: B → Sl.lt y key = false
  | [] => ⟨fun x hx => (by simp at hx), fun y B h => (by simp at h)⟩
  | a :: K => by
    unfold first
    split
    · rename_i h
      obtain ⟨h1, h2⟩ := first_split key K
      refine ⟨fun x hx => ?_, fun y B hy => h2 y B (by simpa using hy)⟩
      rw [List.take_succ_cons] at hx
      rcases List.mem_cons.1 hx with rfl | hx
      · exact h
      · exact h1 x hx
    · rename_i h
      refine ⟨fun x hx => (by simp at hx), fun y B hy => ?_⟩
      simp at hy
      rw [← hy.1]
      simpa using h
theorem isAt_mid (A : List ByteArray) (y : ByteArray) (B : List ByteArray) (key : ByteArray) : isAt (A ++ y :: B) A.length key = decide (y = key) := by
  unfold isAt
  rw [List.getElem?_append_right (Nat.le_refl _), Nat.sub_self]
  simp
/- a list of rising keys without key, or with it -/
theorem idx_split {key : ByteArray} {K : List ByteArray} {i : Nat} (h : idxK key K = some i) (hr : Sl.rise K = true) : i < K.length ∧ K = K.take i ++ key :: K.drop (i + 1) ∧ (∀ x ∈ K.take i, Sl.lt x key = true) ∧ ∀ x ∈ K.drop (i + 1), Sl.lt key x = true := by
  obtain ⟨h1, h2⟩ := idxK_lt key K i h
  have e : K = K.take i ++ key :: K.drop (i + 1) := by
    conv => lhs; rw [← List.take_append_drop i K, Sl.drop_more K i ByteArray.empty h1, h2]
  have hr' := hr
  rw [e] at hr'
  exact ⟨h1, e, fun x hx => Sl.rise_cross hr' x hx key (by simp), fun x hx => Sl.rise_head (Sl.rise_right hr') x hx⟩
theorem findB_leaf {n : Nod} (h : n.leaf = true) (key : ByteArray) : findB n key = isAt (n.cells.map Cel.key) (first key (n.cells.map Cel.key)) key := by unfold findB; rw [if_pos h]
theorem findI_leaf {n : Nod} (h : n.leaf = true) (key : ByteArray) : findI n key = first key (n.cells.map Cel.key) := by unfold findI; rw [if_pos h]
theorem isAt_ne {A : List ByteArray} {key : ByteArray} {B : List ByteArray} (h : ∀ x ∈ B, Sl.lt key x = true) : isAt (A ++ B) A.length key = false := by
  cases B with
  | nil => rw [List.append_nil, isAt_end]
  | cons y B =>
    rw [isAt_mid]
    refine decide_eq_false fun e => ?_
    have := h y (by simp)
    rw [e, Sl.lt_irrefl] at this
    cases this
theorem first_two {A : List ByteArray} {key : ByteArray} {B : List ByteArray} (h1 : ∀ x ∈ A, Sl.lt x key = true) (h2 : ∀ x ∈ B, Sl.lt key x = true) : first key (A ++ B) = A.length := by
  cases B with
  | nil =>
    rw [List.append_nil]
    exact first_end key A (fun i hi => h1 _ (Sl.getD_mem A i ByteArray.empty hi))
  | cons y B => exact first_mid key A y B h1 (Sl.lt_asymm (h2 y (by simp)))
structure PutsOk (n : Nod) (c : Cel) (i : Nat) : Prop where
  lf : (putN n c).leaf = true
  fi : findI (putN n c) c.key = i
  there : findB (putN n c) c.key = true
  lt : i < (putN n c).cells.length
  at' : (putN n c).cells.getD i Sl.cel0 = c
  gone : findB (cutN (putN n c) (i : Int)) c.key = false
  had : findB n c.key = true → (cutN (putN n c) (i : Int)).cells.length + 1 = n.cells.length ∧ (putN n c).cells.length = n.cells.length
  not : findB n c.key = false → cutN (putN n c) (i : Int) = n ∧ (putN n c).cells.length = n.cells.length + 1
theorem drop_mid {α : Type} : ∀ (A : List α) (c : α) (B : List α), (A ++ c :: B).drop (A.length + 1) = B
  | [], _, _ => rfl
  | _ :: A, c, B => drop_mid A c B
theorem cut_at {n : Nod} (hl : n.leaf = true) {A : List Cel} {c : Cel} {B : List Cel} (h : n.cells = A ++ c :: B) : cutN n (A.length : Int) = ⟨true, A ++ B, n.keys, n.kids⟩ := by
  unfold cutN
  rw [hl, h]
  have : (A.length : Int) < ((A ++ c :: B).length : Int) := by rw [List.length_append, List.length_cons]; omega
  rw [decide_eq_true this, decide_eq_true (Int.natCast_nonneg _), if_pos (show (true && (true && true)) = true from rfl), Int.toNat_natCast]
  congr 1
  rw [List.take_left' rfl, drop_mid]
theorem puts_ok {n : Nod} {c : Cel} (hl : n.leaf = true) (hm : Sl.may n = true) : ∃ i, PutsOk n c i := by
  obtain ⟨_, _, hr, hk, hd⟩ := may_leaf hm hl
  have hko : Sl.keysOf n = n.cells.map Cel.key := by unfold Sl.keysOf; rw [if_pos hl]
  obtain ⟨A, B, x?, hP, hn, hA, hB, hx⟩ : ∃ (A B : List Cel) (x? : Option Cel), putN n c = ⟨true, A ++ c :: B, [], []⟩ ∧ n.cells = A ++ (x?.toList ++ B) ∧ (∀ y ∈ A.map Cel.key, Sl.lt y c.key = true) ∧ (∀ y ∈ B.map Cel.key, Sl.lt c.key y = true) ∧ (∀ x, x? = some x → x.key = c.key) := by
    have hput : putN n c = ⟨true, n.cells.take (plF n c.key) ++ [c] ++ n.cells.drop (plT n c.key), [], []⟩ := by unfold putN; rw [if_pos hl, hl, hk, hd]
    cases hi : idxK c.key (n.cells.map Cel.key) with
    | some i =>
      obtain ⟨h1, h2, h3, h4⟩ := idx_split hi hr
      rw [List.length_map] at h1
      have e1 : plF n c.key = i ∧ plT n c.key = i + 1 := by unfold plF plT; rw [hko, hi]; exact ⟨rfl, rfl⟩
      refine ⟨n.cells.take i, n.cells.drop (i + 1), some (n.cells.getD i Sl.cel0), ?_, ?_, ?_, ?_, fun x hx => ?_⟩
      · rw [hput, e1.1, e1.2, List.append_assoc]; rfl
      · conv => lhs; rw [← List.take_append_drop i n.cells, Sl.drop_more n.cells i Sl.cel0 h1]
        rfl
      · rw [List.map_take]; exact h3
      · rw [List.map_drop]; exact h4
      · cases hx
        have h5 := (idxK_lt c.key _ i hi).2
        rw [map_key n.cells i h1] at h5
        exact h5
    | none =>
      have e1 : plF n c.key = first c.key (n.cells.map Cel.key) ∧ plT n c.key = first c.key (n.cells.map Cel.key) := by unfold plF plT; rw [hko, hi, findI_leaf hl]; exact ⟨rfl, rfl⟩
      obtain ⟨h1, h2⟩ := first_split c.key (n.cells.map Cel.key)
      have hno := idxK_no c.key _ hi
      refine ⟨n.cells.take (first c.key (n.cells.map Cel.key)), n.cells.drop (first c.key (n.cells.map Cel.key)), none, ?_, ?_, ?_, fun y hy => ?_, fun x hx => by cases hx⟩
      · rw [hput, e1.1, e1.2, List.append_assoc]; rfl
      · exact (List.take_append_drop _ _).symm
      · rw [List.map_take]; exact h1
      · rw [List.map_drop] at hy
        cases hd2 : (n.cells.map Cel.key).drop (first c.key (n.cells.map Cel.key)) with
        | nil => rw [hd2] at hy; cases hy
        | cons z Z =>
          have hz := h2 z Z hd2
          have hzk : z ≠ c.key := fun e => hno (by rw [← e]; exact List.mem_of_mem_drop (by rw [hd2]; simp))
          have hlz : Sl.lt c.key z = true := by
            cases hq : Sl.lt c.key z with
            | true => rfl
            | false => exact absurd (Sl.lt_total hz hq) hzk
          rw [hd2] at hy
          rcases List.mem_cons.1 hy with rfl | hy
          · exact hlz
          · have hrd : Sl.rise (z :: Z) = true := by
              rw [← hd2]
              rw [← List.take_append_drop (first c.key (n.cells.map Cel.key)) (n.cells.map Cel.key)] at hr
              exact Sl.rise_right hr
            exact Sl.lt_trans hlz (Sl.rise_head hrd y hy)
  have hmk : (A ++ c :: B).map Cel.key = A.map Cel.key ++ c.key :: B.map Cel.key := by rw [List.map_append, List.map_cons]
  have hal : (A.map Cel.key).length = A.length := List.length_map _
  have hfirst : first c.key ((A ++ c :: B).map Cel.key) = A.length := by rw [hmk, first_mid _ _ _ _ hA (Sl.lt_irrefl _), hal]
  have hcut : cutN (putN n c) (A.length : Int) = ⟨true, A ++ B, [], []⟩ := by rw [hP]; exact cut_at rfl rfl
  have hn0 : n = ⟨true, A ++ (x?.toList ++ B), [], []⟩ := by
    obtain ⟨lf, cs, ks, ds⟩ := n
    simp only at hl hn hk hd
    rw [hl, hn, hk, hd]
  refine ⟨A.length, ?_, ?_, ?_, ?_, ?_, ?_, ?_, ?_⟩
  · rw [hP]
  · rw [hP, findI_leaf rfl]; exact hfirst
  · rw [hP, findB_leaf rfl]
    show isAt ((A ++ c :: B).map Cel.key) (first c.key ((A ++ c :: B).map Cel.key)) c.key = true
    rw [hfirst, hmk, ← hal, isAt_mid]
    exact decide_eq_true rfl
  · rw [hP]
    show A.length < (A ++ c :: B).length
    rw [List.length_append, List.length_cons]; omega
  · rw [hP]
    show (A ++ c :: B).getD A.length Sl.cel0 = c
    rw [List.getD_eq_getElem?_getD, List.getElem?_append_right (Nat.le_refl _), Nat.sub_self]; rfl
  · rw [hcut, findB_leaf rfl]
    show isAt ((A ++ B).map Cel.key) (first c.key ((A ++ B).map Cel.key)) c.key = false
    rw [List.map_append, first_two hA hB, isAt_ne hB]
  · intro h
    cases x? with
    | none =>
      exfalso
      rw [hn0, findB_leaf rfl] at h
      change isAt ((A ++ B).map Cel.key) (first c.key ((A ++ B).map Cel.key)) c.key = true at h
      rw [List.map_append, first_two hA hB, isAt_ne hB] at h
      cases h
    | some x =>
      rw [hcut, hP, hn]
      simp only [Option.toList_some, List.length_append, List.length_cons, List.length_nil]
      omega
  · intro h
    cases x? with
    | none =>
      rw [hcut, hP, hn]
      refine ⟨hn0.symm, ?_⟩
      simp only [Option.toList_none, List.nil_append, List.length_append, List.length_cons]
      omega
    | some x =>
      exfalso
      have hxk := hx x rfl
      rw [hn0, findB_leaf rfl] at h
      change isAt ((A ++ x :: B).map Cel.key) (first c.key ((A ++ x :: B).map Cel.key)) c.key = false at h
      rw [List.map_append, List.map_cons, hxk, first_mid _ _ _ _ hA (Sl.lt_irrefl _), isAt_mid] at h
      simp at h
end Go.Proofs.Ytoinaplmgffkpaa
