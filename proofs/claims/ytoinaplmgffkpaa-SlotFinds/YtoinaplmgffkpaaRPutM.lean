/- Proved: what the document's Put answers (stage 11). -/
import Derived.Test.YtoinaplmgffkpaaRCut
namespace Go.Proofs.Ytoinaplmgffkpaa
open Go.RowKit
open Sl (Cel Nod)
/- one cell more is looked at -/
def stepP (c : Cel) (s : List Cel × Bool) (x : Cel) : List Cel × Bool :=
  if s.2 then (if x.key = c.key then s else (s.1 ++ [x], true))
  else if Sl.lt x.key c.key then (s.1 ++ [x], false) else if x.key = c.key then (s.1 ++ [c], true) else (s.1 ++ [c, x], true)
def stP (c : Cel) (cs : List Cel) (k : Nat) : List Cel × Bool := (cs.take k).foldl (stepP c) ([], false)
theorem stP_more (c : Cel) (cs : List Cel) (k : Nat) (h : k < cs.length) : stP c cs (k + 1) = stepP c (stP c cs k) (cs.getD k Sl.cel0) := by
  unfold stP
  rw [Sl.take_more cs k Sl.cel0 h, List.foldl_append]; rfl
def endP (c : Cel) (s : List Cel × Bool) : List Cel := if s.2 then s.1 else s.1 ++ [c]
theorem fold_low (c : Cel) : ∀ (A : List Cel) (o : List Cel), (∀ y ∈ A.map Cel.key, Sl.lt y c.key = true) → A.foldl (stepP c) (o, false) = (o ++ A, false)
  | [], o, _ => by simp
  | a :: A, o, h => by
    have h1 := h a.key (by simp)
    rw [List.foldl_cons, show stepP c (o, false) a = (o ++ [a], false) by unfold stepP; simp [h1], fold_low c A (o ++ [a]) (fun y hy => h y (by simp only [List.map_cons, List.mem_cons]; exact .inr hy))]
    simp
theorem fold_high (c : Cel) : ∀ (A : List Cel) (o : List Cel), (∀ y ∈ A.map Cel.key, Sl.lt c.key y = true) → A.foldl (stepP c) (o, true) = (o ++ A, true)
  | [], o, _ => by simp
  | a :: A, o, h => by
    have h1 := h a.key (by simp)
    have h2 : ¬ a.key = c.key := fun e => by rw [e, Sl.lt_irrefl] at h1; cases h1
    rw [List.foldl_cons, show stepP c (o, true) a = (o ++ [a], true) by unfold stepP; simp [h2], fold_high c A (o ++ [a]) (fun y hy => h y (by simp only [List.map_cons, List.mem_cons]; exact .inr hy))]
    simp
theorem put_parts {cs : List Cel} (ks : List ByteArray) (ds : List Int) (c : Cel) (hr : Sl.rise (cs.map Cel.key) = true) : ∃ (A B : List Cel) (x? : Option Cel), putN ⟨true, cs, ks, ds⟩ c = ⟨true, A ++ c :: B, ks, ds⟩ ∧ cs = A ++ (x?.toList ++ B) ∧ (∀ y ∈ A.map Cel.key, Sl.lt y c.key = true) ∧ (∀ y ∈ B.map Cel.key, Sl.lt c.key y = true) ∧ (∀ x, x? = some x → x.key = c.key) := by
  have hko : Sl.keysOf ⟨true, cs, ks, ds⟩ = cs.map Cel.key := by unfold Sl.keysOf; rw [if_pos rfl]
  have hput : putN ⟨true, cs, ks, ds⟩ c = ⟨true, cs.take (plF ⟨true, cs, ks, ds⟩ c.key) ++ [c] ++ cs.drop (plT ⟨true, cs, ks, ds⟩ c.key), ks, ds⟩ := by unfold putN; rw [if_pos rfl]
  cases hi : idxK c.key (cs.map Cel.key) with
  | some i =>
    obtain ⟨h1, h2, h3, h4⟩ := idx_split hi hr
    rw [List.length_map] at h1
    have e1 : plF ⟨true, cs, ks, ds⟩ c.key = i ∧ plT ⟨true, cs, ks, ds⟩ c.key = i + 1 := by unfold plF plT; rw [hko, hi]; exact ⟨rfl, rfl⟩
    refine ⟨cs.take i, cs.drop (i + 1), some (cs.getD i Sl.cel0), ?_, ?_, ?_, ?_, fun x hx => ?_⟩
    · rw [hput, e1.1, e1.2, List.append_assoc]; rfl
    · conv => lhs; rw [← List.take_append_drop i cs, Sl.drop_more cs i Sl.cel0 h1]
      rfl
    · rw [List.map_take]; exact h3
    · rw [List.map_drop]; exact h4
    · cases hx
      have h5 := (idxK_lt c.key _ i hi).2
      rw [map_key cs i h1] at h5
      exact h5
  | none =>
    have e1 : plF ⟨true, cs, ks, ds⟩ c.key = first c.key (cs.map Cel.key) ∧ plT ⟨true, cs, ks, ds⟩ c.key = first c.key (cs.map Cel.key) := by unfold plF plT; rw [hko, hi, findI_leaf rfl]; exact ⟨rfl, rfl⟩
    obtain ⟨h1, h2⟩ := first_split c.key (cs.map Cel.key)
    have hno := idxK_no c.key _ hi
    refine ⟨cs.take (first c.key (cs.map Cel.key)), cs.drop (first c.key (cs.map Cel.key)), none, ?_, ?_, ?_, fun y hy => ?_, fun x hx => by cases hx⟩
    · rw [hput, e1.1, e1.2, List.append_assoc]; rfl
    · exact (List.take_append_drop _ _).symm
    · rw [List.map_take]; exact h1
    · rw [List.map_drop] at hy
      cases hd2 : (cs.map Cel.key).drop (first c.key (cs.map Cel.key)) with
      | nil => rw [hd2] at hy; cases hy
      | cons z Z =>
        have hz := h2 z Z hd2
        have hzk : z ≠ c.key := fun e => hno (by rw [← e]; exact List.mem_of_mem_drop (by rw [hd2]; simp))
        have hlz : Sl.lt c.key z = true := by
          cases hq : Sl.lt c.key z with
          | true => rfl
          | false => exact absurd (Sl.lt_total hz hq) hzk
        rw [hd2] at hy
        rcases List.mem_cons.1 hy with rfl | hy
        · exact hlz
        · have hrd : Sl.rise (z :: Z) = true := by
            rw [← hd2]
            rw [← List.take_append_drop (first c.key (cs.map Cel.key)) (cs.map Cel.key)] at hr
            exact Sl.rise_right hr
          exact Sl.lt_trans hlz (Sl.rise_head hrd y hy)
theorem endP_put {cs : List Cel} (ks : List ByteArray) (ds : List Int) (c : Cel) (hr : Sl.rise (cs.map Cel.key) = true) : putN ⟨true, cs, ks, ds⟩ c = ⟨true, endP c (stP c cs cs.length), ks, ds⟩ := by
  obtain ⟨A, B, x?, hP, hc, hA, hB, hx⟩ := put_parts ks ds c hr
  rw [hP]
  congr 1
  unfold stP
  rw [List.take_length, hc, List.foldl_append, fold_low c A [] hA, List.foldl_append, List.nil_append]
  cases x? with
  | some x =>
    have h1 := hx x rfl
    rw [show (some x).toList.foldl (stepP c) (A, false) = (A ++ [c], true) by unfold stepP; simp [h1, Sl.lt_irrefl], fold_high c B _ hB]
    unfold endP
    simp
  | none =>
    cases B with
    | nil => unfold endP; simp
    | cons y B =>
      have h1 := hB y.key (by simp)
      have h2 : ¬ y.key = c.key := fun e => by rw [e, Sl.lt_irrefl] at h1; cases h1
      have h3 : Sl.lt y.key c.key = false := Sl.lt_asymm h1
      rw [Option.toList_none, List.foldl_nil, List.foldl_cons, show stepP c (A, false) y = (A ++ [c, y], true) by unfold stepP; simp [h2, h3], fold_high c B _ (fun z hz => hB z (by simp only [List.map_cons, List.mem_cons]; exact .inr hz))]
      unfold endP
      simp
theorem stP_len (c : Cel) (cs : List Cel) : ∀ k, (stP c cs k).1.length ≤ 2 * k
  | 0 => Nat.le_refl _
  | k + 1 => by
    by_cases h : k < cs.length
    · have := stP_len c cs k
      rw [stP_more c cs k h]
      unfold stepP
      repeat' split
      all_goals simp
      all_goals omega
    · have := stP_len c cs k
      have e : stP c cs (k + 1) = stP c cs k := by unfold stP; rw [List.take_of_length_le (by omega), List.take_of_length_le (by omega)]
      rw [e]; omega
end Go.Proofs.Ytoinaplmgffkpaa
