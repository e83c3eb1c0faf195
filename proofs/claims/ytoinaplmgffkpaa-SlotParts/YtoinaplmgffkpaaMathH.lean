/- Proved: where a leaf has room, and with a cell more has none, its parts have (stage 11). -/
import Derived.Test.YtoinaplmgffkpaaSplit
import Derived.Test.YtoinaplmgffkpaaEncode
namespace Go.Proofs.Ytoinaplmgffkpaa
open Sl (Cel Nod)
theorem may_of_leaf {cs : List Cel} (h1 : ∀ c ∈ cs, celOk c = true) (h2 : cs.length ≤ 255) (h3 : Sl.rise (cs.map Cel.key) = true) : Sl.may ⟨true, cs, [], []⟩ = true := by
  unfold Sl.may Sl.keysOf Sl.leafOk
  simp only [if_true, List.length_map, List.length_nil, List.all_map, Bool.and_eq_true, decide_eq_true_eq, List.all_eq_true, Function.comp]
  refine ⟨h2, fun c hc => ?_, h3, ?_⟩
  · have := h1 c hc
    unfold celOk at this
    rw [Bool.and_eq_true] at this
    exact this.1
  · refine ⟨by simp, by simp, fun c hc => ?_⟩
    have := h1 c hc
    unfold celOk at this
    rw [Bool.and_eq_true] at this
    exact this.2
theorem may_take {cs : List Cel} (h : Sl.may ⟨true, cs, [], []⟩ = true) (k : Nat) : Sl.may ⟨true, cs.take k, [], []⟩ = true ∧ Sl.may ⟨true, cs.drop k, [], []⟩ = true := by
  have hm := may_leaf h rfl
  simp only at hm
  have hr := hm.2.2.1
  rw [← List.take_append_drop k cs, List.map_append] at hr
  exact ⟨may_of_leaf (fun c hc => hm.1 c (List.mem_of_mem_take hc)) (by rw [List.length_take]; omega) (Sl.rise_left hr), may_of_leaf (fun c hc => hm.1 c (List.mem_of_mem_drop hc)) (by rw [List.length_drop]; omega) (Sl.rise_right hr)⟩
theorem sizes_leaf (cs : List Cel) (ks : List ByteArray) (ds : List Int) : sizes ⟨true, cs, ks, ds⟩ = cs.map csize := rfl
/- a place at which both parts have room -/
theorem even_room (l : List Nat) (M B : Nat) (hM : ∀ x ∈ l, x ≤ M) (_hB : M ≤ B) (h1 : B < sumN l) (h2 : sumN l + M ≤ 2 * B) : ∃ k, 1 ≤ k ∧ k < l.length ∧ gr l 0 k ≤ B := by
  have hex : ∀ n, n ≤ l.length → (∃ k, 1 ≤ k ∧ k < l.length ∧ gr l 0 k ≤ B) ∨ (n = 0 ∨ sumN (l.take n) ≤ B ∨ ∃ k, 1 ≤ k ∧ k < l.length ∧ gr l 0 k ≤ B) := fun n => by
    induction n with
    | zero => intro _; exact .inr (.inl rfl)
    | succ n ih =>
      intro hn
      rcases ih (by omega) with h | h | h | h
      · exact .inl h
      · subst h
        have h9 := sumN_take l 0 (by omega)
        have := hM _ (Sl.getD_mem l 0 0 (by omega))
        rw [List.take_zero] at h9
        simp only [sumN, Nat.zero_add] at h9
        exact .inr (.inr (.inl (by rw [Nat.zero_add, h9]; omega)))
      · by_cases hb : sumN (l.take (n + 1)) ≤ B
        · exact .inr (.inr (.inl hb))
        · left
          have h9 := sumN_take l n (by omega)
          have h8 := hM _ (Sl.getD_mem l n 0 (by omega))
          have h7 := sumN_parts l n 0
          simp only [List.take_zero, sumN, Nat.zero_add, Nat.add_zero] at h7
          have hn0 : 1 ≤ n := by
            rcases Nat.eq_zero_or_pos n with e | e
            · subst e
              rw [List.take_zero] at h9
              simp only [sumN, Nat.zero_add] at h9 hb
              omega
            · exact e
          refine ⟨n, hn0, by omega, ?_⟩
          unfold gr
          rw [Nat.add_zero]
          omega
      · exact .inl h
  rcases hex l.length (Nat.le_refl _) with h | h | h | h
  · exact h
  · have : l = [] := List.length_eq_zero_iff.1 h
    subst this
    simp [sumN] at h1
  · rw [List.take_of_length_le (Nat.le_refl _)] at h
    omega
  · exact h
theorem sumN_map_append (l m : List Cel) : sumN ((l ++ m).map csize) = sumN (l.map csize) + sumN (m.map csize) := by rw [List.map_append, sumN_append]
theorem halves_ok {n : Nod} {c : Cel} (hl : n.leaf = true) (hn : Sl.may n = true) (hs : sizeN n ≤ 500) (hm : Sl.may (putN n c) = true) (hb : ¬ sizeN (putN n c) ≤ 500) :
    spE (putN n c) = 0 ∧ encE (spL (putN n c)) = 0 ∧ encE (spR (putN n c)) = 0 := by
  have hpl := pl_le n c.key hl
  have hk := (may_leaf hn hl).2.2.2
  have hkd := hk
  obtain ⟨cs', hput⟩ : ∃ cs', cs' = n.cells.take (plF n c.key) ++ [c] ++ n.cells.drop (plT n c.key) := ⟨_, rfl⟩
  have hP : putN n c = ⟨true, cs', [], []⟩ := by
    unfold putN
    rw [if_pos hl, hput, hl, hk.1, hk.2]
  rw [hP] at hm hb ⊢
  have hml := may_leaf hm rfl
  simp only at hml
  have hcel : ∀ x ∈ cs'.map csize, x ≤ 160 := fun x hx => by
    obtain ⟨y, hy, rfl⟩ := List.mem_map.1 hx
    exact celOk_size (hml.1 y hy)
  have hsn : sumN (n.cells.map csize) ≤ 498 := by
    unfold sizeN headN sizes at hs
    rw [if_pos hl, if_pos hl] at hs
    omega
  have hsum : sumN (cs'.map csize) ≤ 658 := by
    rw [hput, sumN_map_append, sumN_map_append]
    have h1 : sumN (n.cells.map csize) = sumN ((n.cells.take (plT n c.key)).map csize) + sumN ((n.cells.drop (plT n c.key)).map csize) := by rw [← sumN_map_append, List.take_append_drop]
    have h2 : sumN ((n.cells.take (plF n c.key)).map csize) ≤ sumN ((n.cells.take (plT n c.key)).map csize) := by
      have : n.cells.take (plF n c.key) = (n.cells.take (plT n c.key)).take (plF n c.key) := by rw [List.take_take, Nat.min_eq_left hpl.1]
      rw [this, List.map_take]
      exact sumN_take_le _ _
    have h3 : csize c ≤ 160 := celOk_size (hml.1 c (by rw [hput]; simp))
    simp only [List.map_cons, List.map_nil, sumN, Nat.add_zero]
    omega
  have hgt : 498 < sumN (cs'.map csize) := by
    unfold sizeN headN at hb
    rw [sizes_leaf] at hb
    simp only [if_true] at hb
    omega
  obtain ⟨k, hk1, hk2, hk3⟩ := even_room (cs'.map csize) 160 498 hcel (by omega) hgt (by omega)
  have hK : k ≤ (cs'.map csize).length - 1 - 0 := by omega
  have hbest := best_least (gr (cs'.map csize) 0) ((cs'.map csize).length - 1 - 0) k hk1 hK
  have hpos := best_pos (gr (cs'.map csize) 0) ((cs'.map csize).length - 1 - 0) (by omega)
  have hspP : spP ⟨true, cs', [], []⟩ = best (gr (cs'.map csize) 0) ((cs'.map csize).length - 1 - 0) := rfl
  have hok : spOk ⟨true, cs', [], []⟩ = true := by
    unfold spOk
    rw [hm, hspP]
    simp only [Bool.true_and, decide_eq_true_eq]
    omega
  have hL : spL ⟨true, cs', [], []⟩ = ⟨true, cs'.take (spP ⟨true, cs', [], []⟩), [], []⟩ := by unfold spL; rw [hok]; rfl
  have hR : spR ⟨true, cs', [], []⟩ = ⟨true, cs'.drop (spP ⟨true, cs', [], []⟩), [], []⟩ := by unfold spR; rw [hok]; rfl
  rw [hL, hR]
  generalize spP ⟨true, cs', [], []⟩ = P at *
  rw [← hspP] at hbest
  obtain ⟨m1, m2⟩ := may_take hm P
  have hg : gr (cs'.map csize) 0 P ≤ 498 := by omega
  unfold gr at hg
  rw [Nat.add_zero, ← List.map_take, ← List.map_drop] at hg
  refine ⟨by unfold spE; rw [hok]; rfl, ?_, ?_⟩
  · unfold encE
    rw [m1, if_pos rfl, if_pos]
    unfold sizeN headN
    rw [sizes_leaf]
    simp only [if_true]
    omega
  · unfold encE
    rw [m2, if_pos rfl, if_pos]
    unfold sizeN headN
    rw [sizes_leaf]
    simp only [if_true]
    omega
end Go.Proofs.Ytoinaplmgffkpaa
