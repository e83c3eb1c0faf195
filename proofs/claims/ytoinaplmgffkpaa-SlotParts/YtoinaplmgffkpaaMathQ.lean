/- Proved: plain: the place at which the document parts a node is the one at which slot does (stage 11). -/
import Derived.Test.YtoinaplmgffkpaaMathK
import Derived.Test.YtoinaplmgffkpaaRParts
namespace Go.Proofs.Ytoinaplmgffkpaa
open Go.RowKit
open Sl (Cel Nod)
def spN (n : Nod) : Nat := (sizes n).length - 1 - spB n
def wj (g : Nat → Nat) (hd j : Nat) : Nat := if j = 0 then 0 else hd + g (best g j)
theorem best_zero (g : Nat → Nat) (j : Nat) : best g j = 0 ↔ j = 0 := by
  constructor
  · intro h
    by_cases e : j = 0
    · exact e
    · have := (best_pos g j (by omega)).1; omega
  · rintro rfl; rfl
theorem wj_yes {g : Nat → Nat} {hd j : Nat} (h : best g j = 0 ∨ hd + g (j + 1) < wj g hd j) : best g (j + 1) = j + 1 ∧ wj g hd (j + 1) = hd + g (j + 1) := by
  have hb : best g (j + 1) = j + 1 := by
    rw [best, if_pos]
    by_cases e : j = 0
    · exact .inl e
    · right
      rcases h with h | h
      · exact absurd ((best_zero g j).1 h) e
      · unfold wj at h
        rw [if_neg e] at h
        omega
  refine ⟨hb, ?_⟩
  unfold wj
  rw [if_neg (by omega), hb]
theorem wj_no {g : Nat → Nat} {hd j : Nat} (h : ¬ (best g j = 0 ∨ hd + g (j + 1) < wj g hd j)) : best g (j + 1) = best g j ∧ wj g hd (j + 1) = wj g hd j := by
  have e : ¬ j = 0 := fun e => h (.inl ((best_zero g j).2 e))
  have hb : best g (j + 1) = best g j := by
    rw [best, if_neg]
    rintro (h' | h')
    · exact e h'
    · refine h (.inr ?_)
      unfold wj
      rw [if_neg e]
      omega
  refine ⟨hb, ?_⟩
  unfold wj
  rw [if_neg (by omega), if_neg e, hb]
theorem ct_may {n : Nod} (hm : Sl.may n = true) {k : Nat} (hk : n.leaf = false → k + 1 < n.keys.length) : Sl.may (ctL n k) = true ∧ Sl.may (ctR n k) = true := by
  obtain ⟨lf, cs, ks, ds⟩ := n
  cases lf with
  | true =>
    obtain ⟨_, _, _, h4, h5⟩ := may_leaf hm rfl
    simp only at h4 h5
    subst h4 h5
    exact may_take hm k
  | false =>
    have hml := may_branch hm rfl
    simp only at hml
    obtain ⟨hc, hl, hr, rfl, hkd, hpg⟩ := hml
    have hk' : k + 1 < ks.length := hk rfl
    have hr1 := hr
    rw [← List.take_append_drop k ks] at hr1
    have hr2 := hr
    rw [← List.take_append_drop (k + 1) ks] at hr2
    have m1 : Sl.may ⟨false, [], ks.take k, ds.take (k + 1)⟩ = true := may_of_branch (fun k hk => hc k (List.mem_of_mem_take hk)) (by rw [List.length_take]; omega) (Sl.rise_left hr1) (by rw [List.length_take, List.length_take]; omega) (fun d hd => hpg d (List.mem_of_mem_take hd))
    have m2 : Sl.may ⟨false, [], ks.drop (k + 1), ds.drop (k + 1)⟩ = true := may_of_branch (fun k hk => hc k (List.mem_of_mem_drop hk)) (by rw [List.length_drop]; omega) (Sl.rise_right hr2) (by rw [List.length_drop, List.length_drop]; omega) (fun d hd => hpg d (List.mem_of_mem_drop hd))
    exact ⟨m1, m2⟩
theorem ct_size (n : Nod) (k : Nat) : sizeN (ctL n k) = headN n + sumN ((sizes n).take k) ∧ sizeN (ctR n k) = headN n + sumN ((sizes n).drop (k + spB n)) := by
  obtain ⟨lf, cs, ks, ds⟩ := n
  cases lf with
  | true =>
    refine ⟨?_, ?_⟩
    · show 2 + sumN ((cs.take k).map csize) = 2 + sumN ((cs.map csize).take k)
      rw [List.map_take]
    · show 2 + sumN ((cs.drop k).map csize) = 2 + sumN ((cs.map csize).drop (k + 0))
      rw [List.map_drop, Nat.add_zero]
  | false =>
    refine ⟨?_, ?_⟩
    · show 6 + sumN ((ks.take k).map fun x => 5 + x.size) = 6 + sumN ((ks.map fun x => 5 + x.size).take k)
      rw [List.map_take]
    · show 6 + sumN ((ks.drop (k + 1)).map fun x => 5 + x.size) = 6 + sumN ((ks.map fun x => 5 + x.size).drop (k + 1))
      rw [List.map_drop]
theorem ct_max (n : Nod) (k : Nat) : max (sizeN (ctL n k)) (sizeN (ctR n k)) = headN n + gr (sizes n) (spB n) k := by
  rw [(ct_size n k).1, (ct_size n k).2]
  unfold gr
  omega
theorem spN_leaf {n : Nod} (h : n.leaf = true) : spN n = n.cells.length - 1 := by
  unfold spN sizes spB
  rw [if_pos h, if_pos h, List.length_map]; omega
theorem spN_branch {n : Nod} (h : n.leaf = false) : spN n = n.keys.length - 2 := by
  unfold spN sizes spB
  rw [h, if_neg (by simp), if_neg (by simp), List.length_map]; omega
theorem spP_eq (n : Nod) : spP n = best (gr (sizes n) (spB n)) (spN n) := rfl
theorem spOk_no {n : Nod} (h : Sl.may n = false ∨ spN n = 0) : spOk n = false := by
  unfold spOk
  rcases h with h | h
  · rw [h]; rfl
  · rw [spP_eq, h]
    show (Sl.may n && decide (0 < 0)) = false
    simp
theorem spOk_yes {n : Nod} (hm : Sl.may n = true) (h : 0 < spN n) : spOk n = true := by
  unfold spOk
  rw [hm, spP_eq]
  have := (best_pos (gr (sizes n) (spB n)) _ h).1
  rw [Bool.true_and, decide_eq_true_eq]
  omega
theorem sp_ct {n : Nod} (h : spOk n = true) : spL n = ctL n (spP n) ∧ spR n = ctR n (spP n) ∧ spK n = ctK n (spP n) ∧ spE n = 0 := by
  unfold spL spR spK spE ctL ctR ctK
  rw [h]
  exact ⟨rfl, rfl, rfl, rfl⟩
end Go.Proofs.Ytoinaplmgffkpaa
