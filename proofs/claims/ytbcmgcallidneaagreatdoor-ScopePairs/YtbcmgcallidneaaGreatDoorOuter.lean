/- Proved: outermost leaves of a list of directories those that lie in no other one, each once, in their order. -/
import Derived.Test.YtbcmgcallidneaaGreatDoorSrt
import Derived.Test.YtbcmgcallidneaaGreatDoorHold
namespace Go.Proofs.YtbcmgcallidneaaGreatDoor
open Go.RowKit
theorem Tab.upon {A B : World} {N : Nat} (hT : Tab A) (hM : 1 < N) (hS : 0 < N) (hb : Below N A B) : Tab B := by
  refine ⟨?_, fun j v hv => ?_⟩
  · obtain ⟨m, hm⟩ := hT.max
    exact ⟨m, (hb.cell (p := ⟨1, 0, none⟩) hM).trans hm⟩
  · exact (hb.cell (p := ⟨0, 0 + j, none⟩) hS).trans (hT.sig j v hv)
theorem own_set {w : World} {N g cap m : Nat} {l : List Pm.T} {y : Pm.T} (h : w.ownsRow N 9 1 (.slice (some ⟨g, 0, none⟩) l.length cap) l.length (scells l)) :
    (w.setCell ⟨g, m, none⟩ (.string (mk y))).ownsRow N 9 1 (.slice (some ⟨g, 0, none⟩) l.length cap) l.length (scells (l.set m y)) := by
  refine ⟨by simp [scells], ?_⟩
  rcases h.2 with ⟨h1, _⟩ | ⟨g', cap', cur, hv, hN, hh, hc, hm, hs, ht⟩
  · cases h1
  · cases hv
    refine .inr ⟨g, cap, cur.setIfInBounds m (.string (mk y)), rfl, hN, heap_setCell_same w g m cur 9 _ hh, hc, hm, by simpa using hs, ?_⟩
    have e1 : (cur.setIfInBounds m (.string (mk y))).toList = cur.toList.set m (.string (mk y)) := by simp
    rw [e1, List.take_set, ht, scells, scells, List.map_set]
theorem own_frozen {w : World} {N g cap : Nat} {l : List Pm.T} (h : w.ownsRow N 9 1 (.slice (some ⟨g, 0, none⟩) l.length cap) l.length (scells l)) (m : Nat) : w.frozen? ⟨g, m, none⟩ = false := by
  rcases h.2 with ⟨h1, _⟩ | ⟨g', cap', cur, hv, hN, hh, hc, hm, hs, ht⟩
  · cases h1
  · cases hv
    simp [World.frozen?, hh]
/- the row while it is shortened -/
def rowL (kp s : List Pm.T) : List Pm.T := kp ++ s.drop kp.length
theorem rowL_length {kp s : List Pm.T} (h : kp.length ≤ s.length) : (rowL kp s).length = s.length := by
  rw [rowL, List.length_append, List.length_drop]; omega
theorem rowL_at {kp s : List Pm.T} {i : Nat} (h : kp.length ≤ i) : (rowL kp s).getD i [] = s.getD i [] := by
  rw [rowL, List.getD_eq_getElem?_getD, List.getD_eq_getElem?_getD, List.getElem?_append_right h, List.getElem?_drop]
  congr 2; omega
theorem rowL_last {kp s : List Pm.T} {m : Nat} (h : kp.length = m + 1) : (rowL kp s).getD m [] = kp.getLastD [] := by
  rw [rowL, List.getD_eq_getElem?_getD, List.getElem?_append_left (by omega), getLastD_at, List.getD_eq_getElem?_getD, h, Nat.add_sub_cancel]
theorem rowL_set {kp s : List Pm.T} {y : Pm.T} (h : kp.length < s.length) : (rowL kp s).set kp.length y = rowL (kp ++ [y]) s := by
  rw [rowL, rowL, List.set_append_right _ _ (Nat.le_refl _), Nat.sub_self, List.length_append, List.length_singleton, List.append_assoc]
  congr 1
  rw [List.drop_eq_getElem_cons h, List.set_cons_zero]; rfl
theorem rowL_take {kp s : List Pm.T} : (rowL kp s).take kp.length = kp := by rw [rowL]; simp
theorem keep_take_succ {s : List Pm.T} {k : Nat} (h : k < s.length) : Sm.keep [] (s.take (k + 1)) = (if Sm.keep [] (s.take k) = [] ∨ Sm.lies ((Sm.keep [] (s.take k)).getLastD []) (s.getD k []) = false then Sm.keep [] (s.take k) ++ [s.getD k []] else Sm.keep [] (s.take k)) := by
  suffices hh : ∀ (a : List Pm.T) (kp : List Pm.T) (x : Pm.T), Sm.keep kp (a ++ [x]) = (if Sm.keep kp a = [] ∨ Sm.lies ((Sm.keep kp a).getLastD []) x = false then Sm.keep kp a ++ [x] else Sm.keep kp a) by
    rw [List.take_add_one, getD_some h]
    exact hh _ _ _
  intro a
  induction a with
  | nil => intro kp x; rfl
  | cons y a ih => intro kp x; rw [List.cons_append, Sm.keep, ih]; rfl
theorem TextsAt.upto {w : World} {g n : Nat} {l : List Pm.T} (h : TextsAt w g 0 l) : TextsAt w g 0 (l.take n) := fun j x hj => h j x (by
  rw [List.getElem?_take] at hj
  split at hj
  · exact hj
  · cases hj)
end Go.Proofs.YtbcmgcallidneaaGreatDoor
