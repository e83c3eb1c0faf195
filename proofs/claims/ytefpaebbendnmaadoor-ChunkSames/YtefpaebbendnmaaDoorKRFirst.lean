/- Proved: the document's first words and orders, as slices of the call's own. -/
import Derived.Test.YtefpaebbendnmaaDoorKSame
import Derived.Test.YtefpaebbendnmaaDoorKG
namespace Go.Proofs.YtefpaebbendnmaaDoor.BK
open Go.RowKit
set_option maxHeartbeats 400000 in
theorem first_any (w : World) : Calls Tryd.prog 33 #[] w fun e w' => e = .returned (.slice (some ⟨w.heap.size, 0, none⟩) 8 8) ∧ w' = w.alloc (.cells (arr Bl.first) 59) := by
  go_enter Tryd.func33, Tryd.ntmps33
  go_wp2
  go_ret
  exact ⟨rfl, rfl⟩
/- blocks that are laid one behind the other -/
def allocs (w : World) : List Obj → World
  | [] => w
  | o :: r => allocs (w.alloc o) r
theorem allocs_size : ∀ (l : List Obj) (w : World), (allocs w l).heap.size = w.heap.size + l.length
  | [], _ => rfl
  | o :: r, w => by
    show (allocs (w.alloc o) r).heap.size = _
    rw [allocs_size r, World.size_alloc', List.length_cons]; omega
theorem allocs_below : ∀ (l : List Obj) (w : World), Below w.heap.size w (allocs w l)
  | [], w => Below.refl _ w
  | o :: r, w => ((Below.refl _ w).alloc (Nat.le_refl _) o).trans ((allocs_below r (w.alloc o)).mono (by rw [World.size_alloc']; omega))
theorem allocs_at : ∀ (l : List Obj) (w : World) (j : Nat), j < l.length → (allocs w l).heap[w.heap.size + j]? = l[j]?
  | [], _, j, h => by cases h
  | o :: r, w, 0, _ => by
    show (allocs (w.alloc o) r).heap[w.heap.size + 0]? = some o
    rw [(allocs_below r (w.alloc o)).block _ (by rw [World.size_alloc']; omega)]; exact heap_alloc_new w o
  | o :: r, w, j + 1, h => by
    show (allocs (w.alloc o) r).heap[w.heap.size + (j + 1)]? = r[j]?
    have e := allocs_at r (w.alloc o) j (by simpa using h)
    rw [World.size_alloc'] at e
    rw [← e]; congr 1; omega
def ordObj (r : Nat) : Obj := .cells ((Bl.order.getD r []).map fun i => Value.int .i64 (i : Nat)).toArray 3
def ordTop (n : Nat) : Obj := .cells ((List.range 10).map fun r => Value.slice (some ⟨n + r, 0, none⟩) 16 16).toArray 26
/- what the rounds read of the document's orders -/
structure Orders (w : World) (n : Nat) : Prop where
  top : ∀ r, r < 10 → w.cell? ⟨n + 10, r, none⟩ = some (.slice (some ⟨n + r, 0, none⟩) 16 16)
  row : ∀ r, r < 10 → ∀ i, i < 16 → w.cell? ⟨n + r, i, none⟩ = some (.int .i64 (Bl.ord r i : Nat))
  lt : n + 11 ≤ w.heap.size
theorem Orders.keep {w w' : World} {n B : Nat} (h : Orders w n) (hb : Below B w w') (hB : n + 11 ≤ B) : Orders w' n :=
  ⟨fun r hr => (hb.cell (p := ⟨n + 10, r, none⟩) (show n + 10 < B by omega)).trans (h.top r hr), fun r hr i hi => (hb.cell (p := ⟨n + r, i, none⟩) (show n + r < B by omega)).trans (h.row r hr i hi), Nat.le_trans h.lt hb.size⟩
theorem Orders.only {w w' : World} {n g : Nat} (h : Orders w n) (ho : Only g w w') (hg : g < n ∨ n + 11 ≤ g) : Orders w' n :=
  ⟨fun r hr => (ho.cell (p := ⟨n + 10, r, none⟩) (show n + 10 ≠ g by omega)).trans (h.top r hr), fun r hr i hi => (ho.cell (p := ⟨n + r, i, none⟩) (show n + r ≠ g by omega)).trans (h.row r hr i hi), by rw [ho.size]; exact h.lt⟩
theorem orders_laid (w : World) : Orders (allocs w ((List.range 10).map ordObj ++ [ordTop w.heap.size])) w.heap.size := by
  have hat : ∀ j, j < 11 → (allocs w ((List.range 10).map ordObj ++ [ordTop w.heap.size])).heap[w.heap.size + j]? = ((List.range 10).map ordObj ++ [ordTop w.heap.size])[j]? := fun j hj => allocs_at _ w j (by simp; omega)
  refine ⟨fun r hr => ?_, fun r hr i hi => ?_, by rw [allocs_size]; simp⟩
  · have e := hat 10 (by omega)
    rw [cell_of_row _ _ r _ 26 (0, 0) e, List.getElem?_toArray, List.getElem?_map, List.getElem?_range hr]; rfl
  · have e := hat r (by omega)
    rw [List.getElem?_append_left (by simp; exact hr), List.getElem?_map, List.getElem?_range hr, Option.map_some] at e
    have hl := order_length r hr
    rw [cell_of_row _ _ i _ 3 (0, 0) e, List.getElem?_toArray, List.getElem?_map, List.getElem?_eq_getElem (by rw [hl]; exact hi), Option.map_some]
    unfold Bl.ord
    rw [List.getD_eq_getElem?_getD (l := Bl.order.getD r []), List.getElem?_eq_getElem (by rw [hl]; exact hi), Option.getD_some]
set_option maxHeartbeats 1000000 in
set_option maxRecDepth 20000 in
theorem orders_any (w : World) : Calls Tryd.prog 42 #[] w fun e w' => e = .returned (.slice (some ⟨w.heap.size + 10, 0, none⟩) 10 10) ∧ Orders w' w.heap.size ∧ Below w.heap.size w w' ∧ w'.heap.size = w.heap.size + 11 := by
  go_enter Tryd.func42, Tryd.ntmps42
  go_wp2
  go_ret
  refine ⟨rfl, ?_⟩
  have h1 := orders_laid w
  have h2 := allocs_below ((List.range 10).map ordObj ++ [ordTop w.heap.size]) w
  have h3 := allocs_size ((List.range 10).map ordObj ++ [ordTop w.heap.size]) w
  exact ⟨h1, h2, h3⟩
end Go.Proofs.YtefpaebbendnmaaDoor.BK
