/- Proved: how a block of the heap that holds words is read and written. -/
import Derived.Test.YtefpaebbendnmaaDoorKLeaf
import Derived.Deep.RegionHeld3
import Derived.Deep.MidRow
namespace Go.Proofs.YtefpaebbendnmaaDoor.BK
open Go.RowKit
def V32 (n : Nat) : Value := .int .u32 (n : Nat)
def V8 (n : Nat) : Value := .int .u8 (n : Nat)
def arr (v : List Nat) : Array Value := (v.map V32).toArray
def arr8 (v : List Nat) : Array Value := (v.map V8).toArray
theorem arr_size (v : List Nat) : (arr v).size = v.length := by simp [arr]
theorem arr8_size (v : List Nat) : (arr8 v).size = v.length := by simp [arr8]
theorem arr_at (v : List Nat) (i : Nat) (hi : i < v.length) : (arr v)[i]? = some (.int .u32 (v.getD i 0 : Nat)) := by
  unfold arr
  rw [List.getElem?_toArray, List.getElem?_map, List.getElem?_eq_getElem hi, List.getD_eq_getElem?_getD, List.getElem?_eq_getElem hi]; rfl
theorem arr8_at (v : List Nat) (i : Nat) (hi : i < v.length) : (arr8 v)[i]? = some (.int .u8 (v.getD i 0 : Nat)) := by
  unfold arr8
  rw [List.getElem?_toArray, List.getElem?_map, List.getElem?_eq_getElem hi, List.getD_eq_getElem?_getD, List.getElem?_eq_getElem hi]; rfl
theorem arr_one (v : List Nat) : (arr v).all (·.oneCell') = true := by
  rw [Array.all_eq_true]
  intro i hi
  have e := arr_at v i (by rw [arr_size] at hi; exact hi)
  rw [Array.getElem?_eq_getElem hi] at e
  rw [Option.some.inj e]; rfl
theorem arr8_one (v : List Nat) : (arr8 v).all (·.oneCell') = true := by
  rw [Array.all_eq_true]
  intro i hi
  have e := arr8_at v i (by rw [arr8_size] at hi; exact hi)
  rw [Array.getElem?_eq_getElem hi] at e
  rw [Option.some.inj e]; rfl
theorem arr_set (v : List Nat) (i x : Nat) : (arr v).setIfInBounds i (.int .u32 (x : Nat)) = arr (v.set i x) := by
  unfold arr
  rw [List.setIfInBounds_toArray, List.map_set]; rfl
theorem arr8_set (v : List Nat) (i x : Nat) : (arr8 v).setIfInBounds i (.int .u8 (x : Nat)) = arr8 (v.set i x) := by
  unfold arr8
  rw [List.setIfInBounds_toArray, List.map_set]; rfl
/- block g holds these words first, then the values of tl -/
def Row (w : World) (g t : Nat) (v : List Nat) (tl : List Value) : Prop := w.heap[g]? = some (.cells (v.map V32 ++ tl).toArray t (0, 0))
theorem Row.at {w : World} {g t : Nat} {v : List Nat} {tl : List Value} (h : Row w g t v tl) (i : Nat) (hi : i < v.length) : w.cell? ⟨g, i, none⟩ = some (.int .u32 (v.getD i 0 : Nat)) ∧ w.frozen? ⟨g, i, none⟩ = false := by
  refine ⟨?_, frozen_of_row w g i _ t h⟩
  rw [cell_of_row w g i _ t (0, 0) h, List.getElem?_toArray, List.getElem?_append_left (by simpa using hi), List.getElem?_map, List.getElem?_eq_getElem hi, List.getD_eq_getElem?_getD, List.getElem?_eq_getElem hi]; rfl
theorem Row.set {w : World} {g t : Nat} {v : List Nat} {tl : List Value} (h : Row w g t v tl) (i x : Nat) (hi : i < v.length) : Row (w.setCell ⟨g, i, none⟩ (.int .u32 (x : Nat))) g t (v.set i x) tl := by
  unfold Row
  rw [heap_setCell_same w g i _ t _ h, List.setIfInBounds_toArray, List.set_append_left _ _ (by simpa using hi), List.map_set]; rfl
theorem Row.lt {w : World} {g t : Nat} {v : List Nat} {tl : List Value} (h : Row w g t v tl) : g < w.heap.size := (Array.getElem?_eq_some_iff.1 h).1
theorem row_arr {w : World} {g t : Nat} {v : List Nat} : Row w g t v [] ↔ w.heap[g]? = some (.cells (arr v) t (0, 0)) := by
  unfold Row arr; rw [List.append_nil]
/- but for block g the world is as it was -/
structure Only (g : Nat) (w w' : World) : Prop where
  os : w'.os = w.os
  tape : w'.tape = w.tape
  output : w'.output = w.output
  size : w'.heap.size = w.heap.size
  block : ∀ k, k ≠ g → w'.heap[k]? = w.heap[k]?
theorem Only.refl (g : Nat) (w : World) : Only g w w := ⟨rfl, rfl, rfl, rfl, fun _ _ => rfl⟩
theorem Only.trans {g : Nat} {a b c : World} (h : Only g a b) (k : Only g b c) : Only g a c := ⟨k.os.trans h.os, k.tape.trans h.tape, k.output.trans h.output, k.size.trans h.size, fun i hi => (k.block i hi).trans (h.block i hi)⟩
theorem Only.drew {g : Nat} {a b : World} (h : Only g a b) : Only g a b.drew := ⟨h.os, h.tape, h.output, h.size, h.block⟩
theorem Only.setCell {g : Nat} {a b : World} (h : Only g a b) {p : Addr} (hp : p.block = g) (u : Value) : Only g a (b.setCell p u) := h.trans ⟨rfl, rfl, rfl, by simp [World.setCell], fun k hk => Below.heap_setCell _ _ _ _ (by omega)⟩
theorem Only.below {g : Nat} {a b : World} (h : Only g a b) {B : Nat} (hB : B ≤ g) : Below B a b := ⟨h.os, h.tape, h.output, by rw [h.size]; exact Nat.le_refl _, fun k hk => h.block k (by omega)⟩
theorem Only.row {g : Nat} {a b : World} (h : Only g a b) {k t : Nat} {v : List Nat} {tl : List Value} (hk : k ≠ g) (hr : Row a k t v tl) : Row b k t v tl := (h.block k hk).trans hr
end Go.Proofs.YtefpaebbendnmaaDoor.BK
