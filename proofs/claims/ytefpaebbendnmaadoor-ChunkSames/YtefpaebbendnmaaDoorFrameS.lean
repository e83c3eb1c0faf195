/- Proved: the program's start lays blake's two tables. Condition: the row's own. -/
import Derived.Test.YtefpaebbendnmaaDoorDFrame
import Derived.Test.YtefpaebbendnmaaDoorKBegun
namespace Go.Proofs.YtefpaebbendnmaaDoor
open Go.ChangeShapes Go.WideShapes Go.ChangeAt Go.RowKit
open BK (flat V8 V32)
def laidS : List (String × DataW Unit) := [("aquifer/blake.start", Rows.laid_aquifer_blake_start), ("aquifer/blake.orders", Rows.laid_aquifer_blake_orders)]
theorem gStart : Tryd.prog.globalNamed "aquifer/blake.start" = some 0 := by kernel_rfl
theorem gStartType : (Tryd.prog.globals[0]?).map (·.type) = some 66 := by kernel_rfl
theorem gOrders : Tryd.prog.globalNamed "aquifer/blake.orders" = some 3 := by kernel_rfl
theorem gOrdersType : (Tryd.prog.globals[3]?).map (·.type) = some 91 := by kernel_rfl
theorem laidS_eq : laidS = [("aquifer/blake.start", Lib.tabData .u32 (Bl.first.map Int.ofNat)), ("aquifer/blake.orders", .agg (Bl.order.map fun r => Lib.tabData .u8 (r.map Int.ofNat)))] := rfl
/- an array of arrays of numbers, row for row -/
theorem cells_of_grid {H : Type} {enc : TypeId × Value → H} {P : Program} {w : World} {base : Nat} {sp : Nat → Bool} {held : Bool} {fuel : Nat} {t e f : TypeId} {n m : Nat} {k : IntKind} {cs : List Value} {rows : List (List Int)} {p : List MemPlace}
    (ht : P.underlying t = some (.array n e)) (he : P.underlying e = some (.array m f)) (hf : P.underlying f = some (.int k)) (hcf : P.cellsOf f = 1) (hce : P.cellsOf e = m) (hct : P.cellsOf t = n * m)
    (h : DataW.trod enc P w base sp held fuel t cs = some (.agg (rows.map fun r => Lib.tabData k r), p)) : ∀ i, i < n → (cs.drop (i * m)).take m = (rows.getD i []).map fun z => Value.int k z := by
  cases fuel with
  | zero => simp [DataW.trod] at h
  | succ fuel =>
    simp only [DataW.trod, ht, hce, hct] at h
    split at h
    · obtain ⟨xs, hm, hx⟩ := Option.map_eq_some_iff.1 h
      have hxs : xs.map (·.1) = rows.map fun r => (Lib.tabData k r : DataW H) := by
        have := congrArg Prod.fst hx
        simpa using this
      intro i hi
      obtain ⟨b, hb, hfb⟩ := Lib.mapM_at hm i i (by simp [hi])
      have h2 : (xs.map (·.1))[i]? = some b.1 := by simp [hb]
      rw [hxs, List.getElem?_map] at h2
      obtain ⟨r, hr, hrb⟩ := Option.map_eq_some_iff.1 h2
      have hb1 : b = (Lib.tabData k r, b.2) := by rw [hrb]
      rw [hb1] at hfb
      have := Lib.cells_of_tab he hf hcf hce hfb
      rw [this, List.getD_eq_getElem?_getD, hr]; rfl
    · cases h
theorem grid_at : ∀ i, i < 10 → ∀ j, j < 16 → (flat.map V8)[i * 16 + j]? = (((Bl.order.map fun r => r.map Int.ofNat).getD i []).map fun z => Value.int .u8 z)[j]? := by
  intro i hi j hj
  have h : i = 0 ∨ i = 1 ∨ i = 2 ∨ i = 3 ∨ i = 4 ∨ i = 5 ∨ i = 6 ∨ i = 7 ∨ i = 8 ∨ i = 9 := by omega
  have h' : j = 0 ∨ j = 1 ∨ j = 2 ∨ j = 3 ∨ j = 4 ∨ j = 5 ∨ j = 6 ∨ j = 7 ∨ j = 8 ∨ j = 9 ∨ j = 10 ∨ j = 11 ∨ j = 12 ∨ j = 13 ∨ j = 14 ∨ j = 15 := by omega
  rcases h with rfl | rfl | rfl | rfl | rfl | rfl | rfl | rfl | rfl | rfl <;> rcases h' with rfl | rfl | rfl | rfl | rfl | rfl | rfl | rfl | rfl | rfl | rfl | rfl | rfl | rfl | rfl | rfl <;> rfl
/- What the condition gives the walks: the two tables. -/
theorem tab_of_laid {W : World} (h : laidMetH Tryd.prog laidS W) : BK.Tab W := by
  rw [MakeChecks.laidMetH_plain _ _ _ (by kernel_rfl), laidS_eq] at h
  have hS := Lib.tabIs_of_head gStart gStartType Tryd.underlying66 Tryd.underlying59 (by kernel_rfl) (by kernel_rfl) h
  obtain ⟨ps, ⟨g1, t1, cs1, f1, p1, q1, _, _, _, _, ⟨g2, t2, cs2, f2, p2, q2, hg2, ht2, hv2, hd2, _, _⟩, _⟩, _⟩ := h
  obtain rfl := Option.some.inj (gOrders.symm.trans hg2)
  obtain rfl := Option.some.inj (gOrdersType.symm.trans ht2)
  have hG := cells_of_grid (rows := Bl.order.map fun r => r.map Int.ofNat) Tryd.underlying91 Tryd.underlying90 Tryd.underlying5 (by kernel_rfl) (by kernel_rfl) (by kernel_rfl) (by rw [List.map_map]; exact hd2)
  refine ⟨fun j v hv => ?_, fun j v hv => ?_⟩
  · have hj : j < Bl.first.length := by simpa using (List.getElem?_eq_some_iff.1 hv).1
    rw [Nat.zero_add, hS.cell gStart j (by simpa using hj), ← hv, List.getElem?_map, List.getElem?_eq_getElem hj, List.getD_eq_getElem?_getD, List.getElem?_map, List.getElem?_eq_getElem hj]; rfl
  · have hj : j < 160 := by
      have := (List.getElem?_eq_some_iff.1 hv).1
      have e : (flat.map V8).length = 160 := by kernel_rfl
      omega
    have hc := World.var?_cell gOrders hv2 j
    have e := hG (j / 16) (by omega)
    have e2 : cs2.toList[j]? = (flat.map V8)[j]? := by
      have h1 : ((cs2.toList.drop (j / 16 * 16)).take 16)[j % 16]? = cs2.toList[j]? := by
        rw [List.getElem?_take_of_lt (by omega), List.getElem?_drop]
        congr 1
        omega
      rw [← h1, e, ← grid_at (j / 16) (by omega) (j % 16) (by omega)]
      congr 1
      omega
    rw [Nat.zero_add, hc, ← Array.getElem?_toList, e2, hv]
theorem tab_pos {W : World} (h : BK.Tab W) : 3 < W.heap.size := block_lt_of_cell (h.2 0 (.int .u8 0) rfl)
end Go.Proofs.YtefpaebbendnmaaDoor
