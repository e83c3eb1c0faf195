/- Proved: the program's start lays the two tables, and what a slice of bytes that comes in is read as. What every law's proof of this seat shares; conditions: the row's own. -/
import Derived.Test.YtaeeibllmpaebaaDoorRows
import Derived.Test.YtaeeibllmpaebaaDoorSame
import Derived.ProofKit
import Derived.OpenShut
import Derived.ShutString
import Derived.ChangeOld
import Derived.Below
import Derived.LaidMore
import Derived.Stop.Joined
import Derived.Lib.LaidTab
namespace Go.Proofs.YtaeeibllmpaebaaDoor
open Go.ChangeShapes Go.WideShapes Go.ChangeAt Go.RowKit
theorem own : ownKnob Tryd.prog.godebug = none := by kernel_rfl
theorem laidOut : laidOutB Tryd.prog = true := by kernel_rfl
def laid1 : List (String × DataW Unit) := [("aquifer/blake.start", Rows.laid_aquifer_blake_start), ("aquifer/blake.orders", Rows.laid_aquifer_blake_orders)]
theorem gStart : Tryd.prog.globalNamed "aquifer/blake.start" = some 0 := by kernel_rfl
theorem gStartType : (Tryd.prog.globals[0]?).map (·.type) = some 47 := by kernel_rfl
theorem gOrders : Tryd.prog.globalNamed "aquifer/blake.orders" = some 1 := by kernel_rfl
theorem gOrdersType : (Tryd.prog.globals[1]?).map (·.type) = some 71 := by kernel_rfl
theorem laid1_eq : laid1 = [("aquifer/blake.start", Lib.tabData .u32 (Bl.first.map Int.ofNat)), ("aquifer/blake.orders", .agg (Bl.order.map fun r => Lib.tabData .u8 (r.map Int.ofNat)))] := rfl
/- The door's own heap meets the condition. -/
theorem door_met (os : Os) (args : Array Value) : laidMetH Tryd.prog laid1 ((World.doorLaid Tryd.prog 21 os).forCall (fun _ _ => 0) ⟨#[], args, []⟩).memory :=
  laidMetH_of_parts3 (fuel := 8) (laidMet_of_run' 8 (by kernel_rfl) (by kernel_rfl)) (by kernel_rfl) (by kernel_rfl)
/- an array of arrays of numbers, row for row -/
theorem cells_of_grid {H : Type} {enc : TypeId × Value → H} {P : Program} {w : World} {base : Nat} {sp : Nat → Bool} {held : Bool} {fuel : Nat} {t e f : TypeId} {n m : Nat} {k : IntKind} {cs : List Value} {rows : List (List Int)} {p : List MemPlace}
    (ht : P.underlying t = some (.array n e)) (he : P.underlying e = some (.array m f)) (hf : P.underlying f = some (.int k)) (hcf : P.cellsOf f = 1) (hce : P.cellsOf e = m) (hct : P.cellsOf t = n * m)
    (h : DataW.trod enc P w base sp held fuel t cs = some (.agg (rows.map fun r => Lib.tabData k r), p)) : ∀ i, i < n → (cs.drop (i * m)).take m = (rows.getD i []).map fun z => Value.int k z := by
  cases fuel with
  | zero => simp [DataW.trod] at h
  | succ fuel =>
    simp only [DataW.trod, ht, hce, hct] at h
    split at h
    · obtain ⟨xs, hm, hx⟩ := Option.map_eq_some_iff.1 h
      have hxs : xs.map (·.1) = rows.map fun r => (Lib.tabData k r : DataW H) := by
        have := congrArg Prod.fst hx
        simpa using this
      intro i hi
      obtain ⟨b, hb, hfb⟩ := Lib.mapM_at hm i i (by simp [hi])
      have h2 : (xs.map (·.1))[i]? = some b.1 := by simp [hb]
      rw [hxs, List.getElem?_map] at h2
      obtain ⟨r, hr, hrb⟩ := Option.map_eq_some_iff.1 h2
      have hb1 : b = (Lib.tabData k r, b.2) := by rw [hrb]
      rw [hb1] at hfb
      have := Lib.cells_of_tab he hf hcf hce hfb
      rw [this, List.getD_eq_getElem?_getD, hr]; rfl
    · cases h
theorem grid_at : ∀ i, i < 10 → ∀ j, j < 16 → (flat.map V8)[i * 16 + j]? = (((Bl.order.map fun r => r.map Int.ofNat).getD i []).map fun z => Value.int .u8 z)[j]? := by
  intro i hi j hj
  have h : i = 0 ∨ i = 1 ∨ i = 2 ∨ i = 3 ∨ i = 4 ∨ i = 5 ∨ i = 6 ∨ i = 7 ∨ i = 8 ∨ i = 9 := by omega
  have h' : j = 0 ∨ j = 1 ∨ j = 2 ∨ j = 3 ∨ j = 4 ∨ j = 5 ∨ j = 6 ∨ j = 7 ∨ j = 8 ∨ j = 9 ∨ j = 10 ∨ j = 11 ∨ j = 12 ∨ j = 13 ∨ j = 14 ∨ j = 15 := by omega
  rcases h with rfl | rfl | rfl | rfl | rfl | rfl | rfl | rfl | rfl | rfl <;> rcases h' with rfl | rfl | rfl | rfl | rfl | rfl | rfl | rfl | rfl | rfl | rfl | rfl | rfl | rfl | rfl | rfl <;> rfl
/- What the condition gives the walks: the two tables. -/
theorem tab_of_laid {W : World} (h : laidMetH Tryd.prog laid1 W) : Tab W := by
  rw [MakeChecks.laidMetH_plain _ _ _ (by kernel_rfl), laid1_eq] at h
  have hS := Lib.tabIs_of_head gStart gStartType Tryd.underlying47 Tryd.underlying46 (by kernel_rfl) (by kernel_rfl) h
  obtain ⟨ps, ⟨g1, t1, cs1, f1, p1, q1, _, _, _, _, ⟨g2, t2, cs2, f2, p2, q2, hg2, ht2, hv2, hd2, _, _⟩, _⟩, _⟩ := h
  obtain rfl := Option.some.inj (gOrders.symm.trans hg2)
  obtain rfl := Option.some.inj (gOrdersType.symm.trans ht2)
  have hG := cells_of_grid (rows := Bl.order.map fun r => r.map Int.ofNat) Tryd.underlying71 Tryd.underlying70 Tryd.underlying5 (by kernel_rfl) (by kernel_rfl) (by kernel_rfl) (by rw [List.map_map]; exact hd2)
  refine ⟨fun j v hv => ?_, fun j v hv => ?_⟩
  · have hj : j < Bl.first.length := by simpa using (List.getElem?_eq_some_iff.1 hv).1
    rw [Nat.zero_add, hS.cell gStart j (by simpa using hj), ← hv, List.getElem?_map, List.getElem?_eq_getElem hj, List.getD_eq_getElem?_getD, List.getElem?_map, List.getElem?_eq_getElem hj]; rfl
  · have hj : j < 160 := by
      have := (List.getElem?_eq_some_iff.1 hv).1
      have e : (flat.map V8).length = 160 := by kernel_rfl
      omega
    have hc := World.var?_cell gOrders hv2 j
    have e := hG (j / 16) (by omega)
    have e2 : cs2.toList[j]? = (flat.map V8)[j]? := by
      have h1 : ((cs2.toList.drop (j / 16 * 16)).take 16)[j % 16]? = cs2.toList[j]? := by
        rw [List.getElem?_take_of_lt (by omega), List.getElem?_drop]
        congr 1
        omega
      rw [← h1, e, ← grid_at (j / 16) (by omega) (j % 16) (by omega)]
      congr 1
      omega
    rw [Nat.zero_add, hc, ← Array.getElem?_toList, e2, hv]
theorem Tab.pos {W : World} (h : Tab W) : 1 < W.heap.size := block_lt_of_cell (h.2 0 (.int .u8 0) rfl)
/- WHAT THE WALK IS TOLD OF A SLICE OF INTEGERS THAT CAME IN. -/
def IsRow (k : IntKind) (w : World) (a : Option Addr) (len cap : Nat) (zs : List Int) : Prop :=
  (a = none ∧ len = 0 ∧ cap = 0 ∧ zs = []) ∨
  ∃ x, a = some x ∧ len ≤ cap ∧ cap ≤ maxLen ∧ zs.length = cap ∧ (∀ i, i < zs.length → w.cell? (x.add i) = some (.int k (zs.getD i 0))) ∧ ∀ n ∈ zs, (Lit.int k n).wf = true
theorem wf_u8 {n : Int} (h : (Lit.int .u8 n).wf = true) : 0 ≤ n ∧ n < 256 := by
  have := bounds_u8 h; omega
theorem wf_u32 {n : Int} (h : (Lit.int .u32 n).wf = true) : 0 ≤ n ∧ n < 4294967296 := by
  have := bounds_u32 h; omega
theorem IsRow.bytes {w : World} {a : Option Addr} {len cap : Nat} {zs : List Int} (h : IsRow .u8 w a len cap zs) : Bytes w a len ((zs.take len).map Int.toNat) ∧ len ≤ cap ∧ cap ≤ 9223372036854775807 := by
  rcases h with ⟨rfl, rfl, rfl, rfl⟩ | ⟨x, rfl, hl, hm, hz, hc, hw⟩
  · exact ⟨Bytes.nil _ _, Nat.le_refl _, by omega⟩
  · unfold maxLen at hm
    refine ⟨⟨by simp; omega, fun n hn => ?_, by omega, ?_⟩, hl, by omega⟩
    · obtain ⟨z, hz', rfl⟩ := List.mem_map.1 hn
      have := wf_u8 (hw z (List.mem_of_mem_take hz'))
      omega
    · by_cases h0 : len = 0
      · exact .inl h0
      · obtain ⟨b, off, rfl, hc'⟩ := ints_at hc (by omega)
        refine .inr ⟨b, off, rfl, fun i hi => ?_⟩
        rw [hc' i (by omega)]
        have hlt : i < zs.length := by omega
        have hb := wf_u8 (hw zs[i] (List.getElem_mem hlt))
        have e1 : zs.getD i 0 = zs[i] := by rw [List.getD_eq_getElem?_getD, List.getElem?_eq_getElem hlt]; rfl
        have e2 : ((zs.take len).map Int.toNat).getD i 0 = zs[i].toNat := by
          rw [List.getD_eq_getElem?_getD, List.getElem?_map, List.getElem?_take_of_lt hi, List.getElem?_eq_getElem hlt]; rfl
        rw [e1, e2, Int.toNat_of_nonneg hb.1]
theorem isRow_of {H : Type} {enc : TypeId × Value → H} {W : World} {base : Nat} {held : Bool} {t e : TypeId} {k : IntKind} {a : Option Addr} {len cap : Nat} {d : DataW H} {p : List MemPlace}
    (ht : Tryd.prog.underlying t = some (.slice e)) (he : Tryd.prog.underlying e = some (.int k)) (hc : Tryd.prog.cellsOf e = 1) (h : DataW.Trod enc Tryd.prog W base (fun _ => true) held t (.slice a len cap) d p) : ∃ zs, IsRow k W a len cap zs := by
  obtain ⟨fuel, hf⟩ := h
  rcases open_ints ht he hc hf with ⟨hcs, _⟩ | ⟨x, l, c, zs, hcs, _, hl, hm, hz, _, hcell, hwz⟩
  · simp [Value.cells] at hcs
    obtain ⟨rfl, rfl, rfl⟩ := hcs
    exact ⟨[], .inl ⟨rfl, rfl, rfl, rfl⟩⟩
  · simp [Value.cells] at hcs
    obtain ⟨rfl, rfl, rfl⟩ := hcs
    exact ⟨zs, .inr ⟨_, rfl, hl, hm, by simpa using hz, hcell, hwz⟩⟩
end Go.Proofs.YtaeeibllmpaebaaDoor
