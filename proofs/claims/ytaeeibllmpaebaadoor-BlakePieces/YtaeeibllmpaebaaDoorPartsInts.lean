/- Proved: what a slice of ints that comes in is read as. Conditions: the row's own. -/
import Derived.Test.YtaeeibllmpaebaaDoorFrame
import Derived.Test.YtaeeibllmpaebaaDoorPieces
namespace Go.Proofs.YtaeeibllmpaebaaDoor
open Go.RowKit
theorem IsRow.ints {w : World} {a : Option Addr} {len cap : Nat} {zs : List Int} (h : IsRow .i64 w a len cap zs) : Ints w a len (zs.take len) ∧ len ≤ cap ∧ cap ≤ 9223372036854775807 := by
  rcases h with ⟨rfl, rfl, rfl, rfl⟩ | ⟨x, rfl, hl, hm, hz, hc, hw⟩
  · exact ⟨⟨rfl, (fun z hz => by cases hz), by omega, .inl rfl⟩, Nat.le_refl _, by omega⟩
  · unfold maxLen at hm
    refine ⟨⟨by simp; omega, fun n hn => bounds_i64 (hw n (List.mem_of_mem_take hn)), by omega, ?_⟩, hl, by omega⟩
    by_cases h0 : len = 0
    · exact .inl h0
    · obtain ⟨b, off, rfl, hc'⟩ := ints_at hc (by omega)
      refine .inr ⟨b, off, rfl, fun i hi => ?_⟩
      rw [hc' i (by omega), List.getD_eq_getElem?_getD, List.getD_eq_getElem?_getD, List.getElem?_take_of_lt hi]
end Go.Proofs.YtaeeibllmpaebaaDoor
