/- Proved: how a list of texts that comes in is opened. -/
import Derived.Test.YtbcmgcallidneaaGreatDoorFrame
import Derived.Test.YtbcmgcallidneaaGreatDoorFewL
import Derived.SliceStrings
namespace Go.Proofs.YtbcmgcallidneaaGreatDoor
open Go.RowKit Go.WideShapes Go.ChangeShapes
theorem strs_of {H : Type} {enc : TypeId × Value → H} {W : World} {a : Option Addr} {len cap : Nat} {d : DataW H} {p : List MemPlace} (h : DataW.Trod enc Tryz.prog W 0 (fun _ => true) true 22 (.slice a len cap) d p) :
    ∃ ss, InA W a len ss := by
  obtain ⟨m, hm⟩ := h
  rcases open_strings Tryz.underlying22 Tryz.underlying9 (by kernel_rfl) hm with ⟨hcs, _⟩ | ⟨x, len', cap', ss, hcs, _, hl, hmx, hz, _, hcell, hws⟩
  · simp [Value.cells] at hcs
    obtain ⟨rfl, rfl, rfl⟩ := hcs
    exact ⟨[], ⟨rfl, by omega, fun h => absurd h (by omega), fun s hs => by cases hs⟩⟩
  · simp [Value.cells] at hcs
    obtain ⟨rfl, rfl, rfl⟩ := hcs
    simp only [if_true] at hz
    unfold maxLen at hmx
    refine ⟨ss.take len, ⟨by rw [List.length_take]; omega, by omega, fun h0 => ?_, fun s hs => ?_⟩⟩
    · obtain ⟨b, off, spot⟩ := x
      have hspot : spot = none := by simpa [Addr.add] using World.cell?_spot (hcell 0 (by omega))
      subst hspot
      refine ⟨b, off, rfl, block_lt_of_cell (hcell 0 (by omega)), fun j hj => ?_⟩
      have h1 := hcell j (by omega)
      rw [Go.WideShapes.add_plain] at h1
      rw [h1]
      congr 2
      rw [List.getD_eq_getElem?_getD, List.getD_eq_getElem?_getD, List.getElem?_take_of_lt hj]
    · have := hws s (List.mem_of_mem_take hs)
      unfold maxLen at this
      omega
end Go.Proofs.YtbcmgcallidneaaGreatDoor
