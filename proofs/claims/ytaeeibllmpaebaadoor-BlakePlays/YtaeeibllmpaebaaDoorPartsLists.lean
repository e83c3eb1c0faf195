/- Proved: what a slice of slices of bytes that comes in is read as. Conditions: the row's own. -/
import Derived.Test.YtaeeibllmpaebaaDoorFrame
import Derived.Test.YtaeeibllmpaebaaDoorPlays
import Derived.Deep.Matrix
namespace Go.Proofs.YtaeeibllmpaebaaDoor
open Go.RowKit
theorem cells_at {w : World} {a : Addr} {n : Nat} {f : Nat → Value} (h : ∀ r, r < n → w.cell? (a.add r) = some (f r)) (hp : 0 < n) : ∃ b off, a = ⟨b, off, none⟩ ∧ ∀ j, j < n → w.cell? ⟨b, off + j, none⟩ = some (f j) := by
  obtain ⟨b, off, spot⟩ := a
  have hspot : spot = none := by simpa [Addr.add] using World.cell?_spot (h 0 hp)
  subst hspot
  exact ⟨b, off, rfl, fun j hj => by rw [← Go.WideShapes.add_plain]; exact h j hj⟩
theorem lists_of {H : Type} {enc : TypeId × Value → H} {W : World} {a : Option Addr} {len cap : Nat} {d : DataW H} {p : List MemPlace} (h : DataW.Trod enc Tryd.prog W 0 (fun _ => true) true 31 (.slice a len cap) d p) :
    Lists W a len ∧ len ≤ cap ∧ cap ≤ 9223372036854775807 := by
  obtain ⟨m, hm⟩ := h
  rcases Go.Deep.open_int_rows Tryd.underlying31 Tryd.underlying22 Tryd.underlying5 (by kernel_rfl) (by kernel_rfl) hm with ⟨hcs, _⟩ | ⟨x, len', cap', A, L, C, Z, hcs, _, hl, hmx, _, hrows⟩
  · simp [Value.cells] at hcs
    obtain ⟨rfl, rfl, rfl⟩ := hcs
    exact ⟨.inl rfl, Nat.le_refl _, by omega⟩
  · simp [Value.cells] at hcs
    obtain ⟨rfl, rfl, rfl⟩ := hcs
    unfold maxLen at hmx
    refine ⟨?_, hl, by omega⟩
    by_cases h0 : len = 0
    · exact .inl h0
    · obtain ⟨b, off, rfl, hc⟩ := cells_at (fun r hr => (hrows r hr).1) (show 0 < cap by omega)
      refine .inr ⟨b, off, rfl, fun i hi => ?_⟩
      obtain ⟨_, hLC, hCm, hZ, hwf, hnone, hsome⟩ := hrows i (by omega)
      have hR : IsRow .u8 W (A i) (L i) (C i) (Z i) := by
        cases hA : A i with
        | none =>
          have hC0 := hnone hA
          refine .inl ⟨rfl, by omega, hC0, ?_⟩
          exact List.eq_nil_of_length_eq_zero (by rw [hZ, hC0])
        | some x' =>
          refine .inr ⟨x', rfl, hLC, hCm, hZ, fun j hj => ?_, hwf⟩
          exact (hsome x' hA).2 j (by omega)
      obtain ⟨hB, h1, h2⟩ := hR.bytes
      exact ⟨A i, L i, C i, _, hc i (by omega), hB, h1, h2⟩
end Go.Proofs.YtaeeibllmpaebaaDoor
