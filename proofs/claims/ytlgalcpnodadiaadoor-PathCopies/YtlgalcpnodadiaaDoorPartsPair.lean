/- Proved: what two numbers in an array that come in are read as. -/
import Derived.Test.YtlgalcpnodadiaaDoorFrame
namespace Go.Proofs.YtlgalcpnodadiaaDoor
open Go.RowKit
set_option maxRecDepth 100000 in
theorem ints2_of {H : Type} {enc : TypeId × Value → H} {W : World} {base : Nat} {v : Value} {d : DataW H} {p : List MemPlace} (hval : Value.okWide Tryd.prog W .any base 45 v) (h : DataW.Trod enc Tryd.prog W 0 (fun _ => true) true 45 v d p) :
    ∃ a b : Int, v = .agg #[.int .i64 a, .int .i64 b] := by
  obtain ⟨cs, rfl, hsz, _⟩ : ∃ cs, v = .agg cs ∧ cs.size = Tryd.prog.cellsOf 45 ∧ Row.okWide Tryd.prog W .any base 45 cs := by
    simpa [Value.okWide, Tryd.underlying45] using hval
  have h45 : Tryd.prog.cellsOf 45 = 2 := by kernel_rfl
  have h3 : Tryd.prog.cellsOf 3 = 1 := by kernel_rfl
  rw [h45] at hsz
  obtain ⟨fuel, hf⟩ := h
  obtain ⟨xs, m, _, _, hl, hx, hel⟩ := DataW.trod_array Tryd.underlying45 hf
  rw [h3] at hel
  have each : ∀ i, i < 2 → ∃ n : Int, ((cs.toList.drop (i * 1)).take 1) = [.int .i64 n] := fun i hi => by
    have hE := hel i hi
    rw [List.getElem?_eq_getElem (by omega)] at hE
    obtain ⟨n, e, _, _⟩ := DataW.trod_int Tryd.underlying3 hE
    exact ⟨n, e⟩
  obtain ⟨a, ha⟩ := each 0 (by omega)
  obtain ⟨b, hb⟩ := each 1 (by omega)
  refine ⟨a, b, ?_⟩
  have := pair_of (l := cs.toList) (by simpa using hsz) ha hb
  congr 1
  rw [← Array.toArray_toList (xs := cs), this]
end Go.Proofs.YtlgalcpnodadiaaDoor
