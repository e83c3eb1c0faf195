/- Proved: what comes in as a cell has texts of a size that can be. Conditions: the row's own. -/
import Derived.Test.YtoinaplmgffkpaaFrame
namespace Go.Proofs.Ytoinaplmgffkpaa
open Go.ChangeShapes Go.WideShapes Go.ChangeAt Go.RowKit
open Sl (Cel Nod)
set_option maxRecDepth 20000 in
theorem cel_weights {H : Type} {enc : TypeId × Value → H} {W : World} {fuel : Nat} {c : Cel} {x : DataW H × List MemPlace} (h : DataW.trod enc Try.prog W 0 (fun _ => true) true fuel 28 (ccells c) = some x) :
    c.key.size ∈ x.1.weights Try.prog 28 ∧ c.val.size ∈ x.1.weights Try.prog 28 := by
  have c9 : Try.prog.cellsOf 9 = 1 := by kernel_rfl
  obtain ⟨y0, y1, y2, y3, k, hx, _, h0, h1, h2, h3⟩ := Go.Joins.trod_struct4 Try.underlying28 h
  obtain ⟨s0, e0, hy0, _⟩ := DataW.trod_string Try.underlying9 h0
  obtain ⟨s1, e1, hy1, _⟩ := DataW.trod_string Try.underlying9 h1
  change List.take (Try.prog.cellsOf 9) (List.drop 0 (ccells c)) = _ at e0
  change List.take (Try.prog.cellsOf 9) (List.drop 1 (ccells c)) = _ at e1
  rw [c9] at e0 e1
  simp [ccells] at e0 e1
  subst e0 e1
  rw [hx, hy0, hy1]
  constructor
  · simp [DataW.weights, Try.underlying28, DataW.weightsEach]
  · simp [DataW.weights, Try.underlying28, DataW.weightsEach]
theorem cell_sized {H : Type} {enc : TypeId × Value → H} {W : World} {c : Cel} {d : DataW H} {p : List MemPlace} (h : DataW.Trod enc Try.prog W 0 (fun _ => true) true 28 (cv c) d p) {ts : List TypeId} {ds : List (DataW H)} {j : Nat} (hsz : (DataW.weightsEach Try.prog ts ds).all (· ≤ reachBytes) = true) (ht : ts[j]? = some 28) (hd : ds[j]? = some d) (hf : CelFit0 c) : CelFit c := by
  obtain ⟨fuel, hh⟩ := h
  have hh' : DataW.trod enc Try.prog W 0 (fun _ => true) true fuel 28 (ccells c) = some (d, p) := by simpa [cv, Value.cells, ccells] using hh
  obtain ⟨w1, w2⟩ := cel_weights hh'
  have g1 := List.all_eq_true.1 hsz _ (DataW.weights_mem_each ht hd _ w1)
  have g2 := List.all_eq_true.1 hsz _ (DataW.weights_mem_each ht hd _ w2)
  have hr : reachBytes < 2 ^ 47 := reachBytes_lt
  simp only [decide_eq_true_eq] at g1 g2
  exact ⟨by omega, by omega, hf.over, hf.len⟩
end Go.Proofs.Ytoinaplmgffkpaa
