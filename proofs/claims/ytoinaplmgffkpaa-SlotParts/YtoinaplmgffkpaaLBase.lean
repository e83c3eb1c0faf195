/- Proved: a node that came in, cut by Few, and a cell, in the laws' variables (stage 11). -/
import Derived.Test.YtoinaplmgffkpaaFew
import Derived.Test.YtoinaplmgffkpaaWorks
import Derived.Test.YtoinaplmgffkpaaMathH
import Derived.Test.YtoinaplmgffkpaaFrame
namespace Go.Proofs.Ytoinaplmgffkpaa
open Go.RowKit
open Sl (Cel Nod)
theorem few_fit {n : Nod} (h : In0 n) : Fit (fewN n) := by
  refine ⟨fun c hc => ?_, fun k hk => ?_, fun i hi => h.kids i (List.mem_of_mem_take hi), ?_, ?_, ?_⟩
  · obtain ⟨x, hx, rfl⟩ := List.mem_map.1 hc
    have := h.cells x (List.mem_of_mem_take hx)
    exact ⟨Nat.le_trans (cutB_size _) (by omega), Nat.le_trans (cutB_size _) (by omega), this.over, this.len⟩
  · obtain ⟨x, hx, rfl⟩ := List.mem_map.1 hk
    exact Nat.le_trans (cutB_size _) (by omega)
  · show ((n.cells.take 20).map cutC).length ≤ 1000
    rw [List.length_map, List.length_take]; omega
  · show ((n.keys.take 20).map cutB).length ≤ 1000
    rw [List.length_map, List.length_take]; omega
  · show (n.kids.take 21).length ≤ 1000
    rw [List.length_take]; omega
theorem few_len (n : Nod) : (fewN n).cells.length ≤ 20 ∧ (fewN n).keys.length ≤ 20 ∧ (fewN n).kids.length ≤ 21 := by
  unfold fewN
  simp only [List.length_map, List.length_take]
  omega
theorem few_call {n : Nod} {p : Pt} {w W : World} (hN : Lies w n p) (h0 : In0 n) (hW : Below w.heap.size w W) :
    Calls Try.prog 9 #[nv n p] W fun e w' => ∃ p', e = .returned (nv (fewN n) p') ∧ LiesF w' W.heap.size (fewN n) p' ∧ Below W.heap.size W w' :=
  few_any n p W (hN.below hW) (fun c hc => ⟨(h0.cells c hc).key, (h0.cells c hc).val⟩) h0.keys
end Go.Proofs.Ytoinaplmgffkpaa
