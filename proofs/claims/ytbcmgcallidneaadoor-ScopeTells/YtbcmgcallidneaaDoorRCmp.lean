/- Proved: the document's Below and Compare answer as the program's. -/
import Derived.Test.YtbcmgcallidneaaDoorRJoin
import Derived.Test.YtbcmgcallidneaaDoorMathR
namespace Go.Proofs.YtbcmgcallidneaaDoor
open Go.RowKit
theorem mk_list (l : Pm.T) : (mk l).toList = l := by rw [ByteArray.toList_eq]; rfl
theorem rsplit_slice (s : ByteArray) (w : World) (hs : s.size ≤ 30000) :
    Calls Tryd.prog 49 #[.string s] w fun e w' => ∃ ad c, e = .returned (.slice ad (Pm.split (bl s)).length c) ∧ (0 < (Pm.split (bl s)).length → ∃ g, ad = some ⟨g, 0, none⟩ ∧ g < w'.heap.size ∧ TextsAt w' g 0 (Pm.split (bl s))) ∧ Below w.heap.size w w' := by
  refine (rsplit_any s w hs).mono fun e w' ⟨v, he, ho, hb⟩ => ?_
  obtain ⟨ad, c, hv, ht⟩ := own_slice ho
  exact ⟨ad, c, by rw [he, hv], ht, hb⟩
end Go.Proofs.YtbcmgcallidneaaDoor
