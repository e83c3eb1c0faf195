/- Proved: the document's Join answers as the program's. -/
import Derived.Test.YtbcmgcallidneaaGreatDoorRSm
namespace Go.Proofs.YtbcmgcallidneaaGreatDoor
open Go.RowKit
theorem own_slice {w : World} {N : Nat} {v : Value} {l : List Pm.T} (h : w.ownsRow N 9 1 v l.length (scells l)) : ∃ ad c, v = .slice ad l.length c ∧ (0 < l.length → ∃ g, ad = some ⟨g, 0, none⟩ ∧ g < w.heap.size ∧ TextsAt w g 0 l) := by
  rcases own_shape h with ⟨rfl, rfl⟩ | ⟨g, cap, rfl, _, hg, _, _, ht⟩
  · exact ⟨none, 0, rfl, fun h => by simp at h⟩
  · exact ⟨_, _, rfl, fun _ => ⟨g, rfl, hg, ht⟩⟩
theorem rnames_len (s : ByteArray) (w : World) (hs : s.size ≤ 30000) :
    Calls Tryz.prog 59 #[.string s] w fun e w' => ∃ ad cap, e = .returned (.slice ad (Pm.names (bl s)).length cap) ∧ Below w.heap.size w w' :=
  (rnames_row s w hs).mono fun _ _ ⟨g, cap, he, _, _, _, _, _, hb⟩ => ⟨some ⟨g, 0, none⟩, cap, he, hb⟩
end Go.Proofs.YtbcmgcallidneaaGreatDoor
