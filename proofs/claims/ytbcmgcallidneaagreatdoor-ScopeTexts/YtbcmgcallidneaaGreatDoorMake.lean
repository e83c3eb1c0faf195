/- Proved: outermost of any list of the call's own; Make and May. -/
import Derived.Test.YtbcmgcallidneaaGreatDoorOuterW
namespace Go.Proofs.YtbcmgcallidneaaGreatDoor
open Go.RowKit
set_option maxHeartbeats 2000000 in
set_option maxRecDepth 20000 in
theorem outer_nil (w : World) : Calls Tryz.prog 22 #[.slice none 0 0] w fun e w' => e = .returned (.slice none 0 0) ∧ Below w.heap.size w w' := by
  have hmf : ∀ (fn : Fn) (first cap : Array Value) (w : World), (Instr.makeFunc fn first cap).run Tryz.prog w = .ok (.func fn first cap) w := fun _ _ _ _ => rfl
  obtain ⟨W0, hW0⟩ : ∃ W0, w.alloc (.cells #[.slice none 0 0] 22) = W0 := ⟨_, rfl⟩
  have HB0 : Hid (Below w.heap.size w W0) := by rw [← hW0]; exact (Below.refl _ w).alloc (Nat.le_refl _) _
  have hcell : W0.cell? ⟨w.heap.size, 0, none⟩ = some (.slice none 0 0) := by rw [← hW0]; simp
  have HZ0 : Hid (w.heap.size ≤ W0.heap.size) := HB0.out.size
  go_enter Tryz.func22, Tryz.ntmps22
  go_wp2_with (first | (go_at_call 37; refine (sort_nil W0 _ _ _).mono ?_; rintro e W1 ⟨rfl, os, hos⟩; have hB1 : Below W0.heap.size W0 W1 := (by rw [hos]; exact below_grow' (Below.refl _ _) (Nat.le_refl _) os); have hc1 := (hB1.cell (p := ⟨w.heap.size, 0, none⟩) (block_lt_of_cell hcell)).trans hcell; have HB1 : Hid (Below w.heap.size w W1) := HB0.out.trans (hB1.mono HZ0.out); clear hos hB1 hcell))
  clear hW0
  go_loopw [3, 5, 12] (fun m _ i wr => m = .int .i64 0 ∧ i = .int .i64 0 ∧ wr = W1) (fun _ _ _ _ => 0)
  case atStart => exact ⟨rfl, rfl, rfl⟩
  case round =>
    obtain ⟨rfl, rfl, rfl⟩ := hrel
    go_wp2_with fail
    go_ret
    exact ⟨rfl, HB1.out⟩
theorem outer_any (w : World) (N : Nat) (v : Value) (l : List Pm.T) (ho : w.ownsRow N 9 1 v l.length (scells l)) (hN : N ≤ w.heap.size) (hl : l.length ≤ 1000) (hx : ∀ x ∈ l, x.length ≤ 1000000) (hP : ∀ x ∈ l, Pm.isP x = true)
    (hT : Tab w) (hM : 1 < N) (hS : 0 < N) :
    Calls Tryz.prog 22 #[v] w fun e w' => ∃ ad c, e = .returned (.slice ad (Sm.outer l).length c) ∧ TxtA w' ad (Sm.outer l) ∧ Below N w w' := by
  rcases own_shape ho with ⟨rfl, rfl⟩ | ⟨g, cap, rfl, _⟩
  · exact (outer_nil w).mono fun e w' ⟨he, hb⟩ => ⟨none, 0, he, TxtA.nil _ _, hb.mono hN⟩
  · exact outer_row w N g cap l ho hN hl hx hP hT hM hS
end Go.Proofs.YtbcmgcallidneaaGreatDoor
