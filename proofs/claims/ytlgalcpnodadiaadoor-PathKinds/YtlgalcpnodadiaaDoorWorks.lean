/- Proved: the laws' example answers true; Parent answers the directory, or that there is none. -/
import Derived.Test.YtlgalcpnodadiaaDoorCopy
namespace Go.Proofs.YtlgalcpnodadiaaDoor
open Go.RowKit
theorem ex_clean : Pm.clean [47, 97, 47, 47, 98, 47, 46, 47, 46, 46, 47, 99, 46, 116, 120, 116] = ([97, 47, 99, 46, 116, 120, 116], 0) := by decide +kernel
theorem ex_kind : Pm.kind [97, 46, 98, 47, 99] = (0, 18) := by decide +kernel
theorem ex_copy : Pm.copy [97, 47, 98, 46, 116, 120, 116] 2 = ([97, 47, 98, 126, 50, 46, 116, 120, 116], 0) := by
  unfold Pm.copy Pm.copyOf
  rw [if_pos (by decide +kernel), show (2 : Int).toNat = 2 from rfl, Lib.decDigits, dif_pos (by decide)]
  decide +kernel
theorem ex_cmp : Pm.cmp [97, 47, 98] [97, 45, 98] = -1 := by decide +kernel
set_option maxHeartbeats 2000000 in
set_option maxRecDepth 20000 in
theorem works_any (w : World) (hT : Tab w) : Calls Tryd.prog 23 #[] w fun e w' => e = .returned (.bool true) ∧ Below w.heap.size w w' := by
  have HT : Hid (Tab w) := hT
  clear hT
  have HC : Hid (∀ W : World, Tab W → Calls Tryd.prog 12 #[.string ⟨#[47, 97, 47, 47, 98, 47, 46, 47, 46, 46, 47, 99, 46, 116, 120, 116]⟩] W fun e w' => e = .returned (.tuple #[.string ⟨#[97, 47, 99, 46, 116, 120, 116]⟩, .int .i64 0]) ∧ Below W.heap.size W w') := fun W hW => by
    have h := clean_any ⟨#[47, 97, 47, 47, 98, 47, 46, 47, 46, 46, 47, 99, 46, 116, 120, 116]⟩ W (by decide) hW
    rw [show Pm.clean (bl ⟨#[47, 97, 47, 47, 98, 47, 46, 47, 46, 46, 47, 99, 46, 116, 120, 116]⟩) = _ from ex_clean] at h
    exact h
  have HK : Hid (∀ W : World, Tab W → Calls Tryd.prog 10 #[.string ⟨#[97, 46, 98, 47, 99]⟩] W fun e w' => e = .returned (.tuple #[.int .i64 0, .int .i64 18]) ∧ Below W.heap.size W w') := fun W hW => by
    have h := kind_any ⟨#[97, 46, 98, 47, 99]⟩ W (by decide) hW
    rw [show Pm.kind (bl ⟨#[97, 46, 98, 47, 99]⟩) = _ from ex_kind] at h
    exact h
  have HD : Hid (∀ W : World, Tab W → Calls Tryd.prog 30 #[.string ⟨#[97, 47, 98, 46, 116, 120, 116]⟩, .int .i64 2] W fun e w' => e = .returned (.tuple #[.string ⟨#[97, 47, 98, 126, 50, 46, 116, 120, 116]⟩, .int .i64 0]) ∧ Below W.heap.size W w') := fun W hW => by
    have h := copy_any ⟨#[97, 47, 98, 46, 116, 120, 116]⟩ 2 W (by decide) hW
    rw [show Pm.copy (bl ⟨#[97, 47, 98, 46, 116, 120, 116]⟩) 2 = _ from ex_copy] at h
    exact h
  have HM : Hid (∀ W : World, Calls Tryd.prog 28 #[.string ⟨#[97, 47, 98]⟩, .string ⟨#[97, 45, 98]⟩] W fun e w' => e = .returned (.int .i64 (-1)) ∧ Below W.heap.size W w') := fun W => by
    have h := compare_any ⟨#[97, 47, 98]⟩ ⟨#[97, 45, 98]⟩ W (by decide)
    rw [show Pm.cmp (bl ⟨#[97, 47, 98]⟩) (bl ⟨#[97, 45, 98]⟩) = _ from ex_cmp] at h
    exact h
  go_enter Tryd.func23, Tryd.ntmps23
  go_wp2_with fail
  refine (HC.out _ HT.out).mono ?_
  rintro e w1 ⟨rfl, hB1⟩
  have HB1 : Hid (Below w.heap.size w w1) := hB1
  have HT1 : Hid (Tab w1) := HT.out.below hB1
  have hz1 := hB1.size
  clear hB1
  go_wp2_with fail
  refine (HK.out _ HT1.out).mono ?_
  rintro e w2 ⟨rfl, hB2⟩
  have HB2 : Hid (Below w.heap.size w w2) := HB1.out.trans (hB2.mono hz1)
  have HT2 : Hid (Tab w2) := HT1.out.below hB2
  have hz2 := HB2.out.size
  clear hB2
  go_wp2_with fail
  refine (HD.out _ HT2.out).mono ?_
  rintro e w3 ⟨rfl, hB3⟩
  have HB3 : Hid (Below w.heap.size w w3) := HB2.out.trans (hB3.mono hz2)
  have hz3 := HB3.out.size
  clear hB3
  go_wp2_with fail
  refine (HM.out _).mono ?_
  rintro e w4 ⟨rfl, hB4⟩
  have HB4 : Hid (Below w.heap.size w w4) := HB3.out.trans (hB4.mono hz3)
  clear hB4
  go_wp2_with fail
  go_ret
  exact ⟨rfl, HB4.out⟩
end Go.Proofs.YtlgalcpnodadiaaDoor
