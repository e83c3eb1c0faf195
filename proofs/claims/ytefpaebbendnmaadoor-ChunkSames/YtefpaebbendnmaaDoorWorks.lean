/- Proved: the laws' example holds, and few tells the first bytes (stage 15). -/
import Derived.Test.YtefpaebbendnmaaDoorWrt
namespace Go.Proofs.YtefpaebbendnmaaDoor
open Go.RowKit
open Ck (T cnt cntZ bnd wr wrE wrT)
theorem wr_ex : mk (wrT (bl ⟨#[97, 98]⟩) 3 (bl ⟨#[120]⟩)) = ⟨#[97, 98, 0, 120]⟩ ∧ wrE (bl ⟨#[97, 98]⟩) 3 (bl ⟨#[120]⟩) = 0 := by decide
set_option maxHeartbeats 2000000 in
theorem works_any (w : World) : Calls Tryd.prog 11 #[] w fun e w' => e = .returned (.bool true) ∧ Below w.heap.size w w' := by
  have HB := (show Hid _ from fun W => bounds_any 100 1 W (by omega) (by omega) (by omega))
  have HC1 := (show Hid _ from fun W => count_any 64 W (by omega))
  have HC2 := (show Hid _ from fun W => count_any 65 W (by omega))
  have HW := (show Hid _ from fun W => write_any ⟨#[97, 98]⟩ ⟨#[120]⟩ 3 W (by decide) (by decide))
  rw [show bnd 100 1 = (64, 100) by decide] at HB
  rw [show cntZ 64 = 1 by decide] at HC1
  rw [show cntZ 65 = 2 by decide] at HC2
  rw [wr_ex.1, wr_ex.2] at HW
  go_enter Tryd.func11, Tryd.ntmps11
  go_wp2_with (first
    | (go_at_call 18; refine (HB.out _).mono ?_; rintro e w1 ⟨rfl, rfl⟩)
    | (go_at_call 19; refine (HW.out _).mono ?_; rintro e w2 ⟨rfl, hB2⟩; have HB2 := (show Hid _ from hB2); clear hB2)
    | (go_at_call 20; refine (HC1.out _).mono ?_; rintro e w3 ⟨rfl, rfl⟩)
    | (go_at_call 20; refine (HC2.out _).mono ?_; rintro e w3 ⟨rfl, rfl⟩))
  go_ret
  exact ⟨rfl, HB2.out⟩
def fewT (s : ByteArray) : ByteArray := mk ((bl s).take 4200)
theorem fewT_size (s : ByteArray) : (fewT s).size ≤ 4200 := by unfold fewT; rw [mk_size, List.length_take]; omega
set_option maxHeartbeats 1000000 in
theorem few_any (s : ByteArray) (w : World) (hs : s.size ≤ 9223372036854775807) : Calls Tryd.prog 5 #[.string s] w fun e w' => e = .returned (.string (fewT s)) ∧ w' = w := by
  by_cases h : s.size ≤ 4200
  · have hx : s.extract 0 s.size = fewT s := bl_inj (by unfold fewT; rw [bl_ext, ext_take, bl_mk, bl_take_all, List.take_of_length_le (by rw [bl_length]; omega)])
    have hi : (s.size : Int) ≤ 4200 := by omega
    go_enter Tryd.func5, Tryd.ntmps5
    go_wp2
    go_ret
    exact ⟨rfl, rfl⟩
  · have hx : s.extract 0 4200 = fewT s := bl_inj (by unfold fewT; rw [bl_ext, ext_take, bl_mk])
    have hi : ¬ (s.size : Int) ≤ 4200 := by omega
    have hi2 : (4200 : Int) ≤ (s.size : Int) := by omega
    go_enter Tryd.func5, Tryd.ntmps5
    go_wp2
    go_ret
    exact ⟨rfl, rfl⟩
end Go.Proofs.YtefpaebbendnmaaDoor
