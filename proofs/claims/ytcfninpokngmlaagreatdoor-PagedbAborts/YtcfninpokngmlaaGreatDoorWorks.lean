/- Proved: the laws' example comes out as the chapter says; what disks that New did not make answer. -/
import Derived.Test.YtcfninpokngmlaaGreatDoorOn
namespace Go.Proofs.YtcfninpokngmlaaGreatDoor
open Go.RowKit
def txtA : ByteArray := ⟨#[97]⟩
def txtB : ByteArray := ⟨#[98]⟩
def txtC : ByteArray := ⟨#[99]⟩
def e1 : Sc.St := Sc.writeS (Sc.made 2) 0 txtA
def e2 : Sc.St := Sc.flushS e1
def e3 : Sc.St := Sc.writeS e2 0 txtB
def e4 : Sc.St := Sc.writeS e3 1 txtC
def e5 : Sc.St := Sc.offS e4
def mk2 (i : Nat) : Bool := if i = 0 then false else true
def e6 : Sc.St := Sc.onS e5 (marks 2 mk2)
theorem e6_on : Sc.onE e5 = 0 := by decide
theorem e6_e0 : Sc.readE e6 0 = 0 := by decide
theorem e6_e1 : Sc.readE e6 1 = 0 := by decide
theorem e6_v0 : Sc.readV e6 0 = Sc.fill txtA := by rfl
theorem e6_v1 : Sc.readV e6 1 = Sc.fill txtC := by rfl
theorem fill_get (x : ByteArray) (i : Nat) (hi : i < (Sc.fill x).size) (b : UInt8) (h : (x.data.toList ++ List.replicate (64 - x.size) 0)[i]? = some b) : (Sc.fill x)[i]'hi = b := by
  have e : (Sc.fill x).data.toList[i]? = some b := by rw [Sc.fill_list]; exact h
  rw [Array.getElem?_toList] at e
  exact (Array.getElem?_eq_some_iff.1 e).2
/- disks that New did not make -/
def Nobody (w : World) (d : Value) : Prop := d = .pointer none ∨ ∃ g, d = ptr g ∧ w.cell? ⟨g, 0, none⟩ = some (.slice none 0 0)
set_option maxHeartbeats 400000 in
theorem made_no (d : Value) (w : World) (h : Nobody w d) : Calls Tryz.prog 69 #[d] w fun e w' => e = .returned (.bool false) ∧ w' = w := by
  rcases h with rfl | ⟨g, rfl, c0⟩
  · go_enter Tryz.func69, Tryz.ntmps69
    go_wp2
    go_ret
    exact ⟨rfl, rfl⟩
  · go_enter Tryz.func69, Tryz.ntmps69
    go_wp2
    go_ret
    exact ⟨rfl, rfl⟩
set_option maxHeartbeats 400000 in
theorem ready_no (d : Value) (w : World) (h : Nobody w d) : Calls Tryz.prog 53 #[d] w fun e w' => e = .returned (.int .i64 1) ∧ w' = w := by
  have HM := made_no d w h
  clear h
  go_enter Tryz.func53, Tryz.ntmps53
  go_wp2_with (go_at_call 69; refine HM.mono ?_; rintro e w' ⟨rfl, rfl⟩)
  go_ret
  exact ⟨rfl, rfl⟩
set_option maxHeartbeats 400000 in
theorem size_no (d : Value) (w : World) (h : Nobody w d) : Calls Tryz.prog 55 #[d] w fun e w' => e = .returned (.int .i64 0) ∧ w' = w := by
  have HM := made_no d w h
  clear h
  go_enter Tryz.func55, Tryz.ntmps55
  go_wp2_with (go_at_call 69; refine HM.mono ?_; rintro e w' ⟨rfl, rfl⟩)
  go_ret
  exact ⟨rfl, rfl⟩
set_option maxHeartbeats 400000 in
theorem down_no (d : Value) (w : World) (h : Nobody w d) : Calls Tryz.prog 37 #[d] w fun e w' => e = .returned (.bool true) ∧ w' = w := by
  have HM := made_no d w h
  clear h
  go_enter Tryz.func37, Tryz.ntmps37
  go_wp2_with (go_at_call 69; refine HM.mono ?_; rintro e w' ⟨rfl, rfl⟩)
  go_ret
  exact ⟨rfl, rfl⟩
set_option maxHeartbeats 400000 in
theorem read_no (d u : Value) (w : World) (h : Nobody w d) : Calls Tryz.prog 96 #[d, u] w fun e w' => e = .returned (.tuple #[.string ⟨#[]⟩, .int .i64 1]) ∧ w' = w := by
  have HM := ready_no d w h
  clear h
  go_enter Tryz.func96, Tryz.ntmps96
  go_wp2_with (go_at_call 53; refine HM.mono ?_; rintro e w' ⟨rfl, rfl⟩)
  go_ret2
  exact ⟨rfl, rfl⟩
set_option maxHeartbeats 400000 in
theorem write_no (d u x : Value) (w : World) (h : Nobody w d) : Calls Tryz.prog 106 #[d, u, x] w fun e w' => e = .returned (.int .i64 1) ∧ w' = w := by
  have HM := ready_no d w h
  clear h
  go_enter Tryz.func106, Tryz.ntmps106
  go_wp2_with (go_at_call 53; refine HM.mono ?_; rintro e w' ⟨rfl, rfl⟩)
  go_ret
  exact ⟨rfl, rfl⟩
set_option maxHeartbeats 400000 in
theorem flush_no (d : Value) (w : World) (h : Nobody w d) : Calls Tryz.prog 79 #[d] w fun e w' => e = .returned (.int .i64 1) ∧ w' = w := by
  have HM := ready_no d w h
  clear h
  go_enter Tryz.func79, Tryz.ntmps79
  go_wp2_with (go_at_call 53; refine HM.mono ?_; rintro e w' ⟨rfl, rfl⟩)
  go_ret
  exact ⟨rfl, rfl⟩
set_option maxHeartbeats 400000 in
theorem arm_no (d u : Value) (w : World) (h : Nobody w d) : Calls Tryz.prog 36 #[d, u] w fun e w' => e = .returned (.int .i64 1) ∧ w' = w := by
  have HM := ready_no d w h
  clear h
  go_enter Tryz.func36, Tryz.ntmps36
  go_wp2_with (go_at_call 53; refine HM.mono ?_; rintro e w' ⟨rfl, rfl⟩)
  go_ret
  exact ⟨rfl, rfl⟩
set_option maxHeartbeats 400000 in
theorem off_no (d : Value) (w : World) (h : Nobody w d) : Calls Tryz.prog 22 #[d] w fun e w' => e = .returned (.int .i64 1) ∧ w' = w := by
  have HM := ready_no d w h
  clear h
  go_enter Tryz.func22, Tryz.ntmps22
  go_wp2_with (go_at_call 53; refine HM.mono ?_; rintro e w' ⟨rfl, rfl⟩)
  go_ret
  exact ⟨rfl, rfl⟩
set_option maxHeartbeats 400000 in
theorem on_no (d u : Value) (w : World) (h : Nobody w d) : Calls Tryz.prog 38 #[d, u] w fun e w' => e = .returned (.int .i64 1) ∧ w' = w := by
  have HM := made_no d w h
  clear h
  go_enter Tryz.func38, Tryz.ntmps38
  go_wp2_with (go_at_call 69; refine HM.mono ?_; rintro e w' ⟨rfl, rfl⟩)
  go_ret
  exact ⟨rfl, rfl⟩
end Go.Proofs.YtcfninpokngmlaaGreatDoor
