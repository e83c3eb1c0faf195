/- Proved: what made, ready, has, Size, Pending, Down, Done, spend, Arm and Off of a disk answer, and make of it. -/
import Derived.Test.YtcfninpokngmlaaGreatDoorBase
namespace Go.Proofs.YtcfninpokngmlaaGreatDoor
open Go.RowKit
abbrev ptr (g : Nat) : Value := .pointer (some ⟨g, 0, none⟩)
section
variable {w : World} {g kg : Nat} {v : Value} {s : Sc.St}
theorem Dk.pos (H : Dk w g kg v s) : 0 < s.kept.length := by have := H.ok.one; omega
theorem Dk.pval (H : Dk w g kg v s) : ∃ a cap, v = .slice a s.pend.length cap := by
  rcases H.open with ⟨h1, h2⟩ | ⟨pg, cap, h1, _⟩
  · rw [h2]; exact ⟨_, _, h1⟩
  · exact ⟨_, _, h1⟩
end
set_option maxHeartbeats 400000 in
theorem made_yes (g kg : Nat) (v : Value) (s : Sc.St) (w : World) (H : Dk w g kg v s) :
    Calls Tryz.prog 69 #[ptr g] w fun e w' => e = .returned (.bool true) ∧ w' = w := by
  have c0 := H.c0
  have hp := H.pos
  clear H
  go_enter Tryz.func69, Tryz.ntmps69
  go_wp2
  go_ret
  exact ⟨by simp, rfl⟩
set_option maxHeartbeats 400000 in
theorem ready_any (g kg : Nat) (v : Value) (s : Sc.St) (w : World) (H : Dk w g kg v s) :
    Calls Tryz.prog 53 #[ptr g] w fun e w' => e = .returned (.int .i64 (Sc.liveE s)) ∧ w' = w := by
  have c2 := H.c2
  have HM := made_yes g kg v s w H
  unfold Sc.liveE
  clear H
  cases hd : s.down
  · rw [hd] at c2
    go_enter Tryz.func53, Tryz.ntmps53
    go_wp2_with (go_at_call 69; refine HM.mono ?_; rintro e w' ⟨rfl, rfl⟩)
    go_ret
    exact ⟨rfl, rfl⟩
  · rw [hd] at c2
    go_enter Tryz.func53, Tryz.ntmps53
    go_wp2_with (go_at_call 69; refine HM.mono ?_; rintro e w' ⟨rfl, rfl⟩)
    go_ret
    exact ⟨rfl, rfl⟩
set_option maxHeartbeats 400000 in
theorem has_any (g kg : Nat) (v : Value) (s : Sc.St) (i : Int) (w : World) (H : Dk w g kg v s) :
    Calls Tryz.prog 122 #[ptr g, .int .i64 i] w fun e w' => e = .returned (.bool (Sc.has s i)) ∧ w' = w := by
  have c0 := H.c0
  unfold Sc.has
  clear H
  by_cases h0 : 0 ≤ i
  · have hd : decide (0 ≤ i) = true := by simpa using h0
    go_enter Tryz.func122, Tryz.ntmps122
    go_wp2
    go_ret
    exact ⟨by simp [h0], rfl⟩
  · have hd : decide (0 ≤ i) = false := by simpa using h0
    go_enter Tryz.func122, Tryz.ntmps122
    go_wp2
    go_ret
    exact ⟨by simp, rfl⟩
set_option maxHeartbeats 400000 in
theorem size_any (g kg : Nat) (v : Value) (s : Sc.St) (w : World) (H : Dk w g kg v s) :
    Calls Tryz.prog 55 #[ptr g] w fun e w' => e = .returned (.int .i64 (s.kept.length : Int)) ∧ w' = w := by
  have c0 := H.c0
  have HM := made_yes g kg v s w H
  clear H
  go_enter Tryz.func55, Tryz.ntmps55
  go_wp2_with (go_at_call 69; refine HM.mono ?_; rintro e w' ⟨rfl, rfl⟩)
  go_ret
  exact ⟨rfl, rfl⟩
set_option maxHeartbeats 400000 in
theorem down_any (g kg : Nat) (v : Value) (s : Sc.St) (w : World) (H : Dk w g kg v s) :
    Calls Tryz.prog 37 #[ptr g] w fun e w' => e = .returned (.bool s.down) ∧ w' = w := by
  have c2 := H.c2
  have HM := made_yes g kg v s w H
  clear H
  go_enter Tryz.func37, Tryz.ntmps37
  go_wp2_with (go_at_call 69; refine HM.mono ?_; rintro e w' ⟨rfl, rfl⟩)
  go_ret
  exact ⟨rfl, rfl⟩
/- what a call that turns the disk answers -/
def Does (w : World) (g kg : Nat) (v : Value) (t : Sc.St) (n : Int) (e : Ending) (w' : World) : Prop :=
  ∃ v', e = .returned (.int .i64 n) ∧ Dk w' g kg v' t ∧ Turn (foot g kg v) (foot g kg v') w w'
theorem Dk.falls {w : World} {g kg : Nat} {v : Value} {s : Sc.St} (H : Dk w g kg v s) : Dk (w.setCell ⟨g, 2, none⟩ (.bool true)) g kg v (Sc.fell s) := H.setSame 2 _ rfl rfl rfl (Sc.fell_ok H.ok)
set_option maxHeartbeats 400000 in
theorem off_any (g kg : Nat) (v : Value) (s : Sc.St) (w : World) (H : Dk w g kg v s) :
    Calls Tryz.prog 22 #[ptr g] w (Does w g kg v (Sc.offS s) (Sc.liveE s)) := by
  have c2 := H.c2
  have f2 := H.fz 2
  have HR := ready_any g kg v s w H
  have HH : Hid (Dk w g kg v s) := H
  clear H
  unfold Sc.liveE at HR
  unfold Sc.offS Sc.liveE
  cases hd : s.down
  · rw [hd] at c2 HR
    simp only [Bool.false_eq_true, if_false] at *
    go_enter Tryz.func22, Tryz.ntmps22
    go_wp2_with (go_at_call 53; refine HR.mono ?_; rintro e w' ⟨rfl, rfl⟩)
    go_ret
    exact ⟨_, rfl, HH.out.falls, foot_set _ _ _ _ _ _⟩
  · rw [hd] at c2 HR
    simp only [if_true] at *
    go_enter Tryz.func22, Tryz.ntmps22
    go_wp2_with (go_at_call 53; refine HR.mono ?_; rintro e w' ⟨rfl, rfl⟩)
    go_ret
    exact ⟨_, rfl, HH.out, Turn.refl _ _⟩
set_option maxHeartbeats 400000 in
theorem arm_any (g kg : Nat) (v : Value) (s : Sc.St) (n : Int) (w : World) (H : Dk w g kg v s) (hn : n ≤ 9223372036854775807) :
    Calls Tryz.prog 36 #[ptr g, .int .i64 n] w (Does w g kg v (Sc.armS s n) (Sc.liveE s)) := by
  have c3 := H.c3
  have f3 := H.fz 3
  have HR := ready_any g kg v s w H
  have HH : Hid (Dk w g kg v s) := H
  clear H
  unfold Sc.liveE at HR
  unfold Sc.armS Sc.liveE
  cases hd : s.down
  · rw [hd] at HR
    simp only [Bool.false_eq_true, if_false] at *
    by_cases h0 : n < 0
    · have hm : max n (-1) = -1 := by omega
      have HN : Hid (Dk (w.setCell ⟨g, 3, none⟩ (.int .i64 (-1))) g kg v (Sc.armed s n)) := HH.out.setSame 3 _ (by simp [dcells, Sc.armed, h0]) rfl rfl (Sc.armed_ok HH.out.ok hn)
      go_enter Tryz.func36, Tryz.ntmps36
      go_wp2_with (go_at_call 53; refine HR.mono ?_; rintro e w' ⟨rfl, rfl⟩)
      all_goals first
        | (go_ret; exact ⟨_, rfl, HN.out, foot_set _ _ _ _ _ _⟩)
        | (obtain rfl : n = -1 := by omega
           go_ret; exact ⟨_, rfl, HN.out, foot_set _ _ _ _ _ _⟩)
    · have hm : max n (-1) = n := by omega
      have HN : Hid (Dk (w.setCell ⟨g, 3, none⟩ (.int .i64 n)) g kg v (Sc.armed s n)) := HH.out.setSame 3 _ (by simp [dcells, Sc.armed, h0]) rfl rfl (Sc.armed_ok HH.out.ok hn)
      go_enter Tryz.func36, Tryz.ntmps36
      go_wp2_with (go_at_call 53; refine HR.mono ?_; rintro e w' ⟨rfl, rfl⟩)
      all_goals first
        | (go_ret; exact ⟨_, rfl, HN.out, foot_set _ _ _ _ _ _⟩)
        | (obtain rfl : n = -1 := by omega
           go_ret; exact ⟨_, rfl, HN.out, foot_set _ _ _ _ _ _⟩)
  · rw [hd] at HR
    simp only [if_true] at *
    go_enter Tryz.func36, Tryz.ntmps36
    go_wp2_with (go_at_call 53; refine HR.mono ?_; rintro e w' ⟨rfl, rfl⟩)
    go_ret
    exact ⟨_, rfl, HH.out, Turn.refl _ _⟩
def spendS (s : Sc.St) : Sc.St := if s.left = 0 then Sc.fell s else Sc.spent s
def spendE (s : Sc.St) : Int := if s.left = 0 then 10 else 0
set_option maxHeartbeats 1000000 in
theorem spend_any (g kg : Nat) (v : Value) (s : Sc.St) (w : World) (H : Dk w g kg v s) (hn : s.dn ≤ 1000000000) :
    Calls Tryz.prog 108 #[ptr g] w fun e w' => e = .returned (.int .i64 (spendE s)) ∧ Dk w' g kg v (spendS s) ∧ Turn (foot g kg v) (foot g kg v) w w' := by
  have c2 := H.c2
  have c3 := H.c3
  have c4 := H.c4
  have f2 := H.fz 2
  have f3 := H.fz 3
  have f4 := H.fz 4
  have hl := H.ok.left
  have HH : Hid (Dk w g kg v s) := H
  clear H
  unfold spendE spendS
  obtain ⟨kept, pend, down, left, dn⟩ := s
  simp only at *
  by_cases h0 : left = 0
  · subst h0
    simp only [if_true]
    go_enter Tryz.func108, Tryz.ntmps108
    go_wp2
    go_ret
    exact ⟨rfl, HH.out.falls, foot_set _ _ _ _ _ _⟩
  · simp only [h0, if_false]
    have hb0 : (left == 0) = false := by simp [h0]
    by_cases h1 : 0 < left
    · have hd1 : decide (0 < left) = true := by simpa using h1
      have HN : Hid (Dk ((w.setCell ⟨g, 3, none⟩ (.int .i64 (left - 1))).setCell ⟨g, 4, none⟩ (.int .i64 ((dn : Int) + 1))) g kg v (Sc.spent ⟨kept, pend, down, left, dn⟩)) := by
        have h1 : Dk (w.setCell ⟨g, 3, none⟩ (.int .i64 (left - 1))) g kg v ⟨kept, pend, down, left - 1, dn⟩ := HH.out.setSame 3 _ rfl rfl rfl ⟨HH.out.ok.one, HH.out.ok.most, HH.out.ok.size, HH.out.ok.pat, HH.out.ok.psize, by simp only; omega⟩
        exact h1.setSame 4 _ (by simp [dcells, Sc.spent]; intro _; omega) rfl rfl ⟨HH.out.ok.one, HH.out.ok.most, HH.out.ok.size, HH.out.ok.pat, HH.out.ok.psize, Sc.spent_left HH.out.ok⟩
      go_enter Tryz.func108, Tryz.ntmps108
      go_wp2
      go_ret
      exact ⟨rfl, HN.out, (foot_set _ _ _ _ _ _).trans (foot_set _ _ _ _ _ _)⟩
    · have hd1 : decide (0 < left) = false := by simpa using h1
      have HN : Hid (Dk (w.setCell ⟨g, 4, none⟩ (.int .i64 ((dn : Int) + 1))) g kg v (Sc.spent ⟨kept, pend, down, left, dn⟩)) :=
        HH.out.setSame 4 _ (by simp [dcells, Sc.spent]; intro _; omega) rfl rfl ⟨HH.out.ok.one, HH.out.ok.most, HH.out.ok.size, HH.out.ok.pat, HH.out.ok.psize, Sc.spent_left HH.out.ok⟩
      go_enter Tryz.func108, Tryz.ntmps108
      go_wp2
      go_ret
      exact ⟨rfl, HN.out, foot_set _ _ _ _ _ _⟩
end Go.Proofs.YtcfninpokngmlaaGreatDoor
