/- Proved: what a database's small calls answer. -/
import Derived.Test.YtcfninpokngmlaaGreatDoorDSet
namespace Go.Proofs.YtcfninpokngmlaaGreatDoor
open Go.RowKit
def nilP : Value := .pointer none
section
variable (A : Ad) (op : Value) (d : Pd.Db) (w : World)
theorem dmade_yes (H : Dbw w A op d) : Calls Tryz.prog 50 #[ptr A.x] w fun e w' => e = .returned (.bool true) ∧ w' = w := by
  have c0 := H.c0
  clear H
  unfold ptr at *
  go_enter Tryz.func50, Tryz.ntmps50
  go_wp2
  go_ret
  exact ⟨rfl, rfl⟩
theorem dcount_any (H : Dbw w A op d) : Calls Tryz.prog 11 #[ptr A.x] w fun e w' => e = .returned (.int .i64 (d.cnt : Int)) ∧ w' = w := by
  have HM := dmade_yes A op d w H
  have c3 := H.c3
  clear H
  unfold ptr at *
  go_enter Tryz.func11, Tryz.ntmps11
  go_wp2_with (go_at_call 50; refine HM.mono ?_; rintro e w' ⟨rfl, rfl⟩)
  go_ret
  exact ⟨rfl, rfl⟩
theorem dhigh_any (H : Dbw w A op d) : Calls Tryz.prog 12 #[ptr A.x] w fun e w' => e = .returned (.int .i64 (d.st.high : Int)) ∧ w' = w := by
  have HM := dmade_yes A op d w H
  have c4 := H.c4
  clear H
  unfold ptr at *
  go_enter Tryz.func12, Tryz.ntmps12
  go_wp2_with (go_at_call 50; refine HM.mono ?_; rintro e w' ⟨rfl, rfl⟩)
  go_ret
  exact ⟨rfl, rfl⟩
theorem dfree_any (H : Dbw w A op d) : Calls Tryz.prog 13 #[ptr A.x] w fun e w' => e = .returned (.int .i64 (d.st.free : Int)) ∧ w' = w := by
  have HM := dmade_yes A op d w H
  have c5 := H.c5
  clear H
  unfold ptr at *
  go_enter Tryz.func13, Tryz.ntmps13
  go_wp2_with (go_at_call 50; refine HM.mono ?_; rintro e w' ⟨rfl, rfl⟩)
  go_ret
  exact ⟨rfl, rfl⟩
theorem idle_ok (H : Dbw w A nilP d) (hl : d.lost = false) : Calls Tryz.prog 59 #[ptr A.x] w fun e w' => e = .returned (.int .i64 0) ∧ w' = w := by
  have HM := dmade_yes A nilP d w H
  have c12 := H.c12
  have c13 := H.c13
  rw [hl] at c13
  clear H
  unfold ptr at *
  unfold nilP at *
  go_enter Tryz.func59, Tryz.ntmps59
  go_wp2_with (go_at_call 50; refine HM.mono ?_; rintro e w' ⟨rfl, rfl⟩)
  go_ret
  exact ⟨rfl, rfl⟩
theorem idle_open (t : Nat) (H : Dbw w A (ptr t) d) (hl : d.lost = false) : Calls Tryz.prog 59 #[ptr A.x] w fun e w' => e = .returned (.int .i64 9) ∧ w' = w := by
  have HM := dmade_yes A (ptr t) d w H
  have c12 := H.c12
  have c13 := H.c13
  rw [hl] at c13
  clear H
  unfold ptr at *
  go_enter Tryz.func59, Tryz.ntmps59
  go_wp2_with (go_at_call 50; refine HM.mono ?_; rintro e w' ⟨rfl, rfl⟩)
  go_ret
  exact ⟨rfl, rfl⟩
theorem idle_lost (H : Dbw w A op d) (hl : d.lost = true) : Calls Tryz.prog 59 #[ptr A.x] w fun e w' => e = .returned (.int .i64 10) ∧ w' = w := by
  have HM := dmade_yes A op d w H
  have c13 := H.c13
  rw [hl] at c13
  clear H
  unfold ptr at *
  go_enter Tryz.func59, Tryz.ntmps59
  go_wp2_with (go_at_call 50; refine HM.mono ?_; rintro e w' ⟨rfl, rfl⟩)
  go_ret
  exact ⟨rfl, rfl⟩
def heedB (e : Int) : Bool := !(e == 0) && !(e == 7)
theorem heed_any (n : Int) (H : Dbw w A op d) : Calls Tryz.prog 60 #[ptr A.x, .int .i64 n] w fun e w' => e = .returned (.int .i64 n) ∧ Dbw w' A op { d with lost := heedB n } ∧ Turn A.ft A.ft w w' := by
  have HS : Hid (∀ v : Bool, Dbw (w.setCell ⟨A.x, 13, none⟩ (.bool v)) A op { d with lost := v } ∧ Turn A.ft A.ft w (w.setCell ⟨A.x, 13, none⟩ (.bool v))) := fun v => H.set 13 (.bool v) rfl rfl rfl rfl
  have c13 := H.c13
  have f13 := H.fz 13
  clear H
  unfold ptr at *
  by_cases h0 : n = 0
  · subst h0
    go_enter Tryz.func60, Tryz.ntmps60
    go_wp2
    go_ret
    exact ⟨rfl, HS.out false⟩
  · by_cases h7 : n = 7
    · subst h7
      go_enter Tryz.func60, Tryz.ntmps60
      go_wp2
      go_ret
      exact ⟨rfl, HS.out false⟩
    · have b0 : (n != 0) = true := by simp [h0]
      have b7 : (n != 7) = true := by simp [h7]
      have e : heedB n = true := by unfold heedB; simp [h0, h7]
      rw [e]
      go_enter Tryz.func60, Tryz.ntmps60
      go_wp2
      go_ret
      exact ⟨rfl, HS.out true⟩
def holdsB (n k : Nat) : Bool := decide (4 + 516 * k ≤ 65536) && decide (12 + 516 * k ≤ 64 * (n - 1))
theorem holds_any (k : Nat) (H : Dbw w A op d) (hn : 1 ≤ d.n) (hn2 : d.n ≤ 1000000) (hk : k ≤ 100000) : Calls Tryz.prog 67 #[ptr A.x, .int .i64 (k : Int)] w fun e w' => e = .returned (.bool (holdsB d.n k)) ∧ w' = w := by
  have HR := rsize_any k w hk
  have c2 := H.c2
  clear H
  unfold ptr at *
  have e1 : IntKind.i64.wrap (8 + ((4 + 516 * k : Nat) : Int)) = ((12 + 516 * k : Nat) : Int) := by rw [IntKind.wrap_i64]; omega
  have e2 : IntKind.i64.wrap ((d.n : Int) - 1) = (d.n : Int) - 1 := by rw [IntKind.wrap_i64]; omega
  have e3 : IntKind.i64.wrap (((d.n : Int) - 1) * 64) = ((64 * (d.n - 1) : Nat) : Int) := by rw [IntKind.wrap_i64]; omega
  unfold holdsB
  by_cases h1 : 4 + 516 * k ≤ 65536
  · have a1 : decide (((4 + 516 * k : Nat) : Int) ≤ 65536) = true := decide_eq_true (by omega)
    rw [decide_eq_true h1]
    by_cases h2 : 12 + 516 * k ≤ 64 * (d.n - 1)
    · have a2 : decide (((12 + 516 * k : Nat) : Int) ≤ ((64 * (d.n - 1) : Nat) : Int)) = true := decide_eq_true (by omega)
      rw [decide_eq_true h2]
      generalize hx : ((4 + 516 * k : Nat) : Int) = X at *
      generalize hy : ((12 + 516 * k : Nat) : Int) = Y at *
      generalize hz : ((64 * (d.n - 1) : Nat) : Int) = Z at *
      clear hx hy hz h1 h2
      go_enter Tryz.func67, Tryz.ntmps67
      go_wp2_with (go_at_call 91; refine HR.mono ?_; rintro e w' ⟨rfl, rfl⟩)
      go_ret
      exact ⟨by first | rfl | simp [*], rfl⟩
    · have a2 : decide (((12 + 516 * k : Nat) : Int) ≤ ((64 * (d.n - 1) : Nat) : Int)) = false := decide_eq_false (by omega)
      rw [decide_eq_false h2]
      generalize hx : ((4 + 516 * k : Nat) : Int) = X at *
      generalize hy : ((12 + 516 * k : Nat) : Int) = Y at *
      generalize hz : ((64 * (d.n - 1) : Nat) : Int) = Z at *
      clear hx hy hz h1 h2
      go_enter Tryz.func67, Tryz.ntmps67
      go_wp2_with (go_at_call 91; refine HR.mono ?_; rintro e w' ⟨rfl, rfl⟩)
      go_ret
      exact ⟨by first | rfl | simp [*], rfl⟩
  · have a1 : decide (((4 + 516 * k : Nat) : Int) ≤ 65536) = false := decide_eq_false (by omega)
    rw [decide_eq_false h1]
    generalize hx : ((4 + 516 * k : Nat) : Int) = X at *
    clear hx h1 e1
    go_enter Tryz.func67, Tryz.ntmps67
    go_wp2_with (go_at_call 91; refine HR.mono ?_; rintro e w' ⟨rfl, rfl⟩)
    go_ret
    exact ⟨by first | rfl | simp [*], rfl⟩
end
end Go.Proofs.YtcfninpokngmlaaGreatDoor
