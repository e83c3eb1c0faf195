/- Proved: what chunk's Count, Bounds and ends, and the document's Count and Bounds, answer for all numbers. -/
import Derived.Test.YtefpaebbendnmaaDoorMem
namespace Go.Proofs.YtefpaebbendnmaaDoor
open Go.RowKit
open Ck (T cnt cntZ bnd)
theorem cntZ_lo (z : Int) : 0 ≤ cntZ z := by unfold cntZ; split <;> omega
theorem cntZ_hi (z : Int) (h : z ≤ 9223372036854775807) : cntZ z ≤ 144115188075855872 := by unfold cntZ; split <;> omega
set_option maxHeartbeats 1000000 in
theorem count_any (z : Int) (w : World) (h : z ≤ 9223372036854775807) :
    Calls Tryd.prog 20 #[.int .i64 z] w fun e w' => e = .returned (.int .i64 (cntZ z)) ∧ w' = w := by
  by_cases h1 : z < 1
  · have e : cntZ z = 0 := by unfold cntZ; rw [if_pos h1]
    rw [e]
    clear e
    go_enter Tryd.func20, Tryd.ntmps20
    go_wp2
    go_ret
    exact ⟨rfl, rfl⟩
  · have e : cntZ z = (z - 1) / 64 + 1 := by unfold cntZ; rw [if_neg h1]
    have ht : (z - 1).tdiv 64 = (z - 1) / 64 := Int.tdiv_eq_ediv_of_nonneg (by omega)
    have hb : 0 ≤ (z - 1) / 64 ∧ (z - 1) / 64 ≤ 144115188075855871 := by omega
    obtain ⟨hb1, hb2⟩ := hb
    rw [e]
    clear e
    go_enter Tryd.func20, Tryd.ntmps20
    go_wp2
    go_ret
    exact ⟨rfl, rfl⟩
set_option maxHeartbeats 1000000 in
theorem ends_any (z i : Int) (w : World) (h0 : 0 ≤ i) (h1 : 64 * i ≤ z) (h2 : z ≤ 1000000) :
    Calls Tryd.prog 31 #[.int .i64 z, .int .i64 i] w fun e w' => e = .returned (.tuple #[.int .i64 (64 * i), .int .i64 (64 * i + min 64 (z - 64 * i))]) ∧ w' = w := by
  have e1 : i * 64 = 64 * i := by omega
  obtain ⟨b, hb⟩ : ∃ b, 64 * i = b := ⟨_, rfl⟩
  rw [hb] at h1 e1 ⊢
  have b0 : 0 ≤ b := by omega
  have hi : i ≤ 1000000 := by omega
  clear hb
  by_cases hlt : z - b < 64
  · have hm : min 64 (z - b) = z - b := by omega
    rw [hm]
    clear hm
    go_enter Tryd.func31, Tryd.ntmps31
    go_wp2
    go_ret2
    exact ⟨rfl, rfl⟩
  · have hm : min 64 (z - b) = 64 := by omega
    rw [hm]
    clear hm
    go_enter Tryd.func31, Tryd.ntmps31
    go_wp2
    go_ret2
    exact ⟨rfl, rfl⟩
theorem ends_nat (n i : Nat) (w : World) (h1 : 64 * i ≤ n) (h2 : n ≤ 1000000) :
    Calls Tryd.prog 31 #[.int .i64 (n : Int), .int .i64 (i : Int)] w fun e w' => e = .returned (.tuple #[.int .i64 ((64 * i : Nat) : Int), .int .i64 ((64 * i + min 64 (n - 64 * i) : Nat) : Int)]) ∧ w' = w := by
  have H := ends_any n i w (by omega) (by omega) (by omega)
  rw [show (64 : Int) * (i : Int) = ((64 * i : Nat) : Int) by omega, show ((64 * i : Nat) : Int) + min 64 ((n : Int) - ((64 * i : Nat) : Int)) = ((64 * i + min 64 (n - 64 * i) : Nat) : Int) by omega] at H
  exact H
theorem count_nat (n : Nat) (w : World) (h : n ≤ 1000000) :
    Calls Tryd.prog 20 #[.int .i64 (n : Int)] w fun e w' => e = .returned (.int .i64 (cnt n : Nat)) ∧ w' = w := by
  have H := count_any n w (by omega)
  rw [Ck.cntZ_nat] at H
  exact H
set_option maxHeartbeats 1000000 in
theorem bounds_any (z i : Int) (w : World) (hz : z ≤ 9223372036854775807) (hi0 : -9223372036854775808 ≤ i) (hi : i ≤ 9223372036854775807) :
    Calls Tryd.prog 18 #[.int .i64 z, .int .i64 i] w fun e w' => e = .returned (.tuple #[.int .i64 (bnd z i).1, .int .i64 (bnd z i).2]) ∧ w' = w := by
  have HC : Hid (∀ W, Calls Tryd.prog 20 #[.int .i64 z] W fun e w' => e = .returned (.int .i64 (cntZ z)) ∧ w' = W) := fun W => count_any z W hz
  by_cases h1 : 4096 < z
  · have e : bnd z i = (0, 0) := by unfold bnd; rw [if_pos (.inl h1)]
    rw [e]
    clear e
    go_enter Tryd.func18, Tryd.ntmps18
    go_wp2
    go_ret2
    exact ⟨rfl, rfl⟩
  · by_cases h2 : i < 0
    · have e : bnd z i = (0, 0) := by unfold bnd; rw [if_pos (.inr (.inl h2))]
      rw [e]
      clear e
      go_enter Tryd.func18, Tryd.ntmps18
      go_wp2
      go_ret2
      exact ⟨rfl, rfl⟩
    · by_cases h3 : cntZ z ≤ i
      · have e : bnd z i = (0, 0) := by unfold bnd; rw [if_pos (.inr (.inr h3))]
        rw [e]
        clear e
        generalize cntZ z = c at *
        go_enter Tryd.func18, Tryd.ntmps18
        go_wp2_with (first | (go_at_call 20; refine (HC.out _).mono ?_; rintro e w1 ⟨rfl, rfl⟩))
        go_ret2
        exact ⟨rfl, rfl⟩
      · have e : bnd z i = (64 * i, 64 * i + min 64 (z - 64 * i)) := by unfold bnd; rw [if_neg (by omega)]
        have hz1 : 64 * i ≤ z := by unfold cntZ at h3; split at h3 <;> omega
        have HE : Hid (∀ W, Calls Tryd.prog 31 #[.int .i64 z, .int .i64 i] W fun e w' => e = .returned (.tuple #[.int .i64 (64 * i), .int .i64 (64 * i + min 64 (z - 64 * i))]) ∧ w' = W) := fun W => ends_any z i W (by omega) hz1 (by omega)
        rw [e]
        clear e hz1
        generalize cntZ z = c at *
        generalize 64 * i + min 64 (z - 64 * i) = hi2 at *
        generalize 64 * i = lo2 at *
        go_enter Tryd.func18, Tryd.ntmps18
        go_wp2_with (first | (go_at_call 20; refine (HC.out _).mono ?_; rintro e w1 ⟨rfl, rfl⟩) | (go_at_call 31; refine (HE.out _).mono ?_; rintro e w1 ⟨rfl, rfl⟩))
        go_ret2
        exact ⟨rfl, rfl⟩
end Go.Proofs.YtefpaebbendnmaaDoor
