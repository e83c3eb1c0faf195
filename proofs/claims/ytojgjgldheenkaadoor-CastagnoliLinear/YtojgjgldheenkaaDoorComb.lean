/- Proved: what Combine and Zeros answer, the program's and the document's, for a length that may be and for one that may not. Condition: sums below 2^32, and the table for the program's own. -/
import Derived.Test.YtojgjgldheenkaaDoorNul
namespace Go.Proofs.YtojgjgldheenkaaDoor
open Go.RowKit
set_option maxHeartbeats 400000 in
theorem combine_yes (a b n : Nat) (w : World) (ha : a < 4294967296) (hb : b < 4294967296) (hn : n ≤ 1048576) (hT : Tab w) (h0 : 0 < w.heap.size) :
    Calls Tryd.prog 15 #[.int .u32 (a : Int), .int .u32 (b : Int), .int .i64 (n : Int)] w fun e w' => e = .returned (.tuple #[.int .u32 (Crc.pw n a ^^^ b : Nat), .int .i64 0]) ∧ Below w.heap.size w w' := by
  have hx := u32_xor_nat (Crc.pw n a) b (Crc.pw_lt n ha) hb
  have Hc : Hid (Calls Tryd.prog 22 #[.int .u32 (a : Int), .int .i64 (n : Int)] w fun e w' => e = .returned (.int .u32 (Crc.pw n a : Nat)) ∧ Below w.heap.size w w') := noughts_any a n w ha (by omega) hT h0
  have hn0 : (0 : Int) ≤ (n : Int) := Int.natCast_nonneg _
  have hn1 : (n : Int) ≤ 1048576 := by omega
  go_enter Tryd.func15, Tryd.ntmps15
  go_wp2_with (first | (go_at_call 22; refine Hc.out.mono ?_; rintro e w' ⟨rfl, hb1⟩) | go_in)
  go_ret2
  exact ⟨rfl, hb1⟩
set_option maxHeartbeats 400000 in
theorem combine_no (a b n : Int) (w : World) (hn : n < 0 ∨ 1048576 < n) :
    Calls Tryd.prog 15 #[.int .u32 a, .int .u32 b, .int .i64 n] w fun e w' => e = .returned (.tuple #[.int .u32 0, .int .i64 2]) ∧ w' = w := by
  rcases hn with hn | hn
  · have h1 : decide (0 ≤ n) = false := by simp; omega
    go_enter Tryd.func15, Tryd.ntmps15
    go_wp2
    go_ret2
    exact ⟨rfl, rfl⟩
  · have h1 : 0 ≤ n := by omega
    have h2 : decide (n ≤ 1048576) = false := by simp; omega
    go_enter Tryd.func15, Tryd.ntmps15
    go_wp2
    go_ret2
    exact ⟨rfl, rfl⟩
set_option maxHeartbeats 400000 in
theorem zeros_yes (n : Nat) (w : World) (hn : n ≤ 1048576) (hT : Tab w) (h0 : 0 < w.heap.size) :
    Calls Tryd.prog 17 #[.int .i64 (n : Int)] w fun e w' => e = .returned (.tuple #[.int .u32 (Crc.turn (Crc.pw n 4294967295) : Nat), .int .i64 0]) ∧ Below w.heap.size w w' := by
  have hx := not32' (Crc.pw n 4294967295) (Crc.pw_lt n (by omega))
  have Hc : Hid (Calls Tryd.prog 22 #[.int .u32 ((4294967295 : Nat) : Int), .int .i64 (n : Int)] w fun e w' => e = .returned (.int .u32 (Crc.pw n 4294967295 : Nat)) ∧ Below w.heap.size w w') := noughts_any 4294967295 n w (by omega) (by omega) hT h0
  have hn0 : (0 : Int) ≤ (n : Int) := Int.natCast_nonneg _
  have hn1 : (n : Int) ≤ 1048576 := by omega
  go_enter Tryd.func17, Tryd.ntmps17
  go_wp2_with (first | (go_at_call 22; refine Hc.out.mono ?_; rintro e w' ⟨rfl, hb1⟩) | go_in)
  go_ret2
  exact ⟨rfl, hb1⟩
set_option maxHeartbeats 400000 in
theorem zeros_no (n : Int) (w : World) (hn : n < 0 ∨ 1048576 < n) :
    Calls Tryd.prog 17 #[.int .i64 n] w fun e w' => e = .returned (.tuple #[.int .u32 0, .int .i64 2]) ∧ w' = w := by
  rcases hn with hn | hn
  · have h1 : decide (0 ≤ n) = false := by simp; omega
    go_enter Tryd.func17, Tryd.ntmps17
    go_wp2
    go_ret2
    exact ⟨rfl, rfl⟩
  · have h1 : 0 ≤ n := by omega
    have h2 : decide (n ≤ 1048576) = false := by simp; omega
    go_enter Tryd.func17, Tryd.ntmps17
    go_wp2
    go_ret2
    exact ⟨rfl, rfl⟩
set_option maxHeartbeats 400000 in
theorem rcombine_no (a b n : Int) (w : World) (hn : n < 0 ∨ 1048576 < n) :
    Calls Tryd.prog 16 #[.int .u32 a, .int .u32 b, .int .i64 n] w fun e w' => e = .returned (.tuple #[.int .u32 0, .int .i64 2]) ∧ w' = w := by
  rcases hn with hn | hn
  · have h1 : decide (n < 0) = true := by simp; omega
    go_enter Tryd.func16, Tryd.ntmps16
    go_wp2
    go_ret2
    exact ⟨rfl, rfl⟩
  · have h1 : decide (n < 0) = false := by simp; omega
    have h2 : decide (1048576 < n) = true := by simp; omega
    go_enter Tryd.func16, Tryd.ntmps16
    go_wp2
    go_ret2
    exact ⟨rfl, rfl⟩
set_option maxHeartbeats 400000 in
theorem rzeros_no (n : Int) (w : World) (hn : n < 0 ∨ 1048576 < n) :
    Calls Tryd.prog 18 #[.int .i64 n] w fun e w' => e = .returned (.tuple #[.int .u32 0, .int .i64 2]) ∧ w' = w := by
  rcases hn with hn | hn
  · have h1 : decide (n < 0) = true := by simp; omega
    go_enter Tryd.func18, Tryd.ntmps18
    go_wp2
    go_ret2
    exact ⟨rfl, rfl⟩
  · have h1 : decide (n < 0) = false := by simp; omega
    have h2 : decide (1048576 < n) = true := by simp; omega
    go_enter Tryd.func18, Tryd.ntmps18
    go_wp2
    go_ret2
    exact ⟨rfl, rfl⟩
set_option maxHeartbeats 400000 in
theorem rcombine_yes (a b n : Nat) (w : World) (ha : a < 4294967296) (hb : b < 4294967296) (hn : n ≤ 1048576) :
    Calls Tryd.prog 16 #[.int .u32 (a : Int), .int .u32 (b : Int), .int .i64 (n : Int)] w fun e w' => e = .returned (.tuple #[.int .u32 (Crc.pw n a ^^^ b : Nat), .int .i64 0]) ∧ w' = w := by
  have h1 : decide ((n : Int) < 0) = false := by simp
  have h2 : decide (1048576 < (n : Int)) = false := by simp; omega
  go_enter Tryd.func16, Tryd.ntmps16
  go_wp2
  go_loop [0, 8] (fun t i => ∃ k : Nat, k ≤ n ∧ i = .int .i64 k ∧ t = .int .u32 (Crc.pw k a : Nat)) (fun _ i => n - (intOf i).toNat)
  case atStart => exact ⟨0, Nat.zero_le _, rfl, rfl⟩
  case round =>
    obtain ⟨k, hk, rfl, rfl⟩ := hrel
    by_cases hlt : k < n
    · have hs : Hid (Crc.pw (k + 1) a = Crc.rtk (Crc.pw k a) 0) := by
        have e := Crc.pw_add k 1 a
        rw [e]; exact Crc.tk_eq _ _
      have hbd := Crc.pw_lt k ha
      generalize Crc.pw k a = r at *
      go_wp2_with (go_at_call 20; refine (rtake_any r 0 _ (by assumption) (by omega)).mono ?_; rintro e w' ⟨rfl, rfl⟩)
      go_round
      case rel => exact ⟨k + 1, by omega, by go_num, by rw [hs.out]⟩
      case measure => simp [intOf]; omega
    · have hkn : k = n := by omega
      subst hkn
      have hx := u32_xor_nat (Crc.pw k a) b (Crc.pw_lt k ha) hb
      go_wp2
      go_ret2
      exact ⟨rfl, rfl⟩
set_option maxHeartbeats 400000 in
theorem rzeros_yes (n : Nat) (w : World) (hn : n ≤ 1048576) :
    Calls Tryd.prog 18 #[.int .i64 (n : Int)] w fun e w' => e = .returned (.tuple #[.int .u32 (Crc.turn (Crc.pw n 4294967295) : Nat), .int .i64 0]) ∧ w' = w := by
  have h1 : decide ((n : Int) < 0) = false := by simp
  have h2 : decide (1048576 < (n : Int)) = false := by simp; omega
  go_enter Tryd.func18, Tryd.ntmps18
  go_wp2
  go_loop [4, 5] (fun t i => ∃ k : Nat, k ≤ n ∧ i = .int .i64 k ∧ t = .int .u32 (Crc.pw k 4294967295 : Nat)) (fun _ i => n - (intOf i).toNat)
  case atStart => exact ⟨0, Nat.zero_le _, rfl, rfl⟩
  case round =>
    obtain ⟨k, hk, rfl, rfl⟩ := hrel
    by_cases hlt : k < n
    · have hs : Hid (Crc.pw (k + 1) 4294967295 = Crc.rtk (Crc.pw k 4294967295) 0) := by
        have e := Crc.pw_add k 1 4294967295
        rw [e]; exact Crc.tk_eq _ _
      have hbd := Crc.pw_lt k (show 4294967295 < 4294967296 by omega)
      generalize Crc.pw k 4294967295 = r at *
      go_wp2_with (go_at_call 20; refine (rtake_any r 0 _ (by assumption) (by omega)).mono ?_; rintro e w' ⟨rfl, rfl⟩)
      go_round
      case rel => exact ⟨k + 1, by omega, by go_num, by rw [hs.out]⟩
      case measure => simp [intOf]; omega
    · have hkn : k = n := by omega
      subst hkn
      have hx := not32 (Crc.pw k 4294967295) (Crc.pw_lt k (by omega))
      go_wp2
      go_ret2
      exact ⟨rfl, rfl⟩
end Go.Proofs.YtojgjgldheenkaaDoor
