/- Proved: the walk of the law CastagnoliCombines answers true for any two sums and any length. Condition: the table holds its sixteen numbers. -/
import Derived.Test.YtojgjgldheenkaaDoorFew
namespace Go.Proofs.YtojgjgldheenkaaDoor
open Go.RowKit
set_option maxHeartbeats 400000 in
theorem combines_few (a b n : Nat) (w : World) (ha : a < 4294967296) (hb : b < 4294967296) (hn : n ≤ 5000) (hT : Tab w) (h0 : 0 < w.heap.size) :
    Calls Tryd.prog 4 #[.int .u32 (a : Int), .int .u32 (b : Int), .int .i64 (n : Int)] w fun e w' => e = .returned (.bool true) ∧ Below w.heap.size w w' := by
  have h1 : decide (5000 < (n : Int)) = false := by simp; omega
  go_enter Tryd.func4, Tryd.ntmps4
  go_wp2_with fail
  refine (combine_yes a b n w ha hb (by omega) hT h0).mono ?_
  rintro e w1 ⟨rfl, hb1⟩
  have hT1 := hT.below h0 hb1
  have h01 : 0 < w1.heap.size := by have := hb1.size; omega
  go_wp2_with fail
  refine (rcombine_yes a b n w1 ha hb (by omega)).mono ?_
  rintro e w2 ⟨rfl, rfl⟩
  generalize Crc.pw n a ^^^ b = x at *
  go_wp2_with fail
  refine (zeros_yes n w2 (by omega) hT1 h01).mono ?_
  rintro e w3 ⟨rfl, hb3⟩
  have hb13 := hb1.trans (hb3.mono hb1.size)
  have hT3 := hT.below h0 hb13
  have h03 : 0 < w3.heap.size := by have := hb13.size; omega
  go_wp2_with fail
  refine (rzeros_yes n w3 (by omega)).mono ?_
  rintro e w4 ⟨rfl, rfl⟩
  generalize Crc.turn (Crc.pw n 4294967295) = y at *
  go_wp2_with fail
  refine (works_any w4 hT3 h03).mono ?_
  rintro e w6 ⟨rfl, hb6⟩
  go_wp2
  go_ret
  exact ⟨rfl, hb13.trans (hb6.mono hb13.size)⟩
set_option maxHeartbeats 400000 in
theorem combines_mid (a b n : Nat) (w : World) (ha : a < 4294967296) (hb : b < 4294967296) (hn : 5000 < n) (hn2 : n ≤ 1048576) (hT : Tab w) (h0 : 0 < w.heap.size) :
    Calls Tryd.prog 4 #[.int .u32 (a : Int), .int .u32 (b : Int), .int .i64 (n : Int)] w fun e w' => e = .returned (.bool true) ∧ Below w.heap.size w w' := by
  have h1 : decide (5000 < (n : Int)) = true := by simp; omega
  have h2 : decide ((n : Int) ≤ 1048576) = true := by simp; omega
  go_enter Tryd.func4, Tryd.ntmps4
  go_wp2_with fail
  refine (combine_yes a b (n % 5000) w ha hb (by omega) hT h0).mono ?_
  rintro e w1 ⟨rfl, hb1⟩
  have hT1 := hT.below h0 hb1
  have h01 : 0 < w1.heap.size := by have := hb1.size; omega
  go_wp2_with fail
  refine (rcombine_yes a b (n % 5000) w1 ha hb (by omega)).mono ?_
  rintro e w2 ⟨rfl, rfl⟩
  generalize Crc.pw (n % 5000) a ^^^ b = x at *
  go_wp2_with fail
  refine (zeros_yes (n % 5000) w2 (by omega) hT1 h01).mono ?_
  rintro e w3 ⟨rfl, hb3⟩
  have hb13 := hb1.trans (hb3.mono hb1.size)
  have hT3 := hT.below h0 hb13
  have h03 : 0 < w3.heap.size := by have := hb13.size; omega
  go_wp2_with fail
  refine (rzeros_yes (n % 5000) w3 (by omega)).mono ?_
  rintro e w4 ⟨rfl, rfl⟩
  generalize Crc.turn (Crc.pw (n % 5000) 4294967295) = y at *
  go_wp2_with fail
  refine (works_any w4 hT3 h03).mono ?_
  rintro e w6 ⟨rfl, hb6⟩
  go_wp2
  go_ret
  exact ⟨rfl, hb13.trans (hb6.mono hb13.size)⟩
set_option maxHeartbeats 400000 in
theorem combines_no (a b n : Int) (w : World) (hn : n < 0 ∨ 1048576 < n) (hT : Tab w) (h0 : 0 < w.heap.size) :
    Calls Tryd.prog 4 #[.int .u32 a, .int .u32 b, .int .i64 n] w fun e w' => e = .returned (.bool true) ∧ Below w.heap.size w w' := by
  rcases hn with hn | hn
  · have h1 : decide (5000 < n) = false := by simp; omega
    go_enter Tryd.func4, Tryd.ntmps4
    go_wp2_with fail
    refine (combine_no a b n w (.inl hn)).mono ?_
    rintro e w1 ⟨rfl, rfl⟩
    go_wp2_with fail
    refine (rcombine_no a b n w1 (.inl hn)).mono ?_
    rintro e w2 ⟨rfl, rfl⟩
    go_wp2_with fail
    refine (zeros_no n w2 (.inl hn)).mono ?_
    rintro e w3 ⟨rfl, rfl⟩
    go_wp2_with fail
    refine (rzeros_no n w3 (.inl hn)).mono ?_
    rintro e w4 ⟨rfl, rfl⟩
    go_wp2_with fail
    refine (works_any w4 hT h0).mono ?_
    rintro e w6 ⟨rfl, hb6⟩
    go_wp2
    go_ret
    exact ⟨rfl, hb6⟩
  · have h1 : decide (5000 < n) = true := by simp; omega
    have h2 : decide (n ≤ 1048576) = false := by simp; omega
    go_enter Tryd.func4, Tryd.ntmps4
    go_wp2_with fail
    refine (combine_no a b n w (.inr hn)).mono ?_
    rintro e w1 ⟨rfl, rfl⟩
    go_wp2_with fail
    refine (rcombine_no a b n w1 (.inr hn)).mono ?_
    rintro e w2 ⟨rfl, rfl⟩
    go_wp2_with fail
    refine (zeros_no n w2 (.inr hn)).mono ?_
    rintro e w3 ⟨rfl, rfl⟩
    go_wp2_with fail
    refine (rzeros_no n w3 (.inr hn)).mono ?_
    rintro e w4 ⟨rfl, rfl⟩
    go_wp2_with fail
    refine (works_any w4 hT h0).mono ?_
    rintro e w6 ⟨rfl, hb6⟩
    go_wp2
    go_ret
    exact ⟨rfl, hb6⟩
/- THE WALK, whatever comes in. -/
theorem combines_walk (a b : Nat) (n : Int) (w : World) (ha : a < 4294967296) (hb : b < 4294967296) (_hn : -9223372036854775808 ≤ n ∧ n ≤ 9223372036854775807) (hT : Tab w) (h0 : 0 < w.heap.size) :
    Calls Tryd.prog 4 #[.int .u32 (a : Int), .int .u32 (b : Int), .int .i64 n] w fun e w' => e = .returned (.bool true) ∧ Below w.heap.size w w' := by
  by_cases hn : n < 0 ∨ 1048576 < n
  · exact combines_no a b n w hn hT h0
  · obtain ⟨k, rfl⟩ := Int.eq_ofNat_of_zero_le (show 0 ≤ n by omega)
    by_cases h5 : k ≤ 5000
    · exact combines_few a b k w ha hb h5 hT h0
    · exact combines_mid a b k w ha hb (by omega) (by omega) hT h0
end Go.Proofs.YtojgjgldheenkaaDoor
