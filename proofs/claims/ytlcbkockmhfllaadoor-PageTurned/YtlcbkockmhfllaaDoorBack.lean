/- Proved: the walk of the law PageBack answers true. Condition: the table of the sums holds its sixteen numbers. -/
import Derived.Test.YtlcbkockmhfllaaDoorLess
namespace Go.Proofs.YtlcbkockmhfllaaDoor
open Go.RowKit
theorem xor_one (i : Nat) (h : i ≤ 2147483647) : bits .xor .i64 (i : Int) 1 = ((i ^^^ 1 : Nat) : Int) ∧ i ^^^ 1 ≤ 2147483647 ∧ i ^^^ 1 ≠ i := by
  have h1 : i ^^^ 1 < 2 ^ 31 := Nat.xor_lt_two_pow (by omega) (by omega)
  refine ⟨?_, by omega, fun e => ?_⟩
  · rw [show (1 : Int) = ((1 : Nat) : Int) from rfl]
    show IntKind.i64.wrap ((BitVec.ofInt 64 (i : Int) ^^^ BitVec.ofInt 64 ((1 : Nat) : Int)).toNat : Int) = _
    rw [BitVec.toNat_xor, ofInt_u64 i (by omega), ofInt_u64 1 (by omega), IntKind.wrap_i64]
    omega
  · have := Crc.xor_eq_self i 1 e
    omega
theorem open_other {i k : Nat} {b : ByteArray} (hi : i ≤ 2147483647) (h0 : 1 ≤ k) (hk : k ≤ 255) (hb : b.size ≤ 500) (j : Nat) (hj : j ≤ 2147483647) (hne : j ≠ i) : Pg.openE j (Pg.page i k b) = 5 := by
  have hbad : Pg.bad i k = false := Pg.bad_of ⟨by omega, by omega, by omega, by omega⟩
  have := Pg.open_page hbad hb j ⟨by omega, by omega⟩
  rwa [Int.toNat_natCast, Int.toNat_natCast, if_neg (by omega)] at this
theorem open_own {i k : Nat} {b : ByteArray} (hi : i ≤ 2147483647) (h0 : 1 ≤ k) (hk : k ≤ 255) (hb : b.size ≤ 500) : Pg.openE i (Pg.page i k b) = 0 ∧ Pg.openK i (Pg.page i k b) = k ∧ Pg.openB i (Pg.page i k b) = b := by
  have hbad : Pg.bad i k = false := Pg.bad_of ⟨by omega, by omega, by omega, by omega⟩
  have := Pg.open_same hbad hb
  rwa [Int.toNat_natCast, Int.toNat_natCast] at this
set_option maxHeartbeats 2000000 in
set_option maxRecDepth 20000 in
theorem back_bad (z z2 : Int) (s : ByteArray) (w : World) (hT : Tab w) (h : Pg.bad z z2 = true) :
    Calls Tryd.prog 6 #[.int .i64 z, .int .i64 z2, .string s] w fun e w' => e = .returned (.bool true) ∧ Below w.heap.size w w' := by
  have hpos := hT.pos
  have HT : Hid (Tab w) := hT
  have hmin : min (s.size : Int) 500 = ((min s.size 500 : Nat) : Int) := by omega
  have hn1 : min s.size 500 ≤ s.size := by omega
  generalize min s.size 500 = n at *
  have n0 : (0 : Int) ≤ (n : Int) := by omega
  have n1 : (n : Int) ≤ (s.size : Int) := by omega
  have H1 : Hid (Calls Tryd.prog 9 #[.int .i64 z, .int .i64 z2, .string (s.extract 0 n)] w fun e w' => e = .returned (.tuple #[.string ⟨#[]⟩, .int .i64 2]) ∧ w' = w) := seal_bad z z2 _ w h
  have HW : Hid (Calls Tryd.prog 11 #[] w fun e w' => e = .returned (.bool true) ∧ Below w.heap.size w w') := works_any w hT
  have hc := Pg.bad_true h
  clear h hT
  generalize hb : s.extract 0 n = b at *
  by_cases h1 : z < 0
  · have a1 : decide (z < 0) = true := decide_eq_true h1
    clear hc h1
    go_enter Tryd.func6, Tryd.ntmps6
    go_wp2_with fail
    refine H1.out.mono ?_
    rintro e wS ⟨rfl, hwS⟩
    rw [hwS]
    clear hwS wS
    go_wp2_with fail
    refine HW.out.mono ?_
    rintro e w1 ⟨rfl, hB1⟩
    have HB1 : Hid (Below w.heap.size w w1) := hB1
    clear hB1
    go_wp2
    go_ret
    exact ⟨rfl, HB1.out⟩
  · have a1 : decide (z < 0) = false := decide_eq_false h1
    by_cases h2 : 2147483647 < z
    · have a2 : decide (2147483648 ≤ z) = true := decide_eq_true (by omega)
      clear hc h1 h2
      go_enter Tryd.func6, Tryd.ntmps6
      go_wp2_with fail
      refine H1.out.mono ?_
      rintro e wS ⟨rfl, hwS⟩
      rw [hwS]
      clear hwS wS
      go_wp2_with fail
      refine HW.out.mono ?_
      rintro e w1 ⟨rfl, hB1⟩
      have HB1 : Hid (Below w.heap.size w w1) := hB1
      clear hB1
      go_wp2
      go_ret
      exact ⟨rfl, HB1.out⟩
    · have a2 : decide (2147483648 ≤ z) = false := decide_eq_false (by omega)
      by_cases h3 : z2 < 1
      · have a3 : decide (z2 < 1) = true := decide_eq_true h3
        clear hc h1 h2 h3
        go_enter Tryd.func6, Tryd.ntmps6
        go_wp2_with fail
        refine H1.out.mono ?_
        rintro e wS ⟨rfl, hwS⟩
        rw [hwS]
        clear hwS wS
        go_wp2_with fail
        refine HW.out.mono ?_
        rintro e w1 ⟨rfl, hB1⟩
        have HB1 : Hid (Below w.heap.size w w1) := hB1
        clear hB1
        go_wp2
        go_ret
        exact ⟨rfl, HB1.out⟩
      · have a3 : decide (z2 < 1) = false := decide_eq_false h3
        have a4 : decide (255 < z2) = true := decide_eq_true (by omega)
        clear hc h1 h2 h3
        go_enter Tryd.func6, Tryd.ntmps6
        go_wp2_with fail
        refine H1.out.mono ?_
        rintro e wS ⟨rfl, hwS⟩
        rw [hwS]
        clear hwS wS
        go_wp2_with fail
        refine HW.out.mono ?_
        rintro e w1 ⟨rfl, hB1⟩
        have HB1 : Hid (Below w.heap.size w w1) := hB1
        clear hB1
        go_wp2
        go_ret
        exact ⟨rfl, HB1.out⟩
set_option maxHeartbeats 2000000 in
set_option maxRecDepth 20000 in
theorem back_good (i k : Nat) (s : ByteArray) (w : World) (hT : Tab w) (hi : i ≤ 2147483647) (hk0 : 1 ≤ k) (hk : k ≤ 255) :
    Calls Tryd.prog 6 #[.int .i64 (i : Int), .int .i64 (k : Int), .string s] w fun e w' => e = .returned (.bool true) ∧ Below w.heap.size w w' := by
  have hpos := hT.pos
  have HT : Hid (Tab w) := hT
  have hmin : min (s.size : Int) 500 = ((min s.size 500 : Nat) : Int) := by omega
  have hn1 : min s.size 500 ≤ s.size := by omega
  have hn5 : min s.size 500 ≤ 500 := by omega
  generalize min s.size 500 = n at *
  have n0 : (0 : Int) ≤ (n : Int) := by omega
  have n1 : (n : Int) ≤ (s.size : Int) := by omega
  have hbs : (s.extract 0 n).size ≤ 500 := by rw [Pg.ext_size s 0 n hn1]; omega
  generalize hb : s.extract 0 n = b at *
  obtain ⟨hx, hj, hne⟩ := xor_one i hi
  obtain ⟨hS, hE⟩ := seal_good hi hk0 hk hbs
  have H1 := seal_any i k b w hT
  rw [hS, hE] at H1
  obtain ⟨o1, o2, o3⟩ := open_own hi hk0 hk hbs
  have o4 := open_other hi hk0 hk hbs _ hj hne
  clear hS hE hT hbs
  generalize Pg.page i k b = pg at *
  generalize i ^^^ 1 = j at *
  have H2 : Hid (∀ W, Tab W → Calls Tryd.prog 12 #[.int .i64 (i : Int), .string pg] W fun e w' => e = .returned (.tuple #[.int .i64 (k : Int), .string b, .int .i64 0]) ∧ Below W.heap.size W w') := fun W hW => by
    have := open_any i pg W hW
    rw [o1, o2, o3] at this
    exact this
  have H3 : Hid (∀ W, Tab W → Calls Tryd.prog 12 #[.int .i64 (j : Int), .string pg] W fun e w' => e = .returned (.tuple #[.int .i64 (Pg.openK j pg), .string (Pg.openB j pg), .int .i64 5]) ∧ Below W.heap.size W w') := fun W hW => by
    have := open_any j pg W hW
    rw [o4] at this
    exact this
  clear o1 o2 o3 o4
  generalize Pg.openK j pg = k3 at *
  generalize Pg.openB j pg = b3 at *
  go_enter Tryd.func6, Tryd.ntmps6
  go_wp2_with fail
  refine H1.mono ?_
  rintro e w1 ⟨rfl, hB1⟩
  have HB1 : Hid (Below w.heap.size w w1) := hB1
  clear hB1 H1
  go_wp2_with fail
  refine (H2.out w1 (HT.out.below HB1.out hpos)).mono ?_
  rintro e w2 ⟨rfl, hB2⟩
  have HB2 : Hid (Below w.heap.size w w2) := below_next HB1.out hB2 HB1.out.size
  clear hB2 HB1 H2
  go_wp2_with fail
  refine (H3.out w2 (HT.out.below HB2.out hpos)).mono ?_
  rintro e w3 ⟨rfl, hB3⟩
  have HB3 : Hid (Below w.heap.size w w3) := below_next HB2.out hB3 HB2.out.size
  clear hB3 HB2 H3
  have HW := works_any w3 (HT.out.below HB3.out hpos)
  go_wp2_with fail
  refine HW.mono ?_
  rintro e w7 ⟨rfl, hB7⟩
  have HB7 : Hid (Below w.heap.size w w7) := below_next HB3.out hB7 HB3.out.size
  clear hB7 HB3 HW
  go_wp2
  go_ret
  exact ⟨rfl, HB7.out⟩
theorem back_walk (z z2 : Int) (s : ByteArray) (w : World) (_hz : In64 z) (_hz2 : In64 z2) (_hs : s.size ≤ 9223372036854775807) (hT : Tab w) :
    Calls Tryd.prog 6 #[.int .i64 z, .int .i64 z2, .string s] w fun e w' => e = .returned (.bool true) ∧ Below w.heap.size w w' := by
  cases h : Pg.bad z z2 with
  | true => exact back_bad z z2 s w hT h
  | false =>
    have hc := Pg.bad_false h
    obtain ⟨i, rfl⟩ := Int.eq_ofNat_of_zero_le hc.1
    obtain ⟨k, rfl⟩ := Int.eq_ofNat_of_zero_le (show 0 ≤ z2 by omega)
    exact back_good i k s w hT (by omega) (by omega) (by omega)
end Go.Proofs.YtlcbkockmhfllaaDoor
