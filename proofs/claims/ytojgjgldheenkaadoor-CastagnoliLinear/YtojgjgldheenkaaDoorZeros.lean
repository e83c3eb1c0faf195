/- Proved: the walk of the law CastagnoliZeros answers true for any bytes and any two numbers. Condition: the table holds its sixteen numbers. -/
import Derived.Test.YtojgjgldheenkaaDoorFew
import Derived.Test.YtojgjgldheenkaaDoorMathB
import Derived.Deep.RegionHeld3
import Derived.Deep.OwnRows
namespace Go.Proofs.YtojgjgldheenkaaDoor
open Go.RowKit
theorem place3000 (z : Int) : ∃ (t : Int) (n : Nat), z.tmod 3000 = t ∧ -3000 < t ∧ t < 3000 ∧ (t + 3000).tmod 3000 = (n : Int) ∧ (t + 3000) % 3000 = (n : Int) ∧ n < 3000 := by
  have h1 := Int.tmod_lt_of_pos z (show (0 : Int) < 3000 by omega)
  have h2 := Int.lt_tmod_of_pos z (show (0 : Int) < 3000 by omega)
  have e : (z.tmod 3000 + 3000).tmod 3000 = (z.tmod 3000 + 3000) % 3000 := Int.tmod_eq_emod_of_nonneg (by omega)
  have h3 := Int.emod_nonneg (z.tmod 3000 + 3000) (show (3000 : Int) ≠ 0 by omega)
  have h4 := Int.emod_lt_of_pos (z.tmod 3000 + 3000) (show (0 : Int) < 3000 by omega)
  obtain ⟨n, hn⟩ := Int.eq_ofNat_of_zero_le h3
  exact ⟨_, n, rfl, by omega, by omega, e.trans hn, hn, by omega⟩
def nul (n : Nat) : Nat := Crc.turn (Crc.pw n 4294967295)
theorem fold_nul (n r : Nat) : Crc.fold r (List.replicate n 0) = Crc.pw n r := by
  induction n generalizing r with
  | zero => rfl
  | succ n ih => rw [List.replicate_succ]; exact ih _
theorem nul_sum (n : Nat) : nul n = Crc.sum (List.replicate n 0) := by
  unfold Crc.sum Crc.upd
  rw [fold_nul]; rfl
theorem nul_lt (n : Nat) : nul n < 4294967296 := Crc.turn_lt (Crc.pw_lt n (by omega))
theorem nul_nul (k1 k2 : Nat) : Crc.pw k2 (nul k1) ^^^ nul k2 = nul (k1 + k2) := by
  have h := Crc.comb_sum (List.replicate k1 0) (List.replicate k2 0)
  rw [List.length_replicate, List.replicate_append_replicate] at h
  rw [nul_sum, nul_sum, nul_sum]; exact h
theorem nul_behind (cs : List Nat) (k : Nat) : Crc.pw k (Crc.sum cs) ^^^ nul k = Crc.turn (Crc.fold (Crc.turn (Crc.sum cs)) (List.replicate k 0)) := by
  have h := Crc.comb_sum cs (List.replicate k 0)
  rw [List.length_replicate] at h
  rw [nul_sum, h, Crc.upd_sum]
theorem made_eq (k : Nat) : madeCells #[.int .u8 0] k = ((List.replicate k 0).map fun n : Nat => Value.int .u8 (n : Nat)).toArray := by
  apply Array.ext
  · simp [madeCells]
  · intro i h1 h2
    simp [madeCells, Nat.mod_one]
theorem made_bytes (W : World) (k : Nat) (hk : k ≤ 9223372036854775807) : Bytes (W.alloc (.cells (madeCells #[.int .u8 0] k) 5)) (some ⟨W.heap.size, 0, none⟩) k (List.replicate k 0) := by
  have h := Bytes.new W (madeCells #[.int .u8 0] k) (0, 0) (List.replicate k 0) (made_eq k) (by intro x hx; rw [List.eq_of_mem_replicate hx]; decide) (by rw [List.length_replicate]; exact hk)
  rw [List.length_replicate] at h
  exact h
set_option maxHeartbeats 800000 in
theorem zeros_walk (a : Option Addr) (len cap : Nat) (bs : List Nat) (n m : Int) (w : World) (hB : Bytes w a len bs) (hc : len ≤ cap) (hc' : cap ≤ 9223372036854775807) (_hn : -9223372036854775808 ≤ n ∧ n ≤ 9223372036854775807)
    (_hm : -9223372036854775808 ≤ m ∧ m ≤ 9223372036854775807) (hT : Tab w) (h0 : 0 < w.heap.size) :
    Calls Tryd.prog 8 #[.slice a len cap, .int .i64 n, .int .i64 m] w fun e w' => e = .returned (.bool true) ∧ Below w.heap.size w w' := by
  obtain ⟨t1, k1, ht1, h1a, h1b, h1c, h1d, hk1⟩ := place3000 n
  obtain ⟨t2, k2, ht2, h2a, h2b, h2c, h2d, hk2⟩ := place3000 m
  go_enter Tryd.func8, Tryd.ntmps8
  go_wp2_with fail
  refine (few_any a len cap bs w hB hc hc').mono ?_
  rintro e w1 ⟨g, cap', rfl, hM, hb⟩
  have hl : min len 2000 ≤ 2000 := by omega
  clear hB
  generalize min len 2000 = l at *
  generalize bs.take 2000 = cs at *
  have HM : Hid (Mine w1 w.heap.size (some ⟨g, 0, none⟩) l cap' cs) := hM
  clear hM
  go_wp2_with fail
  refine (zeros_yes k1 w1 (by omega) (hT.below h0 hb) (by have := hb.size; omega)).mono ?_
  rintro e w2 ⟨rfl, hb2⟩
  have hB2 := hb.trans (hb2.mono hb.size)
  have HM2 : Hid (Mine w2 w.heap.size (some ⟨g, 0, none⟩) l cap' cs) := HM.out.below hb2 rfl
  clear HM hb2 hb
  rw [show Crc.turn (Crc.pw k1 4294967295) = nul k1 from rfl]
  go_wp2_with fail
  refine (zeros_yes k2 w2 (by omega) (hT.below h0 hB2) (by have := hB2.size; omega)).mono ?_
  rintro e w3 ⟨rfl, hb3⟩
  have hB3 := hB2.trans (hb3.mono hB2.size)
  have HM3 : Hid (Mine w3 w.heap.size (some ⟨g, 0, none⟩) l cap' cs) := HM2.out.below hb3 rfl
  clear HM2 hb3 hB2
  rw [show Crc.turn (Crc.pw k2 4294967295) = nul k2 from rfl]
  go_wp2_with fail
  rw [← Int.natCast_add]
  refine (zeros_yes (k1 + k2) w3 (by omega) (hT.below h0 hB3) (by have := hB3.size; omega)).mono ?_
  rintro e w4 ⟨rfl, hb4⟩
  have hB4 := hB3.trans (hb4.mono hB3.size)
  have HM4 : Hid (Mine w4 w.heap.size (some ⟨g, 0, none⟩) l cap' cs) := HM3.out.below hb4 rfl
  clear HM3 hb4 hB3
  rw [show Crc.turn (Crc.pw (k1 + k2) 4294967295) = nul (k1 + k2) from rfl]
  go_wp2_with fail
  refine (combine_yes (nul k1) (nul k2) k2 w4 (nul_lt _) (nul_lt _) (by omega) (hT.below h0 hB4) (by have := hB4.size; omega)).mono ?_
  rintro e w5 ⟨rfl, hb5⟩
  have hB5 := hB4.trans (hb5.mono hB4.size)
  have HM5 : Hid (Mine w5 w.heap.size (some ⟨g, 0, none⟩) l cap' cs) := HM4.out.below hb5 rfl
  clear HM4 hb5 hB4
  rw [nul_nul]
  go_wp2_with fail
  refine (sum_any _ l cap' cs w5 (HM5.out.bytes (by omega)) (hT.below h0 hB5)).mono ?_
  rintro e w6 ⟨rfl, rfl⟩
  go_wp2_with fail
  refine (combine_yes (Crc.sum cs) (nul k1) k1 w6 (sum_lt HM5.out.2.1) (nul_lt _) (by omega) (hT.below h0 hB5) (by have := hB5.size; omega)).mono ?_
  rintro e w7 ⟨rfl, hb7⟩
  have hB7 := hB5.trans (hb7.mono hB5.size)
  have HM7 : Hid (Mine w7 w.heap.size (some ⟨g, 0, none⟩) l cap' cs) := HM5.out.below hb7 rfl
  clear HM5 hb7 hB5
  rw [nul_behind]
  go_wp2_with fail
  refine (zeros_no _ w7 (.inl (by omega))).mono ?_
  rintro e w8 ⟨rfl, rfl⟩
  go_wp2_with fail
  refine (combine_no _ _ _ w8 (.inr (by omega))).mono ?_
  rintro e w9 ⟨rfl, rfl⟩
  go_wp2_with fail
  have hB : Bytes w9 (some ⟨g, 0, none⟩) l cs := HM7.out.bytes (by omega)
  have hT9 := hT.below h0 hB7
  have h09 : 0 < w9.heap.size := by have := hB7.size; omega
  clear HM7
  have hmk : ∀ W : World, (Instr.makeSlice 23 (.int .i64 (k1 : Int)) (.int .i64 (k1 : Int))).run Tryd.prog W = .ok (.slice (some ⟨W.heap.size, 0, none⟩) k1 k1) (W.alloc (.cells (madeCells #[.int .u8 0] k1) 5)) :=
    fun W => run_make_row' 23 5 (.int .u8 0) 1 Tryd.underlying23 (by kernel_rfl) rfl .i64 .i64 k1 (by omega) (by omega) W
  have HX : Hid (Crc.sum cs < 4294967296) := sum_lt hB.2.1
  have Hmade : Hid (∀ W : World, Bytes (W.alloc (.cells (madeCells #[.int .u8 0] k1) 5)) (some ⟨W.heap.size, 0, none⟩) k1 (List.replicate k1 0)) := fun W => made_bytes W k1 (by omega)
  go_region_held3 (fun w' => Below w9.heap.size w9 w') (first | exact (Below.refl _ _).drew | assumption | (refine Below.alloc (by assumption) ?_ _; exact Below.size (by assumption)))
    (first
      | (go_at_call 10; refine (sum_any _ l cap' cs _ ?_ ?_).mono ?_; exact hB.below (by assumption) rfl; exact hT9.below h09 (by assumption); rintro e w' ⟨rfl, rfl⟩)
      | (go_at_call 12; refine (upd_any _ _ k1 k1 (List.replicate k1 0) _ HX.out ?_ ?_).mono ?_; exact Hmade.out w9; exact hT9.below h09 (by assumption); rintro e w' ⟨rfl, rfl⟩)
      | (go_at_call 14; refine (works_any _ ?_ ?_).mono ?_; exact hT9.below h09 (by assumption); exact Nat.lt_of_lt_of_le h09 (Below.size (by assumption)); rintro e w' ⟨rfl, hb6⟩; have hb7 : Below w9.heap.size w9 w' := Below.trans (by assumption) (hb6.mono (Below.size (by assumption)))))
  all_goals go_wp2
  all_goals (go_ret; exact ⟨rfl, hB7.trans (Below.mono (by assumption) hB7.size)⟩)
end Go.Proofs.YtojgjgldheenkaaDoor
