/- Proved: the law ChunkCutting answers true, whatever comes in. -/
import Derived.Test.YtefpaebbendnmaaDoorTrim
import Derived.Deep.RegionHeld3
namespace Go.Proofs.YtefpaebbendnmaaDoor
open Go.RowKit
open Ck (T zs tr trE trT)
theorem seq (s : ByteArray) : (s.toList == s.toList) = true := by simp
theorem sne2 (s : ByteArray) : (s.toList != s.toList) = false := by simp
theorem trunc_int (s : ByteArray) (z : Int) (w : World) (hs : s.size ≤ 4096) (h0 : 0 ≤ z) (hz : z ≤ 4096) :
    Calls Tryd.prog 12 #[.string s, .int .i64 z] w fun e w' => e = .returned (.tuple #[.string (mk (tr (bl s) z.toNat)), .int .i64 0]) ∧ Below w.heap.size w w' := by
  obtain ⟨n, rfl⟩ : ∃ n : Nat, z = (n : Int) := ⟨z.toNat, by omega⟩
  exact trunc_yes s n w hs (by omega)
/- a number, taken by 4097 -/
theorem taken (z : Int) : ∃ r n : Int, z.tmod 4097 = r ∧ (r + 4097).tmod 4097 = n ∧ -4096 ≤ r ∧ r ≤ 4096 ∧ 0 ≤ n ∧ n ≤ 4096 := by
  have a := Int.tmod_lt_of_pos z (show (0 : Int) < 4097 by omega)
  have b := Int.neg_tmod z 4097
  have d := Int.tmod_lt_of_pos (-z) (show (0 : Int) < 4097 by omega)
  have e := Int.tmod_nonneg (a := z.tmod 4097 + 4097) 4097 (by omega)
  have f := Int.tmod_lt_of_pos (z.tmod 4097 + 4097) (show (0 : Int) < 4097 by omega)
  exact ⟨_, _, rfl, rfl, by omega, by omega, e, by omega⟩
set_option maxHeartbeats 4000000 in
set_option maxRecDepth 20000 in
theorem cutting_yes (s S : ByteArray) (m : Nat) (y z r1 r2 n1 n2 x1 x2 : Int) (w : World) (hm : (if (4096 : Int) < (s.size : Int) then (4096 : Int) else (s.size : Int)) = (m : Int)) (hms : m ≤ s.size) (hx : s.extract 0 m = S) (hS : S.size ≤ 4096)
    (hr1 : y.tmod 4097 = r1) (hn1 : (r1 + 4097).tmod 4097 = n1) (a1 : -4096 ≤ r1) (a2 : r1 ≤ 4096) (_a3 : 0 ≤ n1) (_a4 : n1 ≤ 4096) (hr2 : z.tmod 4097 = r2) (hn2 : (r2 + 4097).tmod 4097 = n2) (b1 : -4096 ≤ r2) (b2 : r2 ≤ 4096) (_b3 : 0 ≤ n2) (_b4 : n2 ≤ 4096)
    (hmx : (if n1 < n2 then n2 else n1) = x1) (hmn : (if n2 < n1 then n2 else n1) = x2) (hx1 : 0 ≤ x2) (hx2 : x2 ≤ x1) (hx3 : x1 ≤ 4096) :
    Calls Tryd.prog 4 #[.string s, .int .i64 y, .int .i64 z] w fun e w' => e = .returned (.bool true) ∧ Below w.heap.size w w' := by
  have hAs : (mk (tr (bl S) x1.toNat)).size = x1.toNat := by rw [mk_size, Ck.tr_length]
  have HT1 := (show Hid _ from fun W => trunc_int S x1 W hS (by omega) hx3)
  have HT2 := (show Hid _ from fun W => trunc_int (mk (tr (bl S) x1.toNat)) x2 W (by omega) hx1 (by omega))
  have HT3 := (show Hid _ from fun W => trunc_int S x2 W hS hx1 (by omega))
  rw [bl_mk, Ck.tr_tr _ (by omega)] at HT2
  have HX := (show Hid _ from fun W => works_any W)
  have hTA : Hid ((mk (tr (bl S) x1.toNat)).extract S.size (mk (tr (bl S) x1.toNat)).size = mk (zs (x1.toNat - S.size))) := by
    show _ = _
    rw [mk_ext, ext_drop _ _ _ (by rw [mk_size]; exact Nat.le_refl _), ← bl_length S, Ck.tr_tail]
  have hFR : Hid (∀ k, k = min x1.toNat S.size → (mk (tr (bl S) x1.toNat)).extract 0 k = S.extract 0 k) := fun k hk => by
    rw [mk_ext, ext_take, ← mk_bl (S.extract 0 k), bl_ext, ext_take, hk, ← bl_length S, Ck.tr_front]
  have HAS : Hid ((mk (tr (bl S) x1.toNat)).size = x1.toNat) := hAs
  have hA1 : (((mk (tr (bl S) x1.toNat)).size : Int) != x1) = false := by rw [hAs]; simp; omega
  generalize mk (tr (bl S) x1.toNat) = A at *
  generalize mk (tr (bl S) x2.toNat) = C at *
  have q1 := sne2 C
  have q2 := sne2 (⟨#[]⟩ : ByteArray)
  clear hAs
  have HS9 : Hid (S.size ≤ 4096) := hS
  go_enter Tryd.func4, Tryd.ntmps4
  go_wp2_with fail
  refine (HT1.out w).mono ?_
  rintro e w1 ⟨rfl, hB⟩
  have HB1 := (show Hid _ from hB)
  clear hB
  go_wp2_with fail
  refine (HT2.out w1).mono ?_
  rintro e w2 ⟨rfl, hB⟩
  have HB2 := (show Hid _ from below_next HB1.out hB HB1.out.size)
  clear hB
  go_wp2_with fail
  refine (HT3.out w2).mono ?_
  rintro e w3 ⟨rfl, hB⟩
  have HB3 := (show Hid _ from below_next HB2.out hB HB2.out.size)
  clear hB HT1 HT2 HT3 HB1 HB2
  by_cases hlt : S.size < A.size
  · have i0 : (S.size : Int) < (A.size : Int) := by omega
    have j0 : (0 : Int) ≤ (S.size : Int) := by omega
    have j1 : (S.size : Int) ≤ (A.size : Int) := by omega
    have HTR := (show Hid _ from fun W => trim_any (x1.toNat - S.size) W (by omega) (by have := HAS.out; omega))
    have hTX := hTA.out
    generalize mk (zs (x1.toNat - S.size)) = Z at *
    go_wp2_with fail
    refine (HTR.out w3).mono ?_
    rintro e w4 ⟨rfl, k4, hw4⟩
    have HB4 : Hid (Below w.heap.size w w4) := by
      rw [hw4]
      exact below_drewN HB3.out k4
    have hsz4 := HB4.out.size
    clear hw4 HTR HB3
    go_wp2_with fail
    clear i0 j0 j1 hTX hlt
    obtain ⟨k, hk, hk1⟩ : ∃ k : Nat, k = min A.size S.size ∧ (if (S.size : Int) < (A.size : Int) then (S.size : Int) else (A.size : Int)) = (k : Int) := by
      by_cases h : (S.size : Int) < (A.size : Int)
      · exact ⟨S.size, by omega, by rw [if_pos h]⟩
      · exact ⟨A.size, by omega, by rw [if_neg h]⟩
    have hk2 : (if S.size < A.size then (S.size : Int) else (A.size : Int)) = (k : Int) := by
      rw [← hk1]
      by_cases h : S.size < A.size
      · rw [if_pos h, if_pos (by omega)]
      · rw [if_neg h, if_neg (by omega)]
    have l0 : (0 : Int) ≤ (k : Int) := by omega
    have l1 : (k : Int) ≤ (A.size : Int) := by omega
    have l2 : (k : Int) ≤ (S.size : Int) := by omega
    have hP := hFR.out k (by rw [hk, HAS.out])
    have q3 := seq (S.extract 0 k)
    clear hk
    generalize hSP : S.extract 0 k = P at *
    go_region_held3 (fun _ => True)
      (first | exact True.intro)
      (first | (go_at_call 11; refine (HX.out _).mono ?_; rintro e w9 ⟨rfl, hB9⟩))
    all_goals
      have HB9 := (show Hid _ from below_next (HB4.out.drew) hB9 (by first | exact hsz4 | (simp; omega)))
      go_wp2
      go_ret
      exact ⟨rfl, HB9.out⟩
  · have i0 : ¬ (S.size : Int) < (A.size : Int) := by omega
    have hsz3 := HB3.out.size
    go_wp2_with fail
    clear i0 hlt
    obtain ⟨k, hk, hk1⟩ : ∃ k : Nat, k = min A.size S.size ∧ (if (S.size : Int) < (A.size : Int) then (S.size : Int) else (A.size : Int)) = (k : Int) := by
      by_cases h : (S.size : Int) < (A.size : Int)
      · exact ⟨S.size, by omega, by rw [if_pos h]⟩
      · exact ⟨A.size, by omega, by rw [if_neg h]⟩
    have hk2 : (if S.size < A.size then (S.size : Int) else (A.size : Int)) = (k : Int) := by
      rw [← hk1]
      by_cases h : S.size < A.size
      · rw [if_pos h, if_pos (by omega)]
      · rw [if_neg h, if_neg (by omega)]
    have l0 : (0 : Int) ≤ (k : Int) := by omega
    have l1 : (k : Int) ≤ (A.size : Int) := by omega
    have l2 : (k : Int) ≤ (S.size : Int) := by omega
    have hP := hFR.out k (by rw [hk, HAS.out])
    have q3 := seq (S.extract 0 k)
    clear hk
    generalize hSP : S.extract 0 k = P at *
    go_region_held3 (fun _ => True)
      (first | exact True.intro)
      (first | (go_at_call 11; refine (HX.out _).mono ?_; rintro e w9 ⟨rfl, hB9⟩))
    all_goals
      have HB9 := (show Hid _ from below_next (HB3.out.drew) hB9 (by first | exact hsz3 | (simp; omega)))
      go_wp2
      go_ret
      exact ⟨rfl, HB9.out⟩
theorem cutting_walk (s : ByteArray) (y z : Int) (w : World) (_hs : s.size ≤ 9223372036854775807) (_hy : -9223372036854775808 ≤ y ∧ y ≤ 9223372036854775807) (_hz : -9223372036854775808 ≤ z ∧ z ≤ 9223372036854775807) :
    Calls Tryd.prog 4 #[.string s, .int .i64 y, .int .i64 z] w fun e w' => e = .returned (.bool true) ∧ Below w.heap.size w w' := by
  obtain ⟨m, hm, hms, hm9⟩ : ∃ m : Nat, (if (4096 : Int) < (s.size : Int) then (4096 : Int) else (s.size : Int)) = (m : Int) ∧ m ≤ s.size ∧ m ≤ 4096 := by
    by_cases h : (4096 : Int) < (s.size : Int)
    · exact ⟨4096, by rw [if_pos h]; rfl, by omega, by omega⟩
    · exact ⟨s.size, by rw [if_neg h], by omega, by omega⟩
  obtain ⟨r1, n1, hr1, hn1, a1, a2, a3, a4⟩ := taken y
  obtain ⟨r2, n2, hr2, hn2, b1, b2, b3, b4⟩ := taken z
  obtain ⟨x1, x2, h1, h2, h3, h4, h5⟩ : ∃ x1 x2 : Int, (if n1 < n2 then n2 else n1) = x1 ∧ (if n2 < n1 then n2 else n1) = x2 ∧ 0 ≤ x2 ∧ x2 ≤ x1 ∧ x1 ≤ 4096 := by
    refine ⟨_, _, rfl, rfl, ?_, ?_, ?_⟩ <;> split <;> (try split) <;> omega
  exact cutting_yes s _ m y z r1 r2 n1 n2 x1 x2 w hm hms rfl (by rw [ByteArray.size_extract]; omega) hr1 hn1 a1 a2 a3 a4 hr2 hn2 b1 b2 b3 b4 h1 h2 h3 h4 h5
end Go.Proofs.YtefpaebbendnmaaDoor
