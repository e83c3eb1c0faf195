/- Proved: the law ChunkAlike answers true, whatever comes in. -/
import Derived.Test.YtefpaebbendnmaaAlikeH
import Derived.Test.YtefpaebbendnmaaSam
import Derived.Test.YtefpaebbendnmaaReg
namespace Go.Proofs.Ytefpaebbendnmaa
open Go.RowKit
open Ck (T cnt same but)
theorem but_len (n j : Nat) (h : j < n) : (but n j).length = n - 1 := Ck.but_length n j h
set_option maxHeartbeats 8000000 in
set_option maxRecDepth 20000 in
theorem alike_yes (s S : ByteArray) (m : Nat) (z : Int) (c : Nat) (w : World) (hm : (if (4096 : Int) < (s.size : Int) then (4096 : Int) else (s.size : Int)) = (m : Int)) (hms : m ≤ s.size) (hm9 : m ≤ 4096) (hx : s.extract 0 m = S) (hS : S.size = m) (h0 : 0 < m) (_hz1 : -9223372036854775808 ≤ z) (_hz2 : z ≤ 9223372036854775807) (hc : c < 256) :
    Calls Try.prog 7 #[.string s, .int .i64 z, .int .u8 (c : Int)] w fun e w' => e = .returned (.bool true) ∧ Below w.heap.size w w' := by
  obtain ⟨r, hr⟩ : ∃ r, z.tmod (m : Int) = r := ⟨_, rfl⟩
  have hr1 : -4096 ≤ r ∧ r < 4096 ∧ -(m : Int) < r ∧ r < (m : Int) := by
    have a := Int.tmod_lt_of_pos z (show (0 : Int) < (m : Int) by omega)
    have b := Int.neg_tmod z (m : Int)
    have d := Int.tmod_lt_of_pos (-z) (show (0 : Int) < (m : Int) by omega)
    omega
  obtain ⟨r1, r2, r3, r4⟩ := hr1
  obtain ⟨K, hK⟩ : ∃ K : Nat, (r + (m : Int)).tmod (m : Int) = (K : Int) := by
    have a := Int.tmod_nonneg (m : Int) (show 0 ≤ r + (m : Int) by omega)
    exact ⟨((r + (m : Int)).tmod (m : Int)).toNat, by omega⟩
  have hKm : K < m := by
    have a := Int.tmod_lt_of_pos (r + (m : Int)) (show (0 : Int) < (m : Int) by omega)
    omega
  have hbl : (bl S).length = m := by rw [bl_length, hS]
  obtain ⟨v, hv⟩ : ∃ v, v = S[K]'(by omega) := ⟨_, rfl⟩
  have hv256 : v.toNat < 256 := v.toNat_lt
  obtain ⟨u, hu⟩ : ∃ u : Nat, u = v.toNat ^^^ (c ||| 1) := ⟨_, rfl⟩
  have hu256 : u < 256 := by rw [hu]; exact flip_lt hv256 hc
  have hun : (UInt8.ofNat u).toNat = u := by simp; omega
  have hne : UInt8.ofNat u ≠ (bl S)[K]'(by omega) := fun e => by
    have e2 : (bl S)[K]'(by omega) = v := by rw [hv]; rfl
    rw [e2] at e
    have := congrArg UInt8.toNat e
    rw [hun, hu] at this
    exact flip_ne _ _ this
  obtain ⟨L, hL⟩ : ∃ L, L = but (cnt m) (K / 64) := ⟨_, rfl⟩
  have hKc : K / 64 < cnt m := by unfold cnt; omega
  have hLl : L.length = cnt m - 1 := by rw [hL]; exact Ck.but_length _ _ hKc
  have HLN : Hid (∀ i ∈ L, i ≠ K / 64) := fun i hi => by rw [hL] at hi; exact Ck.but_no _ _ i hi
  have hset := Ck.same_set (by omega) hne
  rw [hbl, ← hL] at hset
  have HB1 := (show Hid _ from fun W => same_any S (mk ((bl S).set K (UInt8.ofNat u))) W (by omega) (by rw [mk_size, List.length_set]; omega))
  have HB2 := (show Hid _ from fun W => same_any (mk ((bl S).set K (UInt8.ofNat u))) S W (by rw [mk_size, List.length_set]; omega) (by omega))
  rw [bl_mk, hset.1] at HB1
  rw [bl_mk, hset.2] at HB2
  have HA := (show Hid _ from fun W => same_any S S W (by omega) (by omega))
  have hLA : (same (bl S) (bl S)).length = cnt m := by rw [Ck.same_self, hbl]
  have HE := (show Hid _ from fun W => same_any S ⟨#[]⟩ W (by omega) (by decide))
  rw [show bl ⟨#[]⟩ = [] from rfl, Ck.same_none] at HE
  generalize same (bl S) (bl S) = LA at *
  have HC := (show Hid _ from fun W => count_nat m W (by omega))
  have HX := (show Hid _ from fun W => works_any W)
  have HSN : Hid (∀ W v1 v2, Nums W v1 L → Nums W v2 L → Calls Try.prog 26 #[v1, v2] W fun e w' => e = .returned (.bool true) ∧ Below W.heap.size W w') := fun W v1 v2 h1 h2 => by
    have h := rnums_any v1 v2 _ _ W h1 h2
    rwa [show (L == L) = true by simp] at h
  have HY1 : Is (mk ((bl S).take K ++ [UInt8.ofNat u] ++ (bl S).drop (K + 1))) (mk ((bl S).set K (UInt8.ofNat u))) := ⟨by rw [set_parts _ _ _ (by omega)]⟩
  have A1 : ∀ W : World, (Op.stringOp .add (S.extract 0 K) (mk [UInt8.ofNat u])).run Try.prog W = .ok (.string (mk ((bl S).take K ++ [UInt8.ofNat u]))) W := fun W => by
    rw [run_string_add_sum W _ _ (by rw [ByteArray.size_extract, mk_size]; show _ + 1 ≤ _; omega), ← mk_bl (S.extract 0 K), mk_append, bl_ext, ext_take]
  have A2 : ∀ W : World, (Op.stringOp .add (mk ((bl S).take K ++ [UInt8.ofNat u])) (S.extract (K + 1) m)).run Try.prog W = .ok (.string (mk ((bl S).set K (UInt8.ofNat u)))) W := fun W => by
    rw [run_string_add_sum W _ _ (by rw [ByteArray.size_extract, mk_size, List.length_append, List.length_take]; show _ + 1 + _ ≤ _; omega), ← mk_bl (S.extract (K + 1) m), mk_append, bl_ext, ext_drop _ _ _ (by omega), HY1.eq]
  have hxor : bits .xor .u8 (((S[K]'(by omega)).toNat : Nat) : Int) (bits .or .u8 (c : Int) 1) = (u : Int) := by
    rw [← hv, flip_bits hv256 hc, hu]
  clear HY1
  obtain ⟨c0, hc0⟩ : ∃ c0, cnt m = c0 := ⟨_, rfl⟩
  have hc9 : c0 ≤ 64 := by unfold cnt at hc0; omega
  rw [hc0] at hLA hLl HC hKc
  have n1 : ((LA.length : Int) != (c0 : Int)) = false := by rw [hLA]; simp
  have n2 : ((L.length : Int) == (c0 : Int) - 1) = true := by rw [hLl, beq_iff_eq]; omega
  have htd : (K : Int).tdiv 64 = ((K / 64 : Nat) : Int) := (Int.tdiv_eq_ediv_of_nonneg (by omega)).trans (by omega)
  have k0 : (0 : Int) ≤ (K : Int) := by omega
  have k1 : (K : Int) < (S.size : Int) := by omega
  have k2 : (K : Int) ≤ (S.size : Int) := by omega
  have k3 : (K : Int) + 1 ≤ (S.size : Int) := by omega
  have k4 : (0 : Int) ≤ (K : Int) + 1 := by omega
  have k5 : K < S.size := by omega
  have wk : IntKind.i64.wrap ((K : Int) + 1) = (K : Int) + 1 := by rw [show (K : Int) + 1 = ((K + 1 : Nat) : Int) by omega]; exact wrapN _ (by omega)
  have hS0 : ¬ m = 0 := by omega
  have kk1 : (K : Int) < (m : Int) := by omega
  have kk2 : (K : Int) ≤ (m : Int) := by omega
  have kk3 : (K : Int) + 1 ≤ (m : Int) := by omega
  have HLL : Hid (L.length ≤ 64) := by show L.length ≤ 64; omega
  generalize mk ((bl S).set K (UInt8.ofNat u)) = B at *
  generalize mk ((bl S).take K ++ [UInt8.ofNat u]) = B0 at *
  clear hset hL hLl hLA hne hun hv hc0 hu
  go_enter Try.func7, Try.ntmps7
  go_wp2_with fail
  refine (HA.out w).mono ?_
  rintro e w1 ⟨v1, rfl, hO, hB⟩
  obtain ⟨a1, p1, rfl⟩ := own_slice hO
  have HW1 := (show Hid _ from hB)
  clear hO hB HA
  go_wp2_with fail
  refine (HC.out w1).mono ?_
  rintro e wC ⟨rfl, hwC⟩
  rw [hwC]
  clear hwC wC
  go_wp2_with fail
  refine (HE.out w1).mono ?_
  rintro e w2 ⟨v2, rfl, hO, hB⟩
  obtain ⟨a2, p2, rfl⟩ := own_slice hO
  have HW2 := (show Hid _ from below_next HW1.out hB HW1.out.size)
  clear hO hB HE
  go_wp2_with fail
  refine wp_region_held_drew (S := fun _ : World => True) (by kernel_rfl) True.intro (fun _ => ?_)
  refine heldTake 0 (some 45) (.string S) rfl rfl (by kernel_rfl) (by kernel_rfl) (by kernel_rfl) (fun _ _ _ h => h) (Or.inl ⟨by rfl, fun w hS => ?_⟩) True.intro ?_
  · (go_simp)
  simp only [Act.put, List.setIfInBounds_toArray, List.set_cons_zero, List.set_cons_succ]
  refine heldTake 1 (some 46) (.int .i64 (K : Int)) rfl rfl (by kernel_rfl) (by kernel_rfl) (by kernel_rfl) (fun _ _ _ h => h) (Or.inl ⟨by rfl, fun w hS => ?_⟩) True.intro ?_
  · (go_simp)
  simp only [Act.put, List.setIfInBounds_toArray, List.set_cons_zero, List.set_cons_succ]
  refine heldTake 2 (some 47) (.string (S.extract 0 K)) rfl rfl (by kernel_rfl) (by kernel_rfl) (by kernel_rfl) (fun _ _ _ h => h) (Or.inl ⟨by rfl, fun w hS => ?_⟩) True.intro ?_
  · (go_simp)
  simp only [Act.put, List.setIfInBounds_toArray, List.set_cons_zero, List.set_cons_succ]
  refine heldTake 3 (some 48) (.string S) rfl rfl (by kernel_rfl) (by kernel_rfl) (by kernel_rfl) (fun _ _ _ h => h) (Or.inl ⟨by rfl, fun w hS => ?_⟩) True.intro ?_
  · (go_simp)
  simp only [Act.put, List.setIfInBounds_toArray, List.set_cons_zero, List.set_cons_succ]
  refine heldTake 4 (some 49) (.int .i64 (K : Int)) rfl rfl (by kernel_rfl) (by kernel_rfl) (by kernel_rfl) (fun _ _ _ h => h) (Or.inl ⟨by rfl, fun w hS => ?_⟩) True.intro ?_
  · (go_simp)
  simp only [Act.put, List.setIfInBounds_toArray, List.set_cons_zero, List.set_cons_succ]
  refine heldTake 5 (some 50) (.int .u8 (((S[K]'k5).toNat : Nat) : Int)) rfl rfl (by kernel_rfl) (by kernel_rfl) (by kernel_rfl) (fun _ _ _ h => h) (Or.inl ⟨by rfl, fun w hS => ?_⟩) True.intro ?_
  · (go_simp)
  simp only [Act.put, List.setIfInBounds_toArray, List.set_cons_zero, List.set_cons_succ]
  refine heldTake 6 (some 51) (.int .u8 (c : Int)) rfl rfl (by kernel_rfl) (by kernel_rfl) (by kernel_rfl) (fun _ _ _ h => h) (Or.inl ⟨by rfl, fun w hS => ?_⟩) True.intro ?_
  · (go_simp)
  simp only [Act.put, List.setIfInBounds_toArray, List.set_cons_zero, List.set_cons_succ]
  refine heldTake 7 (some 52) (.int .u8 (bits .or .u8 (c : Int) 1)) rfl rfl (by kernel_rfl) (by kernel_rfl) (by kernel_rfl) (fun _ _ _ h => h) (Or.inl ⟨by rfl, fun w hS => ?_⟩) True.intro ?_
  · (go_simp)
  simp only [Act.put, List.setIfInBounds_toArray, List.set_cons_zero, List.set_cons_succ]
  refine heldTake 8 (some 53) (.int .u8 (u : Int)) rfl rfl (by kernel_rfl) (by kernel_rfl) (by kernel_rfl) (fun _ _ _ h => h) (Or.inl ⟨by rfl, fun w hS => ?_⟩) True.intro ?_
  · (go_simp)
  simp only [Act.put, List.setIfInBounds_toArray, List.set_cons_zero, List.set_cons_succ]
  refine heldTake 12 (some 57) (.string S) rfl rfl (by kernel_rfl) (by kernel_rfl) (by kernel_rfl) (fun _ _ _ h => h) (Or.inl ⟨by rfl, fun w hS => ?_⟩) True.intro ?_
  · (go_simp)
  simp only [Act.put, List.setIfInBounds_toArray, List.set_cons_zero, List.set_cons_succ]
  refine heldTake 13 (some 58) (.int .i64 (K : Int)) rfl rfl (by kernel_rfl) (by kernel_rfl) (by kernel_rfl) (fun _ _ _ h => h) (Or.inl ⟨by rfl, fun w hS => ?_⟩) True.intro ?_
  · (go_simp)
  simp only [Act.put, List.setIfInBounds_toArray, List.set_cons_zero, List.set_cons_succ]
  refine heldTake 14 (some 59) (.int .i64 ((K : Int) + 1)) rfl rfl (by kernel_rfl) (by kernel_rfl) (by kernel_rfl) (fun _ _ _ h => h) (Or.inl ⟨by rfl, fun w hS => ?_⟩) True.intro ?_
  · (go_simp)
  simp only [Act.put, List.setIfInBounds_toArray, List.set_cons_zero, List.set_cons_succ]
  refine heldTake 15 (some 60) (.string (S.extract (K + 1) m)) rfl rfl (by kernel_rfl) (by kernel_rfl) (by kernel_rfl) (fun _ _ _ h => h) (Or.inl ⟨by rfl, fun w hS => ?_⟩) True.intro ?_
  · (go_simp)
  simp only [Act.put, List.setIfInBounds_toArray, List.set_cons_zero, List.set_cons_succ]
  refine heldOne 9 (by kernel_rfl) rfl (by rfl) (fun KK hK => ?_)
  go_simp
  refine hK.out _ _ True.intro ?_
  clear hK KK
  try simp only [Act.put, List.setIfInBounds_toArray, List.set_cons_zero, List.set_cons_succ]
  refine heldMono (S' := fun W => W.heap = (w2.alloc (.cells #[.int .u8 (u : Int)] 5)).heap) (fun _ _ => True.intro) _ _ _ _ ?_
  refine heldTake 10 (some 55) (.string (mk [UInt8.ofNat u])) rfl rfl (by kernel_rfl) (by kernel_rfl) (by kernel_rfl) (fun _ _ _ h => h) (Or.inl ⟨by rfl, fun w hS => ?_⟩) rfl ?_
  · (have hcv := conv_one w2 w u hu256 hS; go_simp)
  simp only [Act.put, List.setIfInBounds_toArray, List.set_cons_zero, List.set_cons_succ]
  refine heldTake 11 (some 56) (.string B0) rfl rfl (by kernel_rfl) (by kernel_rfl) (by kernel_rfl) (fun _ _ _ h => h) (Or.inl ⟨by rfl, fun w hS => ?_⟩) rfl ?_
  · (go_simp)
  simp only [Act.put, List.setIfInBounds_toArray, List.set_cons_zero, List.set_cons_succ]
  refine heldTake 16 (some 61) (.string B) rfl rfl (by kernel_rfl) (by kernel_rfl) (by kernel_rfl) (fun _ _ _ h => h) (Or.inl ⟨by rfl, fun w hS => ?_⟩) rfl ?_
  · (go_simp)
  simp only [Act.put, List.setIfInBounds_toArray, List.set_cons_zero, List.set_cons_succ]
  refine heldTake 17 (some 8) (.string B) rfl rfl (by kernel_rfl) (by kernel_rfl) (by kernel_rfl) (fun _ _ _ h => h) (Or.inl ⟨by rfl, fun w hS => ?_⟩) rfl ?_
  · (go_simp)
  simp only [Act.put, List.setIfInBounds_toArray, List.set_cons_zero, List.set_cons_succ]
  refine wpAnyH_done (by kernel_rfl) ?_ _
  have HW3 : Hid (Below w.heap.size w ((w2.alloc (.cells #[.int .u8 (u : Int)] 5)).drew)) := (HW2.out.alloc HW2.out.size _).drew
  generalize (w2.alloc (.cells #[.int .u8 (u : Int)] 5)).drew = w3 at *
  clear HW1 HW2 A1 A2 hxor wk hx hm
  generalize LA.length = la at *
  go_wp2_with fail
  refine (HB1.out w3).mono ?_
  rintro e w4 ⟨v4, rfl, hO, hB⟩
  have hN := hO.nums
  have HW4 := (show Hid _ from below_next HW3.out hB HW3.out.size)
  obtain ⟨a4, p4, rfl, f1, f2, hcell⟩ := hN.sl
  have HN4 := (show Hid _ from hN)
  have HV := (show Hid _ from hcell)
  clear hO hB hN hcell HB1 HW3
  obtain ⟨ll, hll⟩ : ∃ ll, L.length = ll := ⟨_, rfl⟩
  have HLI : Is L.length ll := ⟨hll⟩
  rw [hll] at f1 n2 HN4 HV HLL ⊢
  clear hll
  have hll9 : ll ≤ 64 := HLL.out
  go_wp2_with fail
  go_loopw [11, 67] (fun _ s67 wr => ∃ j : Nat, j ≤ ll ∧ s67 = .int .i64 (j : Int) ∧ wr = w4) (fun _ s67 _ => ll - (intOf s67).toNat)
  case atStart => exact ⟨0, by omega, rfl, rfl⟩
  case round =>
    obtain ⟨j, hj, rfl, hw⟩ := hrel
    subst hw
    by_cases hlt : j < ll
    · have i0 : (j : Int) < (ll : Int) := by omega
      have j0 : (0 : Int) ≤ (j : Int) := Int.natCast_nonneg _
      obtain ⟨g, off, rfl, hg, hcl⟩ := HV.out (by omega)
      obtain ⟨t, ht⟩ : ∃ t, L[j]? = some t := ⟨_, List.getElem?_eq_getElem (by rw [HLI.eq]; exact hlt)⟩
      have hld : wr.cell? ⟨g, off + j, none⟩ = some (.int .i64 (t : Int)) := hcl j t ht
      have hne : t ≠ K / 64 := HLN.out t (List.mem_of_getElem? ht)
      have hq : ((t : Int) == ((K / 64 : Nat) : Int)) = false := by rw [beq_eq_false_iff_ne]; omega
      have hw64 : wrap64 ((K / 64 : Nat) : Int) = ((K / 64 : Nat) : Int) := by unfold wrap64; omega
      clear ht hcl hne
      generalize (t : Int) = tz at *
      generalize ((K / 64 : Nat) : Int) = kz at *
      go_wp2
      go_roundw
      case rel => exact ⟨j + 1, by omega, by go_num, by trivial⟩
      case measure => (simp [intOf]) <;> omega
    · have i0 : ¬ (j : Int) < (ll : Int) := by omega
      go_wp2_with fail
      refine (HC.out wr).mono ?_
      rintro e wC ⟨rfl, hwC⟩
      rw [hwC]
      clear hwC wC
      go_wp2_with fail
      refine (HB2.out wr).mono ?_
      rintro e w5 ⟨v5, rfl, hO, hB⟩
      have HN5 := (show Hid _ from hO.nums)
      have HN6 := (show Hid _ from HN4.out.below hB)
      have HW5 := (show Hid _ from below_next HW4.out hB HW4.out.size)
      clear hO hB
      go_wp2_with fail
      refine (HSN.out w5 _ _ HN6.out HN5.out).mono ?_
      rintro e w6 ⟨rfl, hB⟩
      have HW6 := (show Hid _ from below_next HW5.out hB HW5.out.size)
      clear hB
      go_wp2_with fail
      refine (HX.out w6).mono ?_
      rintro e w7 ⟨rfl, hB⟩
      have HW7 := (show Hid _ from below_next HW6.out hB HW6.out.size)
      clear hB
      go_wp2
      go_ret
      exact ⟨rfl, HW7.out⟩
set_option maxHeartbeats 4000000 in
set_option maxRecDepth 20000 in
theorem alike_none (z : Int) (c : Nat) (w : World) :
    Calls Try.prog 7 #[.string ⟨#[]⟩, .int .i64 z, .int .u8 (c : Int)] w fun e w' => e = .returned (.bool true) ∧ Below w.heap.size w w' := by
  have HA := (show Hid _ from fun W => same_any ⟨#[]⟩ ⟨#[]⟩ W (by decide) (by decide))
  rw [show bl ⟨#[]⟩ = [] from rfl, Ck.same_none] at HA
  have HC := (show Hid _ from fun W => count_nat 0 W (by omega))
  rw [show cnt 0 = 0 from rfl] at HC
  have HX := (show Hid _ from fun W => works_any W)
  go_enter Try.func7, Try.ntmps7
  go_wp2_with fail
  refine (HA.out w).mono ?_
  rintro e w1 ⟨v1, rfl, hO, hB⟩
  obtain ⟨a1, p1, rfl⟩ := own_slice hO
  have HW1 := (show Hid _ from hB)
  clear hO hB
  go_wp2_with fail
  refine (HC.out w1).mono ?_
  rintro e wC ⟨rfl, hwC⟩
  rw [hwC]
  clear hwC wC
  go_wp2_with fail
  refine (HA.out w1).mono ?_
  rintro e w2 ⟨v2, rfl, hO, hB⟩
  obtain ⟨a2, p2, rfl⟩ := own_slice hO
  have HW2 := (show Hid _ from below_next HW1.out hB HW1.out.size)
  clear hO hB
  go_wp2_with fail
  refine (HX.out w2).mono ?_
  rintro e w7 ⟨rfl, hB⟩
  have HW7 := (show Hid _ from below_next HW2.out hB HW2.out.size)
  clear hB
  go_wp2
  go_ret
  exact ⟨rfl, HW7.out⟩
theorem alike_walk (s : ByteArray) (z cz : Int) (w : World) (hs : s.size ≤ 9223372036854775807) (hz : -9223372036854775808 ≤ z ∧ z ≤ 9223372036854775807) (hc : 0 ≤ cz ∧ cz < 256) :
    Calls Try.prog 7 #[.string s, .int .i64 z, .int .u8 cz] w fun e w' => e = .returned (.bool true) ∧ Below w.heap.size w w' := by
  obtain ⟨c, rfl⟩ : ∃ c : Nat, cz = (c : Int) := ⟨cz.toNat, by omega⟩
  obtain ⟨m, hm, hms, hm9⟩ : ∃ m : Nat, (if (4096 : Int) < (s.size : Int) then (4096 : Int) else (s.size : Int)) = (m : Int) ∧ m ≤ s.size ∧ m ≤ 4096 := by
    by_cases h : (4096 : Int) < (s.size : Int)
    · exact ⟨4096, by rw [if_pos h]; rfl, by omega, by omega⟩
    · exact ⟨s.size, by rw [if_neg h], by omega, by omega⟩
  have hS : (s.extract 0 m).size = m := by rw [ByteArray.size_extract]; omega
  by_cases h0 : m = 0
  · subst h0
    have h9 : s.size = 0 := by split at hm <;> omega
    rw [show s = ⟨#[]⟩ from bl_inj (List.eq_nil_of_length_eq_zero (by rw [bl_length]; exact h9))]
    exact alike_none z c w
  · exact alike_yes s _ m z c w hm hms hm9 rfl hS (by omega) hz.1 hz.2 (by omega)
end Go.Proofs.Ytefpaebbendnmaa
