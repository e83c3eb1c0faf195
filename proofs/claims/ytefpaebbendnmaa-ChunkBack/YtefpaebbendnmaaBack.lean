/- Proved: the law ChunkBack answers true, whatever comes in. -/
import Derived.Test.YtefpaebbendnmaaBackH
import Derived.Test.YtefpaebbendnmaaWrites
namespace Go.Proofs.Ytefpaebbendnmaa
open Go.RowKit
open Ck (T cnt bnd pc chunks Ok joinE joinT)
theorem OwnT_empty (W : World) : Hid (OwnT (W.alloc (.cells #[] 9)) W.heap.size (.slice (some ⟨W.heap.size, 0, none⟩) 0 0) []) := own_empty W _ (Nat.le_refl _)
theorem one_cell_at {W : World} {a : Addr} {v : Value} (h : W.cell? a = some v) (hb : a.block < W.heap.size) (o : Obj) : (W.alloc o).cell? a = some v := (((Below.refl _ W).alloc (Nat.le_refl _) o).cell hb).trans h
set_option maxHeartbeats 8000000 in
set_option maxRecDepth 20000 in
theorem back_yes (s S : ByteArray) (m : Nat) (z : Int) (w : World) (hm : (if (4096 : Int) < (s.size : Int) then (4096 : Int) else (s.size : Int)) = (m : Int)) (hms : m ≤ s.size) (hm9 : m ≤ 4096) (hx : s.extract 0 m = S) (hS : S.size = m) (_hz1 : -9223372036854775808 ≤ z) (_hz2 : z ≤ 9223372036854775807) :
    Calls Try.prog 5 #[.string s, .int .i64 z] w fun e w' => e = .returned (.bool true) ∧ Below w.heap.size w w' := by
  have hbl : (bl S).length = m := by rw [bl_length, hS]
  obtain ⟨L, hL⟩ : ∃ L, L = chunks (bl S) := ⟨_, rfl⟩
  obtain ⟨c, hc⟩ : ∃ c, cnt m = c := ⟨_, rfl⟩
  have HLc : Is L.length c := ⟨by rw [hL, Ck.chunks_length, hbl, hc]⟩
  have HLg : Hid (∀ k, k < c → L[k]? = some (pc (bl S) k)) := fun k hk => by rw [hL]; exact Ck.chunks_get _ (by rw [hbl, hc]; exact hk)
  have hc9 : c ≤ 64 := by unfold cnt at hc; omega
  have hcm : c = 0 ∨ 64 * (c - 1) < m := by unfold cnt at hc; omega
  have HSp := (show Hid _ from fun W => split_any S W (by omega))
  rw [← hL] at HSp
  have hok := Ck.chunks_ok (bl S)
  rw [hbl, ← hL] at hok
  have HJ : Hid (∀ W v, Txts W v L → Calls Try.prog 11 #[v, .int .i64 (m : Int)] W fun e w' => e = .returned (.tuple #[.string S, .int .i64 0]) ∧ Below W.heap.size W w') := fun W v h => by
    have H := join_any v L (m : Int) W h (by omega)
    rw [joinT_yes (joinE_yes hok hm9), joinE_yes hok hm9, hL, Ck.chunks_flat, mk_bl] at H
    exact H
  have HNO : Hid (∀ W v l, Txts W v l → ¬ Ok l m → Calls Try.prog 11 #[v, .int .i64 (m : Int)] W fun e w' => e = .returned (.tuple #[.string ⟨#[]⟩, .int .i64 5]) ∧ Below W.heap.size W w') := fun W v l h hn => by
    have H := join_any v l (m : Int) W h (by omega)
    have e := joinE_no hn hm9
    rw [joinT_no (by rw [e]; omega), e] at H
    exact H
  have HC : Hid (∀ W, Calls Try.prog 16 #[.int .i64 (m : Int)] W fun e w' => e = .returned (.int .i64 (c : Nat)) ∧ w' = W) := fun W => by
    have h := count_nat m W (by omega)
    rwa [hc] at h
  have HB : Hid (∀ W (j : Nat), j < c → Calls Try.prog 9 #[.int .i64 (m : Int), .int .i64 (j : Int)] W fun e w' => e = .returned (.tuple #[.int .i64 ((64 * j : Nat) : Int), .int .i64 ((64 * j + min 64 (m - 64 * j) : Nat) : Int)]) ∧ w' = W) := fun W j hj => by
    have h := bounds_any m j W (by omega) (by omega) (by omega)
    rwa [bnd_in hm9 (by rw [hc]; exact hj)] at h
  have HPX : Hid (∀ j, j < c → S.extract (64 * j) (64 * j + min 64 (m - 64 * j)) = mk (pc (bl S) j)) := fun j hj => by
    have := pc_ext S j (by rw [hS]; unfold cnt at hc; omega)
    rwa [hS] at this
  have HPN : Hid (∀ j, j < c → 0 < (pc (bl S) j).length) := fun j hj => chunks_pos (by rw [hbl, hc]; exact hj)
  have HN1 : Hid (∀ k, k < c → ¬ Ok (L.set k ((pc (bl S) k).drop 1)) m) := fun k hk => by
    have := short_no (s := bl S) (k := k) (by rw [hbl, hc]; exact hk)
    rwa [hbl, ← hL] at this
  have HN2 : Hid (∀ x, ¬ Ok (L ++ [x]) m) := fun x => by
    have := more_no (s := bl S) (x := x)
    rwa [hbl, ← hL] at this
  have HN3 : Hid (0 < c → ¬ Ok (L.drop 1) m) := fun h => by
    have := less_no (s := bl S) (by rw [hbl, hc]; exact h)
    rwa [hbl, ← hL] at this
  have HX := (show Hid _ from fun W => works_any W)
  have n1 : ((c : Int) != (c : Int)) = false := by simp
  have q1 := sne2 S
  clear hok hc hL
  go_enter Try.func5, Try.ntmps5
  go_wp2_with fail
  refine (HSp.out w).mono ?_
  rintro e w1 ⟨v1, rfl, hO, hB⟩
  have HO1 := (show Hid _ from hO)
  have HB1 := (show Hid _ from hB)
  have hT := hO.txts
  obtain ⟨ad, cap, rfl, hcl, hcp, hcell⟩ := hT.sl
  clear hO hB hcell HSp
  have HT1 := (show Hid _ from hT)
  clear hT
  rw [HLc.eq] at hcl HT1 ⊢
  go_wp2_with fail
  refine (HJ.out w1 _ HT1.out).mono ?_
  rintro e w2 ⟨rfl, hB⟩
  have HB2 := (show Hid _ from below_next HB1.out hB HB1.out.size)
  have HT2 := (show Hid _ from HT1.out.below hB)
  have HO2 := (show Hid _ from own_below HO1.out hB)
  clear hB HT1 HO1 HB1
  go_wp2_with fail
  refine (HC.out w2).mono ?_
  rintro e wC ⟨rfl, hwC⟩
  rw [hwC]
  clear hwC wC
  go_wp2_with fail
  go_loopw [8, 9, 10, 11, 51] (fun _ _ _ _ s51 wr => ∃ j : Nat, j ≤ c ∧ s51 = .int .i64 (j : Int) ∧ wr = w2) (fun _ _ _ _ s51 _ => c - (intOf s51).toNat)
  case atStart => exact ⟨0, by omega, rfl, rfl⟩
  case round =>
    obtain ⟨j, hj, rfl, hw⟩ := hrel
    subst hw
    by_cases hlt : j < c
    · have i0 : (j : Int) < (c : Int) := by omega
      have j0 : (0 : Int) ≤ (j : Int) := Int.natCast_nonneg _
      obtain ⟨ad2, cap2, hv2, _, _, hc2⟩ := HT2.out.sl
      obtain ⟨rfl, hcc, rfl⟩ : ad = ad2 ∧ c = L.length ∧ cap = cap2 := by simpa using hv2
      obtain ⟨g, off, rfl, hg, hcl2⟩ := hc2 (by rw [HLc.eq]; omega)
      have hld : wr.cell? ⟨g, off + j, none⟩ = some (.string (mk (pc (bl S) j))) := hcl2 j _ (HLg.out j hlt)
      have HBJ := (show Hid _ from HB.out wr j hlt)
      have hpx := HPX.out j hlt
      have hpn := HPN.out j hlt
      have he2 : (mk (pc (bl S) j)).toList.isEmpty = false := by
        rw [empty_mk]
        cases hp : pc (bl S) j with
        | nil => rw [hp] at hpn; exact absurd hpn (by simp)
        | cons a b => rfl
      have he1 : ((mk (pc (bl S) j)).toList == (⟨#[]⟩ : ByteArray).toList) = false := by
        rw [show (⟨#[]⟩ : ByteArray) = mk [] from rfl, eq_mk]
        cases hp : pc (bl S) j with
        | nil => rw [hp] at hpn; exact absurd hpn (by simp)
        | cons a b => rfl
      have hq := sne2 (mk (pc (bl S) j))
      have l1 : (0 : Int) ≤ ((64 * j : Nat) : Int) := by omega
      have l2 : ((64 * j : Nat) : Int) ≤ ((64 * j + min 64 (m - 64 * j) : Nat) : Int) := by omega
      have l3 : ((64 * j + min 64 (m - 64 * j) : Nat) : Int) ≤ (m : Int) := by omega
      clear hv2 hc2 hcl2 hpn hcc
      generalize mk (pc (bl S) j) = P at *
      generalize 64 * j + min 64 (m - 64 * j) = hi at *
      generalize 64 * j = lo at *
      go_wp2_with fail
      refine (show Calls _ _ _ _ _ from HBJ.out).mono ?_
      rintro e wC ⟨rfl, hwC⟩
      rw [hwC]
      clear hwC wC
      have HFN : ∃ j' : Nat, j' ≤ c ∧ Value.int .i64 ((j : Int) + 1) = .int .i64 (j' : Int) ∧ wr = wr := ⟨j + 1, by omega, by go_num, rfl⟩
      go_wp2
      go_roundw
      case rel => first | exact HFN | ((repeat apply Exists.intro); exact ⟨HFN, rfl⟩)
      case measure => (simp [intOf]) <;> omega
    · have i0 : ¬ (j : Int) < (c : Int) := by omega
      by_cases hc0 : c = 0
      · have hc00 : ((c : Int) == 0) = true := by rw [hc0]; rfl
        go_wp2_with fail
        refine (HX.out wr).mono ?_
        rintro e w9 ⟨rfl, hB⟩
        have HB9 := (show Hid _ from below_next HB2.out hB HB2.out.size)
        clear hB
        go_wp2
        go_ret
        exact ⟨rfl, HB9.out⟩
      · have hcn : ((c : Int) == 0) = false := by rw [beq_eq_false_iff_ne]; omega
        have hcz : ¬ c = 0 := hc0
        obtain ⟨r, hr⟩ : ∃ r, z.tmod (c : Int) = r := ⟨_, rfl⟩
        have hr1 : -64 ≤ r ∧ r < 64 ∧ -(c : Int) < r ∧ r < (c : Int) := by
          have a := Int.tmod_lt_of_pos z (show (0 : Int) < (c : Int) by omega)
          have b := Int.neg_tmod z (c : Int)
          have d := Int.tmod_lt_of_pos (-z) (show (0 : Int) < (c : Int) by omega)
          omega
        obtain ⟨r1, r2, r3, r4⟩ := hr1
        obtain ⟨K, hK⟩ : ∃ K : Nat, (r + (c : Int)).tmod (c : Int) = (K : Int) := by
          have a := Int.tmod_nonneg (c : Int) (show 0 ≤ r + (c : Int) by omega)
          exact ⟨((r + (c : Int)).tmod (c : Int)).toNat, by omega⟩
        have hKc : K < c := by
          have a := Int.tmod_lt_of_pos (r + (c : Int)) (show (0 : Int) < (c : Int) by omega)
          omega
        obtain ⟨g, cap', hv, hgN, hgl, _, hcl2, _, _⟩ := (OwnT.shape HO2.out (by rw [HLc.eq]; omega)).ex
        obtain ⟨rfl, rfl⟩ : ad = some ⟨g, 0, none⟩ ∧ cap = cap' := by simpa using hv
        clear hv HO2
        have HCE : Hid (∀ i r, L[i]? = some r → wr.cell? ⟨g, i, none⟩ = some (tv r)) := hcl2
        have hge := OwnT_empty wr
        clear hcl2
        go_wp2_with (first
          | (at_builtin
             refine app_strs rfl (.tmp 88) (.tmp 89) rfl (wr.alloc (.cells #[] 9)) wr.heap.size _ [] L rfl hge.out ⟨g, 0, none⟩ c cap rfl HLc.eq (fun j t ht => by
               rw [Addr.add_mid, Nat.zero_add]
               exact one_cell_at (HCE.out j t ht) hgl _) (by rw [HLc.eq]; show 0 + c ≤ _; omega) (by simp) ?_
             intro v5 w5 hO5 hB5
             rw [List.nil_append] at hO5
             obtain ⟨g5, cap5, hv5, hg5N, hg5l, _, hcl5, hfz5, hset5⟩ := (OwnT.shape hO5 (by rw [HLc.eq]; omega)).ex
             subst hv5
             have D5 : w5.cell? ⟨g5, K, none⟩ = some (.string (mk (pc (bl S) K))) := hcl5 K _ (HLg.out K hKc)
             have F5 := hfz5 K
             have hY := drop_ext (pc (bl S) K)
             have hXs : (1 : Int) ≤ ((mk (pc (bl S) K)).size : Int) := by
               have := HPN.out K hKc
               rw [mk_size]; omega
             have hXs2 : (((mk (pc (bl S) K)).size : Nat) : Int) ≤ (((mk (pc (bl S) K)).size : Nat) : Int) := Int.le_refl _
             have HN1K := (show Hid _ from HN1.out K hKc)
             have hset6 : OwnT (w5.setCell ⟨g5, K, none⟩ (.string (mk ((pc (bl S) K).drop 1)))) wr.heap.size (.slice (some ⟨g5, 0, none⟩) L.length cap5) (L.set K ((pc (bl S) K).drop 1)) := hset5 K _
             have HS6 := (show Hid _ from hset6.txts)
             have HB6 : Hid (Below wr.heap.size wr (w5.setCell ⟨g5, K, none⟩ (.string (mk ((pc (bl S) K).drop 1))))) := below_set (((Below.refl _ wr).alloc (Nat.le_refl _) _).trans hB5) _ _ _ hg5N
             clear hcl5 hfz5 hset5 hset6 hO5 hB5
             generalize L.set K ((pc (bl S) K).drop 1) = L6 at *
             generalize mk ((pc (bl S) K).drop 1) = Y at *
             generalize mk (pc (bl S) K) = X at *
             rw [HLc.eq] at HS6 ⊢
             have kc : (K : Int) < (c : Int) := by omega
             have k0 : (0 : Int) ≤ (K : Int) := by omega))
        generalize w5.setCell ⟨g5, K, none⟩ (.string Y) = w6 at *
        refine (HNO.out w6 _ _ HS6.out HN1K.out).mono ?_
        rintro e w7 ⟨rfl, hB⟩
        have HB7 := (show Hid _ from below_next HB6.out hB HB6.out.size)
        have hz7 := HB7.out.size
        clear hB HS6 HB6 HN1K D5 F5 HN1
        have HCE7 : Hid (∀ i r, L[i]? = some r → w7.cell? ⟨g, i, none⟩ = some (tv r)) := fun i r h => (HB7.out.cell (p := ⟨g, i, none⟩) (by exact hgl)).trans (HCE.out i r h)
        have hge7 := OwnT_empty w7
        go_wp2_with (first
          | (at_builtin
             refine app_strs rfl (.tmp 107) (.tmp 108) rfl (w7.alloc (.cells #[] 9)) w7.heap.size _ [] L rfl hge7.out ⟨g, 0, none⟩ c cap rfl HLc.eq (fun j t ht => by
               rw [Addr.add_mid, Nat.zero_add]
               exact one_cell_at (HCE7.out j t ht) (Nat.lt_of_lt_of_le (by exact hgl) hz7) _) (by rw [HLc.eq]; show 0 + c ≤ _; omega) (by simp) ?_
             intro v8 w8 hO8 hB8
             rw [List.nil_append] at hO8
             have HO8 : Hid (OwnT (w8.alloc (.cells #[tv [120]] 9)) w7.heap.size v8 L) := own_alloc hO8 _
             have HB8 : Hid (Below w7.heap.size w7 w8) := ((Below.refl _ w7).alloc (Nat.le_refl _) _).trans hB8
             clear hO8 hB8)
          | (at_builtin
             refine app_strs rfl (.tmp 109) (.tmp 110) rfl (w8.alloc (.cells #[tv [120]] 9)) w7.heap.size v8 L [[120]] rfl HO8.out ⟨w8.heap.size, 0, none⟩ 1 1 rfl rfl (fun j t ht => one_new w8 (tv [120]) 9 j (tv t) (by rw [show [tv [120]] = [([120] : T)].map tv from rfl, List.getElem?_map, ht]; rfl)) (by rw [HLc.eq]; show c + 1 ≤ _; omega) (by have := HB8.out.size; simp; omega) ?_
             intro v9 w9 hO9 hB9
             have HT9 := (show Hid _ from hO9.txts)
             have HB9 : Hid (Below w7.heap.size w7 w9) := (HB8.out.alloc HB8.out.size _).trans hB9
             obtain ⟨ad9, cap9, hv9⟩ := own_slice hO9
             subst hv9
             clear hO9 hB9
             rw [show (L ++ [([120] : T)]).length = L.length + 1 by simp] at HT9))
        refine (HNO.out w9 _ _ HT9.out (HN2.out _)).mono ?_
        rintro e w10 ⟨rfl, hB⟩
        have HB10 : Hid (Below w.heap.size w w10) := below_next (below_next (below_next HB2.out HB7.out HB2.out.size) HB9.out (by have := HB2.out.size; omega)) hB (by have := HB2.out.size; have := HB9.out.size; omega)
        have HT10 := (show Hid _ from ((HT2.out.below HB7.out).below HB9.out).below hB)
        clear hB HT9 HB9 HB7 HCE HCE7 hge hge7 HN2
        have c0 : (0 : Int) ≤ (c : Int) := by omega
        have c1 : (1 : Int) ≤ (c : Int) := by omega
        have c2 : (c : Int) ≤ (cap : Int) := by omega
        by_cases hcap : cap = 1
        · have HT11 := (show Hid _ from HT10.out.tail ⟨g, 0, none⟩ (fun h => by rw [HLc.eq] at h; omega) (by rw [HLc.eq]; omega))
          subst hcap
          have HT12 : Hid (Txts w10 (.slice (some ⟨g, 0, none⟩) 0 0) (L.drop 1)) := by
            have h := HT11.out
            rwa [show c - 1 = 0 by omega] at h
          have hN3 := (show Hid _ from HN3.out (by omega))
          go_wp2_with fail
          refine (HNO.out w10 _ _ HT12.out hN3.out).mono ?_
          rintro e w11 ⟨rfl, hB⟩
          have HB11 := (show Hid _ from below_next HB10.out hB HB10.out.size)
          clear hB HT11 HT12 HT10 hN3
          go_wp2_with fail
          refine (HX.out w11).mono ?_
          rintro e w12 ⟨rfl, hB⟩
          have HB12 := (show Hid _ from below_next HB11.out hB HB11.out.size)
          clear hB
          go_wp2
          go_ret
          exact ⟨rfl, HB12.out⟩
        · have HT11 := (show Hid _ from HT10.out.tail ⟨g, 0 + 1, none⟩ (fun _ => rfl) (by rw [HLc.eq]; omega))
          have HT12 : Hid (Txts w10 (.slice (some ⟨g, 1, none⟩) (c - 1) (cap - 1)) (L.drop 1)) := HT11.out
          have hN3 := (show Hid _ from HN3.out (by omega))
          go_wp2_with fail
          refine (HNO.out w10 _ _ HT12.out hN3.out).mono ?_
          rintro e w11 ⟨rfl, hB⟩
          have HB11 := (show Hid _ from below_next HB10.out hB HB10.out.size)
          clear hB HT11 HT12 HT10 hN3
          go_wp2_with fail
          refine (HX.out w11).mono ?_
          rintro e w12 ⟨rfl, hB⟩
          have HB12 := (show Hid _ from below_next HB11.out hB HB11.out.size)
          clear hB
          go_wp2
          go_ret
          exact ⟨rfl, HB12.out⟩
theorem back_walk (s : ByteArray) (z : Int) (w : World) (_hs : s.size ≤ 9223372036854775807) (hz : -9223372036854775808 ≤ z ∧ z ≤ 9223372036854775807) :
    Calls Try.prog 5 #[.string s, .int .i64 z] w fun e w' => e = .returned (.bool true) ∧ Below w.heap.size w w' := by
  obtain ⟨m, hm, hms, hm9⟩ : ∃ m : Nat, (if (4096 : Int) < (s.size : Int) then (4096 : Int) else (s.size : Int)) = (m : Int) ∧ m ≤ s.size ∧ m ≤ 4096 := by
    by_cases h : (4096 : Int) < (s.size : Int)
    · exact ⟨4096, by rw [if_pos h]; rfl, by omega, by omega⟩
    · exact ⟨s.size, by rw [if_neg h], by omega, by omega⟩
  exact back_yes s _ m z w hm hms hm9 rfl (by rw [ByteArray.size_extract]; omega) hz.1 hz.2
end Go.Proofs.Ytefpaebbendnmaa
