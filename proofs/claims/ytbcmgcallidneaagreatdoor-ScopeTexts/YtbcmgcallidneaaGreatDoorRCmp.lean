/- Proved: the document's Below and Compare answer as the program's. -/
import Derived.Test.YtbcmgcallidneaaGreatDoorRJoin
import Derived.Test.YtbcmgcallidneaaGreatDoorMathR
namespace Go.Proofs.YtbcmgcallidneaaGreatDoor
open Go.RowKit
theorem mk_list (l : Pm.T) : (mk l).toList = l := by rw [ByteArray.toList_eq]; rfl
theorem rsplit_slice (s : ByteArray) (w : World) (hs : s.size ≤ 30000) :
    Calls Tryz.prog 92 #[.string s] w fun e w' => ∃ ad c, e = .returned (.slice ad (Pm.split (bl s)).length c) ∧ (0 < (Pm.split (bl s)).length → ∃ g, ad = some ⟨g, 0, none⟩ ∧ g < w'.heap.size ∧ TextsAt w' g 0 (Pm.split (bl s))) ∧ Below w.heap.size w w' := by
  refine (rsplit_any s w hs).mono fun e w' ⟨v, he, ho, hb⟩ => ?_
  obtain ⟨ad, c, hv, ht⟩ := own_slice ho
  exact ⟨ad, c, by rw [he, hv], ht, hb⟩
set_option maxHeartbeats 2000000 in
set_option maxRecDepth 20000 in
theorem rcompare_any (a b : ByteArray) (w : World) (ha : a.size ≤ 4000) (hb : b.size ≤ 4000) :
    Calls Tryz.prog 42 #[.string a, .string b] w fun e w' => e = .returned (.int .i64 (Pm.cmp (bl a) (bl b))) ∧ Below w.heap.size w w' := by
  have CA : Hid (∀ k, k < (Pm.names (bl a)).length → k < (Pm.names (bl b)).length → (∀ j, j < k → (Pm.names (bl a)).getD j [] = (Pm.names (bl b)).getD j []) → Op.bytesLess ((Pm.names (bl a)).getD k []) ((Pm.names (bl b)).getD k []) = true → Pm.cmp (bl a) (bl b) = -1) := fun k => cmp_at
  have CP : Hid (∀ k, k < (Pm.names (bl a)).length → k < (Pm.names (bl b)).length → (∀ j, j < k → (Pm.names (bl a)).getD j [] = (Pm.names (bl b)).getD j []) → Op.bytesLess ((Pm.names (bl a)).getD k []) ((Pm.names (bl b)).getD k []) = false → (Pm.names (bl a)).getD k [] ≠ (Pm.names (bl b)).getD k [] → Pm.cmp (bl a) (bl b) = 1) := fun k => cmp_past
  have CS : Hid ((Pm.names (bl a)).length < (Pm.names (bl b)).length → (∀ j, j < (Pm.names (bl a)).length → (Pm.names (bl a)).getD j [] = (Pm.names (bl b)).getD j []) → Pm.cmp (bl a) (bl b) = -1) := cmp_shorter
  have CL : Hid ((Pm.names (bl b)).length < (Pm.names (bl a)).length → (∀ j, j < (Pm.names (bl b)).length → (Pm.names (bl a)).getD j [] = (Pm.names (bl b)).getD j []) → Pm.cmp (bl a) (bl b) = 1) := fun h1 h2 => by
    rw [cmp_anti, cmp_shorter h1 fun j hj => (h2 j hj).symm]; rfl
  have CE : Hid ((Pm.names (bl a)).length = (Pm.names (bl b)).length → (∀ j, j < (Pm.names (bl a)).length → (Pm.names (bl a)).getD j [] = (Pm.names (bl b)).getD j []) → Pm.cmp (bl a) (bl b) = 0) := cmp_alike
  have NA := (show Hid (∀ W : World, Calls Tryz.prog 59 #[.string a] W fun e w' => ∃ g cap, e = .returned (.slice (some ⟨g, 0, none⟩) (Pm.names (bl a)).length cap) ∧ W.heap.size ≤ g ∧ g < w'.heap.size ∧ (Pm.names (bl a)).length ≤ cap ∧ cap ≤ 9223372036854775807 ∧ TextsAt w' g 0 (Pm.names (bl a)) ∧ Below W.heap.size W w') from fun W => rnames_row a W (by omega))
  have NB := (show Hid (∀ W : World, Calls Tryz.prog 59 #[.string b] W fun e w' => ∃ g cap, e = .returned (.slice (some ⟨g, 0, none⟩) (Pm.names (bl b)).length cap) ∧ W.heap.size ≤ g ∧ g < w'.heap.size ∧ (Pm.names (bl b)).length ≤ cap ∧ cap ≤ 9223372036854775807 ∧ TextsAt w' g 0 (Pm.names (bl b)) ∧ Below W.heap.size W w') from fun W => rnames_row b W (by omega))
  have hla := names_size a
  have hlb := names_size b
  generalize Pm.cmp (bl a) (bl b) = R at *
  generalize Pm.names (bl a) = X at *
  generalize Pm.names (bl b) = Y at *
  go_enter Tryz.func42, Tryz.ntmps42
  go_wp2_with fail
  refine (NA.out _).mono ?_
  rintro e w1 ⟨g1, c1, rfl, hg0, hg1, _, _, t1, hB1⟩
  have HB1 : Hid (Below w.heap.size w w1) := hB1
  have hz1 := hB1.size
  have T1 : Hid (TextsAt w1 g1 0 X) := t1
  clear t1 hB1 hg0
  go_wp2_with fail
  refine (NB.out _).mono ?_
  rintro e w2 ⟨g2, c2, rfl, hg2, hg3, _, _, t2, hB2⟩
  have HB2 : Hid (Below w.heap.size w w2) := HB1.out.trans (hB2.mono hz1)
  have T2 : Hid (TextsAt w2 g2 0 Y) := t2
  have T1' : Hid (TextsAt w2 g1 0 X) := T1.out.below hB2 hg1
  clear t2 hB2 hg1 hg2 hg3 T1 HB1 NA NB hz1
  obtain ⟨lx, hlx⟩ : ∃ lx, X.length = lx := ⟨_, rfl⟩
  obtain ⟨ly, hly⟩ : ∃ ly, Y.length = ly := ⟨_, rfl⟩
  have HX : Is X.length lx := ⟨hlx⟩
  have HY : Is Y.length ly := ⟨hly⟩
  rw [hlx] at hla
  rw [hly] at hlb
  rw [hlx, hly]
  clear hlx hly
  go_wp2_with fail
  go_loopw [7] (fun i wr => ∃ k : Nat, k ≤ lx ∧ k ≤ ly ∧ i = .int .i64 k ∧ (∀ j, j < k → X.getD j [] = Y.getD j []) ∧ Below w2.heap.size w2 wr) (fun i _ => lx - (intOf i).toNat)
  case atStart => exact ⟨0, by omega, by omega, rfl, fun j hj => by omega, Below.refl _ _⟩
  case round =>
    obtain ⟨k, hkx, hky, rfl, hd, hB⟩ := hrel
    have HD : Hid (∀ j, j < k → X.getD j [] = Y.getD j []) := hd
    have HBr : Hid (Below w2.heap.size w2 wr) := hB
    have T1r : Hid (TextsAt wr g1 0 X) := fun j x hj => (hB.cell (p := ⟨g1, 0 + j, none⟩) (block_lt_of_cell (T1'.out j x hj))).trans (T1'.out j x hj)
    have T2r : Hid (TextsAt wr g2 0 Y) := fun j x hj => (hB.cell (p := ⟨g2, 0 + j, none⟩) (block_lt_of_cell (T2.out j x hj))).trans (T2.out j x hj)
    have HBz : Hid (∀ W : World, Below wr.heap.size wr W → Below w.heap.size w W) := fun W hW => HB2.out.trans ((hB.trans (hW.mono hB.size)).mono HB2.out.size)
    have hszr := hB.size
    clear hd hB
    by_cases hx : k < lx
    · have i0 : (k : Int) < (lx : Int) := by omega
      have j0 : (0 : Int) ≤ (k : Int) := Int.natCast_nonneg _
      by_cases hy : k < ly
      · have i1 : (k : Int) < (ly : Int) := by omega
        have c0 := T1r.out k _ (getD_some (by rw [HX.eq]; exact hx))
        have c1 := T2r.out k _ (getD_some (by rw [HY.eq]; exact hy))
        rw [Nat.zero_add] at c0 c1
        have FA := (show Hid _ from CA.out k (by rw [HX.eq]; exact hx) (by rw [HY.eq]; exact hy) HD.out)
        have FP := (show Hid _ from CP.out k (by rw [HX.eq]; exact hx) (by rw [HY.eq]; exact hy) HD.out)
        have HS : Hid (X.getD k [] = Y.getD k [] → ∀ j, j < k + 1 → X.getD j [] = Y.getD j []) := fun he j hj => by
          by_cases h : j = k
          · subst h; exact he
          · exact HD.out j (by omega)
        obtain ⟨x, hxe⟩ : ∃ x, X.getD k [] = x := ⟨_, rfl⟩
        obtain ⟨y, hye⟩ : ∃ y, Y.getD k [] = y := ⟨_, rfl⟩
        rw [hxe] at c0 FA FP HS
        rw [hye] at c1 FA FP HS
        clear hxe hye CA CP CS CL CE HD T1r T2r
        by_cases hl : Op.bytesLess x y = true
        · have L1 : Op.bytesLess (mk x).toList (mk y).toList = true := by rw [mk_list, mk_list]; exact hl
          have HR : Is R (-1) := ⟨FA.out hl⟩
          clear FA FP HS hl
          generalize mk x = sx at *
          generalize mk y = sy at *
          go_wp2_with fail
          go_region
          go_wp2_with fail
          go_ret
          exact ⟨by rw [HR.eq]; rfl, HBz.out _ (Below.refl _ _).drew⟩
        · have hl' : Op.bytesLess x y = false := by simpa using hl
          have L1 : Op.bytesLess (mk x).toList (mk y).toList = false := by rw [mk_list, mk_list]; exact hl'
          by_cases he : x = y
          · subst he
            have E1 : ((mk x).toList == (mk x).toList) = true := by simp
            have HS' : Hid (∀ j, j < k + 1 → X.getD j [] = Y.getD j []) := HS.out rfl
            clear FA FP HS hl hl'
            generalize mk x = sx at *
            go_wp2_with fail
            go_region
            go_wp2_with fail
            go_region
            go_wp2_with fail
            go_roundw
            case rel => exact ⟨k + 1, by omega, by omega, by go_num, HS'.out, HBr.out.trans (((Below.refl _ _).drew.drew).mono hszr)⟩
            case measure => (simp [intOf]) <;> omega
          · have E1 : ((mk x).toList == (mk y).toList) = false := by rw [mk_list, mk_list, beq_eq_false_iff_ne]; exact he
            have HR : Is R 1 := ⟨FP.out hl' he⟩
            clear FA FP HS hl hl' he
            generalize mk x = sx at *
            generalize mk y = sy at *
            go_wp2_with fail
            go_region
            go_wp2_with fail
            go_region
            go_wp2_with fail
            go_ret
            exact ⟨by rw [HR.eq]; rfl, HBz.out _ (Below.refl _ _).drew.drew⟩
      · obtain rfl : k = ly := by omega
        have i1 : ¬ (k : Int) < (k : Int) := by omega
        have i2 : ¬ (lx : Int) < (k : Int) := by omega
        have HR : Is R 1 := ⟨CL.out (by rw [HX.eq, HY.eq]; exact hx) (by rw [HY.eq]; exact HD.out)⟩
        clear CA CP CS CL CE HD T1r T2r
        go_wp2_with fail
        go_ret
        exact ⟨by rw [HR.eq]; rfl, HBz.out _ (Below.refl _ _)⟩
    · obtain rfl : k = lx := by omega
      have i0 : ¬ (k : Int) < (k : Int) := by omega
      by_cases hy : k < ly
      · have i1 : (k : Int) < (ly : Int) := by omega
        have HR : Is R (-1) := ⟨CS.out (by rw [HX.eq, HY.eq]; exact hy) (by rw [HX.eq]; exact HD.out)⟩
        clear CA CP CS CL CE HD T1r T2r
        go_wp2_with fail
        go_ret
        exact ⟨by rw [HR.eq]; rfl, HBz.out _ (Below.refl _ _)⟩
      · obtain rfl : k = ly := by omega
        have HR : Is R 0 := ⟨CE.out (by rw [HX.eq, HY.eq]) (by rw [HX.eq]; exact HD.out)⟩
        clear CA CP CS CL CE HD T1r T2r
        go_wp2_with fail
        go_ret
        exact ⟨by rw [HR.eq]; rfl, HBz.out _ (Below.refl _ _)⟩
end Go.Proofs.YtbcmgcallidneaaGreatDoor
