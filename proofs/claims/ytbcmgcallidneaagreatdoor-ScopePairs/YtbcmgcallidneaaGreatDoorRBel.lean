/- Proved: the document's Below answers as the program's. -/
import Derived.Test.YtbcmgcallidneaaGreatDoorRCmp
namespace Go.Proofs.YtbcmgcallidneaaGreatDoor
open Go.RowKit
set_option maxHeartbeats 2000000 in
set_option maxRecDepth 20000 in
theorem rbelow_any (d p : ByteArray) (w : World) (hd : d.size ≤ 4000) (hp : p.size ≤ 4000) :
    Calls Tryz.prog 63 #[.string d, .string p] w fun e w' => e = .returned (.bool (Pm.below (bl d) (bl p))) ∧ Below w.heap.size w w' := by
  have KD : Hid (∀ W : World, Calls Tryz.prog 41 #[.string d] W fun e w' => e = .returned (.tuple #[.int .i64 ((Pm.kind (bl d)).1 : Nat), .int .i64 ((Pm.kind (bl d)).2 : Nat)]) ∧ Below W.heap.size W w') := fun W => rkind_any d W (by omega)
  have IP : Hid (∀ W : World, Calls Tryz.prog 62 #[.string p] W fun e w' => e = .returned (.bool (Pm.isP (bl p))) ∧ Below W.heap.size W w') := fun W => ris_any p W (by omega)
  have HB0 : Hid (Below w.heap.size w w) := Below.refl _ _
  have hz0 : w.heap.size ≤ w.heap.size := Nat.le_refl _
  go_enter Tryz.func63, Tryz.ntmps63
  by_cases h0 : (Pm.kind (bl d)).2 = 0
  · by_cases h1 : (Pm.kind (bl d)).1 = 1
    · have HID : Hid (Pm.isP (bl d) = true) := by show (_ == 0) = true; rw [h0]; rfl
      rw [h0, h1] at KD
      cases hpp : Pm.isP (bl p) with
      | false =>
        have HR : Is (Pm.below (bl d) (bl p)) false := ⟨below_no fun _ h _ _ _ => by rw [hpp] at h; cases h⟩
        rw [hpp] at IP
        clear h0 h1 hpp
        go_wp2_with fail
        refine (KD.out _).mono ?_
        rintro e w1 ⟨rfl, hB1⟩
        have HB1 : Hid (Below w.heap.size w w1) := HB0.out.trans (hB1.mono hz0)
        have hz1 := HB1.out.size
        clear hB1
        go_wp2_with fail
        refine (IP.out _).mono ?_
        rintro e w2 ⟨rfl, hB2⟩
        have HB2 : Hid (Below w.heap.size w w2) := HB1.out.trans (hB2.mono hz1)
        have hz2 := HB2.out.size
        clear hB2
        go_wp2_with fail
        go_ret
        exact ⟨by rw [HR.eq]; rfl, HB2.out⟩
      | true =>
        have BL : Hid ((Pm.split (bl p)).length ≤ (Pm.split (bl d)).length → Pm.below (bl d) (bl p) = false) := below_no_len
        have BA : Hid (∀ k, k < (Pm.split (bl d)).length → (Pm.split (bl d)).getD k [] ≠ (Pm.split (bl p)).getD k [] → Pm.below (bl d) (bl p) = false) := fun k => below_no_at
        have BY : Hid ((Pm.split (bl d)).length < (Pm.split (bl p)).length → (∀ j, j < (Pm.split (bl d)).length → (Pm.split (bl d)).getD j [] = (Pm.split (bl p)).getD j []) → Pm.below (bl d) (bl p) = true) := below_yes HID.out hpp
        have SD := (show Hid (∀ W : World, Calls Tryz.prog 92 #[.string d] W fun e w' => ∃ ad c, e = .returned (.slice ad (Pm.split (bl d)).length c) ∧ (0 < (Pm.split (bl d)).length → ∃ g, ad = some ⟨g, 0, none⟩ ∧ g < w'.heap.size ∧ TextsAt w' g 0 (Pm.split (bl d))) ∧ Below W.heap.size W w') from fun W => rsplit_slice d W (by omega))
        have SP := (show Hid (∀ W : World, Calls Tryz.prog 92 #[.string p] W fun e w' => ∃ ad c, e = .returned (.slice ad (Pm.split (bl p)).length c) ∧ (0 < (Pm.split (bl p)).length → ∃ g, ad = some ⟨g, 0, none⟩ ∧ g < w'.heap.size ∧ TextsAt w' g 0 (Pm.split (bl p))) ∧ Below W.heap.size W w') from fun W => rsplit_slice p W (by omega))
        have hld : (Pm.split (bl d)).length ≤ 4001 := by
          have := names_size d
          unfold Pm.split; split
          · simp
          · omega
        have hlp : (Pm.split (bl p)).length ≤ 4001 := by
          have := names_size p
          unfold Pm.split; split
          · simp
          · omega
        rw [hpp] at IP
        clear h0 h1 hpp HID
        generalize Pm.below (bl d) (bl p) = R at *
        generalize Pm.split (bl d) = X at *
        generalize Pm.split (bl p) = Y at *
        go_wp2_with fail
        refine (KD.out _).mono ?_
        rintro e w1 ⟨rfl, hB1⟩
        have HB1 : Hid (Below w.heap.size w w1) := HB0.out.trans (hB1.mono hz0)
        have hz1 := HB1.out.size
        clear hB1
        go_wp2_with fail
        refine (IP.out _).mono ?_
        rintro e w2 ⟨rfl, hB2⟩
        have HB2 : Hid (Below w.heap.size w w2) := HB1.out.trans (hB2.mono hz1)
        have hz2 := HB2.out.size
        clear hB2
        go_wp2_with fail
        refine (SD.out _).mono ?_
        rintro e w3 ⟨ad1, c1, rfl, t1, hB3⟩
        have HB3 : Hid (Below w.heap.size w w3) := HB2.out.trans (hB3.mono hz2)
        have T1 := (show Hid _ from t1)
        have hz3 := HB3.out.size
        clear t1 hB3
        go_wp2_with fail
        refine (SP.out _).mono ?_
        rintro e w4 ⟨ad2, c2, rfl, t2, hB4⟩
        have HB4 : Hid (Below w.heap.size w w4) := HB3.out.trans (hB4.mono hz3)
        have T2 := (show Hid _ from t2)
        have T1' : Hid (0 < X.length → ∃ g, ad1 = some ⟨g, 0, none⟩ ∧ g < w4.heap.size ∧ TextsAt w4 g 0 X) := fun h => by
          obtain ⟨g, e, hg, ht⟩ := T1.out h
          exact ⟨g, e, Nat.lt_of_lt_of_le hg hB4.size, ht.below hB4 hg⟩
        clear t2 hB4 T1 SD SP HB3 HB2 HB1
        obtain ⟨lx, hlx⟩ : ∃ lx, X.length = lx := ⟨_, rfl⟩
        obtain ⟨ly, hly⟩ : ∃ ly, Y.length = ly := ⟨_, rfl⟩
        have HX : Is X.length lx := ⟨hlx⟩
        have HY : Is Y.length ly := ⟨hly⟩
        rw [hlx] at hld
        rw [hly] at hlp
        rw [hlx, hly]
        clear hlx hly
        by_cases hle : ly ≤ lx
        · have i0 : (ly : Int) ≤ (lx : Int) := by omega
          have HR : Is R false := ⟨BL.out (by rw [HX.eq, HY.eq]; exact hle)⟩
          clear BL BA BY
          go_wp2_with fail
          go_ret
          exact ⟨by rw [HR.eq]; rfl, HB4.out⟩
        · have i0 : ¬ (ly : Int) ≤ (lx : Int) := by omega
          go_wp2_with fail
          go_loopw [9] (fun i wr => ∃ k : Nat, k ≤ lx ∧ i = .int .i64 k ∧ (∀ j, j < k → X.getD j [] = Y.getD j []) ∧ Below w4.heap.size w4 wr) (fun i _ => lx - (intOf i).toNat)
          case atStart => exact ⟨0, by omega, rfl, fun j hj => by omega, Below.refl _ _⟩
          case round =>
            obtain ⟨k, hkx, rfl, hdd, hB⟩ := hrel
            have HD : Hid (∀ j, j < k → X.getD j [] = Y.getD j []) := hdd
            have HBr : Hid (Below w4.heap.size w4 wr) := hB
            have HBz : Hid (∀ W : World, Below wr.heap.size wr W → Below w.heap.size w W) := fun W hW => HB4.out.trans ((hB.trans (hW.mono hB.size)).mono HB4.out.size)
            have hszr := hB.size
            clear hdd
            by_cases hx : k < lx
            · have i1 : (k : Int) < (lx : Int) := by omega
              have i2 : (k : Int) < (ly : Int) := by omega
              have j0 : (0 : Int) ≤ (k : Int) := Int.natCast_nonneg _
              obtain ⟨g1, he1, hg1, t1⟩ := T1'.out (by rw [HX.eq]; omega)
              obtain ⟨g2, he2, hg2, t2⟩ := T2.out (by rw [HY.eq]; omega)
              subst he1 he2
              have c0 := (t1.below hB hg1) k _ (getD_some (by rw [HX.eq]; exact hx))
              have c1 := (t2.below hB hg2) k _ (getD_some (by rw [HY.eq]; omega))
              rw [Nat.zero_add] at c0 c1
              have FA := (show Hid _ from BA.out k (by rw [HX.eq]; exact hx))
              have HS : Hid (X.getD k [] = Y.getD k [] → ∀ j, j < k + 1 → X.getD j [] = Y.getD j []) := fun he j hj => by
                by_cases h : j = k
                · subst h; exact he
                · exact HD.out j (by omega)
              obtain ⟨x, hxe⟩ : ∃ x, X.getD k [] = x := ⟨_, rfl⟩
              obtain ⟨y, hye⟩ : ∃ y, Y.getD k [] = y := ⟨_, rfl⟩
              rw [hxe] at c0 FA HS
              rw [hye] at c1 FA HS
              clear hxe hye BL BA BY HD t1 t2 hg1 hg2 hB T1' T2
              by_cases he : x = y
              · subst he
                have E1 : ((mk x).toList == (mk x).toList) = true := by simp
                have HS' : Hid (∀ j, j < k + 1 → X.getD j [] = Y.getD j []) := HS.out rfl
                clear FA HS
                generalize mk x = sx at *
                go_wp2_with fail
                go_region
                go_wp2_with fail
                go_roundw
                case rel => exact ⟨k + 1, by omega, by go_num, HS'.out, HBr.out.trans (((Below.refl _ _).drew).mono hszr)⟩
                case measure => (simp [intOf]) <;> omega
              · have E1 : ((mk x).toList == (mk y).toList) = false := by rw [mk_list, mk_list, beq_eq_false_iff_ne]; exact he
                have HR : Is R false := ⟨FA.out he⟩
                clear FA HS he
                generalize mk x = sx at *
                generalize mk y = sy at *
                go_wp2_with fail
                go_region
                go_wp2_with fail
                go_ret
                exact ⟨by rw [HR.eq]; rfl, HBz.out _ (Below.refl _ _).drew⟩
            · obtain rfl : k = lx := by omega
              have i1 : ¬ (k : Int) < (k : Int) := by omega
              have HR : Is R true := ⟨BY.out (by rw [HX.eq, HY.eq]; omega) (by rw [HX.eq]; exact HD.out)⟩
              clear BL BA BY HD hB
              go_wp2_with fail
              go_ret
              exact ⟨by rw [HR.eq]; rfl, HBz.out _ (Below.refl _ _)⟩
    · have HR : Is (Pm.below (bl d) (bl p)) false := ⟨below_no fun h _ _ _ _ => h1 (by rw [h])⟩
      rw [h0] at KD
      have k1 : ¬ (((Pm.kind (bl d)).1 : Nat) : Int) = 1 := by omega
      have k2 : ((((Pm.kind (bl d)).1 : Nat) : Int) == 1) = false := by simp only [beq_eq_false_iff_ne, ne_eq]; exact k1
      clear h0 h1
      generalize (Pm.kind (bl d)).1 = kk at *
      go_wp2_with fail
      refine (KD.out _).mono ?_
      rintro e w1 ⟨rfl, hB1⟩
      have HB1 : Hid (Below w.heap.size w w1) := HB0.out.trans (hB1.mono hz0)
      have hz1 := HB1.out.size
      clear hB1
      go_wp2_with fail
      go_ret
      exact ⟨by rw [HR.eq]; rfl, HB1.out⟩
  · have HR : Is (Pm.below (bl d) (bl p)) false := ⟨below_no fun h _ _ _ _ => h0 (by rw [h])⟩
    have k1 : ¬ (((Pm.kind (bl d)).2 : Nat) : Int) = 0 := by omega
    have k2 : ((((Pm.kind (bl d)).2 : Nat) : Int) == 0) = false := by simp only [beq_eq_false_iff_ne, ne_eq]; exact k1
    clear h0
    generalize (Pm.kind (bl d)).1 = kk at *
    generalize (Pm.kind (bl d)).2 = kj at *
    go_wp2_with fail
    refine (KD.out _).mono ?_
    rintro e w1 ⟨rfl, hB1⟩
    have HB1 : Hid (Below w.heap.size w w1) := HB0.out.trans (hB1.mono hz0)
    have hz1 := HB1.out.size
    clear hB1
    go_wp2_with fail
    go_ret
    exact ⟨by rw [HR.eq]; rfl, HB1.out⟩
end Go.Proofs.YtbcmgcallidneaaGreatDoor
