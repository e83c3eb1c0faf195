/- Proved: the law ScopeAgain, walked. -/
import Derived.Test.YtbcmgcallidneaaDoorAlgebra
import Derived.Test.YtbcmgcallidneaaDoorTextF
import Derived.Test.YtbcmgcallidneaaDoorParseF
namespace Go.Proofs.YtbcmgcallidneaaDoor
open Go.RowKit
set_option maxHeartbeats 8000000 in
set_option maxRecDepth 20000 in
theorem again_walk (ad1 : Option Addr) (n1 c1 : Nat) (ss1 : List ByteArray) (p : ByteArray) (w : World) (hI1 : InA w ad1 n1 ss1) (_hp : p.size ≤ 9223372036854775807) (hT : Tab w) :
    Calls Tryd.prog 4 #[.slice ad1 n1 c1, .string p] w fun e w' => e = .returned (.bool true) ∧ Below w.heap.size w w' := by
  have HF1 : Hid (∀ W : World, Below w.heap.size w W → Calls Tryd.prog 6 #[.slice ad1 n1 c1] W fun e w' => ∃ v, e = .returned v ∧ w'.ownsRow W.heap.size 9 1 v (fews ss1).length (scells (fews ss1)) ∧ Below W.heap.size W w') := fun W hb => few_any ad1 n1 c1 ss1 W (hI1.below hb)
  have HP : Is (p.extract 0 (min (p.size : Int) 150).toNat) (mk (cut p)) := ⟨extract_cut p⟩
  have HT : Hid (Tab w) := hT
  have hl1 := fews_length ss1
  have hx1 := fews_short ss1
  have hcp := cut_length p
  generalize fews ss1 = A at *
  generalize cut p = x at *
  have HMa : Hid (∀ (W : World) (a : Option Addr) (c : Nat), TxtA W a A → Tab W → Calls Tryd.prog 12 #[.slice a A.length c] W fun e w' => ∃ ad' c', e = .returned (.tuple #[.slice ad' (Sm.makes A).1.length c', .int .i64 ((Sm.makes A).2 : Nat)]) ∧ TxtA w' ad' (Sm.makes A).1 ∧ Below W.heap.size W w') := fun W a c h hT => make_any a c A W h (by omega) (fun y hy => by have := hx1 y hy; omega) hT
  have hlX := makes_len A
  have hxX : ∀ y ∈ (Sm.makes A).1, y.length ≤ 150 := fun y hy => hx1 y (makes_mem hy)
  have HX : Hid ((Sm.makes A).2 = 0 → Sm.may (Sm.makes A).1 = true) := Sm.may_made
  have HX0 : Hid ((Sm.makes A).2 ≠ 0 → (Sm.makes A).1 = []) := Sm.makes_no
  have HHs : Hid ((Sm.makes A).2 = 0 → Sm.has (Sm.makes A).1 x = Sm.has A x) := fun h => by rw [(Sm.makes_ok h).2.1]; exact Sm.has_outer A x
  have HHA : Hid (∀ (W : World) (a : Option Addr) (c : Nat), TxtA W a A → Tab W → Calls Tryd.prog 7 #[.slice a A.length c, .string (mk x)] W fun e w' => e = .returned (.bool (Sm.has A x)) ∧ Below W.heap.size W w') := fun W a c h hT => has_any a c A (mk x) W h (by omega) (by rw [mk_size]; omega) hT
  generalize (Sm.makes A).1 = X at *
  generalize (Sm.makes A).2 = k1 at *
  have HHX : Hid (∀ (W : World) (a : Option Addr) (c : Nat), TxtA W a X → Tab W → Calls Tryd.prog 7 #[.slice a X.length c, .string (mk x)] W fun e w' => e = .returned (.bool (Sm.has X x)) ∧ Below W.heap.size W w') := fun W a c h hT => has_any a c X (mk x) W h (by omega) (by rw [mk_size]; omega) hT
  have HS : Hid (∀ (W : World) (a b : Option Addr) (c d : Nat), TxtA W a X → TxtA W b X → Calls Tryd.prog 15 #[.slice a X.length c, .slice b X.length d] W fun e w' => e = .returned (.bool true) ∧ Below W.heap.size W w') := fun W a b c d h1 h2 => by
    have h := rsame_any a b c d X X W (by omega) (by omega) h1 h2
    rw [show (X == X) = true by simp] at h
    exact h
  have HM2 : Hid (∀ (W : World) (a : Option Addr) (c : Nat), TxtA W a X → Tab W → Calls Tryd.prog 12 #[.slice a X.length c] W fun e w' => ∃ ad' c', e = .returned (.tuple #[.slice ad' (Sm.makes X).1.length c', .int .i64 ((Sm.makes X).2 : Nat)]) ∧ TxtA w' ad' (Sm.makes X).1 ∧ Below W.heap.size W w') := fun W a c h hT => make_any a c X W h (by omega) (fun y hy => by have := hxX y hy; omega) hT
  have HMy : Hid (∀ (W : World) (a : Option Addr) (c : Nat), TxtA W a X → Tab W → Calls Tryd.prog 16 #[.slice a X.length c] W fun e w' => e = .returned (.bool (Sm.may X)) ∧ Below W.heap.size W w') := fun W a c h hT => may_any a c X W h (by omega) (fun y hy => by have := hxX y hy; omega) hT
  have HTx : Hid (∀ (W : World) (a : Option Addr) (c : Nat), TxtA W a X → Tab W → Calls Tryd.prog 13 #[.slice a X.length c] W fun e w' => e = .returned (.tuple #[.string (mk (Sm.texts X).1), .int .i64 ((Sm.texts X).2 : Nat)]) ∧ Below W.heap.size W w') := fun W a c h hT => text_any a c X W h (by omega) (fun y hy => by have := hxX y hy; omega) hT
  have htl : (Sm.text X).length ≤ 5000 := by
    have h1 := text_len X 150 hxX
    have h2 : X.length * (150 + 1) ≤ 16 * (150 + 1) := Nat.mul_le_mul_right _ hlX
    omega
  have HPa : Hid (∀ W : World, Tab W → Calls Tryd.prog 14 #[.string (mk (Sm.text X))] W fun e w' => ∃ ad' c', e = .returned (.tuple #[.slice ad' (Sm.parse (Sm.text X)).1.length c', .int .i64 ((Sm.parse (Sm.text X)).2 : Nat)]) ∧ TxtA w' ad' (Sm.parse (Sm.text X)).1 ∧ Below W.heap.size W w') := fun W hT => parse_any (mk (Sm.text X)) W (by rw [mk_size]; omega) hT
  have m0 : (0 : Int) ≤ min (p.size : Int) 150 := by omega
  have m1 : min (p.size : Int) 150 ≤ (p.size : Int) := by omega
  have HS0 : Hid (Below w.heap.size w w) := Below.refl _ _
  clear hI1 hT hl1 hx1 hcp hxX htl
  go_enter Tryd.func4, Tryd.ntmps4
  go_wp2_with fail
  go_region_held3 (fun W => Below w.heap.size w W)
    (first | exact HS0.out | assumption | exact HS0.out.drew | exact hS1)
    (first
      | (go_at_call 6; refine (HF1.out w.drew HS0.out.drew).mono ?_; rintro e w1 ⟨v1, rfl, ho1, hB1⟩; have hS1 : Below w.heap.size w w1 := HS0.out.drew.trans hB1; clear hB1))
  all_goals
    obtain ⟨p1, q1, hv1, _, _, hA1⟩ := own_txt ho1
    subst hv1
    have HB1 : Hid (Below w.heap.size w w1) := hS1
    have HT1 : Hid (Tab w1) := HT.out.below hS1
    have Hp1_1 : Hid (TxtA w1 p1 A) := hA1
    rw [HP.eq]
    clear ho1 hA1 hS1
    go_wp2_with fail
    refine (HMa.out _ p1 q1 Hp1_1.out HT1.out).mono ?_
    rintro e w2 ⟨px, qx, rfl, hA2, hB2⟩
    have HB2 : Hid (Below w.heap.size w w2) := HB1.out.trans (hB2.mono HB1.out.size)
    have HT2 : Hid (Tab w2) := HT.out.below HB2.out
    have Hp1_2 : Hid (TxtA w2 p1 A) := Hp1_1.out.below hB2
    clear Hp1_1
    have Hpx_2 : Hid (TxtA w2 px X) := hA2
    clear hB2 hA2
    by_cases h1 : k1 = 0
    · subst h1
      have mX : Sm.may X = true := HX.out rfl
      have E1 : Is (Sm.makes X) (X, 0) := ⟨Sm.makes_may mX⟩
      have E2 : Is (Sm.texts X) (Sm.text X, 0) := ⟨Sm.texts_may mX⟩
      have E3 : Is (Sm.parse (Sm.text X)) (X, 0) := ⟨Sm.parse_text mX⟩
      rw [E1.eq] at HM2
      rw [E2.eq] at HTx
      rw [E3.eq] at HPa
      rw [mX] at HMy
      rw [HHs.out rfl] at HHX
      generalize mk (Sm.text X) = sx at *
      clear E1 E2 E3 mX HHs HX HX0 HMa HF1
      have eh : (Sm.has A x == Sm.has A x) = true := by simp
      generalize Sm.has A x = r at *
      go_wp2_with fail
      refine (HM2.out _ px qx Hpx_2.out HT2.out).mono ?_
      rintro e w3 ⟨pt, qt, rfl, hA3, hB3⟩
      have HB3 : Hid (Below w.heap.size w w3) := HB2.out.trans (hB3.mono HB2.out.size)
      have HT3 : Hid (Tab w3) := HT.out.below HB3.out
      have Hp1_3 : Hid (TxtA w3 p1 A) := Hp1_2.out.below hB3
      have Hpx_3 : Hid (TxtA w3 px X) := Hpx_2.out.below hB3
      clear Hp1_2 Hpx_2
      have Hpt_3 : Hid (TxtA w3 pt X) := hA3
      clear hB3 hA3
      go_wp2_with fail
      refine (HTx.out _ px qx Hpx_3.out HT3.out).mono ?_
      rintro e w4 ⟨rfl, hB4⟩
      have HB4 : Hid (Below w.heap.size w w4) := HB3.out.trans (hB4.mono HB3.out.size)
      have HT4 : Hid (Tab w4) := HT.out.below HB4.out
      have Hp1_4 : Hid (TxtA w4 p1 A) := Hp1_3.out.below hB4
      have Hpx_4 : Hid (TxtA w4 px X) := Hpx_3.out.below hB4
      have Hpt_4 : Hid (TxtA w4 pt X) := Hpt_3.out.below hB4
      clear Hp1_3 Hpx_3 Hpt_3
      clear hB4
      go_wp2_with fail
      refine (HPa.out _ HT4.out).mono ?_
      rintro e w5 ⟨py, qy, rfl, hA4, hB5⟩
      have HB5 : Hid (Below w.heap.size w w5) := HB4.out.trans (hB5.mono HB4.out.size)
      have HT5 : Hid (Tab w5) := HT.out.below HB5.out
      have Hp1_5 : Hid (TxtA w5 p1 A) := Hp1_4.out.below hB5
      have Hpx_5 : Hid (TxtA w5 px X) := Hpx_4.out.below hB5
      have Hpt_5 : Hid (TxtA w5 pt X) := Hpt_4.out.below hB5
      clear Hp1_4 Hpx_4 Hpt_4
      have Hpy_5 : Hid (TxtA w5 py X) := hA4
      clear hB5 hA4
      go_wp2_with fail
      refine (HS.out _ px pt qx qt Hpx_5.out Hpt_5.out).mono ?_
      rintro e w6 ⟨rfl, hB6⟩
      have HB6 : Hid (Below w.heap.size w w6) := HB5.out.trans (hB6.mono HB5.out.size)
      have HT6 : Hid (Tab w6) := HT.out.below HB6.out
      have Hp1_6 : Hid (TxtA w6 p1 A) := Hp1_5.out.below hB6
      have Hpx_6 : Hid (TxtA w6 px X) := Hpx_5.out.below hB6
      have Hpt_6 : Hid (TxtA w6 pt X) := Hpt_5.out.below hB6
      have Hpy_6 : Hid (TxtA w6 py X) := Hpy_5.out.below hB6
      clear Hp1_5 Hpx_5 Hpt_5 Hpy_5
      clear hB6
      go_wp2_with fail
      refine (HMy.out _ px qx Hpx_6.out HT6.out).mono ?_
      rintro e w7 ⟨rfl, hB7⟩
      have HB7 : Hid (Below w.heap.size w w7) := HB6.out.trans (hB7.mono HB6.out.size)
      have HT7 : Hid (Tab w7) := HT.out.below HB7.out
      have Hp1_7 : Hid (TxtA w7 p1 A) := Hp1_6.out.below hB7
      have Hpx_7 : Hid (TxtA w7 px X) := Hpx_6.out.below hB7
      have Hpy_7 : Hid (TxtA w7 py X) := Hpy_6.out.below hB7
      clear Hp1_6 Hpx_6 Hpy_6
      clear hB7
      go_wp2_with fail
      refine (HS.out _ py px qy qx Hpy_7.out Hpx_7.out).mono ?_
      rintro e w8 ⟨rfl, hB8⟩
      have HB8 : Hid (Below w.heap.size w w8) := HB7.out.trans (hB8.mono HB7.out.size)
      have HT8 : Hid (Tab w8) := HT.out.below HB8.out
      have Hp1_8 : Hid (TxtA w8 p1 A) := Hp1_7.out.below hB8
      have Hpx_8 : Hid (TxtA w8 px X) := Hpx_7.out.below hB8
      have Hpy_8 : Hid (TxtA w8 py X) := Hpy_7.out.below hB8
      clear Hp1_7 Hpx_7 Hpy_7
      clear hB8
      go_wp2_with fail
      refine (HHX.out _ px qx Hpx_8.out HT8.out).mono ?_
      rintro e w9 ⟨rfl, hB9⟩
      have HB9 : Hid (Below w.heap.size w w9) := HB8.out.trans (hB9.mono HB8.out.size)
      have HT9 : Hid (Tab w9) := HT.out.below HB9.out
      have Hp1_9 : Hid (TxtA w9 p1 A) := Hp1_8.out.below hB9
      have Hpx_9 : Hid (TxtA w9 px X) := Hpx_8.out.below hB9
      clear Hp1_8 Hpx_8
      clear hB9
      go_wp2_with fail
      refine (HHA.out _ p1 q1 Hp1_9.out HT9.out).mono ?_
      rintro e w10 ⟨rfl, hB10⟩
      have HB10 : Hid (Below w.heap.size w w10) := HB9.out.trans (hB10.mono HB9.out.size)
      have HT10 : Hid (Tab w10) := HT.out.below HB10.out
      have Hp1_10 : Hid (TxtA w10 p1 A) := Hp1_9.out.below hB10
      have Hpx_10 : Hid (TxtA w10 px X) := Hpx_9.out.below hB10
      clear Hp1_9 Hpx_9
      clear hB10
      go_wp2_with fail
      refine (works_any _ HT10.out).mono ?_
      rintro e w11 ⟨rfl, hB11⟩
      have HB11 : Hid (Below w.heap.size w w11) := HB10.out.trans (hB11.mono HB10.out.size)
      have HT11 : Hid (Tab w11) := HT.out.below HB11.out
      have Hp1_11 : Hid (TxtA w11 p1 A) := Hp1_10.out.below hB11
      have Hpx_11 : Hid (TxtA w11 px X) := Hpx_10.out.below hB11
      clear Hp1_10 Hpx_10
      clear hB11
      go_wp2_with fail
      go_ret
      exact ⟨rfl, HB11.out⟩
    · have h1' : ¬ ((k1 : Nat) : Int) = 0 := by omega
      have h1b : (((k1 : Nat) : Int) == 0) = false := by simp only [beq_eq_false_iff_ne, ne_eq]; exact h1'
      have HXn : Is X [] := ⟨HX0.out h1⟩
      have e0 : X.length = 0 := by rw [HXn.eq]; rfl
      rw [e0]
      go_wp2_with fail
      refine (works_any _ HT2.out).mono ?_
      rintro e w3 ⟨rfl, hB3⟩
      have HB3 : Hid (Below w.heap.size w w3) := HB2.out.trans (hB3.mono HB2.out.size)
      have HT3 : Hid (Tab w3) := HT.out.below HB3.out
      have Hp1_3 : Hid (TxtA w3 p1 A) := Hp1_2.out.below hB3
      have Hpx_3 : Hid (TxtA w3 px X) := Hpx_2.out.below hB3
      clear Hp1_2 Hpx_2
      clear hB3
      go_wp2_with fail
      go_ret
      exact ⟨rfl, HB3.out⟩
end Go.Proofs.YtbcmgcallidneaaDoor
