/- Proved: the walk of the law PathOrder. -/
import Derived.Test.YtlgalcpnodadiaaDoorBelowF
import Derived.Test.YtlgalcpnodadiaaDoorMathO
namespace Go.Proofs.YtlgalcpnodadiaaDoor
open Go.RowKit
set_option maxHeartbeats 4000000 in
set_option maxRecDepth 20000 in
theorem order_walk (s t r : ByteArray) (w : World) (hs : s.size ≤ 9223372036854775807) (ht : t.size ≤ 9223372036854775807) (hr : r.size ≤ 9223372036854775807) (hT : Tab w) :
    Calls Tryd.prog 5 #[.string s, .string t, .string r] w fun e w' => e = .returned (.bool true) ∧ Below w.heap.size w w' := by
  have HF1 : Hid (∀ W : World, Calls Tryd.prog 9 #[.string s] W fun e w' => e = .returned (.string (mk (few (bl s)))) ∧ w' = W) := fun W => few_any s W hs
  have HF2 : Hid (∀ W : World, Calls Tryd.prog 9 #[.string t] W fun e w' => e = .returned (.string (mk (few (bl t)))) ∧ w' = W) := fun W => few_any t W ht
  have HF3 : Hid (∀ W : World, Calls Tryd.prog 9 #[.string r] W fun e w' => e = .returned (.string (mk (few (bl r)))) ∧ w' = W) := fun W => few_any r W hr
  have ha := few_length (bl s)
  have hb := few_length (bl t)
  have hc := few_length (bl r)
  generalize few (bl s) = a at *
  generalize few (bl t) = b at *
  generalize few (bl r) = c at *
  have CAB : Hid (∀ W : World, Calls Tryd.prog 28 #[.string (mk a), .string (mk b)] W fun e w' => e = .returned (.int .i64 (Pm.cmp a b)) ∧ Below W.heap.size W w') := fun W => compare_any (mk a) (mk b) W (by rw [mk_size]; omega)
  have CBA : Hid (∀ W : World, Calls Tryd.prog 28 #[.string (mk b), .string (mk a)] W fun e w' => e = .returned (.int .i64 (-Pm.cmp a b)) ∧ Below W.heap.size W w') := fun W => by
    have h := compare_any (mk b) (mk a) W (by rw [mk_size]; omega)
    rw [show Pm.cmp (bl (mk b)) (bl (mk a)) = -Pm.cmp a b from cmp_anti b a] at h; exact h
  have CBC : Hid (∀ W : World, Calls Tryd.prog 28 #[.string (mk b), .string (mk c)] W fun e w' => e = .returned (.int .i64 (Pm.cmp b c)) ∧ Below W.heap.size W w') := fun W => compare_any (mk b) (mk c) W (by rw [mk_size]; omega)
  have CAC : Hid (∀ W : World, Calls Tryd.prog 28 #[.string (mk a), .string (mk c)] W fun e w' => e = .returned (.int .i64 (Pm.cmp a c)) ∧ Below W.heap.size W w') := fun W => compare_any (mk a) (mk c) W (by rw [mk_size]; omega)
  have BAC : Hid (∀ W : World, Tab W → Calls Tryd.prog 26 #[.string (mk a), .string (mk c)] W fun e w' => e = .returned (.bool (Pm.below a c)) ∧ Below W.heap.size W w') := fun W hW => below_any (mk a) (mk c) W (by rw [mk_size]; omega) hW
  have BAB : Hid (∀ W : World, Tab W → Calls Tryd.prog 26 #[.string (mk a), .string (mk b)] W fun e w' => e = .returned (.bool (Pm.below a b)) ∧ Below W.heap.size W w') := fun W hW => below_any (mk a) (mk b) W (by rw [mk_size]; omega) hW
  have KB : Hid (∀ W : World, Tab W → Calls Tryd.prog 10 #[.string (mk b)] W fun e w' => e = .returned (.tuple #[.int .i64 ((Pm.kind b).1 : Nat), .int .i64 ((Pm.kind b).2 : Nat)]) ∧ Below W.heap.size W w') := fun W hW => kind_any (mk b) W (by rw [mk_size]; omega) hW
  have HW : Hid (∀ W : World, Tab W → Calls Tryd.prog 23 #[] W fun e w' => e = .returned (.bool true) ∧ Below W.heap.size W w') := fun W hW => works_any W hW
  have hrx := cmp_range a b
  have hry := cmp_range b c
  have htr := cmp_trans a b c
  have hlt : Pm.below a c = true → Pm.cmp a c = -1 := below_less
  have hbt : Pm.below a c = true → Pm.cmp a b < 0 → Pm.cmp b c < 0 → (Pm.kind b).2 = 0 → Pm.below a b = true := fun h1 h2 h3 h4 => below_between h1 h2 h3 (by unfold Pm.isP; rw [h4]; rfl)
  obtain ⟨q, hq1, hq2⟩ : ∃ q : Bool, ((mk a).toList == (mk b).toList) = q ∧ (Pm.cmp a b == 0) = q := ⟨_, rfl, by
    rw [str_eq']
    by_cases h : a = b
    · rw [decide_eq_true (show a = bl (mk b) from h), (cmp_zero a b).2 h]; rfl
    · rw [decide_eq_false (show ¬ a = bl (mk b) from h)]
      have := mt (cmp_zero a b).1 h
      simpa using this⟩
  generalize Pm.cmp a b = x at *
  generalize Pm.cmp b c = y at *
  generalize Pm.cmp a c = z at *
  generalize Pm.below a b = bb at *
  generalize Pm.below a c = bc at *
  generalize (Pm.kind b).1 = k1 at *
  generalize (Pm.kind b).2 = k2 at *
  generalize mk a = A at *
  generalize mk b = B at *
  generalize mk c = C at *
  have hwx : IntKind.i64.wrap x = x := by rw [IntKind.wrap_i64]; omega
  have HB0 : Hid (Below w.heap.size w w) := Below.refl _ _
  have HT0 : Hid (Tab w) := hT
  have hz0 : w.heap.size ≤ w.heap.size := Nat.le_refl _
  clear hs ht hr hT ha hb hc
  have HTR : Hid (x ≤ 0 → y ≤ 0 → z ≤ 0) := htr
  have HLT : Hid (bc = true → z = -1) := hlt
  have HBT : Hid (bc = true → x < 0 → y < 0 → k2 = 0 → bb = true) := hbt
  have HRX : Hid (x = -1 ∨ x = 0 ∨ x = 1) := hrx
  have HRY : Hid (y = -1 ∨ y = 0 ∨ y = 1) := hry
  clear htr hlt hbt hrx hry
  go_enter Tryd.func5, Tryd.ntmps5
  go_wp2_with fail
  refine (HF1.out _).mono ?_
  rintro e wS ⟨rfl, hwS⟩
  rw [hwS]
  clear hwS wS
  go_wp2_with fail
  refine (HF2.out _).mono ?_
  rintro e wS ⟨rfl, hwS⟩
  rw [hwS]
  clear hwS wS
  go_wp2_with fail
  refine (HF3.out _).mono ?_
  rintro e wS ⟨rfl, hwS⟩
  rw [hwS]
  clear hwS wS
  clear HF1 HF2 HF3
  go_wp2_with fail
  refine (CAB.out _).mono ?_
  rintro e w1 ⟨rfl, hB1⟩
  have HB1 : Hid (Below w.heap.size w w1) := HB0.out.trans (hB1.mono hz0)
  have HT1 : Hid (Tab w1) := HT0.out.below hB1
  have hz1 := HB1.out.size
  clear hB1
  go_wp2_with fail
  refine (CBA.out _).mono ?_
  rintro e w2 ⟨rfl, hB2⟩
  have HB2 : Hid (Below w.heap.size w w2) := HB1.out.trans (hB2.mono hz1)
  have HT2 : Hid (Tab w2) := HT1.out.below hB2
  have hz2 := HB2.out.size
  clear hB2
  go_wp2_with fail
  refine (CAB.out _).mono ?_
  rintro e w3 ⟨rfl, hB3⟩
  have HB3 : Hid (Below w.heap.size w w3) := HB2.out.trans (hB3.mono hz2)
  have HT3 : Hid (Tab w3) := HT2.out.below hB3
  have hz3 := HB3.out.size
  clear hB3
  clear HB1 HT1 hz1 HB2 HT2 hz2
  go_wp2_with fail
  refine (CAB.out _).mono ?_
  rintro e w4 ⟨rfl, hB4⟩
  have HB4 : Hid (Below w.heap.size w w4) := HB3.out.trans (hB4.mono hz3)
  have HT4 : Hid (Tab w4) := HT3.out.below hB4
  have hz4 := HB4.out.size
  clear hB4
  clear HB3 HT3 hz3
  by_cases hx : x ≤ 0
  · by_cases hy : y ≤ 0
    · have hzz := HTR.out hx hy
      have hzn : ¬ 0 < z := by omega
      go_wp2_with fail
      refine (CBC.out _).mono ?_
      rintro e w5 ⟨rfl, hB5⟩
      have HB5 : Hid (Below w.heap.size w w5) := HB4.out.trans (hB5.mono hz4)
      have HT5 : Hid (Tab w5) := HT4.out.below hB5
      have hz5 := HB5.out.size
      clear hB5
      clear HB4 HT4 hz4
      go_wp2_with fail
      refine (CAC.out _).mono ?_
      rintro e w6 ⟨rfl, hB6⟩
      have HB6 : Hid (Below w.heap.size w w6) := HB5.out.trans (hB6.mono hz5)
      have HT6 : Hid (Tab w6) := HT5.out.below hB6
      have hz6 := HB6.out.size
      clear hB6
      clear HB5 HT5 hz5
      go_wp2_with fail
      refine (BAC.out _ HT6.out).mono ?_
      rintro e w7 ⟨rfl, hB7⟩
      have HB7 : Hid (Below w.heap.size w w7) := HB6.out.trans (hB7.mono hz6)
      have HT7 : Hid (Tab w7) := HT6.out.below hB7
      have hz7 := HB7.out.size
      clear hB7
      clear HB6 HT6 hz6
      cases hbc : bc with
      | false =>
        rw [hbc] at BAC
        go_wp2_with fail
        refine (KB.out _ HT7.out).mono ?_
        rintro e w8 ⟨rfl, hB8⟩
        have HB8 : Hid (Below w.heap.size w w8) := HB7.out.trans (hB8.mono hz7)
        have HT8 : Hid (Tab w8) := HT7.out.below hB8
        have hz8 := HB8.out.size
        clear hB8
        clear HB7 HT7 hz7
        go_wp2_with fail
        refine (BAC.out _ HT8.out).mono ?_
        rintro e w9 ⟨rfl, hB9⟩
        have HB9 : Hid (Below w.heap.size w w9) := HB8.out.trans (hB9.mono hz8)
        have HT9 : Hid (Tab w9) := HT8.out.below hB9
        have hz9 := HB9.out.size
        clear hB9
        clear HB8 HT8 hz8
        go_wp2_with fail
        refine (HW.out _ HT9.out).mono ?_
        rintro e w10 ⟨rfl, hB10⟩
        have HB10 : Hid (Below w.heap.size w w10) := HB9.out.trans (hB10.mono hz9)
        have HT10 : Hid (Tab w10) := HT9.out.below hB10
        have hz10 := HB10.out.size
        clear hB10
        clear HB9 HT9 hz9
        go_wp2_with fail
        go_ret
        exact ⟨rfl, HB10.out⟩
      | true =>
        rw [hbc] at BAC
        obtain rfl : z = -1 := HLT.out hbc
        go_wp2_with fail
        refine (CAC.out _).mono ?_
        rintro e w8 ⟨rfl, hB8⟩
        have HB8 : Hid (Below w.heap.size w w8) := HB7.out.trans (hB8.mono hz7)
        have HT8 : Hid (Tab w8) := HT7.out.below hB8
        have hz8 := HB8.out.size
        clear hB8
        clear HB7 HT7 hz7
        go_wp2_with fail
        refine (KB.out _ HT8.out).mono ?_
        rintro e w9 ⟨rfl, hB9⟩
        have HB9 : Hid (Below w.heap.size w w9) := HB8.out.trans (hB9.mono hz8)
        have HT9 : Hid (Tab w9) := HT8.out.below hB9
        have hz9 := HB9.out.size
        clear hB9
        clear HB8 HT8 hz8
        go_wp2_with fail
        refine (BAC.out _ HT9.out).mono ?_
        rintro e w10 ⟨rfl, hB10⟩
        have HB10 : Hid (Below w.heap.size w w10) := HB9.out.trans (hB10.mono hz9)
        have HT10 : Hid (Tab w10) := HT9.out.below hB10
        have hz10 := HB10.out.size
        clear hB10
        clear HB9 HT9 hz9
        go_wp2_with fail
        refine (CAB.out _).mono ?_
        rintro e w11 ⟨rfl, hB11⟩
        have HB11 : Hid (Below w.heap.size w w11) := HB10.out.trans (hB11.mono hz10)
        have HT11 : Hid (Tab w11) := HT10.out.below hB11
        have hz11 := HB11.out.size
        clear hB11
        clear HB10 HT10 hz10
        by_cases hxn : x < 0
        · skip
          go_wp2_with fail
          refine (CBC.out _).mono ?_
          rintro e w12 ⟨rfl, hB12⟩
          have HB12 : Hid (Below w.heap.size w w12) := HB11.out.trans (hB12.mono hz11)
          have HT12 : Hid (Tab w12) := HT11.out.below hB12
          have hz12 := HB12.out.size
          clear hB12
          clear HB11 HT11 hz11
          by_cases hyn : y < 0
          · skip
            by_cases hk : k2 = 0
            · have hbb := HBT.out hbc hxn hyn hk
              subst hbb
              subst hk
              go_wp2_with fail
              refine (BAB.out _ HT12.out).mono ?_
              rintro e w13 ⟨rfl, hB13⟩
              have HB13 : Hid (Below w.heap.size w w13) := HB12.out.trans (hB13.mono hz12)
              have HT13 : Hid (Tab w13) := HT12.out.below hB13
              have hz13 := HB13.out.size
              clear hB13
              clear HB12 HT12 hz12
              go_wp2_with fail
              refine (HW.out _ HT13.out).mono ?_
              rintro e w14 ⟨rfl, hB14⟩
              have HB14 : Hid (Below w.heap.size w w14) := HB13.out.trans (hB14.mono hz13)
              have HT14 : Hid (Tab w14) := HT13.out.below hB14
              have hz14 := HB14.out.size
              clear hB14
              clear HB13 HT13 hz13
              go_wp2_with fail
              go_ret
              exact ⟨rfl, HB14.out⟩
            · have hk1 : ¬ ((k2 : Nat) : Int) = 0 := by omega
              have hk2 : (((k2 : Nat) : Int) == 0) = false := by simp only [beq_eq_false_iff_ne, ne_eq]; exact hk1
              go_wp2_with fail
              refine (HW.out _ HT12.out).mono ?_
              rintro e w13 ⟨rfl, hB13⟩
              have HB13 : Hid (Below w.heap.size w w13) := HB12.out.trans (hB13.mono hz12)
              have HT13 : Hid (Tab w13) := HT12.out.below hB13
              have hz13 := HB13.out.size
              clear hB13
              clear HB12 HT12 hz12
              go_wp2_with fail
              go_ret
              exact ⟨rfl, HB13.out⟩
          · have dy : decide (y < 0) = false := decide_eq_false hyn
            go_wp2_with fail
            refine (HW.out _ HT12.out).mono ?_
            rintro e w13 ⟨rfl, hB13⟩
            have HB13 : Hid (Below w.heap.size w w13) := HB12.out.trans (hB13.mono hz12)
            have HT13 : Hid (Tab w13) := HT12.out.below hB13
            have hz13 := HB13.out.size
            clear hB13
            clear HB12 HT12 hz12
            go_wp2_with fail
            go_ret
            exact ⟨rfl, HB13.out⟩
        · have dx : decide (x < 0) = false := decide_eq_false hxn
          go_wp2_with fail
          refine (HW.out _ HT11.out).mono ?_
          rintro e w12 ⟨rfl, hB12⟩
          have HB12 : Hid (Below w.heap.size w w12) := HB11.out.trans (hB12.mono hz11)
          have HT12 : Hid (Tab w12) := HT11.out.below hB12
          have hz12 := HB12.out.size
          clear hB12
          clear HB11 HT11 hz11
          go_wp2_with fail
          go_ret
          exact ⟨rfl, HB12.out⟩
    · have dy0 : decide (y ≤ 0) = false := decide_eq_false hy
      have hyp : ¬ y < 0 := by omega
      go_wp2_with fail
      refine (CBC.out _).mono ?_
      rintro e w5 ⟨rfl, hB5⟩
      have HB5 : Hid (Below w.heap.size w w5) := HB4.out.trans (hB5.mono hz4)
      have HT5 : Hid (Tab w5) := HT4.out.below hB5
      have hz5 := HB5.out.size
      clear hB5
      clear HB4 HT4 hz4
      go_wp2_with fail
      refine (BAC.out _ HT5.out).mono ?_
      rintro e w6 ⟨rfl, hB6⟩
      have HB6 : Hid (Below w.heap.size w w6) := HB5.out.trans (hB6.mono hz5)
      have HT6 : Hid (Tab w6) := HT5.out.below hB6
      have hz6 := HB6.out.size
      clear hB6
      clear HB5 HT5 hz5
      cases hbc : bc with
      | false =>
        rw [hbc] at BAC
        go_wp2_with fail
        refine (KB.out _ HT6.out).mono ?_
        rintro e w7 ⟨rfl, hB7⟩
        have HB7 : Hid (Below w.heap.size w w7) := HB6.out.trans (hB7.mono hz6)
        have HT7 : Hid (Tab w7) := HT6.out.below hB7
        have hz7 := HB7.out.size
        clear hB7
        clear HB6 HT6 hz6
        go_wp2_with fail
        refine (BAC.out _ HT7.out).mono ?_
        rintro e w8 ⟨rfl, hB8⟩
        have HB8 : Hid (Below w.heap.size w w8) := HB7.out.trans (hB8.mono hz7)
        have HT8 : Hid (Tab w8) := HT7.out.below hB8
        have hz8 := HB8.out.size
        clear hB8
        clear HB7 HT7 hz7
        go_wp2_with fail
        refine (HW.out _ HT8.out).mono ?_
        rintro e w9 ⟨rfl, hB9⟩
        have HB9 : Hid (Below w.heap.size w w9) := HB8.out.trans (hB9.mono hz8)
        have HT9 : Hid (Tab w9) := HT8.out.below hB9
        have hz9 := HB9.out.size
        clear hB9
        clear HB8 HT8 hz8
        go_wp2_with fail
        go_ret
        exact ⟨rfl, HB9.out⟩
      | true =>
        rw [hbc] at BAC
        obtain rfl : z = -1 := HLT.out hbc
        go_wp2_with fail
        refine (CAC.out _).mono ?_
        rintro e w7 ⟨rfl, hB7⟩
        have HB7 : Hid (Below w.heap.size w w7) := HB6.out.trans (hB7.mono hz6)
        have HT7 : Hid (Tab w7) := HT6.out.below hB7
        have hz7 := HB7.out.size
        clear hB7
        clear HB6 HT6 hz6
        go_wp2_with fail
        refine (KB.out _ HT7.out).mono ?_
        rintro e w8 ⟨rfl, hB8⟩
        have HB8 : Hid (Below w.heap.size w w8) := HB7.out.trans (hB8.mono hz7)
        have HT8 : Hid (Tab w8) := HT7.out.below hB8
        have hz8 := HB8.out.size
        clear hB8
        clear HB7 HT7 hz7
        go_wp2_with fail
        refine (BAC.out _ HT8.out).mono ?_
        rintro e w9 ⟨rfl, hB9⟩
        have HB9 : Hid (Below w.heap.size w w9) := HB8.out.trans (hB9.mono hz8)
        have HT9 : Hid (Tab w9) := HT8.out.below hB9
        have hz9 := HB9.out.size
        clear hB9
        clear HB8 HT8 hz8
        go_wp2_with fail
        refine (CAB.out _).mono ?_
        rintro e w10 ⟨rfl, hB10⟩
        have HB10 : Hid (Below w.heap.size w w10) := HB9.out.trans (hB10.mono hz9)
        have HT10 : Hid (Tab w10) := HT9.out.below hB10
        have hz10 := HB10.out.size
        clear hB10
        clear HB9 HT9 hz9
        by_cases hxn : x < 0
        · skip
          go_wp2_with fail
          refine (CBC.out _).mono ?_
          rintro e w11 ⟨rfl, hB11⟩
          have HB11 : Hid (Below w.heap.size w w11) := HB10.out.trans (hB11.mono hz10)
          have HT11 : Hid (Tab w11) := HT10.out.below hB11
          have hz11 := HB11.out.size
          clear hB11
          clear HB10 HT10 hz10
          go_wp2_with fail
          refine (HW.out _ HT11.out).mono ?_
          rintro e w12 ⟨rfl, hB12⟩
          have HB12 : Hid (Below w.heap.size w w12) := HB11.out.trans (hB12.mono hz11)
          have HT12 : Hid (Tab w12) := HT11.out.below hB12
          have hz12 := HB12.out.size
          clear hB12
          clear HB11 HT11 hz11
          go_wp2_with fail
          go_ret
          exact ⟨rfl, HB12.out⟩
        · have dx : decide (x < 0) = false := decide_eq_false hxn
          go_wp2_with fail
          refine (HW.out _ HT10.out).mono ?_
          rintro e w11 ⟨rfl, hB11⟩
          have HB11 : Hid (Below w.heap.size w w11) := HB10.out.trans (hB11.mono hz10)
          have HT11 : Hid (Tab w11) := HT10.out.below hB11
          have hz11 := HB11.out.size
          clear hB11
          clear HB10 HT10 hz10
          go_wp2_with fail
          go_ret
          exact ⟨rfl, HB11.out⟩
  · have dx0 : decide (x ≤ 0) = false := decide_eq_false hx
    have hxp : ¬ x < 0 := by omega
    go_wp2_with fail
    refine (BAC.out _ HT4.out).mono ?_
    rintro e w5 ⟨rfl, hB5⟩
    have HB5 : Hid (Below w.heap.size w w5) := HB4.out.trans (hB5.mono hz4)
    have HT5 : Hid (Tab w5) := HT4.out.below hB5
    have hz5 := HB5.out.size
    clear hB5
    clear HB4 HT4 hz4
    cases hbc : bc with
    | false =>
      rw [hbc] at BAC
      go_wp2_with fail
      refine (KB.out _ HT5.out).mono ?_
      rintro e w6 ⟨rfl, hB6⟩
      have HB6 : Hid (Below w.heap.size w w6) := HB5.out.trans (hB6.mono hz5)
      have HT6 : Hid (Tab w6) := HT5.out.below hB6
      have hz6 := HB6.out.size
      clear hB6
      clear HB5 HT5 hz5
      go_wp2_with fail
      refine (BAC.out _ HT6.out).mono ?_
      rintro e w7 ⟨rfl, hB7⟩
      have HB7 : Hid (Below w.heap.size w w7) := HB6.out.trans (hB7.mono hz6)
      have HT7 : Hid (Tab w7) := HT6.out.below hB7
      have hz7 := HB7.out.size
      clear hB7
      clear HB6 HT6 hz6
      go_wp2_with fail
      refine (HW.out _ HT7.out).mono ?_
      rintro e w8 ⟨rfl, hB8⟩
      have HB8 : Hid (Below w.heap.size w w8) := HB7.out.trans (hB8.mono hz7)
      have HT8 : Hid (Tab w8) := HT7.out.below hB8
      have hz8 := HB8.out.size
      clear hB8
      clear HB7 HT7 hz7
      go_wp2_with fail
      go_ret
      exact ⟨rfl, HB8.out⟩
    | true =>
      rw [hbc] at BAC
      obtain rfl : z = -1 := HLT.out hbc
      go_wp2_with fail
      refine (CAC.out _).mono ?_
      rintro e w6 ⟨rfl, hB6⟩
      have HB6 : Hid (Below w.heap.size w w6) := HB5.out.trans (hB6.mono hz5)
      have HT6 : Hid (Tab w6) := HT5.out.below hB6
      have hz6 := HB6.out.size
      clear hB6
      clear HB5 HT5 hz5
      go_wp2_with fail
      refine (KB.out _ HT6.out).mono ?_
      rintro e w7 ⟨rfl, hB7⟩
      have HB7 : Hid (Below w.heap.size w w7) := HB6.out.trans (hB7.mono hz6)
      have HT7 : Hid (Tab w7) := HT6.out.below hB7
      have hz7 := HB7.out.size
      clear hB7
      clear HB6 HT6 hz6
      go_wp2_with fail
      refine (BAC.out _ HT7.out).mono ?_
      rintro e w8 ⟨rfl, hB8⟩
      have HB8 : Hid (Below w.heap.size w w8) := HB7.out.trans (hB8.mono hz7)
      have HT8 : Hid (Tab w8) := HT7.out.below hB8
      have hz8 := HB8.out.size
      clear hB8
      clear HB7 HT7 hz7
      go_wp2_with fail
      refine (CAB.out _).mono ?_
      rintro e w9 ⟨rfl, hB9⟩
      have HB9 : Hid (Below w.heap.size w w9) := HB8.out.trans (hB9.mono hz8)
      have HT9 : Hid (Tab w9) := HT8.out.below hB9
      have hz9 := HB9.out.size
      clear hB9
      clear HB8 HT8 hz8
      go_wp2_with fail
      refine (HW.out _ HT9.out).mono ?_
      rintro e w10 ⟨rfl, hB10⟩
      have HB10 : Hid (Below w.heap.size w w10) := HB9.out.trans (hB10.mono hz9)
      have HT10 : Hid (Tab w10) := HT9.out.below hB10
      have hz10 := HB10.out.size
      clear hB10
      clear HB9 HT9 hz9
      go_wp2_with fail
      go_ret
      exact ⟨rfl, HB10.out⟩
end Go.Proofs.YtlgalcpnodadiaaDoor
