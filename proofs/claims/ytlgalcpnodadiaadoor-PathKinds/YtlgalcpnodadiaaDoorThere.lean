/- Proved: the walk of the law PathThere. -/
import Derived.Test.YtlgalcpnodadiaaDoorMoved
namespace Go.Proofs.YtlgalcpnodadiaaDoor
open Go.RowKit
theorem split_short (p : Pm.T) : (Pm.split p).length ≤ 8 := by
  rcases Pm.cases_isP p with rfl | h | h
  · rw [Pm.split_root]; simp
  · rw [Pm.split_no h]; simp
  · rw [Pm.split_path h]; exact h.deep
theorem psplit_slice (s : ByteArray) (w : World) (hs : s.size < 4294967281) (hT : Tab w) :
    Calls Tryd.prog 17 #[.string s] w fun e w' => ∃ ad c, e = .returned (.slice ad (Pm.split (bl s)).length c) ∧ Below w.heap.size w w' := by
  refine (psplit_any s w hs hT).mono fun e w' ⟨v, he, ho, hb⟩ => ?_
  rcases own_shape ho with ⟨rfl, h0⟩ | ⟨g, cap, rfl, _⟩
  · exact ⟨none, 0, by rw [he, h0]; rfl, hb⟩
  · exact ⟨_, cap, he, hb⟩
theorem isP_len {p : Pm.T} (h : Pm.isP p = true) : p.length ≤ 96 := by
  rcases (Pm.isP_iff p).1 h with h | h
  · rw [h]; simp
  · exact h.len
theorem moved_len {p f t : Pm.T} (h : (Pm.moved p f t).2 = 0) : (Pm.moved p f t).1.length ≤ 96 := isP_len (goes h).2.2.1
set_option maxHeartbeats 4000000 in
set_option maxRecDepth 20000 in
theorem there_walk (s1 s2 s3 : ByteArray) (w : World) (hs1 : s1.size ≤ 9223372036854775807) (hs2 : s2.size ≤ 9223372036854775807) (hs3 : s3.size ≤ 9223372036854775807) (hT : Tab w) :
    Calls Tryd.prog 8 #[.string s1, .string s2, .string s3] w fun e w' => e = .returned (.bool true) ∧ Below w.heap.size w w' := by
  have HF1 : Hid (∀ W : World, Calls Tryd.prog 9 #[.string s1] W fun e w' => e = .returned (.string (mk (few (bl s1)))) ∧ w' = W) := fun W => few_any s1 W hs1
  have HF2 : Hid (∀ W : World, Calls Tryd.prog 9 #[.string s2] W fun e w' => e = .returned (.string (mk (few (bl s2)))) ∧ w' = W) := fun W => few_any s2 W hs2
  have HF3 : Hid (∀ W : World, Calls Tryd.prog 9 #[.string s3] W fun e w' => e = .returned (.string (mk (few (bl s3)))) ∧ w' = W) := fun W => few_any s3 W hs3
  have hp := few_length (bl s1)
  have hf := few_length (bl s2)
  have ht := few_length (bl s3)
  generalize few (bl s1) = p at *
  generalize few (bl s2) = f at *
  generalize few (bl s3) = t at *
  have M1 : Hid (∀ W : World, Tab W → Calls Tryd.prog 31 #[.string (mk p), .string (mk f), .string (mk t)] W fun e w' => e = .returned (.tuple #[.string (mk (Pm.moved p f t).1), .int .i64 ((Pm.moved p f t).2 : Nat)]) ∧ Below W.heap.size W w') := fun W hW => moved_any (mk p) (mk f) (mk t) W (by rw [mk_size]; omega) (by rw [mk_size]; omega) (by rw [mk_size]; omega) hW
  have HW : Hid (∀ W : World, Tab W → Calls Tryd.prog 23 #[] W fun e w' => e = .returned (.bool true) ∧ Below W.heap.size W w') := fun W hW => works_any W hW
  have HB0 : Hid (Below w.heap.size w w) := Below.refl _ _
  have HT0 : Hid (Tab w) := hT
  have hz0 : w.heap.size ≤ w.heap.size := Nat.le_refl _
  clear hs1 hs2 hs3 hT
  go_enter Tryd.func8, Tryd.ntmps8
  go_wp2_with fail
  refine (HF1.out _).mono ?_
  rintro e wS ⟨rfl, hwS⟩
  rw [hwS]
  clear hwS wS
  go_wp2_with fail
  refine (HF2.out _).mono ?_
  rintro e wS ⟨rfl, hwS⟩
  rw [hwS]
  clear hwS wS
  go_wp2_with fail
  refine (HF3.out _).mono ?_
  rintro e wS ⟨rfl, hwS⟩
  rw [hwS]
  clear hwS wS
  clear HF1 HF2 HF3
  go_wp2_with fail
  refine (M1.out _ HT0.out).mono ?_
  rintro e w1 ⟨rfl, hB1⟩
  have HB1 : Hid (Below w.heap.size w w1) := HB0.out.trans (hB1.mono hz0)
  have HT1 : Hid (Tab w1) := HT0.out.below hB1
  have hz1 := HB1.out.size
  clear hB1
  by_cases h0 : (Pm.moved p f t).2 = 0
  · have hml := moved_len h0
    have M2 : Hid (∀ W : World, Tab W → Calls Tryd.prog 31 #[.string (mk (Pm.moved p f t).1), .string (mk t), .string (mk f)] W fun e w' => e = .returned (.tuple #[.string (mk (Pm.moved (Pm.moved p f t).1 t f).1), .int .i64 ((Pm.moved (Pm.moved p f t).1 t f).2 : Nat)]) ∧ Below W.heap.size W w') := fun W hW => moved_any (mk (Pm.moved p f t).1) (mk t) (mk f) W (by rw [mk_size]; omega) (by rw [mk_size]; omega) (by rw [mk_size]; omega) hW
    have ET : Is (mk t).toList.isEmpty (decide (t = [])) := ⟨by rw [ByteArray.toList_eq]; show t.isEmpty = _; cases t <;> simp⟩
    have EF : Is (mk f).toList.isEmpty (decide (f = [])) := ⟨by rw [ByteArray.toList_eq]; show f.isEmpty = _; cases f <;> simp⟩
    by_cases hr : t = [] ∧ f ≠ []
    · have e2 : (Pm.moved (Pm.moved p f t).1 t f).2 = 2 := by
        obtain ⟨rfl, hfn⟩ := hr
        exact back_root h0 hfn
      rw [e2] at M2
      have et : (mk t).toList.isEmpty = true := by rw [ET.eq, decide_eq_true hr.1]
      have ef : (mk f).toList.isEmpty = false := by rw [EF.eq, decide_eq_false hr.2]
      clear e2 hr ET EF M1
      rw [h0]
      clear h0 hml
      generalize (Pm.moved (Pm.moved p f t).1 t f).1 = b at *
      generalize (Pm.moved p f t).1 = m at *
      generalize mk m = M at *
      generalize mk b = B at *
      generalize mk p = P at *
      generalize mk f = F at *
      generalize mk t = T at *
      go_wp2_with fail
      refine (M2.out _ HT1.out).mono ?_
      rintro e w2 ⟨rfl, hB2⟩
      have HB2 : Hid (Below w.heap.size w w2) := HB1.out.trans (hB2.mono hz1)
      have HT2 : Hid (Tab w2) := HT1.out.below hB2
      have hz2 := HB2.out.size
      clear hB2
      go_wp2_with fail
      refine (HW.out _ HT2.out).mono ?_
      rintro e w3 ⟨rfl, hB3⟩
      have HB3 : Hid (Below w.heap.size w w3) := HB2.out.trans (hB3.mono hz2)
      have HT3 : Hid (Tab w3) := HT2.out.below hB3
      have hz3 := HB3.out.size
      clear hB3
      go_wp2_with fail
      go_ret
      exact ⟨rfl, HB3.out⟩
    · have hbk : Back p f t (Pm.moved p f t).1 := there_back h0 fun e => by
        by_cases h' : f = []
        · exact h'
        · exact absurd ⟨e, h'⟩ hr
      rw [hbk.back] at M2
      have hd := hbk.deep
      have hth := hbk.there
      have SM : Hid (∀ W : World, Tab W → Calls Tryd.prog 17 #[.string (mk (Pm.moved p f t).1)] W fun e w' => ∃ ad c, e = .returned (.slice ad (Pm.split (Pm.moved p f t).1).length c) ∧ Below W.heap.size W w') := fun W hW => psplit_slice (mk (Pm.moved p f t).1) W (by rw [mk_size]; omega) hW
      have SP : Hid (∀ W : World, Tab W → Calls Tryd.prog 17 #[.string (mk p)] W fun e w' => ∃ ad c, e = .returned (.slice ad (Pm.split p).length c) ∧ Below W.heap.size W w') := fun W hW => psplit_slice (mk p) W (by rw [mk_size]; omega) hW
      have SF : Hid (∀ W : World, Tab W → Calls Tryd.prog 17 #[.string (mk f)] W fun e w' => ∃ ad c, e = .returned (.slice ad (Pm.split f).length c) ∧ Below W.heap.size W w') := fun W hW => psplit_slice (mk f) W (by rw [mk_size]; omega) hW
      have ST : Hid (∀ W : World, Tab W → Calls Tryd.prog 17 #[.string (mk t)] W fun e w' => ∃ ad c, e = .returned (.slice ad (Pm.split t).length c) ∧ Below W.heap.size W w') := fun W hW => psplit_slice (mk t) W (by rw [mk_size]; omega) hW
      have BT : Hid (∀ W : World, Tab W → Calls Tryd.prog 26 #[.string (mk t), .string (mk (Pm.moved p f t).1)] W fun e w' => e = .returned (.bool (Pm.below t (Pm.moved p f t).1)) ∧ Below W.heap.size W w') := fun W hW => below_any (mk t) (mk (Pm.moved p f t).1) W (by rw [mk_size]; omega) hW
      have l1 := split_short (Pm.moved p f t).1
      have l2 := split_short p
      have l3 := split_short f
      have l4 := split_short t
      have EMT : Is ((mk (Pm.moved p f t).1).toList == (mk t).toList) (decide ((Pm.moved p f t).1 = t)) := ⟨str_eq' _ (mk t)⟩
      have hg : (t = [] ∧ f ≠ []) = False := by simpa using hr
      obtain ⟨bt, bf, het, hef, hgd⟩ : ∃ bt bf : Bool, (mk t).toList.isEmpty = bt ∧ (mk f).toList.isEmpty = bf ∧ (bt = false ∨ bf = true) := ⟨_, _, rfl, rfl, by
        rw [ET.eq, EF.eq]
        by_cases h1 : t = []
        · right
          by_cases h2 : f = []
          · simp [h2]
          · exact absurd ⟨h1, h2⟩ hr
        · left; simp [h1]⟩
      clear hbk hr hg ET EF M1
      rw [h0]
      clear h0 hml
      generalize (Pm.moved p f t).1 = m at *
      generalize (Pm.split m).length = n1 at *
      generalize (Pm.split p).length = n2 at *
      generalize (Pm.split f).length = n3 at *
      generalize (Pm.split t).length = n4 at *
      have w1' : IntKind.i64.wrap ((n1 : Int) - (n4 : Int)) = (n1 : Int) - (n4 : Int) := by rw [IntKind.wrap_i64]; omega
      have w2' : IntKind.i64.wrap ((n2 : Int) - (n3 : Int)) = (n2 : Int) - (n3 : Int) := by rw [IntKind.wrap_i64]; omega
      obtain ⟨dd, hd1, hd2⟩ : ∃ dd : Int, (n1 : Int) - (n4 : Int) = dd ∧ (n2 : Int) - (n3 : Int) = dd := ⟨_, rfl, by omega⟩
      have hdw : IntKind.i64.wrap dd = dd := by rw [← hd1]; exact w1'
      have epp : ((mk p).toList == (mk p).toList) = true := by simp
      clear w1' w2' hd l1 l2 l3 l4
      obtain ⟨bmt, hmt, hth'⟩ : ∃ bmt : Bool, ((mk m).toList == (mk t).toList) = bmt ∧ (bmt = true ∨ (bmt = false ∧ Pm.below t m = true)) := ⟨_, rfl, by
        rw [EMT.eq]
        by_cases h : m = t
        · exact .inl (decide_eq_true h)
        · exact .inr ⟨decide_eq_false h, hth.resolve_left h⟩⟩
      clear hth EMT
      generalize Pm.below t m = bb at *
      generalize mk m = M at *
      generalize mk p = P at *
      generalize mk f = F at *
      generalize mk t = T at *
      go_wp2_with fail
      refine (M2.out _ HT1.out).mono ?_
      rintro e w2 ⟨rfl, hB2⟩
      have HB2 : Hid (Below w.heap.size w w2) := HB1.out.trans (hB2.mono hz1)
      have HT2 : Hid (Tab w2) := HT1.out.below hB2
      have hz2 := HB2.out.size
      clear hB2
      rcases hgd with rfl | rfl
      · skip
        go_wp2_with fail
        refine (SM.out _ HT2.out).mono ?_
        rintro e w3 ⟨ad3, cp3, rfl, hB3⟩
        have HB3 : Hid (Below w.heap.size w w3) := HB2.out.trans (hB3.mono hz2)
        have HT3 : Hid (Tab w3) := HT2.out.below hB3
        have hz3 := HB3.out.size
        clear hB3
        go_wp2_with fail
        refine (ST.out _ HT3.out).mono ?_
        rintro e w4 ⟨ad4, cp4, rfl, hB4⟩
        have HB4 : Hid (Below w.heap.size w w4) := HB3.out.trans (hB4.mono hz3)
        have HT4 : Hid (Tab w4) := HT3.out.below hB4
        have hz4 := HB4.out.size
        clear hB4
        go_wp2_with fail
        refine (SP.out _ HT4.out).mono ?_
        rintro e w5 ⟨ad5, cp5, rfl, hB5⟩
        have HB5 : Hid (Below w.heap.size w w5) := HB4.out.trans (hB5.mono hz4)
        have HT5 : Hid (Tab w5) := HT4.out.below hB5
        have hz5 := HB5.out.size
        clear hB5
        go_wp2_with fail
        refine (SF.out _ HT5.out).mono ?_
        rintro e w6 ⟨ad6, cp6, rfl, hB6⟩
        have HB6 : Hid (Below w.heap.size w w6) := HB5.out.trans (hB6.mono hz5)
        have HT6 : Hid (Tab w6) := HT5.out.below hB6
        have hz6 := HB6.out.size
        clear hB6
        clear HB2 HT2 hz2 HB3 HT3 hz3 HB4 HT4 hz4 HB5 HT5 hz5
        rcases hth' with rfl | ⟨rfl, rfl⟩
        · skip
          go_wp2_with fail
          refine (HW.out _ HT6.out).mono ?_
          rintro e w7 ⟨rfl, hB7⟩
          have HB7 : Hid (Below w.heap.size w w7) := HB6.out.trans (hB7.mono hz6)
          have HT7 : Hid (Tab w7) := HT6.out.below hB7
          have hz7 := HB7.out.size
          clear hB7
          go_wp2_with fail
          go_ret
          exact ⟨rfl, HB7.out⟩
        · skip
          go_wp2_with fail
          refine (BT.out _ HT6.out).mono ?_
          rintro e w7 ⟨rfl, hB7⟩
          have HB7 : Hid (Below w.heap.size w w7) := HB6.out.trans (hB7.mono hz6)
          have HT7 : Hid (Tab w7) := HT6.out.below hB7
          have hz7 := HB7.out.size
          clear hB7
          go_wp2_with fail
          refine (HW.out _ HT7.out).mono ?_
          rintro e w8 ⟨rfl, hB8⟩
          have HB8 : Hid (Below w.heap.size w w8) := HB7.out.trans (hB8.mono hz7)
          have HT8 : Hid (Tab w8) := HT7.out.below hB8
          have hz8 := HB8.out.size
          clear hB8
          go_wp2_with fail
          go_ret
          exact ⟨rfl, HB8.out⟩
      · cases bt with
        | false =>
          go_wp2_with fail
          refine (SM.out _ HT2.out).mono ?_
          rintro e w3 ⟨ad3, cp3, rfl, hB3⟩
          have HB3 : Hid (Below w.heap.size w w3) := HB2.out.trans (hB3.mono hz2)
          have HT3 : Hid (Tab w3) := HT2.out.below hB3
          have hz3 := HB3.out.size
          clear hB3
          go_wp2_with fail
          refine (ST.out _ HT3.out).mono ?_
          rintro e w4 ⟨ad4, cp4, rfl, hB4⟩
          have HB4 : Hid (Below w.heap.size w w4) := HB3.out.trans (hB4.mono hz3)
          have HT4 : Hid (Tab w4) := HT3.out.below hB4
          have hz4 := HB4.out.size
          clear hB4
          go_wp2_with fail
          refine (SP.out _ HT4.out).mono ?_
          rintro e w5 ⟨ad5, cp5, rfl, hB5⟩
          have HB5 : Hid (Below w.heap.size w w5) := HB4.out.trans (hB5.mono hz4)
          have HT5 : Hid (Tab w5) := HT4.out.below hB5
          have hz5 := HB5.out.size
          clear hB5
          go_wp2_with fail
          refine (SF.out _ HT5.out).mono ?_
          rintro e w6 ⟨ad6, cp6, rfl, hB6⟩
          have HB6 : Hid (Below w.heap.size w w6) := HB5.out.trans (hB6.mono hz5)
          have HT6 : Hid (Tab w6) := HT5.out.below hB6
          have hz6 := HB6.out.size
          clear hB6
          clear HB2 HT2 hz2 HB3 HT3 hz3 HB4 HT4 hz4 HB5 HT5 hz5
          rcases hth' with rfl | ⟨rfl, rfl⟩
          · skip
            go_wp2_with fail
            refine (HW.out _ HT6.out).mono ?_
            rintro e w7 ⟨rfl, hB7⟩
            have HB7 : Hid (Below w.heap.size w w7) := HB6.out.trans (hB7.mono hz6)
            have HT7 : Hid (Tab w7) := HT6.out.below hB7
            have hz7 := HB7.out.size
            clear hB7
            go_wp2_with fail
            go_ret
            exact ⟨rfl, HB7.out⟩
          · skip
            go_wp2_with fail
            refine (BT.out _ HT6.out).mono ?_
            rintro e w7 ⟨rfl, hB7⟩
            have HB7 : Hid (Below w.heap.size w w7) := HB6.out.trans (hB7.mono hz6)
            have HT7 : Hid (Tab w7) := HT6.out.below hB7
            have hz7 := HB7.out.size
            clear hB7
            go_wp2_with fail
            refine (HW.out _ HT7.out).mono ?_
            rintro e w8 ⟨rfl, hB8⟩
            have HB8 : Hid (Below w.heap.size w w8) := HB7.out.trans (hB8.mono hz7)
            have HT8 : Hid (Tab w8) := HT7.out.below hB8
            have hz8 := HB8.out.size
            clear hB8
            go_wp2_with fail
            go_ret
            exact ⟨rfl, HB8.out⟩
        | true =>
          go_wp2_with fail
          refine (SM.out _ HT2.out).mono ?_
          rintro e w3 ⟨ad3, cp3, rfl, hB3⟩
          have HB3 : Hid (Below w.heap.size w w3) := HB2.out.trans (hB3.mono hz2)
          have HT3 : Hid (Tab w3) := HT2.out.below hB3
          have hz3 := HB3.out.size
          clear hB3
          go_wp2_with fail
          refine (ST.out _ HT3.out).mono ?_
          rintro e w4 ⟨ad4, cp4, rfl, hB4⟩
          have HB4 : Hid (Below w.heap.size w w4) := HB3.out.trans (hB4.mono hz3)
          have HT4 : Hid (Tab w4) := HT3.out.below hB4
          have hz4 := HB4.out.size
          clear hB4
          go_wp2_with fail
          refine (SP.out _ HT4.out).mono ?_
          rintro e w5 ⟨ad5, cp5, rfl, hB5⟩
          have HB5 : Hid (Below w.heap.size w w5) := HB4.out.trans (hB5.mono hz4)
          have HT5 : Hid (Tab w5) := HT4.out.below hB5
          have hz5 := HB5.out.size
          clear hB5
          go_wp2_with fail
          refine (SF.out _ HT5.out).mono ?_
          rintro e w6 ⟨ad6, cp6, rfl, hB6⟩
          have HB6 : Hid (Below w.heap.size w w6) := HB5.out.trans (hB6.mono hz5)
          have HT6 : Hid (Tab w6) := HT5.out.below hB6
          have hz6 := HB6.out.size
          clear hB6
          clear HB2 HT2 hz2 HB3 HT3 hz3 HB4 HT4 hz4 HB5 HT5 hz5
          rcases hth' with rfl | ⟨rfl, rfl⟩
          · skip
            go_wp2_with fail
            refine (HW.out _ HT6.out).mono ?_
            rintro e w7 ⟨rfl, hB7⟩
            have HB7 : Hid (Below w.heap.size w w7) := HB6.out.trans (hB7.mono hz6)
            have HT7 : Hid (Tab w7) := HT6.out.below hB7
            have hz7 := HB7.out.size
            clear hB7
            go_wp2_with fail
            go_ret
            exact ⟨rfl, HB7.out⟩
          · skip
            go_wp2_with fail
            refine (BT.out _ HT6.out).mono ?_
            rintro e w7 ⟨rfl, hB7⟩
            have HB7 : Hid (Below w.heap.size w w7) := HB6.out.trans (hB7.mono hz6)
            have HT7 : Hid (Tab w7) := HT6.out.below hB7
            have hz7 := HB7.out.size
            clear hB7
            go_wp2_with fail
            refine (HW.out _ HT7.out).mono ?_
            rintro e w8 ⟨rfl, hB8⟩
            have HB8 : Hid (Below w.heap.size w w8) := HB7.out.trans (hB8.mono hz7)
            have HT8 : Hid (Tab w8) := HT7.out.below hB8
            have hz8 := HB8.out.size
            clear hB8
            go_wp2_with fail
            go_ret
            exact ⟨rfl, HB8.out⟩
  · have e0 := moved_err h0
    rw [e0]
    have hA1 : ¬ (((Pm.moved p f t).2 : Nat) : Int) = 0 := by omega
    have hA2 : ((((Pm.moved p f t).2 : Nat) : Int) == 0) = false := by simp only [beq_eq_false_iff_ne, ne_eq]; exact hA1
    clear h0 e0
    generalize (Pm.moved p f t).2 = ea at *
    have e1 : (mk []).toList.isEmpty = true := by rw [ByteArray.toList_eq]; rfl
    generalize mk [] = X at *
    go_wp2_with fail
    refine (HW.out _ HT1.out).mono ?_
    rintro e w2 ⟨rfl, hB2⟩
    have HB2 : Hid (Below w.heap.size w w2) := HB1.out.trans (hB2.mono hz1)
    have HT2 : Hid (Tab w2) := HT1.out.below hB2
    have hz2 := HB2.out.size
    clear hB2
    go_wp2_with fail
    go_ret
    exact ⟨rfl, HB2.out⟩
end Go.Proofs.YtlgalcpnodadiaaDoor
