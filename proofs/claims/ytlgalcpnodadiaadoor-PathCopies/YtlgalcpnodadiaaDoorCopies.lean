/- Proved: the walk of the law PathCopies. -/
import Derived.Test.YtlgalcpnodadiaaDoorParent
import Derived.Test.YtlgalcpnodadiaaDoorMathC
namespace Go.Proofs.YtlgalcpnodadiaaDoor
open Go.RowKit
theorem copied_len {p a : Pm.T} {n : Int} (h : Copied p n a) : a.length ≤ 96 := by
  rcases (Pm.isP_iff a).1 h.ok with h' | h'
  · rw [h']; simp
  · exact h'.len
theorem str_eq (a b : Pm.T) : ((mk a).toList == (mk b).toList) = decide (a = b) := by
  rw [ByteArray.toList_eq, ByteArray.toList_eq]
  show (a == b) = _
  by_cases h : a = b
  · subst h; simp
  · rw [decide_eq_false h]; simpa using h
set_option maxHeartbeats 4000000 in
set_option maxRecDepth 20000 in
theorem copies_walk (s t : ByteArray) (n m : Int) (w : World) (hs : s.size ≤ 9223372036854775807) (ht : t.size ≤ 9223372036854775807) (hT : Tab w) :
    Calls Tryd.prog 7 #[.string s, .string t, .agg #[.int .i64 n, .int .i64 m]] w fun e w' => e = .returned (.bool true) ∧ Below w.heap.size w w' := by
  have HF1 : Hid (∀ W : World, Calls Tryd.prog 9 #[.string s] W fun e w' => e = .returned (.string (mk (few (bl s)))) ∧ w' = W) := fun W => few_any s W hs
  have HF2 : Hid (∀ W : World, Calls Tryd.prog 9 #[.string t] W fun e w' => e = .returned (.string (mk (few (bl t)))) ∧ w' = W) := fun W => few_any t W ht
  have hp := few_length (bl s)
  have hq := few_length (bl t)
  generalize few (bl s) = p at *
  generalize few (bl t) = q at *
  have HCA : Hid (∀ W : World, Tab W → Calls Tryd.prog 30 #[.string (mk p), .int .i64 n] W fun e w' => e = .returned (.tuple #[.string (mk (Pm.copy p n).1), .int .i64 ((Pm.copy p n).2 : Nat)]) ∧ Below W.heap.size W w') := fun W hW => copy_any (mk p) n W (by rw [mk_size]; omega) hW
  have HCB : Hid (∀ W : World, Tab W → Calls Tryd.prog 30 #[.string (mk p), .int .i64 m] W fun e w' => e = .returned (.tuple #[.string (mk (Pm.copy p m).1), .int .i64 ((Pm.copy p m).2 : Nat)]) ∧ Below W.heap.size W w') := fun W hW => copy_any (mk p) m W (by rw [mk_size]; omega) hW
  have HCC : Hid (∀ W : World, Tab W → Calls Tryd.prog 30 #[.string (mk q), .int .i64 n] W fun e w' => e = .returned (.tuple #[.string (mk (Pm.copy q n).1), .int .i64 ((Pm.copy q n).2 : Nat)]) ∧ Below W.heap.size W w') := fun W hW => copy_any (mk q) n W (by rw [mk_size]; omega) hW
  obtain ⟨W0, hW0⟩ : ∃ W0, w.alloc (.cells #[.int .i64 n, .int .i64 m] 45) = W0 := ⟨_, rfl⟩
  have HB0 : Hid (Below w.heap.size w W0) := by rw [← hW0]; exact (Below.refl _ w).alloc (Nat.le_refl _) _
  have HT0 : Hid (Tab W0) := hT.below HB0.out
  have hz0 : W0.heap.size = w.heap.size + 1 := by rw [← hW0]; simp
  have HL : Hid (∀ W : World, Below W0.heap.size W0 W → W.cell? ⟨w.heap.size, 0, none⟩ = some (.int .i64 n) ∧ W.cell? ⟨w.heap.size, 1, none⟩ = some (.int .i64 m)) := fun W hW => by
    have hh : W.heap[w.heap.size]? = some (.cells #[.int .i64 n, .int .i64 m] 45 (0, 0)) := (hW.block _ (by omega)).trans (by rw [← hW0]; exact heap_alloc_new w _)
    exact ⟨cell_of_row W _ 0 _ 45 (0, 0) hh, cell_of_row W _ 1 _ 45 (0, 0) hh⟩
  obtain ⟨c0, c1⟩ := HL.out W0 (Below.refl _ _)
  clear hs ht hT
  go_enter Tryd.func7, Tryd.ntmps7
  go_wp2_with fail
  refine (HF1.out _).mono ?_
  rintro e wS ⟨rfl, hwS⟩
  rw [hwS]
  clear hwS wS
  go_wp2_with fail
  refine (HF2.out _).mono ?_
  rintro e wS ⟨rfl, hwS⟩
  rw [hwS]
  clear hwS wS
  clear HF1 HF2 hW0
  have HBz : Hid (∀ W : World, Below W0.heap.size W0 W → Below w.heap.size w W) := fun W hW => HB0.out.trans (hW.mono (by omega))
  replace HB0 : Hid (Below W0.heap.size W0 W0) := Below.refl _ _
  replace hz0 : W0.heap.size ≤ W0.heap.size := Nat.le_refl _
  go_wp2_with fail
  refine (HCA.out _ HT0.out).mono ?_
  rintro e w1 ⟨rfl, hB1⟩
  have HB1 : Hid (Below W0.heap.size W0 w1) := HB0.out.trans (hB1.mono hz0)
  have HT1 : Hid (Tab w1) := HT0.out.below hB1
  have hz1 := HB1.out.size
  clear hB1
  obtain ⟨d0, d1⟩ := HL.out w1 HB1.out
  go_wp2_with fail
  refine (HCB.out _ HT1.out).mono ?_
  rintro e w2 ⟨rfl, hB2⟩
  have HB2 : Hid (Below W0.heap.size W0 w2) := HB1.out.trans (hB2.mono hz1)
  have HT2 : Hid (Tab w2) := HT1.out.below hB2
  have hz2 := HB2.out.size
  clear hB2
  obtain ⟨g0, g1⟩ := HL.out w2 HB2.out
  go_wp2_with fail
  refine (HCC.out _ HT2.out).mono ?_
  rintro e w3 ⟨rfl, hB3⟩
  have HB3 : Hid (Below W0.heap.size W0 w3) := HB2.out.trans (hB3.mono hz2)
  have HT3 : Hid (Tab w3) := HT2.out.below hB3
  have hz3 := HB3.out.size
  clear hB3
  obtain ⟨f0, f1⟩ := HL.out w3 HB3.out
  by_cases hA : (Pm.copy p n).2 = 0
  · have hc := copy_ok hA
    have hPP : Pm.parent (Pm.copy p n).1 = Pm.parent p := copied_parent hc
    have hlen := copied_len hc
    have HPP : Is (Pm.parent (Pm.copy p n).1) (Pm.parent p) := ⟨hPP⟩
    have HP1 : Hid (∀ W : World, Tab W → Calls Tryd.prog 14 #[.string (mk p)] W fun e w' => e = .returned (.tuple #[.string (mk ((Pm.parent p).getD [])), .bool (Pm.parent p).isSome]) ∧ Below W.heap.size W w') := fun W hW => parent_any (mk p) W (by rw [mk_size]; omega) hW
    have HP2 : Hid (∀ W : World, Tab W → Calls Tryd.prog 14 #[.string (mk (Pm.copy p n).1)] W fun e w' => e = .returned (.tuple #[.string (mk ((Pm.parent p).getD [])), .bool (Pm.parent p).isSome]) ∧ Below W.heap.size W w') := fun W hW => by rw [← HPP.eq]; exact parent_any (mk (Pm.copy p n).1) W (by rw [mk_size]; omega) hW
    have E1 : Is ((mk (Pm.copy p n).1).toList == (mk p).toList) false := ⟨by rw [str_eq, decide_eq_false (copied_ne hc)]⟩
    have E2 : (Pm.copy p m).2 = 0 → ((mk (Pm.copy p n).1).toList == (mk (Pm.copy p m).1).toList) = decide (n = m) := fun h => by rw [str_eq]; exact decide_eq_decide.2 (copied_num hc (copy_ok h))
    have E3 : (Pm.copy q n).2 = 0 → ((mk (Pm.copy p n).1).toList == (mk (Pm.copy q n).1).toList) = ((mk p).toList == (mk q).toList) := fun h => by rw [str_eq, str_eq]; exact decide_eq_decide.2 (copied_file hc (copy_ok h))
    clear hc hPP HPP
    rw [hA]
    generalize (Pm.copy p n).1 = a at *
    generalize (Pm.copy p m).1 = b at *
    generalize (Pm.copy q n).1 = c at *
    generalize (Pm.copy p m).2 = eb at *
    generalize (Pm.copy q n).2 = ec at *
    generalize (Pm.parent p).getD [] = u at *
    generalize (Pm.parent p).isSome = o at *
    generalize mk a = A at *
    generalize mk b = B at *
    generalize mk c = C at *
    generalize mk u = U at *
    generalize mk p = P at *
    generalize mk q = Q at *
    have HW5 : Hid (∀ W : World, Tab W → Calls Tryd.prog 23 #[] W fun e w' => e = .returned (.bool true) ∧ Below W.heap.size W w') := fun W hW => works_any W hW
    have HE2 : Hid (eb = 0 → (A.toList == B.toList) = decide (n = m)) := E2
    have HE3 : Hid (ec = 0 → (A.toList == C.toList) = (P.toList == Q.toList)) := E3
    clear E2 E3 c0 c1 d0 d1 g0 g1
    go_wp2_with fail
    refine (HP1.out _ HT3.out).mono ?_
    rintro e w4 ⟨rfl, hB4⟩
    have HB4 : Hid (Below W0.heap.size W0 w4) := HB3.out.trans (hB4.mono hz3)
    have HT4 : Hid (Tab w4) := HT3.out.below hB4
    have hz4 := HB4.out.size
    clear hB4
    go_wp2_with fail
    refine (HP2.out _ HT4.out).mono ?_
    rintro e w5 ⟨rfl, hB5⟩
    have HB5 : Hid (Below W0.heap.size W0 w5) := HB4.out.trans (hB5.mono hz4)
    have HT5 : Hid (Tab w5) := HT4.out.below hB5
    have hz5 := HB5.out.size
    clear hB5
    obtain ⟨l0, l1⟩ := HL.out w5 HB5.out
    have e1 : (A.toList == P.toList) = false := E1.eq
    clear E1 f0 f1
    obtain ⟨x1, hx1, hx2⟩ : ∃ x1 : Bool, (eb = 0 → (A.toList == B.toList) = x1) ∧ (n == m) = x1 := ⟨n == m, fun h => by rw [HE2.out h]; rfl, rfl⟩
    obtain ⟨x2, hx3, hx4⟩ : ∃ x2 : Bool, (ec = 0 → (A.toList == C.toList) = x2) ∧ (P.toList == Q.toList) = x2 := ⟨P.toList == Q.toList, fun h => HE3.out h, rfl⟩
    clear HE2 HE3
    by_cases hb0 : eb = 0
    · have y1 := hx1 hb0
      subst hb0
      clear hx1
      by_cases hc0 : ec = 0
      · have y2 := hx3 hc0
        subst hc0
        clear hx3
        go_wp2_with fail
        refine (HW5.out _ HT5.out).mono ?_
        rintro e w6 ⟨rfl, hB6⟩
        have HB6 : Hid (Below W0.heap.size W0 w6) := HB5.out.trans (hB6.mono hz5)
        have HT6 : Hid (Tab w6) := HT5.out.below hB6
        have hz6 := HB6.out.size
        clear hB6
        go_wp2_with fail
        go_ret
        exact ⟨rfl, HBz.out _ HB6.out⟩
      · have hc1 : ¬ ((ec : Nat) : Int) = 0 := by omega
        have hc2 : (((ec : Nat) : Int) == 0) = false := by simp only [beq_eq_false_iff_ne, ne_eq]; exact hc1
        clear hx3
        go_wp2_with fail
        refine (HW5.out _ HT5.out).mono ?_
        rintro e w6 ⟨rfl, hB6⟩
        have HB6 : Hid (Below W0.heap.size W0 w6) := HB5.out.trans (hB6.mono hz5)
        have HT6 : Hid (Tab w6) := HT5.out.below hB6
        have hz6 := HB6.out.size
        clear hB6
        go_wp2_with fail
        go_ret
        exact ⟨rfl, HBz.out _ HB6.out⟩
    · have hb1 : ¬ ((eb : Nat) : Int) = 0 := by omega
      have hb2 : (((eb : Nat) : Int) == 0) = false := by simp only [beq_eq_false_iff_ne, ne_eq]; exact hb1
      clear hx1
      by_cases hc0 : ec = 0
      · have y2 := hx3 hc0
        subst hc0
        clear hx3
        go_wp2_with fail
        refine (HW5.out _ HT5.out).mono ?_
        rintro e w6 ⟨rfl, hB6⟩
        have HB6 : Hid (Below W0.heap.size W0 w6) := HB5.out.trans (hB6.mono hz5)
        have HT6 : Hid (Tab w6) := HT5.out.below hB6
        have hz6 := HB6.out.size
        clear hB6
        go_wp2_with fail
        go_ret
        exact ⟨rfl, HBz.out _ HB6.out⟩
      · have hc1 : ¬ ((ec : Nat) : Int) = 0 := by omega
        have hc2 : (((ec : Nat) : Int) == 0) = false := by simp only [beq_eq_false_iff_ne, ne_eq]; exact hc1
        clear hx3
        go_wp2_with fail
        refine (HW5.out _ HT5.out).mono ?_
        rintro e w6 ⟨rfl, hB6⟩
        have HB6 : Hid (Below W0.heap.size W0 w6) := HB5.out.trans (hB6.mono hz5)
        have HT6 : Hid (Tab w6) := HT5.out.below hB6
        have hz6 := HB6.out.size
        clear hB6
        go_wp2_with fail
        go_ret
        exact ⟨rfl, HBz.out _ HB6.out⟩
  · have e0 := copy_err hA
    rw [e0]
    have hA1 : ¬ (((Pm.copy p n).2 : Nat) : Int) = 0 := by omega
    have hA2 : ((((Pm.copy p n).2 : Nat) : Int) == 0) = false := by simp only [beq_eq_false_iff_ne, ne_eq]; exact hA1
    clear hA e0
    generalize (Pm.copy p n).2 = ea at *
    have e1 : (mk []).toList.isEmpty = true := by rw [ByteArray.toList_eq]; rfl
    generalize mk [] = X at *
    have HW5 : Hid (∀ W : World, Tab W → Calls Tryd.prog 23 #[] W fun e w' => e = .returned (.bool true) ∧ Below W.heap.size W w') := fun W hW => works_any W hW
    go_wp2_with fail
    refine (HW5.out _ HT3.out).mono ?_
    rintro e w4 ⟨rfl, hB4⟩
    have HB4 : Hid (Below W0.heap.size W0 w4) := HB3.out.trans (hB4.mono hz3)
    have HT4 : Hid (Tab w4) := HT3.out.below hB4
    have hz4 := HB4.out.size
    clear hB4
    go_wp2_with fail
    go_ret
    exact ⟨rfl, HBz.out _ HB4.out⟩
end Go.Proofs.YtlgalcpnodadiaaDoor
