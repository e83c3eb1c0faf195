/- Proved: the document's Join answers as the program's. -/
import Derived.Test.YtlgalcpnodadiaaDoorRSm
import Derived.Test.YtlgalcpnodadiaaDoorJoinF
namespace Go.Proofs.YtlgalcpnodadiaaDoor
open Go.RowKit
theorem rnames_len (s : ByteArray) (w : World) (hs : s.size ≤ 30000) :
    Calls Tryd.prog 34 #[.string s] w fun e w' => ∃ ad cap, e = .returned (.slice ad (Pm.names (bl s)).length cap) ∧ Below w.heap.size w w' :=
  (rnames_row s w hs).mono fun _ _ ⟨g, cap, he, _, _, _, _, _, hb⟩ => ⟨some ⟨g, 0, none⟩, cap, he, hb⟩
set_option maxHeartbeats 2000000 in
set_option maxRecDepth 20000 in
theorem rjoin_any (d n : ByteArray) (w : World) (hd : d.size ≤ 4000) (hn : n.size ≤ 4000) :
    Calls Tryd.prog 25 #[.string d, .string n] w fun e w' => e = .returned (.tuple #[.string (mk (Pm.joined (bl d) (bl n)).1), .int .i64 ((Pm.joined (bl d) (bl n)).2 : Nat)]) ∧ Below w.heap.size w w' := by
  have HM : Is (Pm.joined (bl d) (bl n)) (if (Pm.kind (bl d)).2 ≠ 0 then ([], (Pm.kind (bl d)).2) else if (Pm.kind (bl d)).1 = 2 then ([], 13) else if bl n = [] ∨ 47 ∈ bl n then ([], 18) else Pm.checked (Pm.chain (bl d) (bl n))) := ⟨rfl⟩
  have KD : Hid (∀ W : World, Calls Tryd.prog 11 #[.string d] W fun e w' => e = .returned (.tuple #[.int .i64 ((Pm.kind (bl d)).1 : Nat), .int .i64 ((Pm.kind (bl d)).2 : Nat)]) ∧ Below W.heap.size W w') := fun W => rkind_any d W (by omega)
  have NN := (show Hid (∀ W : World, Calls Tryd.prog 34 #[.string n] W fun e w' => ∃ ad cap, e = .returned (.slice ad (Pm.names (bl n)).length cap) ∧ Below W.heap.size W w') from fun W => rnames_len n W (by omega))
  have hnl := Pm.names_length (bl n)
  have EN : Is n.toList.isEmpty (decide (bl n = [])) := ⟨by rw [ByteArray.toList_eq]; show (bl n).isEmpty = _; cases bl n <;> simp⟩
  have ED : Is d.toList.isEmpty (decide (bl d = [])) := ⟨by rw [ByteArray.toList_eq]; show (bl d).isEmpty = _; cases bl d <;> simp⟩
  have SN : Hid (∀ W : World, Calls Tryd.prog 38 #[.string n] W fun e w' => e = .returned (.tuple #[.string (mk (Pm.checked (bl n)).1), .int .i64 ((Pm.checked (bl n)).2 : Nat)]) ∧ Below W.heap.size W w') := fun W => rsure_any n W (by omega)
  have hsd := bl_length d
  have hsn := bl_length n
  have SC : Hid (∀ W : World, Calls Tryd.prog 38 #[.string (mk (bl d ++ 47 :: bl n))] W fun e w' => e = .returned (.tuple #[.string (mk (Pm.checked (bl d ++ 47 :: bl n)).1), .int .i64 ((Pm.checked (bl d ++ 47 :: bl n)).2 : Nat)]) ∧ Below W.heap.size W w') := fun W => rsure_any (mk (bl d ++ 47 :: bl n)) W (by rw [mk_size]; simp; omega)
  have A1 : ∀ W : World, (Op.stringOp .add d ⟨#[47]⟩).run Tryd.prog W = .ok (.string (mk (bl d ++ [47]))) W := fun W => by
    rw [run_string_add_sum W _ _ (by show d.size + 1 ≤ _; omega)]
    rw [show d ++ ⟨#[47]⟩ = mk (bl d ++ [47]) from bl_inj (by rw [bl_append]; rfl)]
  have A2 : ∀ W : World, (Op.stringOp .add (mk (bl d ++ [47])) n).run Tryd.prog W = .ok (.string (mk (bl d ++ 47 :: bl n))) W := fun W => by
    rw [run_string_add_sum W _ _ (by rw [mk_size]; simp; omega)]
    rw [show mk (bl d ++ [47]) ++ n = mk (bl d ++ 47 :: bl n) from bl_inj (by rw [bl_append, bl_mk, bl_mk]; simp)]
  have HB0 : Hid (Below w.heap.size w w) := Below.refl _ _
  have hz0 : w.heap.size ≤ w.heap.size := Nat.le_refl _
  have HC1 : Hid (bl n ≠ [] → bl d ≠ [] → Pm.chain (bl d) (bl n) = bl d ++ 47 :: bl n) := fun h1 h2 => by
    rw [Pm.chain, if_neg (fun h => h.elim h2 h1)]
  have HC2 : Hid (bl d = [] → Pm.chain (bl d) (bl n) = bl n) := fun h => by rw [Pm.chain, if_pos (.inl h), h]; rfl
  clear hsd hsn
  go_enter Tryd.func25, Tryd.ntmps25
  by_cases h0 : (Pm.kind (bl d)).2 = 0
  · rw [h0] at KD
    rw [if_neg (fun h => h h0)] at HM
    clear h0
    by_cases h2 : (Pm.kind (bl d)).1 = 2
    · rw [h2] at KD
      rw [if_pos h2] at HM
      clear h2 hnl
      go_wp2_with fail
      refine (KD.out _).mono ?_
      rintro e w1 ⟨rfl, hB1⟩
      have HB1 : Hid (Below w.heap.size w w1) := HB0.out.trans (hB1.mono hz0)
      have hz1 := HB1.out.size
      clear hB1
      go_wp2_with fail
      go_ret2
      exact ⟨by rw [HM.eq]; rfl, HB1.out⟩
    · rw [if_neg h2] at HM
      have k1 : ¬ (((Pm.kind (bl d)).1 : Nat) : Int) = 2 := by omega
      have k2 : ((((Pm.kind (bl d)).1 : Nat) : Int) == 2) = false := by simp only [beq_eq_false_iff_ne, ne_eq]; exact k1
      clear h2
      generalize (Pm.kind (bl d)).1 = kk at *
      by_cases hn0 : bl n = []
      · have en : n.toList.isEmpty = true := by rw [EN.eq, decide_eq_true hn0]
        rw [if_pos (.inl hn0)] at HM
        clear hn0 EN ED hnl
        go_wp2_with fail
        refine (KD.out _).mono ?_
        rintro e w1 ⟨rfl, hB1⟩
        have HB1 : Hid (Below w.heap.size w w1) := HB0.out.trans (hB1.mono hz0)
        have hz1 := HB1.out.size
        clear hB1
        go_wp2_with fail
        go_ret2
        exact ⟨by rw [HM.eq]; rfl, HB1.out⟩
      · have en : n.toList.isEmpty = false := by rw [EN.eq, decide_eq_false hn0]
        by_cases hns : 47 ∈ bl n
        · rw [if_pos (.inr hns)] at HM
          have hc : 0 < (bl n).count 47 := List.count_pos_iff.2 hns
          have i1 : (1 : Int) < (((Pm.names (bl n)).length : Nat) : Int) := by omega
          clear hn0 EN ED hns hc hnl
          generalize (Pm.names (bl n)).length = nl at *
          go_wp2_with fail
          refine (KD.out _).mono ?_
          rintro e w1 ⟨rfl, hB1⟩
          have HB1 : Hid (Below w.heap.size w w1) := HB0.out.trans (hB1.mono hz0)
          have hz1 := HB1.out.size
          clear hB1
          go_wp2_with fail
          refine (NN.out _).mono ?_
          rintro e w2 ⟨ad, cap, rfl, hB2⟩
          have HB2 : Hid (Below w.heap.size w w2) := HB1.out.trans (hB2.mono hz1)
          clear hB2
          go_wp2_with fail
          go_ret2
          exact ⟨by rw [HM.eq]; rfl, HB2.out⟩
        · rw [if_neg (fun h => h.elim hn0 hns)] at HM
          rw [List.count_eq_zero_of_not_mem hns] at hnl
          rw [hnl] at NN
          have i1 : ¬ (1 : Int) < 1 := by omega
          by_cases hd0 : bl d = []
          · have ed : d.toList.isEmpty = true := by rw [ED.eq, decide_eq_true hd0]
            rw [HC2.out hd0] at HM
            clear hn0 EN ED hns hnl hd0 HC1 HC2 SC
            generalize Pm.checked (bl n) = C at *
            go_wp2_with fail
            refine (KD.out _).mono ?_
            rintro e w1 ⟨rfl, hB1⟩
            have HB1 : Hid (Below w.heap.size w w1) := HB0.out.trans (hB1.mono hz0)
            have hz1 := HB1.out.size
            clear hB1
            go_wp2_with fail
            refine (NN.out _).mono ?_
            rintro e w2 ⟨ad, cap, rfl, hB2⟩
            have HB2 : Hid (Below w.heap.size w w2) := HB1.out.trans (hB2.mono hz1)
            have hz2 := HB2.out.size
            clear hB2
            go_wp2_with fail
            refine (SN.out _).mono ?_
            rintro e w3 ⟨rfl, hB3⟩
            have HB3 : Hid (Below w.heap.size w w3) := HB2.out.trans (hB3.mono hz2)
            have hz3 := HB3.out.size
            clear hB3
            go_wp2_with fail
            go_ret2
            exact ⟨by rw [HM.eq]; rfl, HB3.out⟩
          · have ed : d.toList.isEmpty = false := by rw [ED.eq, decide_eq_false hd0]
            rw [HC1.out hn0 hd0] at HM
            clear hn0 EN ED hns hnl hd0 HC1 HC2 SN
            generalize Pm.checked (bl d ++ 47 :: bl n) = C at *
            generalize mk (bl d ++ 47 :: bl n) = X at *
            generalize mk (bl d ++ [47]) = Y at *
            go_wp2_with fail
            refine (KD.out _).mono ?_
            rintro e w1 ⟨rfl, hB1⟩
            have HB1 : Hid (Below w.heap.size w w1) := HB0.out.trans (hB1.mono hz0)
            have hz1 := HB1.out.size
            clear hB1
            go_wp2_with fail
            refine (NN.out _).mono ?_
            rintro e w2 ⟨ad, cap, rfl, hB2⟩
            have HB2 : Hid (Below w.heap.size w w2) := HB1.out.trans (hB2.mono hz1)
            have hz2 := HB2.out.size
            clear hB2
            go_wp2_with fail
            refine (SC.out _).mono ?_
            rintro e w3 ⟨rfl, hB3⟩
            have HB3 : Hid (Below w.heap.size w w3) := HB2.out.trans (hB3.mono hz2)
            have hz3 := HB3.out.size
            clear hB3
            go_wp2_with fail
            go_ret2
            exact ⟨by rw [HM.eq]; rfl, HB3.out⟩
  · rw [if_pos h0] at HM
    have k1 : ¬ (((Pm.kind (bl d)).2 : Nat) : Int) = 0 := by omega
    have k2 : ((((Pm.kind (bl d)).2 : Nat) : Int) == 0) = false := by simp only [beq_eq_false_iff_ne, ne_eq]; exact k1
    clear h0 hnl
    generalize (Pm.kind (bl d)).2 = kk at *
    generalize (Pm.kind (bl d)).1 = kj at *
    go_wp2_with fail
    refine (KD.out _).mono ?_
    rintro e w1 ⟨rfl, hB1⟩
    have HB1 : Hid (Below w.heap.size w w1) := HB0.out.trans (hB1.mono hz0)
    have hz1 := HB1.out.size
    clear hB1
    go_wp2_with fail
    go_ret2
    exact ⟨by rw [HM.eq]; rfl, HB1.out⟩
end Go.Proofs.YtlgalcpnodadiaaDoor
