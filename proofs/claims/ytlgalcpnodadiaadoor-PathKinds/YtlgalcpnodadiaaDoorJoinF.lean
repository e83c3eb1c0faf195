/- Proved: Join answers the path of what has a name in a directory, or refuses. -/
import Derived.Test.YtlgalcpnodadiaaDoorMoved
namespace Go.Proofs.YtlgalcpnodadiaaDoor
open Go.RowKit
theorem idx_mem (l : Pm.T) : decide (0 ≤ Lib.indexByte l 47) = decide (47 ∈ l) := by
  rcases Pm.indexByte_one l 47 with ⟨e, h⟩ | ⟨a, b, e, rfl, _⟩
  · rw [e, decide_eq_false h]; rfl
  · rw [e]; exact (decide_eq_true (by omega)).trans (decide_eq_true (by simp)).symm
set_option maxHeartbeats 2000000 in
set_option maxRecDepth 20000 in
theorem joined_any (d n : ByteArray) (w : World) (hd : d.size ≤ 4000) (hn : n.size ≤ 4000) (hT : Tab w) :
    Calls Tryd.prog 24 #[.string d, .string n] w fun e w' => e = .returned (.tuple #[.string (mk (Pm.joined (bl d) (bl n)).1), .int .i64 ((Pm.joined (bl d) (bl n)).2 : Nat)]) ∧ Below w.heap.size w w' := by
  have HM : Is (Pm.joined (bl d) (bl n)) (if (Pm.kind (bl d)).2 ≠ 0 then ([], (Pm.kind (bl d)).2) else if (Pm.kind (bl d)).1 = 2 then ([], 13) else if bl n = [] ∨ 47 ∈ bl n then ([], 18) else Pm.checked (Pm.chain (bl d) (bl n))) := ⟨rfl⟩
  have KD : Hid (∀ W : World, Tab W → Calls Tryd.prog 10 #[.string d] W fun e w' => e = .returned (.tuple #[.int .i64 ((Pm.kind (bl d)).1 : Nat), .int .i64 ((Pm.kind (bl d)).2 : Nat)]) ∧ Below W.heap.size W w') := fun W hW => kind_any d W (by omega) hW
  have CN : Hid (∀ W : World, Calls Tryd.prog 45 #[.string n, .string ⟨#[47]⟩] W fun e w' => e = .returned (.bool (decide (47 ∈ bl n))) ∧ w' = W) := fun W => by
    have h := Tryd.strings_Contains_one n 47 W
    rw [show decide (0 ≤ Lib.indexByte n.data.toList 47) = _ from idx_mem (bl n)] at h; exact h
  have CH : Hid (∀ W : World, Calls Tryd.prog 46 #[.string d, .string n] W fun e w' => e = .returned (.string (mk (Pm.chain (bl d) (bl n)))) ∧ w' = W) := fun W => chain_any d n W (by omega) (by omega)
  have hcl := chain_length (bl d) (bl n)
  have hdl := bl_length d
  have hnl := bl_length n
  have CK : Hid (∀ W : World, Tab W → Calls Tryd.prog 36 #[.string (mk (Pm.chain (bl d) (bl n)))] W fun e w' => e = .returned (.tuple #[.string (mk (Pm.checked (Pm.chain (bl d) (bl n))).1), .int .i64 ((Pm.checked (Pm.chain (bl d) (bl n))).2 : Nat)]) ∧ Below W.heap.size W w') := fun W hW => checked_any (mk (Pm.chain (bl d) (bl n))) W (by rw [mk_size]; omega) hW
  have EN : Is n.toList.isEmpty (decide (bl n = [])) := ⟨by rw [ByteArray.toList_eq]; show (bl n).isEmpty = _; cases bl n <;> simp⟩
  have HB0 : Hid (Below w.heap.size w w) := Below.refl _ _
  have HT0 : Hid (Tab w) := hT
  have hz0 : w.heap.size ≤ w.heap.size := Nat.le_refl _
  clear hT hcl hdl hnl
  go_enter Tryd.func24, Tryd.ntmps24
  by_cases h0 : (Pm.kind (bl d)).2 = 0
  · rw [h0] at KD
    rw [if_neg (fun h => h h0)] at HM
    clear h0
    by_cases h2 : (Pm.kind (bl d)).1 = 2
    · rw [h2] at KD
      rw [if_pos h2] at HM
      clear h2
      go_wp2_with fail
      refine (KD.out _ HT0.out).mono ?_
      rintro e w1 ⟨rfl, hB1⟩
      have HB1 : Hid (Below w.heap.size w w1) := HB0.out.trans (hB1.mono hz0)
      have HT1 : Hid (Tab w1) := HT0.out.below hB1
      have hz1 := HB1.out.size
      clear hB1
      go_wp2_with fail
      go_ret2
      exact ⟨by rw [HM.eq]; rfl, HB1.out⟩
    · rw [if_neg h2] at HM
      have k1 : ¬ (((Pm.kind (bl d)).1 : Nat) : Int) = 2 := by omega
      have k2 : ((((Pm.kind (bl d)).1 : Nat) : Int) == 2) = false := by simp only [beq_eq_false_iff_ne, ne_eq]; exact k1
      clear h2
      generalize (Pm.kind (bl d)).1 = kk at *
      go_wp2_with fail
      refine (KD.out _ HT0.out).mono ?_
      rintro e w1 ⟨rfl, hB1⟩
      have HB1 : Hid (Below w.heap.size w w1) := HB0.out.trans (hB1.mono hz0)
      have HT1 : Hid (Tab w1) := HT0.out.below hB1
      have hz1 := HB1.out.size
      clear hB1
      by_cases hn0 : bl n = []
      · have en : n.toList.isEmpty = true := by rw [EN.eq, decide_eq_true hn0]
        rw [if_pos (.inl hn0)] at HM
        clear hn0 EN
        go_wp2_with fail
        go_ret2
        exact ⟨by rw [HM.eq]; rfl, HB1.out⟩
      · have en : n.toList.isEmpty = false := by rw [EN.eq, decide_eq_false hn0]
        by_cases hns : 47 ∈ bl n
        · rw [if_pos (.inr hns)] at HM
          rw [decide_eq_true hns] at CN
          clear hn0 EN hns
          go_wp2_with fail
          refine (CN.out _).mono ?_
          rintro e wS ⟨rfl, hwS⟩
          rw [hwS]
          clear hwS wS
          go_wp2_with fail
          go_ret2
          exact ⟨by rw [HM.eq]; rfl, HB1.out⟩
        · rw [if_neg (fun h => h.elim hn0 hns)] at HM
          rw [decide_eq_false hns] at CN
          clear hn0 EN hns
          generalize Pm.checked (Pm.chain (bl d) (bl n)) = C at *
          generalize mk (Pm.chain (bl d) (bl n)) = X at *
          go_wp2_with fail
          refine (CN.out _).mono ?_
          rintro e wS ⟨rfl, hwS⟩
          rw [hwS]
          clear hwS wS
          go_wp2_with fail
          refine (CH.out _).mono ?_
          rintro e wS ⟨rfl, hwS⟩
          rw [hwS]
          clear hwS wS
          go_wp2_with fail
          refine (CK.out _ HT1.out).mono ?_
          rintro e w2 ⟨rfl, hB2⟩
          have HB2 : Hid (Below w.heap.size w w2) := HB1.out.trans (hB2.mono hz1)
          have HT2 : Hid (Tab w2) := HT1.out.below hB2
          have hz2 := HB2.out.size
          clear hB2
          go_wp2_with fail
          go_ret2
          exact ⟨by rw [HM.eq]; rfl, HB2.out⟩
  · rw [if_pos h0] at HM
    have k1 : ¬ (((Pm.kind (bl d)).2 : Nat) : Int) = 0 := by omega
    have k2 : ((((Pm.kind (bl d)).2 : Nat) : Int) == 0) = false := by simp only [beq_eq_false_iff_ne, ne_eq]; exact k1
    clear h0
    generalize (Pm.kind (bl d)).1 = kk at *
    generalize (Pm.kind (bl d)).2 = ke at *
    go_wp2_with fail
    refine (KD.out _ HT0.out).mono ?_
    rintro e w1 ⟨rfl, hB1⟩
    have HB1 : Hid (Below w.heap.size w w1) := HB0.out.trans (hB1.mono hz0)
    have HT1 : Hid (Tab w1) := HT0.out.below hB1
    have hz1 := HB1.out.size
    clear hB1
    go_wp2_with fail
    go_ret2
    exact ⟨by rw [HM.eq]; rfl, HB1.out⟩
end Go.Proofs.YtlgalcpnodadiaaDoor
