/- Proved: the walk of the law PathPairs. -/
import Derived.Test.YtlgalcpnodadiaaDoorRBel
import Derived.Test.YtlgalcpnodadiaaDoorParts
import Derived.Test.YtlgalcpnodadiaaDoorOrder
namespace Go.Proofs.YtlgalcpnodadiaaDoor
open Go.RowKit
set_option maxHeartbeats 4000000 in
set_option maxRecDepth 20000 in
theorem pairs_walk (s1 s2 : ByteArray) (w : World) (hs1 : s1.size ≤ 9223372036854775807) (hs2 : s2.size ≤ 9223372036854775807) (hT : Tab w) :
    Calls Tryd.prog 4 #[.string s1, .string s2] w fun e w' => e = .returned (.bool true) ∧ Below w.heap.size w w' := by
  have HF1 : Hid (∀ W : World, Calls Tryd.prog 9 #[.string s1] W fun e w' => e = .returned (.string (mk (few (bl s1)))) ∧ w' = W) := fun W => few_any s1 W hs1
  have HF2 : Hid (∀ W : World, Calls Tryd.prog 9 #[.string s2] W fun e w' => e = .returned (.string (mk (few (bl s2)))) ∧ w' = W) := fun W => few_any s2 W hs2
  have hp := few_length (bl s1)
  have hd := few_length (bl s2)
  generalize few (bl s1) = p at *
  generalize few (bl s2) = d at *
  have JA : Hid (∀ W : World, Tab W → Calls Tryd.prog 24 #[.string (mk p), .string (mk d)] W fun e w' => e = .returned (.tuple #[.string (mk (Pm.joined p d).1), .int .i64 ((Pm.joined p d).2 : Nat)]) ∧ Below W.heap.size W w') := fun W hW => joined_any (mk p) (mk d) W (by rw [mk_size]; omega) (by rw [mk_size]; omega) hW
  have JR : Hid (∀ W : World, Calls Tryd.prog 25 #[.string (mk p), .string (mk d)] W fun e w' => e = .returned (.tuple #[.string (mk (Pm.joined p d).1), .int .i64 ((Pm.joined p d).2 : Nat)]) ∧ Below W.heap.size W w') := fun W => rjoin_any (mk p) (mk d) W (by rw [mk_size]; omega) (by rw [mk_size]; omega)
  have BA : Hid (∀ W : World, Tab W → Calls Tryd.prog 26 #[.string (mk p), .string (mk d)] W fun e w' => e = .returned (.bool (Pm.below p d)) ∧ Below W.heap.size W w') := fun W hW => below_any (mk p) (mk d) W (by rw [mk_size]; omega) hW
  have BR : Hid (∀ W : World, Calls Tryd.prog 27 #[.string (mk p), .string (mk d)] W fun e w' => e = .returned (.bool (Pm.below p d)) ∧ Below W.heap.size W w') := fun W => rbelow_any (mk p) (mk d) W (by rw [mk_size]; omega) (by rw [mk_size]; omega)
  have CA : Hid (∀ W : World, Calls Tryd.prog 28 #[.string (mk p), .string (mk d)] W fun e w' => e = .returned (.int .i64 (Pm.cmp p d)) ∧ Below W.heap.size W w') := fun W => compare_any (mk p) (mk d) W (by rw [mk_size]; omega)
  have CR : Hid (∀ W : World, Calls Tryd.prog 29 #[.string (mk p), .string (mk d)] W fun e w' => e = .returned (.int .i64 (Pm.cmp p d)) ∧ Below W.heap.size W w') := fun W => rcompare_any (mk p) (mk d) W (by rw [mk_size]; omega) (by rw [mk_size]; omega)
  have HW : Hid (∀ W : World, Tab W → Calls Tryd.prog 23 #[] W fun e w' => e = .returned (.bool true) ∧ Below W.heap.size W w') := fun W hW => works_any W hW
  have HB0 : Hid (Below w.heap.size w w) := Below.refl _ _
  have HT0 : Hid (Tab w) := hT
  have hz0 : w.heap.size ≤ w.heap.size := Nat.le_refl _
  have E1 : ((mk (Pm.joined p d).1).toList == (mk (Pm.joined p d).1).toList) = true := by simp
  have E2 : ((((Pm.joined p d).2 : Nat) : Int) == (((Pm.joined p d).2 : Nat) : Int)) = true := by simp
  have E3 : (Pm.below p d == Pm.below p d) = true := by simp
  have E4 : (Pm.cmp p d == Pm.cmp p d) = true := by simp
  generalize mk (Pm.joined p d).1 = J at *
  generalize (Pm.joined p d).2 = je at *
  generalize Pm.below p d = bb at *
  generalize Pm.cmp p d = cc at *
  generalize mk p = P at *
  generalize mk d = D at *
  clear hs1 hs2 hT hp hd
  go_enter Tryd.func4, Tryd.ntmps4
  go_wp2_with fail
  refine (HF1.out _).mono ?_
  rintro e wS ⟨rfl, hwS⟩
  rw [hwS]
  clear hwS wS
  go_wp2_with fail
  refine (HF2.out _).mono ?_
  rintro e wS ⟨rfl, hwS⟩
  rw [hwS]
  clear hwS wS
  clear HF1 HF2
  go_wp2_with fail
  refine (JA.out _ HT0.out).mono ?_
  rintro e w1 ⟨rfl, hB1⟩
  have HB1 : Hid (Below w.heap.size w w1) := HB0.out.trans (hB1.mono hz0)
  have HT1 : Hid (Tab w1) := HT0.out.below hB1
  have hz1 := HB1.out.size
  clear hB1
  go_wp2_with fail
  refine (JR.out _).mono ?_
  rintro e w2 ⟨rfl, hB2⟩
  have HB2 : Hid (Below w.heap.size w w2) := HB1.out.trans (hB2.mono hz1)
  have HT2 : Hid (Tab w2) := HT1.out.below hB2
  have hz2 := HB2.out.size
  clear hB2
  go_wp2_with fail
  refine (BA.out _ HT2.out).mono ?_
  rintro e w3 ⟨rfl, hB3⟩
  have HB3 : Hid (Below w.heap.size w w3) := HB2.out.trans (hB3.mono hz2)
  have HT3 : Hid (Tab w3) := HT2.out.below hB3
  have hz3 := HB3.out.size
  clear hB3
  go_wp2_with fail
  refine (BR.out _).mono ?_
  rintro e w4 ⟨rfl, hB4⟩
  have HB4 : Hid (Below w.heap.size w w4) := HB3.out.trans (hB4.mono hz3)
  have HT4 : Hid (Tab w4) := HT3.out.below hB4
  have hz4 := HB4.out.size
  clear hB4
  go_wp2_with fail
  refine (CA.out _).mono ?_
  rintro e w5 ⟨rfl, hB5⟩
  have HB5 : Hid (Below w.heap.size w w5) := HB4.out.trans (hB5.mono hz4)
  have HT5 : Hid (Tab w5) := HT4.out.below hB5
  have hz5 := HB5.out.size
  clear hB5
  go_wp2_with fail
  refine (CR.out _).mono ?_
  rintro e w6 ⟨rfl, hB6⟩
  have HB6 : Hid (Below w.heap.size w w6) := HB5.out.trans (hB6.mono hz5)
  have HT6 : Hid (Tab w6) := HT5.out.below hB6
  have hz6 := HB6.out.size
  clear hB6
  go_wp2_with fail
  refine (HW.out _ HT6.out).mono ?_
  rintro e w7 ⟨rfl, hB7⟩
  have HB7 : Hid (Below w.heap.size w w7) := HB6.out.trans (hB7.mono hz6)
  have HT7 : Hid (Tab w7) := HT6.out.below hB7
  have hz7 := HB7.out.size
  clear hB7
  go_wp2_with fail
  go_ret
  exact ⟨rfl, HB7.out⟩
end Go.Proofs.YtlgalcpnodadiaaDoor
