/- Proved: the law ScopeMakes, walked. -/
import Derived.Test.YtbcmgcallidneaaGreatDoorWorks
import Derived.Test.YtbcmgcallidneaaGreatDoorFewL
import Derived.Test.YtbcmgcallidneaaGreatDoorRMk
namespace Go.Proofs.YtbcmgcallidneaaGreatDoor
open Go.RowKit
set_option maxHeartbeats 8000000 in
set_option maxRecDepth 20000 in
theorem makes_walk (ad1 : Option Addr) (n1 c1 : Nat) (ss1 : List ByteArray) (w : World) (hI1 : InA w ad1 n1 ss1) (hT : Tab w) :
    Calls Tryz.prog 3 #[.slice ad1 n1 c1] w fun e w' => e = .returned (.bool true) ∧ Below w.heap.size w w' := by
  have HF1 : Hid (∀ W : World, Below w.heap.size w W → Calls Tryz.prog 6 #[.slice ad1 n1 c1] W fun e w' => ∃ v, e = .returned v ∧ w'.ownsRow W.heap.size 9 1 v (fews ss1).length (scells (fews ss1)) ∧ Below W.heap.size W w') := fun W hb => few_any ad1 n1 c1 ss1 W (hI1.below hb)
  have HT : Hid (Tab w) := hT
  have hl1 := fews_length ss1
  have hx1 := fews_short ss1
  generalize fews ss1 = A at *
  have HF2 : Hid (∀ (W : World) (a : Option Addr) (c : Nat), TxtA W a A → Calls Tryz.prog 6 #[.slice a A.length c] W fun e w' => ∃ v, e = .returned v ∧ w'.ownsRow W.heap.size 9 1 v A.length (scells A) ∧ Below W.heap.size W w') := fun W a c h => by
    have h := few_any a A.length c (A.map mk) W (InA.of h (by omega) (fun y hy => by have := hx1 y hy; omega))
    rw [fews_same hl1 hx1] at h
    exact h
  have HMa : Hid (∀ (W : World) (a : Option Addr) (c : Nat), TxtA W a A → Tab W → Calls Tryz.prog 7 #[.slice a A.length c] W fun e w' => ∃ ad' c', e = .returned (.tuple #[.slice ad' (Sm.makes A).1.length c', .int .i64 ((Sm.makes A).2 : Nat)]) ∧ TxtA w' ad' (Sm.makes A).1 ∧ Below W.heap.size W w') := fun W a c h hT => make_any a c A W h (by omega) (fun y hy => by have := hx1 y hy; omega) hT
  have HMr : Hid (∀ (W : World) (a : Option Addr) (c : Nat), TxtA W a A → Calls Tryz.prog 8 #[.slice a A.length c] W fun e w' => ∃ ad' c', e = .returned (.tuple #[.slice ad' (Sm.makes A).1.length c', .int .i64 ((Sm.makes A).2 : Nat)]) ∧ TxtA w' ad' (Sm.makes A).1 ∧ Below W.heap.size W w') := fun W a c h => rmake_any a c A W h (by omega) (fun y hy => by have := hx1 y hy; omega)
  have HMy : Hid (∀ (W : World) (a : Option Addr) (c : Nat), TxtA W a A → Tab W → Calls Tryz.prog 10 #[.slice a A.length c] W fun e w' => e = .returned (.bool (Sm.may A)) ∧ Below W.heap.size W w') := fun W a c h hT => may_any a c A W h (by omega) (fun y hy => by have := hx1 y hy; omega) hT
  have HMyr : Hid (∀ (W : World) (a : Option Addr) (c : Nat), TxtA W a A → Calls Tryz.prog 11 #[.slice a A.length c] W fun e w' => e = .returned (.bool (Sm.may A)) ∧ Below W.heap.size W w') := fun W a c h => rmay_any a c A W h (by omega) (fun y hy => by have := hx1 y hy; omega)
  have hlX := makes_len A
  generalize (Sm.makes A).1 = X at *
  generalize (Sm.makes A).2 = k1 at *
  have em : (Sm.may A == Sm.may A) = true := by simp
  generalize Sm.may A = r at *
  have HS : Hid (∀ (L : List Pm.T) (W : World) (a b : Option Addr) (c d : Nat), L.length ≤ 1000 → TxtA W a L → TxtA W b L → Calls Tryz.prog 9 #[.slice a L.length c, .slice b L.length d] W fun e w' => e = .returned (.bool true) ∧ Below W.heap.size W w') := fun L W a b c d hl h1 h2 => by
    have h := rsame_any a b c d L L W (by omega) (by omega) h1 h2
    rw [show (L == L) = true by simp] at h
    exact h
  have HSX := (show Hid _ from fun (W : World) (a b : Option Addr) (c d : Nat) => HS.out X W a b c d (by omega))
  have HSA := (show Hid _ from fun (W : World) (a b : Option Addr) (c d : Nat) => HS.out A W a b c d (by omega))
  have ek : (((k1 : Nat) : Int) == ((k1 : Nat) : Int)) = true := by simp
  have HB0 : Hid (Below w.heap.size w w) := Below.refl _ _
  clear hI1 hT hl1 hx1 hlX HS
  go_enter Tryz.func3, Tryz.ntmps3
  go_wp2_with fail
  refine (HF1.out _ HB0.out).mono ?_
  rintro e w1 ⟨v1, rfl, ho1, hB1⟩
  obtain ⟨p1, q1, hv, _, _, hA1⟩ := own_txt ho1
  subst hv
  clear ho1
  have HB1 : Hid (Below w.heap.size w w1) := HB0.out.trans (hB1.mono HB0.out.size)
  have HT1 : Hid (Tab w1) := HT.out.below HB1.out
  have Hp1_1 : Hid (TxtA w1 p1 A) := hA1
  clear hB1 hA1
  go_wp2_with fail
  refine (HF2.out _ p1 q1 Hp1_1.out).mono ?_
  rintro e w2 ⟨v2, rfl, ho2, hB2⟩
  obtain ⟨p2, q2, hv, _, _, hA2⟩ := own_txt ho2
  subst hv
  clear ho2
  have HB2 : Hid (Below w.heap.size w w2) := HB1.out.trans (hB2.mono HB1.out.size)
  have HT2 : Hid (Tab w2) := HT.out.below HB2.out
  have Hp1_2 : Hid (TxtA w2 p1 A) := Hp1_1.out.below hB2
  clear Hp1_1
  have Hp2_2 : Hid (TxtA w2 p2 A) := hA2
  clear hB2 hA2
  go_wp2_with fail
  refine (HMa.out _ p1 q1 Hp1_2.out HT2.out).mono ?_
  rintro e w3 ⟨px, qx, rfl, hA3, hB3⟩
  have HB3 : Hid (Below w.heap.size w w3) := HB2.out.trans (hB3.mono HB2.out.size)
  have HT3 : Hid (Tab w3) := HT.out.below HB3.out
  have Hp1_3 : Hid (TxtA w3 p1 A) := Hp1_2.out.below hB3
  have Hp2_3 : Hid (TxtA w3 p2 A) := Hp2_2.out.below hB3
  clear Hp1_2 Hp2_2
  have Hpx_3 : Hid (TxtA w3 px X) := hA3
  clear hB3 hA3
  go_wp2_with fail
  refine (HMr.out _ p1 q1 Hp1_3.out).mono ?_
  rintro e w4 ⟨py, qy, rfl, hA4, hB4⟩
  have HB4 : Hid (Below w.heap.size w w4) := HB3.out.trans (hB4.mono HB3.out.size)
  have HT4 : Hid (Tab w4) := HT.out.below HB4.out
  have Hp1_4 : Hid (TxtA w4 p1 A) := Hp1_3.out.below hB4
  have Hp2_4 : Hid (TxtA w4 p2 A) := Hp2_3.out.below hB4
  have Hpx_4 : Hid (TxtA w4 px X) := Hpx_3.out.below hB4
  clear Hp1_3 Hp2_3 Hpx_3
  have Hpy_4 : Hid (TxtA w4 py X) := hA4
  clear hB4 hA4
  go_wp2_with fail
  refine (HSX.out _ px py qx qy Hpx_4.out Hpy_4.out).mono ?_
  rintro e w5 ⟨rfl, hB5⟩
  have HB5 : Hid (Below w.heap.size w w5) := HB4.out.trans (hB5.mono HB4.out.size)
  have HT5 : Hid (Tab w5) := HT.out.below HB5.out
  have Hp1_5 : Hid (TxtA w5 p1 A) := Hp1_4.out.below hB5
  have Hp2_5 : Hid (TxtA w5 p2 A) := Hp2_4.out.below hB5
  have Hpx_5 : Hid (TxtA w5 px X) := Hpx_4.out.below hB5
  have Hpy_5 : Hid (TxtA w5 py X) := Hpy_4.out.below hB5
  clear Hp1_4 Hp2_4 Hpx_4 Hpy_4
  clear hB5
  go_wp2_with fail
  refine (HMy.out _ p1 q1 Hp1_5.out HT5.out).mono ?_
  rintro e w6 ⟨rfl, hB6⟩
  have HB6 : Hid (Below w.heap.size w w6) := HB5.out.trans (hB6.mono HB5.out.size)
  have HT6 : Hid (Tab w6) := HT.out.below HB6.out
  have Hp1_6 : Hid (TxtA w6 p1 A) := Hp1_5.out.below hB6
  have Hp2_6 : Hid (TxtA w6 p2 A) := Hp2_5.out.below hB6
  clear Hp1_5 Hp2_5
  clear hB6
  go_wp2_with fail
  refine (HMyr.out _ p1 q1 Hp1_6.out).mono ?_
  rintro e w7 ⟨rfl, hB7⟩
  have HB7 : Hid (Below w.heap.size w w7) := HB6.out.trans (hB7.mono HB6.out.size)
  have HT7 : Hid (Tab w7) := HT.out.below HB7.out
  have Hp1_7 : Hid (TxtA w7 p1 A) := Hp1_6.out.below hB7
  have Hp2_7 : Hid (TxtA w7 p2 A) := Hp2_6.out.below hB7
  clear Hp1_6 Hp2_6
  clear hB7
  go_wp2_with fail
  refine (HSA.out _ p1 p2 q1 q2 Hp1_7.out Hp2_7.out).mono ?_
  rintro e w8 ⟨rfl, hB8⟩
  have HB8 : Hid (Below w.heap.size w w8) := HB7.out.trans (hB8.mono HB7.out.size)
  have HT8 : Hid (Tab w8) := HT.out.below HB8.out
  have Hp1_8 : Hid (TxtA w8 p1 A) := Hp1_7.out.below hB8
  have Hp2_8 : Hid (TxtA w8 p2 A) := Hp2_7.out.below hB8
  clear Hp1_7 Hp2_7
  clear hB8
  go_wp2_with fail
  refine (works_any _ HT8.out).mono ?_
  rintro e w9 ⟨rfl, hB9⟩
  have HB9 : Hid (Below w.heap.size w w9) := HB8.out.trans (hB9.mono HB8.out.size)
  have HT9 : Hid (Tab w9) := HT.out.below HB9.out
  clear hB9
  go_wp2_with fail
  go_ret
  exact ⟨rfl, HB9.out⟩
end Go.Proofs.YtbcmgcallidneaaGreatDoor
