/- Proved: the law ScopeTexts, walked. -/
import Derived.Test.YtbcmgcallidneaaGreatDoorWorks
import Derived.Test.YtbcmgcallidneaaGreatDoorFewL
import Derived.Test.YtbcmgcallidneaaGreatDoorRTx
import Derived.Test.YtbcmgcallidneaaGreatDoorParseF
namespace Go.Proofs.YtbcmgcallidneaaGreatDoor
open Go.RowKit
def cutK (s : ByteArray) : Pm.T := (bl s).take 1000
theorem cutK_length (s : ByteArray) : (cutK s).length ≤ 1000 := by rw [cutK, List.length_take]; omega
theorem extract_cutK (s : ByteArray) : s.extract 0 (min (s.size : Int) 1000).toNat = mk (cutK s) := bl_inj (by
  rw [bl_mk, cutK, bl, Lib.extract_from_zero]
  by_cases h : s.size ≤ 1000
  · rw [show (min (s.size : Int) 1000).toNat = s.size by omega, ← bl_length s, List.take_of_length_le (Nat.le_refl _), List.take_of_length_le (by rw [bl_length]; exact h)]
  · rw [show (min (s.size : Int) 1000).toNat = 1000 by omega])
theorem parse_len (t : Pm.T) : (Sm.parse t).1.length ≤ 16 := by
  unfold Sm.parse
  split
  · simp
  · rename_i h
    rw [not_or] at h
    exact Sm.may_len (by simpa using h.2)
set_option maxHeartbeats 8000000 in
set_option maxRecDepth 20000 in
theorem texts_walk (ad1 : Option Addr) (n1 c1 : Nat) (ss1 : List ByteArray) (p : ByteArray) (w : World) (hI1 : InA w ad1 n1 ss1) (_hp : p.size ≤ 9223372036854775807) (hT : Tab w) :
    Calls Tryz.prog 5 #[.slice ad1 n1 c1, .string p] w fun e w' => e = .returned (.bool true) ∧ Below w.heap.size w w' := by
  have HF1 : Hid (∀ W : World, Below w.heap.size w W → Calls Tryz.prog 6 #[.slice ad1 n1 c1] W fun e w' => ∃ v, e = .returned v ∧ w'.ownsRow W.heap.size 9 1 v (fews ss1).length (scells (fews ss1)) ∧ Below W.heap.size W w') := fun W hb => few_any ad1 n1 c1 ss1 W (hI1.below hb)
  have HP : Is (p.extract 0 (min (p.size : Int) 1000).toNat) (mk (cutK p)) := ⟨extract_cutK p⟩
  have HT : Hid (Tab w) := hT
  have hl1 := fews_length ss1
  have hx1 := fews_short ss1
  have hcp := cutK_length p
  generalize fews ss1 = A at *
  generalize cutK p = x at *
  have HTx : Hid (∀ (W : World) (a : Option Addr) (c : Nat), TxtA W a A → Tab W → Calls Tryz.prog 17 #[.slice a A.length c] W fun e w' => e = .returned (.tuple #[.string (mk (Sm.texts A).1), .int .i64 ((Sm.texts A).2 : Nat)]) ∧ Below W.heap.size W w') := fun W a c h hT => text_any a c A W h (by omega) (fun y hy => by have := hx1 y hy; omega) hT
  have HTr : Hid (∀ (W : World) (a : Option Addr) (c : Nat), TxtA W a A → Calls Tryz.prog 18 #[.slice a A.length c] W fun e w' => e = .returned (.tuple #[.string (mk (Sm.texts A).1), .int .i64 ((Sm.texts A).2 : Nat)]) ∧ Below W.heap.size W w') := fun W a c h => rtext_any a c A W h (by omega) (fun y hy => by have := hx1 y hy; omega)
  have HPa : Hid (∀ W : World, Tab W → Calls Tryz.prog 19 #[.string (mk x)] W fun e w' => ∃ ad' c', e = .returned (.tuple #[.slice ad' (Sm.parse x).1.length c', .int .i64 ((Sm.parse x).2 : Nat)]) ∧ TxtA w' ad' (Sm.parse x).1 ∧ Below W.heap.size W w') := fun W hT => parse_any (mk x) W (by rw [mk_size]; omega) hT
  have HPr : Hid (∀ W : World, Calls Tryz.prog 20 #[.string (mk x)] W fun e w' => ∃ ad' c', e = .returned (.tuple #[.slice ad' (Sm.parse x).1.length c', .int .i64 ((Sm.parse x).2 : Nat)]) ∧ TxtA w' ad' (Sm.parse x).1 ∧ Below W.heap.size W w') := fun W => rparse_any (mk x) W (by rw [mk_size]; exact hcp)
  have hpl := parse_len x
  have es : ((mk (Sm.texts A).1).toList == (mk (Sm.texts A).1).toList) = true := by simp
  generalize mk (Sm.texts A).1 = sx at *
  generalize (Sm.texts A).2 = k1 at *
  generalize (Sm.parse x).1 = X at *
  generalize (Sm.parse x).2 = k2 at *
  generalize mk x = px at *
  have HS : Hid (∀ (W : World) (a b : Option Addr) (c d : Nat), TxtA W a X → TxtA W b X → Calls Tryz.prog 9 #[.slice a X.length c, .slice b X.length d] W fun e w' => e = .returned (.bool true) ∧ Below W.heap.size W w') := fun W a b c d h1 h2 => by
    have h := rsame_any a b c d X X W (by omega) (by omega) h1 h2
    rw [show (X == X) = true by simp] at h
    exact h
  have ek1 : (((k1 : Nat) : Int) == ((k1 : Nat) : Int)) = true := by simp
  have ek2 : (((k2 : Nat) : Int) == ((k2 : Nat) : Int)) = true := by simp
  have m0 : (0 : Int) ≤ min (p.size : Int) 1000 := by omega
  have m1 : min (p.size : Int) 1000 ≤ (p.size : Int) := by omega
  have HS0 : Hid (Below w.heap.size w w) := Below.refl _ _
  clear hI1 hT hl1 hx1 hcp hpl
  go_enter Tryz.func5, Tryz.ntmps5
  go_wp2_with fail
  go_region_held3 (fun W => Below w.heap.size w W)
    (first | exact HS0.out | assumption | exact HS0.out.drew | exact hS1)
    (first
      | (go_at_call 6; refine (HF1.out w.drew HS0.out.drew).mono ?_; rintro e w1 ⟨v1, rfl, ho1, hB1⟩; have hS1 : Below w.heap.size w w1 := HS0.out.drew.trans hB1; clear hB1))
  all_goals
    obtain ⟨p1, q1, hv1, _, _, hA1⟩ := own_txt ho1
    subst hv1
    have HB1 : Hid (Below w.heap.size w w1) := hS1
    have HT1 : Hid (Tab w1) := HT.out.below hS1
    have Hp1_1 : Hid (TxtA w1 p1 A) := hA1
    rw [HP.eq]
    clear ho1 hA1 hS1
    go_wp2_with fail
    refine (HTx.out _ p1 q1 Hp1_1.out HT1.out).mono ?_
    rintro e w2 ⟨rfl, hB2⟩
    have HB2 : Hid (Below w.heap.size w w2) := HB1.out.trans (hB2.mono HB1.out.size)
    have HT2 : Hid (Tab w2) := HT.out.below HB2.out
    have Hp1_2 : Hid (TxtA w2 p1 A) := Hp1_1.out.below hB2
    clear Hp1_1
    clear hB2
    go_wp2_with fail
    refine (HTr.out _ p1 q1 Hp1_2.out).mono ?_
    rintro e w3 ⟨rfl, hB3⟩
    have HB3 : Hid (Below w.heap.size w w3) := HB2.out.trans (hB3.mono HB2.out.size)
    have HT3 : Hid (Tab w3) := HT.out.below HB3.out
    have Hp1_3 : Hid (TxtA w3 p1 A) := Hp1_2.out.below hB3
    clear Hp1_2
    clear hB3
    go_wp2_with fail
    refine (HPa.out _ HT3.out).mono ?_
    rintro e w4 ⟨pm, qm, rfl, hA5, hB4⟩
    have HB4 : Hid (Below w.heap.size w w4) := HB3.out.trans (hB4.mono HB3.out.size)
    have HT4 : Hid (Tab w4) := HT.out.below HB4.out
    have Hpm_4 : Hid (TxtA w4 pm X) := hA5
    clear hB4 hA5
    go_wp2_with fail
    refine (HPr.out _).mono ?_
    rintro e w5 ⟨pn, qn, rfl, hA6, hB5⟩
    have HB5 : Hid (Below w.heap.size w w5) := HB4.out.trans (hB5.mono HB4.out.size)
    have HT5 : Hid (Tab w5) := HT.out.below HB5.out
    have Hpm_5 : Hid (TxtA w5 pm X) := Hpm_4.out.below hB5
    clear Hpm_4
    have Hpn_5 : Hid (TxtA w5 pn X) := hA6
    clear hB5 hA6
    go_wp2_with fail
    refine (HS.out _ pm pn qm qn Hpm_5.out Hpn_5.out).mono ?_
    rintro e w6 ⟨rfl, hB6⟩
    have HB6 : Hid (Below w.heap.size w w6) := HB5.out.trans (hB6.mono HB5.out.size)
    have HT6 : Hid (Tab w6) := HT.out.below HB6.out
    have Hpm_6 : Hid (TxtA w6 pm X) := Hpm_5.out.below hB6
    have Hpn_6 : Hid (TxtA w6 pn X) := Hpn_5.out.below hB6
    clear Hpm_5 Hpn_5
    clear hB6
    go_wp2_with fail
    refine (works_any _ HT6.out).mono ?_
    rintro e w7 ⟨rfl, hB7⟩
    have HB7 : Hid (Below w.heap.size w w7) := HB6.out.trans (hB7.mono HB6.out.size)
    have HT7 : Hid (Tab w7) := HT.out.below HB7.out
    clear hB7
    go_wp2_with fail
    go_ret
    exact ⟨rfl, HB7.out⟩
end Go.Proofs.YtbcmgcallidneaaGreatDoor
