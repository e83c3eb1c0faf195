/- Proved: Meet of any lists. -/
import Derived.Test.YtbcmgcallidneaaGreatDoorMayF
namespace Go.Proofs.YtbcmgcallidneaaGreatDoor
open Go.RowKit
set_option maxHeartbeats 4000000 in
set_option maxRecDepth 20000 in
theorem meet_any (ad : Option Addr) (c : Nat) (a : List Pm.T) (bd : Option Addr) (d : Nat) (b : List Pm.T) (w : World) (hA : TxtA w ad a) (hB0 : TxtA w bd b) (hla : a.length ≤ 500) (hlb : b.length ≤ 500) (hxa : ∀ x ∈ a, x.length ≤ 1000000) (hxb : ∀ x ∈ b, x.length ≤ 1000000) (hT : Tab w) :
    Calls Tryz.prog 15 #[.slice ad a.length c, .slice bd b.length d] w fun e w' => ∃ ad' c', e = .returned (.slice ad' (Sm.meet a b).length c') ∧ TxtA w' ad' (Sm.meet a b) ∧ Below w.heap.size w w' := by
  have HMa : Hid (∀ W : World, Below w.heap.size w W → Calls Tryz.prog 10 #[.slice ad a.length c] W fun e w' => e = .returned (.bool (Sm.may a)) ∧ Below W.heap.size W w') := fun W hb => may_any ad c a W (hA.below hb) (by omega) hxa (hT.below hb)
  have HMb : Hid (∀ W : World, Below w.heap.size w W → Calls Tryz.prog 10 #[.slice bd b.length d] W fun e w' => e = .returned (.bool (Sm.may b)) ∧ Below W.heap.size W w') := fun W hb => may_any bd d b W (hB0.below hb) (by omega) hxb (hT.below hb)
  have HWab : Hid (∀ W : World, Below w.heap.size w W → Calls Tryz.prog 29 #[.slice ad a.length c, .slice bd b.length d] W fun e w' => ∃ v, e = .returned v ∧ w'.ownsRow W.heap.size 9 1 v (b.filter (Sm.has a)).length (scells (b.filter (Sm.has a))) ∧ Below W.heap.size W w') :=
    fun W hb => within_any ad c a bd d b W (hA.below hb) (hB0.below hb) (by omega) (by omega) hxb (hT.below hb)
  have HWba : Hid (∀ W : World, Below w.heap.size w W → Calls Tryz.prog 29 #[.slice bd b.length d, .slice ad a.length c] W fun e w' => ∃ v, e = .returned v ∧ w'.ownsRow W.heap.size 9 1 v (a.filter (Sm.has b)).length (scells (a.filter (Sm.has b))) ∧ Below W.heap.size W w') :=
    fun W hb => within_any bd d b ad c a W (hB0.below hb) (hA.below hb) (by omega) (by omega) hxa (hT.below hb)
  have HU : Is (Sm.meet a b) (if Sm.may a = false ∨ Sm.may b = false then [] else Sm.outer (b.filter (Sm.has a) ++ a.filter (Sm.has b))) := ⟨rfl⟩
  have hf1 : (b.filter (Sm.has a)).length ≤ 500 := Nat.le_trans (List.length_filter_le _ _) hlb
  have hf2 : (a.filter (Sm.has b)).length ≤ 500 := Nat.le_trans (List.length_filter_le _ _) hla
  have HX : Hid (∀ x ∈ b.filter (Sm.has a) ++ a.filter (Sm.has b), x.length ≤ 1000000) := fun x hx => by
    rcases List.mem_append.1 hx with h | h
    · exact hxb x (List.mem_filter.1 h).1
    · exact hxa x (List.mem_filter.1 h).1
  have HP : Hid (Sm.may a = true → Sm.may b = true → ∀ x ∈ b.filter (Sm.has a) ++ a.filter (Sm.has b), Pm.isP x = true) := fun h1 h2 x hx => by
    rcases List.mem_append.1 hx with h | h
    · exact Sm.fault_isP (Sm.may_iff.1 h2).1 x (List.mem_filter.1 h).1
    · exact Sm.fault_isP (Sm.may_iff.1 h1).1 x (List.mem_filter.1 h).1
  have HT : Hid (Tab w) := hT
  clear hA hB0 hT hxa hxb hla hlb
  generalize b.filter (Sm.has a) = m1 at *
  generalize a.filter (Sm.has b) = m2 at *
  have HLab : Hid ((m1 ++ m2).length ≤ 1000) := by show (m1 ++ m2).length ≤ 1000; rw [List.length_append]; omega
  have HCo : Hid (∀ (W : World) (x1 x2 : Option Addr) (e1 e2 : Nat), TxtA W x1 m1 → TxtA W x2 m2 → Calls Tryz.prog 28 #[.slice (some ⟨W.heap.size, 0, none⟩) 2 2] (W.alloc (.cells #[.slice x1 m1.length e1, .slice x2 m2.length e2] 22)) fun e w' => ∃ v, e = .returned v ∧ w'.ownsRow W.heap.size 9 1 v (m1 ++ m2).length (scells (m1 ++ m2)) ∧ Below W.heap.size W w') :=
    fun W x1 x2 e1 e2 h1 h2 => concat_pair x1 x2 e1 e2 2 m1 m2 W h1 h2 (by omega) (by omega)
  generalize m1 ++ m2 = ab at *
  cases h1 : Sm.may a with
  | false =>
    rw [h1] at HMa HU
    rw [if_pos (.inl rfl)] at HU
    go_enter Tryz.func15, Tryz.ntmps15
    go_wp2_with fail
    refine (HMa.out _ (Below.refl _ _)).mono ?_
    rintro e w1 ⟨rfl, hB1⟩
    go_wp2_with fail
    go_ret
    rw [HU.eq]
    first | exact ⟨_, ⟨_, rfl⟩, TxtA.nil _ _, hB1⟩ | exact ⟨_, _, rfl, TxtA.nil _ _, hB1⟩
  | true =>
    rw [h1] at HMa HU
    cases h2 : Sm.may b with
    | false =>
      rw [h2] at HMb HU
      rw [if_pos (.inr rfl)] at HU
      go_enter Tryz.func15, Tryz.ntmps15
      go_wp2_with fail
      refine (HMa.out _ (Below.refl _ _)).mono ?_
      rintro e w1 ⟨rfl, hB1⟩
      go_wp2_with fail
      refine (HMb.out _ hB1).mono ?_
      rintro e w2 ⟨rfl, hB2⟩
      go_wp2_with fail
      go_ret
      rw [HU.eq]
      first | exact ⟨_, ⟨_, rfl⟩, TxtA.nil _ _, hB1.trans (hB2.mono hB1.size)⟩ | exact ⟨_, _, rfl, TxtA.nil _ _, hB1.trans (hB2.mono hB1.size)⟩
    | true =>
      rw [h2] at HMb HU
      rw [if_neg (by simp)] at HU
      have HP2 := (show Hid _ from HP.out h1 h2)
      go_enter Tryz.func15, Tryz.ntmps15
      go_wp2_with fail
      refine (HMa.out _ (Below.refl _ _)).mono ?_
      rintro e w1 ⟨rfl, hB1⟩
      go_wp2_with fail
      refine (HMb.out _ hB1).mono ?_
      rintro e w2 ⟨rfl, hB2⟩
      have HB2 : Hid (Below w.heap.size w w2) := hB1.trans (hB2.mono hB1.size)
      clear hB1 hB2
      go_wp2_with fail
      refine (HWab.out _ HB2.out).mono ?_
      rintro e w3 ⟨v3, rfl, ho3, hB3⟩
      have HB3 : Hid (Below w.heap.size w w3) := HB2.out.trans (hB3.mono HB2.out.size)
      obtain ⟨a3, c3, hv3, _, _, hA3⟩ := own_txt ho3
      subst hv3
      have HA3 : Hid (TxtA w3 a3 m1) := hA3
      clear hB3 ho3 hA3
      go_wp2_with fail
      refine (HWba.out _ HB3.out).mono ?_
      rintro e w4 ⟨v4, rfl, ho4, hB4⟩
      have HB4 : Hid (Below w.heap.size w w4) := HB3.out.trans (hB4.mono HB3.out.size)
      obtain ⟨a4, c4, hv4, _, _, hA4⟩ := own_txt ho4
      subst hv4
      have HA4 : Hid (TxtA w4 a4 m2) := hA4
      have HA34 : Hid (TxtA w4 a3 m1) := HA3.out.below hB4
      have HT4 : Hid (Tab w4) := HT.out.below HB4.out
      clear hB4 ho4 hA4
      go_wp2_with fail
      refine (HCo.out w4 a3 a4 c3 c4 HA34.out HA4.out).mono ?_
      rintro e w5 ⟨v5, rfl, ho5, hB5⟩
      have HB5 : Hid (Below w.heap.size w w5) := HB4.out.trans (hB5.mono HB4.out.size)
      have HO5 : Hid (Calls Tryz.prog 22 #[v5] w5 fun e w' => ∃ ad c, e = .returned (.slice ad (Sm.outer ab).length c) ∧ TxtA w' ad (Sm.outer ab) ∧ Below w4.heap.size w5 w') := outer_any w5 w4.heap.size v5 ab ho5 hB5.size HLab.out HX.out HP2.out (HT4.out.below hB5) HT4.out.posM HT4.out.posS
      clear hB5 ho5
      go_wp2_with fail
      refine (show Calls _ _ _ _ _ from HO5.out).mono ?_
      rintro e w6 ⟨a6, c6, rfl, hA6, hB6⟩
      go_wp2_with fail
      go_ret
      rw [HU.eq]
      first | exact ⟨_, ⟨_, rfl⟩, hA6, HB5.out.trans (hB6.mono HB4.out.size)⟩ | exact ⟨_, _, rfl, hA6, HB5.out.trans (hB6.mono HB4.out.size)⟩
end Go.Proofs.YtbcmgcallidneaaGreatDoor
