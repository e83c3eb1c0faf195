/- Proved: the law ScopeAlgebra, walked. -/
import Derived.Test.YtbcmgcallidneaaDoorAlgebra
namespace Go.Proofs.YtbcmgcallidneaaDoor
open Go.RowKit
set_option maxHeartbeats 8000000 in
set_option maxRecDepth 20000 in
theorem algebra_walk (ad1 : Option Addr) (n1 c1 : Nat) (ss1 : List ByteArray) (ad2 : Option Addr) (n2 c2 : Nat) (ss2 : List ByteArray) (w : World) (hI1 : InA w ad1 n1 ss1) (hI2 : InA w ad2 n2 ss2) (hT : Tab w) :
    Calls Tryd.prog 5 #[.slice ad1 n1 c1, .slice ad2 n2 c2] w fun e w' => e = .returned (.bool true) ∧ Below w.heap.size w w' := by
  have eg := enters15
  have HF1 : Hid (∀ W : World, Below w.heap.size w W → Calls Tryd.prog 6 #[.slice ad1 n1 c1] W fun e w' => ∃ v, e = .returned v ∧ w'.ownsRow W.heap.size 9 1 v (fews ss1).length (scells (fews ss1)) ∧ Below W.heap.size W w') := fun W hb => few_any ad1 n1 c1 ss1 W (hI1.below hb)
  have HF2 : Hid (∀ W : World, Below w.heap.size w W → Calls Tryd.prog 6 #[.slice ad2 n2 c2] W fun e w' => ∃ v, e = .returned v ∧ w'.ownsRow W.heap.size 9 1 v (fews ss2).length (scells (fews ss2)) ∧ Below W.heap.size W w') := fun W hb => few_any ad2 n2 c2 ss2 W (hI2.below hb)
  have HT : Hid (Tab w) := hT
  have hl1 := fews_length ss1
  have hl2 := fews_length ss2
  have hx1 := fews_short ss1
  have hx2 := fews_short ss2
  generalize fews ss1 = A at *
  generalize fews ss2 = B at *
  have HMa : Hid (∀ (W : World) (a : Option Addr) (c : Nat), TxtA W a A → Tab W → Calls Tryd.prog 12 #[.slice a A.length c] W fun e w' => ∃ ad' c', e = .returned (.tuple #[.slice ad' (Sm.makes A).1.length c', .int .i64 ((Sm.makes A).2 : Nat)]) ∧ TxtA w' ad' (Sm.makes A).1 ∧ Below W.heap.size W w') := fun W a c h hT => make_any a c A W h (by omega) (fun y hy => by have := hx1 y hy; omega) hT
  have HMb : Hid (∀ (W : World) (a : Option Addr) (c : Nat), TxtA W a B → Tab W → Calls Tryd.prog 12 #[.slice a B.length c] W fun e w' => ∃ ad' c', e = .returned (.tuple #[.slice ad' (Sm.makes B).1.length c', .int .i64 ((Sm.makes B).2 : Nat)]) ∧ TxtA w' ad' (Sm.makes B).1 ∧ Below W.heap.size W w') := fun W a c h hT => make_any a c B W h (by omega) (fun y hy => by have := hx2 y hy; omega) hT
  have hlX := makes_len A
  have hlY := makes_len B
  have hxX : ∀ y ∈ (Sm.makes A).1, y.length ≤ 1000000 := fun y hy => by have := hx1 y (makes_mem hy); omega
  have hxY : ∀ y ∈ (Sm.makes B).1, y.length ≤ 1000000 := fun y hy => by have := hx2 y (makes_mem hy); omega
  have HX : Hid ((Sm.makes A).2 = 0 → Sm.may (Sm.makes A).1 = true) := Sm.may_made
  have HY : Hid ((Sm.makes B).2 = 0 → Sm.may (Sm.makes B).1 = true) := Sm.may_made
  generalize (Sm.makes A).1 = X at *
  generalize (Sm.makes A).2 = k1 at *
  generalize (Sm.makes B).1 = Y at *
  generalize (Sm.makes B).2 = k2 at *
  have HS : Hid (∀ (L : List Pm.T) (W : World) (a b : Option Addr) (c d : Nat), L.length ≤ 1000 → TxtA W a L → TxtA W b L → Calls Tryd.prog 15 #[.slice a L.length c, .slice b L.length d] W fun e w' => e = .returned (.bool true) ∧ Below W.heap.size W w') := fun L W a b c d hl h1 h2 => by
    have h := rsame_any a b c d L L W (by omega) (by omega) h1 h2
    rw [show (L == L) = true by simp] at h
    exact h
  have HU : Hid (∀ (P Q : List Pm.T) (W : World) (a b : Option Addr) (c d : Nat), (P = X ∨ P = Y) → (Q = X ∨ Q = Y ∨ Q = [[]]) → TxtA W a P → TxtA W b Q → Tab W → Calls Tryd.prog 17 #[.slice a P.length c, .slice b Q.length d] W fun e w' => ∃ ad' c', e = .returned (.tuple #[.slice ad' (Sm.union P Q).1.length c', .int .i64 ((Sm.union P Q).2 : Nat)]) ∧ TxtA w' ad' (Sm.union P Q).1 ∧ Below W.heap.size W w') := fun P Q W a b c d hP hQ h1 h2 hT => by
    refine union_any a c P b d Q W h1 h2 ?_ ?_ ?_ ?_ hT
    · rcases hP with rfl | rfl <;> omega
    · rcases hQ with rfl | rfl | rfl <;> first | omega | decide
    · rcases hP with rfl | rfl <;> assumption
    · rcases hQ with rfl | rfl | rfl <;> first | assumption | exact small2 (by decide)
  have HMt : Hid (∀ (P Q : List Pm.T) (W : World) (a b : Option Addr) (c d : Nat), (P = X ∨ P = Y) → (Q = X ∨ Q = Y ∨ Q = [[]] ∨ Q = []) → TxtA W a P → TxtA W b Q → Tab W → Calls Tryd.prog 18 #[.slice a P.length c, .slice b Q.length d] W fun e w' => ∃ ad' c', e = .returned (.slice ad' (Sm.meet P Q).length c') ∧ TxtA w' ad' (Sm.meet P Q) ∧ Below W.heap.size W w') := fun P Q W a b c d hP hQ h1 h2 hT => by
    refine meet_any a c P b d Q W h1 h2 ?_ ?_ ?_ ?_ hT
    · rcases hP with rfl | rfl <;> omega
    · rcases hQ with rfl | rfl | rfl | rfl <;> first | omega | decide
    · rcases hP with rfl | rfl <;> assumption
    · rcases hQ with rfl | rfl | rfl | rfl <;> first | assumption | exact small2 (by decide)
  have hul := union_len X Y
  have hml := meet_len X Y
  have HB0 : Hid (Below w.heap.size w w) := Below.refl _ _
  clear hI1 hI2 hT hl1 hl2 hx1 hx2 hxX hxY
  go_enter Tryd.func5, Tryd.ntmps5
  have HT0 : Hid (Tab w) := HT.out
  go_wp2_with fail
  refine (HF1.out _ HB0.out).mono ?_
  rintro e w1 ⟨v1, rfl, ho1, hB1⟩
  obtain ⟨p1, q1, hv, _, _, hA1⟩ := own_txt ho1
  subst hv
  clear ho1
  have HB1 : Hid (Below w.heap.size w w1) := HB0.out.trans (hB1.mono HB0.out.size)
  have HT1 : Hid (Tab w1) := HT.out.below HB1.out
  have Hp1_1 : Hid (TxtA w1 p1 A) := hA1
  clear hB1 hA1
  go_wp2_with fail
  refine (HMa.out _ p1 q1 Hp1_1.out HT1.out).mono ?_
  rintro e w2 ⟨px, qx, rfl, hA2, hB2⟩
  have HB2 : Hid (Below w.heap.size w w2) := HB1.out.trans (hB2.mono HB1.out.size)
  have HT2 : Hid (Tab w2) := HT.out.below HB2.out
  have Hp1_2 : Hid (TxtA w2 p1 A) := Hp1_1.out.below hB2
  clear Hp1_1
  have Hpx_2 : Hid (TxtA w2 px X) := hA2
  clear hB2 hA2
  clear Hp1_2
  go_wp2_with fail
  refine (HF2.out _ HB2.out).mono ?_
  rintro e w3 ⟨v3, rfl, ho3, hB3⟩
  obtain ⟨p2, q2, hv, _, _, hA3⟩ := own_txt ho3
  subst hv
  clear ho3
  have HB3 : Hid (Below w.heap.size w w3) := HB2.out.trans (hB3.mono HB2.out.size)
  have HT3 : Hid (Tab w3) := HT.out.below HB3.out
  have Hpx_3 : Hid (TxtA w3 px X) := Hpx_2.out.below hB3
  clear Hpx_2
  have Hp2_3 : Hid (TxtA w3 p2 B) := hA3
  clear hB3 hA3
  go_wp2_with fail
  refine (HMb.out _ p2 q2 Hp2_3.out HT3.out).mono ?_
  rintro e w4 ⟨py, qy, rfl, hA4, hB4⟩
  have HB4 : Hid (Below w.heap.size w w4) := HB3.out.trans (hB4.mono HB3.out.size)
  have HT4 : Hid (Tab w4) := HT.out.below HB4.out
  have Hpx_4 : Hid (TxtA w4 px X) := Hpx_3.out.below hB4
  have Hp2_4 : Hid (TxtA w4 p2 B) := Hp2_3.out.below hB4
  clear Hpx_3 Hp2_3
  have Hpy_4 : Hid (TxtA w4 py Y) := hA4
  clear hB4 hA4
  clear Hp2_4
  by_cases h1 : k1 = 0
  · by_cases h2 : k2 = 0
    · subst h1 h2
      have mX : Sm.may X = true := HX.out rfl
      have mY : Sm.may Y = true := HY.out rfl
      have E1 : Is (Sm.union Y X) (Sm.union X Y) := ⟨Sm.union_comm mY mX⟩
      have E2 : Is (Sm.union X X) (X, 0) := ⟨Sm.union_self mX⟩
      have E3 : Is (Sm.union X [[]]) ([[]], 0) := ⟨Sm.union_root mX⟩
      have E4 : Is (Sm.meet Y X) (Sm.meet X Y) := ⟨Sm.meet_comm mY mX⟩
      have E5 : Is (Sm.meet X X) X := ⟨Sm.meet_self mX⟩
      have E6 : Is (Sm.meet X [[]]) X := ⟨Sm.meet_root mX⟩
      have E7 : Is (Sm.meet X []) [] := ⟨Sm.meet_nil mX⟩
      have HU1 := (show Hid _ from fun (W : World) (a b : Option Addr) (c d : Nat) => HU.out X Y W a b c d (.inl rfl) (.inr (.inl rfl)))
      have HU2 := (show Hid _ from fun (W : World) (a b : Option Addr) (c d : Nat) => HU.out Y X W a b c d (.inr rfl) (.inl rfl))
      rw [E1.eq] at HU2
      have HU3 := (show Hid _ from fun (W : World) (a b : Option Addr) (c d : Nat) => HU.out X X W a b c d (.inl rfl) (.inl rfl))
      rw [E2.eq] at HU3
      have HU4 := (show Hid (∀ (W : World) (a : Option Addr) (c : Nat), TxtA W a X → Tab W → Calls Tryd.prog 17 #[.slice a X.length c, .slice (some ⟨W.heap.size, 0, none⟩) 1 1] (W.alloc (.cells #[.string ⟨#[]⟩] 9)) fun e w' => ∃ ad' c', e = .returned (.tuple #[.slice ad' 1 c', .int .i64 0]) ∧ TxtA w' ad' [[]] ∧ Below W.heap.size W w') from fun W a c h hT => by
        have hb : Below W.heap.size W (W.alloc (.cells (scells [[]]).toArray 9)) := (Below.refl _ W).alloc (Nat.le_refl _) _
        have h := HU.out X [[]] _ a (some ⟨W.heap.size, 0, none⟩) c 1 (.inl rfl) (.inr (.inr rfl)) (h.below hb) (txt_new W _) (hT.below hb)
        rw [E3.eq] at h
        exact h.mono fun e w' ⟨a, c, he, ht, hb2⟩ => ⟨a, c, he, ht, hb.trans (hb2.mono hb.size)⟩)
      have HR := (show Hid (∀ (W : World) (a : Option Addr) (c : Nat), TxtA W a [[]] → Calls Tryd.prog 15 #[.slice a 1 c, .slice (some ⟨W.heap.size, 0, none⟩) 1 1] (W.alloc (.cells #[.string ⟨#[]⟩] 9)) fun e w' => e = .returned (.bool true) ∧ Below W.heap.size W w') from fun W a c h => by
        have hb : Below W.heap.size W (W.alloc (.cells (scells [[]]).toArray 9)) := (Below.refl _ W).alloc (Nat.le_refl _) _
        have h := HS.out [[]] _ a (some ⟨W.heap.size, 0, none⟩) c 1 (by decide) (h.below hb) (txt_new W _)
        exact h.mono fun e w' ⟨he, hb2⟩ => ⟨he, hb.trans (hb2.mono hb.size)⟩)
      have HM1 := (show Hid _ from fun (W : World) (a b : Option Addr) (c d : Nat) => HMt.out X Y W a b c d (.inl rfl) (.inr (.inl rfl)))
      have HM2 := (show Hid _ from fun (W : World) (a b : Option Addr) (c d : Nat) => HMt.out Y X W a b c d (.inr rfl) (.inl rfl))
      rw [E4.eq] at HM2
      have HM3 := (show Hid _ from fun (W : World) (a b : Option Addr) (c d : Nat) => HMt.out X X W a b c d (.inl rfl) (.inl rfl))
      rw [E5.eq] at HM3
      have HM4 := (show Hid (∀ (W : World) (a : Option Addr) (c : Nat), TxtA W a X → Tab W → Calls Tryd.prog 18 #[.slice a X.length c, .slice (some ⟨W.heap.size, 0, none⟩) 1 1] (W.alloc (.cells #[.string ⟨#[]⟩] 9)) fun e w' => ∃ ad' c', e = .returned (.slice ad' X.length c') ∧ TxtA w' ad' X ∧ Below W.heap.size W w') from fun W a c h hT => by
        have hb : Below W.heap.size W (W.alloc (.cells (scells [[]]).toArray 9)) := (Below.refl _ W).alloc (Nat.le_refl _) _
        have h := HMt.out X [[]] _ a (some ⟨W.heap.size, 0, none⟩) c 1 (.inl rfl) (.inr (.inr (.inl rfl))) (h.below hb) (txt_new W _) (hT.below hb)
        rw [E6.eq] at h
        exact h.mono fun e w' ⟨a, c, he, ht, hb2⟩ => ⟨a, c, he, ht, hb.trans (hb2.mono hb.size)⟩)
      have HM5 := (show Hid (∀ (W : World) (a : Option Addr) (c : Nat), TxtA W a X → Tab W → Calls Tryd.prog 18 #[.slice a X.length c, .slice none 0 0] W fun e w' => ∃ ad' c', e = .returned (.slice ad' 0 c') ∧ Below W.heap.size W w') from fun W a c h hT => by
        have h := HMt.out X [] W a none c 0 (.inl rfl) (.inr (.inr (.inr rfl))) h (TxtA.nil _ _) hT
        rw [E7.eq] at h
        exact h.mono fun e w' ⟨a, c, he, ht, hb2⟩ => ⟨a, c, he, hb2⟩)
      clear HU HMt E1 E2 E3 E4 E5 E6 E7 mX mY HMa HMb HF1 HF2 HX HY
      generalize (Sm.union X Y).1 = U at *
      generalize (Sm.union X Y).2 = ku at *
      generalize Sm.meet X Y = M at *
      have HSX := (show Hid _ from fun (W : World) (a b : Option Addr) (c d : Nat) => HS.out X W a b c d (by omega))
      have HSU := (show Hid _ from fun (W : World) (a b : Option Addr) (c d : Nat) => HS.out U W a b c d (by omega))
      have HSM := (show Hid _ from fun (W : World) (a b : Option Addr) (c d : Nat) => HS.out M W a b c d (by omega))
      have ek : (((ku : Nat) : Int) == ((ku : Nat) : Int)) = true := by simp
      go_wp2_with fail
      refine (HU1.out _ px py qx qy Hpx_4.out Hpy_4.out HT4.out).mono ?_
      rintro e w5 ⟨pu, qu, rfl, hA5, hB5⟩
      have HB5 : Hid (Below w.heap.size w w5) := HB4.out.trans (hB5.mono HB4.out.size)
      have HT5 : Hid (Tab w5) := HT.out.below HB5.out
      have Hpx_5 : Hid (TxtA w5 px X) := Hpx_4.out.below hB5
      have Hpy_5 : Hid (TxtA w5 py Y) := Hpy_4.out.below hB5
      clear Hpx_4 Hpy_4
      have Hpu_5 : Hid (TxtA w5 pu U) := hA5
      clear hB5 hA5
      go_wp2_with fail
      refine (HU2.out _ py px qy qx Hpy_5.out Hpx_5.out HT5.out).mono ?_
      rintro e w6 ⟨pv, qv, rfl, hA6, hB6⟩
      have HB6 : Hid (Below w.heap.size w w6) := HB5.out.trans (hB6.mono HB5.out.size)
      have HT6 : Hid (Tab w6) := HT.out.below HB6.out
      have Hpx_6 : Hid (TxtA w6 px X) := Hpx_5.out.below hB6
      have Hpy_6 : Hid (TxtA w6 py Y) := Hpy_5.out.below hB6
      have Hpu_6 : Hid (TxtA w6 pu U) := Hpu_5.out.below hB6
      clear Hpx_5 Hpy_5 Hpu_5
      have Hpv_6 : Hid (TxtA w6 pv U) := hA6
      clear hB6 hA6
      go_wp2_with fail
      refine (HU3.out _ px px qx qx Hpx_6.out Hpx_6.out HT6.out).mono ?_
      rintro e w7 ⟨pw, qw, rfl, hA7, hB7⟩
      have HB7 : Hid (Below w.heap.size w w7) := HB6.out.trans (hB7.mono HB6.out.size)
      have HT7 : Hid (Tab w7) := HT.out.below HB7.out
      have Hpx_7 : Hid (TxtA w7 px X) := Hpx_6.out.below hB7
      have Hpy_7 : Hid (TxtA w7 py Y) := Hpy_6.out.below hB7
      have Hpu_7 : Hid (TxtA w7 pu U) := Hpu_6.out.below hB7
      have Hpv_7 : Hid (TxtA w7 pv U) := Hpv_6.out.below hB7
      clear Hpx_6 Hpy_6 Hpu_6 Hpv_6
      have Hpw_7 : Hid (TxtA w7 pw X) := hA7
      clear hB7 hA7
      go_wp2_with fail
      refine (HU4.out _ px qx Hpx_7.out HT7.out).mono ?_
      rintro e w8 ⟨pa, qa, rfl, hA8, hB8⟩
      have HB8 : Hid (Below w.heap.size w w8) := HB7.out.trans (hB8.mono HB7.out.size)
      have HT8 : Hid (Tab w8) := HT.out.below HB8.out
      have Hpx_8 : Hid (TxtA w8 px X) := Hpx_7.out.below hB8
      have Hpy_8 : Hid (TxtA w8 py Y) := Hpy_7.out.below hB8
      have Hpu_8 : Hid (TxtA w8 pu U) := Hpu_7.out.below hB8
      have Hpv_8 : Hid (TxtA w8 pv U) := Hpv_7.out.below hB8
      have Hpw_8 : Hid (TxtA w8 pw X) := Hpw_7.out.below hB8
      clear Hpx_7 Hpy_7 Hpu_7 Hpv_7 Hpw_7
      have Hpa_8 : Hid (TxtA w8 pa [[]]) := hA8
      clear hB8 hA8
      go_wp2_with fail
      refine (HSU.out _ pu pv qu qv Hpu_8.out Hpv_8.out).mono ?_
      rintro e w9 ⟨rfl, hB9⟩
      have HB9 : Hid (Below w.heap.size w w9) := HB8.out.trans (hB9.mono HB8.out.size)
      have HT9 : Hid (Tab w9) := HT.out.below HB9.out
      have Hpx_9 : Hid (TxtA w9 px X) := Hpx_8.out.below hB9
      have Hpy_9 : Hid (TxtA w9 py Y) := Hpy_8.out.below hB9
      have Hpu_9 : Hid (TxtA w9 pu U) := Hpu_8.out.below hB9
      have Hpv_9 : Hid (TxtA w9 pv U) := Hpv_8.out.below hB9
      have Hpw_9 : Hid (TxtA w9 pw X) := Hpw_8.out.below hB9
      have Hpa_9 : Hid (TxtA w9 pa [[]]) := Hpa_8.out.below hB9
      clear Hpx_8 Hpy_8 Hpu_8 Hpv_8 Hpw_8 Hpa_8
      clear hB9
      go_wp2_with fail
      refine (HSX.out _ pw px qw qx Hpw_9.out Hpx_9.out).mono ?_
      rintro e w10 ⟨rfl, hB10⟩
      have HB10 : Hid (Below w.heap.size w w10) := HB9.out.trans (hB10.mono HB9.out.size)
      have HT10 : Hid (Tab w10) := HT.out.below HB10.out
      have Hpx_10 : Hid (TxtA w10 px X) := Hpx_9.out.below hB10
      have Hpy_10 : Hid (TxtA w10 py Y) := Hpy_9.out.below hB10
      have Hpw_10 : Hid (TxtA w10 pw X) := Hpw_9.out.below hB10
      have Hpa_10 : Hid (TxtA w10 pa [[]]) := Hpa_9.out.below hB10
      clear Hpx_9 Hpy_9 Hpw_9 Hpa_9
      clear hB10
      go_wp2_with fail
      refine (HR.out _ pa qa Hpa_10.out).mono ?_
      rintro e w11 ⟨rfl, hB11⟩
      have HB11 : Hid (Below w.heap.size w w11) := HB10.out.trans (hB11.mono HB10.out.size)
      have HT11 : Hid (Tab w11) := HT.out.below HB11.out
      have Hpx_11 : Hid (TxtA w11 px X) := Hpx_10.out.below hB11
      have Hpy_11 : Hid (TxtA w11 py Y) := Hpy_10.out.below hB11
      have Hpa_11 : Hid (TxtA w11 pa [[]]) := Hpa_10.out.below hB11
      clear Hpx_10 Hpy_10 Hpa_10
      clear hB11
      go_wp2_with fail
      refine (HM1.out _ px py qx qy Hpx_11.out Hpy_11.out HT11.out).mono ?_
      rintro e w12 ⟨pm, qm, rfl, hA9, hB12⟩
      have HB12 : Hid (Below w.heap.size w w12) := HB11.out.trans (hB12.mono HB11.out.size)
      have HT12 : Hid (Tab w12) := HT.out.below HB12.out
      have Hpx_12 : Hid (TxtA w12 px X) := Hpx_11.out.below hB12
      have Hpy_12 : Hid (TxtA w12 py Y) := Hpy_11.out.below hB12
      clear Hpx_11 Hpy_11
      have Hpm_12 : Hid (TxtA w12 pm M) := hA9
      clear hB12 hA9
      go_wp2_with fail
      refine (HM2.out _ py px qy qx Hpy_12.out Hpx_12.out HT12.out).mono ?_
      rintro e w13 ⟨pn, qn, rfl, hA10, hB13⟩
      have HB13 : Hid (Below w.heap.size w w13) := HB12.out.trans (hB13.mono HB12.out.size)
      have HT13 : Hid (Tab w13) := HT.out.below HB13.out
      have Hpx_13 : Hid (TxtA w13 px X) := Hpx_12.out.below hB13
      have Hpy_13 : Hid (TxtA w13 py Y) := Hpy_12.out.below hB13
      have Hpm_13 : Hid (TxtA w13 pm M) := Hpm_12.out.below hB13
      clear Hpx_12 Hpy_12 Hpm_12
      have Hpn_13 : Hid (TxtA w13 pn M) := hA10
      clear hB13 hA10
      go_wp2_with fail
      refine (HSM.out _ pm pn qm qn Hpm_13.out Hpn_13.out).mono ?_
      rintro e w14 ⟨rfl, hB14⟩
      have HB14 : Hid (Below w.heap.size w w14) := HB13.out.trans (hB14.mono HB13.out.size)
      have HT14 : Hid (Tab w14) := HT.out.below HB14.out
      have Hpx_14 : Hid (TxtA w14 px X) := Hpx_13.out.below hB14
      have Hpy_14 : Hid (TxtA w14 py Y) := Hpy_13.out.below hB14
      have Hpm_14 : Hid (TxtA w14 pm M) := Hpm_13.out.below hB14
      have Hpn_14 : Hid (TxtA w14 pn M) := Hpn_13.out.below hB14
      clear Hpx_13 Hpy_13 Hpm_13 Hpn_13
      clear hB14
      go_wp2_with fail
      refine (HM3.out _ px px qx qx Hpx_14.out Hpx_14.out HT14.out).mono ?_
      rintro e w15 ⟨po, qo, rfl, hA11, hB15⟩
      have HB15 : Hid (Below w.heap.size w w15) := HB14.out.trans (hB15.mono HB14.out.size)
      have HT15 : Hid (Tab w15) := HT.out.below HB15.out
      have Hpx_15 : Hid (TxtA w15 px X) := Hpx_14.out.below hB15
      clear Hpx_14
      have Hpo_15 : Hid (TxtA w15 po X) := hA11
      clear hB15 hA11
      go_wp2_with fail
      refine (HSX.out _ po px qo qx Hpo_15.out Hpx_15.out).mono ?_
      rintro e w16 ⟨rfl, hB16⟩
      have HB16 : Hid (Below w.heap.size w w16) := HB15.out.trans (hB16.mono HB15.out.size)
      have HT16 : Hid (Tab w16) := HT.out.below HB16.out
      have Hpx_16 : Hid (TxtA w16 px X) := Hpx_15.out.below hB16
      have Hpo_16 : Hid (TxtA w16 po X) := Hpo_15.out.below hB16
      clear Hpx_15 Hpo_15
      clear hB16
      go_wp2_with fail
      refine (HM4.out _ px qx Hpx_16.out HT16.out).mono ?_
      rintro e w17 ⟨pp, qp, rfl, hA12, hB17⟩
      have HB17 : Hid (Below w.heap.size w w17) := HB16.out.trans (hB17.mono HB16.out.size)
      have HT17 : Hid (Tab w17) := HT.out.below HB17.out
      have Hpx_17 : Hid (TxtA w17 px X) := Hpx_16.out.below hB17
      clear Hpx_16
      have Hpp_17 : Hid (TxtA w17 pp X) := hA12
      clear hB17 hA12
      go_wp2_with fail
      refine (HSX.out _ pp px qp qx Hpp_17.out Hpx_17.out).mono ?_
      rintro e w18 ⟨rfl, hB18⟩
      have HB18 : Hid (Below w.heap.size w w18) := HB17.out.trans (hB18.mono HB17.out.size)
      have HT18 : Hid (Tab w18) := HT.out.below HB18.out
      have Hpx_18 : Hid (TxtA w18 px X) := Hpx_17.out.below hB18
      have Hpp_18 : Hid (TxtA w18 pp X) := Hpp_17.out.below hB18
      clear Hpx_17 Hpp_17
      clear hB18
      go_wp2_with fail
      refine (HM5.out _ px qx Hpx_18.out HT18.out).mono ?_
      rintro e w19 ⟨pq, qq, rfl, hB19⟩
      have HB19 : Hid (Below w.heap.size w w19) := HB18.out.trans (hB19.mono HB18.out.size)
      have HT19 : Hid (Tab w19) := HT.out.below HB19.out
      have Hpx_19 : Hid (TxtA w19 px X) := Hpx_18.out.below hB19
      clear Hpx_18
      clear hB19
      go_wp2_with fail
      refine (works_any _ HT19.out).mono ?_
      rintro e w20 ⟨rfl, hB20⟩
      have HB20 : Hid (Below w.heap.size w w20) := HB19.out.trans (hB20.mono HB19.out.size)
      have HT20 : Hid (Tab w20) := HT.out.below HB20.out
      have Hpx_20 : Hid (TxtA w20 px X) := Hpx_19.out.below hB20
      clear Hpx_19
      clear hB20
      go_wp2_with fail
      go_ret
      exact ⟨rfl, HB20.out⟩
    · have h2' : ¬ ((k2 : Nat) : Int) = 0 := by omega
      have h2b : (((k2 : Nat) : Int) == 0) = false := by simp only [beq_eq_false_iff_ne, ne_eq]; exact h2'
      subst h1
      go_wp2_with fail
      refine (works_any w4 HT4.out).mono ?_
      rintro e w5 ⟨rfl, hB5⟩
      go_wp2_with fail
      go_ret
      exact ⟨rfl, HB4.out.trans (hB5.mono HB4.out.size)⟩
  · have h1' : ¬ ((k1 : Nat) : Int) = 0 := by omega
    have h1b : (((k1 : Nat) : Int) == 0) = false := by simp only [beq_eq_false_iff_ne, ne_eq]; exact h1'
    go_wp2_with fail
    refine (works_any w4 HT4.out).mono ?_
    rintro e w5 ⟨rfl, hB5⟩
    go_wp2_with fail
    go_ret
    exact ⟨rfl, HB4.out.trans (hB5.mono HB4.out.size)⟩
end Go.Proofs.YtbcmgcallidneaaDoor
