/- Proved: the walk of the law PathKinds. -/
import Derived.Test.YtlgalcpnodadiaaDoorRCln
import Derived.Test.YtlgalcpnodadiaaDoorParts
namespace Go.Proofs.YtlgalcpnodadiaaDoor
open Go.RowKit
/- a list of texts, as a slice that can be read -/
def Held (W : World) (ad : Option Addr) (l : List Pm.T) : Prop := 0 < l.length → ∃ g, ad = some ⟨g, 0, none⟩ ∧ g < W.heap.size ∧ TextsAt W g 0 l
theorem Held.below {W W' : World} {ad : Option Addr} {l : List Pm.T} (h : Held W ad l) (hb : Below W.heap.size W W') : Held W' ad l := fun h0 => by
  obtain ⟨g, e, hg, t⟩ := h h0
  exact ⟨g, e, Nat.lt_of_lt_of_le hg hb.size, t.below hb hg⟩
theorem Held.texts {W : World} {ad : Option Addr} {l : List Pm.T} (h : Held W ad l) : 0 < l.length → ∃ g, ad = some ⟨g, 0, none⟩ ∧ TextsAt W g 0 l := fun h0 => by
  obtain ⟨g, e, _, t⟩ := h h0
  exact ⟨g, e, t⟩
theorem held_of {f : FuncId} {args : Array Value} {W : World} {l : List Pm.T} (h : Calls Tryd.prog f args W fun e w' => ∃ v, e = .returned v ∧ w'.ownsRow W.heap.size 9 1 v l.length (scells l) ∧ Below W.heap.size W w') : Calls Tryd.prog f args W fun e w' => ∃ ad c, e = .returned (.slice ad l.length c) ∧ Held w' ad l ∧ Below W.heap.size W w' :=
  h.mono fun e w' ⟨v, he, ho, hb⟩ => by
    obtain ⟨ad, c, hv, ht⟩ := own_slice ho
    exact ⟨ad, c, by rw [he, hv], ht, hb⟩
set_option maxHeartbeats 4000000 in
set_option maxRecDepth 20000 in
theorem kinds_walk (s1 : ByteArray) (w : World) (hs1 : s1.size ≤ 9223372036854775807) (hT : Tab w) :
    Calls Tryd.prog 3 #[.string s1] w fun e w' => e = .returned (.bool true) ∧ Below w.heap.size w w' := by
  have HF1 : Hid (∀ W : World, Calls Tryd.prog 9 #[.string s1] W fun e w' => e = .returned (.string (mk (few (bl s1)))) ∧ w' = W) := fun W => few_any s1 W hs1
  have hp := few_length (bl s1)
  generalize few (bl s1) = p at *
  have KA : Hid (∀ W : World, Tab W → Calls Tryd.prog 10 #[.string (mk p)] W fun e w' => e = .returned (.tuple #[.int .i64 ((Pm.kind p).1 : Nat), .int .i64 ((Pm.kind p).2 : Nat)]) ∧ Below W.heap.size W w') := fun W hW => kind_any (mk p) W (by rw [mk_size]; omega) hW
  have KR : Hid (∀ W : World, Calls Tryd.prog 11 #[.string (mk p)] W fun e w' => e = .returned (.tuple #[.int .i64 ((Pm.kind p).1 : Nat), .int .i64 ((Pm.kind p).2 : Nat)]) ∧ Below W.heap.size W w') := fun W => rkind_any (mk p) W (by rw [mk_size]; omega)
  have LA : Hid (∀ W : World, Tab W → Calls Tryd.prog 12 #[.string (mk p)] W fun e w' => e = .returned (.tuple #[.string (mk (Pm.clean p).1), .int .i64 ((Pm.clean p).2 : Nat)]) ∧ Below W.heap.size W w') := fun W hW => clean_any (mk p) W (by rw [mk_size]; omega) hW
  have LR : Hid (∀ W : World, Calls Tryd.prog 13 #[.string (mk p)] W fun e w' => e = .returned (.tuple #[.string (mk (Pm.clean p).1), .int .i64 ((Pm.clean p).2 : Nat)]) ∧ Below W.heap.size W w') := fun W => rclean_any (mk p) W
  have PA : Hid (∀ W : World, Tab W → Calls Tryd.prog 14 #[.string (mk p)] W fun e w' => e = .returned (.tuple #[.string (mk ((Pm.parent p).getD [])), .bool (Pm.parent p).isSome]) ∧ Below W.heap.size W w') := fun W hW => parent_any (mk p) W (by rw [mk_size]; omega) hW
  have PR : Hid (∀ W : World, Calls Tryd.prog 15 #[.string (mk p)] W fun e w' => e = .returned (.tuple #[.string (mk ((Pm.parent p).getD [])), .bool (Pm.parent p).isSome]) ∧ Below W.heap.size W w') := fun W => rparent_any (mk p) W (by rw [mk_size]; omega)
  have SA := (show Hid (∀ W : World, Tab W → Calls Tryd.prog 17 #[.string (mk p)] W fun e w' => ∃ ad c, e = .returned (.slice ad (Pm.split p).length c) ∧ Held w' ad (Pm.split p) ∧ Below W.heap.size W w') from fun W hW => held_of (psplit_any (mk p) W (by rw [mk_size]; omega) hW))
  have SR := (show Hid (∀ W : World, Calls Tryd.prog 18 #[.string (mk p)] W fun e w' => ∃ ad c, e = .returned (.slice ad (Pm.split p).length c) ∧ Held w' ad (Pm.split p) ∧ Below W.heap.size W w') from fun W => held_of (rsplit_any (mk p) W (by rw [mk_size]; omega)))
  have SS := (show Hid (∀ (ad1 ad2 : Option Addr) (c1 c2 : Nat) (W : World), Held W ad1 (Pm.split p) → Held W ad2 (Pm.split p) → Calls Tryd.prog 16 #[.slice ad1 (Pm.split p).length c1, .slice ad2 (Pm.split p).length c2] W fun e w' => e = .returned (.bool true) ∧ Below W.heap.size W w') from fun ad1 ad2 c1 c2 W h1 h2 => rsame_yes ad1 ad2 c1 c2 _ W (by have := (split_size p).1; omega) h1.texts h2.texts)
  have NA : Hid (∀ W : World, Tab W → Calls Tryd.prog 19 #[.string (mk p)] W fun e w' => e = .returned (.string (mk (Pm.last p))) ∧ Below W.heap.size W w') := fun W hW => name_any (mk p) W (by rw [mk_size]; omega) hW
  have NR : Hid (∀ W : World, Calls Tryd.prog 20 #[.string (mk p)] W fun e w' => e = .returned (.string (mk (Pm.last p))) ∧ Below W.heap.size W w') := fun W => rnm_any (mk p) W (by rw [mk_size]; omega)
  have t100 : (Pm.ups p).take 100 = Pm.ups p := List.take_of_length_le (by have := ups_short p; omega)
  have UA := (show Hid (∀ W : World, Tab W → Calls Tryd.prog 21 #[.string (mk p), .int .i64 100] W fun e w' => ∃ ad c, e = .returned (.slice ad (Pm.ups p).length c) ∧ Held w' ad (Pm.ups p) ∧ Below W.heap.size W w') from fun W hW => by
    have h := ups_any (mk p) 100 W (by rw [mk_size]; omega) (by omega) (by omega) hW
    rw [show (Pm.ups (bl (mk p))).take 100 = _ from t100] at h
    exact held_of h)
  have UR := (show Hid (∀ W : World, Calls Tryd.prog 22 #[.string (mk p)] W fun e w' => ∃ ad c, e = .returned (.slice ad (Pm.ups p).length c) ∧ Held w' ad (Pm.ups p) ∧ Below W.heap.size W w') from fun W => held_of (rups_any (mk p) W (by rw [mk_size]; omega)))
  have US := (show Hid (∀ (ad1 ad2 : Option Addr) (c1 c2 : Nat) (W : World), Held W ad1 (Pm.ups p) → Held W ad2 (Pm.ups p) → Calls Tryd.prog 16 #[.slice ad1 (Pm.ups p).length c1, .slice ad2 (Pm.ups p).length c2] W fun e w' => e = .returned (.bool true) ∧ Below W.heap.size W w') from fun ad1 ad2 c1 c2 W h1 h2 => rsame_yes ad1 ad2 c1 c2 _ W (by have := ups_short p; omega) h1.texts h2.texts)
  have HW : Hid (∀ W : World, Tab W → Calls Tryd.prog 23 #[] W fun e w' => e = .returned (.bool true) ∧ Below W.heap.size W w') := fun W hW => works_any W hW
  have HB0 : Hid (Below w.heap.size w w) := Below.refl _ _
  have HT0 : Hid (Tab w) := hT
  have hz0 : w.heap.size ≤ w.heap.size := Nat.le_refl _
  have E1 : ((mk (Pm.clean p).1).toList == (mk (Pm.clean p).1).toList) = true := by simp
  have E2 : ((mk ((Pm.parent p).getD [])).toList == (mk ((Pm.parent p).getD [])).toList) = true := by simp
  have E3 : ((mk (Pm.last p)).toList == (mk (Pm.last p)).toList) = true := by simp
  have E4 : ((Pm.parent p).isSome == (Pm.parent p).isSome) = true := by simp
  generalize mk (Pm.clean p).1 = C1 at *
  generalize (Pm.clean p).2 = C2 at *
  generalize mk ((Pm.parent p).getD []) = P1 at *
  generalize (Pm.parent p).isSome = P2 at *
  generalize mk (Pm.last p) = N1 at *
  generalize (Pm.kind p).1 = k1 at *
  generalize (Pm.kind p).2 = k2 at *
  generalize Pm.split p = LS at *
  generalize Pm.ups p = LU at *
  generalize mk p = P at *
  clear hs1 hT hp t100
  go_enter Tryd.func3, Tryd.ntmps3
  go_wp2_with fail
  refine (HF1.out _).mono ?_
  rintro e wS ⟨rfl, hwS⟩
  rw [hwS]
  clear hwS wS
  clear HF1
  go_wp2_with fail
  refine (KA.out _ HT0.out).mono ?_
  rintro e w1 ⟨rfl, hB1⟩
  have HB1 : Hid (Below w.heap.size w w1) := HB0.out.trans (hB1.mono hz0)
  have HT1 : Hid (Tab w1) := HT0.out.below hB1
  have hz1 := HB1.out.size
  clear hB1
  go_wp2_with fail
  refine (KR.out _).mono ?_
  rintro e w2 ⟨rfl, hB2⟩
  have HB2 : Hid (Below w.heap.size w w2) := HB1.out.trans (hB2.mono hz1)
  have HT2 : Hid (Tab w2) := HT1.out.below hB2
  have hz2 := HB2.out.size
  clear hB2
  go_wp2_with fail
  refine (LA.out _ HT2.out).mono ?_
  rintro e w3 ⟨rfl, hB3⟩
  have HB3 : Hid (Below w.heap.size w w3) := HB2.out.trans (hB3.mono hz2)
  have HT3 : Hid (Tab w3) := HT2.out.below hB3
  have hz3 := HB3.out.size
  clear hB3
  go_wp2_with fail
  refine (LR.out _).mono ?_
  rintro e w4 ⟨rfl, hB4⟩
  have HB4 : Hid (Below w.heap.size w w4) := HB3.out.trans (hB4.mono hz3)
  have HT4 : Hid (Tab w4) := HT3.out.below hB4
  have hz4 := HB4.out.size
  clear hB4
  go_wp2_with fail
  refine (PA.out _ HT4.out).mono ?_
  rintro e w5 ⟨rfl, hB5⟩
  have HB5 : Hid (Below w.heap.size w w5) := HB4.out.trans (hB5.mono hz4)
  have HT5 : Hid (Tab w5) := HT4.out.below hB5
  have hz5 := HB5.out.size
  clear hB5
  go_wp2_with fail
  refine (PR.out _).mono ?_
  rintro e w6 ⟨rfl, hB6⟩
  have HB6 : Hid (Below w.heap.size w w6) := HB5.out.trans (hB6.mono hz5)
  have HT6 : Hid (Tab w6) := HT5.out.below hB6
  have hz6 := HB6.out.size
  clear hB6
  clear HB0 HB1 HB2 HB3 HB4 HB5 HT0 HT1 HT2 HT3 HT4 HT5 hz0 hz1 hz2 hz3 hz4 hz5 KA KR LA LR PA PR
  go_wp2_with fail
  refine (SA.out _ HT6.out).mono ?_
  rintro e w7 ⟨ad7, c7, rfl, h7, hB7⟩
  have HB7 : Hid (Below w.heap.size w w7) := HB6.out.trans (hB7.mono hz6)
  have HT7 : Hid (Tab w7) := HT6.out.below hB7
  have HH7 : Hid (Held w7 ad7 LS) := h7
  have hz7 := HB7.out.size
  clear hB7 h7
  go_wp2_with fail
  refine (SR.out _).mono ?_
  rintro e w8 ⟨ad8, c8, rfl, h8, hB8⟩
  have HB8 : Hid (Below w.heap.size w w8) := HB7.out.trans (hB8.mono hz7)
  have HT8 : Hid (Tab w8) := HT7.out.below hB8
  have SQ := (show Hid (∀ c1 c2, Calls Tryd.prog 16 #[.slice ad7 LS.length c1, .slice ad8 LS.length c2] w8 fun e w' => e = .returned (.bool true) ∧ Below w8.heap.size w8 w') from fun c1 c2 => SS.out ad7 ad8 c1 c2 w8 (HH7.out.below hB8) h8)
  have hz8 := HB8.out.size
  clear hB8 h8 HH7
  go_wp2_with fail
  refine (SQ.out _ _).mono ?_
  rintro e w9 ⟨rfl, hB9⟩
  have HB9 : Hid (Below w.heap.size w w9) := HB8.out.trans (hB9.mono hz8)
  have HT9 : Hid (Tab w9) := HT8.out.below hB9
  have hz9 := HB9.out.size
  clear hB9
  go_wp2_with fail
  refine (NA.out _ HT9.out).mono ?_
  rintro e w10 ⟨rfl, hB10⟩
  have HB10 : Hid (Below w.heap.size w w10) := HB9.out.trans (hB10.mono hz9)
  have HT10 : Hid (Tab w10) := HT9.out.below hB10
  have hz10 := HB10.out.size
  clear hB10
  go_wp2_with fail
  refine (NR.out _).mono ?_
  rintro e w11 ⟨rfl, hB11⟩
  have HB11 : Hid (Below w.heap.size w w11) := HB10.out.trans (hB11.mono hz10)
  have HT11 : Hid (Tab w11) := HT10.out.below hB11
  have hz11 := HB11.out.size
  clear hB11
  clear HB6 HB7 HB8 HB9 HB10 HT6 HT7 HT8 HT9 HT10 hz6 hz7 hz8 hz9 hz10 SA SR SS SQ NA NR
  go_wp2_with fail
  refine (UA.out _ HT11.out).mono ?_
  rintro e w12 ⟨ad12, c12, rfl, h12, hB12⟩
  have HB12 : Hid (Below w.heap.size w w12) := HB11.out.trans (hB12.mono hz11)
  have HT12 : Hid (Tab w12) := HT11.out.below hB12
  have HH12 : Hid (Held w12 ad12 LU) := h12
  have hz12 := HB12.out.size
  clear hB12 h12
  go_wp2_with fail
  refine (UR.out _).mono ?_
  rintro e w13 ⟨ad13, c13, rfl, h13, hB13⟩
  have HB13 : Hid (Below w.heap.size w w13) := HB12.out.trans (hB13.mono hz12)
  have HT13 : Hid (Tab w13) := HT12.out.below hB13
  have UQ := (show Hid (∀ c1 c2, Calls Tryd.prog 16 #[.slice ad12 LU.length c1, .slice ad13 LU.length c2] w13 fun e w' => e = .returned (.bool true) ∧ Below w13.heap.size w13 w') from fun c1 c2 => US.out ad12 ad13 c1 c2 w13 (HH12.out.below hB13) h13)
  have hz13 := HB13.out.size
  clear hB13 h13 HH12
  go_wp2_with fail
  refine (UQ.out _ _).mono ?_
  rintro e w14 ⟨rfl, hB14⟩
  have HB14 : Hid (Below w.heap.size w w14) := HB13.out.trans (hB14.mono hz13)
  have HT14 : Hid (Tab w14) := HT13.out.below hB14
  have hz14 := HB14.out.size
  clear hB14
  go_wp2_with fail
  refine (HW.out _ HT14.out).mono ?_
  rintro e w15 ⟨rfl, hB15⟩
  have HB15 : Hid (Below w.heap.size w w15) := HB14.out.trans (hB15.mono hz14)
  have HT15 : Hid (Tab w15) := HT14.out.below hB15
  have hz15 := HB15.out.size
  clear hB15
  go_wp2_with fail
  go_ret
  exact ⟨rfl, HB15.out⟩
end Go.Proofs.YtlgalcpnodadiaaDoor
