/- Proved: the law ScopeTells, walked. -/
import Derived.Test.YtbcmgcallidneaaDoorRHas
import Derived.Test.YtbcmgcallidneaaDoorWorks
import Derived.Test.YtbcmgcallidneaaDoorFewL
namespace Go.Proofs.YtbcmgcallidneaaDoor
open Go.RowKit
set_option maxHeartbeats 4000000 in
set_option maxRecDepth 20000 in
theorem tells_walk (ad1 : Option Addr) (n1 c1 : Nat) (ss1 : List ByteArray) (ad2 : Option Addr) (n2 c2 : Nat) (ss2 : List ByteArray) (p : ByteArray) (w : World) (hI1 : InA w ad1 n1 ss1) (hI2 : InA w ad2 n2 ss2) (_hp : p.size ≤ 9223372036854775807) (hT : Tab w) :
    Calls Tryd.prog 3 #[.slice ad1 n1 c1, .slice ad2 n2 c2, .string p] w fun e w' => e = .returned (.bool true) ∧ Below w.heap.size w w' := by
  have HF1 : Hid (∀ W : World, Below w.heap.size w W → Calls Tryd.prog 6 #[.slice ad1 n1 c1] W fun e w' => ∃ v, e = .returned v ∧ w'.ownsRow W.heap.size 9 1 v (fews ss1).length (scells (fews ss1)) ∧ Below W.heap.size W w') := fun W hb => few_any ad1 n1 c1 ss1 W (hI1.below hb)
  have HF2 : Hid (∀ W : World, Below w.heap.size w W → Calls Tryd.prog 6 #[.slice ad2 n2 c2] W fun e w' => ∃ v, e = .returned v ∧ w'.ownsRow W.heap.size 9 1 v (fews ss2).length (scells (fews ss2)) ∧ Below W.heap.size W w') := fun W hb => few_any ad2 n2 c2 ss2 W (hI2.below hb)
  have HP : Is (p.extract 0 (min (p.size : Int) 150).toNat) (mk (cut p)) := ⟨extract_cut p⟩
  have HT : Hid (Tab w) := hT
  have hl1 := fews_length ss1
  have hl2 := fews_length ss2
  have hx1 := fews_short ss1
  have hx2 := fews_short ss2
  have hcp := cut_length p
  generalize fews ss1 = A at *
  generalize fews ss2 = B at *
  generalize cut p = x at *
  have HH : Hid (∀ (W : World) (a : Option Addr) (c : Nat), TxtA W a A → Tab W → Calls Tryd.prog 7 #[.slice a A.length c, .string (mk x)] W fun e w' => e = .returned (.bool (Sm.has A x)) ∧ Below W.heap.size W w') := fun W a c h hT => has_any a c A (mk x) W h (by omega) (by rw [mk_size]; omega) hT
  have HRH : Hid (∀ (W : World) (a : Option Addr) (c : Nat), TxtA W a A → Calls Tryd.prog 8 #[.slice a A.length c, .string (mk x)] W fun e w' => e = .returned (.bool (Sm.has A x)) ∧ Below W.heap.size W w') := fun W a c h => rhas_any a c A (mk x) W h (by omega) (fun y hy => by have := hx1 y hy; omega) (by rw [mk_size]; omega)
  have HC : Hid (∀ (W : World) (a b : Option Addr) (c d : Nat), TxtA W a A → TxtA W b B → Tab W → Calls Tryd.prog 9 #[.slice a A.length c, .slice b B.length d] W fun e w' => e = .returned (.bool (Sm.covers A B)) ∧ Below W.heap.size W w') := fun W a b c d h1 h2 hT => covers_any a c A b d B W h1 h2 (by omega) (by omega) (fun y hy => by have := hx2 y hy; omega) hT
  have HRC : Hid (∀ (W : World) (a b : Option Addr) (c d : Nat), TxtA W a A → TxtA W b B → Calls Tryd.prog 10 #[.slice a A.length c, .slice b B.length d] W fun e w' => e = .returned (.bool (Sm.covers A B)) ∧ Below W.heap.size W w') := fun W a b c d h1 h2 => rcovers_any a c A b d B W h1 h2 (by omega) (by omega) (fun y hy => by have := hx1 y hy; omega) (fun y hy => by have := hx2 y hy; omega)
  have m0 : (0 : Int) ≤ min (p.size : Int) 150 := by omega
  have m1 : min (p.size : Int) 150 ≤ (p.size : Int) := by omega
  have HS0 : Hid (Below w.heap.size w w) := Below.refl _ _
  clear hI1 hI2 hT hl1 hl2 hx1 hx2 hcp
  go_enter Tryd.func3, Tryd.ntmps3
  go_wp2_with fail
  go_region_held3 (fun W => Below w.heap.size w W)
    (first | exact HS0.out | assumption | exact HS0.out.drew | exact hS2 | exact hS1)
    (first
      | (go_at_call_of 6 (Value.slice ad1 n1 c1); refine (HF1.out w.drew HS0.out.drew).mono ?_; rintro e w1 ⟨v1, rfl, ho1, hB1⟩; have hS1 : Below w.heap.size w w1 := HS0.out.drew.trans hB1; clear hB1)
      | (go_at_call_of 6 (Value.slice ad2 n2 c2); refine (HF2.out _ hS1).mono ?_; rintro e w2 ⟨v2, rfl, ho2, hB2⟩; have hS2 : Below w.heap.size w w2 := hS1.trans (hB2.mono hS1.size)))
  all_goals
    obtain ⟨b1, d1, hv1, _, _, hA1⟩ := own_txt ho1
    obtain ⟨b2, d2, hv2, _, _, hA2⟩ := own_txt ho2
    subst hv1 hv2
    have HA1 : Hid (TxtA w2 b1 A) := hA1.below hB2
    have HA2 : Hid (TxtA w2 b2 B) := hA2
    have HB2 : Hid (Below w.heap.size w w2) := hS2
    have HT2 : Hid (Tab w2) := HT.out.below hS2
    have hz2 := hS2.size
    rw [HP.eq]
    clear ho1 ho2 hA1 hA2 hS1 hS2 hB2
    go_wp2_with fail
    refine (HH.out w2 b1 d1 HA1.out HT2.out).mono ?_
    rintro e w3 ⟨rfl, hB3⟩
    have HB3 : Hid (Below w.heap.size w w3) := HB2.out.trans (hB3.mono hz2)
    have HA3 : Hid (TxtA w3 b1 A) := HA1.out.below hB3
    have HA3' : Hid (TxtA w3 b2 B) := HA2.out.below hB3
    have HT3 : Hid (Tab w3) := HT2.out.below hB3
    have hz3 := HB3.out.size
    clear hB3
    go_wp2_with fail
    refine (HRH.out w3 b1 d1 HA3.out).mono ?_
    rintro e w4 ⟨rfl, hB4⟩
    have HB4 : Hid (Below w.heap.size w w4) := HB3.out.trans (hB4.mono hz3)
    have HA4 : Hid (TxtA w4 b1 A) := HA3.out.below hB4
    have HA4' : Hid (TxtA w4 b2 B) := HA3'.out.below hB4
    have HT4 : Hid (Tab w4) := HT3.out.below hB4
    have hz4 := HB4.out.size
    clear hB4
    have e1 : (Sm.has A x == Sm.has A x) = true := by simp
    generalize Sm.has A x = r1 at *
    go_wp2_with fail
    refine (HC.out w4 b1 b2 d1 d2 HA4.out HA4'.out HT4.out).mono ?_
    rintro e w5 ⟨rfl, hB5⟩
    have HB5 : Hid (Below w.heap.size w w5) := HB4.out.trans (hB5.mono hz4)
    have HA5 : Hid (TxtA w5 b1 A) := HA4.out.below hB5
    have HA5' : Hid (TxtA w5 b2 B) := HA4'.out.below hB5
    have HT5 : Hid (Tab w5) := HT4.out.below hB5
    have hz5 := HB5.out.size
    clear hB5
    go_wp2_with fail
    refine (HRC.out w5 b1 b2 d1 d2 HA5.out HA5'.out).mono ?_
    rintro e w6 ⟨rfl, hB6⟩
    have HB6 : Hid (Below w.heap.size w w6) := HB5.out.trans (hB6.mono hz5)
    have HT6 : Hid (Tab w6) := HT5.out.below hB6
    have hz6 := HB6.out.size
    clear hB6
    have e2 : (Sm.covers A B == Sm.covers A B) = true := by simp
    generalize Sm.covers A B = r2 at *
    go_wp2_with fail
    refine (works_any w6 HT6.out).mono ?_
    rintro e w7 ⟨rfl, hB7⟩
    go_wp2_with fail
    go_ret
    exact ⟨rfl, HB6.out.trans (hB7.mono hz6)⟩
end Go.Proofs.YtbcmgcallidneaaDoor
