/- Proved: the laws' example holds. -/
import Derived.Test.YtbcmgcallidneaaGreatDoorMeetF
import Derived.Test.YtbcmgcallidneaaGreatDoorSameL
namespace Go.Proofs.YtbcmgcallidneaaGreatDoor
open Go.RowKit
theorem txt_new (w : World) (l : List Pm.T) : TxtA (w.alloc (.cells (scells l).toArray 9)) (some ⟨w.heap.size, 0, none⟩) l := fun _ =>
  ⟨w.heap.size, rfl, by simp, textsAt_new w l 9⟩
theorem ex_make : Sm.makes [[98], [97, 47, 99], [97]] = ([[97], [98]], 0) := by decide +kernel
theorem ex_has : Sm.has [[97], [98]] [97, 47, 99, 47, 100, 46, 116, 120, 116] = true := by decide +kernel
theorem ex_meet : Sm.meet [[97], [98]] [[97, 47, 120], [99]] = [[97, 47, 120]] := by decide +kernel
theorem small2 {l : List Pm.T} (h : l.all (fun x => decide (x.length ≤ 1000000)) = true) : ∀ x ∈ l, x.length ≤ 1000000 := fun x hx => of_decide_eq_true (List.all_eq_true.1 h x hx)
set_option maxHeartbeats 4000000 in
set_option maxRecDepth 20000 in
theorem works_any (w : World) (hT : Tab w) : Calls Tryz.prog 12 #[] w fun e w' => e = .returned (.bool true) ∧ Below w.heap.size w w' := by
  have HT : Hid (Tab w) := hT
  have HM : Hid (Calls Tryz.prog 7 #[.slice (some ⟨w.heap.size, 0, none⟩) 3 3] (w.alloc (.cells #[.string ⟨#[98]⟩, .string ⟨#[97, 47, 99]⟩, .string ⟨#[97]⟩] 9)) fun e w' => ∃ ad' c', e = .returned (.tuple #[.slice ad' 2 c', .int .i64 0]) ∧ TxtA w' ad' [[97], [98]] ∧ Below w.heap.size w w') := by
    have hb : Below w.heap.size w (w.alloc (.cells (scells [[98], [97, 47, 99], [97]]).toArray 9)) := (Below.refl _ w).alloc (Nat.le_refl _) _
    have h := make_any (some ⟨w.heap.size, 0, none⟩) 3 [[98], [97, 47, 99], [97]] _ (txt_new w _) (by decide) (small2 (by decide)) (hT.below hb)
    rw [ex_make] at h
    exact h.mono fun e w' ⟨a, c, he, ht, hb2⟩ => ⟨a, c, he, ht, hb.trans (hb2.mono hb.size)⟩
  have HS1 : Hid (∀ (W : World) (a : Option Addr) (c : Nat), TxtA W a [[97], [98]] → Calls Tryz.prog 9 #[.slice a 2 c, .slice (some ⟨W.heap.size, 0, none⟩) 2 2] (W.alloc (.cells #[.string ⟨#[97]⟩, .string ⟨#[98]⟩] 9)) fun e w' => e = .returned (.bool true) ∧ Below W.heap.size W w') := fun W a c h => by
    have hb : Below W.heap.size W (W.alloc (.cells (scells [[97], [98]]).toArray 9)) := (Below.refl _ W).alloc (Nat.le_refl _) _
    have h := rsame_any a (some ⟨W.heap.size, 0, none⟩) c 2 [[97], [98]] [[97], [98]] _ (by decide) (by decide) (h.below hb) (txt_new W _)
    exact h.mono fun e w' ⟨he, hb2⟩ => ⟨he, hb.trans (hb2.mono hb.size)⟩
  have HH : Hid (∀ (W : World) (a : Option Addr) (c : Nat), TxtA W a [[97], [98]] → Tab W → Calls Tryz.prog 27 #[.slice a 2 c, .string ⟨#[97, 47, 99, 47, 100, 46, 116, 120, 116]⟩] W fun e w' => e = .returned (.bool true) ∧ Below W.heap.size W w') := fun W a c h hT => by
    have h := has_any a c [[97], [98]] ⟨#[97, 47, 99, 47, 100, 46, 116, 120, 116]⟩ W h (by decide) (by decide) hT
    rw [show Sm.has [[97], [98]] (bl ⟨#[97, 47, 99, 47, 100, 46, 116, 120, 116]⟩) = true from ex_has] at h
    exact h
  have HMe : Hid (∀ (W : World) (a : Option Addr) (c : Nat), TxtA W a [[97], [98]] → Tab W → Calls Tryz.prog 15 #[.slice a 2 c, .slice (some ⟨W.heap.size, 0, none⟩) 2 2] (W.alloc (.cells #[.string ⟨#[97, 47, 120]⟩, .string ⟨#[99]⟩] 9)) fun e w' => ∃ ad' c', e = .returned (.slice ad' 1 c') ∧ TxtA w' ad' [[97, 47, 120]] ∧ Below W.heap.size W w') := fun W a c h hT => by
    have hb : Below W.heap.size W (W.alloc (.cells (scells [[97, 47, 120], [99]]).toArray 9)) := (Below.refl _ W).alloc (Nat.le_refl _) _
    have h := meet_any a c [[97], [98]] (some ⟨W.heap.size, 0, none⟩) 2 [[97, 47, 120], [99]] _ (h.below hb) (txt_new W _) (by decide) (by decide) (small2 (by decide)) (small2 (by decide)) (hT.below hb)
    rw [ex_meet] at h
    exact h.mono fun e w' ⟨a, c, he, ht, hb2⟩ => ⟨a, c, he, ht, hb.trans (hb2.mono hb.size)⟩
  have HS2 : Hid (∀ (W : World) (a : Option Addr) (c : Nat), TxtA W a [[97, 47, 120]] → Calls Tryz.prog 9 #[.slice a 1 c, .slice (some ⟨W.heap.size, 0, none⟩) 1 1] (W.alloc (.cells #[.string ⟨#[97, 47, 120]⟩] 9)) fun e w' => e = .returned (.bool true) ∧ Below W.heap.size W w') := fun W a c h => by
    have hb : Below W.heap.size W (W.alloc (.cells (scells [[97, 47, 120]]).toArray 9)) := (Below.refl _ W).alloc (Nat.le_refl _) _
    have h := rsame_any a (some ⟨W.heap.size, 0, none⟩) c 1 [[97, 47, 120]] [[97, 47, 120]] _ (by decide) (by decide) (h.below hb) (txt_new W _)
    exact h.mono fun e w' ⟨he, hb2⟩ => ⟨he, hb.trans (hb2.mono hb.size)⟩
  clear hT
  go_enter Tryz.func12, Tryz.ntmps12
  go_wp2_with fail
  refine (show Calls _ _ _ _ _ from HM.out).mono ?_
  rintro e w1 ⟨a1, c1, rfl, hA1, hB1⟩
  have HB1 : Hid (Below w.heap.size w w1) := hB1
  have HA1 : Hid (TxtA w1 a1 [[97], [98]]) := hA1
  have HT1 : Hid (Tab w1) := HT.out.below hB1
  have hz1 := hB1.size
  clear hB1 hA1 HM
  go_wp2_with fail
  refine (HS1.out w1 a1 c1 HA1.out).mono ?_
  rintro e w2 ⟨rfl, hB2⟩
  have HB2 : Hid (Below w.heap.size w w2) := HB1.out.trans (hB2.mono hz1)
  have HA2 : Hid (TxtA w2 a1 [[97], [98]]) := HA1.out.below hB2
  have HT2 : Hid (Tab w2) := HT1.out.below hB2
  have hz2 := HB2.out.size
  clear hB2 HS1
  go_wp2_with fail
  refine (HH.out w2 a1 c1 HA2.out HT2.out).mono ?_
  rintro e w3 ⟨rfl, hB3⟩
  have HB3 : Hid (Below w.heap.size w w3) := HB2.out.trans (hB3.mono hz2)
  have HA3 : Hid (TxtA w3 a1 [[97], [98]]) := HA2.out.below hB3
  have HT3 : Hid (Tab w3) := HT2.out.below hB3
  have hz3 := HB3.out.size
  clear hB3 HH
  go_wp2_with fail
  refine (HMe.out w3 a1 c1 HA3.out HT3.out).mono ?_
  rintro e w4 ⟨a4, c4, rfl, hA4, hB4⟩
  have HB4 : Hid (Below w.heap.size w w4) := HB3.out.trans (hB4.mono hz3)
  have HA4 : Hid (TxtA w4 a4 [[97, 47, 120]]) := hA4
  have hz4 := HB4.out.size
  clear hB4 HMe hA4
  go_wp2_with fail
  refine (HS2.out w4 a4 c4 HA4.out).mono ?_
  rintro e w5 ⟨rfl, hB5⟩
  have HB5 : Hid (Below w.heap.size w w5) := HB4.out.trans (hB5.mono hz4)
  clear hB5 HS2
  go_wp2_with fail
  go_ret
  exact ⟨rfl, HB5.out⟩
end Go.Proofs.YtbcmgcallidneaaGreatDoor
