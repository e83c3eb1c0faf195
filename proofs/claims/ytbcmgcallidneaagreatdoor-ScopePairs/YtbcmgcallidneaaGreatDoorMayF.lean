/- Proved: May, Union and Meet of any lists. -/
import Derived.Test.YtbcmgcallidneaaGreatDoorMakeF
import Derived.Test.YtbcmgcallidneaaGreatDoorWithin
import Derived.Test.YtbcmgcallidneaaGreatDoorCat
namespace Go.Proofs.YtbcmgcallidneaaGreatDoor
open Go.RowKit
set_option maxHeartbeats 2000000 in
set_option maxRecDepth 20000 in
theorem may_any (ad : Option Addr) (c : Nat) (l : List Pm.T) (w : World) (hA : TxtA w ad l) (hl : l.length ≤ 1000) (hx : ∀ x ∈ l, x.length ≤ 1000000) (hT : Tab w) :
    Calls Tryz.prog 10 #[.slice ad l.length c] w fun e w' => e = .returned (.bool (Sm.may l)) ∧ Below w.heap.size w w' := by
  have HM := (show Hid _ from make_any ad c l w hA hl hx hT)
  have HA : Hid (TxtA w ad l) := hA
  have HR : Is (Sm.may l) ((Sm.makes l).2 == 0 && (Sm.makes l).1 == l) := ⟨rfl⟩
  have HE : Hid (∀ (W : World) (a' : Option Addr) (c' : Nat), TxtA W a' (Sm.makes l).1 → Below w.heap.size w W → Calls Tryz.prog 26 #[.slice a' (Sm.makes l).1.length c', .slice ad l.length c] W fun e w' => e = .returned (.bool ((Sm.makes l).1 == l)) ∧ Below W.heap.size W w') :=
    fun W a' c' h1 hb => equal_any a' ad c' c _ l W h1 (HA.out.below hb) (by have := makes_len l; omega) (by omega)
  clear hA hT hx hl
  generalize ((Sm.makes l).1 == l) = r at *
  generalize (Sm.makes l).2 = k at *
  generalize (Sm.makes l).1 = m at *
  generalize hml : m.length = ml at *
  generalize l.length = n at *
  clear hml
  by_cases h0 : k = 0
  · subst h0
    go_enter Tryz.func10, Tryz.ntmps10
    go_wp2_with (first
      | (go_at_call 7; refine (show Calls _ _ _ _ _ from HM.out).mono ?_; rintro e w1 ⟨a1, c1, rfl, hA1, hB1⟩)
      | (go_at_call 26; refine (HE.out _ _ _ hA1 hB1).mono ?_; rintro e w2 ⟨rfl, hB2⟩))
    go_ret
    exact ⟨by rw [HR.eq]; rfl, hB1.trans (hB2.mono hB1.size)⟩
  · have h0' : ¬ ((k : Nat) : Int) = 0 := by omega
    have h0b : (((k : Nat) : Int) == 0) = false := by simp only [beq_eq_false_iff_ne, ne_eq]; exact h0'
    have HR2 : Is (Sm.may l) false := ⟨by rw [HR.eq, show (k == 0) = false by simp only [beq_eq_false_iff_ne, ne_eq]; exact h0, Bool.false_and]⟩
    go_enter Tryz.func10, Tryz.ntmps10
    go_wp2_with (first
      | (go_at_call 7; refine (show Calls _ _ _ _ _ from HM.out).mono ?_; rintro e w1 ⟨a1, c1, rfl, hA1, hB1⟩))
    go_ret
    exact ⟨by rw [HR2.eq]; rfl, hB1⟩
theorem pair_cells (w : World) (v1 v2 : Value) : (w.alloc (.cells #[v1, v2] 22)).cell? ⟨w.heap.size, 0, none⟩ = some v1 ∧ (w.alloc (.cells #[v1, v2] 22)).cell? ⟨w.heap.size, 1, none⟩ = some v2 := by
  constructor
  · rw [cell_of_row _ _ 0 _ 22 (0, 0) (heap_alloc_new w _)]; rfl
  · rw [cell_of_row _ _ 1 _ 22 (0, 0) (heap_alloc_new w _)]; rfl
/- a pair of lists, concatenated -/
theorem concat_pair (a1 a2 : Option Addr) (c1 c2 cc : Nat) (l1 l2 : List Pm.T) (w : World) (hA1 : TxtA w a1 l1) (hA2 : TxtA w a2 l2) (hl1 : l1.length ≤ 1000) (hl2 : l2.length ≤ 1000) :
    Calls Tryz.prog 28 #[.slice (some ⟨w.heap.size, 0, none⟩) 2 cc] (w.alloc (.cells #[.slice a1 l1.length c1, .slice a2 l2.length c2] 22)) fun e w' => ∃ v, e = .returned v ∧ w'.ownsRow w.heap.size 9 1 v (l1 ++ l2).length (scells (l1 ++ l2)) ∧ Below w.heap.size w w' := by
  have hp := pair_cells w (.slice a1 l1.length c1) (.slice a2 l2.length c2)
  have hb : Below w.heap.size w (w.alloc (.cells #[.slice a1 l1.length c1, .slice a2 l2.length c2] 22)) := (Below.refl _ w).alloc (Nat.le_refl _) _
  refine (concat_any w.heap.size cc a1 a2 c1 c2 l1 l2 _ hp.1 hp.2 (hA1.below hb) (hA2.below hb) hl1 hl2).mono fun e w' ⟨v, he, ho, hb2⟩ => ⟨v, he, owns_base ho hb.size, hb.trans (hb2.mono hb.size)⟩
set_option maxHeartbeats 4000000 in
set_option maxRecDepth 20000 in
theorem union_any (ad : Option Addr) (c : Nat) (a : List Pm.T) (bd : Option Addr) (d : Nat) (b : List Pm.T) (w : World) (hA : TxtA w ad a) (hB0 : TxtA w bd b) (hla : a.length ≤ 500) (hlb : b.length ≤ 500) (hxa : ∀ x ∈ a, x.length ≤ 1000000) (hxb : ∀ x ∈ b, x.length ≤ 1000000) (hT : Tab w) :
    Calls Tryz.prog 13 #[.slice ad a.length c, .slice bd b.length d] w fun e w' => ∃ ad' c', e = .returned (.tuple #[.slice ad' (Sm.union a b).1.length c', .int .i64 ((Sm.union a b).2 : Nat)]) ∧ TxtA w' ad' (Sm.union a b).1 ∧ Below w.heap.size w w' := by
  have HMa : Hid (∀ W : World, Below w.heap.size w W → Calls Tryz.prog 10 #[.slice ad a.length c] W fun e w' => e = .returned (.bool (Sm.may a)) ∧ Below W.heap.size W w') := fun W hb => may_any ad c a W (hA.below hb) (by omega) hxa (hT.below hb)
  have HMb : Hid (∀ W : World, Below w.heap.size w W → Calls Tryz.prog 10 #[.slice bd b.length d] W fun e w' => e = .returned (.bool (Sm.may b)) ∧ Below W.heap.size W w') := fun W hb => may_any bd d b W (hB0.below hb) (by omega) hxb (hT.below hb)
  have HCo : Hid (∀ (W : World), Below w.heap.size w W → Calls Tryz.prog 28 #[.slice (some ⟨W.heap.size, 0, none⟩) 2 2] (W.alloc (.cells #[.slice ad a.length c, .slice bd b.length d] 22)) fun e w' => ∃ v, e = .returned v ∧ w'.ownsRow W.heap.size 9 1 v (a ++ b).length (scells (a ++ b)) ∧ Below W.heap.size W w') :=
    fun W hb => concat_pair ad bd c d 2 a b W (hA.below hb) (hB0.below hb) (by omega) (by omega)
  have HMk : Hid (∀ (W : World) (a' : Option Addr) (c' : Nat), TxtA W a' (a ++ b) → Below w.heap.size w W → Calls Tryz.prog 7 #[.slice a' (a ++ b).length c'] W fun e w' => ∃ ad' c', e = .returned (.tuple #[.slice ad' (Sm.makes (a ++ b)).1.length c', .int .i64 ((Sm.makes (a ++ b)).2 : Nat)]) ∧ TxtA w' ad' (Sm.makes (a ++ b)).1 ∧ Below W.heap.size W w') :=
    fun W a' c' h hb => make_any a' c' (a ++ b) W h (by rw [List.length_append]; omega) (fun x hx => by rcases List.mem_append.1 hx with h | h; exact hxa x h; exact hxb x h) (hT.below hb)
  have HU : Is (Sm.union a b) (if Sm.may a = false ∨ Sm.may b = false then ([], 2) else Sm.makes (a ++ b)) := ⟨rfl⟩
  clear hA hB0 hT hxa hxb hla hlb
  generalize a ++ b = ab at *
  cases h1 : Sm.may a with
  | false =>
    rw [h1] at HMa HU
    rw [if_pos (.inl rfl)] at HU
    go_enter Tryz.func13, Tryz.ntmps13
    go_wp2_with fail
    refine (HMa.out _ (Below.refl _ _)).mono ?_
    rintro e w1 ⟨rfl, hB1⟩
    go_wp2_with fail
    go_ret2
    rw [HU.eq]
    exact ⟨_, _, rfl, TxtA.nil _ _, hB1⟩
  | true =>
    rw [h1] at HMa HU
    cases h2 : Sm.may b with
    | false =>
      rw [h2] at HMb HU
      rw [if_pos (.inr rfl)] at HU
      go_enter Tryz.func13, Tryz.ntmps13
      go_wp2_with fail
      refine (HMa.out _ (Below.refl _ _)).mono ?_
      rintro e w1 ⟨rfl, hB1⟩
      go_wp2_with fail
      refine (HMb.out _ hB1).mono ?_
      rintro e w2 ⟨rfl, hB2⟩
      go_wp2_with fail
      go_ret2
      rw [HU.eq]
      exact ⟨_, _, rfl, TxtA.nil _ _, hB1.trans (hB2.mono hB1.size)⟩
    | true =>
      rw [h2] at HMb HU
      rw [if_neg (by simp)] at HU
      go_enter Tryz.func13, Tryz.ntmps13
      go_wp2_with fail
      refine (HMa.out _ (Below.refl _ _)).mono ?_
      rintro e w1 ⟨rfl, hB1⟩
      go_wp2_with fail
      refine (HMb.out _ hB1).mono ?_
      rintro e w2 ⟨rfl, hB2⟩
      have HB2 : Hid (Below w.heap.size w w2) := hB1.trans (hB2.mono hB1.size)
      clear hB1 hB2
      go_wp2_with fail
      refine (HCo.out _ HB2.out).mono ?_
      rintro e w3 ⟨v, rfl, ho3, hB3⟩
      have HB3 : Hid (Below w.heap.size w w3) := HB2.out.trans (hB3.mono HB2.out.size)
      obtain ⟨a3, c3, hv3, _, _, hA3⟩ := own_txt ho3
      subst hv3
      clear hB3 ho3
      go_wp2_with fail
      refine (HMk.out _ _ _ hA3 HB3.out).mono ?_
      rintro e w4 ⟨a4, c4, rfl, hA4, hB4⟩
      go_wp2_with fail
      go_ret2
      rw [HU.eq]
      exact ⟨_, _, rfl, hA4, HB3.out.trans (hB4.mono HB3.out.size)⟩
end Go.Proofs.YtbcmgcallidneaaGreatDoor
