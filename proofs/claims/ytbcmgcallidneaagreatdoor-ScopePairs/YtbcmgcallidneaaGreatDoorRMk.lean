/- Proved: the document's Make, May and Union. -/
import Derived.Test.YtbcmgcallidneaaGreatDoorRRed
import Derived.Test.YtbcmgcallidneaaGreatDoorSameL
import Derived.Test.YtbcmgcallidneaaGreatDoorMakeF
import Derived.Test.YtbcmgcallidneaaGreatDoorCat
namespace Go.Proofs.YtbcmgcallidneaaGreatDoor
open Go.RowKit
set_option maxHeartbeats 4000000 in
set_option maxRecDepth 20000 in
theorem rmake_any (ad : Option Addr) (c : Nat) (l : List Pm.T) (w : World) (hA : TxtA w ad l) (hl : l.length ≤ 1000) (hx : ∀ x ∈ l, x.length ≤ 4000) :
    Calls Tryz.prog 8 #[.slice ad l.length c] w fun e w' => ∃ ad' c', e = .returned (.tuple #[.slice ad' (Sm.makes l).1.length c', .int .i64 ((Sm.makes l).2 : Nat)]) ∧ TxtA w' ad' (Sm.makes l).1 ∧ Below w.heap.size w w' := by
  have HK : Hid (∀ (k : Nat) (W : World), k < l.length → Calls Tryz.prog 24 #[.string (mk (l.getD k []))] W fun e w' => e = .returned (.int .i64 (Sm.dirErr (l.getD k []) : Nat)) ∧ Below W.heap.size W w') :=
    fun k W hk => rdir_any (mk (l.getD k [])) W (by rw [mk_size]; exact hx _ (getD_mem hk))
  have HA : Hid (TxtA w ad l) := hA
  have HX : Hid (∀ x ∈ l, x.length ≤ 4000) := hx
  obtain ⟨n, hn⟩ : ∃ n, l.length = n := ⟨_, rfl⟩
  have HN : Is l.length n := ⟨hn⟩
  rw [hn] at hl HK
  rw [hn]
  clear hA hn hx
  go_enter Tryz.func8, Tryz.ntmps8
  go_wp2_with fail
  go_loopw [4, 5] (fun i _ wr => ∃ k : Nat, k ≤ n ∧ i = .int .i64 k ∧ (∀ j, j < k → Sm.dirErr (l.getD j []) = 0) ∧ Below w.heap.size w wr) (fun i _ _ => n - (intOf i).toNat)
  case atStart => exact ⟨0, by omega, rfl, fun j hj => absurd hj (by omega), Below.refl _ _⟩
  case round =>
    obtain ⟨k, hk, rfl, hno, hB⟩ := hrel
    have HNo : Hid (∀ j, j < k → Sm.dirErr (l.getD j []) = 0) := hno
    have HB : Hid (Below w.heap.size w wr) := hB
    have hsz := hB.size
    have HAw : Hid (TxtA wr ad l) := HA.out.below hB
    by_cases hlt : k < n
    · have i0 : (k : Int) < (n : Int) := by omega
      have j0 : (0 : Int) ≤ (k : Int) := Int.natCast_nonneg _
      obtain ⟨g, he, hg, ht⟩ := HA.out (by rw [HN.eq]; omega)
      subst he
      have c0 := (hB.cell (p := ⟨g, k, none⟩) hg).trans (ht.get k (by rw [HN.eq]; exact hlt))
      have HC := (show Hid _ from HK.out k wr hlt)
      have HFA : Hid (Sm.dirErr (l.getD k []) ≠ 0 → Sm.makes l = ([], Sm.dirErr (l.getD k []))) := fun hne => by
        have e := fault_at (by rw [HN.eq]; exact hlt) HNo.out hne
        unfold Sm.makes
        rw [e, if_pos hne]
      have HNx : Hid (Sm.dirErr (l.getD k []) = 0 → ∀ j, j < k + 1 → Sm.dirErr (l.getD j []) = 0) := fun hh j hj => by
        by_cases e : j = k
        · rw [e]; exact hh
        · exact HNo.out j (by omega)
      clear hno hB ht
      generalize mk (l.getD k []) = sx at *
      generalize Sm.dirErr (l.getD k []) = d at *
      by_cases h2 : d = 0
      · subst h2
        have HNo2 := (show Hid _ from HNx.out rfl)
        clear HFA HNx
        go_wp2_with (first | (go_at_call 24; refine (show Calls _ _ _ _ _ from HC.out).mono ?_; rintro e w1 ⟨rfl, hB1⟩))
        go_roundw
        case rel => exact ⟨k + 1, by omega, by go_num, HNo2.out, HB.out.trans (hB1.mono hsz)⟩
        case measure => (simp [intOf]) <;> omega
      · have HMk : Is (Sm.makes l) ([], d) := ⟨HFA.out h2⟩
        have h2' : ¬ ((d : Nat) : Int) = 0 := by omega
        have h2b : (((d : Nat) : Int) == 0) = false := by simp only [beq_eq_false_iff_ne, ne_eq]; exact h2'
        clear h2 HFA HNx
        go_wp2_with (first | (go_at_call 24; refine (show Calls _ _ _ _ _ from HC.out).mono ?_; rintro e w1 ⟨rfl, hB1⟩))
        go_ret2
        rw [HMk.eq]
        exact ⟨_, _, rfl, TxtA.nil _ _, HB.out.trans (hB1.mono hsz)⟩
    · obtain rfl : k = n := by omega
      have i0 : ¬ (k : Int) < (k : Int) := by omega
      have HF : Is (Sm.fault l) 0 := ⟨fault_none (by rw [HN.eq]; exact HNo.out)⟩
      have HMk : Is (Sm.makes l) (if 16 < (Sm.outer l).length then ([], 7) else (Sm.outer l, 0)) := ⟨by unfold Sm.makes; rw [HF.eq, if_neg (by simp)]⟩
      have HRe : Hid (Calls Tryz.prog 25 #[.slice ad k c] wr fun e w' => ∃ v, e = .returned v ∧ w'.ownsRow wr.heap.size 9 1 v (Sm.outer l).length (scells (Sm.outer l)) ∧ Below wr.heap.size wr w') := by
        have := reduce_any ad c l wr HAw.out (by rw [HN.eq]; exact hl) HX.out (Sm.fault_isP HF.eq)
        rw [HN.eq] at this; exact this
      clear hno hB
      generalize Sm.outer l = O at *
      by_cases h16 : 16 < O.length
      · rw [if_pos h16] at HMk
        have h16' : (16 : Int) < (O.length : Int) := by omega
        go_wp2_with (first
          | (go_at_call 25; refine (show Calls _ _ _ _ _ from HRe.out).mono ?_; rintro e w1 ⟨v, rfl, ho1, hB1⟩; obtain ⟨ad1, c1, hv1, _, _, hA1⟩ := own_txt ho1; subst hv1; clear ho1))
        go_ret2
        rw [HMk.eq]
        exact ⟨_, _, rfl, TxtA.nil _ _, HB.out.trans (hB1.mono hsz)⟩
      · rw [if_neg h16] at HMk
        have h16' : ¬ (16 : Int) < (O.length : Int) := by omega
        go_wp2_with (first
          | (go_at_call 25; refine (show Calls _ _ _ _ _ from HRe.out).mono ?_; rintro e w1 ⟨v, rfl, ho1, hB1⟩; obtain ⟨ad1, c1, hv1, _, _, hA1⟩ := own_txt ho1; subst hv1; clear ho1))
        go_ret2
        rw [HMk.eq]
        exact ⟨_, _, rfl, hA1, HB.out.trans (hB1.mono hsz)⟩
set_option maxHeartbeats 2000000 in
set_option maxRecDepth 20000 in
theorem rmay_any (ad : Option Addr) (c : Nat) (l : List Pm.T) (w : World) (hA : TxtA w ad l) (hl : l.length ≤ 1000) (hx : ∀ x ∈ l, x.length ≤ 4000) :
    Calls Tryz.prog 11 #[.slice ad l.length c] w fun e w' => e = .returned (.bool (Sm.may l)) ∧ Below w.heap.size w w' := by
  have HM := (show Hid _ from rmake_any ad c l w hA hl hx)
  have HA : Hid (TxtA w ad l) := hA
  have HR : Is (Sm.may l) ((Sm.makes l).2 == 0 && (Sm.makes l).1 == l) := ⟨rfl⟩
  have HE : Hid (∀ (W : World) (a' : Option Addr) (c' : Nat), TxtA W a' (Sm.makes l).1 → Below w.heap.size w W → Calls Tryz.prog 9 #[.slice a' (Sm.makes l).1.length c', .slice ad l.length c] W fun e w' => e = .returned (.bool ((Sm.makes l).1 == l)) ∧ Below W.heap.size W w') :=
    fun W a' c' h1 hb => rsame_any a' ad c' c _ l W (by have := makes_len l; omega) (by omega) h1 (HA.out.below hb)
  clear hA hx hl
  generalize ((Sm.makes l).1 == l) = r at *
  generalize (Sm.makes l).2 = k at *
  generalize (Sm.makes l).1 = m at *
  generalize hml : m.length = ml at *
  generalize l.length = n at *
  clear hml
  by_cases h0 : k = 0
  · subst h0
    go_enter Tryz.func11, Tryz.ntmps11
    go_wp2_with (first
      | (go_at_call 8; refine (show Calls _ _ _ _ _ from HM.out).mono ?_; rintro e w1 ⟨a1, c1, rfl, hA1, hB1⟩)
      | (go_at_call 9; refine (HE.out _ _ _ hA1 hB1).mono ?_; rintro e w2 ⟨rfl, hB2⟩))
    go_ret
    exact ⟨by rw [HR.eq]; rfl, hB1.trans (hB2.mono hB1.size)⟩
  · have h0' : ¬ ((k : Nat) : Int) = 0 := by omega
    have h0b : (((k : Nat) : Int) == 0) = false := by simp only [beq_eq_false_iff_ne, ne_eq]; exact h0'
    have HR2 : Is (Sm.may l) false := ⟨by rw [HR.eq, show (k == 0) = false by simp only [beq_eq_false_iff_ne, ne_eq]; exact h0, Bool.false_and]⟩
    go_enter Tryz.func11, Tryz.ntmps11
    go_wp2_with (first
      | (go_at_call 8; refine (show Calls _ _ _ _ _ from HM.out).mono ?_; rintro e w1 ⟨a1, c1, rfl, hA1, hB1⟩))
    go_ret
    exact ⟨by rw [HR2.eq]; rfl, hB1⟩
theorem own_empty (w : World) : (w.alloc (.cells #[] 9)).ownsRow w.heap.size 9 1 (.slice (some ⟨w.heap.size, 0, none⟩) 0 0) ([] : List Pm.T).length (scells []) :=
  ⟨rfl, .inr ⟨w.heap.size, 0, #[], rfl, Nat.le_refl _, heap_alloc_new w _, Nat.le_refl _, Nat.zero_le _, rfl, rfl⟩⟩
set_option maxHeartbeats 4000000 in
set_option maxRecDepth 20000 in
theorem runion_any (ad : Option Addr) (c : Nat) (a : List Pm.T) (bd : Option Addr) (d : Nat) (b : List Pm.T) (w : World) (hA : TxtA w ad a) (hB0 : TxtA w bd b) (hla : a.length ≤ 500) (hlb : b.length ≤ 500) (hxa : ∀ x ∈ a, x.length ≤ 4000) (hxb : ∀ x ∈ b, x.length ≤ 4000) :
    Calls Tryz.prog 14 #[.slice ad a.length c, .slice bd b.length d] w fun e w' => ∃ ad' c', e = .returned (.tuple #[.slice ad' (Sm.union a b).1.length c', .int .i64 ((Sm.union a b).2 : Nat)]) ∧ TxtA w' ad' (Sm.union a b).1 ∧ Below w.heap.size w w' := by
  have HMa : Hid (∀ W : World, Below w.heap.size w W → Calls Tryz.prog 11 #[.slice ad a.length c] W fun e w' => e = .returned (.bool (Sm.may a)) ∧ Below W.heap.size W w') := fun W hb => rmay_any ad c a W (hA.below hb) (by omega) hxa
  have HMb : Hid (∀ W : World, Below w.heap.size w W → Calls Tryz.prog 11 #[.slice bd b.length d] W fun e w' => e = .returned (.bool (Sm.may b)) ∧ Below W.heap.size W w') := fun W hb => rmay_any bd d b W (hB0.below hb) (by omega) hxb
  have HMk : Hid (∀ (W : World) (a' : Option Addr) (c' : Nat), TxtA W a' (a ++ b) → Calls Tryz.prog 8 #[.slice a' (a ++ b).length c'] W fun e w' => ∃ ad' c', e = .returned (.tuple #[.slice ad' (Sm.makes (a ++ b)).1.length c', .int .i64 ((Sm.makes (a ++ b)).2 : Nat)]) ∧ TxtA w' ad' (Sm.makes (a ++ b)).1 ∧ Below W.heap.size W w') :=
    fun W a' c' h => rmake_any a' c' (a ++ b) W h (by rw [List.length_append]; omega) (fun x hx => by rcases List.mem_append.1 hx with h | h; exact hxa x h; exact hxb x h)
  have HU : Is (Sm.union a b) (if Sm.may a = false ∨ Sm.may b = false then ([], 2) else Sm.makes (a ++ b)) := ⟨rfl⟩
  have HA : Hid (TxtA w ad a) := hA
  have HBb : Hid (TxtA w bd b) := hB0
  clear hA hB0 hxa hxb
  cases h1 : Sm.may a with
  | false =>
    rw [h1] at HMa HU
    rw [if_pos (.inl rfl)] at HU
    go_enter Tryz.func14, Tryz.ntmps14
    go_wp2_with fail
    refine (HMa.out _ (Below.refl _ _)).mono ?_
    rintro e w1 ⟨rfl, hB1⟩
    go_wp2_with fail
    go_ret2
    rw [HU.eq]
    exact ⟨_, _, rfl, TxtA.nil _ _, hB1⟩
  | true =>
    rw [h1] at HMa HU
    cases h2 : Sm.may b with
    | false =>
      rw [h2] at HMb HU
      rw [if_pos (.inr rfl)] at HU
      go_enter Tryz.func14, Tryz.ntmps14
      go_wp2_with fail
      refine (HMa.out _ (Below.refl _ _)).mono ?_
      rintro e w1 ⟨rfl, hB1⟩
      go_wp2_with fail
      refine (HMb.out _ hB1).mono ?_
      rintro e w2 ⟨rfl, hB2⟩
      go_wp2_with fail
      go_ret2
      rw [HU.eq]
      exact ⟨_, _, rfl, TxtA.nil _ _, hB1.trans (hB2.mono hB1.size)⟩
    | true =>
      rw [h2] at HMb HU
      rw [if_neg (by simp)] at HU
      go_enter Tryz.func14, Tryz.ntmps14
      go_wp2_with fail
      refine (HMa.out _ (Below.refl _ _)).mono ?_
      rintro e w1 ⟨rfl, hB1⟩
      go_wp2_with fail
      refine (HMb.out _ hB1).mono ?_
      rintro e w2 ⟨rfl, hB2⟩
      have HB2 : Hid (Below w.heap.size w w2) := hB1.trans (hB2.mono hB1.size)
      have HBe : Hid (Below w2.heap.size w2 (w2.alloc (.cells #[] 9))) := (Below.refl _ w2).alloc (Nat.le_refl _) _
      have HA2 : Hid (TxtA (w2.alloc (.cells #[] 9)) ad a) := (HA.out.below HB2.out).below HBe.out
      have HB2b : Hid (TxtA w2 bd b) := HBb.out.below HB2.out
      have HOe := (show Hid _ from own_empty w2)
      clear hB1 hB2 HMa HMb HA HBb
      obtain ⟨ab, hab⟩ : ∃ ab, a ++ b = ab := ⟨_, rfl⟩
      have HAB : Is (a ++ b) ab := ⟨hab⟩
      rw [hab] at HMk HU
      clear hab
      go_wp2_with (first
        | (refine append_texts rfl (.tmp 14) (.tmp 15) rfl _ w2.heap.size _ [] rfl HOe.out ad c a rfl HA2.out (by simp; omega) (by simp) ?_; intro v3 w3 hO3 hB3; rw [List.nil_append] at hO3; have HO3 := (show Hid _ from hO3); have HB3 : Hid (Below w2.heap.size w2 w3) := HBe.out.trans hB3; have HT3 : Hid (TxtA w3 bd b) := HB2b.out.below HB3.out; have hz3 := HB3.out.size; clear hO3 hB3; obtain ⟨a3, c3, hv3, _⟩ := own_txt HO3.out; subst hv3)
        | (refine append_texts rfl (.tmp 16) (.tmp 17) rfl _ w2.heap.size _ a rfl HO3.out bd d b rfl HT3.out (by omega) hz3 ?_; intro v4 w4 hO4 hB4; rw [HAB.eq] at hO4; have HB4 : Hid (Below w2.heap.size w2 w4) := HB3.out.trans hB4; obtain ⟨a4, c4, hv4, _, _, hA4⟩ := own_txt hO4; subst hv4; have HA4 : Hid (TxtA w4 a4 ab) := hA4; clear hO4 hB4 hA4)
        | (go_at_call 8; refine (HMk.out w4 a4 c4 HA4.out).mono ?_; rintro e w5 ⟨a5, c5, rfl, hA5, hB5⟩))
      go_ret2
      rw [HU.eq]
      exact ⟨_, _, rfl, hA5, HB2.out.trans ((HB4.out.trans (hB5.mono HB4.out.size)).mono HB2.out.size)⟩
end Go.Proofs.YtbcmgcallidneaaGreatDoor
