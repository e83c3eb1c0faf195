/- Proved: Make and May of any list. -/
import Derived.Test.YtbcmgcallidneaaGreatDoorMake
namespace Go.Proofs.YtbcmgcallidneaaGreatDoor
open Go.RowKit
theorem fault_at {l : List Pm.T} {k : Nat} (hk : k < l.length) (h : ∀ j, j < k → Sm.dirErr (l.getD j []) = 0) (hn : Sm.dirErr (l.getD k []) ≠ 0) : Sm.fault l = Sm.dirErr (l.getD k []) := by
  induction l generalizing k with
  | nil => simp at hk
  | cons x l ih =>
    cases k with
    | zero => unfold Sm.fault; rw [if_pos (show Sm.dirErr x ≠ 0 from hn)]; rfl
    | succ k =>
      have h0 : Sm.dirErr x = 0 := h 0 (by omega)
      unfold Sm.fault
      rw [if_neg (by omega)]
      exact ih (k := k) (by simpa using hk) (fun j hj => h (j + 1) (by omega)) hn
theorem fault_none {l : List Pm.T} (h : ∀ j, j < l.length → Sm.dirErr (l.getD j []) = 0) : Sm.fault l = 0 := Sm.fault_zero.2 fun x hx => by
  obtain ⟨j, hj, rfl⟩ := List.mem_iff_getElem.1 hx
  have := h j hj
  rw [List.getD_eq_getElem?_getD, List.getElem?_eq_getElem hj] at this
  exact this
theorem makes_len (l : List Pm.T) : (Sm.makes l).1.length ≤ 16 := by
  unfold Sm.makes
  split
  · simp
  · split
    · simp
    · show (Sm.outer l).length ≤ 16; omega
theorem makes_mem {l : List Pm.T} {x : Pm.T} (h : x ∈ (Sm.makes l).1) : x ∈ l := by
  unfold Sm.makes at h
  split at h
  · cases h
  · split at h
    · cases h
    · exact (Sm.mem_outer.1 h).1
set_option maxHeartbeats 4000000 in
set_option maxRecDepth 20000 in
theorem make_any (ad : Option Addr) (c : Nat) (l : List Pm.T) (w : World) (hA : TxtA w ad l) (hl : l.length ≤ 1000) (hx : ∀ x ∈ l, x.length ≤ 1000000) (hT : Tab w) :
    Calls Tryz.prog 7 #[.slice ad l.length c] w fun e w' => ∃ ad' c', e = .returned (.tuple #[.slice ad' (Sm.makes l).1.length c', .int .i64 ((Sm.makes l).2 : Nat)]) ∧ TxtA w' ad' (Sm.makes l).1 ∧ Below w.heap.size w w' := by
  have HK : Hid (∀ (k : Nat) (W : World), k < l.length → Tab W → Calls Tryz.prog 21 #[.string (mk (l.getD k []))] W fun e w' => e = .returned (.tuple #[.int .i64 ((Pm.kind (l.getD k [])).1 : Nat), .int .i64 ((Pm.kind (l.getD k [])).2 : Nat)]) ∧ Below W.heap.size W w') :=
    fun k W hk hW => kind_any (mk (l.getD k [])) W (by rw [mk_size]; have := hx _ (getD_mem hk); omega) hW
  have HA : Hid (TxtA w ad l) := hA
  have HT : Hid (Tab w) := hT
  have HX : Hid (∀ x ∈ l, x.length ≤ 1000000) := hx
  obtain ⟨n, hn⟩ : ∃ n, l.length = n := ⟨_, rfl⟩
  have HN : Is l.length n := ⟨hn⟩
  rw [hn] at hl HK
  rw [hn]
  clear hA hT hn hx
  go_enter Tryz.func7, Tryz.ntmps7
  go_wp2_with fail
  go_loopw [5, 6, 7, 11] (fun _ _ _ i wr => ∃ k : Nat, k ≤ n ∧ i = .int .i64 k ∧ (∀ j, j < k → Sm.dirErr (l.getD j []) = 0) ∧ Below w.heap.size w wr) (fun _ _ _ i _ => n - (intOf i).toNat)
  case atStart => exact ⟨0, by omega, rfl, fun j hj => absurd hj (by omega), Below.refl _ _⟩
  case round =>
    obtain ⟨k, hk, rfl, hno, hB⟩ := hrel
    have HNo : Hid (∀ j, j < k → Sm.dirErr (l.getD j []) = 0) := hno
    have HB : Hid (Below w.heap.size w wr) := hB
    have hsz := hB.size
    have HTw : Hid (Tab wr) := HT.out.below hB
    have HAw : Hid (TxtA wr ad l) := HA.out.below hB
    by_cases hlt : k < n
    · have i0 : (k : Int) < (n : Int) := by omega
      have j0 : (0 : Int) ≤ (k : Int) := Int.natCast_nonneg _
      obtain ⟨g, he, hg, ht⟩ := HA.out (by rw [HN.eq]; omega)
      subst he
      have c0 := (hB.cell (p := ⟨g, k, none⟩) hg).trans (ht.get k (by rw [HN.eq]; exact hlt))
      have HC := (show Hid _ from HK.out k wr hlt HTw.out)
      have HD : Is (Sm.dirErr (l.getD k [])) (if (Pm.kind (l.getD k [])).2 ≠ 0 then (Pm.kind (l.getD k [])).2 else if (Pm.kind (l.getD k [])).1 = 2 then 13 else 0) := ⟨rfl⟩
      have HFA : Hid (Sm.dirErr (l.getD k []) ≠ 0 → Sm.makes l = ([], Sm.dirErr (l.getD k []))) := fun hne => by
        have e := fault_at (by rw [HN.eq]; exact hlt) HNo.out hne
        unfold Sm.makes
        rw [e, if_pos hne]
      have HNx : Hid (Sm.dirErr (l.getD k []) = 0 → ∀ j, j < k + 1 → Sm.dirErr (l.getD j []) = 0) := fun hh j hj => by
        by_cases e : j = k
        · rw [e]; exact hh
        · exact HNo.out j (by omega)
      clear hno hB ht
      generalize mk (l.getD k []) = sx at *
      generalize (Pm.kind (l.getD k [])).1 = k1 at *
      generalize (Pm.kind (l.getD k [])).2 = k2 at *
      by_cases h2 : k2 = 0
      · subst h2
        rw [if_neg (by simp)] at HD
        by_cases h1 : k1 = 2
        · subst h1
          rw [if_pos rfl] at HD
          rw [HD.eq] at HFA
          have HMk : Is (Sm.makes l) ([], 13) := ⟨HFA.out (by decide)⟩
          go_wp2_with (first | (go_at_call 21; refine (show Calls _ _ _ _ _ from HC.out).mono ?_; rintro e w1 ⟨rfl, hB1⟩))
          go_ret2
          rw [HMk.eq]
          exact ⟨_, _, rfl, TxtA.nil _ _, HB.out.trans (hB1.mono hsz)⟩
        · rw [if_neg h1] at HD
          have HNo2 : Hid (∀ j, j < k + 1 → Sm.dirErr (l.getD j []) = 0) := HNx.out HD.eq
          have h1' : ¬ ((k1 : Nat) : Int) = 2 := by omega
          have h1b : (((k1 : Nat) : Int) == 2) = false := by simp only [beq_eq_false_iff_ne, ne_eq]; exact h1'
          clear h1 HFA HNx HD
          go_wp2_with (first | (go_at_call 21; refine (show Calls _ _ _ _ _ from HC.out).mono ?_; rintro e w1 ⟨rfl, hB1⟩))
          go_roundw
          case rel => exact ⟨k + 1, by omega, by go_num, HNo2.out, HB.out.trans (hB1.mono hsz)⟩
          case measure => (simp [intOf]) <;> omega
      · rw [if_pos h2] at HD
        rw [HD.eq] at HFA
        have HMk : Is (Sm.makes l) ([], k2) := ⟨HFA.out h2⟩
        have h2' : ¬ ((k2 : Nat) : Int) = 0 := by omega
        have h2b : (((k2 : Nat) : Int) == 0) = false := by simp only [beq_eq_false_iff_ne, ne_eq]; exact h2'
        clear h2 HFA HNx HD
        go_wp2_with (first | (go_at_call 21; refine (show Calls _ _ _ _ _ from HC.out).mono ?_; rintro e w1 ⟨rfl, hB1⟩))
        go_ret2
        rw [HMk.eq]
        exact ⟨_, _, rfl, TxtA.nil _ _, HB.out.trans (hB1.mono hsz)⟩
    · obtain rfl : k = n := by omega
      have i0 : ¬ (k : Int) < (k : Int) := by omega
      have HF : Is (Sm.fault l) 0 := ⟨fault_none (by rw [HN.eq]; exact HNo.out)⟩
      have HMk : Is (Sm.makes l) (if 16 < (Sm.outer l).length then ([], 7) else (Sm.outer l, 0)) := ⟨by unfold Sm.makes; rw [HF.eq, if_neg (by simp)]⟩
      have HCl : Hid (Calls Tryz.prog 23 #[.slice ad k c] wr fun e w' => ∃ v, e = .returned v ∧ w'.ownsRow wr.heap.size 9 1 v l.length (scells l) ∧ Below wr.heap.size wr w') := by
        have := clone_any ad c l wr HAw.out (by rw [HN.eq]; omega)
        rw [HN.eq] at this; rw [HN.eq]; exact this
      have HOu : Hid (∀ (W : World) (v : Value), W.ownsRow wr.heap.size 9 1 v l.length (scells l) → Below wr.heap.size wr W → Calls Tryz.prog 22 #[v] W fun e w' => ∃ ad c, e = .returned (.slice ad (Sm.outer l).length c) ∧ TxtA w' ad (Sm.outer l) ∧ Below wr.heap.size W w') :=
        fun W v ho hb => outer_any W wr.heap.size v l ho hb.size (by rw [HN.eq]; exact hl) HX.out (Sm.fault_isP HF.eq) (HTw.out.below hb) HTw.out.posM HTw.out.posS
      clear hno hB
      generalize hom : (Sm.outer l).length = m at *
      have HOm : Is (Sm.outer l).length m := ⟨hom⟩
      clear hom
      by_cases h16 : 16 < m
      · rw [if_pos h16] at HMk
        have h16' : (16 : Int) < (m : Int) := by omega
        go_wp2_with (first
          | (go_at_call 23; refine (show Calls _ _ _ _ _ from HCl.out).mono ?_; rintro e w1 ⟨v, rfl, ho1, hB1⟩)
          | (go_at_call 22; refine (HOu.out _ v ho1 hB1).mono ?_; rintro e w2 ⟨ad2, c2, rfl, hA2, hB2⟩))
        go_ret2
        rw [HMk.eq]
        exact ⟨_, _, rfl, TxtA.nil _ _, HB.out.trans ((hB1.trans hB2).mono hsz)⟩
      · rw [if_neg h16] at HMk
        have h16' : ¬ (16 : Int) < (m : Int) := by omega
        go_wp2_with (first
          | (go_at_call 23; refine (show Calls _ _ _ _ _ from HCl.out).mono ?_; rintro e w1 ⟨v, rfl, ho1, hB1⟩)
          | (go_at_call 22; refine (HOu.out _ v ho1 hB1).mono ?_; rintro e w2 ⟨ad2, c2, rfl, hA2, hB2⟩))
        go_ret2
        rw [HMk.eq]
        exact ⟨ad2, c2, by rw [HOm.eq]; rfl, hA2, HB.out.trans ((hB1.trans hB2).mono hsz)⟩
end Go.Proofs.YtbcmgcallidneaaGreatDoor
