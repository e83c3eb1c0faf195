/- Proved: holds, Has and Covers of the program answer what lies in a list. -/
import Derived.Test.YtbcmgcallidneaaGreatDoorBelowF
import Derived.Test.YtbcmgcallidneaaGreatDoorLst
namespace Go.Proofs.YtbcmgcallidneaaGreatDoor
open Go.RowKit
theorem str_eq (x y : ByteArray) : (x.toList == y.toList) = decide (bl x = bl y) := by
  rw [ByteArray.toList_eq, ByteArray.toList_eq]
  rw [Bool.eq_iff_iff, beq_iff_eq, decide_eq_true_iff]
set_option maxHeartbeats 1000000 in
theorem holds_any (d p : ByteArray) (w : World) (hp : p.size < 4294967281) (hT : Tab w) :
    Calls Tryz.prog 40 #[.string d, .string p] w fun e w' => e = .returned (.bool (Sm.lies (bl d) (bl p))) ∧ Below w.heap.size w w' := by
  have HB : Hid (∀ W : World, Tab W → Calls Tryz.prog 58 #[.string d, .string p] W fun e w' => e = .returned (.bool (Pm.below (bl d) (bl p))) ∧ Below W.heap.size W w') := fun W hW => below_any d p W hp hW
  have HT : Hid (Tab w) := hT
  clear hT
  by_cases h : bl p = bl d
  · have e1 : (p.toList == d.toList) = true := by rw [str_eq, decide_eq_true_iff]; exact h
    have HR : Is (Sm.lies (bl d) (bl p)) true := ⟨Sm.lies_iff.2 (.inl h)⟩
    clear h
    go_enter Tryz.func40, Tryz.ntmps40
    go_wp2_with fail
    go_ret
    exact ⟨by rw [HR.eq]; rfl, Below.refl _ _⟩
  · have e1 : (p.toList == d.toList) = false := by rw [str_eq, decide_eq_false_iff_not]; exact h
    have HR : Is (Sm.lies (bl d) (bl p)) (Pm.below (bl d) (bl p)) := ⟨by unfold Sm.lies; rw [show (bl p == bl d) = false by simp only [beq_eq_false_iff_ne, ne_eq]; exact h, Bool.false_or]⟩
    clear h
    generalize Pm.below (bl d) (bl p) = r at *
    go_enter Tryz.func40, Tryz.ntmps40
    go_wp2_with (first | (go_at_call 58; refine (HB.out _ HT.out).mono ?_; rintro e w1 ⟨rfl, hB1⟩))
    all_goals
      go_ret
      exact ⟨by rw [HR.eq]; rfl, hB1⟩
set_option maxHeartbeats 1000000 in
theorem hasIn_any (d p : ByteArray) (B : Nat) (w : World) (hb : w.cell? ⟨B, 0, none⟩ = some (.string p)) (hp : p.size < 4294967281) (hT : Tab w) :
    Calls Tryz.prog 44 #[.string d, .pointer (some ⟨B, 0, none⟩)] w fun e w' => e = .returned (.bool (Sm.lies (bl d) (bl p))) ∧ Below w.heap.size w w' := by
  have HB : Hid (∀ W : World, Tab W → Calls Tryz.prog 40 #[.string d, .string p] W fun e w' => e = .returned (.bool (Sm.lies (bl d) (bl p))) ∧ Below W.heap.size W w') := fun W hW => holds_any d p W hp hW
  have HT : Hid (Tab w) := hT
  clear hT
  generalize Sm.lies (bl d) (bl p) = r at *
  go_enter Tryz.func44, Tryz.ntmps44
  go_wp2_with (first | (go_at_call 40; refine (HB.out _ HT.out).mono ?_; rintro e w1 ⟨rfl, hB1⟩))
  go_ret
  exact ⟨rfl, hB1⟩
theorem enters21 : ∀ args w, (callFunc 44 args).run Tryz.prog w = .ok (.enter 44 args) w := enters_of Tryz.func44 (by kernel_rfl) rfl
theorem any_hit {l : List Pm.T} {p : Pm.T} {k : Nat} (hk : k < l.length) (h : Sm.lies (l.getD k []) p = true) : l.any (Sm.lies · p) = true := List.any_eq_true.2 ⟨_, getD_mem hk, h⟩
theorem any_miss {l : List Pm.T} {p : Pm.T} (h : ∀ j, j < l.length → Sm.lies (l.getD j []) p = false) : l.any (Sm.lies · p) = false := by
  rw [List.any_eq_false]
  intro x hx
  obtain ⟨j, hj, rfl⟩ := List.mem_iff_getElem.1 hx
  have := h j hj
  rw [List.getD_eq_getElem?_getD, List.getElem?_eq_getElem hj] at this
  simpa using this
set_option maxHeartbeats 2000000 in
set_option maxRecDepth 20000 in
theorem index_any (ad : Option Addr) (c : Nat) (l : List Pm.T) (p : ByteArray) (B : Nat) (w : World) (hA : TxtA w ad l) (hb : w.cell? ⟨B, 0, none⟩ = some (.string p)) (hl : l.length ≤ 1000000) (hp : p.size < 4294967281) (hT : Tab w) :
    Calls Tryz.prog 61 #[.slice ad l.length c, .func (.func 44) #[] #[.pointer (some ⟨B, 0, none⟩)]] w fun e w' => ∃ r : Int, e = .returned (.int .i64 r) ∧ decide (0 ≤ r) = l.any (Sm.lies · (bl p)) ∧ Below w.heap.size w w' := by
  have eg := enters21
  have HH : Hid (∀ (d : ByteArray) (W : World), Below w.heap.size w W → Calls Tryz.prog 44 #[.string d, .pointer (some ⟨B, 0, none⟩)] W fun e w' => e = .returned (.bool (Sm.lies (bl d) (bl p))) ∧ Below W.heap.size W w') :=
    fun d W hB => hasIn_any d p B W ((hB.cell (p := ⟨B, 0, none⟩) (block_lt_of_cell hb)).trans hb) hp (hT.below hB)
  have HA : Hid (TxtA w ad l) := hA
  obtain ⟨n, hn⟩ : ∃ n, l.length = n := ⟨_, rfl⟩
  have HN : Is l.length n := ⟨hn⟩
  rw [hn] at hl
  rw [hn]
  clear hA hb hT hn
  go_enter Tryz.func61, Tryz.ntmps61
  go_wp2_with fail
  go_loopw [5, 8] (fun _ i wr => ∃ k : Nat, k ≤ n ∧ i = .int .i64 k ∧ (∀ j, j < k → Sm.lies (l.getD j []) (bl p) = false) ∧ Below w.heap.size w wr) (fun _ i _ => n - (intOf i).toNat)
  case atStart => exact ⟨0, by omega, rfl, fun j hj => absurd hj (by omega), Below.refl _ _⟩
  case round =>
    obtain ⟨k, hk, rfl, hno, hB⟩ := hrel
    have HNo : Hid (∀ j, j < k → Sm.lies (l.getD j []) (bl p) = false) := hno
    have HB : Hid (Below w.heap.size w wr) := hB
    have hsz := hB.size
    by_cases hlt : k < n
    · have i0 : (k : Int) < (n : Int) := by omega
      have j0 : (0 : Int) ≤ (k : Int) := Int.natCast_nonneg _
      obtain ⟨g, he, hg, ht⟩ := HA.out (by rw [HN.eq]; omega)
      subst he
      have c0 := (hB.cell (p := ⟨g, k, none⟩) hg).trans (ht.get k (by rw [HN.eq]; exact hlt))
      have HC : Hid (Calls Tryz.prog 44 #[.string (mk (l.getD k [])), .pointer (some ⟨B, 0, none⟩)] wr fun e w' => e = .returned (.bool (Sm.lies (l.getD k []) (bl p))) ∧ Below wr.heap.size wr w') := HH.out (mk (l.getD k [])) wr hB
      have HLi : Hid (∀ j, j < k + 1 → Sm.lies (l.getD k []) (bl p) = false → Sm.lies (l.getD j []) (bl p) = false) := fun j hj hh => by
        by_cases e : j = k
        · rw [e]; exact hh
        · exact HNo.out j (by omega)
      have HYes : Hid (Sm.lies (l.getD k []) (bl p) = true → l.any (Sm.lies · (bl p)) = true) := fun hh => any_hit (by rw [HN.eq]; exact hlt) hh
      clear hno hB ht
      generalize mk (l.getD k []) = sx at *
      cases hr : Sm.lies (l.getD k []) (bl p) with
      | true =>
        rw [hr] at HC HYes
        have HY2 : Is (l.any (Sm.lies · (bl p))) true := ⟨HYes.out rfl⟩
        clear hr HYes HLi
        go_wp2_with (first | (go_at_fn 44; refine (show Calls _ _ _ _ _ from HC.out).mono ?_; rintro e w1 ⟨rfl, hB1⟩))
        go_ret
        exact ⟨_, rfl, by rw [HY2.eq]; simp, HB.out.trans (hB1.mono hsz)⟩
      | false =>
        rw [hr] at HC
        have HNo2 : Hid (∀ j, j < k + 1 → Sm.lies (l.getD j []) (bl p) = false) := fun j hj => HLi.out j hj hr
        clear hr HYes HLi HNo
        go_wp2_with (first | (go_at_fn 44; refine (show Calls _ _ _ _ _ from HC.out).mono ?_; rintro e w1 ⟨rfl, hB1⟩))
        go_roundw
        case rel => exact ⟨k + 1, by omega, by go_num, HNo2.out, HB.out.trans (hB1.mono hsz)⟩
        case measure => (simp [intOf]) <;> omega
    · obtain rfl : k = n := by omega
      have i0 : ¬ (k : Int) < (k : Int) := by omega
      have HM : Is (l.any (Sm.lies · (bl p))) false := ⟨any_miss (by rw [HN.eq]; exact HNo.out)⟩
      clear hno hB
      go_wp2_with fail
      go_ret
      exact ⟨_, rfl, by rw [HM.eq]; simp, HB.out⟩
end Go.Proofs.YtbcmgcallidneaaGreatDoor
