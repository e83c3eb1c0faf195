/- Proved: the document's Within, Has and Covers. -/
import Derived.Test.YtbcmgcallidneaaGreatDoorRBel
import Derived.Test.YtbcmgcallidneaaGreatDoorHasF
namespace Go.Proofs.YtbcmgcallidneaaGreatDoor
open Go.RowKit
theorem within_eq (d p : Pm.T) : (Pm.isP p && (p == d) || Pm.below d p) = (Pm.isP p && Sm.lies d p) := by
  unfold Sm.lies
  cases hb : Pm.below d p with
  | true => rw [Sm.below_isP hb]; simp
  | false => simp
set_option maxHeartbeats 2000000 in
set_option maxRecDepth 20000 in
theorem rwithin_any (d p : ByteArray) (w : World) (hd : d.size ≤ 4000) (hp : p.size ≤ 4000) :
    Calls Tryz.prog 46 #[.string d, .string p] w fun e w' => e = .returned (.bool (Pm.isP (bl p) && Sm.lies (bl d) (bl p))) ∧ Below w.heap.size w w' := by
  have HI := (show Hid (∀ W : World, Calls Tryz.prog 62 #[.string p] W fun e w' => e = .returned (.bool (Pm.isP (bl p))) ∧ Below W.heap.size W w') from fun W => ris_any p W (by omega))
  have HB := (show Hid (∀ W : World, Calls Tryz.prog 63 #[.string d, .string p] W fun e w' => e = .returned (.bool (Pm.below (bl d) (bl p))) ∧ Below W.heap.size W w') from fun W => rbelow_any d p W hd hp)
  have HR : Is (Pm.isP (bl p) && Sm.lies (bl d) (bl p)) (Pm.isP (bl p) && (bl p == bl d) || Pm.below (bl d) (bl p)) := ⟨(within_eq _ _).symm⟩
  have e1 : (p.toList == d.toList) = (bl p == bl d) := by rw [ByteArray.toList_eq, ByteArray.toList_eq]
  generalize (Pm.isP (bl p) && Sm.lies (bl d) (bl p)) = res at *
  generalize Pm.isP (bl p) = r1 at *
  generalize Pm.below (bl d) (bl p) = r3 at *
  generalize (bl p == bl d) = r2 at *
  cases r1
  · go_enter Tryz.func46, Tryz.ntmps46
    go_wp2_with fail
    refine (HI.out _).mono ?_
    rintro e w1 ⟨rfl, hB1⟩
    go_wp2_with fail
    refine (HB.out _).mono ?_
    rintro e w2 ⟨rfl, hB2⟩
    go_wp2_with fail
    go_ret
    exact ⟨by rw [HR.eq]; simp, hB1.trans (hB2.mono hB1.size)⟩
  · cases r2
    · go_enter Tryz.func46, Tryz.ntmps46
      go_wp2_with fail
      refine (HI.out _).mono ?_
      rintro e w1 ⟨rfl, hB1⟩
      go_wp2_with fail
      refine (HB.out _).mono ?_
      rintro e w2 ⟨rfl, hB2⟩
      go_wp2_with fail
      go_ret
      exact ⟨by rw [HR.eq]; simp, hB1.trans (hB2.mono hB1.size)⟩
    · go_enter Tryz.func46, Tryz.ntmps46
      go_wp2_with fail
      refine (HI.out _).mono ?_
      rintro e w1 ⟨rfl, hB1⟩
      go_wp2_with fail
      go_ret
      exact ⟨by rw [HR.eq]; simp, hB1⟩
set_option maxHeartbeats 2000000 in
set_option maxRecDepth 20000 in
theorem rhas_any (ad : Option Addr) (c : Nat) (l : List Pm.T) (p : ByteArray) (w : World) (hA : TxtA w ad l) (hl : l.length ≤ 1000000) (hx : ∀ x ∈ l, x.length ≤ 4000) (hp : p.size ≤ 4000) :
    Calls Tryz.prog 30 #[.slice ad l.length c, .string p] w fun e w' => e = .returned (.bool (Sm.has l (bl p))) ∧ Below w.heap.size w w' := by
  have HH : Hid (∀ (k : Nat) (W : World), k < l.length → Calls Tryz.prog 46 #[.string (mk (l.getD k [])), .string p] W fun e w' => e = .returned (.bool (Pm.isP (bl p) && Sm.lies (l.getD k []) (bl p))) ∧ Below W.heap.size W w') :=
    fun k W hk => rwithin_any (mk (l.getD k [])) p W (by rw [mk_size]; exact hx _ (getD_mem hk)) hp
  have HA : Hid (TxtA w ad l) := hA
  have HYes : Hid (∀ k, k < l.length → (Pm.isP (bl p) && Sm.lies (l.getD k []) (bl p)) = true → Sm.has l (bl p) = true) := fun k hk h => by
    rw [Bool.and_eq_true] at h
    exact Sm.has_iff.2 ⟨h.1, _, getD_mem hk, h.2⟩
  have HNone : Hid ((∀ j, j < l.length → (Pm.isP (bl p) && Sm.lies (l.getD j []) (bl p)) = false) → Sm.has l (bl p) = false) := fun h => by
    cases e : Sm.has l (bl p) with
    | false => rfl
    | true =>
      obtain ⟨h1, d, hd, h2⟩ := Sm.has_iff.1 e
      obtain ⟨j, hj, rfl⟩ := List.mem_iff_getElem.1 hd
      have := h j hj
      rw [List.getD_eq_getElem?_getD, List.getElem?_eq_getElem hj, h1] at this
      simp [h2] at this
  obtain ⟨n, hn⟩ : ∃ n, l.length = n := ⟨_, rfl⟩
  have HN : Is l.length n := ⟨hn⟩
  rw [hn] at hl HH HYes HNone
  rw [hn]
  clear hA hn hx hp
  go_enter Tryz.func30, Tryz.ntmps30
  go_wp2_with fail
  go_loopw [5] (fun i wr => ∃ k : Nat, k ≤ n ∧ i = .int .i64 k ∧ (∀ j, j < k → (Pm.isP (bl p) && Sm.lies (l.getD j []) (bl p)) = false) ∧ Below w.heap.size w wr) (fun i _ => n - (intOf i).toNat)
  case atStart => exact ⟨0, by omega, rfl, fun j hj => absurd hj (by omega), Below.refl _ _⟩
  case round =>
    obtain ⟨k, hk, rfl, hno, hB⟩ := hrel
    have HNo : Hid (∀ j, j < k → (Pm.isP (bl p) && Sm.lies (l.getD j []) (bl p)) = false) := hno
    have HB : Hid (Below w.heap.size w wr) := hB
    have hsz := hB.size
    by_cases hlt : k < n
    · have i0 : (k : Int) < (n : Int) := by omega
      have j0 : (0 : Int) ≤ (k : Int) := Int.natCast_nonneg _
      obtain ⟨g, he, hg, ht⟩ := HA.out (by rw [HN.eq]; omega)
      subst he
      have c0 := (hB.cell (p := ⟨g, k, none⟩) hg).trans (ht.get k (by rw [HN.eq]; exact hlt))
      have HC := (show Hid _ from HH.out k wr hlt)
      have HLi : Hid ((Pm.isP (bl p) && Sm.lies (l.getD k []) (bl p)) = false → ∀ j, j < k + 1 → (Pm.isP (bl p) && Sm.lies (l.getD j []) (bl p)) = false) := fun hh j hj => by
        by_cases e : j = k
        · rw [e]; exact hh
        · exact HNo.out j (by omega)
      have HY := (show Hid _ from HYes.out k hlt)
      clear hno hB ht
      generalize mk (l.getD k []) = sx at *
      cases hr : (Pm.isP (bl p) && Sm.lies (l.getD k []) (bl p)) with
      | true =>
        rw [hr] at HC HY
        have HY2 : Is (Sm.has l (bl p)) true := ⟨HY.out rfl⟩
        clear hr HY HLi
        go_wp2_with (first | (go_at_call 46; refine (show Calls _ _ _ _ _ from HC.out).mono ?_; rintro e w1 ⟨rfl, hB1⟩))
        go_ret
        exact ⟨by rw [HY2.eq]; rfl, HB.out.trans (hB1.mono hsz)⟩
      | false =>
        rw [hr] at HC
        have HNo2 := (show Hid _ from HLi.out hr)
        clear hr HY HLi HNo
        go_wp2_with (first | (go_at_call 46; refine (show Calls _ _ _ _ _ from HC.out).mono ?_; rintro e w1 ⟨rfl, hB1⟩))
        go_roundw
        case rel => exact ⟨k + 1, by omega, by go_num, HNo2.out, HB.out.trans (hB1.mono hsz)⟩
        case measure => (simp [intOf]) <;> omega
    · obtain rfl : k = n := by omega
      have i0 : ¬ (k : Int) < (k : Int) := by omega
      have HM : Is (Sm.has l (bl p)) false := ⟨HNone.out HNo.out⟩
      clear hno hB
      go_wp2_with fail
      go_ret
      exact ⟨by rw [HM.eq]; rfl, HB.out⟩
end Go.Proofs.YtbcmgcallidneaaGreatDoor
