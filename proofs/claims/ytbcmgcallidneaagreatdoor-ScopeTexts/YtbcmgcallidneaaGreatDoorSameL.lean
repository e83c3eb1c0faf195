/- Proved: the document's comparison of two lists of texts. -/
import Derived.Test.YtbcmgcallidneaaGreatDoorLst
namespace Go.Proofs.YtbcmgcallidneaaGreatDoor
open Go.RowKit
theorem same_lists {l1 l2 : List Pm.T} (hl : l1.length = l2.length) (h : ∀ j, j < l1.length → l1.getD j [] = l2.getD j []) : l1 = l2 := by
  apply List.ext_getElem hl
  intro i h1 h2
  have := h i h1
  rw [List.getD_eq_getElem?_getD, List.getD_eq_getElem?_getD, List.getElem?_eq_getElem h1, List.getElem?_eq_getElem h2] at this
  exact this
theorem mk_inj {x y : Pm.T} (h : mk x = mk y) : x = y := by have := congrArg bl h; exact this
set_option maxHeartbeats 2000000 in
set_option maxRecDepth 20000 in
theorem rsame_any (ad1 ad2 : Option Addr) (c1 c2 : Nat) (l1 l2 : List Pm.T) (w : World) (hl1 : l1.length ≤ 1000000) (hl2 : l2.length ≤ 1000000) (h1 : TxtA w ad1 l1) (h2 : TxtA w ad2 l2) :
    Calls Tryz.prog 9 #[.slice ad1 l1.length c1, .slice ad2 l2.length c2] w fun e w' => e = .returned (.bool (l1 == l2)) ∧ Below w.heap.size w w' := by
  have H1 : Hid (TxtA w ad1 l1) := h1
  have H2 : Hid (TxtA w ad2 l2) := h2
  by_cases hne : l1.length = l2.length
  · have HEq : Hid ((∀ j, j < l1.length → l1.getD j [] = l2.getD j []) → l1 = l2) := same_lists hne
    obtain ⟨n, hn⟩ : ∃ n, l1.length = n := ⟨_, rfl⟩
    have HN : Is l1.length n := ⟨hn⟩
    have HN2 : Is l2.length n := ⟨hne ▸ hn⟩
    rw [HN.eq] at hl1
    rw [HN.eq, HN2.eq]
    clear h1 h2 hn hne hl2
    go_enter Tryz.func9, Tryz.ntmps9
    go_wp2_with fail
    go_loopw [5] (fun i wr => ∃ k : Nat, k ≤ n ∧ i = .int .i64 k ∧ (∀ j, j < k → l1.getD j [] = l2.getD j []) ∧ Below w.heap.size w wr) (fun i _ => n - (intOf i).toNat)
    case atStart => exact ⟨0, by omega, rfl, fun j hj => absurd hj (by omega), Below.refl _ _⟩
    case round =>
      obtain ⟨k, hk, rfl, hsame, hB⟩ := hrel
      have HSm : Hid (∀ j, j < k → l1.getD j [] = l2.getD j []) := hsame
      have HB : Hid (Below w.heap.size w wr) := hB
      have hsz := hB.size
      by_cases hlt : k < n
      · have i0 : (k : Int) < (n : Int) := by omega
        have j0 : (0 : Int) ≤ (k : Int) := Int.natCast_nonneg _
        obtain ⟨g1, he1, hg1, t1⟩ := H1.out (by rw [HN.eq]; omega)
        obtain ⟨g2, he2, hg2, t2⟩ := H2.out (by rw [HN2.eq]; omega)
        subst he1 he2
        have c0 := (hB.cell (p := ⟨g1, k, none⟩) hg1).trans (t1.get k (by rw [HN.eq]; exact hlt))
        have c1 := (hB.cell (p := ⟨g2, k, none⟩) hg2).trans (t2.get k (by rw [HN2.eq]; exact hlt))
        have HNx : Hid (l1.getD k [] = l2.getD k [] → ∀ j, j < k + 1 → l1.getD j [] = l2.getD j []) := fun e j hj => by
          by_cases hjk : j = k
          · rw [hjk]; exact e
          · exact HSm.out j (by omega)
        have HNo : Hid (l1.getD k [] ≠ l2.getD k [] → (l1 == l2) = false) := fun e => by
          simp only [beq_eq_false_iff_ne, ne_eq]
          intro h
          rw [h] at e
          exact e rfl
        clear t1 t2 hB H1 H2 hsame
        by_cases hxy : l1.getD k [] = l2.getD k []
        · have E1 : ((mk (l1.getD k [])).toList == (mk (l2.getD k [])).toList) = true := by rw [hxy]; simp
          have HS2 := (show Hid _ from HNx.out hxy)
          clear hxy HNx HNo
          generalize mk (l1.getD k []) = sx at *
          generalize mk (l2.getD k []) = sy at *
          go_wp2_with fail
          go_region
          go_wp2_with fail
          go_roundw
          case rel => exact ⟨k + 1, by omega, by go_num, HS2.out, HB.out.trans (((Below.refl _ _).drew).mono hsz)⟩
          case measure => (simp [intOf]) <;> omega
        · have E1 : ((mk (l1.getD k [])).toList == (mk (l2.getD k [])).toList) = false := by
            rw [ByteArray.toList_eq, ByteArray.toList_eq]
            show (l1.getD k [] == l2.getD k []) = false
            simp only [beq_eq_false_iff_ne, ne_eq]; exact hxy
          have HF : Is (l1 == l2) false := ⟨HNo.out hxy⟩
          clear hxy HNx HNo
          generalize mk (l1.getD k []) = sx at *
          generalize mk (l2.getD k []) = sy at *
          go_wp2_with fail
          go_region
          go_wp2_with fail
          go_ret
          exact ⟨by rw [HF.eq]; rfl, HB.out.trans (((Below.refl _ _).drew).mono hsz)⟩
      · obtain rfl : k = n := by omega
        have i0 : ¬ (k : Int) < (k : Int) := by omega
        have HF : Is (l1 == l2) true := ⟨by rw [beq_iff_eq]; exact HEq.out (by rw [HN.eq]; exact HSm.out)⟩
        clear hB hsame
        go_wp2_with fail
        go_ret
        exact ⟨by rw [HF.eq]; rfl, HB.out⟩
  · have HF : Is (l1 == l2) false := ⟨by simp only [beq_eq_false_iff_ne, ne_eq]; rintro rfl; exact hne rfl⟩
    have h' : ¬ ((l1.length : Nat) : Int) = (l2.length : Nat) := by omega
    have h2 : (((l1.length : Nat) : Int) == ((l2.length : Nat) : Int)) = false := by simp only [beq_eq_false_iff_ne, ne_eq]; exact h'
    generalize l1.length = n1 at *
    generalize l2.length = n2 at *
    go_enter Tryz.func9, Tryz.ntmps9
    go_wp2_with fail
    go_ret
    exact ⟨by rw [HF.eq]; rfl, Below.refl _ _⟩
end Go.Proofs.YtbcmgcallidneaaGreatDoor
