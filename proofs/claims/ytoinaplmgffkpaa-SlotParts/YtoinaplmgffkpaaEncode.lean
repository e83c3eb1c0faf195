/- Proved: what slot's Encode answers (stage 11). -/
import Derived.Test.YtoinaplmgffkpaaEncB
namespace Go.Proofs.Ytoinaplmgffkpaa
open Go.RowKit
open Sl (Cel Nod)
set_option maxHeartbeats 2000000 in
theorem encode_any (n : Nod) (p : Pt) (w : World) (hN : Lies w n p) (hF : Fit n) :
    Calls Try.prog 23 #[nv n p] w fun e w' => e = .returned (.tuple #[.string (encS n), .int .i64 (encE n)]) ∧ Below w.heap.size w w' := by
  have HB0 : Hid (Below w.heap.size w (boxN w n p)) := below_alloc _ _
  have HA0 : Hid (NodAt (boxN w n p) w.heap.size n p) := boxN_at w n p
  have hs0 : w.heap.size + 1 ≤ (boxN w n p).heap.size := by unfold boxN; rw [size_alloc1]; omega
  have HSZ := size_any n p (boxN w n p) (hN.below HB0.out) hF
  have HLB := (show Hid (Sl.may n = true → n.leaf = true → ∀ W : World, Below w.heap.size w W → Calls Try.prog 45 #[nv n p] W fun e w' => ∃ v, e = .returned v ∧ w'.ownsRow W.heap.size 5 1 v (nbytes n).length ((nbytes n).map V8) ∧ Below W.heap.size W w') from fun h hl W hW => by
    have hm := may_leaf h hl
    have := lbytes_any n p W (hN.below hW) hm.1 hm.2.1
    unfold nbytes
    rw [if_pos hl]
    exact this)
  have HBB := (show Hid (Sl.may n = true → n.leaf = false → ∀ W : World, Below w.heap.size w W → Calls Try.prog 46 #[nv n p] W fun e w' => ∃ v, e = .returned v ∧ w'.ownsRow W.heap.size 5 1 v (nbytes n).length ((nbytes n).map V8) ∧ Below W.heap.size W w') from fun h hl W hW => by
    have hm := may_branch h hl
    have := bbytes_any n p W (hN.below hW) (fun k hk => by have := hm.1 k hk; unfold Sl.isKey at this; simp at this; exact this.2) hm.2.2.2.2.2 hm.2.1 hm.2.2.2.2.1
    unfold nbytes
    rw [hl, if_neg (by simp)]
    exact this)
  have HLT := (show Hid (Sl.may n = true → ∀ x ∈ nbytes n, x < 256) from fun h => by
    unfold nbytes
    cases hl : n.leaf with
    | true => rw [if_pos rfl]; have hm := may_leaf h hl; exact lbytes_lt hm.1 hm.2.1
    | false => rw [if_neg (by simp)]; have hm := may_branch h hl; exact bbytes_lt (fun k hk => by have := hm.1 k hk; unfold Sl.isKey at this; simp at this; exact this.2) hm.2.1)
  have HE : Is (encE n) (if Sl.may n then (if sizeN n ≤ 500 then 0 else 3) else 2) := ⟨rfl⟩
  have HS : Is (encS n) (if Sl.may n && decide (sizeN n ≤ 500) then tb (nbytes n) else ⟨#[]⟩) := ⟨rfl⟩
  have HZ : Is (sizeE n) (if Sl.may n then sizeN n else 0) := ⟨rfl⟩
  have hpos : 0 < sizeN n := by unfold sizeN headN; split <;> omega
  clear hN hF
  generalize encE n = E at *
  generalize encS n = s at *
  generalize sizeE n = z at *
  generalize sizeN n = Z at *
  generalize nbytes n = B at *
  generalize Sl.may n = q at *
  obtain ⟨lf, cs, ks, ds⟩ := n
  obtain ⟨a1, c1, a2, c2, a3, c3⟩ := p
  unfold nv at *
  simp only at HSZ HLB HBB ⊢
  have hzz := HZ.eq
  cases q with
  | false =>
    have HE2 : Hid (E = 2 ∧ s = ⟨#[]⟩) := ⟨HE.eq, HS.eq⟩
    have hz : z = 0 := hzz
    subst hz
    clear HE HS HZ HLB HBB HLT hzz
    go_enter Try.func23, Try.ntmps23
    go_wp2_with fail
    refine HSZ.mono ?_
    rintro e w1 ⟨rfl, hB1⟩
    have HB1 : Hid (Below w.heap.size w w1) := HB0.out.trans (hB1.mono (by omega))
    clear hB1 HSZ HA0 HB0
    go_wp2
    go_ret2
    exact ⟨by rw [HE2.out.1, HE2.out.2]; rfl, HB1.out⟩
  | true =>
    have hz : z = Z := hzz
    subst hz
    clear hzz HZ
    have d0 : (((z : Nat) : Int) == 0) = false := beq_eq_false_iff_ne.2 (by omega)
    by_cases h5 : z ≤ 500
    · have HE2 : Hid (E = 0 ∧ s = tb B) := ⟨by rw [HE.eq, if_pos rfl, if_pos h5], by rw [HS.eq, if_pos (by simp [h5])]⟩
      have d1 : decide ((500 : Int) < (z : Int)) = false := decide_eq_false (by omega)
      clear HE HS
      go_enter Try.func23, Try.ntmps23
      go_wp2_with fail
      refine HSZ.mono ?_
      rintro e w1 ⟨rfl, hB1⟩
      have HB1 : Hid (Below w.heap.size w w1) := HB0.out.trans (hB1.mono (by omega))
      have HA1 : Hid (NodAt w1 w.heap.size ⟨lf, cs, ks, ds⟩ ⟨a1, c1, a2, c2, a3, c3⟩) := HA0.out.below hB1 (by omega)
      have hs1 : w.heap.size + 1 ≤ w1.heap.size := by have := hB1.size; omega
      clear hB1 HSZ HA0 HB0 hs0
      obtain ⟨q0, q1, q2, q3⟩ := HA1.out
      simp only at q0 q1 q2 q3
      cases lf with
      | true =>
        have HL2 := HLB.out (by first | rfl | trivial) (by first | rfl | trivial) w1 HB1.out
        clear HLB HBB
        go_wp2_with fail
        refine HL2.mono ?_
        rintro e w2 ⟨v, rfl, hO, hB2⟩
        have HB2 : Hid (Below w.heap.size w w2) := HB1.out.trans (hB2.mono (by omega))
        have hcv := str_of_own hO (HLT.out (by first | rfl | trivial))
        clear hB2 HL2 q0 q1 q2 q3 hO
        go_wp2
        go_ret2
        exact ⟨by rw [HE2.out.1, HE2.out.2]; rfl, HB2.out⟩
      | false =>
        have HL2 := HBB.out (by first | rfl | trivial) (by first | rfl | trivial) w1 HB1.out
        clear HLB HBB
        go_wp2_with fail
        refine HL2.mono ?_
        rintro e w2 ⟨v, rfl, hO, hB2⟩
        have HB2 : Hid (Below w.heap.size w w2) := HB1.out.trans (hB2.mono (by omega))
        have hcv := str_of_own hO (HLT.out (by first | rfl | trivial))
        clear hB2 HL2 q0 q1 q2 q3 hO
        go_wp2
        go_ret2
        exact ⟨by rw [HE2.out.1, HE2.out.2]; rfl, HB2.out⟩
    · have HE2 : Hid (E = 3 ∧ s = ⟨#[]⟩) := ⟨by rw [HE.eq, if_pos rfl, if_neg h5], by rw [HS.eq, if_neg (by simp; omega)]⟩
      have d1 : decide ((500 : Int) < (z : Int)) = true := decide_eq_true (by omega)
      clear HE HS HLB HBB HLT
      go_enter Try.func23, Try.ntmps23
      go_wp2_with fail
      refine HSZ.mono ?_
      rintro e w1 ⟨rfl, hB1⟩
      have HB1 : Hid (Below w.heap.size w w1) := HB0.out.trans (hB1.mono (by omega))
      clear hB1 HSZ HA0 HB0
      go_wp2
      go_ret2
      exact ⟨by rw [HE2.out.1, HE2.out.2]; rfl, HB1.out⟩
end Go.Proofs.Ytoinaplmgffkpaa
