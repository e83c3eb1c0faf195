/- Proved: what slot's Check answers (stage 11). -/
import Derived.Test.YtoinaplmgffkpaaChk
namespace Go.Proofs.Ytoinaplmgffkpaa
open Go.RowKit
open Sl (Cel Nod)
def checkE (n : Nod) : Int := if Sl.may n then 0 else 2
theorem keysOf_fit {n : Nod} (hF : Fit n) : (Sl.keysOf n).length ≤ 1000 ∧ ∀ k ∈ Sl.keysOf n, k.size ≤ 140737488355328 := by
  unfold Sl.keysOf
  split
  · refine ⟨by rw [List.length_map]; exact hF.l1, fun k hk => ?_⟩
    obtain ⟨c, hc, rfl⟩ := List.mem_map.1 hk
    exact (hF.cells c hc).key
  · exact ⟨hF.l2, hF.keys⟩
set_option maxHeartbeats 2000000 in
theorem check_any (n : Nod) (p : Pt) (w : World) (hN : Lies w n p) (hF : Fit n) :
    Calls Try.prog 24 #[nv n p] w fun e w' => e = .returned (.int .i64 (checkE n)) ∧ Below w.heap.size w w' := by
  obtain ⟨hkl, hks⟩ := keysOf_fit hF
  have HB0 : Hid (Below w.heap.size w (boxN w n p)) := below_alloc _ _
  have HA0 : Hid (NodAt (boxN w n p) w.heap.size n p) := boxN_at w n p
  have hs0 : (boxN w n p).heap.size = w.heap.size + 1 := size_alloc1 _ _
  have HK := keysOf_any n p (boxN w n p) (hN.below HB0.out) hF
  have HL := fun (W : World) (h : Below w.heap.size w W) => leafMay_any n p W (hN.below h) hF
  have HR := fun (W : World) (h : Below w.heap.size w W) => branchMay_any n p W (hN.below h) hF
  clear hN hF
  have HM : Is (checkE n) (if (decide ((Sl.keysOf n).length ≤ 255) && ((Sl.keysOf n).all Sl.isKey && (Sl.rise (Sl.keysOf n) && (if n.leaf then Sl.leafOk n else Sl.branchOk n)))) then 0 else 2) := ⟨rfl⟩
  obtain ⟨lf, cs, ks, ds⟩ := n
  obtain ⟨a1, c1, a2, c2, a3, c3⟩ := p
  generalize Sl.keysOf ⟨lf, cs, ks, ds⟩ = l at *
  generalize checkE ⟨lf, cs, ks, ds⟩ = E at *
  generalize Sl.leafOk ⟨lf, cs, ks, ds⟩ = qL at *
  generalize Sl.branchOk ⟨lf, cs, ks, ds⟩ = qR at *
  unfold nv at *
  simp only at HK HL HR ⊢
  go_enter Try.func24, Try.ntmps24
  go_wp2_with fail
  refine HK.mono ?_
  rintro e w1 ⟨ad, cap, rfl, hr1, hl1, hl2, hB1⟩
  have HB1 : Hid (Below w.heap.size w w1) := HB0.out.trans (hB1.mono (by omega))
  have hs1 : w.heap.size + 1 ≤ w1.heap.size := by have := hB1.size; omega
  have HA1 : Hid (NodAt w1 w.heap.size ⟨lf, cs, ks, ds⟩ ⟨a1, c1, a2, c2, a3, c3⟩) := HA0.out.below hB1 (by omega)
  have HAL := fun (W : World) (h : Below w1.heap.size w1 W) => allS_any ad cap l W (hr1.below h) hkl hks
  have HRI := fun (W : World) (h : Below w1.heap.size w1 W) => rise_any ad cap l W (hr1.below h) hkl
  clear hr1 hB1 HK HA0 HB0 hks hs0
  unfold maySF at HAL
  generalize l.all Sl.isKey = qA at *
  generalize Sl.rise l = qI at *
  by_cases h1 : l.length ≤ 255
  · have d1 : decide ((255 : Int) < ((l.length : Nat) : Int)) = false := decide_eq_false (by omega)
    go_wp2_with fail
    refine (HAL _ (Below.refl _ _)).mono ?_
    rintro e w2 ⟨rfl, hB2⟩
    have HB2 : Hid (Below w1.heap.size w1 w2) := hB2
    have hs2 := hB2.size
    clear hB2 HAL
    cases qA with
    | true =>
      go_wp2_with fail
      refine (HRI _ HB2.out).mono ?_
      rintro e w3 ⟨rfl, hB3⟩
      have HB3 : Hid (Below w.heap.size w w3) := HB1.out.trans ((HB2.out.trans (hB3.mono hs2)).mono (by omega))
      have HA3 : Hid (NodAt w3 w.heap.size ⟨lf, cs, ks, ds⟩ ⟨a1, c1, a2, c2, a3, c3⟩) := HA1.out.below (HB2.out.trans (hB3.mono hs2)) (by omega)
      have hs3 : w.heap.size + 1 ≤ w3.heap.size := by have := hB3.size; omega
      clear hB3 HRI HB2 HB1 HA1
      cases qI with
      | true =>
        obtain ⟨q0, q1, q2, q3⟩ := HA3.out
        simp only at q0 q1 q2 q3
        cases lf with
        | true =>
          go_wp2_with fail
          refine (HL _ HB3.out).mono ?_
          rintro e w4 ⟨rfl, hB4⟩
          have HB4 : Hid (Below w.heap.size w w4) := HB3.out.trans (hB4.mono (by omega))
          have HA4 : Hid (NodAt w4 w.heap.size ⟨true, cs, ks, ds⟩ ⟨a1, c1, a2, c2, a3, c3⟩) := HA3.out.below hB4 (by omega)
          clear q0 q1 q2 q3 hB4 HL HR HB3 HA3
          obtain ⟨q0, q1, q2, q3⟩ := HA4.out
          simp only at q0 q1 q2 q3
          cases qL <;> (go_wp2; go_ret; exact ⟨by rw [HM.eq]; simp [h1], HB4.out⟩)
        | false =>
          go_wp2_with fail
          refine (HR _ HB3.out).mono ?_
          rintro e w4 ⟨rfl, hB4⟩
          have HB4 : Hid (Below w.heap.size w w4) := HB3.out.trans (hB4.mono (by omega))
          clear q0 q1 q2 q3 hB4 HL HR HB3 HA3
          cases qR <;> (go_wp2; go_ret; exact ⟨by rw [HM.eq]; simp [h1], HB4.out⟩)
      | false =>
        go_wp2
        go_ret
        exact ⟨by rw [HM.eq]; simp [h1], HB3.out⟩
    | false =>
      go_wp2
      go_ret
      exact ⟨by rw [HM.eq]; simp [h1], HB1.out.trans (HB2.out.mono (by omega))⟩
  · have d1 : decide ((255 : Int) < ((l.length : Nat) : Int)) = true := decide_eq_true (by omega)
    go_wp2
    go_ret
    exact ⟨by rw [HM.eq]; simp [h1], HB1.out⟩
end Go.Proofs.Ytoinaplmgffkpaa
