/- Proved: what slot's Size answers (stage 11). -/
import Derived.Test.YtoinaplmgffkpaaFar
namespace Go.Proofs.Ytoinaplmgffkpaa
open Go.RowKit
open Sl (Cel Nod)
def headN (n : Nod) : Nat := if n.leaf then 2 else 6
def sizeN (n : Nod) : Nat := headN n + sumN (sizes n)
def sizeE (n : Nod) : Nat := if Sl.may n then sizeN n else 0
theorem sizes_fit {n : Nod} (hF : Fit n) : (sizes n).length ≤ 1000 ∧ sumN (sizes n) ≤ 2305843009213693952 := by
  unfold sizes
  split
  · have h1 : ∀ x ∈ n.cells.map csize, x ≤ 300000000000000 := fun x hx => by
      obtain ⟨c, hc, rfl⟩ := List.mem_map.1 hx
      have h2 := (hF.cells c hc).key
      have h3 := (hF.cells c hc).val
      unfold csize
      split <;> omega
    have h2 := sumN_le h1
    have h3 := hF.l1
    rw [List.length_map] at h2 ⊢
    exact ⟨h3, by omega⟩
  · have h1 : ∀ x ∈ n.keys.map (fun k => 5 + k.size), x ≤ 300000000000000 := fun x hx => by
      obtain ⟨c, hc, rfl⟩ := List.mem_map.1 hx
      have h2 := hF.keys c hc
      omega
    have h2 := sumN_le h1
    have h3 := hF.l2
    rw [List.length_map] at h2 ⊢
    exact ⟨h3, by omega⟩
set_option maxHeartbeats 1000000 in
theorem size_any (n : Nod) (p : Pt) (w : World) (hN : Lies w n p) (hF : Fit n) :
    Calls Try.prog 25 #[nv n p] w fun e w' => e = .returned (.int .i64 (sizeE n : Int)) ∧ Below w.heap.size w w' := by
  obtain ⟨hkl, hks⟩ := sizes_fit hF
  have HB0 : Hid (Below w.heap.size w (boxN w n p)) := below_alloc _ _
  have HA0 : Hid (NodAt (boxN w n p) w.heap.size n p) := boxN_at w n p
  have hs0 : (boxN w n p).heap.size = w.heap.size + 1 := size_alloc1 _ _
  have HC := check_any n p (boxN w n p) (hN.below HB0.out) hF
  have HZ := fun (W : World) (h : Below w.heap.size w W) => sizesOf_any n p W (hN.below h) hF
  have HE : Is (sizeE n) (if Sl.may n then headN n + sumN (sizes n) else 0) := ⟨rfl⟩
  have HH : Is (headN n) (if n.leaf then 2 else 6) := ⟨rfl⟩
  unfold checkE at HC
  clear hN hF
  generalize sizeE n = E at *
  generalize headN n = H at *
  generalize sizes n = l at *
  generalize Sl.may n = q at *
  obtain ⟨lf, cs, ks, ds⟩ := n
  obtain ⟨a1, c1, a2, c2, a3, c3⟩ := p
  unfold nv at *
  simp only at HC HZ HH ⊢
  cases q with
  | false =>
    rw [if_neg (by simp)] at HC
    go_enter Try.func25, Try.ntmps25
    go_wp2_with fail
    refine HC.mono ?_
    rintro e w1 ⟨rfl, hB1⟩
    have HB1 : Hid (Below w.heap.size w w1) := HB0.out.trans (hB1.mono (by omega))
    clear hB1 HC HZ HA0 HB0 hs0
    go_wp2
    go_ret
    exact ⟨by rw [HE.eq]; rfl, HB1.out⟩
  | true =>
    rw [if_pos rfl] at HC
    go_enter Try.func25, Try.ntmps25
    go_wp2_with fail
    refine HC.mono ?_
    rintro e w1 ⟨rfl, hB1⟩
    have HB1 : Hid (Below w.heap.size w w1) := HB0.out.trans (hB1.mono (by omega))
    have HA1 : Hid (NodAt w1 w.heap.size ⟨lf, cs, ks, ds⟩ ⟨a1, c1, a2, c2, a3, c3⟩) := HA0.out.below hB1 (by omega)
    have hs1 : w.heap.size + 1 ≤ w1.heap.size := by have := hB1.size; omega
    clear hB1 HC HA0 HB0 hs0
    obtain ⟨q0, q1, q2, q3⟩ := HA1.out
    simp only at q0 q1 q2 q3
    cases lf with
    | true =>
      go_wp2_with fail
      refine (HZ _ HB1.out).mono ?_
      rintro e w2 ⟨ad, cap, rfl, hr, h1, h2, hB2⟩
      have HB2 : Hid (Below w.heap.size w w2) := HB1.out.trans (hB2.mono (by omega))
      have HS := sum_any ad cap l l.length w2 hr rfl hkl (by omega)
      clear hr hB2 HZ q0 q1 q2 q3 HA1
      generalize hn : l.length = N at *
      go_wp2_with fail
      refine HS.mono ?_
      rintro e wS ⟨rfl, hwS⟩
      rw [hwS]
      clear hwS wS HS hn
      have HF : Hid ((E : Int) = 2 + (sumN l : Int)) := by
        have h1 := HE.eq
        have h2 := HH.eq
        simp at h1 h2
        show _ = _
        omega
      generalize sumN l = S at *
      go_wp2
      go_ret
      exact ⟨by rw [HF.out]; rfl, HB2.out⟩
    | false =>
      go_wp2_with fail
      refine (HZ _ HB1.out).mono ?_
      rintro e w2 ⟨ad, cap, rfl, hr, h1, h2, hB2⟩
      have HB2 : Hid (Below w.heap.size w w2) := HB1.out.trans (hB2.mono (by omega))
      have HS := sum_any ad cap l l.length w2 hr rfl hkl (by omega)
      clear hr hB2 HZ q0 q1 q2 q3 HA1
      generalize hn : l.length = N at *
      go_wp2_with fail
      refine HS.mono ?_
      rintro e wS ⟨rfl, hwS⟩
      rw [hwS]
      clear hwS wS HS hn
      have HF : Hid ((E : Int) = 6 + (sumN l : Int)) := by
        have h1 := HE.eq
        have h2 := HH.eq
        simp at h1 h2
        show _ = _
        omega
      generalize sumN l = S at *
      go_wp2
      go_ret
      exact ⟨by rw [HF.out]; rfl, HB2.out⟩
end Go.Proofs.Ytoinaplmgffkpaa
