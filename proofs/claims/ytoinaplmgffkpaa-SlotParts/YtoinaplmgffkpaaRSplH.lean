/- Proved: what the document's Split answers where it refuses (stage 11). -/
import Derived.Test.YtoinaplmgffkpaaMathQ
import Derived.Test.YtoinaplmgffkpaaRCheck
namespace Go.Proofs.Ytoinaplmgffkpaa
open Go.RowKit
open Sl (Cel Nod)
structure RsPost (w : World) (n : Nod) (e : Ending) (w' : World) : Prop where
  ex : ∃ p1 p2, e = .returned (.tuple #[nv (spL n) p1, nv (spR n) p2, .string (spK n), .int .i64 (spE n)]) ∧ Lies w' (spL n) p1 ∧ Lies w' (spR n) p2 ∧ Below w.heap.size w w'
theorem rs_no {w : World} {n : Nod} (e : Ending) (w' : World) (h : spOk n = false) (he : e = .returned (.tuple #[nv Sl.nod0 ⟨none, 0, none, 0, none, 0⟩, nv Sl.nod0 ⟨none, 0, none, 0, none, 0⟩, .string ⟨#[]⟩, .int .i64 2])) (hB : Below w.heap.size w w') : RsPost w n e w' :=
  ⟨⟨⟨none, 0, none, 0, none, 0⟩, ⟨none, 0, none, 0, none, 0⟩, by unfold spL spR spK spE; rw [h]; exact he, by unfold spL; rw [h]; exact (lies0 w' 0).lies, by unfold spR; rw [h]; exact (lies0 w' 0).lies, hB⟩⟩
theorem rs_yes {w : World} {n : Nod} (e : Ending) (w' : World) (p1 p2 : Pt) (h : spOk n = true) (he : e = .returned (.tuple #[nv (ctL n (spP n)) p1, nv (ctR n (spP n)) p2, .string (ctK n (spP n)), .int .i64 0])) (h1 : Lies w' (ctL n (spP n)) p1) (h2 : Lies w' (ctR n (spP n)) p2) (hB : Below w.heap.size w w') : RsPost w n e w' := by
  obtain ⟨e1, e2, e3, e4⟩ := sp_ct h
  exact ⟨⟨p1, p2, by rw [e1, e2, e3, e4]; exact he, by rw [e1]; exact h1, by rw [e2]; exact h2, hB⟩⟩
set_option maxHeartbeats 8000000 in
set_option maxRecDepth 20000 in
theorem rsplit_no (n : Nod) (p : Pt) (w : World) (hN : Lies w n p) (hF : Fit n) (hno : Sl.may n = false ∨ (Sl.may n = true ∧ spN n = 0)) :
    Calls Try.prog 20 #[nv n p] w (RsPost w n) := by
  have HOK := (show Hid (spOk n = false) from spOk_no (hno.imp id (fun h => h.2)))
  have HNO := (show Hid (∀ (e : Ending) (w' : World), spOk n = false → e = .returned (.tuple #[nv Sl.nod0 ⟨none, 0, none, 0, none, 0⟩, nv Sl.nod0 ⟨none, 0, none, 0, none, 0⟩, .string ⟨#[]⟩, .int .i64 2]) → Below w.heap.size w w' → RsPost w n e w') from fun e w' h he hB => rs_no e w' h he hB)
  have HCH := fun (W : World) (h : Below w.heap.size w W) => rcheck_any n p W (hN.below h) hF
  have hL := spN_leaf (n := n)
  have hR := spN_branch (n := n)
  clear hN hF
  unfold checkE at HCH
  obtain ⟨lf, cs, ks, ds⟩ := n
  obtain ⟨a1, c1, a2, c2, a3, c3⟩ := p
  simp only at hL hR
  unfold nv at *
  simp only at HCH HNO ⊢
  rcases hno with hm | ⟨hm, hz⟩
  · rw [hm] at HCH
    clear hm hL hR
    simp only [Bool.false_eq_true, if_false] at HCH
    have HS0 := (show Hid (Below w.heap.size w (((w.alloc (.cells #[.bool lf, .slice a1 cs.length c1, .slice a2 ks.length c2, .slice a3 ds.length c3] 26)).alloc (.cells #[.bool false, .slice none 0 0, .slice none 0 0, .slice none 0 0] 26)).alloc (.cells #[.bool false, .slice none 0 0, .slice none 0 0, .slice none 0 0] 26)) ∧ Brow (((w.alloc (.cells #[.bool lf, .slice a1 cs.length c1, .slice a2 ks.length c2, .slice a3 ds.length c3] 26)).alloc (.cells #[.bool false, .slice none 0 0, .slice none 0 0, .slice none 0 0] 26)).alloc (.cells #[.bool false, .slice none 0 0, .slice none 0 0, .slice none 0 0] 26)) w.heap.size [.bool lf, .slice a1 cs.length c1, .slice a2 ks.length c2, .slice a3 ds.length c3] 26 ∧ Brow (((w.alloc (.cells #[.bool lf, .slice a1 cs.length c1, .slice a2 ks.length c2, .slice a3 ds.length c3] 26)).alloc (.cells #[.bool false, .slice none 0 0, .slice none 0 0, .slice none 0 0] 26)).alloc (.cells #[.bool false, .slice none 0 0, .slice none 0 0, .slice none 0 0] 26)) (w.heap.size + 1) [.bool false, .slice none 0 0, .slice none 0 0, .slice none 0 0] 26 ∧ Brow (((w.alloc (.cells #[.bool lf, .slice a1 cs.length c1, .slice a2 ks.length c2, .slice a3 ds.length c3] 26)).alloc (.cells #[.bool false, .slice none 0 0, .slice none 0 0, .slice none 0 0] 26)).alloc (.cells #[.bool false, .slice none 0 0, .slice none 0 0, .slice none 0 0] 26)) (w.heap.size + 2) [.bool false, .slice none 0 0, .slice none 0 0, .slice none 0 0] 26) from ⟨((below_alloc _ _).alloc (by rw [size_alloc1]; omega) _).alloc (by rw [size_alloc1, size_alloc1]; omega) _, ((Brow.new w [.bool lf, .slice a1 cs.length c1, .slice a2 ks.length c2, .slice a3 ds.length c3] 26).alloc _).alloc _, by
      have := (Brow.new (w.alloc (.cells #[.bool lf, .slice a1 cs.length c1, .slice a2 ks.length c2, .slice a3 ds.length c3] 26)) [.bool false, .slice none 0 0, .slice none 0 0, .slice none 0 0] 26).alloc (.cells #[.bool false, .slice none 0 0, .slice none 0 0, .slice none 0 0] 26)
      rwa [size_alloc1] at this, by
      have := Brow.new ((w.alloc (.cells #[.bool lf, .slice a1 cs.length c1, .slice a2 ks.length c2, .slice a3 ds.length c3] 26)).alloc (.cells #[.bool false, .slice none 0 0, .slice none 0 0, .slice none 0 0] 26)) [.bool false, .slice none 0 0, .slice none 0 0, .slice none 0 0] 26
      rwa [size_alloc1, size_alloc1] at this⟩)
    have hs0 : w.heap.size + 3 ≤ (((w.alloc (.cells #[.bool lf, .slice a1 cs.length c1, .slice a2 ks.length c2, .slice a3 ds.length c3] 26)).alloc (.cells #[.bool false, .slice none 0 0, .slice none 0 0, .slice none 0 0] 26)).alloc (.cells #[.bool false, .slice none 0 0, .slice none 0 0, .slice none 0 0] 26)).heap.size := by rw [size_alloc1, size_alloc1, size_alloc1]; omega
    go_enter Try.func20, Try.ntmps20
    go_wp2_with fail
    refine (HCH _ HS0.out.1).mono ?_
    rintro e w1 ⟨rfl, hB1⟩
    have HS1 := (show Hid (Below w.heap.size w w1 ∧ Brow w1 w.heap.size [.bool lf, .slice a1 cs.length c1, .slice a2 ks.length c2, .slice a3 ds.length c3] 26 ∧ Brow w1 (w.heap.size + 1) [.bool false, .slice none 0 0, .slice none 0 0, .slice none 0 0] 26 ∧ Brow w1 (w.heap.size + 2) [.bool false, .slice none 0 0, .slice none 0 0, .slice none 0 0] 26) from ⟨HS0.out.1.trans (hB1.mono (by omega)), HS0.out.2.1.below hB1 (by omega), HS0.out.2.2.1.below hB1 (by omega), HS0.out.2.2.2.below hB1 (by omega)⟩)
    have hs1 : w.heap.size + 3 ≤ w1.heap.size := Nat.le_trans hs0 hB1.size
    clear hB1 HS0 hs0 HCH
    have HFX := (show Hid (Brow (setN (setN w1 (w.heap.size + 1) (.bool false) (.slice none 0 0) (.slice none 0 0) (.slice none 0 0)) (w.heap.size + 2) (.bool false) (.slice none 0 0) (.slice none 0 0) (.slice none 0 0)) (w.heap.size + 1) [.bool false, .slice none 0 0, .slice none 0 0, .slice none 0 0] 26) from setN_far (setN_row HS1.out.2.2.1 _ _ _ _) (by omega) _ _ _ _)
    have HFY := (show Hid (Brow (setN (setN w1 (w.heap.size + 1) (.bool false) (.slice none 0 0) (.slice none 0 0) (.slice none 0 0)) (w.heap.size + 2) (.bool false) (.slice none 0 0) (.slice none 0 0) (.slice none 0 0)) (w.heap.size + 2) [.bool false, .slice none 0 0, .slice none 0 0, .slice none 0 0] 26) from setN_row (setN_far HS1.out.2.2.2 (by omega) _ _ _ _) _ _ _ _)
    have HFB := (show Hid (Below w.heap.size w (setN (setN w1 (w.heap.size + 1) (.bool false) (.slice none 0 0) (.slice none 0 0) (.slice none 0 0)) (w.heap.size + 2) (.bool false) (.slice none 0 0) (.slice none 0 0) (.slice none 0 0))) from setN_below (setN_below HS1.out.1 (by omega) _ _ _ _) (by omega) _ _ _ _)
    have HYA := (show Hid (Brow (setN w1 (w.heap.size + 1) (.bool false) (.slice none 0 0) (.slice none 0 0) (.slice none 0 0)) (w.heap.size + 2) [.bool false, .slice none 0 0, .slice none 0 0, .slice none 0 0] 26) from setN_far HS1.out.2.2.2 (by omega) _ _ _ _)
    have q0 := HS1.out.2.1.at 0 _ rfl
    have q1 := HS1.out.2.1.at 1 _ rfl
    have q2 := HS1.out.2.1.at 2 _ rfl
    have q3 := HS1.out.2.1.at 3 _ rfl
    have y_0 := HS1.out.2.2.1.at 0 _ rfl
    have y_1 := HS1.out.2.2.1.at 1 _ rfl
    have y_2 := HS1.out.2.2.1.at 2 _ rfl
    have y_3 := HS1.out.2.2.1.at 3 _ rfl
    have z_0 := HS1.out.2.2.1.fz 0
    have z_1 := HS1.out.2.2.1.fz 1
    have z_2 := HS1.out.2.2.1.fz 2
    have z_3 := HS1.out.2.2.1.fz 3
    have u_0 := HYA.out.at 0 _ rfl
    have u_1 := HYA.out.at 1 _ rfl
    have u_2 := HYA.out.at 2 _ rfl
    have u_3 := HYA.out.at 3 _ rfl
    have v_0 := HYA.out.fz 0
    have v_1 := HYA.out.fz 1
    have v_2 := HYA.out.fz 2
    have v_3 := HYA.out.fz 3
    unfold setN at *
    go_wp2
    refine bodyPost_ret (res_cctt rfl _ _ (w.heap.size + 1) (w.heap.size + 2) 26 _ _ _ rfl HFX.out rfl HFY.out Try.underlying26 rfl (by kernel_rfl) (by kernel_rfl)) rfl ?_
    exact HNO.out _ _ HOK.out rfl HFB.out
  · rw [hm] at HCH
    simp only [if_true] at HCH
    rw [hz] at hL hR
    clear hm hz
    cases lf with
    | true =>
      have hl := hL rfl
      have d1 : (cs.length : Int) < 2 := by omega
      have d2 : decide ((cs.length : Int) < 2) = true := decide_eq_true d1
      have d3 : cs.length < 2 := by omega
      clear hL hR hl
      have HS0 := (show Hid (Below w.heap.size w (((w.alloc (.cells #[.bool true, .slice a1 cs.length c1, .slice a2 ks.length c2, .slice a3 ds.length c3] 26)).alloc (.cells #[.bool false, .slice none 0 0, .slice none 0 0, .slice none 0 0] 26)).alloc (.cells #[.bool false, .slice none 0 0, .slice none 0 0, .slice none 0 0] 26)) ∧ Brow (((w.alloc (.cells #[.bool true, .slice a1 cs.length c1, .slice a2 ks.length c2, .slice a3 ds.length c3] 26)).alloc (.cells #[.bool false, .slice none 0 0, .slice none 0 0, .slice none 0 0] 26)).alloc (.cells #[.bool false, .slice none 0 0, .slice none 0 0, .slice none 0 0] 26)) w.heap.size [.bool true, .slice a1 cs.length c1, .slice a2 ks.length c2, .slice a3 ds.length c3] 26 ∧ Brow (((w.alloc (.cells #[.bool true, .slice a1 cs.length c1, .slice a2 ks.length c2, .slice a3 ds.length c3] 26)).alloc (.cells #[.bool false, .slice none 0 0, .slice none 0 0, .slice none 0 0] 26)).alloc (.cells #[.bool false, .slice none 0 0, .slice none 0 0, .slice none 0 0] 26)) (w.heap.size + 1) [.bool false, .slice none 0 0, .slice none 0 0, .slice none 0 0] 26 ∧ Brow (((w.alloc (.cells #[.bool true, .slice a1 cs.length c1, .slice a2 ks.length c2, .slice a3 ds.length c3] 26)).alloc (.cells #[.bool false, .slice none 0 0, .slice none 0 0, .slice none 0 0] 26)).alloc (.cells #[.bool false, .slice none 0 0, .slice none 0 0, .slice none 0 0] 26)) (w.heap.size + 2) [.bool false, .slice none 0 0, .slice none 0 0, .slice none 0 0] 26) from ⟨((below_alloc _ _).alloc (by rw [size_alloc1]; omega) _).alloc (by rw [size_alloc1, size_alloc1]; omega) _, ((Brow.new w [.bool true, .slice a1 cs.length c1, .slice a2 ks.length c2, .slice a3 ds.length c3] 26).alloc _).alloc _, by
        have := (Brow.new (w.alloc (.cells #[.bool true, .slice a1 cs.length c1, .slice a2 ks.length c2, .slice a3 ds.length c3] 26)) [.bool false, .slice none 0 0, .slice none 0 0, .slice none 0 0] 26).alloc (.cells #[.bool false, .slice none 0 0, .slice none 0 0, .slice none 0 0] 26)
        rwa [size_alloc1] at this, by
        have := Brow.new ((w.alloc (.cells #[.bool true, .slice a1 cs.length c1, .slice a2 ks.length c2, .slice a3 ds.length c3] 26)).alloc (.cells #[.bool false, .slice none 0 0, .slice none 0 0, .slice none 0 0] 26)) [.bool false, .slice none 0 0, .slice none 0 0, .slice none 0 0] 26
        rwa [size_alloc1, size_alloc1] at this⟩)
      have hs0 : w.heap.size + 3 ≤ (((w.alloc (.cells #[.bool true, .slice a1 cs.length c1, .slice a2 ks.length c2, .slice a3 ds.length c3] 26)).alloc (.cells #[.bool false, .slice none 0 0, .slice none 0 0, .slice none 0 0] 26)).alloc (.cells #[.bool false, .slice none 0 0, .slice none 0 0, .slice none 0 0] 26)).heap.size := by rw [size_alloc1, size_alloc1, size_alloc1]; omega
      go_enter Try.func20, Try.ntmps20
      go_wp2_with fail
      refine (HCH _ HS0.out.1).mono ?_
      rintro e w1 ⟨rfl, hB1⟩
      have HS1 := (show Hid (Below w.heap.size w w1 ∧ Brow w1 w.heap.size [.bool true, .slice a1 cs.length c1, .slice a2 ks.length c2, .slice a3 ds.length c3] 26 ∧ Brow w1 (w.heap.size + 1) [.bool false, .slice none 0 0, .slice none 0 0, .slice none 0 0] 26 ∧ Brow w1 (w.heap.size + 2) [.bool false, .slice none 0 0, .slice none 0 0, .slice none 0 0] 26) from ⟨HS0.out.1.trans (hB1.mono (by omega)), HS0.out.2.1.below hB1 (by omega), HS0.out.2.2.1.below hB1 (by omega), HS0.out.2.2.2.below hB1 (by omega)⟩)
      have hs1 : w.heap.size + 3 ≤ w1.heap.size := Nat.le_trans hs0 hB1.size
      clear hB1 HS0 hs0 HCH
      have HFX := (show Hid (Brow (setN (setN w1 (w.heap.size + 1) (.bool false) (.slice none 0 0) (.slice none 0 0) (.slice none 0 0)) (w.heap.size + 2) (.bool false) (.slice none 0 0) (.slice none 0 0) (.slice none 0 0)) (w.heap.size + 1) [.bool false, .slice none 0 0, .slice none 0 0, .slice none 0 0] 26) from setN_far (setN_row HS1.out.2.2.1 _ _ _ _) (by omega) _ _ _ _)
      have HFY := (show Hid (Brow (setN (setN w1 (w.heap.size + 1) (.bool false) (.slice none 0 0) (.slice none 0 0) (.slice none 0 0)) (w.heap.size + 2) (.bool false) (.slice none 0 0) (.slice none 0 0) (.slice none 0 0)) (w.heap.size + 2) [.bool false, .slice none 0 0, .slice none 0 0, .slice none 0 0] 26) from setN_row (setN_far HS1.out.2.2.2 (by omega) _ _ _ _) _ _ _ _)
      have HFB := (show Hid (Below w.heap.size w (setN (setN w1 (w.heap.size + 1) (.bool false) (.slice none 0 0) (.slice none 0 0) (.slice none 0 0)) (w.heap.size + 2) (.bool false) (.slice none 0 0) (.slice none 0 0) (.slice none 0 0))) from setN_below (setN_below HS1.out.1 (by omega) _ _ _ _) (by omega) _ _ _ _)
      have HYA := (show Hid (Brow (setN w1 (w.heap.size + 1) (.bool false) (.slice none 0 0) (.slice none 0 0) (.slice none 0 0)) (w.heap.size + 2) [.bool false, .slice none 0 0, .slice none 0 0, .slice none 0 0] 26) from setN_far HS1.out.2.2.2 (by omega) _ _ _ _)
      have q0 := HS1.out.2.1.at 0 _ rfl
      have q1 := HS1.out.2.1.at 1 _ rfl
      have q2 := HS1.out.2.1.at 2 _ rfl
      have q3 := HS1.out.2.1.at 3 _ rfl
      have y_0 := HS1.out.2.2.1.at 0 _ rfl
      have y_1 := HS1.out.2.2.1.at 1 _ rfl
      have y_2 := HS1.out.2.2.1.at 2 _ rfl
      have y_3 := HS1.out.2.2.1.at 3 _ rfl
      have z_0 := HS1.out.2.2.1.fz 0
      have z_1 := HS1.out.2.2.1.fz 1
      have z_2 := HS1.out.2.2.1.fz 2
      have z_3 := HS1.out.2.2.1.fz 3
      have u_0 := HYA.out.at 0 _ rfl
      have u_1 := HYA.out.at 1 _ rfl
      have u_2 := HYA.out.at 2 _ rfl
      have u_3 := HYA.out.at 3 _ rfl
      have v_0 := HYA.out.fz 0
      have v_1 := HYA.out.fz 1
      have v_2 := HYA.out.fz 2
      have v_3 := HYA.out.fz 3
      unfold setN at *
      go_wp2
      refine bodyPost_ret (res_cctt rfl _ _ (w.heap.size + 1) (w.heap.size + 2) 26 _ _ _ rfl HFX.out rfl HFY.out Try.underlying26 rfl (by kernel_rfl) (by kernel_rfl)) rfl ?_
      exact HNO.out _ _ HOK.out rfl HFB.out
    | false =>
      have hl := hR rfl
      have d1 : (ks.length : Int) < 3 := by omega
      have d2 : decide ((ks.length : Int) < 3) = true := decide_eq_true d1
      have d3 : ks.length < 3 := by omega
      clear hL hR hl
      have HS0 := (show Hid (Below w.heap.size w (((w.alloc (.cells #[.bool false, .slice a1 cs.length c1, .slice a2 ks.length c2, .slice a3 ds.length c3] 26)).alloc (.cells #[.bool false, .slice none 0 0, .slice none 0 0, .slice none 0 0] 26)).alloc (.cells #[.bool false, .slice none 0 0, .slice none 0 0, .slice none 0 0] 26)) ∧ Brow (((w.alloc (.cells #[.bool false, .slice a1 cs.length c1, .slice a2 ks.length c2, .slice a3 ds.length c3] 26)).alloc (.cells #[.bool false, .slice none 0 0, .slice none 0 0, .slice none 0 0] 26)).alloc (.cells #[.bool false, .slice none 0 0, .slice none 0 0, .slice none 0 0] 26)) w.heap.size [.bool false, .slice a1 cs.length c1, .slice a2 ks.length c2, .slice a3 ds.length c3] 26 ∧ Brow (((w.alloc (.cells #[.bool false, .slice a1 cs.length c1, .slice a2 ks.length c2, .slice a3 ds.length c3] 26)).alloc (.cells #[.bool false, .slice none 0 0, .slice none 0 0, .slice none 0 0] 26)).alloc (.cells #[.bool false, .slice none 0 0, .slice none 0 0, .slice none 0 0] 26)) (w.heap.size + 1) [.bool false, .slice none 0 0, .slice none 0 0, .slice none 0 0] 26 ∧ Brow (((w.alloc (.cells #[.bool false, .slice a1 cs.length c1, .slice a2 ks.length c2, .slice a3 ds.length c3] 26)).alloc (.cells #[.bool false, .slice none 0 0, .slice none 0 0, .slice none 0 0] 26)).alloc (.cells #[.bool false, .slice none 0 0, .slice none 0 0, .slice none 0 0] 26)) (w.heap.size + 2) [.bool false, .slice none 0 0, .slice none 0 0, .slice none 0 0] 26) from ⟨((below_alloc _ _).alloc (by rw [size_alloc1]; omega) _).alloc (by rw [size_alloc1, size_alloc1]; omega) _, ((Brow.new w [.bool false, .slice a1 cs.length c1, .slice a2 ks.length c2, .slice a3 ds.length c3] 26).alloc _).alloc _, by
        have := (Brow.new (w.alloc (.cells #[.bool false, .slice a1 cs.length c1, .slice a2 ks.length c2, .slice a3 ds.length c3] 26)) [.bool false, .slice none 0 0, .slice none 0 0, .slice none 0 0] 26).alloc (.cells #[.bool false, .slice none 0 0, .slice none 0 0, .slice none 0 0] 26)
        rwa [size_alloc1] at this, by
        have := Brow.new ((w.alloc (.cells #[.bool false, .slice a1 cs.length c1, .slice a2 ks.length c2, .slice a3 ds.length c3] 26)).alloc (.cells #[.bool false, .slice none 0 0, .slice none 0 0, .slice none 0 0] 26)) [.bool false, .slice none 0 0, .slice none 0 0, .slice none 0 0] 26
        rwa [size_alloc1, size_alloc1] at this⟩)
      have hs0 : w.heap.size + 3 ≤ (((w.alloc (.cells #[.bool false, .slice a1 cs.length c1, .slice a2 ks.length c2, .slice a3 ds.length c3] 26)).alloc (.cells #[.bool false, .slice none 0 0, .slice none 0 0, .slice none 0 0] 26)).alloc (.cells #[.bool false, .slice none 0 0, .slice none 0 0, .slice none 0 0] 26)).heap.size := by rw [size_alloc1, size_alloc1, size_alloc1]; omega
      go_enter Try.func20, Try.ntmps20
      go_wp2_with fail
      refine (HCH _ HS0.out.1).mono ?_
      rintro e w1 ⟨rfl, hB1⟩
      have HS1 := (show Hid (Below w.heap.size w w1 ∧ Brow w1 w.heap.size [.bool false, .slice a1 cs.length c1, .slice a2 ks.length c2, .slice a3 ds.length c3] 26 ∧ Brow w1 (w.heap.size + 1) [.bool false, .slice none 0 0, .slice none 0 0, .slice none 0 0] 26 ∧ Brow w1 (w.heap.size + 2) [.bool false, .slice none 0 0, .slice none 0 0, .slice none 0 0] 26) from ⟨HS0.out.1.trans (hB1.mono (by omega)), HS0.out.2.1.below hB1 (by omega), HS0.out.2.2.1.below hB1 (by omega), HS0.out.2.2.2.below hB1 (by omega)⟩)
      have hs1 : w.heap.size + 3 ≤ w1.heap.size := Nat.le_trans hs0 hB1.size
      clear hB1 HS0 hs0 HCH
      have HFX := (show Hid (Brow (setN (setN w1 (w.heap.size + 1) (.bool false) (.slice none 0 0) (.slice none 0 0) (.slice none 0 0)) (w.heap.size + 2) (.bool false) (.slice none 0 0) (.slice none 0 0) (.slice none 0 0)) (w.heap.size + 1) [.bool false, .slice none 0 0, .slice none 0 0, .slice none 0 0] 26) from setN_far (setN_row HS1.out.2.2.1 _ _ _ _) (by omega) _ _ _ _)
      have HFY := (show Hid (Brow (setN (setN w1 (w.heap.size + 1) (.bool false) (.slice none 0 0) (.slice none 0 0) (.slice none 0 0)) (w.heap.size + 2) (.bool false) (.slice none 0 0) (.slice none 0 0) (.slice none 0 0)) (w.heap.size + 2) [.bool false, .slice none 0 0, .slice none 0 0, .slice none 0 0] 26) from setN_row (setN_far HS1.out.2.2.2 (by omega) _ _ _ _) _ _ _ _)
      have HFB := (show Hid (Below w.heap.size w (setN (setN w1 (w.heap.size + 1) (.bool false) (.slice none 0 0) (.slice none 0 0) (.slice none 0 0)) (w.heap.size + 2) (.bool false) (.slice none 0 0) (.slice none 0 0) (.slice none 0 0))) from setN_below (setN_below HS1.out.1 (by omega) _ _ _ _) (by omega) _ _ _ _)
      have HYA := (show Hid (Brow (setN w1 (w.heap.size + 1) (.bool false) (.slice none 0 0) (.slice none 0 0) (.slice none 0 0)) (w.heap.size + 2) [.bool false, .slice none 0 0, .slice none 0 0, .slice none 0 0] 26) from setN_far HS1.out.2.2.2 (by omega) _ _ _ _)
      have q0 := HS1.out.2.1.at 0 _ rfl
      have q1 := HS1.out.2.1.at 1 _ rfl
      have q2 := HS1.out.2.1.at 2 _ rfl
      have q3 := HS1.out.2.1.at 3 _ rfl
      have y_0 := HS1.out.2.2.1.at 0 _ rfl
      have y_1 := HS1.out.2.2.1.at 1 _ rfl
      have y_2 := HS1.out.2.2.1.at 2 _ rfl
      have y_3 := HS1.out.2.2.1.at 3 _ rfl
      have z_0 := HS1.out.2.2.1.fz 0
      have z_1 := HS1.out.2.2.1.fz 1
      have z_2 := HS1.out.2.2.1.fz 2
      have z_3 := HS1.out.2.2.1.fz 3
      have u_0 := HYA.out.at 0 _ rfl
      have u_1 := HYA.out.at 1 _ rfl
      have u_2 := HYA.out.at 2 _ rfl
      have u_3 := HYA.out.at 3 _ rfl
      have v_0 := HYA.out.fz 0
      have v_1 := HYA.out.fz 1
      have v_2 := HYA.out.fz 2
      have v_3 := HYA.out.fz 3
      unfold setN at *
      go_wp2
      refine bodyPost_ret (res_cctt rfl _ _ (w.heap.size + 1) (w.heap.size + 2) 26 _ _ _ rfl HFX.out rfl HFY.out Try.underlying26 rfl (by kernel_rfl) (by kernel_rfl)) rfl ?_
      exact HNO.out _ _ HOK.out rfl HFB.out
end Go.Proofs.Ytoinaplmgffkpaa
