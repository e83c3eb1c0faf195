/- Proved: SlotFinds' walk (stage 11). -/
import Derived.Test.YtoinaplmgffkpaaLBase
import Derived.Test.YtoinaplmgffkpaaRising
import Derived.Test.YtoinaplmgffkpaaRFind
import Derived.Test.YtoinaplmgffkpaaRPut
import Derived.Test.YtoinaplmgffkpaaSame
import Derived.Laws.Cover1
namespace Go.Proofs.Ytoinaplmgffkpaa
open Go.RowKit
open Sl (Cel Nod)
theorem cutB_two (s : ByteArray) : cutB (cutB s) = cutB s := by
  have := cutB_size s
  show (if (cutB s).size ≤ 170 then cutB s else (cutB s).extract 0 170) = _
  rw [if_pos this]
theorem few_two (n : Nod) : fewN (fewN n) = fewN n := by
  unfold fewN
  simp only
  congr 1
  · rw [← List.map_take, List.take_take, Nat.min_self, List.map_map]
    refine List.map_congr_left fun c _ => ?_
    show cutC (cutC c) = cutC c
    unfold cutC
    simp only [cutB_two]
  · rw [← List.map_take, List.take_take, Nat.min_self, List.map_map]
    exact List.map_congr_left fun c _ => cutB_two c
  · rw [List.take_take, Nat.min_self]
set_option maxHeartbeats 8000000 in
set_option maxRecDepth 20000 in
theorem finds_walk (n : Nod) (p : Pt) (c : Cel) (i : Int) (w : World) (hN : Lies w n p) (h0 : In0 n) (hc : CelFit c) :
    Calls Try.prog 3 #[nv n p, cv c, .int .i64 i] w fun e w' => e = .returned (.bool true) ∧ Below w.heap.size w w' := by
  have HFW := fun (W : World) (hW : Below w.heap.size w W) => few_call hN h0 hW
  have hfit := few_fit h0
  have hlen := few_len n
  have hff := few_two n
  clear hN h0
  generalize fewN n = m at *
  obtain ⟨K, HK⟩ : ∃ K, Is K (min c.key.size 170) := ⟨_, ⟨rfl⟩⟩
  have m1 : min (c.key.size : Int) 170 = (K : Int) := by have := HK.eq; omega
  have m2 : (K : Int) ≤ (c.key.size : Int) := by have := HK.eq; omega
  have m3 : (0 : Int) ≤ (K : Int) := by omega
  have hc' : CelFit ⟨c.key.extract 0 K, c.val, c.over, c.len⟩ := ⟨by show (c.key.extract 0 K).size ≤ _; rw [ByteArray.size_extract]; have := HK.eq; omega, hc.val, hc.over, hc.len⟩
  obtain ⟨ck, cx, co, cl⟩ := c
  simp only at m1 m2 hc'
  have hck : ck.size ≤ 9223372036854775807 := Nat.le_trans hc.key (by omega)
  clear hc HK
  have HF2 := fun (q : Pt) (W : World) (h : Lies W m q) => few_any m q W h (fun c hc => ⟨Nat.le_trans (hfit.cells c hc).key (by omega), Nat.le_trans (hfit.cells c hc).val (by omega)⟩) (fun k hk => Nat.le_trans (hfit.keys k hk) (by omega))
  rw [hff] at HF2
  clear hff
  have HRI := fun (q : Pt) (W : World) (h : Lies W m q) => rising_any m q W h hfit.l1 hfit.l2
  have hfp : Fit (putN m ⟨ck.extract 0 K, cx, co, cl⟩) := putN_fit hfit hc' (by omega)
  have hfc : Fit (cutN m i) := cutN_fit (i := i) hfit
  have HFN := fun (q : Pt) (W : World) (h : Lies W m q) => find_any m q (ck.extract 0 K) W h hfit
  have HPU := fun (q : Pt) (W : World) (h : Lies W m q) => put_any m q ⟨ck.extract 0 K, cx, co, cl⟩ W h hfit hc' (by omega)
  have HCU := fun (q : Pt) (W : World) (h : Lies W m q) => cut_any m q i W h hfit
  have HRF := fun (hr : Sl.rise m.keys = true) (q : Pt) (W : World) (h : Lies W m q) => rfind_any m q (ck.extract 0 K) W h hfit.l1 hfit.l2 hr
  have HRP := fun (hr : Sl.rise (m.cells.map Cel.key) = true) (q : Pt) (W : World) (h : Lies W m q) => rput_any m q ⟨ck.extract 0 K, cx, co, cl⟩ W h (by omega) hr
  have HRC := fun (q : Pt) (W : World) (h : Lies W m q) => rcut_any m q i W h hfit.l1
  have HSM := fun (q q' : Pt) (W : World) (h : Lies W m q) (h' : Lies W m q') => same_yes m q q' W h h' hfit.l1 hfit.l2 hfit.l3
  have HSP := fun (q q' : Pt) (W : World) (h : Lies W (putN m ⟨ck.extract 0 K, cx, co, cl⟩) q) (h' : Lies W (putN m ⟨ck.extract 0 K, cx, co, cl⟩) q') => same_yes _ q q' W h h' hfp.l1 hfp.l2 hfp.l3
  have HSQ := fun (q q' : Pt) (W : World) (h : Lies W (cutN m i) q) (h' : Lies W (cutN m i) q') => same_yes _ q q' W h h' hfc.l1 hfc.l2 hfc.l3
  have hml : m.cells.length ≤ 20 := hlen.1
  clear hfit hfp hfc hlen hc'
  generalize putN m ⟨ck.extract 0 K, cx, co, cl⟩ = u at *
  generalize cutN m i = o at *
  generalize findI m (ck.extract 0 K) = ZI at *
  generalize findB m (ck.extract 0 K) = ZB at *
  obtain ⟨lf, cs, ks, ds⟩ := n
  obtain ⟨a1, c1, a2, c2, a3, c3⟩ := p
  obtain ⟨mf, ms, mk, md⟩ := m
  obtain ⟨uf, us, uk, ud⟩ := u
  obtain ⟨of, os, ok, od⟩ := o
  unfold nv cv at *
  simp only at HFW HF2 HRI HFN HPU HCU HRF HRP HRC HSM HSP HSQ hml ⊢
  have HB0 : Hid (Below w.heap.size w ((w.alloc (.cells #[.bool lf, .slice a1 cs.length c1, .slice a2 ks.length c2, .slice a3 ds.length c3] 26)).alloc (.cells #[.string ck, .string cx, .int .i64 co, .int .i64 cl] 28))) := (below_alloc _ _).alloc (by rw [size_alloc1]; omega) _
  have HN0 : Hid (Brow ((w.alloc (.cells #[.bool lf, .slice a1 cs.length c1, .slice a2 ks.length c2, .slice a3 ds.length c3] 26)).alloc (.cells #[.string ck, .string cx, .int .i64 co, .int .i64 cl] 28)) w.heap.size [.bool lf, .slice a1 cs.length c1, .slice a2 ks.length c2, .slice a3 ds.length c3] 26) := (Brow.new w [.bool lf, .slice a1 cs.length c1, .slice a2 ks.length c2, .slice a3 ds.length c3] 26).alloc _
  have HC0 : Hid (Brow ((w.alloc (.cells #[.bool lf, .slice a1 cs.length c1, .slice a2 ks.length c2, .slice a3 ds.length c3] 26)).alloc (.cells #[.string ck, .string cx, .int .i64 co, .int .i64 cl] 28)) (w.heap.size + 1) [.string ck, .string cx, .int .i64 co, .int .i64 cl] 28) := by
    have := Brow.new (w.alloc (.cells #[.bool lf, .slice a1 cs.length c1, .slice a2 ks.length c2, .slice a3 ds.length c3] 26)) [.string ck, .string cx, .int .i64 co, .int .i64 cl] 28
    rwa [size_alloc1] at this
  have hs0 : w.heap.size + 2 ≤ ((w.alloc (.cells #[.bool lf, .slice a1 cs.length c1, .slice a2 ks.length c2, .slice a3 ds.length c3] 26)).alloc (.cells #[.string ck, .string cx, .int .i64 co, .int .i64 cl] 28)).heap.size := by rw [size_alloc1, size_alloc1]; omega
  go_enter Try.func3, Try.ntmps3
  go_wp2_with fail
  refine (HFW _ HB0.out).mono ?_
  rintro e w1 ⟨⟨e1, f1, e2, f2, e3, f3⟩, rfl, hL1, hB1⟩
  have HB1 : Hid (Below w.heap.size w w1) := HB0.out.trans (hB1.mono (by omega))
  have HN1 : Hid (Brow w1 w.heap.size [.bool lf, .slice a1 cs.length c1, .slice a2 ks.length c2, .slice a3 ds.length c3] 26) := HN0.out.below hB1 (by omega)
  have HC1 : Hid (Brow w1 (w.heap.size + 1) [.string ck, .string cx, .int .i64 co, .int .i64 cl] 28) := HC0.out.below hB1 (by omega)
  have HL1 : Hid (LiesF w1 (w.heap.size + 2) ⟨mf, ms, mk, md⟩ ⟨e1, f1, e2, f2, e3, f3⟩) := hL1.mono hs0
  have hs1 : w.heap.size + 2 ≤ w1.heap.size := Nat.le_trans hs0 hB1.size
  clear hL1 hB1 HB0 HN0 HC0 hs0 HFW
  have HN2 := (show Hid (Brow (setN w1 w.heap.size (.bool mf) (.slice e1 ms.length f1) (.slice e2 mk.length f2) (.slice e3 md.length f3)) w.heap.size [.bool mf, .slice e1 ms.length f1, .slice e2 mk.length f2, .slice e3 md.length f3] 26) from setN_row HN1.out _ _ _ _)
  have HC2 := (show Hid (Brow (setN w1 w.heap.size (.bool mf) (.slice e1 ms.length f1) (.slice e2 mk.length f2) (.slice e3 md.length f3)) (w.heap.size + 1) [.string ck, .string cx, .int .i64 co, .int .i64 cl] 28) from setN_far HC1.out (by omega) _ _ _ _)
  have HL2 := (show Hid (LiesF (setN w1 w.heap.size (.bool mf) (.slice e1 ms.length f1) (.slice e2 mk.length f2) (.slice e3 md.length f3)) (w.heap.size + 2) ⟨mf, ms, mk, md⟩ ⟨e1, f1, e2, f2, e3, f3⟩) from setN_lies HL1.out (by omega) _ _ _ _)
  have HB2 := (show Hid (Below w.heap.size w (setN w1 w.heap.size (.bool mf) (.slice e1 ms.length f1) (.slice e2 mk.length f2) (.slice e3 md.length f3))) from setN_below HB1.out (by omega) _ _ _ _)
  have hs2 : w.heap.size + 2 ≤ (setN w1 w.heap.size (.bool mf) (.slice e1 ms.length f1) (.slice e2 mk.length f2) (.slice e3 md.length f3)).heap.size := by rw [size_setN]; exact hs1
  have x0 := HN1.out.at 0 _ rfl
  have x1 := HN1.out.at 1 _ rfl
  have x2 := HN1.out.at 2 _ rfl
  have x3 := HN1.out.at 3 _ rfl
  have z0 := HN1.out.fz 0
  have z1 := HN1.out.fz 1
  have z2 := HN1.out.fz 2
  have z3 := HN1.out.fz 3
  have q0 := HN2.out.at 0 _ rfl
  have q1 := HN2.out.at 1 _ rfl
  have q2 := HN2.out.at 2 _ rfl
  have q3 := HN2.out.at 3 _ rfl
  clear HN1 HC1 HL1 HB1
  unfold setN at *
  go_upto_region 2 with fail
  generalize ((((w1.setCell ⟨w.heap.size, 0, none⟩ (.bool mf)).setCell ⟨w.heap.size, 1, none⟩ (.slice e1 ms.length f1)).setCell ⟨w.heap.size, 2, none⟩ (.slice e2 mk.length f2)).setCell ⟨w.heap.size, 3, none⟩ (.slice e3 md.length f3)) = w2 at *
  clear x0 x1 x2 x3 z0 z1 z2 z3 q0 q1 q2 q3
  have q0 := HN2.out.at 0 _ rfl
  have q1 := HN2.out.at 1 _ rfl
  have q2 := HN2.out.at 2 _ rfl
  have q3 := HN2.out.at 3 _ rfl
  go_wp2_with fail
  refine (HRI ⟨e1, f1, e2, f2, e3, f3⟩ w2 HL2.out.lies).mono ?_
  rintro e w3 ⟨⟨bb, rfl, hbb, hB3⟩⟩
  have HB3 : Hid (Below w.heap.size w w3) := HB2.out.trans (hB3.mono (by omega))
  have HN3 : Hid (Brow w3 w.heap.size [.bool mf, .slice e1 ms.length f1, .slice e2 mk.length f2, .slice e3 md.length f3] 26) := HN2.out.below hB3 (by omega)
  have HC3 : Hid (Brow w3 (w.heap.size + 1) [.string ck, .string cx, .int .i64 co, .int .i64 cl] 28) := HC2.out.below hB3 (by omega)
  have HL3 : Hid (LiesF w3 (w.heap.size + 2) ⟨mf, ms, mk, md⟩ ⟨e1, f1, e2, f2, e3, f3⟩) := HL2.out.below hB3
  have hs3 : w.heap.size + 2 ≤ w3.heap.size := Nat.le_trans hs2 hB3.size
  clear hB3 HB2 HN2 HC2 HL2 HRI q0 q1 q2 q3 hs2
  have q0 := HN3.out.at 0 _ rfl
  have q1 := HN3.out.at 1 _ rfl
  have q2 := HN3.out.at 2 _ rfl
  have q3 := HN3.out.at 3 _ rfl
  cases bb with
  | false =>
    clear hbb
    go_wp2_with fail
    refine (works_any w3).mono ?_
    rintro e wz ⟨rfl, hBz⟩
    have HBz : Hid (Below w.heap.size w wz) := HB3.out.trans (hBz.mono (by omega))
    clear hBz
    go_wp2
    go_ret
    exact ⟨rfl, HBz.out⟩
  | true =>
    obtain ⟨hr1, hr2⟩ := hbb rfl
    have HRF2 := HRF hr2
    have HRP2 := HRP hr1
    clear hbb hr1 hr2 HRF HRP
    go_wp2_with fail
    refine (HF2 ⟨e1, f1, e2, f2, e3, f3⟩ w3 HL3.out.lies).mono ?_
    rintro e w4 ⟨⟨r1, s1, r2, s2, r3, s3⟩, rfl, hL4, hB4⟩
    have HB4 : Hid (Below w.heap.size w w4) := HB3.out.trans (hB4.mono (by omega))
    have HN4 : Hid (Brow w4 w.heap.size [.bool mf, .slice e1 ms.length f1, .slice e2 mk.length f2, .slice e3 md.length f3] 26) := HN3.out.below hB4 (by omega)
    have HC4 : Hid (Brow w4 (w.heap.size + 1) [.string ck, .string cx, .int .i64 co, .int .i64 cl] 28) := HC3.out.below hB4 (by omega)
    have HL4 : Hid (LiesF w4 (w.heap.size + 2) ⟨mf, ms, mk, md⟩ ⟨e1, f1, e2, f2, e3, f3⟩) := HL3.out.below hB4
    have HW4 : Hid (LiesF w4 (w.heap.size + 2) ⟨mf, ms, mk, md⟩ ⟨r1, s1, r2, s2, r3, s3⟩) := hL4.mono hs3
    have hs4 : w.heap.size + 2 ≤ w4.heap.size := Nat.le_trans hs3 hB4.size
    clear hB4 hL4 HB3 HN3 HC3 HL3 HF2 q0 q1 q2 q3 hs3
    have HB5 := (show Hid (Below w.heap.size w (w4.alloc (.cells #[.bool mf, .slice r1 ms.length s1, .slice r2 mk.length s2, .slice r3 md.length s3] 26))) from HB4.out.alloc (by omega) _)
    have HN5 := (show Hid (Brow (w4.alloc (.cells #[.bool mf, .slice r1 ms.length s1, .slice r2 mk.length s2, .slice r3 md.length s3] 26)) w.heap.size [.bool mf, .slice e1 ms.length f1, .slice e2 mk.length f2, .slice e3 md.length f3] 26) from HN4.out.alloc _)
    have HC5 := (show Hid (Brow (w4.alloc (.cells #[.bool mf, .slice r1 ms.length s1, .slice r2 mk.length s2, .slice r3 md.length s3] 26)) (w.heap.size + 1) [.string ck, .string cx, .int .i64 co, .int .i64 cl] 28) from HC4.out.alloc _)
    have HY5 := (show Hid (Brow (w4.alloc (.cells #[.bool mf, .slice r1 ms.length s1, .slice r2 mk.length s2, .slice r3 md.length s3] 26)) w4.heap.size [.bool mf, .slice r1 ms.length s1, .slice r2 mk.length s2, .slice r3 md.length s3] 26) from Brow.new w4 _ 26)
    have HL5 := (show Hid (LiesF (w4.alloc (.cells #[.bool mf, .slice r1 ms.length s1, .slice r2 mk.length s2, .slice r3 md.length s3] 26)) (w.heap.size + 2) ⟨mf, ms, mk, md⟩ ⟨e1, f1, e2, f2, e3, f3⟩) from HL4.out.below (below_alloc _ _))
    have HW5 := (show Hid (LiesF (w4.alloc (.cells #[.bool mf, .slice r1 ms.length s1, .slice r2 mk.length s2, .slice r3 md.length s3] 26)) (w.heap.size + 2) ⟨mf, ms, mk, md⟩ ⟨r1, s1, r2, s2, r3, s3⟩) from HW4.out.below (below_alloc _ _))
    have hs5 : w4.heap.size + 1 ≤ (w4.alloc (.cells #[.bool mf, .slice r1 ms.length s1, .slice r2 mk.length s2, .slice r3 md.length s3] 26)).heap.size := by rw [size_alloc1]; omega
    clear HB4 HN4 HC4 HL4 HW4
    go_upto_region 5 with fail
    generalize (w4.alloc (.cells #[.bool mf, .slice r1 ms.length s1, .slice r2 mk.length s2, .slice r3 md.length s3] 26)) = w5 at *
    generalize w4.heap.size = Y at *
    have HS6 := (show Hid (Below w.heap.size w (w5.setCell ⟨w.heap.size + 1, 0, none⟩ (.string (ck.extract 0 K))) ∧ (Brow (w5.setCell ⟨w.heap.size + 1, 0, none⟩ (.string (ck.extract 0 K))) w.heap.size [.bool mf, .slice e1 ms.length f1, .slice e2 mk.length f2, .slice e3 md.length f3] 26 ∧ Brow (w5.setCell ⟨w.heap.size + 1, 0, none⟩ (.string (ck.extract 0 K))) (w.heap.size + 1) [.string (ck.extract 0 K), .string cx, .int .i64 co, .int .i64 cl] 28 ∧ Brow (w5.setCell ⟨w.heap.size + 1, 0, none⟩ (.string (ck.extract 0 K))) Y [.bool mf, .slice r1 ms.length s1, .slice r2 mk.length s2, .slice r3 md.length s3] 26) ∧ Lies (w5.setCell ⟨w.heap.size + 1, 0, none⟩ (.string (ck.extract 0 K))) ⟨mf, ms, mk, md⟩ ⟨e1, f1, e2, f2, e3, f3⟩ ∧ Lies (w5.setCell ⟨w.heap.size + 1, 0, none⟩ (.string (ck.extract 0 K))) ⟨mf, ms, mk, md⟩ ⟨r1, s1, r2, s2, r3, s3⟩) from ⟨HB5.out.setCell (by show w.heap.size ≤ w.heap.size + 1; omega) _, ⟨HN5.out.far (by show w.heap.size + 1 ≠ w.heap.size; omega), HC5.out.set 0 _, HY5.out.far (by show w.heap.size + 1 ≠ Y; omega)⟩, (HL5.out.set (by omega) 0 _).lies, (HW5.out.set (by omega) 0 _).lies⟩)
    have hs6 : Y + 1 ≤ (w5.setCell ⟨w.heap.size + 1, 0, none⟩ (.string (ck.extract 0 K))).heap.size := by rw [size_setCell]; exact hs5
    have y0 := HC5.out.at 0 _ rfl
    have yz := HC5.out.fz 0
    clear HB5 HN5 HC5 HY5 HL5 HW5 hs5
    go_upto_region 6 with fail
    generalize (w5.setCell ⟨w.heap.size + 1, 0, none⟩ (.string (ck.extract 0 K))) = w6 at *
    generalize ck.extract 0 K = kk at *
    clear y0 yz m1 m2 m3 hck
    have q0 := HS6.out.2.1.1.at 0 _ rfl
    have q1 := HS6.out.2.1.1.at 1 _ rfl
    have q2 := HS6.out.2.1.1.at 2 _ rfl
    have q3 := HS6.out.2.1.1.at 3 _ rfl
    have y0 := HS6.out.2.1.2.1.at 0 _ rfl
    go_wp2_with fail
    refine (HFN ⟨e1, f1, e2, f2, e3, f3⟩ w6 HS6.out.2.2.1).mono ?_
    rintro e w7 ⟨rfl, hB7⟩
    have HS7 := (show Hid (Below w.heap.size w w7 ∧ (Brow w7 w.heap.size [.bool mf, .slice e1 ms.length f1, .slice e2 mk.length f2, .slice e3 md.length f3] 26 ∧ Brow w7 (w.heap.size + 1) [.string kk, .string cx, .int .i64 co, .int .i64 cl] 28 ∧ Brow w7 Y [.bool mf, .slice r1 ms.length s1, .slice r2 mk.length s2, .slice r3 md.length s3] 26) ∧ Lies w7 ⟨mf, ms, mk, md⟩ ⟨e1, f1, e2, f2, e3, f3⟩ ∧ Lies w7 ⟨mf, ms, mk, md⟩ ⟨r1, s1, r2, s2, r3, s3⟩) from ⟨HS6.out.1.trans (hB7.mono (by omega)), ⟨HS6.out.2.1.1.below hB7 (by omega), HS6.out.2.1.2.1.below hB7 (by omega), HS6.out.2.1.2.2.below hB7 (by omega)⟩, HS6.out.2.2.1.below hB7, HS6.out.2.2.2.below hB7⟩)
    have hs7 : Y + 1 ≤ w7.heap.size := Nat.le_trans hs6 hB7.size
    clear hB7 HS6 HFN q0 q1 q2 q3 y0 hs6
    have q0 := HS7.out.2.1.1.at 0 _ rfl
    have q1 := HS7.out.2.1.1.at 1 _ rfl
    have q2 := HS7.out.2.1.1.at 2 _ rfl
    have q3 := HS7.out.2.1.1.at 3 _ rfl
    have y0 := HS7.out.2.1.2.1.at 0 _ rfl
    go_wp2_with fail
    refine (HRF2 ⟨e1, f1, e2, f2, e3, f3⟩ w7 HS7.out.2.2.1).mono ?_
    rintro e w8 ⟨rfl, hB8⟩
    have HS8 := (show Hid (Below w.heap.size w w8 ∧ (Brow w8 w.heap.size [.bool mf, .slice e1 ms.length f1, .slice e2 mk.length f2, .slice e3 md.length f3] 26 ∧ Brow w8 (w.heap.size + 1) [.string kk, .string cx, .int .i64 co, .int .i64 cl] 28 ∧ Brow w8 Y [.bool mf, .slice r1 ms.length s1, .slice r2 mk.length s2, .slice r3 md.length s3] 26) ∧ Lies w8 ⟨mf, ms, mk, md⟩ ⟨e1, f1, e2, f2, e3, f3⟩ ∧ Lies w8 ⟨mf, ms, mk, md⟩ ⟨r1, s1, r2, s2, r3, s3⟩) from ⟨HS7.out.1.trans (hB8.mono (by omega)), ⟨HS7.out.2.1.1.below hB8 (by omega), HS7.out.2.1.2.1.below hB8 (by omega), HS7.out.2.1.2.2.below hB8 (by omega)⟩, HS7.out.2.2.1.below hB8, HS7.out.2.2.2.below hB8⟩)
    have hs8 : Y + 1 ≤ w8.heap.size := Nat.le_trans hs7 hB8.size
    clear hB8 HS7 HRF2 q0 q1 q2 q3 y0 hs7
    go_upto_region 8 with fail
    have HS9 := (show Hid (Below w.heap.size w w8.drew ∧ (Brow w8.drew w.heap.size [.bool mf, .slice e1 ms.length f1, .slice e2 mk.length f2, .slice e3 md.length f3] 26 ∧ Brow w8.drew (w.heap.size + 1) [.string kk, .string cx, .int .i64 co, .int .i64 cl] 28 ∧ Brow w8.drew Y [.bool mf, .slice r1 ms.length s1, .slice r2 mk.length s2, .slice r3 md.length s3] 26) ∧ Lies w8.drew ⟨mf, ms, mk, md⟩ ⟨e1, f1, e2, f2, e3, f3⟩ ∧ Lies w8.drew ⟨mf, ms, mk, md⟩ ⟨r1, s1, r2, s2, r3, s3⟩) from ⟨HS8.out.1.drew, ⟨HS8.out.2.1.1.drew, HS8.out.2.1.2.1.drew, HS8.out.2.1.2.2.drew⟩, HS8.out.2.2.1.below (Below.refl _ _).drew, HS8.out.2.2.2.below (Below.refl _ _).drew⟩)
    have hs9 : Y + 1 ≤ w8.drew.heap.size := hs8
    refine wp_region_held_drew (S := (fun W : World => Brow W w.heap.size [.bool mf, .slice e1 ms.length f1, .slice e2 mk.length f2, .slice e3 md.length f3] 26 ∧ Brow W (w.heap.size + 1) [.string kk, .string cx, .int .i64 co, .int .i64 cl] 28 ∧ Brow W Y [.bool mf, .slice r1 ms.length s1, .slice r2 mk.length s2, .slice r3 md.length s3] 26)) (by kernel_rfl) HS9.out.2.1 (fun _ => ?_)
    generalize w8.drew = w9 at *
    clear HS8 hs8
    refine heldTake 0 (some 42) (.int .i64 (ZI : Int)) rfl rfl (by kernel_rfl) (by kernel_rfl) (by kernel_rfl) (fun _ _ _ h => h) (Or.inl ⟨by rfl, fun w hS => ?_⟩) HS9.out.2.1 ?_
    · (go_simp)
    simp only [Act.put, List.setIfInBounds_toArray, List.set_cons_zero, List.set_cons_succ]
    refine heldTake 1 (some 43) (.int .i64 (ZI : Int)) rfl rfl (by kernel_rfl) (by kernel_rfl) (by kernel_rfl) (fun _ _ _ h => h) (Or.inl ⟨by rfl, fun w hS => ?_⟩) HS9.out.2.1 ?_
    · (go_simp)
    simp only [Act.put, List.setIfInBounds_toArray, List.set_cons_zero, List.set_cons_succ]
    refine heldTake 2 (some 44) (.bool true) rfl rfl (by kernel_rfl) (by kernel_rfl) (by kernel_rfl) (fun _ _ _ h => h) (Or.inl ⟨by rfl, fun w hS => ?_⟩) HS9.out.2.1 ?_
    · (go_simp)
    simp only [Act.put, List.setIfInBounds_toArray, List.set_cons_zero, List.set_cons_succ]
    refine heldTake 3 (some 45) (.bool true) rfl rfl (by kernel_rfl) (by kernel_rfl) (by kernel_rfl) (fun _ _ _ h => h) (Or.inl ⟨by rfl, fun w hS => ?_⟩) HS9.out.2.1 ?_
    · (go_simp)
    simp only [Act.put, List.setIfInBounds_toArray, List.set_cons_zero, List.set_cons_succ]
    refine heldTake 4 (some 46) (.bool ZB) rfl rfl (by kernel_rfl) (by kernel_rfl) (by kernel_rfl) (fun _ _ _ h => h) (Or.inl ⟨by rfl, fun w hS => ?_⟩) HS9.out.2.1 ?_
    · (go_simp)
    simp only [Act.put, List.setIfInBounds_toArray, List.set_cons_zero, List.set_cons_succ]
    refine heldTake 5 (some 47) (.bool ZB) rfl rfl (by kernel_rfl) (by kernel_rfl) (by kernel_rfl) (fun _ _ _ h => h) (Or.inl ⟨by rfl, fun w hS => ?_⟩) HS9.out.2.1 ?_
    · (go_simp)
    simp only [Act.put, List.setIfInBounds_toArray, List.set_cons_zero, List.set_cons_succ]
    refine heldTake 6 (some 48) (.bool true) rfl rfl (by kernel_rfl) (by kernel_rfl) (by kernel_rfl) (fun _ _ _ h => h) (Or.inl ⟨by rfl, fun w hS => ?_⟩) HS9.out.2.1 ?_
    · (go_simp)
    simp only [Act.put, List.setIfInBounds_toArray, List.set_cons_zero, List.set_cons_succ]
    refine heldTake 7 (some 49) (.bool true) rfl rfl (by kernel_rfl) (by kernel_rfl) (by kernel_rfl) (fun _ _ _ h => h) (Or.inl ⟨by rfl, fun w hS => ?_⟩) HS9.out.2.1 ?_
    · (go_simp)
    simp only [Act.put, List.setIfInBounds_toArray, List.set_cons_zero, List.set_cons_succ]
    refine heldTake 8 (some 50) (.bool true) rfl rfl (by kernel_rfl) (by kernel_rfl) (by kernel_rfl) (fun _ _ _ h => h) (Or.inl ⟨by rfl, fun w hS => ?_⟩) HS9.out.2.1 ?_
    · (go_simp)
    simp only [Act.put, List.setIfInBounds_toArray, List.set_cons_zero, List.set_cons_succ]
    refine heldTake 9 (some 51) (.agg #[.bool mf, .slice e1 ms.length f1, .slice e2 mk.length f2, .slice e3 md.length f3]) rfl rfl (by kernel_rfl) (by kernel_rfl) (by kernel_rfl) (fun _ _ _ h => h) (Or.inl ⟨by rfl, fun w hS => ?_⟩) HS9.out.2.1 ?_
    · (have q0 := hS.1.at 0 _ rfl; have q1 := hS.1.at 1 _ rfl; have q2 := hS.1.at 2 _ rfl; have q3 := hS.1.at 3 _ rfl; go_simp)
    simp only [Act.put, List.setIfInBounds_toArray, List.set_cons_zero, List.set_cons_succ]
    refine heldTake 10 (some 52) (.agg #[.string kk, .string cx, .int .i64 co, .int .i64 cl]) rfl rfl (by kernel_rfl) (by kernel_rfl) (by kernel_rfl) (fun _ _ _ h => h) (Or.inl ⟨by rfl, fun w hS => ?_⟩) HS9.out.2.1 ?_
    · (have q0 := hS.2.1.at 0 _ rfl; have q1 := hS.2.1.at 1 _ rfl; have q2 := hS.2.1.at 2 _ rfl; have q3 := hS.2.1.at 3 _ rfl; go_simp)
    simp only [Act.put, List.setIfInBounds_toArray, List.set_cons_zero, List.set_cons_succ]
    refine heldTake 12 (some 54) (.agg #[.bool mf, .slice e1 ms.length f1, .slice e2 mk.length f2, .slice e3 md.length f3]) rfl rfl (by kernel_rfl) (by kernel_rfl) (by kernel_rfl) (fun _ _ _ h => h) (Or.inl ⟨by rfl, fun w hS => ?_⟩) HS9.out.2.1 ?_
    · (have q0 := hS.1.at 0 _ rfl; have q1 := hS.1.at 1 _ rfl; have q2 := hS.1.at 2 _ rfl; have q3 := hS.1.at 3 _ rfl; go_simp)
    simp only [Act.put, List.setIfInBounds_toArray, List.set_cons_zero, List.set_cons_succ]
    refine heldTake 13 (some 55) (.agg #[.string kk, .string cx, .int .i64 co, .int .i64 cl]) rfl rfl (by kernel_rfl) (by kernel_rfl) (by kernel_rfl) (fun _ _ _ h => h) (Or.inl ⟨by rfl, fun w hS => ?_⟩) HS9.out.2.1 ?_
    · (have q0 := hS.2.1.at 0 _ rfl; have q1 := hS.2.1.at 1 _ rfl; have q2 := hS.2.1.at 2 _ rfl; have q3 := hS.2.1.at 3 _ rfl; go_simp)
    simp only [Act.put, List.setIfInBounds_toArray, List.set_cons_zero, List.set_cons_succ]
    refine heldOne 11 (by kernel_rfl) rfl (by rfl) (fun KK hK => ?_)
    go_simp
    go_at_call 15
    refine (HPU ⟨e1, f1, e2, f2, e3, f3⟩ w9 HS9.out.2.2.1).mono ?_
    rintro e wA ⟨⟨g1, h1, g2, h2, g3, h3⟩, rfl, hLA, hBA⟩
    have HSA := (show Hid (Below w.heap.size w wA ∧ (Brow wA w.heap.size [.bool mf, .slice e1 ms.length f1, .slice e2 mk.length f2, .slice e3 md.length f3] 26 ∧ Brow wA (w.heap.size + 1) [.string kk, .string cx, .int .i64 co, .int .i64 cl] 28 ∧ Brow wA Y [.bool mf, .slice r1 ms.length s1, .slice r2 mk.length s2, .slice r3 md.length s3] 26) ∧ Lies wA ⟨mf, ms, mk, md⟩ ⟨e1, f1, e2, f2, e3, f3⟩ ∧ Lies wA ⟨mf, ms, mk, md⟩ ⟨r1, s1, r2, s2, r3, s3⟩) from ⟨HS9.out.1.trans (hBA.mono (by omega)), ⟨HS9.out.2.1.1.below hBA (by omega), HS9.out.2.1.2.1.below hBA (by omega), HS9.out.2.1.2.2.below hBA (by omega)⟩, HS9.out.2.2.1.below hBA, HS9.out.2.2.2.below hBA⟩)
    have hsA : Y + 1 ≤ wA.heap.size := Nat.le_trans hs9 hBA.size
    have HUA := (show Hid (Lies wA ⟨uf, us, uk, ud⟩ ⟨g1, h1, g2, h2, g3, h3⟩) from hLA.lies)
    clear hLA HPU
    clear hBA HS9 hs9
    refine hK.out _ _ HSA.out.2.1 ?_
    clear hK KK
    try simp only
    refine heldOne 14 (by kernel_rfl) rfl (by rfl) (fun KK hK => ?_)
    go_simp
    go_at_call 16
    refine (HRP2 ⟨e1, f1, e2, f2, e3, f3⟩ wA HSA.out.2.2.1).mono ?_
    rintro e wB ⟨⟨d1, l1, d2, l2, d3, l3⟩, rfl, hLB, hBB⟩
    have HSB := (show Hid (Below w.heap.size w wB ∧ (Brow wB w.heap.size [.bool mf, .slice e1 ms.length f1, .slice e2 mk.length f2, .slice e3 md.length f3] 26 ∧ Brow wB (w.heap.size + 1) [.string kk, .string cx, .int .i64 co, .int .i64 cl] 28 ∧ Brow wB Y [.bool mf, .slice r1 ms.length s1, .slice r2 mk.length s2, .slice r3 md.length s3] 26) ∧ Lies wB ⟨mf, ms, mk, md⟩ ⟨e1, f1, e2, f2, e3, f3⟩ ∧ Lies wB ⟨mf, ms, mk, md⟩ ⟨r1, s1, r2, s2, r3, s3⟩) from ⟨HSA.out.1.trans (hBB.mono (by omega)), ⟨HSA.out.2.1.1.below hBB (by omega), HSA.out.2.1.2.1.below hBB (by omega), HSA.out.2.1.2.2.below hBB (by omega)⟩, HSA.out.2.2.1.below hBB, HSA.out.2.2.2.below hBB⟩)
    have hsB : Y + 1 ≤ wB.heap.size := Nat.le_trans hsA hBB.size
    have HUB := (show Hid (Lies wB ⟨uf, us, uk, ud⟩ ⟨g1, h1, g2, h2, g3, h3⟩ ∧ Lies wB ⟨uf, us, uk, ud⟩ ⟨d1, l1, d2, l2, d3, l3⟩) from ⟨HUA.out.below hBB, hLB⟩)
    clear hLB HUA HRP2
    clear hBB HSA hsA
    refine hK.out _ _ HSB.out.2.1 ?_
    clear hK KK
    try simp only
    refine heldOne 15 (by kernel_rfl) rfl (by rfl) (fun KK hK => ?_)
    go_simp
    go_at_call 14
    refine (HSP ⟨g1, h1, g2, h2, g3, h3⟩ ⟨d1, l1, d2, l2, d3, l3⟩ wB HUB.out.1 HUB.out.2).mono ?_
    rintro e wC ⟨rfl, hBC⟩
    have HSC := (show Hid (Below w.heap.size w wC ∧ (Brow wC w.heap.size [.bool mf, .slice e1 ms.length f1, .slice e2 mk.length f2, .slice e3 md.length f3] 26 ∧ Brow wC (w.heap.size + 1) [.string kk, .string cx, .int .i64 co, .int .i64 cl] 28 ∧ Brow wC Y [.bool mf, .slice r1 ms.length s1, .slice r2 mk.length s2, .slice r3 md.length s3] 26) ∧ Lies wC ⟨mf, ms, mk, md⟩ ⟨e1, f1, e2, f2, e3, f3⟩ ∧ Lies wC ⟨mf, ms, mk, md⟩ ⟨r1, s1, r2, s2, r3, s3⟩) from ⟨HSB.out.1.trans (hBC.mono (by omega)), ⟨HSB.out.2.1.1.below hBC (by omega), HSB.out.2.1.2.1.below hBC (by omega), HSB.out.2.1.2.2.below hBC (by omega)⟩, HSB.out.2.2.1.below hBC, HSB.out.2.2.2.below hBC⟩)
    have hsC : Y + 1 ≤ wC.heap.size := Nat.le_trans hsB hBC.size
    clear HUB HSP
    clear hBC HSB hsB
    refine hK.out _ _ HSC.out.2.1 ?_
    clear hK KK
    try simp only [Act.put, List.setIfInBounds_toArray, List.set_cons_zero, List.set_cons_succ]
    refine heldTake 16 (some 58) (.bool true) rfl rfl (by kernel_rfl) (by kernel_rfl) (by kernel_rfl) (fun _ _ _ h => h) (Or.inl ⟨by rfl, fun w hS => ?_⟩) HSC.out.2.1 ?_
    · (go_simp)
    simp only [Act.put, List.setIfInBounds_toArray, List.set_cons_zero, List.set_cons_succ]
    refine heldTake 17 (some 59) (.bool true) rfl rfl (by kernel_rfl) (by kernel_rfl) (by kernel_rfl) (fun _ _ _ h => h) (Or.inl ⟨by rfl, fun w hS => ?_⟩) HSC.out.2.1 ?_
    · (go_simp)
    simp only [Act.put, List.setIfInBounds_toArray, List.set_cons_zero, List.set_cons_succ]
    refine heldTake 18 (some 60) (.agg #[.bool mf, .slice e1 ms.length f1, .slice e2 mk.length f2, .slice e3 md.length f3]) rfl rfl (by kernel_rfl) (by kernel_rfl) (by kernel_rfl) (fun _ _ _ h => h) (Or.inl ⟨by rfl, fun w hS => ?_⟩) HSC.out.2.1 ?_
    · (have q0 := hS.1.at 0 _ rfl; have q1 := hS.1.at 1 _ rfl; have q2 := hS.1.at 2 _ rfl; have q3 := hS.1.at 3 _ rfl; go_simp)
    simp only [Act.put, List.setIfInBounds_toArray, List.set_cons_zero, List.set_cons_succ]
    refine heldTake 19 (some 61) (.int .i64 i) rfl rfl (by kernel_rfl) (by kernel_rfl) (by kernel_rfl) (fun _ _ _ h => h) (Or.inl ⟨by rfl, fun w hS => ?_⟩) HSC.out.2.1 ?_
    · (go_simp)
    simp only [Act.put, List.setIfInBounds_toArray, List.set_cons_zero, List.set_cons_succ]
    refine heldTake 21 (some 63) (.agg #[.bool mf, .slice e1 ms.length f1, .slice e2 mk.length f2, .slice e3 md.length f3]) rfl rfl (by kernel_rfl) (by kernel_rfl) (by kernel_rfl) (fun _ _ _ h => h) (Or.inl ⟨by rfl, fun w hS => ?_⟩) HSC.out.2.1 ?_
    · (have q0 := hS.1.at 0 _ rfl; have q1 := hS.1.at 1 _ rfl; have q2 := hS.1.at 2 _ rfl; have q3 := hS.1.at 3 _ rfl; go_simp)
    simp only [Act.put, List.setIfInBounds_toArray, List.set_cons_zero, List.set_cons_succ]
    refine heldTake 22 (some 64) (.int .i64 i) rfl rfl (by kernel_rfl) (by kernel_rfl) (by kernel_rfl) (fun _ _ _ h => h) (Or.inl ⟨by rfl, fun w hS => ?_⟩) HSC.out.2.1 ?_
    · (go_simp)
    simp only [Act.put, List.setIfInBounds_toArray, List.set_cons_zero, List.set_cons_succ]
    refine heldOne 20 (by kernel_rfl) rfl (by rfl) (fun KK hK => ?_)
    go_simp
    go_at_call 17
    refine (HCU ⟨e1, f1, e2, f2, e3, f3⟩ wC HSC.out.2.2.1).mono ?_
    rintro e wD ⟨⟨b1, t1, b2, t2, b3, t3⟩, rfl, hLD, hBD⟩
    have HSD := (show Hid (Below w.heap.size w wD ∧ (Brow wD w.heap.size [.bool mf, .slice e1 ms.length f1, .slice e2 mk.length f2, .slice e3 md.length f3] 26 ∧ Brow wD (w.heap.size + 1) [.string kk, .string cx, .int .i64 co, .int .i64 cl] 28 ∧ Brow wD Y [.bool mf, .slice r1 ms.length s1, .slice r2 mk.length s2, .slice r3 md.length s3] 26) ∧ Lies wD ⟨mf, ms, mk, md⟩ ⟨e1, f1, e2, f2, e3, f3⟩ ∧ Lies wD ⟨mf, ms, mk, md⟩ ⟨r1, s1, r2, s2, r3, s3⟩) from ⟨HSC.out.1.trans (hBD.mono (by omega)), ⟨HSC.out.2.1.1.below hBD (by omega), HSC.out.2.1.2.1.below hBD (by omega), HSC.out.2.1.2.2.below hBD (by omega)⟩, HSC.out.2.2.1.below hBD, HSC.out.2.2.2.below hBD⟩)
    have hsD : Y + 1 ≤ wD.heap.size := Nat.le_trans hsC hBD.size
    have HUD := (show Hid (Lies wD ⟨of, os, ok, od⟩ ⟨b1, t1, b2, t2, b3, t3⟩) from hLD.lies)
    clear hLD HCU
    clear hBD HSC hsC
    refine hK.out _ _ HSD.out.2.1 ?_
    clear hK KK
    try simp only
    refine heldOne 23 (by kernel_rfl) rfl (by rfl) (fun KK hK => ?_)
    go_simp
    go_at_call 18
    refine (HRC ⟨e1, f1, e2, f2, e3, f3⟩ wD HSD.out.2.2.1).mono ?_
    rintro e wE ⟨⟨v1, x1, v2, x2, v3, x3⟩, rfl, hLE, hBE⟩
    have HSE := (show Hid (Below w.heap.size w wE ∧ (Brow wE w.heap.size [.bool mf, .slice e1 ms.length f1, .slice e2 mk.length f2, .slice e3 md.length f3] 26 ∧ Brow wE (w.heap.size + 1) [.string kk, .string cx, .int .i64 co, .int .i64 cl] 28 ∧ Brow wE Y [.bool mf, .slice r1 ms.length s1, .slice r2 mk.length s2, .slice r3 md.length s3] 26) ∧ Lies wE ⟨mf, ms, mk, md⟩ ⟨e1, f1, e2, f2, e3, f3⟩ ∧ Lies wE ⟨mf, ms, mk, md⟩ ⟨r1, s1, r2, s2, r3, s3⟩) from ⟨HSD.out.1.trans (hBE.mono (by omega)), ⟨HSD.out.2.1.1.below hBE (by omega), HSD.out.2.1.2.1.below hBE (by omega), HSD.out.2.1.2.2.below hBE (by omega)⟩, HSD.out.2.2.1.below hBE, HSD.out.2.2.2.below hBE⟩)
    have hsE : Y + 1 ≤ wE.heap.size := Nat.le_trans hsD hBE.size
    have HUE := (show Hid (Lies wE ⟨of, os, ok, od⟩ ⟨b1, t1, b2, t2, b3, t3⟩ ∧ Lies wE ⟨of, os, ok, od⟩ ⟨v1, x1, v2, x2, v3, x3⟩) from ⟨HUD.out.below hBE, hLE⟩)
    clear hLE HUD HRC
    clear hBE HSD hsD
    refine hK.out _ _ HSE.out.2.1 ?_
    clear hK KK
    try simp only
    refine heldOne 24 (by kernel_rfl) rfl (by rfl) (fun KK hK => ?_)
    go_simp
    go_at_call 14
    refine (HSQ ⟨b1, t1, b2, t2, b3, t3⟩ ⟨v1, x1, v2, x2, v3, x3⟩ wE HUE.out.1 HUE.out.2).mono ?_
    rintro e wF ⟨rfl, hBF⟩
    have HSF := (show Hid (Below w.heap.size w wF ∧ (Brow wF w.heap.size [.bool mf, .slice e1 ms.length f1, .slice e2 mk.length f2, .slice e3 md.length f3] 26 ∧ Brow wF (w.heap.size + 1) [.string kk, .string cx, .int .i64 co, .int .i64 cl] 28 ∧ Brow wF Y [.bool mf, .slice r1 ms.length s1, .slice r2 mk.length s2, .slice r3 md.length s3] 26) ∧ Lies wF ⟨mf, ms, mk, md⟩ ⟨e1, f1, e2, f2, e3, f3⟩ ∧ Lies wF ⟨mf, ms, mk, md⟩ ⟨r1, s1, r2, s2, r3, s3⟩) from ⟨HSE.out.1.trans (hBF.mono (by omega)), ⟨HSE.out.2.1.1.below hBF (by omega), HSE.out.2.1.2.1.below hBF (by omega), HSE.out.2.1.2.2.below hBF (by omega)⟩, HSE.out.2.2.1.below hBF, HSE.out.2.2.2.below hBF⟩)
    have hsF : Y + 1 ≤ wF.heap.size := Nat.le_trans hsE hBF.size
    clear HUE HSQ
    clear hBF HSE hsE
    refine hK.out _ _ HSF.out.2.1 ?_
    clear hK KK
    try simp only [Act.put, List.setIfInBounds_toArray, List.set_cons_zero, List.set_cons_succ]
    refine heldTake 25 (some 67) (.bool true) rfl rfl (by kernel_rfl) (by kernel_rfl) (by kernel_rfl) (fun _ _ _ h => h) (Or.inl ⟨by rfl, fun w hS => ?_⟩) HSF.out.2.1 ?_
    · (go_simp)
    simp only [Act.put, List.setIfInBounds_toArray, List.set_cons_zero, List.set_cons_succ]
    refine heldTake 26 (some 68) (.bool true) rfl rfl (by kernel_rfl) (by kernel_rfl) (by kernel_rfl) (fun _ _ _ h => h) (Or.inl ⟨by rfl, fun w hS => ?_⟩) HSF.out.2.1 ?_
    · (go_simp)
    simp only [Act.put, List.setIfInBounds_toArray, List.set_cons_zero, List.set_cons_succ]
    refine heldTake 27 (some 69) (.agg #[.bool mf, .slice e1 ms.length f1, .slice e2 mk.length f2, .slice e3 md.length f3]) rfl rfl (by kernel_rfl) (by kernel_rfl) (by kernel_rfl) (fun _ _ _ h => h) (Or.inl ⟨by rfl, fun w hS => ?_⟩) HSF.out.2.1 ?_
    · (have q0 := hS.1.at 0 _ rfl; have q1 := hS.1.at 1 _ rfl; have q2 := hS.1.at 2 _ rfl; have q3 := hS.1.at 3 _ rfl; go_simp)
    simp only [Act.put, List.setIfInBounds_toArray, List.set_cons_zero, List.set_cons_succ]
    refine heldTake 28 (some 70) (.agg #[.bool mf, .slice r1 ms.length s1, .slice r2 mk.length s2, .slice r3 md.length s3]) rfl rfl (by kernel_rfl) (by kernel_rfl) (by kernel_rfl) (fun _ _ _ h => h) (Or.inl ⟨by rfl, fun w hS => ?_⟩) HSF.out.2.1 ?_
    · (have q0 := hS.2.2.at 0 _ rfl; have q1 := hS.2.2.at 1 _ rfl; have q2 := hS.2.2.at 2 _ rfl; have q3 := hS.2.2.at 3 _ rfl; go_simp)
    simp only [Act.put, List.setIfInBounds_toArray, List.set_cons_zero, List.set_cons_succ]
    refine heldOne 29 (by kernel_rfl) rfl (by rfl) (fun KK hK => ?_)
    go_simp
    go_at_call 14
    refine (HSM ⟨e1, f1, e2, f2, e3, f3⟩ ⟨r1, s1, r2, s2, r3, s3⟩ wF HSF.out.2.2.1 HSF.out.2.2.2).mono ?_
    rintro e wG ⟨rfl, hBG⟩
    have HSG := (show Hid (Below w.heap.size w wG ∧ (Brow wG w.heap.size [.bool mf, .slice e1 ms.length f1, .slice e2 mk.length f2, .slice e3 md.length f3] 26 ∧ Brow wG (w.heap.size + 1) [.string kk, .string cx, .int .i64 co, .int .i64 cl] 28 ∧ Brow wG Y [.bool mf, .slice r1 ms.length s1, .slice r2 mk.length s2, .slice r3 md.length s3] 26) ∧ Lies wG ⟨mf, ms, mk, md⟩ ⟨e1, f1, e2, f2, e3, f3⟩ ∧ Lies wG ⟨mf, ms, mk, md⟩ ⟨r1, s1, r2, s2, r3, s3⟩) from ⟨HSF.out.1.trans (hBG.mono (by omega)), ⟨HSF.out.2.1.1.below hBG (by omega), HSF.out.2.1.2.1.below hBG (by omega), HSF.out.2.1.2.2.below hBG (by omega)⟩, HSF.out.2.2.1.below hBG, HSF.out.2.2.2.below hBG⟩)
    have hsG : Y + 1 ≤ wG.heap.size := Nat.le_trans hsF hBG.size
    clear HSM
    clear hBG HSF hsF
    refine hK.out _ _ HSG.out.2.1 ?_
    clear hK KK
    try simp only [Act.put, List.setIfInBounds_toArray, List.set_cons_zero, List.set_cons_succ]
    refine heldTake 30 (some 72) (.bool true) rfl rfl (by kernel_rfl) (by kernel_rfl) (by kernel_rfl) (fun _ _ _ h => h) (Or.inl ⟨by rfl, fun w hS => ?_⟩) HSG.out.2.1 ?_
    · (go_simp)
    simp only [Act.put, List.setIfInBounds_toArray, List.set_cons_zero, List.set_cons_succ]
    refine heldTake 31 (some 73) (.bool true) rfl rfl (by kernel_rfl) (by kernel_rfl) (by kernel_rfl) (fun _ _ _ h => h) (Or.inl ⟨by rfl, fun w hS => ?_⟩) HSG.out.2.1 ?_
    · (go_simp)
    simp only [Act.put, List.setIfInBounds_toArray, List.set_cons_zero, List.set_cons_succ]
    refine heldOne 32 (by kernel_rfl) rfl (by rfl) (fun KK hK => ?_)
    go_simp
    go_at_call 11
    refine (works_any wG).mono ?_
    rintro e wI ⟨rfl, hBI⟩
    have HSI := (show Hid (Below w.heap.size w wI ∧ (Brow wI w.heap.size [.bool mf, .slice e1 ms.length f1, .slice e2 mk.length f2, .slice e3 md.length f3] 26 ∧ Brow wI (w.heap.size + 1) [.string kk, .string cx, .int .i64 co, .int .i64 cl] 28 ∧ Brow wI Y [.bool mf, .slice r1 ms.length s1, .slice r2 mk.length s2, .slice r3 md.length s3] 26) ∧ Lies wI ⟨mf, ms, mk, md⟩ ⟨e1, f1, e2, f2, e3, f3⟩ ∧ Lies wI ⟨mf, ms, mk, md⟩ ⟨r1, s1, r2, s2, r3, s3⟩) from ⟨HSG.out.1.trans (hBI.mono (by omega)), ⟨HSG.out.2.1.1.below hBI (by omega), HSG.out.2.1.2.1.below hBI (by omega), HSG.out.2.1.2.2.below hBI (by omega)⟩, HSG.out.2.2.1.below hBI, HSG.out.2.2.2.below hBI⟩)
    have hsI : Y + 1 ≤ wI.heap.size := Nat.le_trans hsG hBI.size
    clear hBI HSG hsG
    refine hK.out _ _ HSI.out.2.1 ?_
    clear hK KK
    try simp only [Act.put, List.setIfInBounds_toArray, List.set_cons_zero, List.set_cons_succ]
    refine heldTake 33 (some 75) (.bool true) rfl rfl (by kernel_rfl) (by kernel_rfl) (by kernel_rfl) (fun _ _ _ h => h) (Or.inl ⟨by rfl, fun w hS => ?_⟩) HSI.out.2.1 ?_
    · (go_simp)
    simp only [Act.put, List.setIfInBounds_toArray, List.set_cons_zero, List.set_cons_succ]
    refine heldTake 34 (some 6) (.bool true) rfl rfl (by kernel_rfl) (by kernel_rfl) (by kernel_rfl) (fun _ _ _ h => h) (Or.inl ⟨by rfl, fun w hS => ?_⟩) HSI.out.2.1 ?_
    · (go_simp)
    simp only [Act.put, List.setIfInBounds_toArray, List.set_cons_zero, List.set_cons_succ]
    --MARKZ
    refine wpAnyH_done (by kernel_rfl) ?_ _
    go_wp2
    go_ret
    exact ⟨rfl, HSI.out.1⟩
end Go.Proofs.Ytoinaplmgffkpaa
