/- Proved: SlotPuts' walk (stage 11). -/
import Derived.Test.YtoinaplmgffkpaaLBase
import Derived.Test.YtoinaplmgffkpaaMathP
import Derived.Test.YtoinaplmgffkpaaSame
import Derived.Laws.Cover1
namespace Go.Proofs.Ytoinaplmgffkpaa
open Go.RowKit
open Sl (Cel Nod)
set_option maxHeartbeats 4000000 in
set_option maxRecDepth 20000 in
theorem puts_walk (n : Nod) (p : Pt) (c : Cel) (w : World) (hN : Lies w n p) (h0 : In0 n) (hc : CelFit c) :
    Calls Try.prog 8 #[nv n p, cv c] w fun e w' => e = .returned (.bool true) ∧ Below w.heap.size w w' := by
  have HFW := fun (W : World) (hW : Below w.heap.size w W) => few_call hN h0 hW
  have hfit := few_fit h0
  have hlen := few_len n
  clear hN h0
  generalize fewN n = m at *
  obtain ⟨K, HK⟩ : ∃ K, Is K (min c.key.size 170) := ⟨_, ⟨rfl⟩⟩
  have m1 : min (c.key.size : Int) 170 = (K : Int) := by have := HK.eq; omega
  have m2 : (K : Int) ≤ (c.key.size : Int) := by have := HK.eq; omega
  have m3 : (0 : Int) ≤ (K : Int) := by omega
  have hc' : CelFit ⟨c.key.extract 0 K, c.val, c.over, c.len⟩ := ⟨by show (c.key.extract 0 K).size ≤ _; rw [ByteArray.size_extract]; have := HK.eq; omega, hc.val, hc.over, hc.len⟩
  obtain ⟨ck, cx, co, cl⟩ := c
  simp only at m1 m2 hc'
  have hck : ck.size ≤ 9223372036854775807 := Nat.le_trans hc.key (by omega)
  have HKK := (show Hid (∃ x : Cel, x = ⟨ck.extract 0 K, cx, co, cl⟩ ∧ CelFit x) from ⟨_, rfl, hc'⟩)
  clear hc hc' HK
  obtain ⟨x, hx, hcx⟩ := HKK.out
  clear HKK
  have hfp : Fit (putN m x) := putN_fit hfit hcx (by omega)
  have HCH := fun (q : Pt) (W : World) (h : Lies W m q) => check_any m q W h hfit
  have HPU := fun (q : Pt) (W : World) (h : Lies W m q) => put_any m q x W h hfit hcx (by omega)
  have HFN := fun (q : Pt) (W : World) (h : Lies W m q) => find_any m q x.key W h hfit
  have HFU := fun (q : Pt) (W : World) (h : Lies W (putN m x) q) => find_any (putN m x) q x.key W h hfp
  have HCU := fun (i : Int) (q : Pt) (W : World) (h : Lies W (putN m x) q) => cut_any (putN m x) q i W h hfp
  have HFO := fun (i : Int) (q : Pt) (W : World) (h : Lies W (cutN (putN m x) i) q) => find_any (cutN (putN m x) i) q x.key W h (cutN_fit (i := i) hfp)
  have HSA := fun (q q' : Pt) (W : World) (h : Lies W m q) (h' : Lies W m q') => same_yes m q q' W h h' hfit.l1 hfit.l2 hfit.l3
  have HOK := (show Hid (m.leaf = true → checkE m = 0 → ∃ i, PutsOk m x i) from fun h1 h2 => by
    have h4 : Sl.may m = true := by
      unfold checkE at h2
      split at h2
      · assumption
      · cases h2
    exact puts_ok h1 h4)
  have hml : m.cells.length ≤ 20 := hlen.1
  clear hfit hfp hlen hcx
  generalize checkE m = E5 at *
  obtain ⟨lf, cs, ks, ds⟩ := n
  obtain ⟨a1, c1, a2, c2, a3, c3⟩ := p
  obtain ⟨mf, ms, mk, md⟩ := m
  unfold nv cv at *
  simp only at HFW HCH HPU HFN HSA HOK hml ⊢
  have HB0 : Hid (Below w.heap.size w ((w.alloc (.cells #[.bool lf, .slice a1 cs.length c1, .slice a2 ks.length c2, .slice a3 ds.length c3] 26)).alloc (.cells #[.string ck, .string cx, .int .i64 co, .int .i64 cl] 28))) := (below_alloc _ _).alloc (by rw [size_alloc1]; omega) _
  have HN0 : Hid (Brow ((w.alloc (.cells #[.bool lf, .slice a1 cs.length c1, .slice a2 ks.length c2, .slice a3 ds.length c3] 26)).alloc (.cells #[.string ck, .string cx, .int .i64 co, .int .i64 cl] 28)) w.heap.size [.bool lf, .slice a1 cs.length c1, .slice a2 ks.length c2, .slice a3 ds.length c3] 26) := (Brow.new w [.bool lf, .slice a1 cs.length c1, .slice a2 ks.length c2, .slice a3 ds.length c3] 26).alloc _
  have HC0 : Hid (Brow ((w.alloc (.cells #[.bool lf, .slice a1 cs.length c1, .slice a2 ks.length c2, .slice a3 ds.length c3] 26)).alloc (.cells #[.string ck, .string cx, .int .i64 co, .int .i64 cl] 28)) (w.heap.size + 1) [.string ck, .string cx, .int .i64 co, .int .i64 cl] 28) := by
    have := Brow.new (w.alloc (.cells #[.bool lf, .slice a1 cs.length c1, .slice a2 ks.length c2, .slice a3 ds.length c3] 26)) [.string ck, .string cx, .int .i64 co, .int .i64 cl] 28
    rwa [size_alloc1] at this
  have hs0 : w.heap.size + 2 ≤ ((w.alloc (.cells #[.bool lf, .slice a1 cs.length c1, .slice a2 ks.length c2, .slice a3 ds.length c3] 26)).alloc (.cells #[.string ck, .string cx, .int .i64 co, .int .i64 cl] 28)).heap.size := by rw [size_alloc1, size_alloc1]; omega
  go_enter Try.func8, Try.ntmps8
  go_wp2_with fail
  refine (HFW _ HB0.out).mono ?_
  rintro e w1 ⟨⟨e1, f1, e2, f2, e3, f3⟩, rfl, hL1, hB1⟩
  have HB1 : Hid (Below w.heap.size w w1) := HB0.out.trans (hB1.mono (by omega))
  have HN1 : Hid (Brow w1 w.heap.size [.bool lf, .slice a1 cs.length c1, .slice a2 ks.length c2, .slice a3 ds.length c3] 26) := HN0.out.below hB1 (by omega)
  have HC1 : Hid (Brow w1 (w.heap.size + 1) [.string ck, .string cx, .int .i64 co, .int .i64 cl] 28) := HC0.out.below hB1 (by omega)
  have HL1 : Hid (LiesF w1 (w.heap.size + 2) ⟨mf, ms, mk, md⟩ ⟨e1, f1, e2, f2, e3, f3⟩) := hL1.mono hs0
  have hs1 : w.heap.size + 2 ≤ w1.heap.size := Nat.le_trans hs0 hB1.size
  clear hL1 hB1 HB0 HN0 HC0 hs0 HFW
  have HN2 := (show Hid (Brow (setN w1 w.heap.size (.bool mf) (.slice e1 ms.length f1) (.slice e2 mk.length f2) (.slice e3 md.length f3)) w.heap.size [.bool mf, .slice e1 ms.length f1, .slice e2 mk.length f2, .slice e3 md.length f3] 26) from setN_row HN1.out _ _ _ _)
  have HC2 := (show Hid (Brow (setN w1 w.heap.size (.bool mf) (.slice e1 ms.length f1) (.slice e2 mk.length f2) (.slice e3 md.length f3)) (w.heap.size + 1) [.string ck, .string cx, .int .i64 co, .int .i64 cl] 28) from setN_far HC1.out (by omega) _ _ _ _)
  have HL2 := (show Hid (LiesF (setN w1 w.heap.size (.bool mf) (.slice e1 ms.length f1) (.slice e2 mk.length f2) (.slice e3 md.length f3)) (w.heap.size + 2) ⟨mf, ms, mk, md⟩ ⟨e1, f1, e2, f2, e3, f3⟩) from setN_lies HL1.out (by omega) _ _ _ _)
  have HB2 := (show Hid (Below w.heap.size w (setN w1 w.heap.size (.bool mf) (.slice e1 ms.length f1) (.slice e2 mk.length f2) (.slice e3 md.length f3))) from setN_below HB1.out (by omega) _ _ _ _)
  have hs2 : w.heap.size + 2 ≤ (setN w1 w.heap.size (.bool mf) (.slice e1 ms.length f1) (.slice e2 mk.length f2) (.slice e3 md.length f3)).heap.size := by rw [size_setN]; exact hs1
  have x0 := HN1.out.at 0 _ rfl
  have x1 := HN1.out.at 1 _ rfl
  have x2 := HN1.out.at 2 _ rfl
  have x3 := HN1.out.at 3 _ rfl
  have z0 := HN1.out.fz 0
  have z1 := HN1.out.fz 1
  have z2 := HN1.out.fz 2
  have z3 := HN1.out.fz 3
  have q0 := HN2.out.at 0 _ rfl
  have q1 := HN2.out.at 1 _ rfl
  have q2 := HN2.out.at 2 _ rfl
  have q3 := HN2.out.at 3 _ rfl
  clear HN1 HC1 HL1 HB1
  unfold setN at *
  go_upto_region 2 with fail
  generalize ((((w1.setCell ⟨w.heap.size, 0, none⟩ (.bool mf)).setCell ⟨w.heap.size, 1, none⟩ (.slice e1 ms.length f1)).setCell ⟨w.heap.size, 2, none⟩ (.slice e2 mk.length f2)).setCell ⟨w.heap.size, 3, none⟩ (.slice e3 md.length f3)) = w2 at *
  clear x0 x1 x2 x3 z0 z1 z2 z3 q0 q1 q2 q3
  have HN3 := (show Hid (Brow (w2.setCell ⟨w.heap.size + 1, 0, none⟩ (.string (ck.extract 0 K))) w.heap.size [.bool mf, .slice e1 ms.length f1, .slice e2 mk.length f2, .slice e3 md.length f3] 26) from HN2.out.far (by show w.heap.size + 1 ≠ w.heap.size; omega))
  have HC3 := (show Hid (Brow (w2.setCell ⟨w.heap.size + 1, 0, none⟩ (.string (ck.extract 0 K))) (w.heap.size + 1) [.string (ck.extract 0 K), .string cx, .int .i64 co, .int .i64 cl] 28) from HC2.out.set 0 _)
  have HL3 := (show Hid (LiesF (w2.setCell ⟨w.heap.size + 1, 0, none⟩ (.string (ck.extract 0 K))) (w.heap.size + 2) ⟨mf, ms, mk, md⟩ ⟨e1, f1, e2, f2, e3, f3⟩) from HL2.out.set (by omega) 0 _)
  have HB3 := (show Hid (Below w.heap.size w (w2.setCell ⟨w.heap.size + 1, 0, none⟩ (.string (ck.extract 0 K)))) from HB2.out.setCell (by show w.heap.size ≤ w.heap.size + 1; omega) _)
  have hs3 : w.heap.size + 2 ≤ (w2.setCell ⟨w.heap.size + 1, 0, none⟩ (.string (ck.extract 0 K))).heap.size := by rw [size_setCell]; exact hs2
  have y0 := HC2.out.at 0 _ rfl
  have yz := HC2.out.fz 0
  clear HN2 HC2 HL2 HB2 hs2
  go_upto_region 3 with fail
  generalize (w2.setCell ⟨w.heap.size + 1, 0, none⟩ (.string (ck.extract 0 K))) = w3 at *
  generalize ck.extract 0 K = kk at *
  clear y0 yz m1 m2 m3 hck hs1
  have q0 := HN3.out.at 0 _ rfl
  have q1 := HN3.out.at 1 _ rfl
  have q2 := HN3.out.at 2 _ rfl
  have q3 := HN3.out.at 3 _ rfl
  cases mf with
  | false =>
    clear HOK
    go_wp2_with fail
    refine (works_any w3).mono ?_
    rintro e wz ⟨rfl, hBz⟩
    have HBz : Hid (Below w.heap.size w wz) := HB3.out.trans (hBz.mono (by omega))
    clear hBz
    go_wp2
    go_ret
    exact ⟨rfl, HBz.out⟩
  | true =>
    go_wp2_with fail
    refine (HCH ⟨e1, f1, e2, f2, e3, f3⟩ w3 HL3.out.lies).mono ?_
    rintro e w4 ⟨rfl, hB4⟩
    have HB4 : Hid (Below w.heap.size w w4) := HB3.out.trans (hB4.mono (by omega))
    have HN4 : Hid (Brow w4 w.heap.size [.bool true, .slice e1 ms.length f1, .slice e2 mk.length f2, .slice e3 md.length f3] 26) := HN3.out.below hB4 (by omega)
    have HC4 : Hid (Brow w4 (w.heap.size + 1) [.string kk, .string cx, .int .i64 co, .int .i64 cl] 28) := HC3.out.below hB4 (by omega)
    have HL4 : Hid (Lies w4 ⟨true, ms, mk, md⟩ ⟨e1, f1, e2, f2, e3, f3⟩) := HL3.out.lies.below hB4
    have hs4 : w.heap.size + 2 ≤ w4.heap.size := Nat.le_trans hs3 hB4.size
    clear hB4 HB3 HN3 HC3 HL3 HCH q0 q1 q2 q3 hs3
    by_cases hE5 : E5 = 0
    · obtain ⟨i, hPI⟩ := HOK.out (by first | rfl | trivial) hE5
      have HPI := (show Hid _ from hPI)
      have HPF := (show Is (findI (putN ⟨true, ms, mk, md⟩ x) x.key) i from ⟨hPI.fi⟩)
      have HPB := (show Is (findB (putN ⟨true, ms, mk, md⟩ x) x.key) true from ⟨hPI.there⟩)
      have HOB := (show Is (findB (cutN (putN ⟨true, ms, mk, md⟩ x) (i : Int)) x.key) false from ⟨hPI.gone⟩)
      have hil := hPI.lt
      have HAT := (show Hid ((putN ⟨true, ms, mk, md⟩ x).cells.getD i Sl.cel0 = ⟨kk, cx, co, cl⟩) from hPI.at'.trans hx)
      have HHAD := (show Hid (findB ⟨true, ms, mk, md⟩ x.key = true → (cutN (putN ⟨true, ms, mk, md⟩ x) (i : Int)).cells.length + 1 = ms.length ∧ (putN ⟨true, ms, mk, md⟩ x).cells.length = ms.length) from hPI.had)
      have HNOT := (show Hid (findB ⟨true, ms, mk, md⟩ x.key = false → cutN (putN ⟨true, ms, mk, md⟩ x) (i : Int) = ⟨true, ms, mk, md⟩ ∧ (putN ⟨true, ms, mk, md⟩ x).cells.length = ms.length + 1) from hPI.not)
      clear hPI HPI HOK
      rw [HPF.eq, HPB.eq] at HFU
      have HFO2 := HFO (i : Int)
      rw [HOB.eq] at HFO2
      have HCU2 := HCU (i : Int)
      have hus : (putN ⟨true, ms, mk, md⟩ x).cells.length ≤ 21 := by
        cases hq : findB ⟨true, ms, mk, md⟩ x.key with
        | true => have := (HHAD.out hq).2; omega
        | false => have := (HNOT.out hq).2; omega
      clear HFO HCU HPF HPB HOB
      generalize findI (cutN (putN ⟨true, ms, mk, md⟩ x) (i : Int)) x.key = ZO at *
      generalize findI ⟨true, ms, mk, md⟩ x.key = ZN at *
      generalize hhad : findB ⟨true, ms, mk, md⟩ x.key = had at *
      clear hhad
      generalize cutN (putN ⟨true, ms, mk, md⟩ x) (i : Int) = o at *
      generalize putN ⟨true, ms, mk, md⟩ x = u at *
      subst hx
      obtain ⟨uf, us, uk, ud⟩ := u
      obtain ⟨of, os, ok, od⟩ := o
      simp only at HPU HFN HFU HCU2 HFO2 hil HAT HHAD HNOT hus
      subst hE5
      have q0 := HN4.out.at 0 _ rfl
      have q1 := HN4.out.at 1 _ rfl
      have q2 := HN4.out.at 2 _ rfl
      have q3 := HN4.out.at 3 _ rfl
      have y0 := HC4.out.at 0 _ rfl
      have y1 := HC4.out.at 1 _ rfl
      have y2 := HC4.out.at 2 _ rfl
      have y3 := HC4.out.at 3 _ rfl
      go_wp2_with fail
      refine (HPU ⟨e1, f1, e2, f2, e3, f3⟩ w4 HL4.out).mono ?_
      rintro e w5 ⟨⟨g1, h1, g2, h2, g3, h3⟩, rfl, hL5, hB5⟩
      have HB5 : Hid (Below w.heap.size w w5) := HB4.out.trans (hB5.mono (by omega))
      have HN5 : Hid (Brow w5 w.heap.size [.bool true, .slice e1 ms.length f1, .slice e2 mk.length f2, .slice e3 md.length f3] 26) := HN4.out.below hB5 (by omega)
      have HC5 : Hid (Brow w5 (w.heap.size + 1) [.string kk, .string cx, .int .i64 co, .int .i64 cl] 28) := HC4.out.below hB5 (by omega)
      have HL5 : Hid (Lies w5 ⟨true, ms, mk, md⟩ ⟨e1, f1, e2, f2, e3, f3⟩) := HL4.out.below hB5
      have HU5 : Hid (Lies w5 ⟨uf, us, uk, ud⟩ ⟨g1, h1, g2, h2, g3, h3⟩) := hL5.lies
      have hs5 : w.heap.size + 2 ≤ w5.heap.size := Nat.le_trans hs4 hB5.size
      clear hL5 hB5 HPU q0 q1 q2 q3 y0 y1 y2 y3 HL4 HN4 HC4 HB4 hs4
      have HS6 := (show Hid (Below w.heap.size w (w5.alloc (.cells #[.bool uf, .slice g1 us.length h1, .slice g2 uk.length h2, .slice g3 ud.length h3] 26)) ∧ Brow (w5.alloc (.cells #[.bool uf, .slice g1 us.length h1, .slice g2 uk.length h2, .slice g3 ud.length h3] 26)) w.heap.size [.bool true, .slice e1 ms.length f1, .slice e2 mk.length f2, .slice e3 md.length f3] 26 ∧ Brow (w5.alloc (.cells #[.bool uf, .slice g1 us.length h1, .slice g2 uk.length h2, .slice g3 ud.length h3] 26)) (w.heap.size + 1) [.string kk, .string cx, .int .i64 co, .int .i64 cl] 28 ∧ Lies (w5.alloc (.cells #[.bool uf, .slice g1 us.length h1, .slice g2 uk.length h2, .slice g3 ud.length h3] 26)) ⟨true, ms, mk, md⟩ ⟨e1, f1, e2, f2, e3, f3⟩ ∧ Lies (w5.alloc (.cells #[.bool uf, .slice g1 us.length h1, .slice g2 uk.length h2, .slice g3 ud.length h3] 26)) ⟨uf, us, uk, ud⟩ ⟨g1, h1, g2, h2, g3, h3⟩ ∧ Brow (w5.alloc (.cells #[.bool uf, .slice g1 us.length h1, .slice g2 uk.length h2, .slice g3 ud.length h3] 26)) w5.heap.size [.bool uf, .slice g1 us.length h1, .slice g2 uk.length h2, .slice g3 ud.length h3] 26) from ⟨HB5.out.alloc (by omega) _, HN5.out.alloc _, HC5.out.alloc _, HL5.out.below (below_alloc _ _), HU5.out.below (below_alloc _ _), Brow.new w5 _ 26⟩)
      have hs6 : w5.heap.size + 1 ≤ (w5.alloc (.cells #[.bool uf, .slice g1 us.length h1, .slice g2 uk.length h2, .slice g3 ud.length h3] 26)).heap.size := by rw [size_alloc1]; omega
      clear HB5 HN5 HC5 HL5 HU5
      go_upto_region 6 with fail
      generalize (w5.alloc (.cells #[.bool uf, .slice g1 us.length h1, .slice g2 uk.length h2, .slice g3 ud.length h3] 26)) = w6 at *
      generalize w5.heap.size = X at *
      have HSx := HS6
      have q0 := HS6.out.2.2.2.2.2.at 0 _ rfl
      have q1 := HS6.out.2.2.2.2.2.at 1 _ rfl
      have q2 := HS6.out.2.2.2.2.2.at 2 _ rfl
      have q3 := HS6.out.2.2.2.2.2.at 3 _ rfl
      have y0 := HS6.out.2.2.1.at 0 _ rfl
      go_wp2_with fail
      refine (HFU ⟨g1, h1, g2, h2, g3, h3⟩ w6 HS6.out.2.2.2.2.1).mono ?_
      rintro e w7 ⟨rfl, hB7⟩
      have HS7 := (show Hid (Below w.heap.size w w7 ∧ Brow w7 w.heap.size [.bool true, .slice e1 ms.length f1, .slice e2 mk.length f2, .slice e3 md.length f3] 26 ∧ Brow w7 (w.heap.size + 1) [.string kk, .string cx, .int .i64 co, .int .i64 cl] 28 ∧ Lies w7 ⟨true, ms, mk, md⟩ ⟨e1, f1, e2, f2, e3, f3⟩ ∧ Lies w7 ⟨uf, us, uk, ud⟩ ⟨g1, h1, g2, h2, g3, h3⟩ ∧ Brow w7 X [.bool uf, .slice g1 us.length h1, .slice g2 uk.length h2, .slice g3 ud.length h3] 26) from ⟨HS6.out.1.trans (hB7.mono (by omega)), HS6.out.2.1.below hB7 (by omega), HS6.out.2.2.1.below hB7 (by omega), HS6.out.2.2.2.1.below hB7, HS6.out.2.2.2.2.1.below hB7, HS6.out.2.2.2.2.2.below hB7 (by omega)⟩)
      have hs7 : X + 1 ≤ w7.heap.size := Nat.le_trans hs6 hB7.size
      clear hB7 HS6 HSx HFU q0 q1 q2 q3 y0 hs6
      obtain ⟨ba, oa, ha, hba, hca⟩ := HS7.out.2.2.2.2.1.r1.cell (Nat.lt_of_le_of_lt (Nat.zero_le _) hil)
      simp only at ha
      subst ha
      obtain ⟨x0, x1, x2, x3⟩ := hca i hil
      simp only at x0 x1 x2 x3
      rw [HAT.out] at x0 x1 x2 x3
      simp only at x0 x1 x2 x3
      clear hca
      have i0 : (i : Int) < (us.length : Int) := by omega
      have j0 : (0 : Int) ≤ (i : Int) := Int.natCast_nonneg _
      have q0 := HS7.out.2.2.2.2.2.at 0 _ rfl
      have q1 := HS7.out.2.2.2.2.2.at 1 _ rfl
      have q2 := HS7.out.2.2.2.2.2.at 2 _ rfl
      have q3 := HS7.out.2.2.2.2.2.at 3 _ rfl
      have y0 := HS7.out.2.2.1.at 0 _ rfl
      have y1 := HS7.out.2.2.1.at 1 _ rfl
      have y2 := HS7.out.2.2.1.at 2 _ rfl
      have y3 := HS7.out.2.2.1.at 3 _ rfl
      have HSD := (show Hid (∀ n, Below w.heap.size w (w7.drewN n) ∧ Brow (w7.drewN n) w.heap.size [.bool true, .slice e1 ms.length f1, .slice e2 mk.length f2, .slice e3 md.length f3] 26 ∧ Brow (w7.drewN n) (w.heap.size + 1) [.string kk, .string cx, .int .i64 co, .int .i64 cl] 28 ∧ Lies (w7.drewN n) ⟨true, ms, mk, md⟩ ⟨e1, f1, e2, f2, e3, f3⟩ ∧ Lies (w7.drewN n) ⟨uf, us, uk, ud⟩ ⟨some ⟨ba, oa, none⟩, h1, g2, h2, g3, h3⟩ ∧ Brow (w7.drewN n) X [.bool uf, .slice (some ⟨ba, oa, none⟩) us.length h1, .slice g2 uk.length h2, .slice g3 ud.length h3] 26 ∧ X + 1 ≤ (w7.drewN n).heap.size) from fun n => ⟨below_drewN HS7.out.1, ⟨HS7.out.2.1.row⟩, ⟨HS7.out.2.2.1.row⟩, HS7.out.2.2.2.1.below (below_drewN (Below.refl _ _)), HS7.out.2.2.2.2.1.below (below_drewN (Below.refl _ _)), ⟨HS7.out.2.2.2.2.2.row⟩, hs7⟩)
      --MARKQ
      go_upto_region 7 with fail
      go_quiet (fail)
      --MARKR
      clear x0 x1 x2 x3 i0 j0 hba HAT
      go_upto_region 9 with fail
      go_wp2_with fail
      refine (HCU2 ⟨some ⟨ba, oa, none⟩, h1, g2, h2, g3, h3⟩ _ (HSD.out _).2.2.2.2.1).mono ?_
      rintro e w8 ⟨⟨r1, s1, r2, s2, r3, s3⟩, rfl, hL8, hB8⟩
      have HS8 := (show Hid (Below w.heap.size w w8 ∧ Brow w8 w.heap.size [.bool true, .slice e1 ms.length f1, .slice e2 mk.length f2, .slice e3 md.length f3] 26 ∧ Brow w8 (w.heap.size + 1) [.string kk, .string cx, .int .i64 co, .int .i64 cl] 28 ∧ Lies w8 ⟨true, ms, mk, md⟩ ⟨e1, f1, e2, f2, e3, f3⟩ ∧ Lies w8 ⟨of, os, ok, od⟩ ⟨r1, s1, r2, s2, r3, s3⟩ ∧ Brow w8 X [.bool uf, .slice (some ⟨ba, oa, none⟩) us.length h1, .slice g2 uk.length h2, .slice g3 ud.length h3] 26) from ⟨(HSD.out _).1.trans (hB8.mono (HSD.out _).1.size), (HSD.out _).2.1.below hB8 (HSD.out _).2.1.lt, (HSD.out _).2.2.1.below hB8 (HSD.out _).2.2.1.lt, (HSD.out _).2.2.2.1.below hB8, hL8.lies, (HSD.out _).2.2.2.2.2.1.below hB8 (HSD.out _).2.2.2.2.2.1.lt⟩)
      have hs8 : X + 1 ≤ w8.heap.size := Nat.le_trans (HSD.out _).2.2.2.2.2.2 hB8.size
      clear hL8 hB8 HCU2 HSD HS7 q0 q1 q2 q3 y0 y1 y2 y3 hs7
      have HS9 := (show Hid (Below w.heap.size w (w8.alloc (.cells #[.bool of, .slice r1 os.length s1, .slice r2 ok.length s2, .slice r3 od.length s3] 26)) ∧ Brow (w8.alloc (.cells #[.bool of, .slice r1 os.length s1, .slice r2 ok.length s2, .slice r3 od.length s3] 26)) w.heap.size [.bool true, .slice e1 ms.length f1, .slice e2 mk.length f2, .slice e3 md.length f3] 26 ∧ Brow (w8.alloc (.cells #[.bool of, .slice r1 os.length s1, .slice r2 ok.length s2, .slice r3 od.length s3] 26)) (w.heap.size + 1) [.string kk, .string cx, .int .i64 co, .int .i64 cl] 28 ∧ Lies (w8.alloc (.cells #[.bool of, .slice r1 os.length s1, .slice r2 ok.length s2, .slice r3 od.length s3] 26)) ⟨true, ms, mk, md⟩ ⟨e1, f1, e2, f2, e3, f3⟩ ∧ Lies (w8.alloc (.cells #[.bool of, .slice r1 os.length s1, .slice r2 ok.length s2, .slice r3 od.length s3] 26)) ⟨of, os, ok, od⟩ ⟨r1, s1, r2, s2, r3, s3⟩ ∧ Brow (w8.alloc (.cells #[.bool of, .slice r1 os.length s1, .slice r2 ok.length s2, .slice r3 od.length s3] 26)) X [.bool uf, .slice (some ⟨ba, oa, none⟩) us.length h1, .slice g2 uk.length h2, .slice g3 ud.length h3] 26 ∧ Brow (w8.alloc (.cells #[.bool of, .slice r1 os.length s1, .slice r2 ok.length s2, .slice r3 od.length s3] 26)) w8.heap.size [.bool of, .slice r1 os.length s1, .slice r2 ok.length s2, .slice r3 od.length s3] 26) from ⟨HS8.out.1.alloc (by omega) _, HS8.out.2.1.alloc _, HS8.out.2.2.1.alloc _, HS8.out.2.2.2.1.below (below_alloc _ _), HS8.out.2.2.2.2.1.below (below_alloc _ _), HS8.out.2.2.2.2.2.alloc _, Brow.new w8 _ 26⟩)
      have hs9 : w8.heap.size + 1 ≤ (w8.alloc (.cells #[.bool of, .slice r1 os.length s1, .slice r2 ok.length s2, .slice r3 od.length s3] 26)).heap.size := by rw [size_alloc1]; omega
      clear HS8
      go_upto_region 10 with fail
      generalize (w8.alloc (.cells #[.bool of, .slice r1 os.length s1, .slice r2 ok.length s2, .slice r3 od.length s3] 26)) = w9 at *
      generalize w8.heap.size = Y at *
      have p0 := HS9.out.2.2.2.2.2.2.at 0 _ rfl
      have p1 := HS9.out.2.2.2.2.2.2.at 1 _ rfl
      have p2 := HS9.out.2.2.2.2.2.2.at 2 _ rfl
      have p3 := HS9.out.2.2.2.2.2.2.at 3 _ rfl
      have y0 := HS9.out.2.2.1.at 0 _ rfl
      go_wp2_with fail
      refine (HFO2 ⟨r1, s1, r2, s2, r3, s3⟩ w9 HS9.out.2.2.2.2.1).mono ?_
      rintro e wA ⟨rfl, hBA⟩
      have HSA1 := (show Hid (Below w.heap.size w wA ∧ Brow wA w.heap.size [.bool true, .slice e1 ms.length f1, .slice e2 mk.length f2, .slice e3 md.length f3] 26 ∧ Brow wA (w.heap.size + 1) [.string kk, .string cx, .int .i64 co, .int .i64 cl] 28 ∧ Lies wA ⟨true, ms, mk, md⟩ ⟨e1, f1, e2, f2, e3, f3⟩ ∧ Lies wA ⟨of, os, ok, od⟩ ⟨r1, s1, r2, s2, r3, s3⟩ ∧ Brow wA X [.bool uf, .slice (some ⟨ba, oa, none⟩) us.length h1, .slice g2 uk.length h2, .slice g3 ud.length h3] 26 ∧ Brow wA Y [.bool of, .slice r1 os.length s1, .slice r2 ok.length s2, .slice r3 od.length s3] 26) from ⟨HS9.out.1.trans (hBA.mono (by omega)), HS9.out.2.1.below hBA (by omega), HS9.out.2.2.1.below hBA (by omega), HS9.out.2.2.2.1.below hBA, HS9.out.2.2.2.2.1.below hBA, HS9.out.2.2.2.2.2.1.below hBA (by omega), HS9.out.2.2.2.2.2.2.below hBA (by omega)⟩)
      have hsA : Y + 1 ≤ wA.heap.size := Nat.le_trans hs9 hBA.size
      clear hBA HS9 HFO2 p0 p1 p2 p3 y0 hs9
      have q0 := HSA1.out.2.1.at 0 _ rfl
      have q1 := HSA1.out.2.1.at 1 _ rfl
      have q2 := HSA1.out.2.1.at 2 _ rfl
      have q3 := HSA1.out.2.1.at 3 _ rfl
      have y0 := HSA1.out.2.2.1.at 0 _ rfl
      go_wp2_with fail
      refine (HFN ⟨e1, f1, e2, f2, e3, f3⟩ wA HSA1.out.2.2.2.1).mono ?_
      rintro e wB ⟨rfl, hBB⟩
      have HSB := (show Hid (Below w.heap.size w wB ∧ Brow wB w.heap.size [.bool true, .slice e1 ms.length f1, .slice e2 mk.length f2, .slice e3 md.length f3] 26 ∧ Brow wB (w.heap.size + 1) [.string kk, .string cx, .int .i64 co, .int .i64 cl] 28 ∧ Lies wB ⟨true, ms, mk, md⟩ ⟨e1, f1, e2, f2, e3, f3⟩ ∧ Lies wB ⟨of, os, ok, od⟩ ⟨r1, s1, r2, s2, r3, s3⟩ ∧ Brow wB X [.bool uf, .slice (some ⟨ba, oa, none⟩) us.length h1, .slice g2 uk.length h2, .slice g3 ud.length h3] 26 ∧ Brow wB Y [.bool of, .slice r1 os.length s1, .slice r2 ok.length s2, .slice r3 od.length s3] 26) from ⟨HSA1.out.1.trans (hBB.mono (by omega)), HSA1.out.2.1.below hBB (by omega), HSA1.out.2.2.1.below hBB (by omega), HSA1.out.2.2.2.1.below hBB, HSA1.out.2.2.2.2.1.below hBB, HSA1.out.2.2.2.2.2.1.below hBB (by omega), HSA1.out.2.2.2.2.2.2.below hBB (by omega)⟩)
      have hsB : Y + 1 ≤ wB.heap.size := Nat.le_trans hsA hBB.size
      clear hBB HSA1 HFN q0 q1 q2 q3 y0 hsA
      have q0 := HSB.out.2.1.at 0 _ rfl
      have q1 := HSB.out.2.1.at 1 _ rfl
      have q2 := HSB.out.2.1.at 2 _ rfl
      have q3 := HSB.out.2.1.at 3 _ rfl
      have x1 := HSB.out.2.2.2.2.2.1.at 1 _ rfl
      have p0 := HSB.out.2.2.2.2.2.2.at 0 _ rfl
      have p1 := HSB.out.2.2.2.2.2.2.at 1 _ rfl
      have p2 := HSB.out.2.2.2.2.2.2.at 2 _ rfl
      have p3 := HSB.out.2.2.2.2.2.2.at 3 _ rfl
      have HBB := (show Hid (Below w.heap.size w wB) from HSB.out.1)
      cases had with
      | true =>
        obtain ⟨g1, g2⟩ := HHAD.out rfl
        have d1 : decide ((os.length : Int) = (ms.length : Int) - 1) = true := decide_eq_true (by omega)
        have d2 : decide ((us.length : Int) = (ms.length : Int)) = true := decide_eq_true (by omega)
        have b1 : ((os.length : Int) == (ms.length : Int) - 1) = true := by rw [beq_iff_eq]; omega
        have b2 : ((us.length : Int) == (ms.length : Int)) = true := by rw [beq_iff_eq]; omega
        clear g1 g2 HHAD HNOT HSA
        go_wp2_with fail
        refine (works_any wB).mono ?_
        rintro e wz ⟨rfl, hBz⟩
        have HBz : Hid (Below w.heap.size w wz) := HBB.out.trans (hBz.mono (by omega))
        clear hBz
        go_wp2
        go_ret
        exact ⟨rfl, HBz.out⟩
      | false =>
        obtain ⟨g1, g2⟩ := HNOT.out rfl
        have d2 : decide ((us.length : Int) = (ms.length : Int) + 1) = true := decide_eq_true (by omega)
        have b2 : ((us.length : Int) == (ms.length : Int) + 1) = true := by rw [beq_iff_eq]; omega
        clear g2 HHAD HNOT
        cases g1
        go_wp2_with fail
        refine (HSA ⟨r1, s1, r2, s2, r3, s3⟩ ⟨e1, f1, e2, f2, e3, f3⟩ wB HSB.out.2.2.2.2.1 HSB.out.2.2.2.1).mono ?_
        rintro e wC ⟨rfl, hBC⟩
        have HBC : Hid (Below w.heap.size w wC) := HSB.out.1.trans (hBC.mono (by omega))
        have hsC : w.heap.size ≤ wC.heap.size := HBC.out.size
        have z1 := (HSB.out.2.1.below hBC (by omega)).at 1 _ rfl
        have z2 := (HSB.out.2.2.2.2.2.1.below hBC (by omega)).at 1 _ rfl
        clear hBC HSB HBB p0 p1 p2 p3 q0 q1 q2 q3 x1
        go_wp2_with fail
        refine (works_any wC).mono ?_
        rintro e wz ⟨rfl, hBz⟩
        have HBz : Hid (Below w.heap.size w wz) := HBC.out.trans (hBz.mono (by omega))
        clear hBz
        go_wp2
        go_ret
        exact ⟨rfl, HBz.out⟩
    · have hE5' : (E5 != 0) = true := by simpa using hE5
      have hE5'' : (E5 == 0) = false := by simpa using hE5
      clear HOK
      go_wp2_with fail
      refine (works_any w4).mono ?_
      rintro e wz ⟨rfl, hBz⟩
      have HBz : Hid (Below w.heap.size w wz) := HB4.out.trans (hBz.mono (by omega))
      clear hBz
      go_wp2
      go_ret
      exact ⟨rfl, HBz.out⟩
end Go.Proofs.Ytoinaplmgffkpaa
