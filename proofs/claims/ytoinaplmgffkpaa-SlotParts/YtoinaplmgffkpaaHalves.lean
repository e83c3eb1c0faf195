/- Proved: SlotHalves' walk (stage 11). -/
import Derived.Test.YtoinaplmgffkpaaLBase
namespace Go.Proofs.Ytoinaplmgffkpaa
open Go.RowKit
open Sl (Cel Nod)
theorem enc_ok {n : Nod} (h : encE n = 0) : Sl.may n = true ∧ sizeN n ≤ 500 := by
  unfold encE at h
  split at h
  · rename_i h1
    split at h
    · exact ⟨h1, by assumption⟩
    · cases h
  · cases h
theorem fit_put {n : Nod} {c : Cel} (h : In0 n) (hc : CelFit c) : Fit (putN (fewN n) c) := putN_fit (few_fit h) hc (by have := (few_len n).1; omega)
theorem fit0 : Fit Sl.nod0 := ⟨fun c hc => (by cases hc), fun c hc => (by cases hc), fun c hc => (by cases hc), by decide, by decide, by decide⟩
theorem fit_spl {n : Nod} (hF : Fit n) : Fit (spL n) ∧ Fit (spR n) := by
  unfold spL spR
  cases spOk n with
  | false =>
    simp only [Bool.false_eq_true, if_false]
    exact ⟨fit0, fit0⟩
  | true =>
    have h1 := hF.l1
    have h2 := hF.l2
    have h3 := hF.l3
    cases n.leaf with
    | true => exact ⟨fit_sub hF (fun c hc => List.mem_of_mem_take hc) (fun k hk => (by cases hk)) (fun i hi => (by cases hi)) (by rw [List.length_take]; omega) (by simp) (by simp), fit_sub hF (fun c hc => List.mem_of_mem_drop hc) (fun k hk => (by cases hk)) (fun i hi => (by cases hi)) (by rw [List.length_drop]; omega) (by simp) (by simp)⟩
    | false => exact ⟨fit_sub hF (fun c hc => (by cases hc)) (fun k hk => List.mem_of_mem_take hk) (fun i hi => List.mem_of_mem_take hi) (by simp) (by rw [List.length_take]; omega) (by rw [List.length_take]; omega), fit_sub hF (fun c hc => (by cases hc)) (fun k hk => List.mem_of_mem_drop hk) (fun i hi => List.mem_of_mem_drop hi) (by simp) (by rw [List.length_drop]; omega) (by rw [List.length_drop]; omega)⟩
set_option maxHeartbeats 4000000 in
set_option maxRecDepth 20000 in
theorem halves_walk (n : Nod) (p : Pt) (c : Cel) (w : World) (hN : Lies w n p) (h0 : In0 n) (hc : CelFit c) :
    Calls Try.prog 7 #[nv n p, cv c] w fun e w' => e = .returned (.bool true) ∧ Below w.heap.size w w' := by
  have HFW := fun (W : World) (hW : Below w.heap.size w W) => few_call hN h0 hW
  have hfit := few_fit h0
  have hlen := few_len n
  have hfp := fit_put (c := c) h0 hc
  have hHV := fun h1 h2 h3 h4 h5 => halves_ok (n := fewN n) (c := c) h1 h2 h3 h4 h5
  clear hN h0
  generalize fewN n = m at *
  have HEN := fun (q : Pt) (W : World) (h : Lies W m q) => encode_any m q W h hfit
  have HPU := fun (q : Pt) (W : World) (h : Lies W m q) => put_any m q c W h hfit hc (by omega)
  have HCH := fun (q : Pt) (W : World) (h : Lies W (putN m c) q) => check_any (putN m c) q W h hfp
  have HSZ := fun (q : Pt) (W : World) (h : Lies W (putN m c) q) => size_any (putN m c) q W h hfp
  have HEP := fun (q : Pt) (W : World) (h : Lies W (putN m c) q) => encode_any (putN m c) q W h hfp
  have HSP := fun (q : Pt) (W : World) (h : Lies W (putN m c) q) => (split_any (putN m c) q W h hfp).mono (fun _ _ hx => hx.ex)
  have HEL := fun (q : Pt) (W : World) (h : Lies W (spL (putN m c)) q) => encode_any (spL (putN m c)) q W h (fit_spl hfp).1
  have HER := fun (q : Pt) (W : World) (h : Lies W (spR (putN m c)) q) => encode_any (spR (putN m c)) q W h (fit_spl hfp).2
  have HOK := (show Hid (m.leaf = true → encE m = 0 → checkE (putN m c) = 0 → (encE (putN m c) = 0 ∨ ¬ sizeE (putN m c) ≤ 500) ∧ (¬ sizeE (putN m c) ≤ 500 → spE (putN m c) = 0 ∧ encE (spL (putN m c)) = 0 ∧ encE (spR (putN m c)) = 0)) from fun h1 h2 h3 => by
    have h4 : Sl.may (putN m c) = true := by
      unfold checkE at h3
      split at h3
      · assumption
      · cases h3
    have h5 : sizeE (putN m c) = sizeN (putN m c) := by unfold sizeE; rw [if_pos h4]
    rw [h5]
    refine ⟨?_, fun h6 => hHV h1 (enc_ok h2).1 (enc_ok h2).2 h4 h6⟩
    by_cases h6 : sizeN (putN m c) ≤ 500
    · left; unfold encE; rw [if_pos h4, if_pos h6]
    · exact .inr h6)
  clear hfit hfp hHV hlen hc
  generalize encS m = S1 at *
  generalize encE m = E1 at *
  generalize encS (spL (putN m c)) = S2 at *
  generalize encE (spL (putN m c)) = E2 at *
  generalize encS (spR (putN m c)) = S3 at *
  generalize encE (spR (putN m c)) = E3 at *
  generalize encS (putN m c) = S4 at *
  generalize encE (putN m c) = E4 at *
  generalize checkE (putN m c) = E5 at *
  generalize sizeE (putN m c) = Z at *
  generalize spE (putN m c) = E6 at *
  generalize spK (putN m c) = K at *
  generalize spL (putN m c) = LL at *
  generalize spR (putN m c) = RR at *
  generalize putN m c = u at *
  obtain ⟨lf, cs, ks, ds⟩ := n
  obtain ⟨a1, c1, a2, c2, a3, c3⟩ := p
  obtain ⟨ck, cx, co, cl⟩ := c
  obtain ⟨mf, ms, mk, md⟩ := m
  obtain ⟨uf, us, uk, ud⟩ := u
  obtain ⟨xf, xs, xk, xd⟩ := LL
  obtain ⟨yf, ys, yk, yd⟩ := RR
  unfold nv cv at *
  simp only at HFW HEN HPU HCH HSZ HEP HSP HEL HER HOK ⊢
  have HB0 : Hid (Below w.heap.size w ((w.alloc (.cells #[.bool lf, .slice a1 cs.length c1, .slice a2 ks.length c2, .slice a3 ds.length c3] 26)).alloc (.cells #[.string ck, .string cx, .int .i64 co, .int .i64 cl] 28))) := (below_alloc _ _).alloc (by rw [size_alloc1]; omega) _
  have HN0 : Hid (Brow ((w.alloc (.cells #[.bool lf, .slice a1 cs.length c1, .slice a2 ks.length c2, .slice a3 ds.length c3] 26)).alloc (.cells #[.string ck, .string cx, .int .i64 co, .int .i64 cl] 28)) w.heap.size [.bool lf, .slice a1 cs.length c1, .slice a2 ks.length c2, .slice a3 ds.length c3] 26) := (Brow.new w [.bool lf, .slice a1 cs.length c1, .slice a2 ks.length c2, .slice a3 ds.length c3] 26).alloc _
  have HC0 : Hid (Brow ((w.alloc (.cells #[.bool lf, .slice a1 cs.length c1, .slice a2 ks.length c2, .slice a3 ds.length c3] 26)).alloc (.cells #[.string ck, .string cx, .int .i64 co, .int .i64 cl] 28)) (w.heap.size + 1) [.string ck, .string cx, .int .i64 co, .int .i64 cl] 28) := by
    have := Brow.new (w.alloc (.cells #[.bool lf, .slice a1 cs.length c1, .slice a2 ks.length c2, .slice a3 ds.length c3] 26)) [.string ck, .string cx, .int .i64 co, .int .i64 cl] 28
    rwa [size_alloc1] at this
  have hs0 : w.heap.size + 2 ≤ ((w.alloc (.cells #[.bool lf, .slice a1 cs.length c1, .slice a2 ks.length c2, .slice a3 ds.length c3] 26)).alloc (.cells #[.string ck, .string cx, .int .i64 co, .int .i64 cl] 28)).heap.size := by rw [size_alloc1, size_alloc1]; omega
  go_enter Try.func7, Try.ntmps7
  go_wp2_with fail
  refine (HFW _ HB0.out).mono ?_
  rintro e w1 ⟨⟨e1, f1, e2, f2, e3, f3⟩, rfl, hL1, hB1⟩
  have HB1 : Hid (Below w.heap.size w w1) := HB0.out.trans (hB1.mono (by omega))
  have HN1 : Hid (Brow w1 w.heap.size [.bool lf, .slice a1 cs.length c1, .slice a2 ks.length c2, .slice a3 ds.length c3] 26) := HN0.out.below hB1 (by omega)
  have HC1 : Hid (Brow w1 (w.heap.size + 1) [.string ck, .string cx, .int .i64 co, .int .i64 cl] 28) := HC0.out.below hB1 (by omega)
  have HL1 : Hid (LiesF w1 (w.heap.size + 2) ⟨mf, ms, mk, md⟩ ⟨e1, f1, e2, f2, e3, f3⟩) := hL1.mono hs0
  have hs1 : w.heap.size + 2 ≤ w1.heap.size := Nat.le_trans hs0 hB1.size
  clear hL1 hB1 HB0 HN0 HC0 hs0 HFW
  have HN2 := (show Hid (Brow (setN w1 w.heap.size (.bool mf) (.slice e1 ms.length f1) (.slice e2 mk.length f2) (.slice e3 md.length f3)) w.heap.size [.bool mf, .slice e1 ms.length f1, .slice e2 mk.length f2, .slice e3 md.length f3] 26) from setN_row HN1.out _ _ _ _)
  have HC2 := (show Hid (Brow (setN w1 w.heap.size (.bool mf) (.slice e1 ms.length f1) (.slice e2 mk.length f2) (.slice e3 md.length f3)) (w.heap.size + 1) [.string ck, .string cx, .int .i64 co, .int .i64 cl] 28) from setN_far HC1.out (by omega) _ _ _ _)
  have HL2 := (show Hid (Lies (setN w1 w.heap.size (.bool mf) (.slice e1 ms.length f1) (.slice e2 mk.length f2) (.slice e3 md.length f3)) ⟨mf, ms, mk, md⟩ ⟨e1, f1, e2, f2, e3, f3⟩) from (setN_lies HL1.out (by omega) _ _ _ _).lies)
  have HB2 := (show Hid (Below w.heap.size w (setN w1 w.heap.size (.bool mf) (.slice e1 ms.length f1) (.slice e2 mk.length f2) (.slice e3 md.length f3))) from setN_below HB1.out (by omega) _ _ _ _)
  have hs2 : w.heap.size + 2 ≤ (setN w1 w.heap.size (.bool mf) (.slice e1 ms.length f1) (.slice e2 mk.length f2) (.slice e3 md.length f3)).heap.size := by rw [size_setN]; exact hs1
  have HEN2 := fun W (h : Lies W ⟨mf, ms, mk, md⟩ ⟨e1, f1, e2, f2, e3, f3⟩) => HEN ⟨e1, f1, e2, f2, e3, f3⟩ W h
  have HPU2 := fun W (h : Lies W ⟨mf, ms, mk, md⟩ ⟨e1, f1, e2, f2, e3, f3⟩) => HPU ⟨e1, f1, e2, f2, e3, f3⟩ W h
  have x0 := HN1.out.at 0 _ rfl
  have x1 := HN1.out.at 1 _ rfl
  have x2 := HN1.out.at 2 _ rfl
  have x3 := HN1.out.at 3 _ rfl
  have z0 := HN1.out.fz 0
  have z1 := HN1.out.fz 1
  have z2 := HN1.out.fz 2
  have z3 := HN1.out.fz 3
  have q0 := HN2.out.at 0 _ rfl
  have q1 := HN2.out.at 1 _ rfl
  have q2 := HN2.out.at 2 _ rfl
  have q3 := HN2.out.at 3 _ rfl
  clear HN1 HC1 HL1 HB1 HEN HPU
  simp only at HEN2 HPU2
  unfold setN at *
  go_wp2_with fail
  generalize ((((w1.setCell ⟨w.heap.size, 0, none⟩ (.bool mf)).setCell ⟨w.heap.size, 1, none⟩ (.slice e1 ms.length f1)).setCell ⟨w.heap.size, 2, none⟩ (.slice e2 mk.length f2)).setCell ⟨w.heap.size, 3, none⟩ (.slice e3 md.length f3)) = w2 at *
  clear x0 x1 x2 x3 z0 z1 z2 z3 q0 q1 q2 q3
  refine (HEN2 w2 HL2.out).mono ?_
  rintro e w3 ⟨rfl, hB3⟩
  have HB3 : Hid (Below w.heap.size w w3) := HB2.out.trans (hB3.mono (by omega))
  have HN3 : Hid (Brow w3 w.heap.size [.bool mf, .slice e1 ms.length f1, .slice e2 mk.length f2, .slice e3 md.length f3] 26) := HN2.out.below hB3 (by omega)
  have HC3 : Hid (Brow w3 (w.heap.size + 1) [.string ck, .string cx, .int .i64 co, .int .i64 cl] 28) := HC2.out.below hB3 (by omega)
  have HL3 : Hid (Lies w3 ⟨mf, ms, mk, md⟩ ⟨e1, f1, e2, f2, e3, f3⟩) := HL2.out.below hB3
  have hs3 : w.heap.size + 2 ≤ w3.heap.size := Nat.le_trans hs2 hB3.size
  clear hB3 HB2 HN2 HC2 HL2 HEN2 hs2
  have q0 := HN3.out.at 0 _ rfl
  have q1 := HN3.out.at 1 _ rfl
  have q2 := HN3.out.at 2 _ rfl
  have q3 := HN3.out.at 3 _ rfl
  by_cases hE1 : E1 = 0
  · subst hE1
    cases mf with
    | false =>
      clear HOK
      go_wp2_with fail
      refine (works_any w3).mono ?_
      rintro e wz ⟨rfl, hBz⟩
      have HBz : Hid (Below w.heap.size w wz) := HB3.out.trans (hBz.mono (by omega))
      clear hBz
      go_wp2
      go_ret
      exact ⟨rfl, HBz.out⟩
    | true =>
      have y0 := HC3.out.at 0 _ rfl
      have y1 := HC3.out.at 1 _ rfl
      have y2 := HC3.out.at 2 _ rfl
      have y3 := HC3.out.at 3 _ rfl
      go_wp2_with fail
      refine (HPU2 w3 HL3.out).mono ?_
      rintro e w4 ⟨⟨g1, h1, g2, h2, g3, h3⟩, rfl, hL4, hB4⟩
      have HB4 : Hid (Below w.heap.size w w4) := HB3.out.trans (hB4.mono (by omega))
      have hs4 : w.heap.size + 2 ≤ w4.heap.size := Nat.le_trans hs3 hB4.size
      have HL4 : Hid (Lies w4 ⟨uf, us, uk, ud⟩ ⟨g1, h1, g2, h2, g3, h3⟩) := hL4.lies
      clear hL4 hB4 HPU2 q0 q1 q2 q3 y0 y1 y2 y3 HL3 HN3 HC3 HB3
      have HB5 : Hid (Below w.heap.size w (w4.alloc (.cells #[.bool uf, .slice g1 us.length h1, .slice g2 uk.length h2, .slice g3 ud.length h3] 26))) := HB4.out.alloc (by omega) _
      have HL5 : Hid (Lies (w4.alloc (.cells #[.bool uf, .slice g1 us.length h1, .slice g2 uk.length h2, .slice g3 ud.length h3] 26)) ⟨uf, us, uk, ud⟩ ⟨g1, h1, g2, h2, g3, h3⟩) := HL4.out.below (below_alloc _ _)
      have HX5 : Hid (Brow (w4.alloc (.cells #[.bool uf, .slice g1 us.length h1, .slice g2 uk.length h2, .slice g3 ud.length h3] 26)) w4.heap.size [.bool uf, .slice g1 us.length h1, .slice g2 uk.length h2, .slice g3 ud.length h3] 26) := Brow.new w4 _ 26
      have hs5 : w4.heap.size + 1 ≤ (w4.alloc (.cells #[.bool uf, .slice g1 us.length h1, .slice g2 uk.length h2, .slice g3 ud.length h3] 26)).heap.size := by rw [size_alloc1]; omega
      go_wp2_with fail
      generalize (w4.alloc (.cells #[.bool uf, .slice g1 us.length h1, .slice g2 uk.length h2, .slice g3 ud.length h3] 26)) = w5 at *
      refine (HCH ⟨g1, h1, g2, h2, g3, h3⟩ w5 HL5.out).mono ?_
      rintro e w6 ⟨rfl, hB6⟩
      have HB6 : Hid (Below w.heap.size w w6) := HB5.out.trans (hB6.mono (by omega))
      have HL6 : Hid (Lies w6 ⟨uf, us, uk, ud⟩ ⟨g1, h1, g2, h2, g3, h3⟩) := HL5.out.below hB6
      have HX6 : Hid (Brow w6 w4.heap.size [.bool uf, .slice g1 us.length h1, .slice g2 uk.length h2, .slice g3 ud.length h3] 26) := HX5.out.below hB6 (by omega)
      have hs6 : w4.heap.size + 1 ≤ w6.heap.size := Nat.le_trans hs5 hB6.size
      clear hB6 HB5 HL5 HX5 hs5 HCH HL4 HB4
      have p0 := HX6.out.at 0 _ rfl
      have p1 := HX6.out.at 1 _ rfl
      have p2 := HX6.out.at 2 _ rfl
      have p3 := HX6.out.at 3 _ rfl
      by_cases hE5 : E5 = 0
      · have HFIN := (show Hid _ from HOK.out (by first | rfl | trivial) (by first | rfl | trivial) hE5)
        subst hE5
        clear HOK
        go_wp2_with fail
        refine (HSZ ⟨g1, h1, g2, h2, g3, h3⟩ w6 HL6.out).mono ?_
        rintro e w7 ⟨rfl, hB7⟩
        have HB7 : Hid (Below w.heap.size w w7) := HB6.out.trans (hB7.mono (by omega))
        have HL7 : Hid (Lies w7 ⟨uf, us, uk, ud⟩ ⟨g1, h1, g2, h2, g3, h3⟩) := HL6.out.below hB7
        have HX7 : Hid (Brow w7 w4.heap.size [.bool uf, .slice g1 us.length h1, .slice g2 uk.length h2, .slice g3 ud.length h3] 26) := HX6.out.below hB7 (by omega)
        have hs7 : w4.heap.size + 1 ≤ w7.heap.size := Nat.le_trans hs6 hB7.size
        clear hB7 HB6 HL6 HX6 hs6 HSZ p0 p1 p2 p3
        have p0 := HX7.out.at 0 _ rfl
        have p1 := HX7.out.at 1 _ rfl
        have p2 := HX7.out.at 2 _ rfl
        have p3 := HX7.out.at 3 _ rfl
        by_cases hZ : Z ≤ 500
        · have d1 : decide ((Z : Int) ≤ 500) = true := decide_eq_true (by omega)
          have hE4 : E4 = 0 := by
            rcases HFIN.out.1 with h | h
            · exact h
            · exact absurd hZ h
          subst hE4
          clear HFIN
          go_wp2_with fail
          refine (HEP ⟨g1, h1, g2, h2, g3, h3⟩ w7 HL7.out).mono ?_
          rintro e w8 ⟨rfl, hB8⟩
          have HB8 : Hid (Below w.heap.size w w8) := HB7.out.trans (hB8.mono (by omega))
          have hs8 : w.heap.size ≤ w8.heap.size := HB8.out.size
          clear hB8 p0 p1 p2 p3
          go_wp2_with fail
          refine (works_any w8).mono ?_
          rintro e wz ⟨rfl, hBz⟩
          have HBz : Hid (Below w.heap.size w wz) := HB8.out.trans (hBz.mono (by omega))
          clear hBz
          go_wp2
          go_ret
          exact ⟨rfl, HBz.out⟩
        · have d1 : decide ((Z : Int) ≤ 500) = false := decide_eq_false (by omega)
          obtain ⟨hE6, hE2, hE3⟩ := HFIN.out.2 hZ
          subst hE6 hE2 hE3
          clear HFIN
          go_wp2_with fail
          refine (HSP ⟨g1, h1, g2, h2, g3, h3⟩ w7 HL7.out).mono ?_
          rintro e w8 ⟨⟨r1, s1, r2, s2, r3, s3⟩, ⟨t1, v1, t2, v2, t3, v3⟩, rfl, hLa, hLb, hB8⟩
          have HB8 : Hid (Below w.heap.size w w8) := HB7.out.trans (hB8.mono (by omega))
          have hs8 : w.heap.size ≤ w8.heap.size := HB8.out.size
          have HA8 := (show Hid (Lies w8 ⟨xf, xs, xk, xd⟩ ⟨r1, s1, r2, s2, r3, s3⟩ ∧ Lies w8 ⟨yf, ys, yk, yd⟩ ⟨t1, v1, t2, v2, t3, v3⟩) from ⟨hLa.lies, hLb.lies⟩)
          clear hB8 p0 p1 p2 p3 hLa hLb HB7 HL7 HX7
          have HB9 : Hid (Below w.heap.size w ((w8.alloc (.cells #[.bool xf, .slice r1 xs.length s1, .slice r2 xk.length s2, .slice r3 xd.length s3] 26)).alloc (.cells #[.bool yf, .slice t1 ys.length v1, .slice t2 yk.length v2, .slice t3 yd.length v3] 26))) := (HB8.out.alloc hs8 _).alloc (by rw [size_alloc1]; omega) _
          have HA9 := (show Hid (Lies ((w8.alloc (.cells #[.bool xf, .slice r1 xs.length s1, .slice r2 xk.length s2, .slice r3 xd.length s3] 26)).alloc (.cells #[.bool yf, .slice t1 ys.length v1, .slice t2 yk.length v2, .slice t3 yd.length v3] 26)) ⟨xf, xs, xk, xd⟩ ⟨r1, s1, r2, s2, r3, s3⟩ ∧ Lies ((w8.alloc (.cells #[.bool xf, .slice r1 xs.length s1, .slice r2 xk.length s2, .slice r3 xd.length s3] 26)).alloc (.cells #[.bool yf, .slice t1 ys.length v1, .slice t2 yk.length v2, .slice t3 yd.length v3] 26)) ⟨yf, ys, yk, yd⟩ ⟨t1, v1, t2, v2, t3, v3⟩) from ⟨(HA8.out.1.below (below_alloc _ _)).below (below_alloc _ _), (HA8.out.2.below (below_alloc _ _)).below (below_alloc _ _)⟩)
          have HY9 : Hid (Brow ((w8.alloc (.cells #[.bool xf, .slice r1 xs.length s1, .slice r2 xk.length s2, .slice r3 xd.length s3] 26)).alloc (.cells #[.bool yf, .slice t1 ys.length v1, .slice t2 yk.length v2, .slice t3 yd.length v3] 26)) (w8.heap.size + 1) [.bool yf, .slice t1 ys.length v1, .slice t2 yk.length v2, .slice t3 yd.length v3] 26) := by
            have := Brow.new (w8.alloc (.cells #[.bool xf, .slice r1 xs.length s1, .slice r2 xk.length s2, .slice r3 xd.length s3] 26)) [.bool yf, .slice t1 ys.length v1, .slice t2 yk.length v2, .slice t3 yd.length v3] 26
            rwa [size_alloc1] at this
          have hs9 : w8.heap.size + 2 ≤ ((w8.alloc (.cells #[.bool xf, .slice r1 xs.length s1, .slice r2 xk.length s2, .slice r3 xd.length s3] 26)).alloc (.cells #[.bool yf, .slice t1 ys.length v1, .slice t2 yk.length v2, .slice t3 yd.length v3] 26)).heap.size := by rw [size_alloc1, size_alloc1]; omega
          go_wp2_with fail
          generalize ((w8.alloc (.cells #[.bool xf, .slice r1 xs.length s1, .slice r2 xk.length s2, .slice r3 xd.length s3] 26)).alloc (.cells #[.bool yf, .slice t1 ys.length v1, .slice t2 yk.length v2, .slice t3 yd.length v3] 26)) = w9 at *
          refine (HEL ⟨r1, s1, r2, s2, r3, s3⟩ w9 HA9.out.1).mono ?_
          rintro e wA ⟨rfl, hBA⟩
          have HBA : Hid (Below w.heap.size w wA) := HB9.out.trans (hBA.mono (by omega))
          have HYA : Hid (Brow wA (w8.heap.size + 1) [.bool yf, .slice t1 ys.length v1, .slice t2 yk.length v2, .slice t3 yd.length v3] 26) := HY9.out.below hBA (by omega)
          have HAA : Hid (Lies wA ⟨yf, ys, yk, yd⟩ ⟨t1, v1, t2, v2, t3, v3⟩) := HA9.out.2.below hBA
          have hsA : w.heap.size ≤ wA.heap.size := HBA.out.size
          clear hBA HB9 HA9 HY9 hs9 HA8 HB8
          have p0 := HYA.out.at 0 _ rfl
          have p1 := HYA.out.at 1 _ rfl
          have p2 := HYA.out.at 2 _ rfl
          have p3 := HYA.out.at 3 _ rfl
          go_wp2_with fail
          refine (HER ⟨t1, v1, t2, v2, t3, v3⟩ wA HAA.out).mono ?_
          rintro e wB ⟨rfl, hBB⟩
          have HBB : Hid (Below w.heap.size w wB) := HBA.out.trans (hBB.mono (by omega))
          have hsB : w.heap.size ≤ wB.heap.size := HBB.out.size
          clear hBB p0 p1 p2 p3
          go_wp2_with fail
          refine (works_any wB).mono ?_
          rintro e wz ⟨rfl, hBz⟩
          have HBz : Hid (Below w.heap.size w wz) := HBB.out.trans (hBz.mono (by omega))
          clear hBz
          go_wp2
          go_ret
          exact ⟨rfl, HBz.out⟩
      · have hE5' : (E5 != 0) = true := by simpa using hE5
        have hE5'' : (E5 == 0) = false := by simpa using hE5
        clear HOK
        go_wp2_with fail
        refine (works_any w6).mono ?_
        rintro e wz ⟨rfl, hBz⟩
        have HBz : Hid (Below w.heap.size w wz) := HB6.out.trans (hBz.mono (by omega))
        clear hBz
        go_wp2
        go_ret
        exact ⟨rfl, HBz.out⟩
  · have hE1' : (E1 != 0) = true := by simpa using hE1
    have hE1'' : (E1 == 0) = false := by simpa using hE1
    clear HOK
    go_wp2_with fail
    refine (works_any w3).mono ?_
    rintro e wz ⟨rfl, hBz⟩
    have HBz : Hid (Below w.heap.size w wz) := HB3.out.trans (hBz.mono (by omega))
    clear hBz
    go_wp2
    go_ret
    exact ⟨rfl, HBz.out⟩
end Go.Proofs.Ytoinaplmgffkpaa
