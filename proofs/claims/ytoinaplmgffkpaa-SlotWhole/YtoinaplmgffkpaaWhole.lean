/- Proved: SlotWhole's walk (stage 11). -/
import Derived.Test.YtoinaplmgffkpaaLBase
import Derived.Test.YtoinaplmgffkpaaHalves
import Derived.Test.YtoinaplmgffkpaaJoin
import Derived.Test.YtoinaplmgffkpaaSame
namespace Go.Proofs.Ytoinaplmgffkpaa
open Go.RowKit
open Sl (Cel Nod)
theorem sizeE_may {n : Nod} (h : Sl.may n = true) : sizeE n = sizeN n := by unfold sizeE; rw [if_pos h]
theorem lt_not {a b : ByteArray} (h : Sl.lt b a = true) : Op.bytesLess a.toList b.toList = false ∧ (a.toList == b.toList) = false := by
  refine ⟨Sl.lt_asymm h, ?_⟩
  have h2 : (a.toList == b.toList) = decide (a = b) := eq_list _ _
  rw [h2]
  exact decide_eq_false fun e => by
    subst e
    rw [Sl.lt_irrefl] at h
    cases h
set_option maxHeartbeats 8000000 in
set_option maxRecDepth 20000 in
theorem whole_walk (n : Nod) (p : Pt) (w : World) (hN : Lies w n p) (h0 : In0 n) :
    Calls Try.prog 6 #[nv n p] w fun e w' => e = .returned (.bool true) ∧ Below w.heap.size w w' := by
  have HFW := fun (W : World) (hW : Below w.heap.size w W) => few_call hN h0 hW
  have hfit := few_fit h0
  have hlen := few_len n
  clear hN h0
  generalize fewN n = m at *
  have hfs := fit_spl hfit
  have HSP := fun (q : Pt) (W : World) (h : Lies W m q) => (split_any m q W h hfit).mono (fun _ _ hx => hx.ex)
  have HE0 : Is (spE m) (if spOk m then 0 else 2) := ⟨rfl⟩
  have HKS := (show Hid ((spK m).size ≤ 140737488355328) from by
    have hk0 : (⟨#[]⟩ : ByteArray).size ≤ 140737488355328 := by decide
    have hc0 : Sl.cel0.key.size ≤ 140737488355328 := by decide
    have he0 : ByteArray.empty.size ≤ 140737488355328 := by decide
    show (spK m).size ≤ 140737488355328
    unfold spK
    split
    · split
      · by_cases h : spP m < m.cells.length
        · exact (hfit.cells _ (Sl.getD_mem m.cells _ Sl.cel0 h)).key
        · rw [List.getD_eq_getElem?_getD, List.getElem?_eq_none (by omega)]; exact hc0
      · by_cases h : spP m < m.keys.length
        · exact hfit.keys _ (Sl.getD_mem m.keys _ ByteArray.empty h)
        · rw [List.getD_eq_getElem?_getD, List.getElem?_eq_none (by omega)]; exact he0
    · exact hk0)
  have HWH := (show Hid (spOk m = true → Whole m (spL m) (spR m) (spK m)) from whole_ok)
  have HLN := (show Hid ((spL m).cells.length + (spR m).cells.length ≤ 900 ∧ (spL m).keys.length + (spR m).keys.length ≤ 900 ∧ (spL m).kids.length + (spR m).kids.length ≤ 900) from by
    show _ ∧ _
    unfold spL spR
    split
    · split
      · simp only [List.length_take, List.length_drop, List.length_nil]; omega
      · simp only [List.length_take, List.length_drop, List.length_nil]; omega
    · simp only [Sl.nod0, List.length_nil]; omega)
  have HJ0 := fun (q q' : Pt) (W : World) (h : Lies W (spL m) q) (h' : Lies W (spR m) q') => (join_any (spL m) (spR m) q q' (spK m) W h h' hfs.1 hfs.2 HKS.out HLN.out.1 HLN.out.2.1 HLN.out.2.2).mono (fun _ _ hx => hx.ex)
  have HSM := fun (q q' : Pt) (W : World) (h : Lies W m q) (h' : Lies W m q') => same_yes m q q' W h h' hfit.l1 hfit.l2 hfit.l3
  have HCL := fun (q : Pt) (W : World) (h : Lies W (spL m) q) => check_any (spL m) q W h hfs.1
  have HCR := fun (q : Pt) (W : World) (h : Lies W (spR m) q) => check_any (spR m) q W h hfs.2
  have HZL := fun (q : Pt) (W : World) (h : Lies W (spL m) q) => size_any (spL m) q W h hfs.1
  have HZR := fun (q : Pt) (W : World) (h : Lies W (spR m) q) => size_any (spR m) q W h hfs.2
  have HZM := fun (q : Pt) (W : World) (h : Lies W m q) => size_any m q W h hfit
  have hxl := hfs.1.l1
  have hyl := hfs.2.l1
  have hxk := hfs.1.l2
  have hyk := hfs.2.l2
  have HOM := (show Hid (spOk m = true → Sl.may m = true) from fun h => by
    unfold spOk at h
    rw [Bool.and_eq_true] at h
    exact h.1)
  clear hfit hfs hlen HKS HLN
  generalize spE m = E at *
  generalize spK m = K at *
  generalize spL m = LL at *
  generalize spR m = RR at *
  generalize spOk m = OK at *
  obtain ⟨lf, cs, ks, ds⟩ := n
  obtain ⟨a1, c1, a2, c2, a3, c3⟩ := p
  have HB0 : Hid (Below w.heap.size w (w.alloc (.cells #[.bool lf, .slice a1 cs.length c1, .slice a2 ks.length c2, .slice a3 ds.length c3] 26))) := below_alloc _ _
  have HN0 : Hid (Brow (w.alloc (.cells #[.bool lf, .slice a1 cs.length c1, .slice a2 ks.length c2, .slice a3 ds.length c3] 26)) w.heap.size [.bool lf, .slice a1 cs.length c1, .slice a2 ks.length c2, .slice a3 ds.length c3] 26) := Brow.new w [.bool lf, .slice a1 cs.length c1, .slice a2 ks.length c2, .slice a3 ds.length c3] 26
  have hs0 : w.heap.size + 1 ≤ (w.alloc (.cells #[.bool lf, .slice a1 cs.length c1, .slice a2 ks.length c2, .slice a3 ds.length c3] 26)).heap.size := by rw [size_alloc1]; omega
  cases OK with
  | false =>
    clear HWH HJ0 HSM HCL HCR HZL HZR HZM HOM hxl hyl hxk hyk
    rw [if_neg (by simp)] at HE0
    have hE := HE0.eq
    subst hE
    clear HE0
    obtain ⟨mf, ms, mk, md⟩ := m
    obtain ⟨xf, xs, xk, xd⟩ := LL
    obtain ⟨yf, ys, yk, yd⟩ := RR
    unfold nv at *
    simp only at HFW HSP ⊢
    go_enter Try.func6, Try.ntmps6
    go_wp2_with fail
    refine (HFW _ HB0.out).mono ?_
    rintro e w1 ⟨⟨e1, f1, e2, f2, e3, f3⟩, rfl, hL1, hB1⟩
    have HB1 : Hid (Below w.heap.size w w1) := HB0.out.trans (hB1.mono (by omega))
    have HN1 : Hid (Brow w1 w.heap.size [.bool lf, .slice a1 cs.length c1, .slice a2 ks.length c2, .slice a3 ds.length c3] 26) := HN0.out.below hB1 (by omega)
    have HL1 : Hid (LiesF w1 (w.heap.size + 1) ⟨mf, ms, mk, md⟩ ⟨e1, f1, e2, f2, e3, f3⟩) := hL1.mono hs0
    have hs1 : w.heap.size + 1 ≤ w1.heap.size := Nat.le_trans hs0 hB1.size
    clear hL1 hB1 HB0 HN0 hs0 HFW
    have HN2 := (show Hid (Brow (setN w1 w.heap.size (.bool mf) (.slice e1 ms.length f1) (.slice e2 mk.length f2) (.slice e3 md.length f3)) w.heap.size [.bool mf, .slice e1 ms.length f1, .slice e2 mk.length f2, .slice e3 md.length f3] 26) from setN_row HN1.out _ _ _ _)
    have HL2 := (show Hid (Lies (setN w1 w.heap.size (.bool mf) (.slice e1 ms.length f1) (.slice e2 mk.length f2) (.slice e3 md.length f3)) ⟨mf, ms, mk, md⟩ ⟨e1, f1, e2, f2, e3, f3⟩) from (setN_lies HL1.out (by omega) _ _ _ _).lies)
    have HB2 := (show Hid (Below w.heap.size w (setN w1 w.heap.size (.bool mf) (.slice e1 ms.length f1) (.slice e2 mk.length f2) (.slice e3 md.length f3))) from setN_below HB1.out (by omega) _ _ _ _)
    have hs2 : w.heap.size + 1 ≤ (setN w1 w.heap.size (.bool mf) (.slice e1 ms.length f1) (.slice e2 mk.length f2) (.slice e3 md.length f3)).heap.size := by rw [size_setN]; exact hs1
    have x0 := HN1.out.at 0 _ rfl
    have x1 := HN1.out.at 1 _ rfl
    have x2 := HN1.out.at 2 _ rfl
    have x3 := HN1.out.at 3 _ rfl
    have z0 := HN1.out.fz 0
    have z1 := HN1.out.fz 1
    have z2 := HN1.out.fz 2
    have z3 := HN1.out.fz 3
    have q0 := HN2.out.at 0 _ rfl
    have q1 := HN2.out.at 1 _ rfl
    have q2 := HN2.out.at 2 _ rfl
    have q3 := HN2.out.at 3 _ rfl
    clear HN1 HL1 HB1
    unfold setN at *
    go_wp2_with fail
    generalize ((((w1.setCell ⟨w.heap.size, 0, none⟩ (.bool mf)).setCell ⟨w.heap.size, 1, none⟩ (.slice e1 ms.length f1)).setCell ⟨w.heap.size, 2, none⟩ (.slice e2 mk.length f2)).setCell ⟨w.heap.size, 3, none⟩ (.slice e3 md.length f3)) = w2 at *
    clear x0 x1 x2 x3 z0 z1 z2 z3 q0 q1 q2 q3
    refine (HSP ⟨e1, f1, e2, f2, e3, f3⟩ w2 HL2.out).mono ?_
    rintro e w3 ⟨⟨r1, s1, r2, s2, r3, s3⟩, ⟨t1, v1, t2, v2, t3, v3⟩, rfl, hLa, hLb, hB3⟩
    have HS4 := (show Hid (Below w.heap.size w ((w3.alloc (.cells #[.bool xf, .slice r1 xs.length s1, .slice r2 xk.length s2, .slice r3 xd.length s3] 26)).alloc (.cells #[.bool yf, .slice t1 ys.length v1, .slice t2 yk.length v2, .slice t3 yd.length v3] 26)) ∧ (Brow ((w3.alloc (.cells #[.bool xf, .slice r1 xs.length s1, .slice r2 xk.length s2, .slice r3 xd.length s3] 26)).alloc (.cells #[.bool yf, .slice t1 ys.length v1, .slice t2 yk.length v2, .slice t3 yd.length v3] 26)) w.heap.size [.bool mf, .slice e1 ms.length f1, .slice e2 mk.length f2, .slice e3 md.length f3] 26 ∧ Brow ((w3.alloc (.cells #[.bool xf, .slice r1 xs.length s1, .slice r2 xk.length s2, .slice r3 xd.length s3] 26)).alloc (.cells #[.bool yf, .slice t1 ys.length v1, .slice t2 yk.length v2, .slice t3 yd.length v3] 26)) w3.heap.size [.bool xf, .slice r1 xs.length s1, .slice r2 xk.length s2, .slice r3 xd.length s3] 26 ∧ Brow ((w3.alloc (.cells #[.bool xf, .slice r1 xs.length s1, .slice r2 xk.length s2, .slice r3 xd.length s3] 26)).alloc (.cells #[.bool yf, .slice t1 ys.length v1, .slice t2 yk.length v2, .slice t3 yd.length v3] 26)) (w3.heap.size + 1) [.bool yf, .slice t1 ys.length v1, .slice t2 yk.length v2, .slice t3 yd.length v3] 26) ∧ Lies ((w3.alloc (.cells #[.bool xf, .slice r1 xs.length s1, .slice r2 xk.length s2, .slice r3 xd.length s3] 26)).alloc (.cells #[.bool yf, .slice t1 ys.length v1, .slice t2 yk.length v2, .slice t3 yd.length v3] 26)) ⟨mf, ms, mk, md⟩ ⟨e1, f1, e2, f2, e3, f3⟩ ∧ Lies ((w3.alloc (.cells #[.bool xf, .slice r1 xs.length s1, .slice r2 xk.length s2, .slice r3 xd.length s3] 26)).alloc (.cells #[.bool yf, .slice t1 ys.length v1, .slice t2 yk.length v2, .slice t3 yd.length v3] 26)) ⟨xf, xs, xk, xd⟩ ⟨r1, s1, r2, s2, r3, s3⟩ ∧ Lies ((w3.alloc (.cells #[.bool xf, .slice r1 xs.length s1, .slice r2 xk.length s2, .slice r3 xd.length s3] 26)).alloc (.cells #[.bool yf, .slice t1 ys.length v1, .slice t2 yk.length v2, .slice t3 yd.length v3] 26)) ⟨yf, ys, yk, yd⟩ ⟨t1, v1, t2, v2, t3, v3⟩) from by
      have hA : Below w3.heap.size w3 ((w3.alloc (.cells #[.bool xf, .slice r1 xs.length s1, .slice r2 xk.length s2, .slice r3 xd.length s3] 26)).alloc (.cells #[.bool yf, .slice t1 ys.length v1, .slice t2 yk.length v2, .slice t3 yd.length v3] 26)) := (below_alloc _ _).alloc (by rw [size_alloc1]; omega) _
      have hz3 := hB3.size
      refine ⟨(HB2.out.trans (hB3.mono (by omega))).trans (hA.mono (by omega)), ⟨(HN2.out.below hB3 (by omega)).below hA (by omega), (Brow.new w3 [.bool xf, .slice r1 xs.length s1, .slice r2 xk.length s2, .slice r3 xd.length s3] 26).alloc _, ?_⟩, (HL2.out.below hB3).below hA, hLa.lies.below hA, hLb.lies.below hA⟩
      have := Brow.new (w3.alloc (.cells #[.bool xf, .slice r1 xs.length s1, .slice r2 xk.length s2, .slice r3 xd.length s3] 26)) [.bool yf, .slice t1 ys.length v1, .slice t2 yk.length v2, .slice t3 yd.length v3] 26
      rwa [size_alloc1] at this)
    have hs4 : w3.heap.size + 2 ≤ ((w3.alloc (.cells #[.bool xf, .slice r1 xs.length s1, .slice r2 xk.length s2, .slice r3 xd.length s3] 26)).alloc (.cells #[.bool yf, .slice t1 ys.length v1, .slice t2 yk.length v2, .slice t3 yd.length v3] 26)).heap.size := by rw [size_alloc1, size_alloc1]; omega
    have hA1 : w.heap.size + 1 ≤ w3.heap.size := Nat.le_trans hs2 hB3.size
    clear hLa hLb hB3 HSP HB2 HN2 HL2 hs2 hs1
    go_upto_region 3 with fail
    generalize ((w3.alloc (.cells #[.bool xf, .slice r1 xs.length s1, .slice r2 xk.length s2, .slice r3 xd.length s3] 26)).alloc (.cells #[.bool yf, .slice t1 ys.length v1, .slice t2 yk.length v2, .slice t3 yd.length v3] 26)) = w4 at *
    generalize w3.heap.size = A at *
    have HB4 : Hid (Below w.heap.size w w4) := HS4.out.1
    go_wp2_with fail
    refine (works_any w4).mono ?_
    rintro e wz ⟨rfl, hBz⟩
    have HBz : Hid (Below w.heap.size w wz) := HB4.out.trans (hBz.mono (by have := HB4.out.size; omega))
    clear hBz
    go_wp2
    go_ret
    exact ⟨rfl, HBz.out⟩
  | true =>
    have HW := (show Hid (Whole m LL RR K) from HWH.out rfl)
    rw [if_pos rfl] at HE0
    have hE := HE0.eq
    subst hE
    clear HE0 HWH
    unfold joinR joinE at HJ0
    rw [HW.out.jo, HW.out.jn] at HJ0
    unfold checkE at HCL HCR
    rw [HW.out.ml] at HCL
    rw [HW.out.mr] at HCR
    rw [sizeE_may HW.out.ml] at HZL
    rw [sizeE_may HW.out.mr] at HZR
    rw [sizeE_may (HOM.out rfl)] at HZM
    simp only [if_true] at HJ0 HCL HCR
    have hz1 : sizeN LL < sizeN m := HW.out.sl
    have hz2 : sizeN RR < sizeN m := HW.out.sr
    have HO1 := (show Hid ((∀ c ∈ LL.cells, Sl.lt c.key K = true) ∧ (∀ c ∈ RR.cells, Sl.lt c.key K = false) ∧ (∀ x ∈ LL.keys, Sl.lt x K = true) ∧ ∀ x ∈ RR.keys, Sl.lt K x = true) from ⟨HW.out.c1, HW.out.c2, HW.out.k1, HW.out.k2⟩)
    clear HW HOM
    generalize sizeN LL = ZL at *
    generalize sizeN RR = ZR at *
    generalize sizeN m = ZM at *
    have d1 : decide ((ZM : Int) ≤ (ZL : Int)) = false := decide_eq_false (by omega)
    have d2 : decide ((ZM : Int) ≤ (ZR : Int)) = false := decide_eq_false (by omega)
    obtain ⟨mf, ms, mk, md⟩ := m
    obtain ⟨xf, xs, xk, xd⟩ := LL
    obtain ⟨yf, ys, yk, yd⟩ := RR
    unfold nv at *
    simp only at HFW HSP HJ0 HSM HCL HCR HZL HZR HZM HO1 hxl hyl hxk hyk ⊢
    go_enter Try.func6, Try.ntmps6
    go_wp2_with fail
    refine (HFW _ HB0.out).mono ?_
    rintro e w1 ⟨⟨e1, f1, e2, f2, e3, f3⟩, rfl, hL1, hB1⟩
    have HB1 : Hid (Below w.heap.size w w1) := HB0.out.trans (hB1.mono (by omega))
    have HN1 : Hid (Brow w1 w.heap.size [.bool lf, .slice a1 cs.length c1, .slice a2 ks.length c2, .slice a3 ds.length c3] 26) := HN0.out.below hB1 (by omega)
    have HL1 : Hid (LiesF w1 (w.heap.size + 1) ⟨mf, ms, mk, md⟩ ⟨e1, f1, e2, f2, e3, f3⟩) := hL1.mono hs0
    have hs1 : w.heap.size + 1 ≤ w1.heap.size := Nat.le_trans hs0 hB1.size
    clear hL1 hB1 HB0 HN0 hs0 HFW
    have HN2 := (show Hid (Brow (setN w1 w.heap.size (.bool mf) (.slice e1 ms.length f1) (.slice e2 mk.length f2) (.slice e3 md.length f3)) w.heap.size [.bool mf, .slice e1 ms.length f1, .slice e2 mk.length f2, .slice e3 md.length f3] 26) from setN_row HN1.out _ _ _ _)
    have HL2 := (show Hid (Lies (setN w1 w.heap.size (.bool mf) (.slice e1 ms.length f1) (.slice e2 mk.length f2) (.slice e3 md.length f3)) ⟨mf, ms, mk, md⟩ ⟨e1, f1, e2, f2, e3, f3⟩) from (setN_lies HL1.out (by omega) _ _ _ _).lies)
    have HB2 := (show Hid (Below w.heap.size w (setN w1 w.heap.size (.bool mf) (.slice e1 ms.length f1) (.slice e2 mk.length f2) (.slice e3 md.length f3))) from setN_below HB1.out (by omega) _ _ _ _)
    have hs2 : w.heap.size + 1 ≤ (setN w1 w.heap.size (.bool mf) (.slice e1 ms.length f1) (.slice e2 mk.length f2) (.slice e3 md.length f3)).heap.size := by rw [size_setN]; exact hs1
    have x0 := HN1.out.at 0 _ rfl
    have x1 := HN1.out.at 1 _ rfl
    have x2 := HN1.out.at 2 _ rfl
    have x3 := HN1.out.at 3 _ rfl
    have z0 := HN1.out.fz 0
    have z1 := HN1.out.fz 1
    have z2 := HN1.out.fz 2
    have z3 := HN1.out.fz 3
    have q0 := HN2.out.at 0 _ rfl
    have q1 := HN2.out.at 1 _ rfl
    have q2 := HN2.out.at 2 _ rfl
    have q3 := HN2.out.at 3 _ rfl
    clear HN1 HL1 HB1
    unfold setN at *
    go_wp2_with fail
    generalize ((((w1.setCell ⟨w.heap.size, 0, none⟩ (.bool mf)).setCell ⟨w.heap.size, 1, none⟩ (.slice e1 ms.length f1)).setCell ⟨w.heap.size, 2, none⟩ (.slice e2 mk.length f2)).setCell ⟨w.heap.size, 3, none⟩ (.slice e3 md.length f3)) = w2 at *
    clear x0 x1 x2 x3 z0 z1 z2 z3 q0 q1 q2 q3
    refine (HSP ⟨e1, f1, e2, f2, e3, f3⟩ w2 HL2.out).mono ?_
    rintro e w3 ⟨⟨r1, s1, r2, s2, r3, s3⟩, ⟨t1, v1, t2, v2, t3, v3⟩, rfl, hLa, hLb, hB3⟩
    have HS4 := (show Hid (Below w.heap.size w ((w3.alloc (.cells #[.bool xf, .slice r1 xs.length s1, .slice r2 xk.length s2, .slice r3 xd.length s3] 26)).alloc (.cells #[.bool yf, .slice t1 ys.length v1, .slice t2 yk.length v2, .slice t3 yd.length v3] 26)) ∧ (Brow ((w3.alloc (.cells #[.bool xf, .slice r1 xs.length s1, .slice r2 xk.length s2, .slice r3 xd.length s3] 26)).alloc (.cells #[.bool yf, .slice t1 ys.length v1, .slice t2 yk.length v2, .slice t3 yd.length v3] 26)) w.heap.size [.bool mf, .slice e1 ms.length f1, .slice e2 mk.length f2, .slice e3 md.length f3] 26 ∧ Brow ((w3.alloc (.cells #[.bool xf, .slice r1 xs.length s1, .slice r2 xk.length s2, .slice r3 xd.length s3] 26)).alloc (.cells #[.bool yf, .slice t1 ys.length v1, .slice t2 yk.length v2, .slice t3 yd.length v3] 26)) w3.heap.size [.bool xf, .slice r1 xs.length s1, .slice r2 xk.length s2, .slice r3 xd.length s3] 26 ∧ Brow ((w3.alloc (.cells #[.bool xf, .slice r1 xs.length s1, .slice r2 xk.length s2, .slice r3 xd.length s3] 26)).alloc (.cells #[.bool yf, .slice t1 ys.length v1, .slice t2 yk.length v2, .slice t3 yd.length v3] 26)) (w3.heap.size + 1) [.bool yf, .slice t1 ys.length v1, .slice t2 yk.length v2, .slice t3 yd.length v3] 26) ∧ Lies ((w3.alloc (.cells #[.bool xf, .slice r1 xs.length s1, .slice r2 xk.length s2, .slice r3 xd.length s3] 26)).alloc (.cells #[.bool yf, .slice t1 ys.length v1, .slice t2 yk.length v2, .slice t3 yd.length v3] 26)) ⟨mf, ms, mk, md⟩ ⟨e1, f1, e2, f2, e3, f3⟩ ∧ Lies ((w3.alloc (.cells #[.bool xf, .slice r1 xs.length s1, .slice r2 xk.length s2, .slice r3 xd.length s3] 26)).alloc (.cells #[.bool yf, .slice t1 ys.length v1, .slice t2 yk.length v2, .slice t3 yd.length v3] 26)) ⟨xf, xs, xk, xd⟩ ⟨r1, s1, r2, s2, r3, s3⟩ ∧ Lies ((w3.alloc (.cells #[.bool xf, .slice r1 xs.length s1, .slice r2 xk.length s2, .slice r3 xd.length s3] 26)).alloc (.cells #[.bool yf, .slice t1 ys.length v1, .slice t2 yk.length v2, .slice t3 yd.length v3] 26)) ⟨yf, ys, yk, yd⟩ ⟨t1, v1, t2, v2, t3, v3⟩) from by
      have hA : Below w3.heap.size w3 ((w3.alloc (.cells #[.bool xf, .slice r1 xs.length s1, .slice r2 xk.length s2, .slice r3 xd.length s3] 26)).alloc (.cells #[.bool yf, .slice t1 ys.length v1, .slice t2 yk.length v2, .slice t3 yd.length v3] 26)) := (below_alloc _ _).alloc (by rw [size_alloc1]; omega) _
      have hz3 := hB3.size
      refine ⟨(HB2.out.trans (hB3.mono (by omega))).trans (hA.mono (by omega)), ⟨(HN2.out.below hB3 (by omega)).below hA (by omega), (Brow.new w3 [.bool xf, .slice r1 xs.length s1, .slice r2 xk.length s2, .slice r3 xd.length s3] 26).alloc _, ?_⟩, (HL2.out.below hB3).below hA, hLa.lies.below hA, hLb.lies.below hA⟩
      have := Brow.new (w3.alloc (.cells #[.bool xf, .slice r1 xs.length s1, .slice r2 xk.length s2, .slice r3 xd.length s3] 26)) [.bool yf, .slice t1 ys.length v1, .slice t2 yk.length v2, .slice t3 yd.length v3] 26
      rwa [size_alloc1] at this)
    have hs4 : w3.heap.size + 2 ≤ ((w3.alloc (.cells #[.bool xf, .slice r1 xs.length s1, .slice r2 xk.length s2, .slice r3 xd.length s3] 26)).alloc (.cells #[.bool yf, .slice t1 ys.length v1, .slice t2 yk.length v2, .slice t3 yd.length v3] 26)).heap.size := by rw [size_alloc1, size_alloc1]; omega
    have hA1 : w.heap.size + 1 ≤ w3.heap.size := Nat.le_trans hs2 hB3.size
    clear hLa hLb hB3 HSP HB2 HN2 HL2 hs2 hs1
    go_upto_region 3 with fail
    generalize ((w3.alloc (.cells #[.bool xf, .slice r1 xs.length s1, .slice r2 xk.length s2, .slice r3 xd.length s3] 26)).alloc (.cells #[.bool yf, .slice t1 ys.length v1, .slice t2 yk.length v2, .slice t3 yd.length v3] 26)) = w4 at *
    generalize w3.heap.size = A at *
    have HB4 : Hid (Below w.heap.size w w4) := HS4.out.1
    have q0 := HS4.out.2.1.2.1.at 0 _ rfl
    have q1 := HS4.out.2.1.2.1.at 1 _ rfl
    have q2 := HS4.out.2.1.2.1.at 2 _ rfl
    have q3 := HS4.out.2.1.2.1.at 3 _ rfl
    have y0 := HS4.out.2.1.2.2.at 0 _ rfl
    have y1 := HS4.out.2.1.2.2.at 1 _ rfl
    have y2 := HS4.out.2.1.2.2.at 2 _ rfl
    have y3 := HS4.out.2.1.2.2.at 3 _ rfl
    clear HB4
    go_wp2_with fail
    refine (HJ0 ⟨r1, s1, r2, s2, r3, s3⟩ ⟨t1, v1, t2, v2, t3, v3⟩ w4 HS4.out.2.2.2.1 HS4.out.2.2.2.2).mono ?_
    rintro e w5 ⟨⟨g1, h1, g2, h2, g3, h3⟩, rfl, hL5, hB5⟩
    have HS5 := (show Hid (Below w.heap.size w w5 ∧ (Brow w5 w.heap.size [.bool mf, .slice e1 ms.length f1, .slice e2 mk.length f2, .slice e3 md.length f3] 26 ∧ Brow w5 A [.bool xf, .slice r1 xs.length s1, .slice r2 xk.length s2, .slice r3 xd.length s3] 26 ∧ Brow w5 (A + 1) [.bool yf, .slice t1 ys.length v1, .slice t2 yk.length v2, .slice t3 yd.length v3] 26) ∧ Lies w5 ⟨mf, ms, mk, md⟩ ⟨e1, f1, e2, f2, e3, f3⟩ ∧ Lies w5 ⟨xf, xs, xk, xd⟩ ⟨r1, s1, r2, s2, r3, s3⟩ ∧ Lies w5 ⟨yf, ys, yk, yd⟩ ⟨t1, v1, t2, v2, t3, v3⟩) from ⟨HS4.out.1.trans (hB5.mono (by omega)), ⟨HS4.out.2.1.1.below hB5 (by omega), HS4.out.2.1.2.1.below hB5 (by omega), HS4.out.2.1.2.2.below hB5 (by omega)⟩, HS4.out.2.2.1.below hB5, HS4.out.2.2.2.1.below hB5, HS4.out.2.2.2.2.below hB5⟩)
    have HL5 := (show Hid (Lies w5 ⟨mf, ms, mk, md⟩ ⟨g1, h1, g2, h2, g3, h3⟩) from hL5.lies)
    have hs5 : A + 2 ≤ w5.heap.size := Nat.le_trans hs4 hB5.size
    clear hB5 hL5 HS4 HJ0 hs4 q0 q1 q2 q3 y0 y1 y2 y3
    have hB6 : Below w5.heap.size w5 (w5.alloc (.cells #[.bool mf, .slice g1 ms.length h1, .slice g2 mk.length h2, .slice g3 md.length h3] 26)) := below_alloc _ _
    have HS6 := (show Hid (Below w.heap.size w (w5.alloc (.cells #[.bool mf, .slice g1 ms.length h1, .slice g2 mk.length h2, .slice g3 md.length h3] 26)) ∧ (Brow (w5.alloc (.cells #[.bool mf, .slice g1 ms.length h1, .slice g2 mk.length h2, .slice g3 md.length h3] 26)) w.heap.size [.bool mf, .slice e1 ms.length f1, .slice e2 mk.length f2, .slice e3 md.length f3] 26 ∧ Brow (w5.alloc (.cells #[.bool mf, .slice g1 ms.length h1, .slice g2 mk.length h2, .slice g3 md.length h3] 26)) A [.bool xf, .slice r1 xs.length s1, .slice r2 xk.length s2, .slice r3 xd.length s3] 26 ∧ Brow (w5.alloc (.cells #[.bool mf, .slice g1 ms.length h1, .slice g2 mk.length h2, .slice g3 md.length h3] 26)) (A + 1) [.bool yf, .slice t1 ys.length v1, .slice t2 yk.length v2, .slice t3 yd.length v3] 26 ∧ Brow (w5.alloc (.cells #[.bool mf, .slice g1 ms.length h1, .slice g2 mk.length h2, .slice g3 md.length h3] 26)) w5.heap.size [.bool mf, .slice g1 ms.length h1, .slice g2 mk.length h2, .slice g3 md.length h3] 26) ∧ Lies (w5.alloc (.cells #[.bool mf, .slice g1 ms.length h1, .slice g2 mk.length h2, .slice g3 md.length h3] 26)) ⟨mf, ms, mk, md⟩ ⟨e1, f1, e2, f2, e3, f3⟩ ∧ Lies (w5.alloc (.cells #[.bool mf, .slice g1 ms.length h1, .slice g2 mk.length h2, .slice g3 md.length h3] 26)) ⟨xf, xs, xk, xd⟩ ⟨r1, s1, r2, s2, r3, s3⟩ ∧ Lies (w5.alloc (.cells #[.bool mf, .slice g1 ms.length h1, .slice g2 mk.length h2, .slice g3 md.length h3] 26)) ⟨yf, ys, yk, yd⟩ ⟨t1, v1, t2, v2, t3, v3⟩) from ⟨HS5.out.1.alloc (by omega) _, ⟨HS5.out.2.1.1.alloc _, HS5.out.2.1.2.1.alloc _, HS5.out.2.1.2.2.alloc _, Brow.new w5 [.bool mf, .slice g1 ms.length h1, .slice g2 mk.length h2, .slice g3 md.length h3] 26⟩, HS5.out.2.2.1.below hB6, HS5.out.2.2.2.1.below hB6, HS5.out.2.2.2.2.below hB6⟩)
    have HL6 := (show Hid (Lies (w5.alloc (.cells #[.bool mf, .slice g1 ms.length h1, .slice g2 mk.length h2, .slice g3 md.length h3] 26)) ⟨mf, ms, mk, md⟩ ⟨g1, h1, g2, h2, g3, h3⟩) from HL5.out.below hB6)
    have hs6 : w5.heap.size + 1 ≤ (w5.alloc (.cells #[.bool mf, .slice g1 ms.length h1, .slice g2 mk.length h2, .slice g3 md.length h3] 26)).heap.size := by rw [size_alloc1]; omega
    clear hB6 HS5 HL5
    go_upto_region 6 with fail
    generalize (w5.alloc (.cells #[.bool mf, .slice g1 ms.length h1, .slice g2 mk.length h2, .slice g3 md.length h3] 26)) = w6 at *
    generalize w5.heap.size = Y at *
    have HS7 := (show Hid (Below w.heap.size w w6.drew ∧ (Brow w6.drew w.heap.size [.bool mf, .slice e1 ms.length f1, .slice e2 mk.length f2, .slice e3 md.length f3] 26 ∧ Brow w6.drew A [.bool xf, .slice r1 xs.length s1, .slice r2 xk.length s2, .slice r3 xd.length s3] 26 ∧ Brow w6.drew (A + 1) [.bool yf, .slice t1 ys.length v1, .slice t2 yk.length v2, .slice t3 yd.length v3] 26 ∧ Brow w6.drew Y [.bool mf, .slice g1 ms.length h1, .slice g2 mk.length h2, .slice g3 md.length h3] 26) ∧ Lies w6.drew ⟨mf, ms, mk, md⟩ ⟨e1, f1, e2, f2, e3, f3⟩ ∧ Lies w6.drew ⟨xf, xs, xk, xd⟩ ⟨r1, s1, r2, s2, r3, s3⟩ ∧ Lies w6.drew ⟨yf, ys, yk, yd⟩ ⟨t1, v1, t2, v2, t3, v3⟩) from ⟨HS6.out.1.drew, ⟨HS6.out.2.1.1.drew, HS6.out.2.1.2.1.drew, HS6.out.2.1.2.2.1.drew, HS6.out.2.1.2.2.2.drew⟩, HS6.out.2.2.1.below (Below.refl _ _).drew, HS6.out.2.2.2.1.below (Below.refl _ _).drew, HS6.out.2.2.2.2.below (Below.refl _ _).drew⟩)
    have HL7 := (show Hid (Lies w6.drew ⟨mf, ms, mk, md⟩ ⟨g1, h1, g2, h2, g3, h3⟩) from HL6.out.below (Below.refl _ _).drew)
    have hs7 : Y + 1 ≤ w6.drew.heap.size := hs6
    refine wp_region_held_drew (S := (fun W : World => Brow W w.heap.size [.bool mf, .slice e1 ms.length f1, .slice e2 mk.length f2, .slice e3 md.length f3] 26 ∧ Brow W A [.bool xf, .slice r1 xs.length s1, .slice r2 xk.length s2, .slice r3 xd.length s3] 26 ∧ Brow W (A + 1) [.bool yf, .slice t1 ys.length v1, .slice t2 yk.length v2, .slice t3 yd.length v3] 26 ∧ Brow W Y [.bool mf, .slice g1 ms.length h1, .slice g2 mk.length h2, .slice g3 md.length h3] 26)) (by kernel_rfl) HS7.out.2.1 (fun _ => ?_)
    generalize w6.drew = w7 at *
    clear HS6 hs6 HL6
    refine heldTake 0 (some 36) (.int .i64 0) rfl rfl (by kernel_rfl) (by kernel_rfl) (by kernel_rfl) (fun _ _ _ h => h) (Or.inl ⟨by rfl, fun w hS => ?_⟩) HS7.out.2.1 ?_
    · (go_simp)
    simp only [Act.put, List.setIfInBounds_toArray, List.set_cons_zero, List.set_cons_succ]
    refine heldTake 1 (some 37) (.bool false) rfl rfl (by kernel_rfl) (by kernel_rfl) (by kernel_rfl) (fun _ _ _ h => h) (Or.inl ⟨by rfl, fun w hS => ?_⟩) HS7.out.2.1 ?_
    · (go_simp)
    simp only [Act.put, List.setIfInBounds_toArray, List.set_cons_zero, List.set_cons_succ]
    refine heldTake 2 (some 38) (.bool false) rfl rfl (by kernel_rfl) (by kernel_rfl) (by kernel_rfl) (fun _ _ _ h => h) (Or.inl ⟨by rfl, fun w hS => ?_⟩) HS7.out.2.1 ?_
    · (go_simp)
    simp only [Act.put, List.setIfInBounds_toArray, List.set_cons_zero, List.set_cons_succ]
    refine heldTake 3 (some 39) (.agg #[.bool mf, .slice g1 ms.length h1, .slice g2 mk.length h2, .slice g3 md.length h3]) rfl rfl (by kernel_rfl) (by kernel_rfl) (by kernel_rfl) (fun _ _ _ h => h) (Or.inl ⟨by rfl, fun w hS => ?_⟩) HS7.out.2.1 ?_
    · (have q0 := hS.2.2.2.at 0 _ rfl; have q1 := hS.2.2.2.at 1 _ rfl; have q2 := hS.2.2.2.at 2 _ rfl; have q3 := hS.2.2.2.at 3 _ rfl; go_simp)
    simp only [Act.put, List.setIfInBounds_toArray, List.set_cons_zero, List.set_cons_succ]
    refine heldTake 4 (some 40) (.agg #[.bool mf, .slice e1 ms.length f1, .slice e2 mk.length f2, .slice e3 md.length f3]) rfl rfl (by kernel_rfl) (by kernel_rfl) (by kernel_rfl) (fun _ _ _ h => h) (Or.inl ⟨by rfl, fun w hS => ?_⟩) HS7.out.2.1 ?_
    · (have q0 := hS.1.at 0 _ rfl; have q1 := hS.1.at 1 _ rfl; have q2 := hS.1.at 2 _ rfl; have q3 := hS.1.at 3 _ rfl; go_simp)
    simp only [Act.put, List.setIfInBounds_toArray, List.set_cons_zero, List.set_cons_succ]
    refine heldOne 5 (by kernel_rfl) rfl (by rfl) (fun KK hK => ?_)
    go_simp
    go_at_call 14
    refine (HSM ⟨g1, h1, g2, h2, g3, h3⟩ ⟨e1, f1, e2, f2, e3, f3⟩ w7 HL7.out HS7.out.2.2.1).mono ?_
    rintro e w8 ⟨rfl, hB8⟩
    have HS8 := (show Hid (Below w.heap.size w w8 ∧ (Brow w8 w.heap.size [.bool mf, .slice e1 ms.length f1, .slice e2 mk.length f2, .slice e3 md.length f3] 26 ∧ Brow w8 A [.bool xf, .slice r1 xs.length s1, .slice r2 xk.length s2, .slice r3 xd.length s3] 26 ∧ Brow w8 (A + 1) [.bool yf, .slice t1 ys.length v1, .slice t2 yk.length v2, .slice t3 yd.length v3] 26 ∧ Brow w8 Y [.bool mf, .slice g1 ms.length h1, .slice g2 mk.length h2, .slice g3 md.length h3] 26) ∧ Lies w8 ⟨mf, ms, mk, md⟩ ⟨e1, f1, e2, f2, e3, f3⟩ ∧ Lies w8 ⟨xf, xs, xk, xd⟩ ⟨r1, s1, r2, s2, r3, s3⟩ ∧ Lies w8 ⟨yf, ys, yk, yd⟩ ⟨t1, v1, t2, v2, t3, v3⟩) from ⟨HS7.out.1.trans (hB8.mono (by omega)), ⟨HS7.out.2.1.1.below hB8 (by omega), HS7.out.2.1.2.1.below hB8 (by omega), HS7.out.2.1.2.2.1.below hB8 (by omega), HS7.out.2.1.2.2.2.below hB8 (by omega)⟩, HS7.out.2.2.1.below hB8, HS7.out.2.2.2.1.below hB8, HS7.out.2.2.2.2.below hB8⟩)
    have hs8 : Y + 1 ≤ w8.heap.size := Nat.le_trans hs7 hB8.size
    clear HSM HL7
    clear hB8 HS7 hs7
    refine hK.out _ _ HS8.out.2.1 ?_
    clear hK KK
    try simp only [Act.put, List.setIfInBounds_toArray, List.set_cons_zero, List.set_cons_succ]
    refine heldTake 6 (some 42) (.bool false) rfl rfl (by kernel_rfl) (by kernel_rfl) (by kernel_rfl) (fun _ _ _ h => h) (Or.inl ⟨by rfl, fun w hS => ?_⟩) HS8.out.2.1 ?_
    · (go_simp)
    simp only [Act.put, List.setIfInBounds_toArray, List.set_cons_zero, List.set_cons_succ]
    refine heldTake 7 (some 43) (.bool false) rfl rfl (by kernel_rfl) (by kernel_rfl) (by kernel_rfl) (fun _ _ _ h => h) (Or.inl ⟨by rfl, fun w hS => ?_⟩) HS8.out.2.1 ?_
    · (go_simp)
    simp only [Act.put, List.setIfInBounds_toArray, List.set_cons_zero, List.set_cons_succ]
    refine heldTake 8 (some 44) (.bool false) rfl rfl (by kernel_rfl) (by kernel_rfl) (by kernel_rfl) (fun _ _ _ h => h) (Or.inl ⟨by rfl, fun w hS => ?_⟩) HS8.out.2.1 ?_
    · (go_simp)
    simp only [Act.put, List.setIfInBounds_toArray, List.set_cons_zero, List.set_cons_succ]
    refine heldTake 9 (some 45) (.agg #[.bool xf, .slice r1 xs.length s1, .slice r2 xk.length s2, .slice r3 xd.length s3]) rfl rfl (by kernel_rfl) (by kernel_rfl) (by kernel_rfl) (fun _ _ _ h => h) (Or.inl ⟨by rfl, fun w hS => ?_⟩) HS8.out.2.1 ?_
    · (have q0 := hS.2.1.at 0 _ rfl; have q1 := hS.2.1.at 1 _ rfl; have q2 := hS.2.1.at 2 _ rfl; have q3 := hS.2.1.at 3 _ rfl; go_simp)
    simp only [Act.put, List.setIfInBounds_toArray, List.set_cons_zero, List.set_cons_succ]
    refine heldOne 10 (by kernel_rfl) rfl (by rfl) (fun KK hK => ?_)
    go_simp
    go_at_call 24
    refine (HCL ⟨r1, s1, r2, s2, r3, s3⟩ w8 HS8.out.2.2.2.1).mono ?_
    rintro e w9 ⟨rfl, hB9⟩
    have HS9 := (show Hid (Below w.heap.size w w9 ∧ (Brow w9 w.heap.size [.bool mf, .slice e1 ms.length f1, .slice e2 mk.length f2, .slice e3 md.length f3] 26 ∧ Brow w9 A [.bool xf, .slice r1 xs.length s1, .slice r2 xk.length s2, .slice r3 xd.length s3] 26 ∧ Brow w9 (A + 1) [.bool yf, .slice t1 ys.length v1, .slice t2 yk.length v2, .slice t3 yd.length v3] 26 ∧ Brow w9 Y [.bool mf, .slice g1 ms.length h1, .slice g2 mk.length h2, .slice g3 md.length h3] 26) ∧ Lies w9 ⟨mf, ms, mk, md⟩ ⟨e1, f1, e2, f2, e3, f3⟩ ∧ Lies w9 ⟨xf, xs, xk, xd⟩ ⟨r1, s1, r2, s2, r3, s3⟩ ∧ Lies w9 ⟨yf, ys, yk, yd⟩ ⟨t1, v1, t2, v2, t3, v3⟩) from ⟨HS8.out.1.trans (hB9.mono (by omega)), ⟨HS8.out.2.1.1.below hB9 (by omega), HS8.out.2.1.2.1.below hB9 (by omega), HS8.out.2.1.2.2.1.below hB9 (by omega), HS8.out.2.1.2.2.2.below hB9 (by omega)⟩, HS8.out.2.2.1.below hB9, HS8.out.2.2.2.1.below hB9, HS8.out.2.2.2.2.below hB9⟩)
    have hs9 : Y + 1 ≤ w9.heap.size := Nat.le_trans hs8 hB9.size
    clear HCL
    clear hB9 HS8 hs8
    refine hK.out _ _ HS9.out.2.1 ?_
    clear hK KK
    try simp only [Act.put, List.setIfInBounds_toArray, List.set_cons_zero, List.set_cons_succ]
    refine heldTake 11 (some 47) (.bool false) rfl rfl (by kernel_rfl) (by kernel_rfl) (by kernel_rfl) (fun _ _ _ h => h) (Or.inl ⟨by rfl, fun w hS => ?_⟩) HS9.out.2.1 ?_
    · (go_simp)
    simp only [Act.put, List.setIfInBounds_toArray, List.set_cons_zero, List.set_cons_succ]
    refine heldTake 12 (some 48) (.bool false) rfl rfl (by kernel_rfl) (by kernel_rfl) (by kernel_rfl) (fun _ _ _ h => h) (Or.inl ⟨by rfl, fun w hS => ?_⟩) HS9.out.2.1 ?_
    · (go_simp)
    simp only [Act.put, List.setIfInBounds_toArray, List.set_cons_zero, List.set_cons_succ]
    refine heldTake 13 (some 49) (.bool false) rfl rfl (by kernel_rfl) (by kernel_rfl) (by kernel_rfl) (fun _ _ _ h => h) (Or.inl ⟨by rfl, fun w hS => ?_⟩) HS9.out.2.1 ?_
    · (go_simp)
    simp only [Act.put, List.setIfInBounds_toArray, List.set_cons_zero, List.set_cons_succ]
    refine heldTake 14 (some 50) (.agg #[.bool yf, .slice t1 ys.length v1, .slice t2 yk.length v2, .slice t3 yd.length v3]) rfl rfl (by kernel_rfl) (by kernel_rfl) (by kernel_rfl) (fun _ _ _ h => h) (Or.inl ⟨by rfl, fun w hS => ?_⟩) HS9.out.2.1 ?_
    · (have q0 := hS.2.2.1.at 0 _ rfl; have q1 := hS.2.2.1.at 1 _ rfl; have q2 := hS.2.2.1.at 2 _ rfl; have q3 := hS.2.2.1.at 3 _ rfl; go_simp)
    simp only [Act.put, List.setIfInBounds_toArray, List.set_cons_zero, List.set_cons_succ]
    refine heldOne 15 (by kernel_rfl) rfl (by rfl) (fun KK hK => ?_)
    go_simp
    go_at_call 24
    refine (HCR ⟨t1, v1, t2, v2, t3, v3⟩ w9 HS9.out.2.2.2.2).mono ?_
    rintro e wA ⟨rfl, hBA⟩
    have HSA := (show Hid (Below w.heap.size w wA ∧ (Brow wA w.heap.size [.bool mf, .slice e1 ms.length f1, .slice e2 mk.length f2, .slice e3 md.length f3] 26 ∧ Brow wA A [.bool xf, .slice r1 xs.length s1, .slice r2 xk.length s2, .slice r3 xd.length s3] 26 ∧ Brow wA (A + 1) [.bool yf, .slice t1 ys.length v1, .slice t2 yk.length v2, .slice t3 yd.length v3] 26 ∧ Brow wA Y [.bool mf, .slice g1 ms.length h1, .slice g2 mk.length h2, .slice g3 md.length h3] 26) ∧ Lies wA ⟨mf, ms, mk, md⟩ ⟨e1, f1, e2, f2, e3, f3⟩ ∧ Lies wA ⟨xf, xs, xk, xd⟩ ⟨r1, s1, r2, s2, r3, s3⟩ ∧ Lies wA ⟨yf, ys, yk, yd⟩ ⟨t1, v1, t2, v2, t3, v3⟩) from ⟨HS9.out.1.trans (hBA.mono (by omega)), ⟨HS9.out.2.1.1.below hBA (by omega), HS9.out.2.1.2.1.below hBA (by omega), HS9.out.2.1.2.2.1.below hBA (by omega), HS9.out.2.1.2.2.2.below hBA (by omega)⟩, HS9.out.2.2.1.below hBA, HS9.out.2.2.2.1.below hBA, HS9.out.2.2.2.2.below hBA⟩)
    have hsA : Y + 1 ≤ wA.heap.size := Nat.le_trans hs9 hBA.size
    clear HCR
    clear hBA HS9 hs9
    refine hK.out _ _ HSA.out.2.1 ?_
    clear hK KK
    try simp only [Act.put, List.setIfInBounds_toArray, List.set_cons_zero, List.set_cons_succ]
    refine heldTake 16 (some 52) (.bool false) rfl rfl (by kernel_rfl) (by kernel_rfl) (by kernel_rfl) (fun _ _ _ h => h) (Or.inl ⟨by rfl, fun w hS => ?_⟩) HSA.out.2.1 ?_
    · (go_simp)
    simp only [Act.put, List.setIfInBounds_toArray, List.set_cons_zero, List.set_cons_succ]
    refine heldTake 17 (some 53) (.bool false) rfl rfl (by kernel_rfl) (by kernel_rfl) (by kernel_rfl) (fun _ _ _ h => h) (Or.inl ⟨by rfl, fun w hS => ?_⟩) HSA.out.2.1 ?_
    · (go_simp)
    simp only [Act.put, List.setIfInBounds_toArray, List.set_cons_zero, List.set_cons_succ]
    refine heldTake 18 (some 54) (.bool false) rfl rfl (by kernel_rfl) (by kernel_rfl) (by kernel_rfl) (fun _ _ _ h => h) (Or.inl ⟨by rfl, fun w hS => ?_⟩) HSA.out.2.1 ?_
    · (go_simp)
    simp only [Act.put, List.setIfInBounds_toArray, List.set_cons_zero, List.set_cons_succ]
    refine heldTake 19 (some 55) (.agg #[.bool xf, .slice r1 xs.length s1, .slice r2 xk.length s2, .slice r3 xd.length s3]) rfl rfl (by kernel_rfl) (by kernel_rfl) (by kernel_rfl) (fun _ _ _ h => h) (Or.inl ⟨by rfl, fun w hS => ?_⟩) HSA.out.2.1 ?_
    · (have q0 := hS.2.1.at 0 _ rfl; have q1 := hS.2.1.at 1 _ rfl; have q2 := hS.2.1.at 2 _ rfl; have q3 := hS.2.1.at 3 _ rfl; go_simp)
    simp only [Act.put, List.setIfInBounds_toArray, List.set_cons_zero, List.set_cons_succ]
    refine heldTake 21 (some 57) (.agg #[.bool mf, .slice e1 ms.length f1, .slice e2 mk.length f2, .slice e3 md.length f3]) rfl rfl (by kernel_rfl) (by kernel_rfl) (by kernel_rfl) (fun _ _ _ h => h) (Or.inl ⟨by rfl, fun w hS => ?_⟩) HSA.out.2.1 ?_
    · (have q0 := hS.1.at 0 _ rfl; have q1 := hS.1.at 1 _ rfl; have q2 := hS.1.at 2 _ rfl; have q3 := hS.1.at 3 _ rfl; go_simp)
    simp only [Act.put, List.setIfInBounds_toArray, List.set_cons_zero, List.set_cons_succ]
    refine heldOne 20 (by kernel_rfl) rfl (by rfl) (fun KK hK => ?_)
    go_simp
    go_at_call 25
    refine (HZL ⟨r1, s1, r2, s2, r3, s3⟩ wA HSA.out.2.2.2.1).mono ?_
    rintro e wB ⟨rfl, hBB⟩
    have HSB := (show Hid (Below w.heap.size w wB ∧ (Brow wB w.heap.size [.bool mf, .slice e1 ms.length f1, .slice e2 mk.length f2, .slice e3 md.length f3] 26 ∧ Brow wB A [.bool xf, .slice r1 xs.length s1, .slice r2 xk.length s2, .slice r3 xd.length s3] 26 ∧ Brow wB (A + 1) [.bool yf, .slice t1 ys.length v1, .slice t2 yk.length v2, .slice t3 yd.length v3] 26 ∧ Brow wB Y [.bool mf, .slice g1 ms.length h1, .slice g2 mk.length h2, .slice g3 md.length h3] 26) ∧ Lies wB ⟨mf, ms, mk, md⟩ ⟨e1, f1, e2, f2, e3, f3⟩ ∧ Lies wB ⟨xf, xs, xk, xd⟩ ⟨r1, s1, r2, s2, r3, s3⟩ ∧ Lies wB ⟨yf, ys, yk, yd⟩ ⟨t1, v1, t2, v2, t3, v3⟩) from ⟨HSA.out.1.trans (hBB.mono (by omega)), ⟨HSA.out.2.1.1.below hBB (by omega), HSA.out.2.1.2.1.below hBB (by omega), HSA.out.2.1.2.2.1.below hBB (by omega), HSA.out.2.1.2.2.2.below hBB (by omega)⟩, HSA.out.2.2.1.below hBB, HSA.out.2.2.2.1.below hBB, HSA.out.2.2.2.2.below hBB⟩)
    have hsB : Y + 1 ≤ wB.heap.size := Nat.le_trans hsA hBB.size
    clear HZL
    clear hBB HSA hsA
    refine hK.out _ _ HSB.out.2.1 ?_
    clear hK KK
    try simp only [Act.put, List.setIfInBounds_toArray, List.set_cons_zero, List.set_cons_succ]
    refine heldOne 22 (by kernel_rfl) rfl (by rfl) (fun KK hK => ?_)
    go_simp
    go_at_call 25
    refine (HZM ⟨e1, f1, e2, f2, e3, f3⟩ wB HSB.out.2.2.1).mono ?_
    rintro e wC ⟨rfl, hBC⟩
    have HSC := (show Hid (Below w.heap.size w wC ∧ (Brow wC w.heap.size [.bool mf, .slice e1 ms.length f1, .slice e2 mk.length f2, .slice e3 md.length f3] 26 ∧ Brow wC A [.bool xf, .slice r1 xs.length s1, .slice r2 xk.length s2, .slice r3 xd.length s3] 26 ∧ Brow wC (A + 1) [.bool yf, .slice t1 ys.length v1, .slice t2 yk.length v2, .slice t3 yd.length v3] 26 ∧ Brow wC Y [.bool mf, .slice g1 ms.length h1, .slice g2 mk.length h2, .slice g3 md.length h3] 26) ∧ Lies wC ⟨mf, ms, mk, md⟩ ⟨e1, f1, e2, f2, e3, f3⟩ ∧ Lies wC ⟨xf, xs, xk, xd⟩ ⟨r1, s1, r2, s2, r3, s3⟩ ∧ Lies wC ⟨yf, ys, yk, yd⟩ ⟨t1, v1, t2, v2, t3, v3⟩) from ⟨HSB.out.1.trans (hBC.mono (by omega)), ⟨HSB.out.2.1.1.below hBC (by omega), HSB.out.2.1.2.1.below hBC (by omega), HSB.out.2.1.2.2.1.below hBC (by omega), HSB.out.2.1.2.2.2.below hBC (by omega)⟩, HSB.out.2.2.1.below hBC, HSB.out.2.2.2.1.below hBC, HSB.out.2.2.2.2.below hBC⟩)
    have hsC : Y + 1 ≤ wC.heap.size := Nat.le_trans hsB hBC.size
    clear hBC HSB hsB
    refine hK.out _ _ HSC.out.2.1 ?_
    clear hK KK
    try simp only [Act.put, List.setIfInBounds_toArray, List.set_cons_zero, List.set_cons_succ]
    refine heldTake 23 (some 59) (.bool false) rfl rfl (by kernel_rfl) (by kernel_rfl) (by kernel_rfl) (fun _ _ _ h => h) (Or.inl ⟨by rfl, fun w hS => ?_⟩) HSC.out.2.1 ?_
    · (go_simp)
    simp only [Act.put, List.setIfInBounds_toArray, List.set_cons_zero, List.set_cons_succ]
    refine heldTake 24 (some 60) (.bool false) rfl rfl (by kernel_rfl) (by kernel_rfl) (by kernel_rfl) (fun _ _ _ h => h) (Or.inl ⟨by rfl, fun w hS => ?_⟩) HSC.out.2.1 ?_
    · (go_simp)
    simp only [Act.put, List.setIfInBounds_toArray, List.set_cons_zero, List.set_cons_succ]
    refine heldTake 25 (some 61) (.bool false) rfl rfl (by kernel_rfl) (by kernel_rfl) (by kernel_rfl) (fun _ _ _ h => h) (Or.inl ⟨by rfl, fun w hS => ?_⟩) HSC.out.2.1 ?_
    · (go_simp)
    simp only [Act.put, List.setIfInBounds_toArray, List.set_cons_zero, List.set_cons_succ]
    refine heldTake 26 (some 62) (.agg #[.bool yf, .slice t1 ys.length v1, .slice t2 yk.length v2, .slice t3 yd.length v3]) rfl rfl (by kernel_rfl) (by kernel_rfl) (by kernel_rfl) (fun _ _ _ h => h) (Or.inl ⟨by rfl, fun w hS => ?_⟩) HSC.out.2.1 ?_
    · (have q0 := hS.2.2.1.at 0 _ rfl; have q1 := hS.2.2.1.at 1 _ rfl; have q2 := hS.2.2.1.at 2 _ rfl; have q3 := hS.2.2.1.at 3 _ rfl; go_simp)
    simp only [Act.put, List.setIfInBounds_toArray, List.set_cons_zero, List.set_cons_succ]
    refine heldTake 28 (some 64) (.agg #[.bool mf, .slice e1 ms.length f1, .slice e2 mk.length f2, .slice e3 md.length f3]) rfl rfl (by kernel_rfl) (by kernel_rfl) (by kernel_rfl) (fun _ _ _ h => h) (Or.inl ⟨by rfl, fun w hS => ?_⟩) HSC.out.2.1 ?_
    · (have q0 := hS.1.at 0 _ rfl; have q1 := hS.1.at 1 _ rfl; have q2 := hS.1.at 2 _ rfl; have q3 := hS.1.at 3 _ rfl; go_simp)
    simp only [Act.put, List.setIfInBounds_toArray, List.set_cons_zero, List.set_cons_succ]
    refine heldOne 27 (by kernel_rfl) rfl (by rfl) (fun KK hK => ?_)
    go_simp
    go_at_call 25
    refine (HZR ⟨t1, v1, t2, v2, t3, v3⟩ wC HSC.out.2.2.2.2).mono ?_
    rintro e wD ⟨rfl, hBD⟩
    have HSD := (show Hid (Below w.heap.size w wD ∧ (Brow wD w.heap.size [.bool mf, .slice e1 ms.length f1, .slice e2 mk.length f2, .slice e3 md.length f3] 26 ∧ Brow wD A [.bool xf, .slice r1 xs.length s1, .slice r2 xk.length s2, .slice r3 xd.length s3] 26 ∧ Brow wD (A + 1) [.bool yf, .slice t1 ys.length v1, .slice t2 yk.length v2, .slice t3 yd.length v3] 26 ∧ Brow wD Y [.bool mf, .slice g1 ms.length h1, .slice g2 mk.length h2, .slice g3 md.length h3] 26) ∧ Lies wD ⟨mf, ms, mk, md⟩ ⟨e1, f1, e2, f2, e3, f3⟩ ∧ Lies wD ⟨xf, xs, xk, xd⟩ ⟨r1, s1, r2, s2, r3, s3⟩ ∧ Lies wD ⟨yf, ys, yk, yd⟩ ⟨t1, v1, t2, v2, t3, v3⟩) from ⟨HSC.out.1.trans (hBD.mono (by omega)), ⟨HSC.out.2.1.1.below hBD (by omega), HSC.out.2.1.2.1.below hBD (by omega), HSC.out.2.1.2.2.1.below hBD (by omega), HSC.out.2.1.2.2.2.below hBD (by omega)⟩, HSC.out.2.2.1.below hBD, HSC.out.2.2.2.1.below hBD, HSC.out.2.2.2.2.below hBD⟩)
    have hsD : Y + 1 ≤ wD.heap.size := Nat.le_trans hsC hBD.size
    clear HZR
    clear hBD HSC hsC
    refine hK.out _ _ HSD.out.2.1 ?_
    clear hK KK
    try simp only [Act.put, List.setIfInBounds_toArray, List.set_cons_zero, List.set_cons_succ]
    refine heldOne 29 (by kernel_rfl) rfl (by rfl) (fun KK hK => ?_)
    go_simp
    go_at_call 25
    refine (HZM ⟨e1, f1, e2, f2, e3, f3⟩ wD HSD.out.2.2.1).mono ?_
    rintro e wE ⟨rfl, hBE⟩
    have HSE := (show Hid (Below w.heap.size w wE ∧ (Brow wE w.heap.size [.bool mf, .slice e1 ms.length f1, .slice e2 mk.length f2, .slice e3 md.length f3] 26 ∧ Brow wE A [.bool xf, .slice r1 xs.length s1, .slice r2 xk.length s2, .slice r3 xd.length s3] 26 ∧ Brow wE (A + 1) [.bool yf, .slice t1 ys.length v1, .slice t2 yk.length v2, .slice t3 yd.length v3] 26 ∧ Brow wE Y [.bool mf, .slice g1 ms.length h1, .slice g2 mk.length h2, .slice g3 md.length h3] 26) ∧ Lies wE ⟨mf, ms, mk, md⟩ ⟨e1, f1, e2, f2, e3, f3⟩ ∧ Lies wE ⟨xf, xs, xk, xd⟩ ⟨r1, s1, r2, s2, r3, s3⟩ ∧ Lies wE ⟨yf, ys, yk, yd⟩ ⟨t1, v1, t2, v2, t3, v3⟩) from ⟨HSD.out.1.trans (hBE.mono (by omega)), ⟨HSD.out.2.1.1.below hBE (by omega), HSD.out.2.1.2.1.below hBE (by omega), HSD.out.2.1.2.2.1.below hBE (by omega), HSD.out.2.1.2.2.2.below hBE (by omega)⟩, HSD.out.2.2.1.below hBE, HSD.out.2.2.2.1.below hBE, HSD.out.2.2.2.2.below hBE⟩)
    have hsE : Y + 1 ≤ wE.heap.size := Nat.le_trans hsD hBE.size
    clear HZM
    clear hBE HSD hsD
    refine hK.out _ _ HSE.out.2.1 ?_
    clear hK KK
    try simp only [Act.put, List.setIfInBounds_toArray, List.set_cons_zero, List.set_cons_succ]
    refine heldTake 30 (some 66) (.bool false) rfl rfl (by kernel_rfl) (by kernel_rfl) (by kernel_rfl) (fun _ _ _ h => h) (Or.inl ⟨by rfl, fun w hS => ?_⟩) HSE.out.2.1 ?_
    · (go_simp)
    simp only [Act.put, List.setIfInBounds_toArray, List.set_cons_zero, List.set_cons_succ]
    refine heldTake 31 (some 67) (.bool false) rfl rfl (by kernel_rfl) (by kernel_rfl) (by kernel_rfl) (fun _ _ _ h => h) (Or.inl ⟨by rfl, fun w hS => ?_⟩) HSE.out.2.1 ?_
    · (go_simp)
    simp only [Act.put, List.setIfInBounds_toArray, List.set_cons_zero, List.set_cons_succ]
    refine wpAnyH_done (by kernel_rfl) ?_ _
    clear d1 d2 hz1 hz2
    have q0 := HSE.out.2.1.2.1.at 0 _ rfl
    have q1 := HSE.out.2.1.2.1.at 1 _ rfl
    have q2 := HSE.out.2.1.2.1.at 2 _ rfl
    have q3 := HSE.out.2.1.2.1.at 3 _ rfl
    go_wp2_with fail
    clear q0 q1 q2 q3
    go_loopw [71] (fun s71 wr => ∃ k : Nat, k ≤ xs.length ∧ s71 = .int .i64 k ∧ Below wE.heap.size wE wr) (fun s71 _ => xs.length - (intOf s71).toNat)
    case atStart => exact ⟨0, by omega, rfl, Below.refl _ _⟩
    case round =>
      obtain ⟨k, hk, rfl, hBF⟩ := hrel
      have HSF := (show Hid (Below w.heap.size w wr ∧ (Brow wr w.heap.size [.bool mf, .slice e1 ms.length f1, .slice e2 mk.length f2, .slice e3 md.length f3] 26 ∧ Brow wr A [.bool xf, .slice r1 xs.length s1, .slice r2 xk.length s2, .slice r3 xd.length s3] 26 ∧ Brow wr (A + 1) [.bool yf, .slice t1 ys.length v1, .slice t2 yk.length v2, .slice t3 yd.length v3] 26 ∧ Brow wr Y [.bool mf, .slice g1 ms.length h1, .slice g2 mk.length h2, .slice g3 md.length h3] 26) ∧ Lies wr ⟨mf, ms, mk, md⟩ ⟨e1, f1, e2, f2, e3, f3⟩ ∧ Lies wr ⟨xf, xs, xk, xd⟩ ⟨r1, s1, r2, s2, r3, s3⟩ ∧ Lies wr ⟨yf, ys, yk, yd⟩ ⟨t1, v1, t2, v2, t3, v3⟩) from ⟨HSE.out.1.trans (hBF.mono (by omega)), ⟨HSE.out.2.1.1.below hBF (by omega), HSE.out.2.1.2.1.below hBF (by omega), HSE.out.2.1.2.2.1.below hBF (by omega), HSE.out.2.1.2.2.2.below hBF (by omega)⟩, HSE.out.2.2.1.below hBF, HSE.out.2.2.2.1.below hBF, HSE.out.2.2.2.2.below hBF⟩)
      have hsF : Y + 1 ≤ wr.heap.size := Nat.le_trans hsE hBF.size
      have HBF : Hid (Below wE.heap.size wE wr) := hBF
      clear hBF
      by_cases hlt : k < xs.length
      · obtain ⟨b, off, hab, hb, hc⟩ := HSF.out.2.2.2.1.r1.cell (Nat.lt_of_le_of_lt (Nat.zero_le _) hlt)
        simp only at hab
        subst hab
        obtain ⟨q0, q1, q2, q3⟩ := hc k hlt
        have hcmp : Sl.lt (xs.getD k Sl.cel0).key K = true := HO1.out.1 _ (Sl.getD_mem xs k Sl.cel0 hlt)
        clear hc HSF
        have i0 : decide ((k : Int) < (xs.length : Int)) = true := by simp; omega
        simp only at q0 q1 q2 q3
        generalize xs.getD k Sl.cel0 = x at *
        obtain ⟨xk_, xx, xo, xl⟩ := x
        simp only at q0 q1 q2 q3 hcmp
        have HAL : Hid (Below wE.heap.size wE (wr.alloc (.cells #[.string xk_, .string xx, .int .i64 xo, .int .i64 xl] 28))) := HBF.out.alloc HBF.out.size _
        have hq : Op.bytesLess xk_.toList K.toList = true := hcmp
        clear hcmp HBF
        go_wp2_with fail
        go_roundw
        case rel => exact ⟨k + 1, by omega, by go_num, HAL.out⟩
        case measure => (simp [intOf]) <;> omega
      · have hkl : ¬ (k : Int) < (xs.length : Int) := by omega
        clear HBF
        clear hsE HSE
        generalize wr = wF at *
        have q0 := HSF.out.2.1.2.2.1.at 0 _ rfl
        have q1 := HSF.out.2.1.2.2.1.at 1 _ rfl
        have q2 := HSF.out.2.1.2.2.1.at 2 _ rfl
        have q3 := HSF.out.2.1.2.2.1.at 3 _ rfl
        go_wp2_with fail
        clear q0 q1 q2 q3
        go_loopw [83] (fun s83 wr => ∃ k : Nat, k ≤ ys.length ∧ s83 = .int .i64 k ∧ Below wF.heap.size wF wr) (fun s83 _ => ys.length - (intOf s83).toNat)
        case atStart => exact ⟨0, by omega, rfl, Below.refl _ _⟩
        case round =>
          obtain ⟨k, hk, rfl, hBG⟩ := hrel
          have HSG := (show Hid (Below w.heap.size w wr ∧ (Brow wr w.heap.size [.bool mf, .slice e1 ms.length f1, .slice e2 mk.length f2, .slice e3 md.length f3] 26 ∧ Brow wr A [.bool xf, .slice r1 xs.length s1, .slice r2 xk.length s2, .slice r3 xd.length s3] 26 ∧ Brow wr (A + 1) [.bool yf, .slice t1 ys.length v1, .slice t2 yk.length v2, .slice t3 yd.length v3] 26 ∧ Brow wr Y [.bool mf, .slice g1 ms.length h1, .slice g2 mk.length h2, .slice g3 md.length h3] 26) ∧ Lies wr ⟨mf, ms, mk, md⟩ ⟨e1, f1, e2, f2, e3, f3⟩ ∧ Lies wr ⟨xf, xs, xk, xd⟩ ⟨r1, s1, r2, s2, r3, s3⟩ ∧ Lies wr ⟨yf, ys, yk, yd⟩ ⟨t1, v1, t2, v2, t3, v3⟩) from ⟨HSF.out.1.trans (hBG.mono (by omega)), ⟨HSF.out.2.1.1.below hBG (by omega), HSF.out.2.1.2.1.below hBG (by omega), HSF.out.2.1.2.2.1.below hBG (by omega), HSF.out.2.1.2.2.2.below hBG (by omega)⟩, HSF.out.2.2.1.below hBG, HSF.out.2.2.2.1.below hBG, HSF.out.2.2.2.2.below hBG⟩)
          have hsG : Y + 1 ≤ wr.heap.size := Nat.le_trans hsF hBG.size
          have HBG : Hid (Below wF.heap.size wF wr) := hBG
          clear hBG
          by_cases hlt : k < ys.length
          · obtain ⟨b, off, hab, hb, hc⟩ := HSG.out.2.2.2.2.r1.cell (Nat.lt_of_le_of_lt (Nat.zero_le _) hlt)
            simp only at hab
            subst hab
            obtain ⟨q0, q1, q2, q3⟩ := hc k hlt
            have hcmp : Sl.lt (ys.getD k Sl.cel0).key K = false := HO1.out.2.1 _ (Sl.getD_mem ys k Sl.cel0 hlt)
            clear hc HSG
            have i0 : decide ((k : Int) < (ys.length : Int)) = true := by simp; omega
            simp only at q0 q1 q2 q3
            generalize ys.getD k Sl.cel0 = x at *
            obtain ⟨xk_, xx, xo, xl⟩ := x
            simp only at q0 q1 q2 q3 hcmp
            have HAL : Hid (Below wF.heap.size wF (wr.alloc (.cells #[.string xk_, .string xx, .int .i64 xo, .int .i64 xl] 28))) := HBG.out.alloc HBG.out.size _
            have hq : Op.bytesLess xk_.toList K.toList = false := hcmp
            clear hcmp HBG
            go_wp2_with fail
            go_roundw
            case rel => exact ⟨k + 1, by omega, by go_num, HAL.out⟩
            case measure => (simp [intOf]) <;> omega
          · have hkl : ¬ (k : Int) < (ys.length : Int) := by omega
            clear HBG
            clear hsF HSF
            generalize wr = wG at *
            have q0 := HSG.out.2.1.2.1.at 0 _ rfl
            have q1 := HSG.out.2.1.2.1.at 1 _ rfl
            have q2 := HSG.out.2.1.2.1.at 2 _ rfl
            have q3 := HSG.out.2.1.2.1.at 3 _ rfl
            go_wp2_with fail
            clear q0 q1 q2 q3
            go_loopw [95] (fun s95 wr => ∃ k : Nat, k ≤ xk.length ∧ s95 = .int .i64 k ∧ wr = wG) (fun s95 _ => xk.length - (intOf s95).toNat)
            case atStart => exact ⟨0, by omega, rfl, rfl⟩
            case round =>
              obtain ⟨k, hk, rfl, hwr⟩ := hrel
              replace hwr := hwr.symm
              subst hwr
              by_cases hlt : k < xk.length
              · obtain ⟨b, off, hab, hb, hc⟩ := HSG.out.2.2.2.1.r2.keyAt (Nat.lt_of_le_of_lt (Nat.zero_le _) hlt)
                simp only at hab
                subst hab
                have hc0 := hc k hlt
                simp only at hc0
                have hmem := Sl.getD_mem xk k ByteArray.empty hlt
                clear hc
                have i0 : decide ((k : Int) < (xk.length : Int)) = true := by simp; omega
                generalize xk.getD k ByteArray.empty = x at *
                have hq : Op.bytesLess x.toList K.toList = true := HO1.out.2.2.1 _ hmem
                clear hmem
                go_wp2_with fail
                go_roundw
                case rel => exact ⟨k + 1, by omega, by go_num, trivial⟩
                case measure => (simp [intOf]) <;> omega
              · have hkl : ¬ (k : Int) < (xk.length : Int) := by omega
                have q0 := HSG.out.2.1.2.2.1.at 0 _ rfl
                have q1 := HSG.out.2.1.2.2.1.at 1 _ rfl
                have q2 := HSG.out.2.1.2.2.1.at 2 _ rfl
                have q3 := HSG.out.2.1.2.2.1.at 3 _ rfl
                go_wp2_with fail
                clear q0 q1 q2 q3
                go_loopw [106] (fun s106 wr => ∃ k : Nat, k ≤ yk.length ∧ s106 = .int .i64 k ∧ wr = wG) (fun s106 _ => yk.length - (intOf s106).toNat)
                case atStart => exact ⟨0, by omega, rfl, rfl⟩
                case round =>
                  obtain ⟨k, hk, rfl, hwr⟩ := hrel
                  replace hwr := hwr.symm
                  subst hwr
                  by_cases hlt : k < yk.length
                  · obtain ⟨b, off, hab, hb, hc⟩ := HSG.out.2.2.2.2.r2.keyAt (Nat.lt_of_le_of_lt (Nat.zero_le _) hlt)
                    simp only at hab
                    subst hab
                    have hc0 := hc k hlt
                    simp only at hc0
                    have hmem := Sl.getD_mem yk k ByteArray.empty hlt
                    clear hc
                    have i0 : decide ((k : Int) < (yk.length : Int)) = true := by simp; omega
                    generalize yk.getD k ByteArray.empty = x at *
                    obtain ⟨hq, hq2⟩ := lt_not (HO1.out.2.2.2 _ hmem)
                    clear hmem
                    go_wp2_with fail
                    go_roundw
                    case rel => exact ⟨k + 1, by omega, by go_num, trivial⟩
                    case measure => (simp [intOf]) <;> omega
                  · have hkl : ¬ (k : Int) < (yk.length : Int) := by omega
                    go_wp2_with fail
                    refine (works_any wG).mono ?_
                    rintro e wz ⟨rfl, hBz⟩
                    have HBz : Hid (Below w.heap.size w wz) := HSG.out.1.trans (hBz.mono (by have := HSG.out.1.size; omega))
                    clear hBz
                    go_wp2
                    go_ret
                    exact ⟨rfl, HBz.out⟩
end Go.Proofs.Ytoinaplmgffkpaa
