/- Proved: what slot's Put and Cut answer (stage 11). -/
import Derived.Test.YtoinaplmgffkpaaPlace
import Derived.Test.YtoinaplmgffkpaaApp
namespace Go.Proofs.Ytoinaplmgffkpaa
open Go.RowKit
open Sl (Cel Nod)
def putN (n : Nod) (c : Cel) : Nod := if n.leaf then ⟨n.leaf, n.cells.take (plF n c.key) ++ [c] ++ n.cells.drop (plT n c.key), n.keys, n.kids⟩ else n
def cutN (n : Nod) (i : Int) : Nod := if n.leaf && (decide (0 ≤ i) && decide (i < (n.cells.length : Int))) then ⟨n.leaf, n.cells.take i.toNat ++ n.cells.drop (i.toNat + 1), n.keys, n.kids⟩ else n
theorem putN_fit {n : Nod} {c : Cel} (hF : Fit n) (hc : CelFit c) (hl : n.cells.length < 1000) : Fit (putN n c) := by
  unfold putN
  split
  · rename_i h
    have := pl_le n c.key h
    refine ⟨fun x hx => ?_, hF.keys, hF.kids, ?_, hF.l2, hF.l3⟩
    · simp only [List.mem_append, List.mem_singleton] at hx
      rcases hx with (hx | rfl) | hx
      · exact hF.cells x (List.mem_of_mem_take hx)
      · exact hc
      · exact hF.cells x (List.mem_of_mem_drop hx)
    · simp only [List.length_append, List.length_take, List.length_drop, List.length_cons, List.length_nil]
      omega
  · exact hF
theorem cutN_fit {n : Nod} {i : Int} (hF : Fit n) : Fit (cutN n i) := by
  have h1 := hF.l1
  unfold cutN
  split
  · refine ⟨fun x hx => ?_, hF.keys, hF.kids, ?_, hF.l2, hF.l3⟩
    · simp only [List.mem_append] at hx
      rcases hx with hx | hx
      · exact hF.cells x (List.mem_of_mem_take hx)
      · exact hF.cells x (List.mem_of_mem_drop hx)
    · simp only [List.length_append, List.length_take, List.length_drop]
      omega
  · exact hF
theorem row_one (w : World) (c : Cel) : RowAt (boxC w c) (some ⟨w.heap.size, 0, none⟩) (cvals [c]) := by
  have h := boxC_at w c
  refine .inr ⟨w.heap.size, 0, rfl, by unfold boxC; rw [size_alloc1]; omega, fun j u hj => ?_⟩
  have hjl : j < 4 := by
    have := (List.getElem?_eq_some_iff.1 hj).1
    rwa [cvals_length] at this
  rw [Nat.zero_add]
  match j, hjl, hj with
  | 0, _, hj => cases hj; exact h.key
  | 1, _, hj => cases hj; exact h.val
  | 2, _, hj => cases hj; exact h.over
  | 3, _, hj => cases hj; exact h.len
/- the last step: the answer is laid into its variable -/
def setN (w : World) (b : Nat) (v0 v1 v2 v3 : Value) : World := (((w.setCell ⟨b, 0, none⟩ v0).setCell ⟨b, 1, none⟩ v1).setCell ⟨b, 2, none⟩ v2).setCell ⟨b, 3, none⟩ v3
theorem setN_row {w : World} {b : Nat} {x0 x1 x2 x3 : Value} {t : TypeId} (h : Brow w b [x0, x1, x2, x3] t) (v0 v1 v2 v3 : Value) : Brow (setN w b v0 v1 v2 v3) b [v0, v1, v2, v3] t := (((h.set 0 v0).set 1 v1).set 2 v2).set 3 v3
theorem setN_far {w : World} {b b' : Nat} {cs : List Value} {t : TypeId} (h : Brow w b' cs t) (hn : b ≠ b') (v0 v1 v2 v3 : Value) : Brow (setN w b v0 v1 v2 v3) b' cs t := (((h.far hn).far hn).far hn).far hn
theorem setN_lies {w : World} {N b : Nat} {n : Nod} {p : Pt} (h : LiesF w N n p) (hb : b < N) (v0 v1 v2 v3 : Value) : LiesF (setN w b v0 v1 v2 v3) N n p := (((h.set hb 0 v0).set hb 1 v1).set hb 2 v2).set hb 3 v3
theorem setN_below {w w' : World} {b B : Nat} (h : Below B w w') (hb : B ≤ b) (v0 v1 v2 v3 : Value) : Below B w (setN w' b v0 v1 v2 v3) := (((h.setCell hb v0).setCell hb v1).setCell hb v2).setCell hb v3
theorem cut_int {i : Int} (h : 0 ≤ i) : ((i.toNat : Nat) : Int) = i := Int.toNat_of_nonneg h
set_option maxHeartbeats 2000000 in
theorem put_any (n : Nod) (p : Pt) (c : Cel) (w : World) (hN : Lies w n p) (hF : Fit n) (hc : CelFit c) (hl : n.cells.length < 1000) :
    Calls Try.prog 15 #[nv n p, cv c] w fun e w' => ∃ p', e = .returned (nv (putN n c) p') ∧ LiesF w' w.heap.size (putN n c) p' ∧ Below w.heap.size w w' := by
  have hFP := putN_fit hF hc hl
  have hPL := pl_le n c.key
  have HPL := fun (W : World) (h : Below w.heap.size w W) => place_any n p c.key W (hN.below h) hF
  have HOW := fun (W : World) (h : Below w.heap.size w W) => own_any n p W (hN.below h) hF
  have HL : Hid (Lies w n p) := hN
  have hl1 := hF.l1
  have HPN : Is (putN n c) (if n.leaf then ⟨n.leaf, n.cells.take (plF n c.key) ++ [c] ++ n.cells.drop (plT n c.key), n.keys, n.kids⟩ else n) := ⟨rfl⟩
  generalize putN n c = m at *
  generalize plF n c.key = f at *
  generalize plT n c.key = t at *
  clear hN hF hc
  obtain ⟨lf, cs, ks, ds⟩ := n
  obtain ⟨a1, c1, a2, c2, a3, c3⟩ := p
  have HR1 := (show Hid (RowAt (boxC w c) (some ⟨w.heap.size, 0, none⟩) (cvals [c])) from row_one w c)
  have HRW := (show Hid (∀ W : World, RowAt (boxC W c) (some ⟨W.heap.size, 0, none⟩) (cvals [c])) from fun W => row_one W c)
  obtain ⟨ck, cx, co, cl⟩ := c
  unfold nv cv at *
  simp only at HPL HOW hPL hl hl1 HPN ⊢
  have HB0 : Hid (Below w.heap.size w (((w.alloc (.cells #[.bool lf, .slice a1 cs.length c1, .slice a2 ks.length c2, .slice a3 ds.length c3] 26)).alloc (.cells #[.string ck, .string cx, .int .i64 co, .int .i64 cl] 28)).alloc (.cells #[.bool false, .slice none 0 0, .slice none 0 0, .slice none 0 0] 26))) := ((below_alloc _ _).alloc (by rw [size_alloc1]; omega) _).alloc (by rw [size_alloc1, size_alloc1]; omega) _
  have HN0 : Hid (Brow (((w.alloc (.cells #[.bool lf, .slice a1 cs.length c1, .slice a2 ks.length c2, .slice a3 ds.length c3] 26)).alloc (.cells #[.string ck, .string cx, .int .i64 co, .int .i64 cl] 28)).alloc (.cells #[.bool false, .slice none 0 0, .slice none 0 0, .slice none 0 0] 26)) w.heap.size [.bool lf, .slice a1 cs.length c1, .slice a2 ks.length c2, .slice a3 ds.length c3] 26) := ((Brow.new w [.bool lf, .slice a1 cs.length c1, .slice a2 ks.length c2, .slice a3 ds.length c3] 26).alloc _).alloc _
  have HC0 : Hid (Brow (((w.alloc (.cells #[.bool lf, .slice a1 cs.length c1, .slice a2 ks.length c2, .slice a3 ds.length c3] 26)).alloc (.cells #[.string ck, .string cx, .int .i64 co, .int .i64 cl] 28)).alloc (.cells #[.bool false, .slice none 0 0, .slice none 0 0, .slice none 0 0] 26)) (w.heap.size + 1) [.string ck, .string cx, .int .i64 co, .int .i64 cl] 28) := by
    have := (Brow.new (w.alloc (.cells #[.bool lf, .slice a1 cs.length c1, .slice a2 ks.length c2, .slice a3 ds.length c3] 26)) [.string ck, .string cx, .int .i64 co, .int .i64 cl] 28).alloc (.cells #[.bool false, .slice none 0 0, .slice none 0 0, .slice none 0 0] 26)
    rwa [size_alloc1] at this
  have HZ0 : Hid (Brow (((w.alloc (.cells #[.bool lf, .slice a1 cs.length c1, .slice a2 ks.length c2, .slice a3 ds.length c3] 26)).alloc (.cells #[.string ck, .string cx, .int .i64 co, .int .i64 cl] 28)).alloc (.cells #[.bool false, .slice none 0 0, .slice none 0 0, .slice none 0 0] 26)) (w.heap.size + 2) [.bool false, .slice none 0 0, .slice none 0 0, .slice none 0 0] 26) := by
    have := Brow.new ((w.alloc (.cells #[.bool lf, .slice a1 cs.length c1, .slice a2 ks.length c2, .slice a3 ds.length c3] 26)).alloc (.cells #[.string ck, .string cx, .int .i64 co, .int .i64 cl] 28)) [.bool false, .slice none 0 0, .slice none 0 0, .slice none 0 0] 26
    rwa [size_alloc1, size_alloc1] at this
  have hs0 : (((w.alloc (.cells #[.bool lf, .slice a1 cs.length c1, .slice a2 ks.length c2, .slice a3 ds.length c3] 26)).alloc (.cells #[.string ck, .string cx, .int .i64 co, .int .i64 cl] 28)).alloc (.cells #[.bool false, .slice none 0 0, .slice none 0 0, .slice none 0 0] 26)).heap.size = w.heap.size + 3 := by rw [size_alloc1, size_alloc1, size_alloc1]
  cases lf with
  | false =>
    have hm := HPN.eq
    rw [if_neg (by simp)] at hm
    subst hm
    clear HPN HPL hPL HR1 HRW
    go_enter Try.func15, Try.ntmps15
    go_wp2_with fail
    refine (HOW _ HB0.out).mono ?_
    rintro e w1 ⟨⟨b1, k1, b2, k2, b3, k3⟩, rfl, hL1, hB1⟩
    have HB1 : Hid (Below w.heap.size w w1) := HB0.out.trans (hB1.mono (by omega))
    have HZ1 : Hid (Brow w1 (w.heap.size + 2) [.bool false, .slice none 0 0, .slice none 0 0, .slice none 0 0] 26) := HZ0.out.below hB1 (by omega)
    have HL1 : Hid (LiesF w1 (w.heap.size + 3) ⟨false, cs, ks, ds⟩ ⟨b1, k1, b2, k2, b3, k3⟩) := hL1.mono (by omega)
    clear hL1 hB1 HB0 HN0 HC0 HZ0 hs0 HOW HL
    have HFR := (show Hid (Brow (setN w1 (w.heap.size + 2) (.bool false) (.slice b1 cs.length k1) (.slice b2 ks.length k2) (.slice b3 ds.length k3)) (w.heap.size + 2) [.bool false, .slice b1 cs.length k1, .slice b2 ks.length k2, .slice b3 ds.length k3] 26) from setN_row HZ1.out _ _ _ _)
    have HFL := (show Hid (LiesF (setN w1 (w.heap.size + 2) (.bool false) (.slice b1 cs.length k1) (.slice b2 ks.length k2) (.slice b3 ds.length k3)) w.heap.size ⟨false, cs, ks, ds⟩ ⟨b1, k1, b2, k2, b3, k3⟩) from (setN_lies HL1.out (by omega) _ _ _ _).mono (by omega))
    have HFB := (show Hid (Below w.heap.size w (setN w1 (w.heap.size + 2) (.bool false) (.slice b1 cs.length k1) (.slice b2 ks.length k2) (.slice b3 ds.length k3))) from setN_below HB1.out (by omega) _ _ _ _)
    have y0 := HZ1.out.at 0 _ rfl
    have z0 := HZ1.out.fz 0
    have y1 := HZ1.out.at 1 _ rfl
    have z1 := HZ1.out.fz 1
    have y2 := HZ1.out.at 2 _ rfl
    have z2 := HZ1.out.fz 2
    have y3 := HZ1.out.at 3 _ rfl
    have z3 := HZ1.out.fz 3
    unfold setN at HFR HFL HFB
    go_wp2
    refine bodyPost_ret (res_c rfl _ _ ((w.heap.size + 2)) 26 _ _ rfl HFR.out Try.underlying26 rfl (by kernel_rfl)) rfl ?_
    exact ⟨⟨b1, k1, b2, k2, b3, k3⟩, rfl, HFL.out, HFB.out⟩
  | true =>
    obtain ⟨hft, htl⟩ := hPL rfl
    have hm := HPN.eq
    rw [if_pos rfl] at hm
    subst hm
    clear HPN hPL HR1 HOW
    go_enter Try.func15, Try.ntmps15
    go_wp2_with fail
    refine (HPL _ HB0.out).mono ?_
    rintro e w1 ⟨rfl, hB1⟩
    have HB1 : Hid (Below w.heap.size w w1) := HB0.out.trans (hB1.mono (by omega))
    have hs1 : w.heap.size + 3 ≤ w1.heap.size := by have := hB1.size; omega
    have HN1 : Hid (Brow w1 w.heap.size [.bool true, .slice a1 cs.length c1, .slice a2 ks.length c2, .slice a3 ds.length c3] 26) := HN0.out.below hB1 (by omega)
    have HC1 : Hid (Brow w1 (w.heap.size + 1) [.string ck, .string cx, .int .i64 co, .int .i64 cl] 28) := HC0.out.below hB1 (by omega)
    have HZ1 : Hid (Brow w1 (w.heap.size + 2) [.bool false, .slice none 0 0, .slice none 0 0, .slice none 0 0] 26) := HZ0.out.below hB1 (by omega)
    have HR1 := (show Hid (RowBut w1 w.heap.size a1 (cvals cs)) from (HL.out.r1.but (Nat.le_refl _)).below HB1.out)
    clear hB1 HB0 HN0 HC0 HZ0 hs0 HPL
    have q0 := HN1.out.at 0 _ rfl
    have q1 := HN1.out.at 1 _ rfl
    have q2 := HN1.out.at 2 _ rfl
    have q3 := HN1.out.at 3 _ rfl
    have y0 := HC1.out.at 0 _ rfl
    have y1 := HC1.out.at 1 _ rfl
    have y2 := HC1.out.at 2 _ rfl
    have y3 := HC1.out.at 3 _ rfl
    have HB2 : Hid (Below w1.heap.size w1 (w1.alloc (.cells #[.string ck, .string cx, .int .i64 co, .int .i64 cl] 28))) := below_alloc _ _
    have HSP := splC_any a1 cs.length c1 cs f t (some ⟨w1.heap.size, 0, none⟩) 1 1 [⟨ck, cx, co, cl⟩] (w1.alloc (.cells #[.string ck, .string cx, .int .i64 co, .int .i64 cl] 28)) (HR1.out.row.below HB2.out) (HRW.out w1) rfl rfl hft htl HL.out.l1 HL.out.m1 (by omega)
    go_wp2_with fail
    refine HSP.mono ?_
    rintro e w3 ⟨b1, k1, rfl, hk1, hk2, _, hB3, hX⟩
    have HB3' : Hid (Below w1.heap.size w1 w3) := HB2.out.trans (hB3.mono (by rw [size_alloc1]; omega))
    have HR3 := (show Hid (RowBut w3 w.heap.size b1 (cvals (cs.take f ++ [⟨ck, cx, co, cl⟩] ++ cs.drop t))) from hX w.heap.size (by rw [size_alloc1]; omega) (HR1.out.below HB2.out))
    have HN3 : Hid (Brow w3 w.heap.size [.bool true, .slice a1 cs.length c1, .slice a2 ks.length c2, .slice a3 ds.length c3] 26) := HN1.out.below HB3'.out (by omega)
    have HZ3 : Hid (Brow w3 (w.heap.size + 2) [.bool false, .slice none 0 0, .slice none 0 0, .slice none 0 0] 26) := HZ1.out.below HB3'.out (by omega)
    have HB3 : Hid (Below w.heap.size w w3) := HB1.out.trans (HB3'.out.mono (by omega))
    have HS2 := (show Hid (RowBut w3 w.heap.size a2 (kcells ks) ∧ RowBut w3 w.heap.size a3 (icells ds)) from ⟨(HL.out.r2.but (Nat.le_refl _)).below HB3.out, (HL.out.r3.but (Nat.le_refl _)).below HB3.out⟩)
    have hs3 : w.heap.size + 3 ≤ w3.heap.size := Nat.le_trans hs1 HB3'.out.size
    clear hX hB3 HB3' HB2 HSP HR1 HN1 HC1 HZ1 HB1 q0 q1 q2 q3 y0 y1 y2 y3 HRW
    have hML : (cs.take f ++ [(⟨ck, cx, co, cl⟩ : Cel)] ++ cs.drop t).length = f + 1 + (cs.length - t) := by
      simp only [List.length_append, List.length_take, List.length_drop, List.length_cons, List.length_nil]; omega
    have HOW := own_any ⟨true, cs.take f ++ [⟨ck, cx, co, cl⟩] ++ cs.drop t, ks, ds⟩ ⟨b1, k1, a2, c2, a3, c3⟩ (w3.setCell ⟨w.heap.size, 1, none⟩ (.slice b1 (f + 1 + (cs.length - t)) k1)) ⟨(HR3.out.set _ _).row, (HS2.out.1.set _ _).row, (HS2.out.2.set _ _).row, by rw [hML]; exact hk1, HL.out.l2, HL.out.l3, hk2, HL.out.m2, HL.out.m3⟩ hFP
    have HW4 := (show Hid (Brow (w3.setCell ⟨w.heap.size, 1, none⟩ (.slice b1 (f + 1 + (cs.length - t)) k1)) w.heap.size [.bool true, .slice b1 (f + 1 + (cs.length - t)) k1, .slice a2 ks.length c2, .slice a3 ds.length c3] 26) from HN3.out.set 1 _)
    have HZ4 : Hid (Brow (w3.setCell ⟨w.heap.size, 1, none⟩ (.slice b1 (f + 1 + (cs.length - t)) k1)) (w.heap.size + 2) [.bool false, .slice none 0 0, .slice none 0 0, .slice none 0 0] 26) := HZ3.out.far (by show w.heap.size ≠ w.heap.size + 2; omega)
    have HB4 : Hid (Below w.heap.size w (w3.setCell ⟨w.heap.size, 1, none⟩ (.slice b1 (f + 1 + (cs.length - t)) k1))) := HB3.out.setCell (Nat.le_refl _) _
    have hs4 : w.heap.size + 3 ≤ (w3.setCell ⟨w.heap.size, 1, none⟩ (.slice b1 (f + 1 + (cs.length - t)) k1)).heap.size := by rw [size_setCell]; exact hs3
    unfold nv at HOW
    simp only at HOW
    rw [hML] at HOW
    have HML : Is (cs.take f ++ [(⟨ck, cx, co, cl⟩ : Cel)] ++ cs.drop t).length (f + 1 + (cs.length - t)) := ⟨hML⟩
    clear hML HR3 HS2 HL
    generalize f + 1 + (cs.length - t) = M at *
    have q1 := HN3.out.at 1 _ rfl
    have z1 := HN3.out.fz 1
    have p0 := HW4.out.at 0 _ rfl
    have p1 := HW4.out.at 1 _ rfl
    have p2 := HW4.out.at 2 _ rfl
    have p3 := HW4.out.at 3 _ rfl
    go_wp2_with fail
    refine HOW.mono ?_
    rintro e w5 ⟨⟨b1', k1', b2', k2', b3', k3'⟩, rfl, hL5, hB5⟩
    have HB5 : Hid (Below w.heap.size w w5) := HB4.out.trans (hB5.mono (by omega))
    have HZ5 : Hid (Brow w5 (w.heap.size + 2) [.bool false, .slice none 0 0, .slice none 0 0, .slice none 0 0] 26) := HZ4.out.below hB5 (by omega)
    have HL5 : Hid (LiesF w5 (w.heap.size + 3) ⟨true, cs.take f ++ [⟨ck, cx, co, cl⟩] ++ cs.drop t, ks, ds⟩ ⟨b1', k1', b2', k2', b3', k3'⟩) := hL5.mono hs4
    clear hL5 hB5 HOW HW4 HZ4 HB4 hs4 p0 p1 p2 p3 q1 z1 HN3 HZ3 HB3
    have HFR := (show Hid (Brow (setN w5 (w.heap.size + 2) (.bool true) (.slice b1' M k1') (.slice b2' ks.length k2') (.slice b3' ds.length k3')) (w.heap.size + 2) [.bool true, .slice b1' M k1', .slice b2' ks.length k2', .slice b3' ds.length k3'] 26) from setN_row HZ5.out _ _ _ _)
    have HFL := (show Hid (LiesF (setN w5 (w.heap.size + 2) (.bool true) (.slice b1' M k1') (.slice b2' ks.length k2') (.slice b3' ds.length k3')) w.heap.size ⟨true, cs.take f ++ [⟨ck, cx, co, cl⟩] ++ cs.drop t, ks, ds⟩ ⟨b1', k1', b2', k2', b3', k3'⟩) from (setN_lies HL5.out (by omega) _ _ _ _).mono (by omega))
    have HFB := (show Hid (Below w.heap.size w (setN w5 (w.heap.size + 2) (.bool true) (.slice b1' M k1') (.slice b2' ks.length k2') (.slice b3' ds.length k3'))) from setN_below HB5.out (by omega) _ _ _ _)
    have y0 := HZ5.out.at 0 _ rfl
    have z0 := HZ5.out.fz 0
    have y1 := HZ5.out.at 1 _ rfl
    have z1 := HZ5.out.fz 1
    have y2 := HZ5.out.at 2 _ rfl
    have z2 := HZ5.out.fz 2
    have y3 := HZ5.out.at 3 _ rfl
    have z3 := HZ5.out.fz 3
    unfold setN at HFR HFL HFB
    go_wp2
    refine bodyPost_ret (res_c rfl _ _ ((w.heap.size + 2)) 26 _ _ rfl HFR.out Try.underlying26 rfl (by kernel_rfl)) rfl ?_
    refine ⟨⟨b1', k1', b2', k2', b3', k3'⟩, ?_, HFL.out, HFB.out⟩
    simp only
    rw [HML.eq]
set_option maxHeartbeats 2000000 in
theorem cut_any (n : Nod) (p : Pt) (i : Int) (w : World) (hN : Lies w n p) (hF : Fit n) :
    Calls Try.prog 17 #[nv n p, .int .i64 i] w fun e w' => ∃ p', e = .returned (nv (cutN n i) p') ∧ LiesF w' w.heap.size (cutN n i) p' ∧ Below w.heap.size w w' := by
  have hFP := cutN_fit (i := i) hF
  have HOW := fun (W : World) (h : Below w.heap.size w W) => own_any n p W (hN.below h) hF
  have HL : Hid (Lies w n p) := hN
  have hl1 := hF.l1
  have HPN : Is (cutN n i) (if n.leaf && (decide (0 ≤ i) && decide (i < (n.cells.length : Int))) then ⟨n.leaf, n.cells.take i.toNat ++ n.cells.drop (i.toNat + 1), n.keys, n.kids⟩ else n) := ⟨rfl⟩
  generalize cutN n i = m at *
  clear hN hF
  obtain ⟨lf, cs, ks, ds⟩ := n
  obtain ⟨a1, c1, a2, c2, a3, c3⟩ := p
  unfold nv at *
  simp only at HOW hl1 HPN ⊢
  have HB0 : Hid (Below w.heap.size w ((w.alloc (.cells #[.bool lf, .slice a1 cs.length c1, .slice a2 ks.length c2, .slice a3 ds.length c3] 26)).alloc (.cells #[.bool false, .slice none 0 0, .slice none 0 0, .slice none 0 0] 26))) := (below_alloc _ _).alloc (by rw [size_alloc1]; omega) _
  have HN0 : Hid (Brow ((w.alloc (.cells #[.bool lf, .slice a1 cs.length c1, .slice a2 ks.length c2, .slice a3 ds.length c3] 26)).alloc (.cells #[.bool false, .slice none 0 0, .slice none 0 0, .slice none 0 0] 26)) w.heap.size [.bool lf, .slice a1 cs.length c1, .slice a2 ks.length c2, .slice a3 ds.length c3] 26) := (Brow.new w [.bool lf, .slice a1 cs.length c1, .slice a2 ks.length c2, .slice a3 ds.length c3] 26).alloc _
  have HZ0 : Hid (Brow ((w.alloc (.cells #[.bool lf, .slice a1 cs.length c1, .slice a2 ks.length c2, .slice a3 ds.length c3] 26)).alloc (.cells #[.bool false, .slice none 0 0, .slice none 0 0, .slice none 0 0] 26)) (w.heap.size + 1) [.bool false, .slice none 0 0, .slice none 0 0, .slice none 0 0] 26) := by
    have := Brow.new (w.alloc (.cells #[.bool lf, .slice a1 cs.length c1, .slice a2 ks.length c2, .slice a3 ds.length c3] 26)) [.bool false, .slice none 0 0, .slice none 0 0, .slice none 0 0] 26
    rwa [size_alloc1] at this
  have hs0 : ((w.alloc (.cells #[.bool lf, .slice a1 cs.length c1, .slice a2 ks.length c2, .slice a3 ds.length c3] 26)).alloc (.cells #[.bool false, .slice none 0 0, .slice none 0 0, .slice none 0 0] 26)).heap.size = w.heap.size + 2 := by rw [size_alloc1, size_alloc1]
  by_cases hin : lf = true ∧ 0 ≤ i ∧ i < (cs.length : Int)
  · obtain ⟨rfl, hi0, hi1⟩ := hin
    have hm := HPN.eq
    rw [if_pos (by simp [hi0, hi1])] at hm
    subst hm
    clear HPN HOW
    obtain ⟨j, rfl⟩ := Int.eq_ofNat_of_zero_le hi0
    have hj : j < cs.length := by omega
    rw [Int.toNat_natCast] at hFP ⊢
    have d1 : decide ((0 : Int) ≤ (j : Int)) = true := decide_eq_true (by omega)
    have d2 : decide ((j : Int) < (cs.length : Int)) = true := decide_eq_true (by omega)
    have HSP := splC_any a1 cs.length c1 cs j (j + 1) none 0 0 [] ((w.alloc (.cells #[.bool true, .slice a1 cs.length c1, .slice a2 ks.length c2, .slice a3 ds.length c3] 26)).alloc (.cells #[.bool false, .slice none 0 0, .slice none 0 0, .slice none 0 0] 26)) (HL.out.r1.below HB0.out) (.inl rfl) rfl rfl (by omega) (by omega) HL.out.l1 HL.out.m1 (by omega)
    have e1 : ((j + 1 : Nat) : Int) = (j : Int) + 1 := by omega
    rw [e1] at HSP
    clear e1 hi0 hi1
    go_enter Try.func17, Try.ntmps17
    go_wp2_with fail
    refine HSP.mono ?_
    rintro e w3 ⟨b1, k1, rfl, hk1, hk2, _, hB3, hX⟩
    have HB3 : Hid (Below w.heap.size w w3) := HB0.out.trans (hB3.mono (by omega))
    have HR3 := (show Hid (RowBut w3 w.heap.size b1 (cvals (cs.take j ++ [] ++ cs.drop (j + 1)))) from hX w.heap.size (by omega) ((HL.out.r1.but (Nat.le_refl _)).below HB0.out))
    have HN3 : Hid (Brow w3 w.heap.size [.bool true, .slice a1 cs.length c1, .slice a2 ks.length c2, .slice a3 ds.length c3] 26) := HN0.out.below hB3 (by omega)
    have HZ3 : Hid (Brow w3 (w.heap.size + 1) [.bool false, .slice none 0 0, .slice none 0 0, .slice none 0 0] 26) := HZ0.out.below hB3 (by omega)
    have HS2 := (show Hid (RowBut w3 w.heap.size a2 (kcells ks) ∧ RowBut w3 w.heap.size a3 (icells ds)) from ⟨(HL.out.r2.but (Nat.le_refl _)).below HB3.out, (HL.out.r3.but (Nat.le_refl _)).below HB3.out⟩)
    have hs3 : w.heap.size + 2 ≤ w3.heap.size := by have := hB3.size; omega
    clear hX hB3 HSP HN0 HZ0 HB0 hs0
    have hML : (cs.take j ++ cs.drop (j + 1)).length = j + 0 + (cs.length - (j + 1)) := by
      simp only [List.length_append, List.length_take, List.length_drop]; omega
    rw [List.append_nil] at HR3
    have HOW := own_any ⟨true, cs.take j ++ cs.drop (j + 1), ks, ds⟩ ⟨b1, k1, a2, c2, a3, c3⟩ (w3.setCell ⟨w.heap.size, 1, none⟩ (.slice b1 (j + 0 + (cs.length - (j + 1))) k1)) ⟨(HR3.out.set _ _).row, (HS2.out.1.set _ _).row, (HS2.out.2.set _ _).row, by rw [hML]; exact hk1, HL.out.l2, HL.out.l3, hk2, HL.out.m2, HL.out.m3⟩ hFP
    have HW4 := (show Hid (Brow (w3.setCell ⟨w.heap.size, 1, none⟩ (.slice b1 (j + 0 + (cs.length - (j + 1))) k1)) w.heap.size [.bool true, .slice b1 (j + 0 + (cs.length - (j + 1))) k1, .slice a2 ks.length c2, .slice a3 ds.length c3] 26) from HN3.out.set 1 _)
    have HZ4 : Hid (Brow (w3.setCell ⟨w.heap.size, 1, none⟩ (.slice b1 (j + 0 + (cs.length - (j + 1))) k1)) (w.heap.size + 1) [.bool false, .slice none 0 0, .slice none 0 0, .slice none 0 0] 26) := HZ3.out.far (by show w.heap.size ≠ w.heap.size + 1; omega)
    have HB4 : Hid (Below w.heap.size w (w3.setCell ⟨w.heap.size, 1, none⟩ (.slice b1 (j + 0 + (cs.length - (j + 1))) k1))) := HB3.out.setCell (Nat.le_refl _) _
    have hs4 : w.heap.size + 2 ≤ (w3.setCell ⟨w.heap.size, 1, none⟩ (.slice b1 (j + 0 + (cs.length - (j + 1))) k1)).heap.size := by rw [size_setCell]; exact hs3
    unfold nv at HOW
    simp only at HOW
    rw [hML] at HOW
    have HML : Is (cs.take j ++ cs.drop (j + 1)).length (j + 0 + (cs.length - (j + 1))) := ⟨hML⟩
    clear hML HR3 HS2 HL
    generalize j + 0 + (cs.length - (j + 1)) = M at *
    have q1 := HN3.out.at 1 _ rfl
    have z1 := HN3.out.fz 1
    have p0 := HW4.out.at 0 _ rfl
    have p1 := HW4.out.at 1 _ rfl
    have p2 := HW4.out.at 2 _ rfl
    have p3 := HW4.out.at 3 _ rfl
    go_wp2_with fail
    refine HOW.mono ?_
    rintro e w5 ⟨⟨b1', k1', b2', k2', b3', k3'⟩, rfl, hL5, hB5⟩
    have HB5 : Hid (Below w.heap.size w w5) := HB4.out.trans (hB5.mono (by omega))
    have HZ5 : Hid (Brow w5 (w.heap.size + 1) [.bool false, .slice none 0 0, .slice none 0 0, .slice none 0 0] 26) := HZ4.out.below hB5 (by omega)
    have HL5 : Hid (LiesF w5 (w.heap.size + 2) ⟨true, cs.take j ++ cs.drop (j + 1), ks, ds⟩ ⟨b1', k1', b2', k2', b3', k3'⟩) := hL5.mono hs4
    clear hL5 hB5 HOW HW4 HZ4 HB4 hs4 p0 p1 p2 p3 q1 z1 HN3 HZ3 HB3
    have HFR := (show Hid (Brow (setN w5 (w.heap.size + 1) (.bool true) (.slice b1' M k1') (.slice b2' ks.length k2') (.slice b3' ds.length k3')) (w.heap.size + 1) [.bool true, .slice b1' M k1', .slice b2' ks.length k2', .slice b3' ds.length k3'] 26) from setN_row HZ5.out _ _ _ _)
    have HFL := (show Hid (LiesF (setN w5 (w.heap.size + 1) (.bool true) (.slice b1' M k1') (.slice b2' ks.length k2') (.slice b3' ds.length k3')) w.heap.size ⟨true, cs.take j ++ cs.drop (j + 1), ks, ds⟩ ⟨b1', k1', b2', k2', b3', k3'⟩) from (setN_lies HL5.out (by omega) _ _ _ _).mono (by omega))
    have HFB := (show Hid (Below w.heap.size w (setN w5 (w.heap.size + 1) (.bool true) (.slice b1' M k1') (.slice b2' ks.length k2') (.slice b3' ds.length k3'))) from setN_below HB5.out (by omega) _ _ _ _)
    have y0 := HZ5.out.at 0 _ rfl
    have z0 := HZ5.out.fz 0
    have y1 := HZ5.out.at 1 _ rfl
    have z1 := HZ5.out.fz 1
    have y2 := HZ5.out.at 2 _ rfl
    have z2 := HZ5.out.fz 2
    have y3 := HZ5.out.at 3 _ rfl
    have z3 := HZ5.out.fz 3
    unfold setN at HFR HFL HFB
    go_wp2
    refine bodyPost_ret (res_c rfl _ _ ((w.heap.size + 1)) 26 _ _ rfl HFR.out Try.underlying26 rfl (by kernel_rfl)) rfl ?_
    refine ⟨⟨b1', k1', b2', k2', b3', k3'⟩, ?_, HFL.out, HFB.out⟩
    simp only
    rw [HML.eq]
  · have hm := HPN.eq
    rw [if_neg (by simp only [Bool.and_eq_true, decide_eq_true_eq]; exact hin)] at hm
    subst hm
    clear HPN
    have HCO : Hid (lf = true → 0 ≤ i → ¬ i < (cs.length : Int)) := fun h1 h2 h3 => hin ⟨h1, h2, h3⟩
    clear hin
    cases lf with
    | false =>
      clear HCO
      go_enter Try.func17, Try.ntmps17
      go_wp2_with fail
      refine (HOW _ HB0.out).mono ?_
      rintro e w1 ⟨⟨b1, k1, b2, k2, b3, k3⟩, rfl, hL1, hB1⟩
      have HB1 : Hid (Below w.heap.size w w1) := HB0.out.trans (hB1.mono (by omega))
      have HZ1 : Hid (Brow w1 (w.heap.size + 1) [.bool false, .slice none 0 0, .slice none 0 0, .slice none 0 0] 26) := HZ0.out.below hB1 (by omega)
      have HL1 : Hid (LiesF w1 (w.heap.size + 2) ⟨false, cs, ks, ds⟩ ⟨b1, k1, b2, k2, b3, k3⟩) := hL1.mono (by omega)
      clear hL1 hB1 HB0 HN0 HZ0 hs0 HOW HL
      have HFR := (show Hid (Brow (setN w1 (w.heap.size + 1) (.bool false) (.slice b1 cs.length k1) (.slice b2 ks.length k2) (.slice b3 ds.length k3)) (w.heap.size + 1) [.bool false, .slice b1 cs.length k1, .slice b2 ks.length k2, .slice b3 ds.length k3] 26) from setN_row HZ1.out _ _ _ _)
      have HFL := (show Hid (LiesF (setN w1 (w.heap.size + 1) (.bool false) (.slice b1 cs.length k1) (.slice b2 ks.length k2) (.slice b3 ds.length k3)) w.heap.size ⟨false, cs, ks, ds⟩ ⟨b1, k1, b2, k2, b3, k3⟩) from (setN_lies HL1.out (by omega) _ _ _ _).mono (by omega))
      have HFB := (show Hid (Below w.heap.size w (setN w1 (w.heap.size + 1) (.bool false) (.slice b1 cs.length k1) (.slice b2 ks.length k2) (.slice b3 ds.length k3))) from setN_below HB1.out (by omega) _ _ _ _)
      have y0 := HZ1.out.at 0 _ rfl
      have z0 := HZ1.out.fz 0
      have y1 := HZ1.out.at 1 _ rfl
      have z1 := HZ1.out.fz 1
      have y2 := HZ1.out.at 2 _ rfl
      have z2 := HZ1.out.fz 2
      have y3 := HZ1.out.at 3 _ rfl
      have z3 := HZ1.out.fz 3
      unfold setN at HFR HFL HFB
      go_wp2
      refine bodyPost_ret (res_c rfl _ _ ((w.heap.size + 1)) 26 _ _ rfl HFR.out Try.underlying26 rfl (by kernel_rfl)) rfl ?_
      exact ⟨⟨b1, k1, b2, k2, b3, k3⟩, rfl, HFL.out, HFB.out⟩
    | true =>
      by_cases h0 : 0 ≤ i
      · have h1 := HCO.out rfl h0
        clear HCO
        have d1 : decide ((0 : Int) ≤ i) = true := decide_eq_true h0
        have d2 : decide (i < (cs.length : Int)) = false := decide_eq_false h1
        clear h0 h1
        go_enter Try.func17, Try.ntmps17
        go_wp2_with fail
        refine (HOW _ HB0.out).mono ?_
        rintro e w1 ⟨⟨b1, k1, b2, k2, b3, k3⟩, rfl, hL1, hB1⟩
        have HB1 : Hid (Below w.heap.size w w1) := HB0.out.trans (hB1.mono (by omega))
        have HZ1 : Hid (Brow w1 (w.heap.size + 1) [.bool false, .slice none 0 0, .slice none 0 0, .slice none 0 0] 26) := HZ0.out.below hB1 (by omega)
        have HL1 : Hid (LiesF w1 (w.heap.size + 2) ⟨true, cs, ks, ds⟩ ⟨b1, k1, b2, k2, b3, k3⟩) := hL1.mono (by omega)
        clear hL1 hB1 HB0 HN0 HZ0 hs0 HOW HL
        have HFR := (show Hid (Brow (setN w1 (w.heap.size + 1) (.bool true) (.slice b1 cs.length k1) (.slice b2 ks.length k2) (.slice b3 ds.length k3)) (w.heap.size + 1) [.bool true, .slice b1 cs.length k1, .slice b2 ks.length k2, .slice b3 ds.length k3] 26) from setN_row HZ1.out _ _ _ _)
        have HFL := (show Hid (LiesF (setN w1 (w.heap.size + 1) (.bool true) (.slice b1 cs.length k1) (.slice b2 ks.length k2) (.slice b3 ds.length k3)) w.heap.size ⟨true, cs, ks, ds⟩ ⟨b1, k1, b2, k2, b3, k3⟩) from (setN_lies HL1.out (by omega) _ _ _ _).mono (by omega))
        have HFB := (show Hid (Below w.heap.size w (setN w1 (w.heap.size + 1) (.bool true) (.slice b1 cs.length k1) (.slice b2 ks.length k2) (.slice b3 ds.length k3))) from setN_below HB1.out (by omega) _ _ _ _)
        have y0 := HZ1.out.at 0 _ rfl
        have z0 := HZ1.out.fz 0
        have y1 := HZ1.out.at 1 _ rfl
        have z1 := HZ1.out.fz 1
        have y2 := HZ1.out.at 2 _ rfl
        have z2 := HZ1.out.fz 2
        have y3 := HZ1.out.at 3 _ rfl
        have z3 := HZ1.out.fz 3
        unfold setN at HFR HFL HFB
        go_wp2
        refine bodyPost_ret (res_c rfl _ _ ((w.heap.size + 1)) 26 _ _ rfl HFR.out Try.underlying26 rfl (by kernel_rfl)) rfl ?_
        exact ⟨⟨b1, k1, b2, k2, b3, k3⟩, rfl, HFL.out, HFB.out⟩
      · clear HCO
        have d1 : decide ((0 : Int) ≤ i) = false := decide_eq_false h0
        clear h0
        go_enter Try.func17, Try.ntmps17
        go_wp2_with fail
        refine (HOW _ HB0.out).mono ?_
        rintro e w1 ⟨⟨b1, k1, b2, k2, b3, k3⟩, rfl, hL1, hB1⟩
        have HB1 : Hid (Below w.heap.size w w1) := HB0.out.trans (hB1.mono (by omega))
        have HZ1 : Hid (Brow w1 (w.heap.size + 1) [.bool false, .slice none 0 0, .slice none 0 0, .slice none 0 0] 26) := HZ0.out.below hB1 (by omega)
        have HL1 : Hid (LiesF w1 (w.heap.size + 2) ⟨true, cs, ks, ds⟩ ⟨b1, k1, b2, k2, b3, k3⟩) := hL1.mono (by omega)
        clear hL1 hB1 HB0 HN0 HZ0 hs0 HOW HL
        have HFR := (show Hid (Brow (setN w1 (w.heap.size + 1) (.bool true) (.slice b1 cs.length k1) (.slice b2 ks.length k2) (.slice b3 ds.length k3)) (w.heap.size + 1) [.bool true, .slice b1 cs.length k1, .slice b2 ks.length k2, .slice b3 ds.length k3] 26) from setN_row HZ1.out _ _ _ _)
        have HFL := (show Hid (LiesF (setN w1 (w.heap.size + 1) (.bool true) (.slice b1 cs.length k1) (.slice b2 ks.length k2) (.slice b3 ds.length k3)) w.heap.size ⟨true, cs, ks, ds⟩ ⟨b1, k1, b2, k2, b3, k3⟩) from (setN_lies HL1.out (by omega) _ _ _ _).mono (by omega))
        have HFB := (show Hid (Below w.heap.size w (setN w1 (w.heap.size + 1) (.bool true) (.slice b1 cs.length k1) (.slice b2 ks.length k2) (.slice b3 ds.length k3))) from setN_below HB1.out (by omega) _ _ _ _)
        have y0 := HZ1.out.at 0 _ rfl
        have z0 := HZ1.out.fz 0
        have y1 := HZ1.out.at 1 _ rfl
        have z1 := HZ1.out.fz 1
        have y2 := HZ1.out.at 2 _ rfl
        have z2 := HZ1.out.fz 2
        have y3 := HZ1.out.at 3 _ rfl
        have z3 := HZ1.out.fz 3
        unfold setN at HFR HFL HFB
        go_wp2
        refine bodyPost_ret (res_c rfl _ _ ((w.heap.size + 1)) 26 _ _ rfl HFR.out Try.underlying26 rfl (by kernel_rfl)) rfl ?_
        exact ⟨⟨b1, k1, b2, k2, b3, k3⟩, rfl, HFL.out, HFB.out⟩
end Go.Proofs.Ytoinaplmgffkpaa
