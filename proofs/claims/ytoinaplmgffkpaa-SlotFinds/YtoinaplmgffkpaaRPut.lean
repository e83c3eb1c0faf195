/- Proved: what the document's Put answers: the walk (stage 11). -/
import Derived.Test.YtoinaplmgffkpaaRPutM
import Derived.Laws.Cover1
namespace Go.Proofs.Ytoinaplmgffkpaa
open Go.RowKit
open Sl (Cel Nod)
set_option maxHeartbeats 4000000 in
set_option maxRecDepth 20000 in
theorem rput_any (n : Nod) (p : Pt) (c : Cel) (w : World) (hN : Lies w n p) (hl1 : n.cells.length ≤ 300) (hr : Sl.rise (n.cells.map Cel.key) = true) :
    Calls Try.prog 16 #[nv n p, cv c] w fun e w' => ∃ p', e = .returned (nv (putN n c) p') ∧ Lies w' (putN n c) p' ∧ Below w.heap.size w w' := by
  have HL : Hid (Lies w n p) := hN
  clear hN
  obtain ⟨lf, cs, ks, ds⟩ := n
  obtain ⟨a1, c1, a2, c2, a3, c3⟩ := p
  obtain ⟨ck, cx, co, cl⟩ := c
  simp only at hl1 hr ⊢
  cases lf with
  | false =>
    rw [show putN ⟨false, cs, ks, ds⟩ ⟨ck, cx, co, cl⟩ = ⟨false, cs, ks, ds⟩ from by unfold putN; rw [if_neg (by simp)]]
    unfold nv cv
    simp only
    clear hr
    have HZ := (show Hid (Brow (((w.alloc (.cells #[.bool false, .slice a1 cs.length c1, .slice a2 ks.length c2, .slice a3 ds.length c3] 26)).alloc (.cells #[.string ck, .string cx, .int .i64 co, .int .i64 cl] 28)).alloc (.cells #[.bool false, .slice a1 cs.length c1, .slice a2 ks.length c2, .slice a3 ds.length c3] 26)) (w.heap.size + 2) [.bool false, .slice a1 cs.length c1, .slice a2 ks.length c2, .slice a3 ds.length c3] 26) from by
      have := Brow.new ((w.alloc (.cells #[.bool false, .slice a1 cs.length c1, .slice a2 ks.length c2, .slice a3 ds.length c3] 26)).alloc (.cells #[.string ck, .string cx, .int .i64 co, .int .i64 cl] 28)) [.bool false, .slice a1 cs.length c1, .slice a2 ks.length c2, .slice a3 ds.length c3] 26
      rwa [size_alloc1, size_alloc1] at this)
    have HB := (show Hid (Below w.heap.size w (((w.alloc (.cells #[.bool false, .slice a1 cs.length c1, .slice a2 ks.length c2, .slice a3 ds.length c3] 26)).alloc (.cells #[.string ck, .string cx, .int .i64 co, .int .i64 cl] 28)).alloc (.cells #[.bool false, .slice a1 cs.length c1, .slice a2 ks.length c2, .slice a3 ds.length c3] 26))) from ((below_alloc _ _).alloc (by rw [size_alloc1]; omega) _).alloc (by rw [size_alloc1, size_alloc1]; omega) _)
    go_enter Try.func16, Try.ntmps16
    go_wp2
    refine bodyPost_ret (res_c rfl _ _ (w.heap.size + 2) 26 _ _ rfl HZ.out Try.underlying26 rfl (by kernel_rfl)) rfl ?_
    exact ⟨⟨a1, c1, a2, c2, a3, c3⟩, rfl, HL.out.below HB.out, HB.out⟩
  | true =>
    rw [endP_put ks ds ⟨ck, cx, co, cl⟩ hr]
    unfold nv cv
    simp only
    clear hr
    have HR0 : Hid (OutR w (w.heap.size + 3) (w.heap.size + 2) [.bool true, .slice a1 cs.length c1, .slice a2 ks.length c2, .slice a3 ds.length c3] [.string ck, .string cx, .int .i64 co, .int .i64 cl] 28 [.bool false, .slice none 0 0, .slice none 0 0, .slice none 0 0] [] (.slice none 0 0) (((w.alloc (.cells #[.bool true, .slice a1 cs.length c1, .slice a2 ks.length c2, .slice a3 ds.length c3] 26)).alloc (.cells #[.string ck, .string cx, .int .i64 co, .int .i64 cl] 28)).alloc (.cells #[.bool false, .slice none 0 0, .slice none 0 0, .slice none 0 0] 26))) := ⟨((Brow.new w _ 26).alloc _).alloc _, by
      have := (Brow.new (w.alloc (.cells #[.bool true, .slice a1 cs.length c1, .slice a2 ks.length c2, .slice a3 ds.length c3] 26)) [.string ck, .string cx, .int .i64 co, .int .i64 cl] 28).alloc (.cells #[.bool false, .slice none 0 0, .slice none 0 0, .slice none 0 0] 26)
      rwa [size_alloc1] at this, by
      have := Brow.new ((w.alloc (.cells #[.bool true, .slice a1 cs.length c1, .slice a2 ks.length c2, .slice a3 ds.length c3] 26)).alloc (.cells #[.string ck, .string cx, .int .i64 co, .int .i64 cl] 28)) [.bool false, .slice none 0 0, .slice none 0 0, .slice none 0 0] 26
      rwa [size_alloc1, size_alloc1] at this, own_nil _ _ _ _, ((below_alloc _ _).alloc (by rw [size_alloc1]; omega) _).alloc (by rw [size_alloc1, size_alloc1]; omega) _, by rw [size_alloc1, size_alloc1, size_alloc1]; omega⟩
    go_enter Try.func16, Try.ntmps16
    go_wp2_with fail
    generalize (((w.alloc (.cells #[.bool true, .slice a1 cs.length c1, .slice a2 ks.length c2, .slice a3 ds.length c3] 26)).alloc (.cells #[.string ck, .string cx, .int .i64 co, .int .i64 cl] 28)).alloc (.cells #[.bool false, .slice none 0 0, .slice none 0 0, .slice none 0 0] 26)) = w0 at *
    go_loopw [5, 6, 7] (fun s5 s6 s7 wr => ∃ (k : Nat) (v : Value) (pt : Bool), k ≤ cs.length ∧ v = s5 ∧ s6 = .bool pt ∧ s7 = .int .i64 k ∧ (stP ⟨ck, cx, co, cl⟩ cs k).2 = pt ∧ OutR w (w.heap.size + 3) (w.heap.size + 2) [.bool true, .slice a1 cs.length c1, .slice a2 ks.length c2, .slice a3 ds.length c3] [.string ck, .string cx, .int .i64 co, .int .i64 cl] 28 [.bool false, .slice none 0 0, .slice none 0 0, .slice none 0 0] (stP ⟨ck, cx, co, cl⟩ cs k).1 v wr) (fun _ _ s7 _ => cs.length - (intOf s7).toNat)
    case atStart => exact ⟨0, _, false, by omega, rfl, rfl, rfl, rfl, HR0.out⟩
    case round =>
      obtain ⟨k, v5, pt, hk, hv5, rfl, rfl, hpt, hR⟩ := hrel
      subst hv5
      have hoc := stP_len ⟨ck, cx, co, cl⟩ cs k
      obtain ⟨O, HO⟩ : ∃ O, Is O (stP ⟨ck, cx, co, cl⟩ cs k).1 := ⟨_, ⟨rfl⟩⟩
      rw [← HO.eq] at hR hoc
      have HR : Hid (OutR w (w.heap.size + 3) (w.heap.size + 2) [.bool true, .slice a1 cs.length c1, .slice a2 ks.length c2, .slice a3 ds.length c3] [.string ck, .string cx, .int .i64 co, .int .i64 cl] 28 [.bool false, .slice none 0 0, .slice none 0 0, .slice none 0 0] O v5 wr) := hR
      have HSP : Is (stP ⟨ck, cx, co, cl⟩ cs k) (O, pt) := ⟨by rw [HO.eq, ← hpt]⟩
      clear hR HR0 hpt HO
      by_cases hlt : k < cs.length
      · have i0 : (k : Int) < (cs.length : Int) := by omega
        have j0 : (0 : Int) ≤ (k : Int) := Int.natCast_nonneg _
        have HST : Is (stP ⟨ck, cx, co, cl⟩ cs (k + 1)) (stepP ⟨ck, cx, co, cl⟩ (O, pt) (cs.getD k Sl.cel0)) := ⟨by rw [stP_more _ cs k hlt, HSP.eq]⟩
        clear HSP
        obtain ⟨b, off, ha1, hb, hcl⟩ := HL.out.r1.cell (Nat.lt_of_le_of_lt (Nat.zero_le _) hlt)
        simp only at ha1
        subst ha1
        have HXW := (show Hid (∀ W, Below w.heap.size w W → CelAt W b (off + k * 4) (cs.getD k Sl.cel0)) from fun W h => (hcl k hlt).below h hb)
        clear hcl HL hb
        generalize cs.getD k Sl.cel0 = x at *
        obtain ⟨xk, xx, xo, xl⟩ := x
        have htri : (Sl.lt xk ck = true ∧ ¬ xk = ck) ∨ (Sl.lt xk ck = false ∧ xk = ck) ∨ (Sl.lt xk ck = false ∧ ¬ xk = ck) := by
          cases h1 : Sl.lt xk ck with
          | true => exact .inl ⟨rfl, fun e => by rw [e, Sl.lt_irrefl] at h1; cases h1⟩
          | false =>
            by_cases h2 : xk = ck
            · exact .inr (.inl ⟨rfl, h2⟩)
            · exact .inr (.inr ⟨rfl, h2⟩)
        cases pt with
        | true =>
          rcases htri with ⟨hs1, hs2⟩ | ⟨hs1, hs2⟩ | ⟨hs1, hs2⟩
          · have l1 : Op.bytesLess xk.toList ck.toList = true := hs1
            have l2 : Op.bytesLess ck.toList xk.toList = false := Sl.lt_asymm hs1
            have l3 : (xk.toList == ck.toList) = false := by rw [eq_list]; exact decide_eq_false hs2
            have l4 : (ck.toList == xk.toList) = false := by rw [eq_list]; exact decide_eq_false (fun e => hs2 e.symm)
            have HE : Is (stP ⟨ck, cx, co, cl⟩ cs (k + 1)) (O ++ [⟨xk, xx, xo, xl⟩], true) := ⟨by rw [HST.eq]; unfold stepP; simp [hs2]⟩
            clear HST hs1 hs2
            have q0 := HR.out.n.at 0 _ rfl
            have q1 := HR.out.n.at 1 _ rfl
            have y0 := HR.out.x.at 0 _ rfl
            have y1 := HR.out.x.at 1 _ rfl
            have y2 := HR.out.x.at 2 _ rfl
            have y3 := HR.out.x.at 3 _ rfl
            obtain ⟨x0, x1, x2, x3⟩ := HXW.out _ HR.out.b
            simp only at x0 x1 x2 x3
            go_upto_region 8 with fail
            go_quiet (fail)
            have HR1 := (show Hid (OutR w (w.heap.size + 3) (w.heap.size + 2) [.bool true, .slice (some ⟨b, off, none⟩) cs.length c1, .slice a2 ks.length c2, .slice a3 ds.length c3] [.string ck, .string cx, .int .i64 co, .int .i64 cl] 28 [.bool false, .slice none 0 0, .slice none 0 0, .slice none 0 0] O v5 (wr.drewN nq)) from HR.out.keep (below_drewN (Below.refl _ _)))
            clear q0 q1 y0 y1 y2 y3 x0 x1 x2 x3
            generalize wr.drewN nq = wa at *
            clear HR
            have q0 := HR1.out.n.at 0 _ rfl
            have q1 := HR1.out.n.at 1 _ rfl
            have y0 := HR1.out.x.at 0 _ rfl
            have y1 := HR1.out.x.at 1 _ rfl
            have y2 := HR1.out.x.at 2 _ rfl
            have y3 := HR1.out.x.at 3 _ rfl
            obtain ⟨x0, x1, x2, x3⟩ := HXW.out _ HR1.out.b
            simp only at x0 x1 x2 x3
            go_upto_region 11 with fail
            go_quiet (fail)
            have HR3 := (show Hid (OutR w (w.heap.size + 3) (w.heap.size + 2) [.bool true, .slice (some ⟨b, off, none⟩) cs.length c1, .slice a2 ks.length c2, .slice a3 ds.length c3] [.string ck, .string cx, .int .i64 co, .int .i64 cl] 28 [.bool false, .slice none 0 0, .slice none 0 0, .slice none 0 0] O v5 (wa.drewN nq)) from HR1.out.keep (below_drewN (Below.refl _ _)))
            clear q0 q1 y0 y1 y2 y3 x0 x1 x2 x3
            generalize wa.drewN nq = wc at *
            clear HR1
            obtain ⟨vd, wd, hr, hR4⟩ := HR3.out.add ⟨xk, xx, xo, xl⟩ (by omega) (by omega) (by omega)
            have HR4 := (show Hid (OutR w (w.heap.size + 3) (w.heap.size + 2) [.bool true, .slice (some ⟨b, off, none⟩) cs.length c1, .slice a2 ks.length c2, .slice a3 ds.length c3] [.string ck, .string cx, .int .i64 co, .int .i64 cl] 28 [.bool false, .slice none 0 0, .slice none 0 0, .slice none 0 0] (O ++ [⟨xk, xx, xo, xl⟩]) vd wd) from hR4)
            simp only [ccells] at hr
            clear hR4
            have q0 := HR3.out.n.at 0 _ rfl
            have q1 := HR3.out.n.at 1 _ rfl
            have y0 := HR3.out.x.at 0 _ rfl
            have y1 := HR3.out.x.at 1 _ rfl
            have y2 := HR3.out.x.at 2 _ rfl
            have y3 := HR3.out.x.at 3 _ rfl
            obtain ⟨x0, x1, x2, x3⟩ := HXW.out _ HR3.out.b
            simp only at x0 x1 x2 x3
            have HREL := (show Hid (OutR w (w.heap.size + 3) (w.heap.size + 2) [.bool true, .slice (some ⟨b, off, none⟩) cs.length c1, .slice a2 ks.length c2, .slice a3 ds.length c3] [.string ck, .string cx, .int .i64 co, .int .i64 cl] 28 [.bool false, .slice none 0 0, .slice none 0 0, .slice none 0 0] (stP ⟨ck, cx, co, cl⟩ cs (k + 1)).1 vd wd ∧ (stP ⟨ck, cx, co, cl⟩ cs (k + 1)).2 = true) from by
              show OutR w (w.heap.size + 3) (w.heap.size + 2) [.bool true, .slice (some ⟨b, off, none⟩) cs.length c1, .slice a2 ks.length c2, .slice a3 ds.length c3] [.string ck, .string cx, .int .i64 co, .int .i64 cl] 28 [.bool false, .slice none 0 0, .slice none 0 0, .slice none 0 0] (stP ⟨ck, cx, co, cl⟩ cs (k + 1)).1 vd wd ∧ (stP ⟨ck, cx, co, cl⟩ cs (k + 1)).2 = true
              rw [HE.eq]
              refine ⟨?_, rfl⟩
              have h9 := HR4.out
              simpa using h9)
            go_wp2_with (at_builtin; refine wpList_run_append rfl _ _ 22 rfl _ _ _ _ rfl rfl hr ?_)
            go_roundw
            case rel => first | exact ⟨k + 1, vd, true, by omega, rfl, rfl, by go_num, HREL.out.2, HREL.out.1⟩ | ((repeat apply Exists.intro); exact ⟨⟨k + 1, vd, true, by omega, rfl, rfl, by go_num, HREL.out.2, HREL.out.1⟩, rfl⟩)
            case measure => (simp [intOf]) <;> omega
          · have l1 : Op.bytesLess xk.toList ck.toList = false := hs1
            have l2 : Op.bytesLess ck.toList xk.toList = false := by rw [hs2]; exact Sl.lt_irrefl ck
            have l3 : (xk.toList == ck.toList) = true := by rw [eq_list]; exact decide_eq_true hs2
            have l4 : (ck.toList == xk.toList) = true := by rw [eq_list]; exact decide_eq_true hs2.symm
            have HE : Is (stP ⟨ck, cx, co, cl⟩ cs (k + 1)) (O ++ [], true) := ⟨by rw [HST.eq]; unfold stepP; simp [hs2]⟩
            clear HST hs1 hs2
            have q0 := HR.out.n.at 0 _ rfl
            have q1 := HR.out.n.at 1 _ rfl
            have y0 := HR.out.x.at 0 _ rfl
            have y1 := HR.out.x.at 1 _ rfl
            have y2 := HR.out.x.at 2 _ rfl
            have y3 := HR.out.x.at 3 _ rfl
            obtain ⟨x0, x1, x2, x3⟩ := HXW.out _ HR.out.b
            simp only at x0 x1 x2 x3
            go_upto_region 8 with fail
            go_quiet (fail)
            have HR1 := (show Hid (OutR w (w.heap.size + 3) (w.heap.size + 2) [.bool true, .slice (some ⟨b, off, none⟩) cs.length c1, .slice a2 ks.length c2, .slice a3 ds.length c3] [.string ck, .string cx, .int .i64 co, .int .i64 cl] 28 [.bool false, .slice none 0 0, .slice none 0 0, .slice none 0 0] O v5 (wr.drewN nq)) from HR.out.keep (below_drewN (Below.refl _ _)))
            clear q0 q1 y0 y1 y2 y3 x0 x1 x2 x3
            generalize wr.drewN nq = wa at *
            clear HR
            have q0 := HR1.out.n.at 0 _ rfl
            have q1 := HR1.out.n.at 1 _ rfl
            have y0 := HR1.out.x.at 0 _ rfl
            have y1 := HR1.out.x.at 1 _ rfl
            have y2 := HR1.out.x.at 2 _ rfl
            have y3 := HR1.out.x.at 3 _ rfl
            obtain ⟨x0, x1, x2, x3⟩ := HXW.out _ HR1.out.b
            simp only at x0 x1 x2 x3
            go_upto_region 11 with fail
            go_quiet (fail)
            have HR3 := (show Hid (OutR w (w.heap.size + 3) (w.heap.size + 2) [.bool true, .slice (some ⟨b, off, none⟩) cs.length c1, .slice a2 ks.length c2, .slice a3 ds.length c3] [.string ck, .string cx, .int .i64 co, .int .i64 cl] 28 [.bool false, .slice none 0 0, .slice none 0 0, .slice none 0 0] O v5 (wa.drewN nq)) from HR1.out.keep (below_drewN (Below.refl _ _)))
            clear q0 q1 y0 y1 y2 y3 x0 x1 x2 x3
            generalize wa.drewN nq = wc at *
            clear HR1
            have HREL := (show Hid (OutR w (w.heap.size + 3) (w.heap.size + 2) [.bool true, .slice (some ⟨b, off, none⟩) cs.length c1, .slice a2 ks.length c2, .slice a3 ds.length c3] [.string ck, .string cx, .int .i64 co, .int .i64 cl] 28 [.bool false, .slice none 0 0, .slice none 0 0, .slice none 0 0] (stP ⟨ck, cx, co, cl⟩ cs (k + 1)).1 v5 wc ∧ (stP ⟨ck, cx, co, cl⟩ cs (k + 1)).2 = true) from by
              show OutR w (w.heap.size + 3) (w.heap.size + 2) [.bool true, .slice (some ⟨b, off, none⟩) cs.length c1, .slice a2 ks.length c2, .slice a3 ds.length c3] [.string ck, .string cx, .int .i64 co, .int .i64 cl] 28 [.bool false, .slice none 0 0, .slice none 0 0, .slice none 0 0] (stP ⟨ck, cx, co, cl⟩ cs (k + 1)).1 v5 wc ∧ (stP ⟨ck, cx, co, cl⟩ cs (k + 1)).2 = true
              rw [HE.eq]
              refine ⟨?_, rfl⟩
              have h9 := HR3.out
              simpa using h9)
            go_wp2_with fail
            go_roundw
            case rel => first | exact ⟨k + 1, v5, true, by omega, rfl, rfl, by go_num, HREL.out.2, HREL.out.1⟩ | ((repeat apply Exists.intro); exact ⟨⟨k + 1, v5, true, by omega, rfl, rfl, by go_num, HREL.out.2, HREL.out.1⟩, rfl⟩)
            case measure => (simp [intOf]) <;> omega
          · have l1 : Op.bytesLess xk.toList ck.toList = false := hs1
            have l3 : (xk.toList == ck.toList) = false := by rw [eq_list]; exact decide_eq_false hs2
            have l4 : (ck.toList == xk.toList) = false := by rw [eq_list]; exact decide_eq_false (fun e => hs2 e.symm)
            have l2 : Op.bytesLess ck.toList xk.toList = true := by
              cases hq : Op.bytesLess ck.toList xk.toList with
              | true => rfl
              | false => exact absurd (Sl.lt_total hs1 hq) hs2
            have HE : Is (stP ⟨ck, cx, co, cl⟩ cs (k + 1)) (O ++ [⟨xk, xx, xo, xl⟩], true) := ⟨by rw [HST.eq]; unfold stepP; simp [hs2]⟩
            clear HST hs1 hs2
            have q0 := HR.out.n.at 0 _ rfl
            have q1 := HR.out.n.at 1 _ rfl
            have y0 := HR.out.x.at 0 _ rfl
            have y1 := HR.out.x.at 1 _ rfl
            have y2 := HR.out.x.at 2 _ rfl
            have y3 := HR.out.x.at 3 _ rfl
            obtain ⟨x0, x1, x2, x3⟩ := HXW.out _ HR.out.b
            simp only at x0 x1 x2 x3
            go_upto_region 8 with fail
            go_quiet (fail)
            have HR1 := (show Hid (OutR w (w.heap.size + 3) (w.heap.size + 2) [.bool true, .slice (some ⟨b, off, none⟩) cs.length c1, .slice a2 ks.length c2, .slice a3 ds.length c3] [.string ck, .string cx, .int .i64 co, .int .i64 cl] 28 [.bool false, .slice none 0 0, .slice none 0 0, .slice none 0 0] O v5 (wr.drewN nq)) from HR.out.keep (below_drewN (Below.refl _ _)))
            clear q0 q1 y0 y1 y2 y3 x0 x1 x2 x3
            generalize wr.drewN nq = wa at *
            clear HR
            have q0 := HR1.out.n.at 0 _ rfl
            have q1 := HR1.out.n.at 1 _ rfl
            have y0 := HR1.out.x.at 0 _ rfl
            have y1 := HR1.out.x.at 1 _ rfl
            have y2 := HR1.out.x.at 2 _ rfl
            have y3 := HR1.out.x.at 3 _ rfl
            obtain ⟨x0, x1, x2, x3⟩ := HXW.out _ HR1.out.b
            simp only at x0 x1 x2 x3
            go_upto_region 11 with fail
            go_quiet (fail)
            have HR3 := (show Hid (OutR w (w.heap.size + 3) (w.heap.size + 2) [.bool true, .slice (some ⟨b, off, none⟩) cs.length c1, .slice a2 ks.length c2, .slice a3 ds.length c3] [.string ck, .string cx, .int .i64 co, .int .i64 cl] 28 [.bool false, .slice none 0 0, .slice none 0 0, .slice none 0 0] O v5 (wa.drewN nq)) from HR1.out.keep (below_drewN (Below.refl _ _)))
            clear q0 q1 y0 y1 y2 y3 x0 x1 x2 x3
            generalize wa.drewN nq = wc at *
            clear HR1
            obtain ⟨vd, wd, hr, hR4⟩ := HR3.out.add ⟨xk, xx, xo, xl⟩ (by omega) (by omega) (by omega)
            have HR4 := (show Hid (OutR w (w.heap.size + 3) (w.heap.size + 2) [.bool true, .slice (some ⟨b, off, none⟩) cs.length c1, .slice a2 ks.length c2, .slice a3 ds.length c3] [.string ck, .string cx, .int .i64 co, .int .i64 cl] 28 [.bool false, .slice none 0 0, .slice none 0 0, .slice none 0 0] (O ++ [⟨xk, xx, xo, xl⟩]) vd wd) from hR4)
            simp only [ccells] at hr
            clear hR4
            have q0 := HR3.out.n.at 0 _ rfl
            have q1 := HR3.out.n.at 1 _ rfl
            have y0 := HR3.out.x.at 0 _ rfl
            have y1 := HR3.out.x.at 1 _ rfl
            have y2 := HR3.out.x.at 2 _ rfl
            have y3 := HR3.out.x.at 3 _ rfl
            obtain ⟨x0, x1, x2, x3⟩ := HXW.out _ HR3.out.b
            simp only at x0 x1 x2 x3
            have HREL := (show Hid (OutR w (w.heap.size + 3) (w.heap.size + 2) [.bool true, .slice (some ⟨b, off, none⟩) cs.length c1, .slice a2 ks.length c2, .slice a3 ds.length c3] [.string ck, .string cx, .int .i64 co, .int .i64 cl] 28 [.bool false, .slice none 0 0, .slice none 0 0, .slice none 0 0] (stP ⟨ck, cx, co, cl⟩ cs (k + 1)).1 vd wd ∧ (stP ⟨ck, cx, co, cl⟩ cs (k + 1)).2 = true) from by
              show OutR w (w.heap.size + 3) (w.heap.size + 2) [.bool true, .slice (some ⟨b, off, none⟩) cs.length c1, .slice a2 ks.length c2, .slice a3 ds.length c3] [.string ck, .string cx, .int .i64 co, .int .i64 cl] 28 [.bool false, .slice none 0 0, .slice none 0 0, .slice none 0 0] (stP ⟨ck, cx, co, cl⟩ cs (k + 1)).1 vd wd ∧ (stP ⟨ck, cx, co, cl⟩ cs (k + 1)).2 = true
              rw [HE.eq]
              refine ⟨?_, rfl⟩
              have h9 := HR4.out
              simpa using h9)
            go_wp2_with (at_builtin; refine wpList_run_append rfl _ _ 22 rfl _ _ _ _ rfl rfl hr ?_)
            go_roundw
            case rel => first | exact ⟨k + 1, vd, true, by omega, rfl, rfl, by go_num, HREL.out.2, HREL.out.1⟩ | ((repeat apply Exists.intro); exact ⟨⟨k + 1, vd, true, by omega, rfl, rfl, by go_num, HREL.out.2, HREL.out.1⟩, rfl⟩)
            case measure => (simp [intOf]) <;> omega
        | false =>
          rcases htri with ⟨hs1, hs2⟩ | ⟨hs1, hs2⟩ | ⟨hs1, hs2⟩
          · have l1 : Op.bytesLess xk.toList ck.toList = true := hs1
            have l2 : Op.bytesLess ck.toList xk.toList = false := Sl.lt_asymm hs1
            have l3 : (xk.toList == ck.toList) = false := by rw [eq_list]; exact decide_eq_false hs2
            have l4 : (ck.toList == xk.toList) = false := by rw [eq_list]; exact decide_eq_false (fun e => hs2 e.symm)
            have HE : Is (stP ⟨ck, cx, co, cl⟩ cs (k + 1)) (O ++ [⟨xk, xx, xo, xl⟩], false) := ⟨by rw [HST.eq]; unfold stepP; simp [hs1]⟩
            clear HST hs1 hs2
            have q0 := HR.out.n.at 0 _ rfl
            have q1 := HR.out.n.at 1 _ rfl
            have y0 := HR.out.x.at 0 _ rfl
            have y1 := HR.out.x.at 1 _ rfl
            have y2 := HR.out.x.at 2 _ rfl
            have y3 := HR.out.x.at 3 _ rfl
            obtain ⟨x0, x1, x2, x3⟩ := HXW.out _ HR.out.b
            simp only at x0 x1 x2 x3
            go_upto_region 8 with fail
            go_quiet (fail)
            have HR1 := (show Hid (OutR w (w.heap.size + 3) (w.heap.size + 2) [.bool true, .slice (some ⟨b, off, none⟩) cs.length c1, .slice a2 ks.length c2, .slice a3 ds.length c3] [.string ck, .string cx, .int .i64 co, .int .i64 cl] 28 [.bool false, .slice none 0 0, .slice none 0 0, .slice none 0 0] O v5 (wr.drewN nq)) from HR.out.keep (below_drewN (Below.refl _ _)))
            clear q0 q1 y0 y1 y2 y3 x0 x1 x2 x3
            generalize wr.drewN nq = wa at *
            clear HR
            have q0 := HR1.out.n.at 0 _ rfl
            have q1 := HR1.out.n.at 1 _ rfl
            have y0 := HR1.out.x.at 0 _ rfl
            have y1 := HR1.out.x.at 1 _ rfl
            have y2 := HR1.out.x.at 2 _ rfl
            have y3 := HR1.out.x.at 3 _ rfl
            obtain ⟨x0, x1, x2, x3⟩ := HXW.out _ HR1.out.b
            simp only at x0 x1 x2 x3
            go_upto_region 11 with fail
            go_quiet (fail)
            have HR3 := (show Hid (OutR w (w.heap.size + 3) (w.heap.size + 2) [.bool true, .slice (some ⟨b, off, none⟩) cs.length c1, .slice a2 ks.length c2, .slice a3 ds.length c3] [.string ck, .string cx, .int .i64 co, .int .i64 cl] 28 [.bool false, .slice none 0 0, .slice none 0 0, .slice none 0 0] O v5 (wa.drewN nq)) from HR1.out.keep (below_drewN (Below.refl _ _)))
            clear q0 q1 y0 y1 y2 y3 x0 x1 x2 x3
            generalize wa.drewN nq = wc at *
            clear HR1
            obtain ⟨vd, wd, hr, hR4⟩ := HR3.out.add ⟨xk, xx, xo, xl⟩ (by omega) (by omega) (by omega)
            have HR4 := (show Hid (OutR w (w.heap.size + 3) (w.heap.size + 2) [.bool true, .slice (some ⟨b, off, none⟩) cs.length c1, .slice a2 ks.length c2, .slice a3 ds.length c3] [.string ck, .string cx, .int .i64 co, .int .i64 cl] 28 [.bool false, .slice none 0 0, .slice none 0 0, .slice none 0 0] (O ++ [⟨xk, xx, xo, xl⟩]) vd wd) from hR4)
            simp only [ccells] at hr
            clear hR4
            have q0 := HR3.out.n.at 0 _ rfl
            have q1 := HR3.out.n.at 1 _ rfl
            have y0 := HR3.out.x.at 0 _ rfl
            have y1 := HR3.out.x.at 1 _ rfl
            have y2 := HR3.out.x.at 2 _ rfl
            have y3 := HR3.out.x.at 3 _ rfl
            obtain ⟨x0, x1, x2, x3⟩ := HXW.out _ HR3.out.b
            simp only at x0 x1 x2 x3
            have HREL := (show Hid (OutR w (w.heap.size + 3) (w.heap.size + 2) [.bool true, .slice (some ⟨b, off, none⟩) cs.length c1, .slice a2 ks.length c2, .slice a3 ds.length c3] [.string ck, .string cx, .int .i64 co, .int .i64 cl] 28 [.bool false, .slice none 0 0, .slice none 0 0, .slice none 0 0] (stP ⟨ck, cx, co, cl⟩ cs (k + 1)).1 vd wd ∧ (stP ⟨ck, cx, co, cl⟩ cs (k + 1)).2 = false) from by
              show OutR w (w.heap.size + 3) (w.heap.size + 2) [.bool true, .slice (some ⟨b, off, none⟩) cs.length c1, .slice a2 ks.length c2, .slice a3 ds.length c3] [.string ck, .string cx, .int .i64 co, .int .i64 cl] 28 [.bool false, .slice none 0 0, .slice none 0 0, .slice none 0 0] (stP ⟨ck, cx, co, cl⟩ cs (k + 1)).1 vd wd ∧ (stP ⟨ck, cx, co, cl⟩ cs (k + 1)).2 = false
              rw [HE.eq]
              refine ⟨?_, rfl⟩
              have h9 := HR4.out
              simpa using h9)
            go_wp2_with (at_builtin; refine wpList_run_append rfl _ _ 22 rfl _ _ _ _ rfl rfl hr ?_)
            go_roundw
            case rel => first | exact ⟨k + 1, vd, false, by omega, rfl, rfl, by go_num, HREL.out.2, HREL.out.1⟩ | ((repeat apply Exists.intro); exact ⟨⟨k + 1, vd, false, by omega, rfl, rfl, by go_num, HREL.out.2, HREL.out.1⟩, rfl⟩)
            case measure => (simp [intOf]) <;> omega
          · have l1 : Op.bytesLess xk.toList ck.toList = false := hs1
            have l2 : Op.bytesLess ck.toList xk.toList = false := by rw [hs2]; exact Sl.lt_irrefl ck
            have l3 : (xk.toList == ck.toList) = true := by rw [eq_list]; exact decide_eq_true hs2
            have l4 : (ck.toList == xk.toList) = true := by rw [eq_list]; exact decide_eq_true hs2.symm
            have HE : Is (stP ⟨ck, cx, co, cl⟩ cs (k + 1)) (O ++ [⟨ck, cx, co, cl⟩], true) := ⟨by rw [HST.eq]; unfold stepP; simp [hs2, Sl.lt_irrefl]⟩
            clear HST hs1 hs2
            have q0 := HR.out.n.at 0 _ rfl
            have q1 := HR.out.n.at 1 _ rfl
            have y0 := HR.out.x.at 0 _ rfl
            have y1 := HR.out.x.at 1 _ rfl
            have y2 := HR.out.x.at 2 _ rfl
            have y3 := HR.out.x.at 3 _ rfl
            obtain ⟨x0, x1, x2, x3⟩ := HXW.out _ HR.out.b
            simp only at x0 x1 x2 x3
            go_upto_region 8 with fail
            go_quiet (fail)
            have HR1 := (show Hid (OutR w (w.heap.size + 3) (w.heap.size + 2) [.bool true, .slice (some ⟨b, off, none⟩) cs.length c1, .slice a2 ks.length c2, .slice a3 ds.length c3] [.string ck, .string cx, .int .i64 co, .int .i64 cl] 28 [.bool false, .slice none 0 0, .slice none 0 0, .slice none 0 0] O v5 (wr.drewN nq)) from HR.out.keep (below_drewN (Below.refl _ _)))
            clear q0 q1 y0 y1 y2 y3 x0 x1 x2 x3
            generalize wr.drewN nq = wa at *
            clear HR
            obtain ⟨vb, wb, hr, hR2⟩ := HR1.out.add ⟨ck, cx, co, cl⟩ (by omega) (by omega) (by omega)
            have HR2 := (show Hid (OutR w (w.heap.size + 3) (w.heap.size + 2) [.bool true, .slice (some ⟨b, off, none⟩) cs.length c1, .slice a2 ks.length c2, .slice a3 ds.length c3] [.string ck, .string cx, .int .i64 co, .int .i64 cl] 28 [.bool false, .slice none 0 0, .slice none 0 0, .slice none 0 0] (O ++ [⟨ck, cx, co, cl⟩]) vb wb) from hR2)
            simp only [ccells] at hr
            clear hR2
            have q0 := HR1.out.n.at 0 _ rfl
            have q1 := HR1.out.n.at 1 _ rfl
            have y0 := HR1.out.x.at 0 _ rfl
            have y1 := HR1.out.x.at 1 _ rfl
            have y2 := HR1.out.x.at 2 _ rfl
            have y3 := HR1.out.x.at 3 _ rfl
            obtain ⟨x0, x1, x2, x3⟩ := HXW.out _ HR1.out.b
            simp only at x0 x1 x2 x3
            go_upto_region 11 with (at_builtin; refine wpList_run_append rfl _ _ 22 rfl _ _ _ _ rfl rfl hr ?_)
            clear hr HR1
            clear q0 q1 y0 y1 y2 y3 x0 x1 x2 x3
            have q0 := HR2.out.n.at 0 _ rfl
            have q1 := HR2.out.n.at 1 _ rfl
            have y0 := HR2.out.x.at 0 _ rfl
            have y1 := HR2.out.x.at 1 _ rfl
            have y2 := HR2.out.x.at 2 _ rfl
            have y3 := HR2.out.x.at 3 _ rfl
            obtain ⟨x0, x1, x2, x3⟩ := HXW.out _ HR2.out.b
            simp only at x0 x1 x2 x3
            go_upto_region 11 with fail
            go_quiet (fail)
            have HR3 := (show Hid (OutR w (w.heap.size + 3) (w.heap.size + 2) [.bool true, .slice (some ⟨b, off, none⟩) cs.length c1, .slice a2 ks.length c2, .slice a3 ds.length c3] [.string ck, .string cx, .int .i64 co, .int .i64 cl] 28 [.bool false, .slice none 0 0, .slice none 0 0, .slice none 0 0] (O ++ [⟨ck, cx, co, cl⟩]) vb (wb.drewN nq)) from HR2.out.keep (below_drewN (Below.refl _ _)))
            clear q0 q1 y0 y1 y2 y3 x0 x1 x2 x3
            generalize wb.drewN nq = wc at *
            clear HR2
            have HREL := (show Hid (OutR w (w.heap.size + 3) (w.heap.size + 2) [.bool true, .slice (some ⟨b, off, none⟩) cs.length c1, .slice a2 ks.length c2, .slice a3 ds.length c3] [.string ck, .string cx, .int .i64 co, .int .i64 cl] 28 [.bool false, .slice none 0 0, .slice none 0 0, .slice none 0 0] (stP ⟨ck, cx, co, cl⟩ cs (k + 1)).1 vb wc ∧ (stP ⟨ck, cx, co, cl⟩ cs (k + 1)).2 = true) from by
              show OutR w (w.heap.size + 3) (w.heap.size + 2) [.bool true, .slice (some ⟨b, off, none⟩) cs.length c1, .slice a2 ks.length c2, .slice a3 ds.length c3] [.string ck, .string cx, .int .i64 co, .int .i64 cl] 28 [.bool false, .slice none 0 0, .slice none 0 0, .slice none 0 0] (stP ⟨ck, cx, co, cl⟩ cs (k + 1)).1 vb wc ∧ (stP ⟨ck, cx, co, cl⟩ cs (k + 1)).2 = true
              rw [HE.eq]
              refine ⟨?_, rfl⟩
              have h9 := HR3.out
              simpa using h9)
            go_wp2_with fail
            go_roundw
            case rel => first | exact ⟨k + 1, vb, true, by omega, rfl, rfl, by go_num, HREL.out.2, HREL.out.1⟩ | ((repeat apply Exists.intro); exact ⟨⟨k + 1, vb, true, by omega, rfl, rfl, by go_num, HREL.out.2, HREL.out.1⟩, rfl⟩)
            case measure => (simp [intOf]) <;> omega
          · have l1 : Op.bytesLess xk.toList ck.toList = false := hs1
            have l3 : (xk.toList == ck.toList) = false := by rw [eq_list]; exact decide_eq_false hs2
            have l4 : (ck.toList == xk.toList) = false := by rw [eq_list]; exact decide_eq_false (fun e => hs2 e.symm)
            have l2 : Op.bytesLess ck.toList xk.toList = true := by
              cases hq : Op.bytesLess ck.toList xk.toList with
              | true => rfl
              | false => exact absurd (Sl.lt_total hs1 hq) hs2
            have HE : Is (stP ⟨ck, cx, co, cl⟩ cs (k + 1)) (O ++ [⟨ck, cx, co, cl⟩, ⟨xk, xx, xo, xl⟩], true) := ⟨by rw [HST.eq]; unfold stepP; simp [hs1, hs2]⟩
            clear HST hs1 hs2
            have q0 := HR.out.n.at 0 _ rfl
            have q1 := HR.out.n.at 1 _ rfl
            have y0 := HR.out.x.at 0 _ rfl
            have y1 := HR.out.x.at 1 _ rfl
            have y2 := HR.out.x.at 2 _ rfl
            have y3 := HR.out.x.at 3 _ rfl
            obtain ⟨x0, x1, x2, x3⟩ := HXW.out _ HR.out.b
            simp only at x0 x1 x2 x3
            go_upto_region 8 with fail
            go_quiet (fail)
            have HR1 := (show Hid (OutR w (w.heap.size + 3) (w.heap.size + 2) [.bool true, .slice (some ⟨b, off, none⟩) cs.length c1, .slice a2 ks.length c2, .slice a3 ds.length c3] [.string ck, .string cx, .int .i64 co, .int .i64 cl] 28 [.bool false, .slice none 0 0, .slice none 0 0, .slice none 0 0] O v5 (wr.drewN nq)) from HR.out.keep (below_drewN (Below.refl _ _)))
            clear q0 q1 y0 y1 y2 y3 x0 x1 x2 x3
            generalize wr.drewN nq = wa at *
            clear HR
            obtain ⟨vb, wb, hr, hR2⟩ := HR1.out.add ⟨ck, cx, co, cl⟩ (by omega) (by omega) (by omega)
            have HR2 := (show Hid (OutR w (w.heap.size + 3) (w.heap.size + 2) [.bool true, .slice (some ⟨b, off, none⟩) cs.length c1, .slice a2 ks.length c2, .slice a3 ds.length c3] [.string ck, .string cx, .int .i64 co, .int .i64 cl] 28 [.bool false, .slice none 0 0, .slice none 0 0, .slice none 0 0] (O ++ [⟨ck, cx, co, cl⟩]) vb wb) from hR2)
            simp only [ccells] at hr
            clear hR2
            have q0 := HR1.out.n.at 0 _ rfl
            have q1 := HR1.out.n.at 1 _ rfl
            have y0 := HR1.out.x.at 0 _ rfl
            have y1 := HR1.out.x.at 1 _ rfl
            have y2 := HR1.out.x.at 2 _ rfl
            have y3 := HR1.out.x.at 3 _ rfl
            obtain ⟨x0, x1, x2, x3⟩ := HXW.out _ HR1.out.b
            simp only at x0 x1 x2 x3
            go_upto_region 11 with (at_builtin; refine wpList_run_append rfl _ _ 22 rfl _ _ _ _ rfl rfl hr ?_)
            clear hr HR1
            clear q0 q1 y0 y1 y2 y3 x0 x1 x2 x3
            have q0 := HR2.out.n.at 0 _ rfl
            have q1 := HR2.out.n.at 1 _ rfl
            have y0 := HR2.out.x.at 0 _ rfl
            have y1 := HR2.out.x.at 1 _ rfl
            have y2 := HR2.out.x.at 2 _ rfl
            have y3 := HR2.out.x.at 3 _ rfl
            obtain ⟨x0, x1, x2, x3⟩ := HXW.out _ HR2.out.b
            simp only at x0 x1 x2 x3
            go_upto_region 11 with fail
            go_quiet (fail)
            have HR3 := (show Hid (OutR w (w.heap.size + 3) (w.heap.size + 2) [.bool true, .slice (some ⟨b, off, none⟩) cs.length c1, .slice a2 ks.length c2, .slice a3 ds.length c3] [.string ck, .string cx, .int .i64 co, .int .i64 cl] 28 [.bool false, .slice none 0 0, .slice none 0 0, .slice none 0 0] (O ++ [⟨ck, cx, co, cl⟩]) vb (wb.drewN nq)) from HR2.out.keep (below_drewN (Below.refl _ _)))
            clear q0 q1 y0 y1 y2 y3 x0 x1 x2 x3
            generalize wb.drewN nq = wc at *
            clear HR2
            obtain ⟨vd, wd, hr, hR4⟩ := HR3.out.add ⟨xk, xx, xo, xl⟩ (by rw [List.length_append]; simp only [List.length_cons, List.length_nil]; omega) (by omega) (by omega)
            have HR4 := (show Hid (OutR w (w.heap.size + 3) (w.heap.size + 2) [.bool true, .slice (some ⟨b, off, none⟩) cs.length c1, .slice a2 ks.length c2, .slice a3 ds.length c3] [.string ck, .string cx, .int .i64 co, .int .i64 cl] 28 [.bool false, .slice none 0 0, .slice none 0 0, .slice none 0 0] ((O ++ [⟨ck, cx, co, cl⟩]) ++ [⟨xk, xx, xo, xl⟩]) vd wd) from hR4)
            simp only [ccells] at hr
            clear hR4
            have q0 := HR3.out.n.at 0 _ rfl
            have q1 := HR3.out.n.at 1 _ rfl
            have y0 := HR3.out.x.at 0 _ rfl
            have y1 := HR3.out.x.at 1 _ rfl
            have y2 := HR3.out.x.at 2 _ rfl
            have y3 := HR3.out.x.at 3 _ rfl
            obtain ⟨x0, x1, x2, x3⟩ := HXW.out _ HR3.out.b
            simp only at x0 x1 x2 x3
            have HREL := (show Hid (OutR w (w.heap.size + 3) (w.heap.size + 2) [.bool true, .slice (some ⟨b, off, none⟩) cs.length c1, .slice a2 ks.length c2, .slice a3 ds.length c3] [.string ck, .string cx, .int .i64 co, .int .i64 cl] 28 [.bool false, .slice none 0 0, .slice none 0 0, .slice none 0 0] (stP ⟨ck, cx, co, cl⟩ cs (k + 1)).1 vd wd ∧ (stP ⟨ck, cx, co, cl⟩ cs (k + 1)).2 = true) from by
              show OutR w (w.heap.size + 3) (w.heap.size + 2) [.bool true, .slice (some ⟨b, off, none⟩) cs.length c1, .slice a2 ks.length c2, .slice a3 ds.length c3] [.string ck, .string cx, .int .i64 co, .int .i64 cl] 28 [.bool false, .slice none 0 0, .slice none 0 0, .slice none 0 0] (stP ⟨ck, cx, co, cl⟩ cs (k + 1)).1 vd wd ∧ (stP ⟨ck, cx, co, cl⟩ cs (k + 1)).2 = true
              rw [HE.eq]
              refine ⟨?_, rfl⟩
              have h9 := HR4.out
              simpa using h9)
            go_wp2_with (at_builtin; refine wpList_run_append rfl _ _ 22 rfl _ _ _ _ rfl rfl hr ?_)
            go_roundw
            case rel => first | exact ⟨k + 1, vd, true, by omega, rfl, rfl, by go_num, HREL.out.2, HREL.out.1⟩ | ((repeat apply Exists.intro); exact ⟨⟨k + 1, vd, true, by omega, rfl, rfl, by go_num, HREL.out.2, HREL.out.1⟩, rfl⟩)
            case measure => (simp [intOf]) <;> omega
      · have hkl : ¬ (k : Int) < (cs.length : Int) := by omega
        have hke : k = cs.length := by omega
        subst hke
        have HP1 : Is (stP ⟨ck, cx, co, cl⟩ cs cs.length).1 O := ⟨by rw [HSP.eq]⟩
        have HP2 : Is (stP ⟨ck, cx, co, cl⟩ cs cs.length).2 pt := ⟨by rw [HSP.eq]⟩
        clear HSP
        cases pt with
        | true =>
          have q0 := HR.out.n.at 0 _ rfl
          have q1 := HR.out.n.at 1 _ rfl
          obtain ⟨out, HOUT⟩ : ∃ out, Is out O := ⟨_, ⟨rfl⟩⟩
          have HEQ : Is out (endP ⟨ck, cx, co, cl⟩ (stP ⟨ck, cx, co, cl⟩ cs cs.length)) := ⟨by rw [HOUT.eq]; unfold endP; rw [HP2.eq, HP1.eq]; rfl⟩
          rw [← HOUT.eq] at HR
          obtain ⟨ad, cp, hv, hc1, hc2, hrow⟩ := own_rowFrom HR.out.r
          subst hv
          have HZ := (show Hid (Brow (setN wr (w.heap.size + 2) (.bool true) (.slice ad out.length cp) (.slice a2 ks.length c2) (.slice a3 ds.length c3)) (w.heap.size + 2) [.bool true, .slice ad out.length cp, .slice a2 ks.length c2, .slice a3 ds.length c3] 26) from setN_row HR.out.z _ _ _ _)
          have HB := (show Hid (Below w.heap.size w (setN wr (w.heap.size + 2) (.bool true) (.slice ad out.length cp) (.slice a2 ks.length c2) (.slice a3 ds.length c3))) from setN_below HR.out.b (by omega) _ _ _ _)
          have HF := (show Hid (Lies (setN wr (w.heap.size + 2) (.bool true) (.slice ad out.length cp) (.slice a2 ks.length c2) (.slice a3 ds.length c3)) ⟨true, out, ks, ds⟩ ⟨ad, cp, a2, c2, a3, c3⟩) from ⟨((((hrow.set (by omega) 0 _).set (by omega) 1 _).set (by omega) 2 _).set (by omega) 3 _).row, HL.out.r2.below HB.out, HL.out.r3.below HB.out, hc1, HL.out.l2, HL.out.l3, hc2, HL.out.m2, HL.out.m3⟩)
          have q2 := HR.out.n.at 2 _ rfl
          have q3 := HR.out.n.at 3 _ rfl
          have z0 := HR.out.z.at 0 _ rfl
          have z1 := HR.out.z.at 1 _ rfl
          have z2 := HR.out.z.at 2 _ rfl
          have z3 := HR.out.z.at 3 _ rfl
          have f0 := HR.out.z.fz 0
          have f1 := HR.out.z.fz 1
          have f2 := HR.out.z.fz 2
          have f3 := HR.out.z.fz 3
          clear hrow HR HL
          unfold setN at HZ HB HF
          go_wp2
          refine bodyPost_ret (res_c rfl _ _ (w.heap.size + 2) 26 _ _ rfl HZ.out Try.underlying26 rfl (by kernel_rfl)) rfl ?_
          rw [← HEQ.eq]
          exact ⟨⟨ad, cp, a2, c2, a3, c3⟩, rfl, HF.out, HB.out⟩
        | false =>
          obtain ⟨vb, wb, hr, hR2⟩ := HR.out.add ⟨ck, cx, co, cl⟩ (by omega) (by omega) (by omega)
          have HR2 := (show Hid (OutR w (w.heap.size + 3) (w.heap.size + 2) [.bool true, .slice a1 cs.length c1, .slice a2 ks.length c2, .slice a3 ds.length c3] [.string ck, .string cx, .int .i64 co, .int .i64 cl] 28 [.bool false, .slice none 0 0, .slice none 0 0, .slice none 0 0] (O ++ [⟨ck, cx, co, cl⟩]) vb wb) from hR2)
          simp only [ccells] at hr
          clear hR2
          have q0 := HR.out.n.at 0 _ rfl
          have q1 := HR.out.n.at 1 _ rfl
          have y0 := HR.out.x.at 0 _ rfl
          have y1 := HR.out.x.at 1 _ rfl
          have y2 := HR.out.x.at 2 _ rfl
          have y3 := HR.out.x.at 3 _ rfl
          go_upto_region 15 with (at_builtin; refine wpList_run_append rfl _ _ 22 rfl _ _ _ _ rfl rfl hr ?_)
          clear hr HR q0 q1 y0 y1 y2 y3
          obtain ⟨out, HOUT⟩ : ∃ out, Is out (O ++ [⟨ck, cx, co, cl⟩]) := ⟨_, ⟨rfl⟩⟩
          have HEQ : Is out (endP ⟨ck, cx, co, cl⟩ (stP ⟨ck, cx, co, cl⟩ cs cs.length)) := ⟨by rw [HOUT.eq]; unfold endP; rw [HP2.eq, HP1.eq]; rfl⟩
          rw [← HOUT.eq] at HR2
          obtain ⟨ad, cp, hv, hc1, hc2, hrow⟩ := own_rowFrom HR2.out.r
          subst hv
          have HZ := (show Hid (Brow (setN wb (w.heap.size + 2) (.bool true) (.slice ad out.length cp) (.slice a2 ks.length c2) (.slice a3 ds.length c3)) (w.heap.size + 2) [.bool true, .slice ad out.length cp, .slice a2 ks.length c2, .slice a3 ds.length c3] 26) from setN_row HR2.out.z _ _ _ _)
          have HB := (show Hid (Below w.heap.size w (setN wb (w.heap.size + 2) (.bool true) (.slice ad out.length cp) (.slice a2 ks.length c2) (.slice a3 ds.length c3))) from setN_below HR2.out.b (by omega) _ _ _ _)
          have HF := (show Hid (Lies (setN wb (w.heap.size + 2) (.bool true) (.slice ad out.length cp) (.slice a2 ks.length c2) (.slice a3 ds.length c3)) ⟨true, out, ks, ds⟩ ⟨ad, cp, a2, c2, a3, c3⟩) from ⟨((((hrow.set (by omega) 0 _).set (by omega) 1 _).set (by omega) 2 _).set (by omega) 3 _).row, HL.out.r2.below HB.out, HL.out.r3.below HB.out, hc1, HL.out.l2, HL.out.l3, hc2, HL.out.m2, HL.out.m3⟩)
          have q2 := HR2.out.n.at 2 _ rfl
          have q3 := HR2.out.n.at 3 _ rfl
          have z0 := HR2.out.z.at 0 _ rfl
          have z1 := HR2.out.z.at 1 _ rfl
          have z2 := HR2.out.z.at 2 _ rfl
          have z3 := HR2.out.z.at 3 _ rfl
          have f0 := HR2.out.z.fz 0
          have f1 := HR2.out.z.fz 1
          have f2 := HR2.out.z.fz 2
          have f3 := HR2.out.z.fz 3
          clear hrow HR2 HL
          unfold setN at HZ HB HF
          go_wp2
          refine bodyPost_ret (res_c rfl _ _ (w.heap.size + 2) 26 _ _ rfl HZ.out Try.underlying26 rfl (by kernel_rfl)) rfl ?_
          rw [← HEQ.eq]
          exact ⟨⟨ad, cp, a2, c2, a3, c3⟩, rfl, HF.out, HB.out⟩
end Go.Proofs.Ytoinaplmgffkpaa
