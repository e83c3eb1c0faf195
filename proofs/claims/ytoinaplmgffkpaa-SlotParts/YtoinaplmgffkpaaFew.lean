/- Proved: what the laws' Few answers (stage 11). -/
import Derived.Test.YtoinaplmgffkpaaFewH
import Derived.Test.YtoinaplmgffkpaaEncB
import Derived.Test.YtoinaplmgffkpaaPut
namespace Go.Proofs.Ytoinaplmgffkpaa
open Go.RowKit
open Sl (Cel Nod)
theorem FewR.keep {w : World} {lf : Bool} {s1 s2 s3 v1 v2 v3 : Value} {cs : List Cel} {ks : List ByteArray} {wr wr' : World} (h : FewR w lf s1 s2 s3 cs ks v1 v2 v3 wr) (hb : Below wr.heap.size wr wr') : FewR w lf s1 s2 s3 cs ks v1 v2 v3 wr' :=
  ⟨h.n.below hb h.n.lt, h.z.below hb h.z.lt, h.o.below hb h.o.lt, own_below h.r1 hb, own_below h.r2 hb, h.b.trans (hb.mono h.b.size), h.ap⟩
theorem own_grew {w w' : World} {v v' u : Value} {N n e k : Nat} {vs : List Value} (h : w.ownsRow N e k u n vs) (G : Grew w v w' v') (hne : ∀ g, u.ownBlock = some g → v.ownBlock ≠ some g) : w'.ownsRow N e k u n vs := by
  obtain ⟨h0, h1⟩ := h
  refine ⟨h0, ?_⟩
  rcases h1 with h1 | ⟨g, cap', cur, hv, hN, hh, r⟩
  · exact .inl h1
  · subst hv
    exact .inr ⟨g, cap', cur, rfl, hN, (G.by_.block g (Array.getElem?_eq_some_iff.1 hh).1 (fun e => hne g rfl e.symm)).trans hh, r⟩
theorem own_setFar {w : World} {u : Value} {N n e k b i : Nat} {x : Value} {vs : List Value} (h : w.ownsRow N e k u n vs) (hb : b < N) : (w.setCell ⟨b, i, none⟩ x).ownsRow N e k u n vs := by
  obtain ⟨h0, h1⟩ := h
  refine ⟨h0, ?_⟩
  rcases h1 with h1 | ⟨g, cap', cur, hv, hN, hh, r⟩
  · exact .inl h1
  · exact .inr ⟨g, cap', cur, hv, hN, (heap_setCell_other w _ g x (by show g ≠ b; omega)).trans hh, r⟩
/- a cell more -/
theorem FewR.cel {w : World} {lf : Bool} {s1 s2 s3 v1 v2 v3 v' : Value} {cs : List Cel} {ks : List ByteArray} {wr w' : World} {c : Cel} (h : FewR w lf s1 s2 s3 cs ks v1 v2 v3 wr) (hO : w'.ownsRow (w.heap.size + 3) 28 4 v' (cs ++ [c]).length (cvals (cs ++ [c]))) (G : Grew wr v1 w' v') (hs : w.heap.size + 3 ≤ wr.heap.size) (hn2 : v2 = .slice none 0 0) :
    FewR w lf s1 s2 s3 (cs ++ [c]) ks v' v2 v3 (w'.setCell ⟨w.heap.size + 2, 1, none⟩ v') := by
  have hb := G.below h.r1 hs
  have hf : ∀ b, b < w.heap.size + 3 → some b ≠ v1.ownBlock := fun b hb => own_far h.r1 hb
  refine ⟨(h.n.grew G (hf _ (by omega))).far (by show w.heap.size + 2 ≠ w.heap.size; omega), (h.z.grew G (hf _ (by omega))).far (by show w.heap.size + 2 ≠ w.heap.size + 1; omega), (h.o.grew G (hf _ (by omega))).set 1 v', own_setFar hO (by omega), own_setFar (own_grew h.r2 G (fun g hg => by subst hn2; cases hg)) (by omega), (h.b.trans (hb.mono (by omega))).setCell (by show w.heap.size ≤ w.heap.size + 2; omega) _, fun g hg => by subst hn2; intro e; cases e⟩
theorem FewR.key {w : World} {lf : Bool} {s1 s2 s3 v1 v2 v3 v' : Value} {cs : List Cel} {ks : List ByteArray} {wr w' : World} {c : ByteArray} (h : FewR w lf s1 s2 s3 cs ks v1 v2 v3 wr) (hO : w'.ownsRow (w.heap.size + 3) 9 1 v' (ks ++ [c]).length (kcells (ks ++ [c]))) (G : Grew wr v2 w' v') (hs : w.heap.size + 3 ≤ wr.heap.size) :
    FewR w lf s1 s2 s3 cs (ks ++ [c]) v1 v' v3 (w'.setCell ⟨w.heap.size + 2, 2, none⟩ v') := by
  have hb := G.below h.r2 hs
  have hf : ∀ b, b < w.heap.size + 3 → some b ≠ v2.ownBlock := fun b hb => own_far h.r2 hb
  refine ⟨(h.n.grew G (hf _ (by omega))).far (by show w.heap.size + 2 ≠ w.heap.size; omega), (h.z.grew G (hf _ (by omega))).far (by show w.heap.size + 2 ≠ w.heap.size + 1; omega), (h.o.grew G (hf _ (by omega))).set 2 v', own_setFar (own_grew h.r1 G (fun g hg => h.ap g hg)) (by omega), own_setFar hO (by omega), (h.b.trans (hb.mono (by omega))).setCell (by show w.heap.size ≤ w.heap.size + 2; omega) _, fun g hg => ?_⟩
  rcases G.row with e | ⟨g', e, hg'⟩
  · rw [e]; exact h.ap g hg
  · rw [e]
    intro e2
    have := own_row h.r1 hg
    have := Option.some.inj e2
    omega
set_option maxHeartbeats 8000000 in
set_option maxRecDepth 20000 in
theorem few_any (n : Nod) (p : Pt) (w : World) (hN : Lies w n p) (hc : ∀ c ∈ n.cells, c.key.size ≤ 9223372036854775807 ∧ c.val.size ≤ 9223372036854775807) (hk : ∀ k ∈ n.keys, k.size ≤ 9223372036854775807) :
    Calls Try.prog 9 #[nv n p] w fun e w' => ∃ p', e = .returned (nv (fewN n) p') ∧ LiesF w' w.heap.size (fewN n) p' ∧ Below w.heap.size w w' := by
  have HL : Hid (Lies w n p) := hN
  have HC := (show Hid (∀ c ∈ n.cells, c.key.size ≤ 9223372036854775807 ∧ c.val.size ≤ 9223372036854775807) from hc)
  have HK := (show Hid (∀ k ∈ n.keys, k.size ≤ 9223372036854775807) from hk)
  have HFN : Is (fewN n) ⟨n.leaf, (n.cells.take 20).map cutC, (n.keys.take 20).map cutB, n.kids.take 21⟩ := ⟨rfl⟩
  clear hN hc hk
  generalize fewN n = m at *
  obtain ⟨lf, cs, ks, ds⟩ := n
  obtain ⟨a1, c1, a2, c2, a3, c3⟩ := p
  unfold nv
  simp only at HC HK HFN ⊢
  have hm1 : cs.length ≤ 9223372036854775807 := Nat.le_trans HL.out.l1 HL.out.m1
  have hm2 : ks.length ≤ 9223372036854775807 := Nat.le_trans HL.out.l2 HL.out.m2
  have hm3 : ds.length ≤ 9223372036854775807 := Nat.le_trans HL.out.l3 HL.out.m3
  have hs0 : w.heap.size + 3 ≤ (((w.alloc (.cells #[.bool lf, .slice a1 cs.length c1, .slice a2 ks.length c2, .slice a3 ds.length c3] 26)).alloc (.cells #[.bool false, .slice none 0 0, .slice none 0 0, .slice none 0 0] 26)).alloc (.cells #[.bool lf, .slice none 0 0, .slice none 0 0, .slice none 0 0] 26)).heap.size := by rw [size_alloc1, size_alloc1, size_alloc1]; omega
  have HR0 : Hid (FewR w lf (.slice a1 cs.length c1) (.slice a2 ks.length c2) (.slice a3 ds.length c3) [] [] (.slice none 0 0) (.slice none 0 0) (.slice none 0 0) (((w.alloc (.cells #[.bool lf, .slice a1 cs.length c1, .slice a2 ks.length c2, .slice a3 ds.length c3] 26)).alloc (.cells #[.bool false, .slice none 0 0, .slice none 0 0, .slice none 0 0] 26)).alloc (.cells #[.bool lf, .slice none 0 0, .slice none 0 0, .slice none 0 0] 26))) := ⟨((Brow.new w [.bool lf, .slice a1 cs.length c1, .slice a2 ks.length c2, .slice a3 ds.length c3] 26).alloc _).alloc _, by
    have := (Brow.new (w.alloc (.cells #[.bool lf, .slice a1 cs.length c1, .slice a2 ks.length c2, .slice a3 ds.length c3] 26)) [.bool false, .slice none 0 0, .slice none 0 0, .slice none 0 0] 26).alloc (.cells #[.bool lf, .slice none 0 0, .slice none 0 0, .slice none 0 0] 26)
    rwa [size_alloc1] at this, by
    have := Brow.new ((w.alloc (.cells #[.bool lf, .slice a1 cs.length c1, .slice a2 ks.length c2, .slice a3 ds.length c3] 26)).alloc (.cells #[.bool false, .slice none 0 0, .slice none 0 0, .slice none 0 0] 26)) [.bool lf, .slice none 0 0, .slice none 0 0, .slice none 0 0] 26
    rwa [size_alloc1, size_alloc1] at this, own_nil _ _ _ _, own_nil _ _ _ _, ((below_alloc _ _).alloc (by rw [size_alloc1]; omega) _).alloc (by rw [size_alloc1, size_alloc1]; omega) _, fun g hg => by cases hg⟩
  go_enter Try.func9, Try.ntmps9
  go_wp2_with fail
  generalize (((w.alloc (.cells #[.bool lf, .slice a1 cs.length c1, .slice a2 ks.length c2, .slice a3 ds.length c3] 26)).alloc (.cells #[.bool false, .slice none 0 0, .slice none 0 0, .slice none 0 0] 26)).alloc (.cells #[.bool lf, .slice none 0 0, .slice none 0 0, .slice none 0 0] 26)) = w0 at *
  go_loopw [5] (fun s5 wr => ∃ (k : Nat) (v1 : Value), k ≤ cs.length ∧ k ≤ 20 ∧ s5 = .int .i64 k ∧ w.heap.size + 3 ≤ wr.heap.size ∧ FewR w lf (.slice a1 cs.length c1) (.slice a2 ks.length c2) (.slice a3 ds.length c3) ((cs.take k).map cutC) [] v1 (.slice none 0 0) (.slice none 0 0) wr) (fun s5 _ => 20 - (intOf s5).toNat)
  case atStart => exact ⟨0, .slice none 0 0, by omega, by omega, rfl, hs0, HR0.out⟩
  case round =>
    obtain ⟨k, v1, hk1, hk2, rfl, hsr, hR⟩ := hrel
    have HR := (show Hid (FewR w lf (.slice a1 cs.length c1) (.slice a2 ks.length c2) (.slice a3 ds.length c3) ((cs.take k).map cutC) [] v1 (.slice none 0 0) (.slice none 0 0) wr) from hR)
    obtain ⟨ad1, cp1, hv1, _, _, _⟩ := own_rowFrom hR.r1
    have hlen1 : ((cs.take k).map cutC).length ≤ 20 := by rw [List.length_map, List.length_take]; omega
    subst hv1
    clear hR HR0 hs0
    have q0 := HR.out.n.at 0 _ rfl
    have q1 := HR.out.n.at 1 _ rfl
    have q2 := HR.out.n.at 2 _ rfl
    have q3 := HR.out.n.at 3 _ rfl
    by_cases hlt : k < cs.length ∧ k < 20
    · obtain ⟨hlt1, hlt2⟩ := hlt
      have d1 : decide ((k : Int) < (cs.length : Int)) = true := decide_eq_true (by omega)
      have d2 : decide ((k : Int) < 20) = true := decide_eq_true (by omega)
      obtain ⟨b, off, ha1, hb, hcl⟩ := HL.out.r1.cell (Nat.lt_of_le_of_lt (Nat.zero_le _) hlt1)
      simp only at ha1
      subst ha1
      obtain ⟨x0, x1, x2, x3⟩ := (hcl k hlt1).below HR.out.b hb
      have hxs := HC.out _ (Sl.getD_mem cs k Sl.cel0 hlt1)
      have HTK : Is ((cs.take (k + 1)).map cutC) ((cs.take k).map cutC ++ [cutC (cs.getD k Sl.cel0)]) := ⟨Sl.take_map cutC cs k Sl.cel0 hlt1⟩
      clear hcl HL HC HK
      generalize cs.getD k Sl.cel0 = x at *
      obtain ⟨xk, xx, xo, xl⟩ := x
      simp only at x0 x1 x2 x3 hxs
      have i1 : (k : Int) < (cs.length : Int) := by omega
      have j0 : (0 : Int) ≤ (k : Int) := by omega
      have HKC := fun W => fcut_any xk W hxs.1
      have HVC := fun W => fcut_any xx W hxs.2
      go_upto_region 7 with fail
      clear x0 x1 x2 x3 q0 q1 q2 q3
      have HBX : Hid (Brow (wr.alloc (.cells #[.string xk, .string xx, .int .i64 xo, .int .i64 xl] 28)).drew wr.heap.size [.string xk, .string xx, .int .i64 xo, .int .i64 xl] 28) := (Brow.new wr _ 28).drew
      have HBW : Hid (Below wr.heap.size wr (wr.alloc (.cells #[.string xk, .string xx, .int .i64 xo, .int .i64 xl] 28)).drew) := (below_alloc _ _).drew
      have hzb : wr.heap.size + 1 ≤ (wr.alloc (.cells #[.string xk, .string xx, .int .i64 xo, .int .i64 xl] 28)).drew.heap.size := by show wr.heap.size + 1 ≤ (wr.alloc (.cells #[.string xk, .string xx, .int .i64 xo, .int .i64 xl] 28)).heap.size; rw [size_alloc1]; omega
      refine AnyL.begin (S := (fun W : World => Brow W wr.heap.size [.string xk, .string xx, .int .i64 xo, .int .i64 xl] 28)) (zs := [9, 10, 11]) (by kernel_rfl) ?_
      generalize (wr.alloc (.cells #[.string xk, .string xx, .int .i64 xo, .int .i64 xl] 28)).drew = wb at *
      refine AnyL.take 0 (some 27) (v := (.func (.func 27) #[] #[])) rfl rfl (by kernel_rfl) (by kernel_rfl) (by kernel_rfl) (by kernel_rfl) (by kernel_rfl) (fun _ _ _ h => h) (Or.inl ⟨by rfl, fun w hS => ?_⟩) HBX.out ?_
      · (go_simp)
      simp only [Act.put, List.setIfInBounds_toArray, List.set_cons_zero, List.set_cons_succ]
      refine AnyL.take 1 (some 28) (v := (.pointer (some ⟨wr.heap.size, 0, none⟩))) rfl rfl (by kernel_rfl) (by kernel_rfl) (by kernel_rfl) (by kernel_rfl) (by kernel_rfl) (fun _ _ _ h => h) (Or.inl ⟨by rfl, fun w hS => ?_⟩) HBX.out ?_
      · (go_simp)
      simp only [Act.put, List.setIfInBounds_toArray, List.set_cons_zero, List.set_cons_succ]
      refine AnyL.take 2 (some 29) (v := (.string xk)) rfl rfl (by kernel_rfl) (by kernel_rfl) (by kernel_rfl) (by kernel_rfl) (by kernel_rfl) (fun _ _ _ h => h) (Or.inl ⟨by rfl, fun w hS => ?_⟩) HBX.out ?_
      · (have q := hS.at 0 _ rfl; go_simp)
      simp only [Act.put, List.setIfInBounds_toArray, List.set_cons_zero, List.set_cons_succ]
      refine AnyL.take 4 (some 31) (v := (.func (.func 27) #[] #[])) rfl rfl (by kernel_rfl) (by kernel_rfl) (by kernel_rfl) (by kernel_rfl) (by kernel_rfl) (fun _ _ _ h => h) (Or.inl ⟨by rfl, fun w hS => ?_⟩) HBX.out ?_
      · (go_simp)
      simp only [Act.put, List.setIfInBounds_toArray, List.set_cons_zero, List.set_cons_succ]
      refine AnyL.take 5 (some 32) (v := (.pointer (some ⟨wr.heap.size, 1, none⟩))) rfl rfl (by kernel_rfl) (by kernel_rfl) (by kernel_rfl) (by kernel_rfl) (by kernel_rfl) (fun _ _ _ h => h) (Or.inl ⟨by rfl, fun w hS => ?_⟩) HBX.out ?_
      · (go_simp)
      simp only [Act.put, List.setIfInBounds_toArray, List.set_cons_zero, List.set_cons_succ]
      refine AnyL.take 6 (some 33) (v := (.string xx)) rfl rfl (by kernel_rfl) (by kernel_rfl) (by kernel_rfl) (by kernel_rfl) (by kernel_rfl) (fun _ _ _ h => h) (Or.inl ⟨by rfl, fun w hS => ?_⟩) HBX.out ?_
      · (have q := hS.at 1 _ rfl; go_simp)
      simp only [Act.put, List.setIfInBounds_toArray, List.set_cons_zero, List.set_cons_succ]
      refine AnyL.one 3 (by kernel_rfl) rfl (by rfl) (fun KK hK => ?_)
      go_simp
      go_at_call 27
      refine (HKC _).mono ?_
      rintro e wS ⟨rfl, hwS⟩
      rw [hwS]
      clear hwS wS
      refine hK.out _ _ (fun _ => HBX.out) ?_
      clear hK KK
      try simp only [Act.put, List.setIfInBounds_toArray, List.set_cons_zero, List.set_cons_succ]
      refine AnyL.take 8 (some 35) (v := (.pointer (some ⟨wr.heap.size, 0, none⟩))) rfl rfl (by kernel_rfl) (by kernel_rfl) (by kernel_rfl) (by kernel_rfl) (by kernel_rfl) (fun _ _ _ h => h) (Or.inl ⟨by rfl, fun w hS => ?_⟩) HBX.out ?_
      · (go_simp)
      simp only [Act.put, List.setIfInBounds_toArray, List.set_cons_zero, List.set_cons_succ]
      refine AnyL.one 7 (by kernel_rfl) rfl (by rfl) (fun KK hK => ?_)
      go_simp
      go_at_call 27
      refine (HVC _).mono ?_
      rintro e wS ⟨rfl, hwS⟩
      rw [hwS]
      clear hwS wS HKC HVC
      refine hK.out _ _ (fun _ => HBX.out) ?_
      clear hK KK
      try simp only [Act.put, List.setIfInBounds_toArray, List.set_cons_zero, List.set_cons_succ]
      have y0 := HBX.out.at 0 _ rfl
      have z0 := HBX.out.fz 0
      have HBY := (show Hid (Brow (wb.setCell ⟨wr.heap.size, 0, none⟩ (.string (cutB xk))) wr.heap.size [.string (cutB xk), .string xx, .int .i64 xo, .int .i64 xl] 28) from HBX.out.set 0 _)
      refine AnyL.one 9 (by kernel_rfl) rfl (by rfl) (fun KK hK => ?_)
      go_simp
      refine hK.out _ _ (fun h => absurd h (by decide)) ?_
      clear hK KK
      try simp only [Act.put, List.setIfInBounds_toArray, List.set_cons_zero, List.set_cons_succ]
      refine AnyL.one 10 (by kernel_rfl) rfl (by rfl) (fun KK hK => ?_)
      go_simp
      refine hK.out _ _ (fun h => absurd h (by decide)) ?_
      clear hK KK
      try simp only [Act.put, List.setIfInBounds_toArray, List.set_cons_zero, List.set_cons_succ]
      have y1 := HBY.out.at 1 _ rfl
      have z1 := HBY.out.fz 1
      have HBZ := (show Hid (Brow ((wb.setCell ⟨wr.heap.size, 0, none⟩ (.string (cutB xk))).setCell ⟨wr.heap.size, 1, none⟩ (.string (cutB xx))) wr.heap.size [.string (cutB xk), .string (cutB xx), .int .i64 xo, .int .i64 xl] 28) from HBY.out.set 1 _)
      have HRC := (show Hid (FewR w lf (.slice (some ⟨b, off, none⟩) cs.length c1) (.slice a2 ks.length c2) (.slice a3 ds.length c3) ((cs.take k).map cutC) [] (.slice ad1 ((cs.take k).map cutC).length cp1) (.slice none 0 0) (.slice none 0 0) ((wb.setCell ⟨wr.heap.size, 0, none⟩ (.string (cutB xk))).setCell ⟨wr.heap.size, 1, none⟩ (.string (cutB xx)))) from HR.out.keep ((HBW.out.setCell (Nat.le_refl _) _).setCell (Nat.le_refl _) _))
      have hzc : wr.heap.size + 1 ≤ ((wb.setCell ⟨wr.heap.size, 0, none⟩ (.string (cutB xk))).setCell ⟨wr.heap.size, 1, none⟩ (.string (cutB xx))).heap.size := by rw [size_setCell, size_setCell]; exact hzb
      refine AnyL.one 11 (by kernel_rfl) rfl (by rfl) (fun KK hK => ?_)
      go_simp
      refine hK.out _ _ (fun h => absurd h (by decide)) ?_
      clear hK KK
      try simp only [Act.put, List.setIfInBounds_toArray, List.set_cons_zero, List.set_cons_succ]
      refine AnyL.done (by kernel_rfl) ?_
      clear y0 z0 y1 z1 HBX HBY HR HBW hzb
      generalize ((wb.setCell ⟨wr.heap.size, 0, none⟩ (.string (cutB xk))).setCell ⟨wr.heap.size, 1, none⟩ (.string (cutB xx))) = wc at *
      obtain ⟨v', w', hr, hO', hG'⟩ := app_cel (wc.alloc (.cells #[.string (cutB xk), .string (cutB xx), .int .i64 xo, .int .i64 xl] 28)) (w.heap.size + 3) _ ((cs.take k).map cutC) (cutC ⟨xk, xx, xo, xl⟩) wc.heap.size (own_below HRC.out.r1 (below_alloc _ _)) (by omega) (by rw [size_alloc1]; omega) (Brow.new wc _ 28)
      have HRN := (show Hid (FewR w lf _ _ _ ((cs.take k).map cutC ++ [cutC ⟨xk, xx, xo, xl⟩]) [] v' (.slice none 0 0) (.slice none 0 0) (w'.setCell ⟨w.heap.size + 2, 1, none⟩ v')) from (HRC.out.keep (below_alloc wc (.cells #[.string (cutB xk), .string (cutB xx), .int .i64 xo, .int .i64 xl] 28))).cel hO' hG' (by rw [size_alloc1]; omega) rfl)
      have HON := (show Hid (Brow w' (w.heap.size + 2) [.bool lf, _, .slice none 0 0, .slice none 0 0] 26) from (HRC.out.o.alloc _).grew hG' (own_far (own_below HRC.out.r1 (below_alloc wc (.cells #[.string (cutB xk), .string (cutB xx), .int .i64 xo, .int .i64 xl] 28))) (by omega)))
      have hz' : w.heap.size + 3 ≤ w'.heap.size := by have := hG'.by_.size; rw [size_alloc1] at this; omega
      obtain ⟨ad2, cp2, hv2, _, _, _⟩ := own_rowFrom hO'
      subst hv2
      rw [← HTK.eq] at HRN hr
      have HREL := (show Hid (∃ (k' : Nat) (v1 : Value), k' ≤ cs.length ∧ k' ≤ 20 ∧ Value.int .i64 ((k : Int) + 1) = .int .i64 k' ∧ w.heap.size + 3 ≤ (w'.setCell ⟨w.heap.size + 2, 1, none⟩ (.slice ad2 ((cs.take (k + 1)).map cutC).length cp2)).heap.size ∧ FewR w lf (.slice (some ⟨b, off, none⟩) cs.length c1) (.slice a2 ks.length c2) (.slice a3 ds.length c3) ((cs.take k').map cutC) [] v1 (.slice none 0 0) (.slice none 0 0) (w'.setCell ⟨w.heap.size + 2, 1, none⟩ (.slice ad2 ((cs.take (k + 1)).map cutC).length cp2))) from ⟨k + 1, _, by omega, by omega, by go_num, by rw [size_setCell]; exact hz', HRN.out⟩)
      have o1 := HRC.out.o.at 1 _ rfl
      have p1 := HON.out.at 1 _ rfl
      have pz := HON.out.fz 1
      have g0 := HBZ.out.at 0 _ rfl
      have g1 := HBZ.out.at 1 _ rfl
      have g2 := HBZ.out.at 2 _ rfl
      have g3 := HBZ.out.at 3 _ rfl
      clear hO' hG' HRN HON HRC HBZ HTK
      generalize ((cs.take (k + 1)).map cutC).length = L2 at *
      generalize ((cs.take k).map cutC).length = L1 at *
      go_wp2_with (refine wpList_run_append rfl _ _ 22 rfl _ _ _ _ rfl rfl hr ?_)
      go_roundw
      case rel => first | exact HREL.out | ((repeat apply Exists.intro); exact ⟨HREL.out, rfl⟩)
      case measure => (simp [intOf]) <;> omega
    · by_cases hl2 : k < cs.length
      · have HKE : Is ((cs.take k).map cutC) ((cs.take 20).map cutC) := ⟨by rw [show k = 20 by omega]⟩
        have d1 : decide ((k : Int) < (cs.length : Int)) = true := decide_eq_true (by omega)
        have d2 : decide ((k : Int) < 20) = false := decide_eq_false (by omega)
        clear hlt hl2
        obtain ⟨CS, HCS⟩ : ∃ CS, Is CS ((cs.take 20).map cutC) := ⟨_, ⟨rfl⟩⟩
        obtain ⟨V1, HV1⟩ : ∃ V1 : Value, Is V1 (Value.slice ad1 ((cs.take k).map cutC).length cp1) := ⟨_, ⟨rfl⟩⟩
        have HRS := (show Hid (FewR w lf (.slice a1 cs.length c1) (.slice a2 ks.length c2) (.slice a3 ds.length c3) CS [] V1 (.slice none 0 0) (.slice none 0 0) wr) from by
          have h5 := HR.out
          rw [← HV1.eq, HKE.eq, ← HCS.eq] at h5
          exact h5)
        clear HR HKE HV1 hlen1
        go_wp2_with fail
        all_goals first | (exfalso; first | (have hX := of_decide_eq_true d1; omega) | (have hX := of_decide_eq_false d1; omega)) | skip
        clear d1
        clear q0 q1 q2 q3
        go_loopw [7] (fun s7 wr => ∃ (j : Nat) (v2 : Value), j ≤ ks.length ∧ j ≤ 20 ∧ s7 = .int .i64 j ∧ w.heap.size + 3 ≤ wr.heap.size ∧ FewR w lf (.slice a1 cs.length c1) (.slice a2 ks.length c2) (.slice a3 ds.length c3) CS ((ks.take j).map cutB) V1 v2 (.slice none 0 0) wr) (fun s7 _ => 20 - (intOf s7).toNat)
        case atStart => exact ⟨0, .slice none 0 0, by omega, by omega, rfl, hsr, HRS.out⟩
        case round =>
          obtain ⟨j, v2, hj1, hj2, rfl, hsq, hR2⟩ := hrel
          obtain ⟨ad2, cp2, hv2, _, _, _⟩ := own_rowFrom hR2.r2
          have hlen2 : ((ks.take j).map cutB).length ≤ 20 := by rw [List.length_map, List.length_take]; omega
          subst hv2
          have HRq := (show Hid (FewR w lf (.slice a1 cs.length c1) (.slice a2 ks.length c2) (.slice a3 ds.length c3) CS ((ks.take j).map cutB) V1 (.slice ad2 ((ks.take j).map cutB).length cp2) (.slice none 0 0) wr) from hR2)
          clear hR2 HRS
          have q1 := HRq.out.n.at 1 _ rfl
          have q2 := HRq.out.n.at 2 _ rfl
          have q3 := HRq.out.n.at 3 _ rfl
          by_cases hlt : j < ks.length ∧ j < 20
          · obtain ⟨hlt1, hlt2⟩ := hlt
            have d3 : decide ((j : Int) < (ks.length : Int)) = true := decide_eq_true (by omega)
            have d4 : decide ((j : Int) < 20) = true := decide_eq_true (by omega)
            obtain ⟨bk, fk, ha2, hbk, hck⟩ := HL.out.r2.keyAt (Nat.lt_of_le_of_lt (Nat.zero_le _) hlt1)
            simp only at ha2
            subst ha2
            have HCX := (show Hid (w.cell? ⟨bk, fk + j, none⟩ = some (.string (ks.getD j ByteArray.empty))) from hck j hlt1)
            have hxs := HK.out _ (Sl.getD_mem ks j ByteArray.empty hlt1)
            have HTK : Is ((ks.take (j + 1)).map cutB) ((ks.take j).map cutB ++ [cutB (ks.getD j ByteArray.empty)]) := ⟨Sl.take_map cutB ks j ByteArray.empty hlt1⟩
            clear hck HL HC HK
            generalize ks.getD j ByteArray.empty = x at *
            have i1 : (j : Int) < (ks.length : Int) := by omega
            have j0 : (0 : Int) ≤ (j : Int) := by omega
            have HKC := fun W => fcut_any x W hxs
            go_upto_region 12 with fail
            clear q1 q2 q3
            have HRD := (show Hid (FewR w lf (.slice a1 cs.length c1) (.slice (some ⟨bk, fk, none⟩) ks.length c2) (.slice a3 ds.length c3) CS ((ks.take j).map cutB) V1 (.slice ad2 ((ks.take j).map cutB).length cp2) (.slice none 0 0) wr.drew) from HRq.out.keep (Below.refl _ _).drew)
            have hzD : w.heap.size + 3 ≤ wr.drew.heap.size := hsq
            refine AnyL.begin (S := (fun W : World => Brow W w.heap.size [.bool lf, .slice a1 cs.length c1, .slice (some ⟨bk, fk, none⟩) ks.length c2, .slice a3 ds.length c3] 26 ∧ Brow W (w.heap.size + 2) [.bool lf, V1, .slice ad2 ((ks.take j).map cutB).length cp2, .slice none 0 0] 26 ∧ W.cell? ⟨bk, fk + j, none⟩ = some (.string x))) (zs := [12]) (by kernel_rfl) ?_
            generalize wr.drew = wd at *
            clear HRq hsq
            obtain ⟨L2, HL2⟩ : ∃ L2, Is L2 ((ks.take j).map cutB).length := ⟨_, ⟨rfl⟩⟩
            rw [← HL2.eq] at HRD ⊢
            have HSD : Hid ((fun W : World => Brow W w.heap.size [.bool lf, .slice a1 cs.length c1, .slice (some ⟨bk, fk, none⟩) ks.length c2, .slice a3 ds.length c3] 26 ∧ Brow W (w.heap.size + 2) [.bool lf, V1, .slice ad2 L2 cp2, .slice none 0 0] 26 ∧ W.cell? ⟨bk, fk + j, none⟩ = some (.string x)) wd) := ⟨HRD.out.n, HRD.out.o, (HRD.out.b.cell (p := ⟨bk, fk + j, none⟩) hbk).trans HCX.out⟩
            refine AnyL.take 0 (some 54) (v := (.pointer (some ⟨w.heap.size + 2, 2, none⟩))) rfl rfl (by kernel_rfl) (by kernel_rfl) (by kernel_rfl) (by kernel_rfl) (by kernel_rfl) (fun _ _ _ h => h) (Or.inl ⟨by rfl, fun w hS => ?_⟩) HSD.out ?_
            · (go_simp)
            simp only [Act.put, List.setIfInBounds_toArray, List.set_cons_zero, List.set_cons_succ]
            refine AnyL.take 1 (some 55) (v := (.slice ad2 L2 cp2)) rfl rfl (by kernel_rfl) (by kernel_rfl) (by kernel_rfl) (by kernel_rfl) (by kernel_rfl) (fun _ _ _ h => h) (Or.inl ⟨by rfl, fun w hS => ?_⟩) HSD.out ?_
            · (have q := hS.2.1.at 2 _ rfl; go_simp)
            simp only [Act.put, List.setIfInBounds_toArray, List.set_cons_zero, List.set_cons_succ]
            refine AnyL.take 2 (some 56) (v := (.func (.func 27) #[] #[])) rfl rfl (by kernel_rfl) (by kernel_rfl) (by kernel_rfl) (by kernel_rfl) (by kernel_rfl) (fun _ _ _ h => h) (Or.inl ⟨by rfl, fun w hS => ?_⟩) HSD.out ?_
            · (go_simp)
            simp only [Act.put, List.setIfInBounds_toArray, List.set_cons_zero, List.set_cons_succ]
            refine AnyL.take 3 (some 57) (v := (.pointer (some ⟨w.heap.size, 2, none⟩))) rfl rfl (by kernel_rfl) (by kernel_rfl) (by kernel_rfl) (by kernel_rfl) (by kernel_rfl) (fun _ _ _ h => h) (Or.inl ⟨by rfl, fun w hS => ?_⟩) HSD.out ?_
            · (go_simp)
            simp only [Act.put, List.setIfInBounds_toArray, List.set_cons_zero, List.set_cons_succ]
            refine AnyL.take 4 (some 58) (v := (.slice (some ⟨bk, fk, none⟩) ks.length c2)) rfl rfl (by kernel_rfl) (by kernel_rfl) (by kernel_rfl) (by kernel_rfl) (by kernel_rfl) (fun _ _ _ h => h) (Or.inl ⟨by rfl, fun w hS => ?_⟩) HSD.out ?_
            · (have q := hS.1.at 2 _ rfl; go_simp)
            simp only [Act.put, List.setIfInBounds_toArray, List.set_cons_zero, List.set_cons_succ]
            refine AnyL.take 5 (some 59) (v := (.int .i64 (j : Int))) rfl rfl (by kernel_rfl) (by kernel_rfl) (by kernel_rfl) (by kernel_rfl) (by kernel_rfl) (fun _ _ _ h => h) (Or.inl ⟨by rfl, fun w hS => ?_⟩) HSD.out ?_
            · (go_simp)
            simp only [Act.put, List.setIfInBounds_toArray, List.set_cons_zero, List.set_cons_succ]
            refine AnyL.take 6 (some 60) (v := (.pointer (some ⟨bk, fk + j, none⟩))) rfl rfl (by kernel_rfl) (by kernel_rfl) (by kernel_rfl) (by kernel_rfl) (by kernel_rfl) (fun _ _ _ h => h) (Or.inl ⟨by rfl, fun w hS => ?_⟩) HSD.out ?_
            · (go_simp)
            simp only [Act.put, List.setIfInBounds_toArray, List.set_cons_zero, List.set_cons_succ]
            refine AnyL.take 7 (some 61) (v := (.string x)) rfl rfl (by kernel_rfl) (by kernel_rfl) (by kernel_rfl) (by kernel_rfl) (by kernel_rfl) (fun _ _ _ h => h) (Or.inl ⟨by rfl, fun w hS => ?_⟩) HSD.out ?_
            · (have q := hS.2.2; go_simp)
            simp only [Act.put, List.setIfInBounds_toArray, List.set_cons_zero, List.set_cons_succ]
            refine AnyL.one 8 (by kernel_rfl) rfl (by rfl) (fun KK hK => ?_)
            go_simp
            go_at_call 27
            refine (HKC _).mono ?_
            rintro e wS ⟨rfl, hwS⟩
            rw [hwS]
            clear hwS wS HKC
            refine hK.out _ _ (fun _ => HSD.out) ?_
            clear hK KK
            try simp only [Act.put, List.setIfInBounds_toArray, List.set_cons_zero, List.set_cons_succ]
            have HSA : Hid ((fun W : World => Brow W w.heap.size [.bool lf, .slice a1 cs.length c1, .slice (some ⟨bk, fk, none⟩) ks.length c2, .slice a3 ds.length c3] 26 ∧ Brow W (w.heap.size + 2) [.bool lf, V1, .slice ad2 L2 cp2, .slice none 0 0] 26 ∧ W.cell? ⟨bk, fk + j, none⟩ = some (.string x)) (wd.alloc (.cells #[.string (cutB x)] 9))) := ⟨HRD.out.n.alloc _, HRD.out.o.alloc _, ((HRD.out.keep (below_alloc _ _)).b.cell (p := ⟨bk, fk + j, none⟩) hbk).trans HCX.out⟩
            refine AnyL.one 9 (by kernel_rfl) rfl (by rfl) (fun KK hK => ?_)
            go_simp
            refine hK.out _ _ (fun _ => HSA.out) ?_
            clear hK KK
            try simp only [Act.put, List.setIfInBounds_toArray, List.set_cons_zero, List.set_cons_succ]
            obtain ⟨v', w', hr, hO', hG'⟩ := app_key (wd.alloc (.cells #[.string (cutB x)] 9)) (w.heap.size + 3) _ ((ks.take j).map cutB) (cutB x) wd.heap.size (own_below HRD.out.r2 (below_alloc _ _)) (by omega) (by rw [size_alloc1]; omega) (Brow.new wd _ 9)
            have HRN := (show Hid (FewR w lf (.slice a1 cs.length c1) (.slice (some ⟨bk, fk, none⟩) ks.length c2) (.slice a3 ds.length c3) CS ((ks.take j).map cutB ++ [cutB x]) V1 v' (.slice none 0 0) (w'.setCell ⟨w.heap.size + 2, 2, none⟩ v')) from (HRD.out.keep (below_alloc wd (.cells #[.string (cutB x)] 9))).key hO' hG' (by rw [size_alloc1]; omega))
            have HON := (show Hid (Brow w' (w.heap.size + 2) [.bool lf, V1, .slice ad2 L2 cp2, .slice none 0 0] 26) from (HRD.out.o.alloc _).grew hG' (own_far (own_below HRD.out.r2 (below_alloc wd (.cells #[.string (cutB x)] 9))) (by omega)))
            have HNN := (show Hid (Brow w' w.heap.size [.bool lf, .slice a1 cs.length c1, .slice (some ⟨bk, fk, none⟩) ks.length c2, .slice a3 ds.length c3] 26) from (HRD.out.n.alloc _).grew hG' (own_far (own_below HRD.out.r2 (below_alloc wd (.cells #[.string (cutB x)] 9))) (by omega)))
            have hz' : w.heap.size + 3 ≤ w'.heap.size := by have := hG'.by_.size; rw [size_alloc1] at this; omega
            have HBW := (show Hid (Below w.heap.size w w') from (HRD.out.keep (below_alloc wd (.cells #[.string (cutB x)] 9))).b.trans ((hG'.below (own_below HRD.out.r2 (below_alloc _ _)) (by rw [size_alloc1]; omega)).mono (by omega)))
            obtain ⟨ad3, cp3, hv3, _, _, _⟩ := own_rowFrom hO'
            subst hv3
            rw [← HTK.eq] at HRN hr
            have HREL := (show Hid (∃ (j' : Nat) (v2 : Value), j' ≤ ks.length ∧ j' ≤ 20 ∧ Value.int .i64 ((j : Int) + 1) = .int .i64 j' ∧ w.heap.size + 3 ≤ (w'.setCell ⟨w.heap.size + 2, 2, none⟩ (.slice ad3 ((ks.take (j + 1)).map cutB).length cp3)).heap.size ∧ FewR w lf (.slice a1 cs.length c1) (.slice (some ⟨bk, fk, none⟩) ks.length c2) (.slice a3 ds.length c3) CS ((ks.take j').map cutB) V1 v2 (.slice none 0 0) (w'.setCell ⟨w.heap.size + 2, 2, none⟩ (.slice ad3 ((ks.take (j + 1)).map cutB).length cp3))) from ⟨j + 1, _, by omega, by omega, by go_num, by rw [size_setCell]; exact hz', HRN.out⟩)
            clear hO' hG' HRN
            generalize ((ks.take (j + 1)).map cutB).length = L3 at *
            have HSN : Hid ((fun W : World => Brow W w.heap.size [.bool lf, .slice a1 cs.length c1, .slice (some ⟨bk, fk, none⟩) ks.length c2, .slice a3 ds.length c3] 26 ∧ Brow W (w.heap.size + 2) [.bool lf, V1, .slice ad2 L2 cp2, .slice none 0 0] 26 ∧ W.cell? ⟨bk, fk + j, none⟩ = some (.string x)) w') := ⟨HNN.out, HON.out, (HBW.out.cell (p := ⟨bk, fk + j, none⟩) hbk).trans HCX.out⟩
            refine AnyL.one 10 (by kernel_rfl) rfl (by rfl) (fun KK hK => ?_)
            refine step_run_append (some 64) rfl (.tmp 55) (.tmp 63) 23 rfl _ _ _ _ rfl rfl hr ?_
            refine hK.out _ _ (fun _ => HSN.out) ?_
            clear hK KK hr
            try simp only [Act.put, List.setIfInBounds_toArray, List.set_cons_zero, List.set_cons_succ]
            refine AnyL.take 11 (some 65) (v := (.pointer (some ⟨w.heap.size + 2, 2, none⟩))) rfl rfl (by kernel_rfl) (by kernel_rfl) (by kernel_rfl) (by kernel_rfl) (by kernel_rfl) (fun _ _ _ h => h) (Or.inl ⟨by rfl, fun w hS => ?_⟩) HSN.out ?_
            · (go_simp)
            simp only [Act.put, List.setIfInBounds_toArray, List.set_cons_zero, List.set_cons_succ]
            have p1 := HON.out.at 2 _ rfl
            have pz := HON.out.fz 2
            refine AnyL.one 12 (by kernel_rfl) rfl (by rfl) (fun KK hK => ?_)
            go_simp
            refine hK.out _ _ (fun h => absurd h (by decide)) ?_
            clear hK KK
            try simp only [Act.put, List.setIfInBounds_toArray, List.set_cons_zero, List.set_cons_succ]
            refine AnyL.done (by kernel_rfl) ?_
            clear p1 pz HSN HON HNN HBW HSA HSD HRD HCX HTK HL2
            generalize (w'.setCell ⟨w.heap.size + 2, 2, none⟩ (.slice ad3 L3 cp3)) = w5 at *
            go_wp2_with fail
            go_roundw
            case rel => first | exact HREL.out | ((repeat apply Exists.intro); exact ⟨HREL.out, rfl⟩)
            case measure => (simp [intOf]) <;> omega
          · by_cases hl4 : j < ks.length
            · have HJ : Is ((ks.take j).map cutB) ((ks.take 20).map cutB) := ⟨by rw [show j = 20 by omega]⟩
              have d3 : decide ((j : Int) < (ks.length : Int)) = true := decide_eq_true (by omega)
              have d4 : decide ((j : Int) < 20) = false := decide_eq_false (by omega)
              clear hlt hl4
              have HRE := (show Hid (FewR w lf (.slice a1 cs.length c1) (.slice a2 ks.length c2) (.slice a3 ds.length c3) CS ((ks.take 20).map cutB) V1 (.slice ad2 ((ks.take 20).map cutB).length cp2) (.slice none 0 0) wr) from by
                have h5 := HRq.out
                rw [HJ.eq] at h5
                exact h5)
              have HLQ := (show Hid (Lies w ⟨lf, cs, ks, ds⟩ ⟨a1, c1, a2, c2, a3, c3⟩) from HL.out)
              have q0 := HRE.out.n.at 0 _ rfl
              go_upto_region 13 with fail
              all_goals first | (exfalso; first | (have hX := of_decide_eq_true d3; omega) | (have hX := of_decide_eq_false d3; omega)) | skip
              clear d3
              clear q0 q1 q2 q3
              have HRD := (show Hid (FewR w lf (.slice a1 cs.length c1) (.slice a2 ks.length c2) (.slice a3 ds.length c3) CS ((ks.take 20).map cutB) V1 (.slice ad2 ((ks.take 20).map cutB).length cp2) (.slice none 0 0) wr.drew) from HRE.out.keep (Below.refl _ _).drew)
              have hzD : w.heap.size + 3 ≤ wr.drew.heap.size := hsq
              refine AnyL.begin (S := (fun W : World => Brow W w.heap.size [.bool lf, .slice a1 cs.length c1, .slice a2 ks.length c2, .slice a3 ds.length c3] 26 ∧ Brow W (w.heap.size + 2) [.bool lf, V1, .slice ad2 ((ks.take j).map cutB).length cp2, .slice none 0 0] 26)) (zs := [11]) (by kernel_rfl) ?_
              generalize wr.drew = wd at *
              clear HRE HRq hsq
              rw [HJ.eq]
              obtain ⟨L2, HL2⟩ : ∃ L2, Is L2 ((ks.take 20).map cutB).length := ⟨_, ⟨rfl⟩⟩
              rw [← HL2.eq] at HRD ⊢
              have HSD : Hid ((fun W : World => Brow W w.heap.size [.bool lf, .slice a1 cs.length c1, .slice a2 ks.length c2, .slice a3 ds.length c3] 26 ∧ Brow W (w.heap.size + 2) [.bool lf, V1, .slice ad2 L2 cp2, .slice none 0 0] 26) wd) := ⟨HRD.out.n, HRD.out.o⟩
              obtain ⟨M, HM⟩ : ∃ M, Is M (min ds.length 21) := ⟨_, ⟨rfl⟩⟩
              have m1 : min (ds.length : Int) 21 = (M : Int) := by have := HM.eq; omega
              have hl3 : ds.length ≤ c3 := HLQ.out.l3
              have hMl : M ≤ ds.length := by have := HM.eq; omega
              have hM2 : M ≤ 21 := by have := HM.eq; omega
              have m2 : (M : Int) ≤ (c3 : Int) := by omega
              have m3 : (0 : Int) ≤ (M : Int) := by omega
              have f1 : sliced a3 0 M c3 1 = .slice a3 M c3 := by rw [sliced_sub, subA_zero]; rfl
              have hA3 : RowAt wd a3 (icells (ds.take M)) := by rw [icells_take]; exact (HLQ.out.r3.below HRD.out.b).take _
              obtain ⟨ad3, cp3, w3, hr, hc1, hc2, _, hB3, hX3, hF3⟩ := app_fullF (P := Try.prog) (w := wd) (t := 24) Try.underlying24 infoI (ad := none) (n := 0) (xs := []) (.inl rfl) (by simp) (ad2 := a3) (m := M) (c2 := c3) (ys := icells (ds.take M)) hA3 (by rw [icells_length, List.length_take]; omega) (icells_one _) (by omega) (by omega)
              have HF3 := (show Hid (RowFrom w3 wd.heap.size ad3 (icells (ds.take M))) from by have := hF3 rfl; rwa [List.nil_append] at this)
              rw [Nat.zero_add] at hr hc1
              have HR3 := (show Hid (FewR w lf (.slice a1 cs.length c1) (.slice a2 ks.length c2) (.slice a3 ds.length c3) CS ((ks.take 20).map cutB) V1 (.slice ad2 L2 cp2) (.slice none 0 0) w3) from HRD.out.keep hB3)
              have hz3 : wd.heap.size ≤ w3.heap.size := hB3.size
              clear hA3 hX3 hF3 hB3
              refine AnyL.take 0 (some 66) (v := (.pointer (some ⟨w.heap.size + 2, 3, none⟩))) rfl rfl (by kernel_rfl) (by kernel_rfl) (by kernel_rfl) (by kernel_rfl) (by kernel_rfl) (fun _ _ _ h => h) (Or.inl ⟨by rfl, fun w hS => ?_⟩) HSD.out ?_
              · (go_simp)
              simp only [Act.put, List.setIfInBounds_toArray, List.set_cons_zero, List.set_cons_succ]
              refine AnyL.take 1 (some 67) (v := (.slice none 0 0)) rfl rfl (by kernel_rfl) (by kernel_rfl) (by kernel_rfl) (by kernel_rfl) (by kernel_rfl) (fun _ _ _ h => h) (Or.inl ⟨by rfl, fun w hS => ?_⟩) HSD.out ?_
              · (have q := hS.2.at 3 _ rfl; go_simp)
              simp only [Act.put, List.setIfInBounds_toArray, List.set_cons_zero, List.set_cons_succ]
              refine AnyL.take 2 (some 68) (v := (.pointer (some ⟨w.heap.size, 3, none⟩))) rfl rfl (by kernel_rfl) (by kernel_rfl) (by kernel_rfl) (by kernel_rfl) (by kernel_rfl) (fun _ _ _ h => h) (Or.inl ⟨by rfl, fun w hS => ?_⟩) HSD.out ?_
              · (go_simp)
              simp only [Act.put, List.setIfInBounds_toArray, List.set_cons_zero, List.set_cons_succ]
              refine AnyL.take 3 (some 69) (v := (.slice a3 ds.length c3)) rfl rfl (by kernel_rfl) (by kernel_rfl) (by kernel_rfl) (by kernel_rfl) (by kernel_rfl) (fun _ _ _ h => h) (Or.inl ⟨by rfl, fun w hS => ?_⟩) HSD.out ?_
              · (have q := hS.1.at 3 _ rfl; go_simp)
              simp only [Act.put, List.setIfInBounds_toArray, List.set_cons_zero, List.set_cons_succ]
              refine AnyL.take 4 (some 70) (v := (.pointer (some ⟨w.heap.size, 3, none⟩))) rfl rfl (by kernel_rfl) (by kernel_rfl) (by kernel_rfl) (by kernel_rfl) (by kernel_rfl) (fun _ _ _ h => h) (Or.inl ⟨by rfl, fun w hS => ?_⟩) HSD.out ?_
              · (go_simp)
              simp only [Act.put, List.setIfInBounds_toArray, List.set_cons_zero, List.set_cons_succ]
              refine AnyL.take 5 (some 71) (v := (.slice a3 ds.length c3)) rfl rfl (by kernel_rfl) (by kernel_rfl) (by kernel_rfl) (by kernel_rfl) (by kernel_rfl) (fun _ _ _ h => h) (Or.inl ⟨by rfl, fun w hS => ?_⟩) HSD.out ?_
              · (have q := hS.1.at 3 _ rfl; go_simp)
              simp only [Act.put, List.setIfInBounds_toArray, List.set_cons_zero, List.set_cons_succ]
              refine AnyL.take 6 (some 72) (v := (.int .i64 (ds.length : Int))) rfl rfl (by kernel_rfl) (by kernel_rfl) (by kernel_rfl) (by kernel_rfl) (by kernel_rfl) (fun _ _ _ h => h) (Or.inl ⟨by rfl, fun w hS => ?_⟩) HSD.out ?_
              · (go_simp)
              simp only [Act.put, List.setIfInBounds_toArray, List.set_cons_zero, List.set_cons_succ]
              refine AnyL.take 7 (some 73) (v := (.int .i64 (M : Int))) rfl rfl (by kernel_rfl) (by kernel_rfl) (by kernel_rfl) (by kernel_rfl) (by kernel_rfl) (fun _ _ _ h => h) (Or.inl ⟨by rfl, fun w hS => ?_⟩) HSD.out ?_
              · (go_simp)
              simp only [Act.put, List.setIfInBounds_toArray, List.set_cons_zero, List.set_cons_succ]
              refine AnyL.take 8 (some 74) (v := (.slice a3 M c3)) rfl rfl (by kernel_rfl) (by kernel_rfl) (by kernel_rfl) (by kernel_rfl) (by kernel_rfl) (fun _ _ _ h => h) (Or.inl ⟨by rfl, fun w hS => ?_⟩) HSD.out ?_
              · (go_simp)
              simp only [Act.put, List.setIfInBounds_toArray, List.set_cons_zero, List.set_cons_succ]
              refine AnyL.one 9 (by kernel_rfl) rfl (by rfl) (fun KK hK => ?_)
              refine step_run_append (some 75) rfl (.tmp 67) (.tmp 74) 24 rfl _ _ _ _ rfl rfl hr ?_
              have HS3 : Hid ((fun W : World => Brow W w.heap.size [.bool lf, .slice a1 cs.length c1, .slice a2 ks.length c2, .slice a3 ds.length c3] 26 ∧ Brow W (w.heap.size + 2) [.bool lf, V1, .slice ad2 L2 cp2, .slice none 0 0] 26) w3) := ⟨HR3.out.n, HR3.out.o⟩
              refine hK.out _ _ (fun _ => HS3.out) ?_
              clear hK KK
              try simp only [Act.put, List.setIfInBounds_toArray, List.set_cons_zero, List.set_cons_succ]
              refine AnyL.take 10 (some 76) (v := (.pointer (some ⟨w.heap.size + 2, 3, none⟩))) rfl rfl (by kernel_rfl) (by kernel_rfl) (by kernel_rfl) (by kernel_rfl) (by kernel_rfl) (fun _ _ _ h => h) (Or.inl ⟨by rfl, fun w hS => ?_⟩) HS3.out ?_
              · (go_simp)
              simp only [Act.put, List.setIfInBounds_toArray, List.set_cons_zero, List.set_cons_succ]
              have y3 := HR3.out.o.at 3 _ rfl
              have yz := HR3.out.o.fz 3
              refine AnyL.one 11 (by kernel_rfl) rfl (by rfl) (fun KK hK => ?_)
              go_simp
              refine hK.out _ _ (fun h => absurd h (by decide)) ?_
              clear hK KK
              try simp only [Act.put, List.setIfInBounds_toArray, List.set_cons_zero, List.set_cons_succ]
              refine AnyL.done (by kernel_rfl) ?_
              have HO4 := (show Hid (Brow (w3.setCell ⟨w.heap.size + 2, 3, none⟩ (.slice ad3 M cp3)) (w.heap.size + 2) [.bool lf, V1, .slice ad2 L2 cp2, .slice ad3 M cp3] 26) from HR3.out.o.set 3 _)
              have HZ4 := (show Hid (Brow (w3.setCell ⟨w.heap.size + 2, 3, none⟩ (.slice ad3 M cp3)) (w.heap.size + 1) [.bool false, .slice none 0 0, .slice none 0 0, .slice none 0 0] 26) from HR3.out.z.far (by show w.heap.size + 2 ≠ w.heap.size + 1; omega))
              obtain ⟨ad1', cp1', hV1, hle1, hcm1, hr1⟩ := own_rowFrom HR3.out.r1
              obtain ⟨ad2', cp2', hV2, hle2, hcm2, hr2⟩ := own_rowFrom HR3.out.r2
              have hV2' := hV2
              injection hV2' with e1 e2 e3
              subst e1 e2 e3
              have HLF := (show Hid (LiesF (w3.setCell ⟨w.heap.size + 2, 3, none⟩ (.slice ad3 M cp3)) (w.heap.size + 3) ⟨lf, CS, (ks.take 20).map cutB, ds.take M⟩ ⟨ad1', cp1', ad2, cp2, ad3, cp3⟩) from ⟨hr1.set (by omega) _ _, hr2.set (by omega) _ _, (HF3.out.mono hzD).set (by omega) _ _, hle1, hle2, by rw [List.length_take]; exact Nat.le_trans (Nat.min_le_left _ _) hc1, hcm1, hcm2, hc2⟩)
              have HB4 := (show Hid (Below w.heap.size w (w3.setCell ⟨w.heap.size + 2, 3, none⟩ (.slice ad3 M cp3))) from HR3.out.b.setCell (by show w.heap.size ≤ w.heap.size + 2; omega) _)
              have HML : Is (ds.take M).length M := ⟨by rw [List.length_take]; omega⟩
              have HMT : Is (ds.take M) (ds.take 21) := ⟨by
                rw [HM.eq]
                by_cases h : ds.length ≤ 21
                · rw [Nat.min_eq_left h, List.take_of_length_le (Nat.le_refl _), List.take_of_length_le h]
                · rw [Nat.min_eq_right (by omega)]⟩
              clear hV2 hr1 hr2 HF3 hr y3 yz HR3 HRD HSD HS3 m1 m2 m3 f1
              subst hV1
              generalize (w3.setCell ⟨w.heap.size + 2, 3, none⟩ (.slice ad3 M cp3)) = w4 at *
              have HFR := (show Hid (Brow (setN w4 (w.heap.size + 1) (.bool lf) (.slice ad1' CS.length cp1') (.slice ad2 ((ks.take 20).map cutB).length cp2) (.slice ad3 M cp3)) (w.heap.size + 1) [.bool lf, .slice ad1' CS.length cp1', .slice ad2 ((ks.take 20).map cutB).length cp2, .slice ad3 M cp3] 26) from setN_row HZ4.out _ _ _ _)
              have HFL := (show Hid (LiesF (setN w4 (w.heap.size + 1) (.bool lf) (.slice ad1' CS.length cp1') (.slice ad2 ((ks.take 20).map cutB).length cp2) (.slice ad3 M cp3)) w.heap.size ⟨lf, CS, (ks.take 20).map cutB, ds.take M⟩ ⟨ad1', cp1', ad2, cp2, ad3, cp3⟩) from (setN_lies HLF.out (by omega) _ _ _ _).mono (by omega))
              have HFB := (show Hid (Below w.heap.size w (setN w4 (w.heap.size + 1) (.bool lf) (.slice ad1' CS.length cp1') (.slice ad2 ((ks.take 20).map cutB).length cp2) (.slice ad3 M cp3))) from setN_below HB4.out (by omega) _ _ _ _)
              have x0 := HO4.out.at 0 _ rfl
              have x1 := HO4.out.at 1 _ rfl
              have x2 := HO4.out.at 2 _ rfl
              have x3 := HO4.out.at 3 _ rfl
              have y0 := HZ4.out.at 0 _ rfl
              have y1 := HZ4.out.at 1 _ rfl
              have y2 := HZ4.out.at 2 _ rfl
              have y3 := HZ4.out.at 3 _ rfl
              have z0 := HZ4.out.fz 0
              have z1 := HZ4.out.fz 1
              have z2 := HZ4.out.fz 2
              have z3 := HZ4.out.fz 3
              unfold setN at HFR HFL HFB
              generalize hgl : ((ks.take 20).map cutB).length = L3 at *
              have HL3 : Is ((ks.take 20).map cutB).length L3 := ⟨hgl⟩
              clear hgl
              go_wp2
              refine bodyPost_ret (res_c rfl _ _ (w.heap.size + 1) 26 _ _ rfl HFR.out Try.underlying26 rfl (by kernel_rfl)) rfl ?_
              refine ⟨⟨ad1', cp1', ad2, cp2, ad3, cp3⟩, ?_, ?_, HFB.out⟩
              · rw [HFN.eq]
                simp only
                rw [HL3.eq, ← HMT.eq, HML.eq, HCS.eq]
              · rw [HFN.eq, ← HMT.eq, ← HCS.eq]
                exact HFL.out
            · have HJ : Is ((ks.take j).map cutB) ((ks.take 20).map cutB) := ⟨by rw [List.take_of_length_le (by omega), List.take_of_length_le (by omega)]⟩
              have d3 : decide ((j : Int) < (ks.length : Int)) = false := decide_eq_false (by omega)
              clear hlt hl4
              have HRE := (show Hid (FewR w lf (.slice a1 cs.length c1) (.slice a2 ks.length c2) (.slice a3 ds.length c3) CS ((ks.take 20).map cutB) V1 (.slice ad2 ((ks.take 20).map cutB).length cp2) (.slice none 0 0) wr) from by
                have h5 := HRq.out
                rw [HJ.eq] at h5
                exact h5)
              have HLQ := (show Hid (Lies w ⟨lf, cs, ks, ds⟩ ⟨a1, c1, a2, c2, a3, c3⟩) from HL.out)
              have q0 := HRE.out.n.at 0 _ rfl
              go_upto_region 13 with fail
              all_goals first | (exfalso; first | (have hX := of_decide_eq_true d3; omega) | (have hX := of_decide_eq_false d3; omega)) | skip
              clear d3
              clear q0 q1 q2 q3
              have HRD := (show Hid (FewR w lf (.slice a1 cs.length c1) (.slice a2 ks.length c2) (.slice a3 ds.length c3) CS ((ks.take 20).map cutB) V1 (.slice ad2 ((ks.take 20).map cutB).length cp2) (.slice none 0 0) wr.drew) from HRE.out.keep (Below.refl _ _).drew)
              have hzD : w.heap.size + 3 ≤ wr.drew.heap.size := hsq
              refine AnyL.begin (S := (fun W : World => Brow W w.heap.size [.bool lf, .slice a1 cs.length c1, .slice a2 ks.length c2, .slice a3 ds.length c3] 26 ∧ Brow W (w.heap.size + 2) [.bool lf, V1, .slice ad2 ((ks.take j).map cutB).length cp2, .slice none 0 0] 26)) (zs := [11]) (by kernel_rfl) ?_
              generalize wr.drew = wd at *
              clear HRE HRq hsq
              rw [HJ.eq]
              obtain ⟨L2, HL2⟩ : ∃ L2, Is L2 ((ks.take 20).map cutB).length := ⟨_, ⟨rfl⟩⟩
              rw [← HL2.eq] at HRD ⊢
              have HSD : Hid ((fun W : World => Brow W w.heap.size [.bool lf, .slice a1 cs.length c1, .slice a2 ks.length c2, .slice a3 ds.length c3] 26 ∧ Brow W (w.heap.size + 2) [.bool lf, V1, .slice ad2 L2 cp2, .slice none 0 0] 26) wd) := ⟨HRD.out.n, HRD.out.o⟩
              obtain ⟨M, HM⟩ : ∃ M, Is M (min ds.length 21) := ⟨_, ⟨rfl⟩⟩
              have m1 : min (ds.length : Int) 21 = (M : Int) := by have := HM.eq; omega
              have hl3 : ds.length ≤ c3 := HLQ.out.l3
              have hMl : M ≤ ds.length := by have := HM.eq; omega
              have hM2 : M ≤ 21 := by have := HM.eq; omega
              have m2 : (M : Int) ≤ (c3 : Int) := by omega
              have m3 : (0 : Int) ≤ (M : Int) := by omega
              have f1 : sliced a3 0 M c3 1 = .slice a3 M c3 := by rw [sliced_sub, subA_zero]; rfl
              have hA3 : RowAt wd a3 (icells (ds.take M)) := by rw [icells_take]; exact (HLQ.out.r3.below HRD.out.b).take _
              obtain ⟨ad3, cp3, w3, hr, hc1, hc2, _, hB3, hX3, hF3⟩ := app_fullF (P := Try.prog) (w := wd) (t := 24) Try.underlying24 infoI (ad := none) (n := 0) (xs := []) (.inl rfl) (by simp) (ad2 := a3) (m := M) (c2 := c3) (ys := icells (ds.take M)) hA3 (by rw [icells_length, List.length_take]; omega) (icells_one _) (by omega) (by omega)
              have HF3 := (show Hid (RowFrom w3 wd.heap.size ad3 (icells (ds.take M))) from by have := hF3 rfl; rwa [List.nil_append] at this)
              rw [Nat.zero_add] at hr hc1
              have HR3 := (show Hid (FewR w lf (.slice a1 cs.length c1) (.slice a2 ks.length c2) (.slice a3 ds.length c3) CS ((ks.take 20).map cutB) V1 (.slice ad2 L2 cp2) (.slice none 0 0) w3) from HRD.out.keep hB3)
              have hz3 : wd.heap.size ≤ w3.heap.size := hB3.size
              clear hA3 hX3 hF3 hB3
              refine AnyL.take 0 (some 66) (v := (.pointer (some ⟨w.heap.size + 2, 3, none⟩))) rfl rfl (by kernel_rfl) (by kernel_rfl) (by kernel_rfl) (by kernel_rfl) (by kernel_rfl) (fun _ _ _ h => h) (Or.inl ⟨by rfl, fun w hS => ?_⟩) HSD.out ?_
              · (go_simp)
              simp only [Act.put, List.setIfInBounds_toArray, List.set_cons_zero, List.set_cons_succ]
              refine AnyL.take 1 (some 67) (v := (.slice none 0 0)) rfl rfl (by kernel_rfl) (by kernel_rfl) (by kernel_rfl) (by kernel_rfl) (by kernel_rfl) (fun _ _ _ h => h) (Or.inl ⟨by rfl, fun w hS => ?_⟩) HSD.out ?_
              · (have q := hS.2.at 3 _ rfl; go_simp)
              simp only [Act.put, List.setIfInBounds_toArray, List.set_cons_zero, List.set_cons_succ]
              refine AnyL.take 2 (some 68) (v := (.pointer (some ⟨w.heap.size, 3, none⟩))) rfl rfl (by kernel_rfl) (by kernel_rfl) (by kernel_rfl) (by kernel_rfl) (by kernel_rfl) (fun _ _ _ h => h) (Or.inl ⟨by rfl, fun w hS => ?_⟩) HSD.out ?_
              · (go_simp)
              simp only [Act.put, List.setIfInBounds_toArray, List.set_cons_zero, List.set_cons_succ]
              refine AnyL.take 3 (some 69) (v := (.slice a3 ds.length c3)) rfl rfl (by kernel_rfl) (by kernel_rfl) (by kernel_rfl) (by kernel_rfl) (by kernel_rfl) (fun _ _ _ h => h) (Or.inl ⟨by rfl, fun w hS => ?_⟩) HSD.out ?_
              · (have q := hS.1.at 3 _ rfl; go_simp)
              simp only [Act.put, List.setIfInBounds_toArray, List.set_cons_zero, List.set_cons_succ]
              refine AnyL.take 4 (some 70) (v := (.pointer (some ⟨w.heap.size, 3, none⟩))) rfl rfl (by kernel_rfl) (by kernel_rfl) (by kernel_rfl) (by kernel_rfl) (by kernel_rfl) (fun _ _ _ h => h) (Or.inl ⟨by rfl, fun w hS => ?_⟩) HSD.out ?_
              · (go_simp)
              simp only [Act.put, List.setIfInBounds_toArray, List.set_cons_zero, List.set_cons_succ]
              refine AnyL.take 5 (some 71) (v := (.slice a3 ds.length c3)) rfl rfl (by kernel_rfl) (by kernel_rfl) (by kernel_rfl) (by kernel_rfl) (by kernel_rfl) (fun _ _ _ h => h) (Or.inl ⟨by rfl, fun w hS => ?_⟩) HSD.out ?_
              · (have q := hS.1.at 3 _ rfl; go_simp)
              simp only [Act.put, List.setIfInBounds_toArray, List.set_cons_zero, List.set_cons_succ]
              refine AnyL.take 6 (some 72) (v := (.int .i64 (ds.length : Int))) rfl rfl (by kernel_rfl) (by kernel_rfl) (by kernel_rfl) (by kernel_rfl) (by kernel_rfl) (fun _ _ _ h => h) (Or.inl ⟨by rfl, fun w hS => ?_⟩) HSD.out ?_
              · (go_simp)
              simp only [Act.put, List.setIfInBounds_toArray, List.set_cons_zero, List.set_cons_succ]
              refine AnyL.take 7 (some 73) (v := (.int .i64 (M : Int))) rfl rfl (by kernel_rfl) (by kernel_rfl) (by kernel_rfl) (by kernel_rfl) (by kernel_rfl) (fun _ _ _ h => h) (Or.inl ⟨by rfl, fun w hS => ?_⟩) HSD.out ?_
              · (go_simp)
              simp only [Act.put, List.setIfInBounds_toArray, List.set_cons_zero, List.set_cons_succ]
              refine AnyL.take 8 (some 74) (v := (.slice a3 M c3)) rfl rfl (by kernel_rfl) (by kernel_rfl) (by kernel_rfl) (by kernel_rfl) (by kernel_rfl) (fun _ _ _ h => h) (Or.inl ⟨by rfl, fun w hS => ?_⟩) HSD.out ?_
              · (go_simp)
              simp only [Act.put, List.setIfInBounds_toArray, List.set_cons_zero, List.set_cons_succ]
              refine AnyL.one 9 (by kernel_rfl) rfl (by rfl) (fun KK hK => ?_)
              refine step_run_append (some 75) rfl (.tmp 67) (.tmp 74) 24 rfl _ _ _ _ rfl rfl hr ?_
              have HS3 : Hid ((fun W : World => Brow W w.heap.size [.bool lf, .slice a1 cs.length c1, .slice a2 ks.length c2, .slice a3 ds.length c3] 26 ∧ Brow W (w.heap.size + 2) [.bool lf, V1, .slice ad2 L2 cp2, .slice none 0 0] 26) w3) := ⟨HR3.out.n, HR3.out.o⟩
              refine hK.out _ _ (fun _ => HS3.out) ?_
              clear hK KK
              try simp only [Act.put, List.setIfInBounds_toArray, List.set_cons_zero, List.set_cons_succ]
              refine AnyL.take 10 (some 76) (v := (.pointer (some ⟨w.heap.size + 2, 3, none⟩))) rfl rfl (by kernel_rfl) (by kernel_rfl) (by kernel_rfl) (by kernel_rfl) (by kernel_rfl) (fun _ _ _ h => h) (Or.inl ⟨by rfl, fun w hS => ?_⟩) HS3.out ?_
              · (go_simp)
              simp only [Act.put, List.setIfInBounds_toArray, List.set_cons_zero, List.set_cons_succ]
              have y3 := HR3.out.o.at 3 _ rfl
              have yz := HR3.out.o.fz 3
              refine AnyL.one 11 (by kernel_rfl) rfl (by rfl) (fun KK hK => ?_)
              go_simp
              refine hK.out _ _ (fun h => absurd h (by decide)) ?_
              clear hK KK
              try simp only [Act.put, List.setIfInBounds_toArray, List.set_cons_zero, List.set_cons_succ]
              refine AnyL.done (by kernel_rfl) ?_
              have HO4 := (show Hid (Brow (w3.setCell ⟨w.heap.size + 2, 3, none⟩ (.slice ad3 M cp3)) (w.heap.size + 2) [.bool lf, V1, .slice ad2 L2 cp2, .slice ad3 M cp3] 26) from HR3.out.o.set 3 _)
              have HZ4 := (show Hid (Brow (w3.setCell ⟨w.heap.size + 2, 3, none⟩ (.slice ad3 M cp3)) (w.heap.size + 1) [.bool false, .slice none 0 0, .slice none 0 0, .slice none 0 0] 26) from HR3.out.z.far (by show w.heap.size + 2 ≠ w.heap.size + 1; omega))
              obtain ⟨ad1', cp1', hV1, hle1, hcm1, hr1⟩ := own_rowFrom HR3.out.r1
              obtain ⟨ad2', cp2', hV2, hle2, hcm2, hr2⟩ := own_rowFrom HR3.out.r2
              have hV2' := hV2
              injection hV2' with e1 e2 e3
              subst e1 e2 e3
              have HLF := (show Hid (LiesF (w3.setCell ⟨w.heap.size + 2, 3, none⟩ (.slice ad3 M cp3)) (w.heap.size + 3) ⟨lf, CS, (ks.take 20).map cutB, ds.take M⟩ ⟨ad1', cp1', ad2, cp2, ad3, cp3⟩) from ⟨hr1.set (by omega) _ _, hr2.set (by omega) _ _, (HF3.out.mono hzD).set (by omega) _ _, hle1, hle2, by rw [List.length_take]; exact Nat.le_trans (Nat.min_le_left _ _) hc1, hcm1, hcm2, hc2⟩)
              have HB4 := (show Hid (Below w.heap.size w (w3.setCell ⟨w.heap.size + 2, 3, none⟩ (.slice ad3 M cp3))) from HR3.out.b.setCell (by show w.heap.size ≤ w.heap.size + 2; omega) _)
              have HML : Is (ds.take M).length M := ⟨by rw [List.length_take]; omega⟩
              have HMT : Is (ds.take M) (ds.take 21) := ⟨by
                rw [HM.eq]
                by_cases h : ds.length ≤ 21
                · rw [Nat.min_eq_left h, List.take_of_length_le (Nat.le_refl _), List.take_of_length_le h]
                · rw [Nat.min_eq_right (by omega)]⟩
              clear hV2 hr1 hr2 HF3 hr y3 yz HR3 HRD HSD HS3 m1 m2 m3 f1
              subst hV1
              generalize (w3.setCell ⟨w.heap.size + 2, 3, none⟩ (.slice ad3 M cp3)) = w4 at *
              have HFR := (show Hid (Brow (setN w4 (w.heap.size + 1) (.bool lf) (.slice ad1' CS.length cp1') (.slice ad2 ((ks.take 20).map cutB).length cp2) (.slice ad3 M cp3)) (w.heap.size + 1) [.bool lf, .slice ad1' CS.length cp1', .slice ad2 ((ks.take 20).map cutB).length cp2, .slice ad3 M cp3] 26) from setN_row HZ4.out _ _ _ _)
              have HFL := (show Hid (LiesF (setN w4 (w.heap.size + 1) (.bool lf) (.slice ad1' CS.length cp1') (.slice ad2 ((ks.take 20).map cutB).length cp2) (.slice ad3 M cp3)) w.heap.size ⟨lf, CS, (ks.take 20).map cutB, ds.take M⟩ ⟨ad1', cp1', ad2, cp2, ad3, cp3⟩) from (setN_lies HLF.out (by omega) _ _ _ _).mono (by omega))
              have HFB := (show Hid (Below w.heap.size w (setN w4 (w.heap.size + 1) (.bool lf) (.slice ad1' CS.length cp1') (.slice ad2 ((ks.take 20).map cutB).length cp2) (.slice ad3 M cp3))) from setN_below HB4.out (by omega) _ _ _ _)
              have x0 := HO4.out.at 0 _ rfl
              have x1 := HO4.out.at 1 _ rfl
              have x2 := HO4.out.at 2 _ rfl
              have x3 := HO4.out.at 3 _ rfl
              have y0 := HZ4.out.at 0 _ rfl
              have y1 := HZ4.out.at 1 _ rfl
              have y2 := HZ4.out.at 2 _ rfl
              have y3 := HZ4.out.at 3 _ rfl
              have z0 := HZ4.out.fz 0
              have z1 := HZ4.out.fz 1
              have z2 := HZ4.out.fz 2
              have z3 := HZ4.out.fz 3
              unfold setN at HFR HFL HFB
              generalize hgl : ((ks.take 20).map cutB).length = L3 at *
              have HL3 : Is ((ks.take 20).map cutB).length L3 := ⟨hgl⟩
              clear hgl
              go_wp2
              refine bodyPost_ret (res_c rfl _ _ (w.heap.size + 1) 26 _ _ rfl HFR.out Try.underlying26 rfl (by kernel_rfl)) rfl ?_
              refine ⟨⟨ad1', cp1', ad2, cp2, ad3, cp3⟩, ?_, ?_, HFB.out⟩
              · rw [HFN.eq]
                simp only
                rw [HL3.eq, ← HMT.eq, HML.eq, HCS.eq]
              · rw [HFN.eq, ← HMT.eq, ← HCS.eq]
                exact HFL.out
      · have HKE : Is ((cs.take k).map cutC) ((cs.take 20).map cutC) := ⟨by rw [List.take_of_length_le (by omega), List.take_of_length_le (by omega)]⟩
        have d1 : decide ((k : Int) < (cs.length : Int)) = false := decide_eq_false (by omega)
        clear hlt hl2
        obtain ⟨CS, HCS⟩ : ∃ CS, Is CS ((cs.take 20).map cutC) := ⟨_, ⟨rfl⟩⟩
        obtain ⟨V1, HV1⟩ : ∃ V1 : Value, Is V1 (Value.slice ad1 ((cs.take k).map cutC).length cp1) := ⟨_, ⟨rfl⟩⟩
        have HRS := (show Hid (FewR w lf (.slice a1 cs.length c1) (.slice a2 ks.length c2) (.slice a3 ds.length c3) CS [] V1 (.slice none 0 0) (.slice none 0 0) wr) from by
          have h5 := HR.out
          rw [← HV1.eq, HKE.eq, ← HCS.eq] at h5
          exact h5)
        clear HR HKE HV1 hlen1
        go_wp2_with fail
        all_goals first | (exfalso; first | (have hX := of_decide_eq_true d1; omega) | (have hX := of_decide_eq_false d1; omega)) | skip
        clear d1
        clear q0 q1 q2 q3
        go_loopw [7] (fun s7 wr => ∃ (j : Nat) (v2 : Value), j ≤ ks.length ∧ j ≤ 20 ∧ s7 = .int .i64 j ∧ w.heap.size + 3 ≤ wr.heap.size ∧ FewR w lf (.slice a1 cs.length c1) (.slice a2 ks.length c2) (.slice a3 ds.length c3) CS ((ks.take j).map cutB) V1 v2 (.slice none 0 0) wr) (fun s7 _ => 20 - (intOf s7).toNat)
        case atStart => exact ⟨0, .slice none 0 0, by omega, by omega, rfl, hsr, HRS.out⟩
        case round =>
          obtain ⟨j, v2, hj1, hj2, rfl, hsq, hR2⟩ := hrel
          obtain ⟨ad2, cp2, hv2, _, _, _⟩ := own_rowFrom hR2.r2
          have hlen2 : ((ks.take j).map cutB).length ≤ 20 := by rw [List.length_map, List.length_take]; omega
          subst hv2
          have HRq := (show Hid (FewR w lf (.slice a1 cs.length c1) (.slice a2 ks.length c2) (.slice a3 ds.length c3) CS ((ks.take j).map cutB) V1 (.slice ad2 ((ks.take j).map cutB).length cp2) (.slice none 0 0) wr) from hR2)
          clear hR2 HRS
          have q1 := HRq.out.n.at 1 _ rfl
          have q2 := HRq.out.n.at 2 _ rfl
          have q3 := HRq.out.n.at 3 _ rfl
          by_cases hlt : j < ks.length ∧ j < 20
          · obtain ⟨hlt1, hlt2⟩ := hlt
            have d3 : decide ((j : Int) < (ks.length : Int)) = true := decide_eq_true (by omega)
            have d4 : decide ((j : Int) < 20) = true := decide_eq_true (by omega)
            obtain ⟨bk, fk, ha2, hbk, hck⟩ := HL.out.r2.keyAt (Nat.lt_of_le_of_lt (Nat.zero_le _) hlt1)
            simp only at ha2
            subst ha2
            have HCX := (show Hid (w.cell? ⟨bk, fk + j, none⟩ = some (.string (ks.getD j ByteArray.empty))) from hck j hlt1)
            have hxs := HK.out _ (Sl.getD_mem ks j ByteArray.empty hlt1)
            have HTK : Is ((ks.take (j + 1)).map cutB) ((ks.take j).map cutB ++ [cutB (ks.getD j ByteArray.empty)]) := ⟨Sl.take_map cutB ks j ByteArray.empty hlt1⟩
            clear hck HL HC HK
            generalize ks.getD j ByteArray.empty = x at *
            have i1 : (j : Int) < (ks.length : Int) := by omega
            have j0 : (0 : Int) ≤ (j : Int) := by omega
            have HKC := fun W => fcut_any x W hxs
            go_upto_region 12 with fail
            clear q1 q2 q3
            have HRD := (show Hid (FewR w lf (.slice a1 cs.length c1) (.slice (some ⟨bk, fk, none⟩) ks.length c2) (.slice a3 ds.length c3) CS ((ks.take j).map cutB) V1 (.slice ad2 ((ks.take j).map cutB).length cp2) (.slice none 0 0) wr.drew) from HRq.out.keep (Below.refl _ _).drew)
            have hzD : w.heap.size + 3 ≤ wr.drew.heap.size := hsq
            refine AnyL.begin (S := (fun W : World => Brow W w.heap.size [.bool lf, .slice a1 cs.length c1, .slice (some ⟨bk, fk, none⟩) ks.length c2, .slice a3 ds.length c3] 26 ∧ Brow W (w.heap.size + 2) [.bool lf, V1, .slice ad2 ((ks.take j).map cutB).length cp2, .slice none 0 0] 26 ∧ W.cell? ⟨bk, fk + j, none⟩ = some (.string x))) (zs := [12]) (by kernel_rfl) ?_
            generalize wr.drew = wd at *
            clear HRq hsq
            obtain ⟨L2, HL2⟩ : ∃ L2, Is L2 ((ks.take j).map cutB).length := ⟨_, ⟨rfl⟩⟩
            rw [← HL2.eq] at HRD ⊢
            have HSD : Hid ((fun W : World => Brow W w.heap.size [.bool lf, .slice a1 cs.length c1, .slice (some ⟨bk, fk, none⟩) ks.length c2, .slice a3 ds.length c3] 26 ∧ Brow W (w.heap.size + 2) [.bool lf, V1, .slice ad2 L2 cp2, .slice none 0 0] 26 ∧ W.cell? ⟨bk, fk + j, none⟩ = some (.string x)) wd) := ⟨HRD.out.n, HRD.out.o, (HRD.out.b.cell (p := ⟨bk, fk + j, none⟩) hbk).trans HCX.out⟩
            refine AnyL.take 0 (some 54) (v := (.pointer (some ⟨w.heap.size + 2, 2, none⟩))) rfl rfl (by kernel_rfl) (by kernel_rfl) (by kernel_rfl) (by kernel_rfl) (by kernel_rfl) (fun _ _ _ h => h) (Or.inl ⟨by rfl, fun w hS => ?_⟩) HSD.out ?_
            · (go_simp)
            simp only [Act.put, List.setIfInBounds_toArray, List.set_cons_zero, List.set_cons_succ]
            refine AnyL.take 1 (some 55) (v := (.slice ad2 L2 cp2)) rfl rfl (by kernel_rfl) (by kernel_rfl) (by kernel_rfl) (by kernel_rfl) (by kernel_rfl) (fun _ _ _ h => h) (Or.inl ⟨by rfl, fun w hS => ?_⟩) HSD.out ?_
            · (have q := hS.2.1.at 2 _ rfl; go_simp)
            simp only [Act.put, List.setIfInBounds_toArray, List.set_cons_zero, List.set_cons_succ]
            refine AnyL.take 2 (some 56) (v := (.func (.func 27) #[] #[])) rfl rfl (by kernel_rfl) (by kernel_rfl) (by kernel_rfl) (by kernel_rfl) (by kernel_rfl) (fun _ _ _ h => h) (Or.inl ⟨by rfl, fun w hS => ?_⟩) HSD.out ?_
            · (go_simp)
            simp only [Act.put, List.setIfInBounds_toArray, List.set_cons_zero, List.set_cons_succ]
            refine AnyL.take 3 (some 57) (v := (.pointer (some ⟨w.heap.size, 2, none⟩))) rfl rfl (by kernel_rfl) (by kernel_rfl) (by kernel_rfl) (by kernel_rfl) (by kernel_rfl) (fun _ _ _ h => h) (Or.inl ⟨by rfl, fun w hS => ?_⟩) HSD.out ?_
            · (go_simp)
            simp only [Act.put, List.setIfInBounds_toArray, List.set_cons_zero, List.set_cons_succ]
            refine AnyL.take 4 (some 58) (v := (.slice (some ⟨bk, fk, none⟩) ks.length c2)) rfl rfl (by kernel_rfl) (by kernel_rfl) (by kernel_rfl) (by kernel_rfl) (by kernel_rfl) (fun _ _ _ h => h) (Or.inl ⟨by rfl, fun w hS => ?_⟩) HSD.out ?_
            · (have q := hS.1.at 2 _ rfl; go_simp)
            simp only [Act.put, List.setIfInBounds_toArray, List.set_cons_zero, List.set_cons_succ]
            refine AnyL.take 5 (some 59) (v := (.int .i64 (j : Int))) rfl rfl (by kernel_rfl) (by kernel_rfl) (by kernel_rfl) (by kernel_rfl) (by kernel_rfl) (fun _ _ _ h => h) (Or.inl ⟨by rfl, fun w hS => ?_⟩) HSD.out ?_
            · (go_simp)
            simp only [Act.put, List.setIfInBounds_toArray, List.set_cons_zero, List.set_cons_succ]
            refine AnyL.take 6 (some 60) (v := (.pointer (some ⟨bk, fk + j, none⟩))) rfl rfl (by kernel_rfl) (by kernel_rfl) (by kernel_rfl) (by kernel_rfl) (by kernel_rfl) (fun _ _ _ h => h) (Or.inl ⟨by rfl, fun w hS => ?_⟩) HSD.out ?_
            · (go_simp)
            simp only [Act.put, List.setIfInBounds_toArray, List.set_cons_zero, List.set_cons_succ]
            refine AnyL.take 7 (some 61) (v := (.string x)) rfl rfl (by kernel_rfl) (by kernel_rfl) (by kernel_rfl) (by kernel_rfl) (by kernel_rfl) (fun _ _ _ h => h) (Or.inl ⟨by rfl, fun w hS => ?_⟩) HSD.out ?_
            · (have q := hS.2.2; go_simp)
            simp only [Act.put, List.setIfInBounds_toArray, List.set_cons_zero, List.set_cons_succ]
            refine AnyL.one 8 (by kernel_rfl) rfl (by rfl) (fun KK hK => ?_)
            go_simp
            go_at_call 27
            refine (HKC _).mono ?_
            rintro e wS ⟨rfl, hwS⟩
            rw [hwS]
            clear hwS wS HKC
            refine hK.out _ _ (fun _ => HSD.out) ?_
            clear hK KK
            try simp only [Act.put, List.setIfInBounds_toArray, List.set_cons_zero, List.set_cons_succ]
            have HSA : Hid ((fun W : World => Brow W w.heap.size [.bool lf, .slice a1 cs.length c1, .slice (some ⟨bk, fk, none⟩) ks.length c2, .slice a3 ds.length c3] 26 ∧ Brow W (w.heap.size + 2) [.bool lf, V1, .slice ad2 L2 cp2, .slice none 0 0] 26 ∧ W.cell? ⟨bk, fk + j, none⟩ = some (.string x)) (wd.alloc (.cells #[.string (cutB x)] 9))) := ⟨HRD.out.n.alloc _, HRD.out.o.alloc _, ((HRD.out.keep (below_alloc _ _)).b.cell (p := ⟨bk, fk + j, none⟩) hbk).trans HCX.out⟩
            refine AnyL.one 9 (by kernel_rfl) rfl (by rfl) (fun KK hK => ?_)
            go_simp
            refine hK.out _ _ (fun _ => HSA.out) ?_
            clear hK KK
            try simp only [Act.put, List.setIfInBounds_toArray, List.set_cons_zero, List.set_cons_succ]
            obtain ⟨v', w', hr, hO', hG'⟩ := app_key (wd.alloc (.cells #[.string (cutB x)] 9)) (w.heap.size + 3) _ ((ks.take j).map cutB) (cutB x) wd.heap.size (own_below HRD.out.r2 (below_alloc _ _)) (by omega) (by rw [size_alloc1]; omega) (Brow.new wd _ 9)
            have HRN := (show Hid (FewR w lf (.slice a1 cs.length c1) (.slice (some ⟨bk, fk, none⟩) ks.length c2) (.slice a3 ds.length c3) CS ((ks.take j).map cutB ++ [cutB x]) V1 v' (.slice none 0 0) (w'.setCell ⟨w.heap.size + 2, 2, none⟩ v')) from (HRD.out.keep (below_alloc wd (.cells #[.string (cutB x)] 9))).key hO' hG' (by rw [size_alloc1]; omega))
            have HON := (show Hid (Brow w' (w.heap.size + 2) [.bool lf, V1, .slice ad2 L2 cp2, .slice none 0 0] 26) from (HRD.out.o.alloc _).grew hG' (own_far (own_below HRD.out.r2 (below_alloc wd (.cells #[.string (cutB x)] 9))) (by omega)))
            have HNN := (show Hid (Brow w' w.heap.size [.bool lf, .slice a1 cs.length c1, .slice (some ⟨bk, fk, none⟩) ks.length c2, .slice a3 ds.length c3] 26) from (HRD.out.n.alloc _).grew hG' (own_far (own_below HRD.out.r2 (below_alloc wd (.cells #[.string (cutB x)] 9))) (by omega)))
            have hz' : w.heap.size + 3 ≤ w'.heap.size := by have := hG'.by_.size; rw [size_alloc1] at this; omega
            have HBW := (show Hid (Below w.heap.size w w') from (HRD.out.keep (below_alloc wd (.cells #[.string (cutB x)] 9))).b.trans ((hG'.below (own_below HRD.out.r2 (below_alloc _ _)) (by rw [size_alloc1]; omega)).mono (by omega)))
            obtain ⟨ad3, cp3, hv3, _, _, _⟩ := own_rowFrom hO'
            subst hv3
            rw [← HTK.eq] at HRN hr
            have HREL := (show Hid (∃ (j' : Nat) (v2 : Value), j' ≤ ks.length ∧ j' ≤ 20 ∧ Value.int .i64 ((j : Int) + 1) = .int .i64 j' ∧ w.heap.size + 3 ≤ (w'.setCell ⟨w.heap.size + 2, 2, none⟩ (.slice ad3 ((ks.take (j + 1)).map cutB).length cp3)).heap.size ∧ FewR w lf (.slice a1 cs.length c1) (.slice (some ⟨bk, fk, none⟩) ks.length c2) (.slice a3 ds.length c3) CS ((ks.take j').map cutB) V1 v2 (.slice none 0 0) (w'.setCell ⟨w.heap.size + 2, 2, none⟩ (.slice ad3 ((ks.take (j + 1)).map cutB).length cp3))) from ⟨j + 1, _, by omega, by omega, by go_num, by rw [size_setCell]; exact hz', HRN.out⟩)
            clear hO' hG' HRN
            generalize ((ks.take (j + 1)).map cutB).length = L3 at *
            have HSN : Hid ((fun W : World => Brow W w.heap.size [.bool lf, .slice a1 cs.length c1, .slice (some ⟨bk, fk, none⟩) ks.length c2, .slice a3 ds.length c3] 26 ∧ Brow W (w.heap.size + 2) [.bool lf, V1, .slice ad2 L2 cp2, .slice none 0 0] 26 ∧ W.cell? ⟨bk, fk + j, none⟩ = some (.string x)) w') := ⟨HNN.out, HON.out, (HBW.out.cell (p := ⟨bk, fk + j, none⟩) hbk).trans HCX.out⟩
            refine AnyL.one 10 (by kernel_rfl) rfl (by rfl) (fun KK hK => ?_)
            refine step_run_append (some 64) rfl (.tmp 55) (.tmp 63) 23 rfl _ _ _ _ rfl rfl hr ?_
            refine hK.out _ _ (fun _ => HSN.out) ?_
            clear hK KK hr
            try simp only [Act.put, List.setIfInBounds_toArray, List.set_cons_zero, List.set_cons_succ]
            refine AnyL.take 11 (some 65) (v := (.pointer (some ⟨w.heap.size + 2, 2, none⟩))) rfl rfl (by kernel_rfl) (by kernel_rfl) (by kernel_rfl) (by kernel_rfl) (by kernel_rfl) (fun _ _ _ h => h) (Or.inl ⟨by rfl, fun w hS => ?_⟩) HSN.out ?_
            · (go_simp)
            simp only [Act.put, List.setIfInBounds_toArray, List.set_cons_zero, List.set_cons_succ]
            have p1 := HON.out.at 2 _ rfl
            have pz := HON.out.fz 2
            refine AnyL.one 12 (by kernel_rfl) rfl (by rfl) (fun KK hK => ?_)
            go_simp
            refine hK.out _ _ (fun h => absurd h (by decide)) ?_
            clear hK KK
            try simp only [Act.put, List.setIfInBounds_toArray, List.set_cons_zero, List.set_cons_succ]
            refine AnyL.done (by kernel_rfl) ?_
            clear p1 pz HSN HON HNN HBW HSA HSD HRD HCX HTK HL2
            generalize (w'.setCell ⟨w.heap.size + 2, 2, none⟩ (.slice ad3 L3 cp3)) = w5 at *
            go_wp2_with fail
            go_roundw
            case rel => first | exact HREL.out | ((repeat apply Exists.intro); exact ⟨HREL.out, rfl⟩)
            case measure => (simp [intOf]) <;> omega
          · by_cases hl4 : j < ks.length
            · have HJ : Is ((ks.take j).map cutB) ((ks.take 20).map cutB) := ⟨by rw [show j = 20 by omega]⟩
              have d3 : decide ((j : Int) < (ks.length : Int)) = true := decide_eq_true (by omega)
              have d4 : decide ((j : Int) < 20) = false := decide_eq_false (by omega)
              clear hlt hl4
              have HRE := (show Hid (FewR w lf (.slice a1 cs.length c1) (.slice a2 ks.length c2) (.slice a3 ds.length c3) CS ((ks.take 20).map cutB) V1 (.slice ad2 ((ks.take 20).map cutB).length cp2) (.slice none 0 0) wr) from by
                have h5 := HRq.out
                rw [HJ.eq] at h5
                exact h5)
              have HLQ := (show Hid (Lies w ⟨lf, cs, ks, ds⟩ ⟨a1, c1, a2, c2, a3, c3⟩) from HL.out)
              have q0 := HRE.out.n.at 0 _ rfl
              go_upto_region 13 with fail
              all_goals first | (exfalso; first | (have hX := of_decide_eq_true d3; omega) | (have hX := of_decide_eq_false d3; omega)) | skip
              clear d3
              clear q0 q1 q2 q3
              have HRD := (show Hid (FewR w lf (.slice a1 cs.length c1) (.slice a2 ks.length c2) (.slice a3 ds.length c3) CS ((ks.take 20).map cutB) V1 (.slice ad2 ((ks.take 20).map cutB).length cp2) (.slice none 0 0) wr.drew) from HRE.out.keep (Below.refl _ _).drew)
              have hzD : w.heap.size + 3 ≤ wr.drew.heap.size := hsq
              refine AnyL.begin (S := (fun W : World => Brow W w.heap.size [.bool lf, .slice a1 cs.length c1, .slice a2 ks.length c2, .slice a3 ds.length c3] 26 ∧ Brow W (w.heap.size + 2) [.bool lf, V1, .slice ad2 ((ks.take j).map cutB).length cp2, .slice none 0 0] 26)) (zs := [11]) (by kernel_rfl) ?_
              generalize wr.drew = wd at *
              clear HRE HRq hsq
              rw [HJ.eq]
              obtain ⟨L2, HL2⟩ : ∃ L2, Is L2 ((ks.take 20).map cutB).length := ⟨_, ⟨rfl⟩⟩
              rw [← HL2.eq] at HRD ⊢
              have HSD : Hid ((fun W : World => Brow W w.heap.size [.bool lf, .slice a1 cs.length c1, .slice a2 ks.length c2, .slice a3 ds.length c3] 26 ∧ Brow W (w.heap.size + 2) [.bool lf, V1, .slice ad2 L2 cp2, .slice none 0 0] 26) wd) := ⟨HRD.out.n, HRD.out.o⟩
              obtain ⟨M, HM⟩ : ∃ M, Is M (min ds.length 21) := ⟨_, ⟨rfl⟩⟩
              have m1 : min (ds.length : Int) 21 = (M : Int) := by have := HM.eq; omega
              have hl3 : ds.length ≤ c3 := HLQ.out.l3
              have hMl : M ≤ ds.length := by have := HM.eq; omega
              have hM2 : M ≤ 21 := by have := HM.eq; omega
              have m2 : (M : Int) ≤ (c3 : Int) := by omega
              have m3 : (0 : Int) ≤ (M : Int) := by omega
              have f1 : sliced a3 0 M c3 1 = .slice a3 M c3 := by rw [sliced_sub, subA_zero]; rfl
              have hA3 : RowAt wd a3 (icells (ds.take M)) := by rw [icells_take]; exact (HLQ.out.r3.below HRD.out.b).take _
              obtain ⟨ad3, cp3, w3, hr, hc1, hc2, _, hB3, hX3, hF3⟩ := app_fullF (P := Try.prog) (w := wd) (t := 24) Try.underlying24 infoI (ad := none) (n := 0) (xs := []) (.inl rfl) (by simp) (ad2 := a3) (m := M) (c2 := c3) (ys := icells (ds.take M)) hA3 (by rw [icells_length, List.length_take]; omega) (icells_one _) (by omega) (by omega)
              have HF3 := (show Hid (RowFrom w3 wd.heap.size ad3 (icells (ds.take M))) from by have := hF3 rfl; rwa [List.nil_append] at this)
              rw [Nat.zero_add] at hr hc1
              have HR3 := (show Hid (FewR w lf (.slice a1 cs.length c1) (.slice a2 ks.length c2) (.slice a3 ds.length c3) CS ((ks.take 20).map cutB) V1 (.slice ad2 L2 cp2) (.slice none 0 0) w3) from HRD.out.keep hB3)
              have hz3 : wd.heap.size ≤ w3.heap.size := hB3.size
              clear hA3 hX3 hF3 hB3
              refine AnyL.take 0 (some 66) (v := (.pointer (some ⟨w.heap.size + 2, 3, none⟩))) rfl rfl (by kernel_rfl) (by kernel_rfl) (by kernel_rfl) (by kernel_rfl) (by kernel_rfl) (fun _ _ _ h => h) (Or.inl ⟨by rfl, fun w hS => ?_⟩) HSD.out ?_
              · (go_simp)
              simp only [Act.put, List.setIfInBounds_toArray, List.set_cons_zero, List.set_cons_succ]
              refine AnyL.take 1 (some 67) (v := (.slice none 0 0)) rfl rfl (by kernel_rfl) (by kernel_rfl) (by kernel_rfl) (by kernel_rfl) (by kernel_rfl) (fun _ _ _ h => h) (Or.inl ⟨by rfl, fun w hS => ?_⟩) HSD.out ?_
              · (have q := hS.2.at 3 _ rfl; go_simp)
              simp only [Act.put, List.setIfInBounds_toArray, List.set_cons_zero, List.set_cons_succ]
              refine AnyL.take 2 (some 68) (v := (.pointer (some ⟨w.heap.size, 3, none⟩))) rfl rfl (by kernel_rfl) (by kernel_rfl) (by kernel_rfl) (by kernel_rfl) (by kernel_rfl) (fun _ _ _ h => h) (Or.inl ⟨by rfl, fun w hS => ?_⟩) HSD.out ?_
              · (go_simp)
              simp only [Act.put, List.setIfInBounds_toArray, List.set_cons_zero, List.set_cons_succ]
              refine AnyL.take 3 (some 69) (v := (.slice a3 ds.length c3)) rfl rfl (by kernel_rfl) (by kernel_rfl) (by kernel_rfl) (by kernel_rfl) (by kernel_rfl) (fun _ _ _ h => h) (Or.inl ⟨by rfl, fun w hS => ?_⟩) HSD.out ?_
              · (have q := hS.1.at 3 _ rfl; go_simp)
              simp only [Act.put, List.setIfInBounds_toArray, List.set_cons_zero, List.set_cons_succ]
              refine AnyL.take 4 (some 70) (v := (.pointer (some ⟨w.heap.size, 3, none⟩))) rfl rfl (by kernel_rfl) (by kernel_rfl) (by kernel_rfl) (by kernel_rfl) (by kernel_rfl) (fun _ _ _ h => h) (Or.inl ⟨by rfl, fun w hS => ?_⟩) HSD.out ?_
              · (go_simp)
              simp only [Act.put, List.setIfInBounds_toArray, List.set_cons_zero, List.set_cons_succ]
              refine AnyL.take 5 (some 71) (v := (.slice a3 ds.length c3)) rfl rfl (by kernel_rfl) (by kernel_rfl) (by kernel_rfl) (by kernel_rfl) (by kernel_rfl) (fun _ _ _ h => h) (Or.inl ⟨by rfl, fun w hS => ?_⟩) HSD.out ?_
              · (have q := hS.1.at 3 _ rfl; go_simp)
              simp only [Act.put, List.setIfInBounds_toArray, List.set_cons_zero, List.set_cons_succ]
              refine AnyL.take 6 (some 72) (v := (.int .i64 (ds.length : Int))) rfl rfl (by kernel_rfl) (by kernel_rfl) (by kernel_rfl) (by kernel_rfl) (by kernel_rfl) (fun _ _ _ h => h) (Or.inl ⟨by rfl, fun w hS => ?_⟩) HSD.out ?_
              · (go_simp)
              simp only [Act.put, List.setIfInBounds_toArray, List.set_cons_zero, List.set_cons_succ]
              refine AnyL.take 7 (some 73) (v := (.int .i64 (M : Int))) rfl rfl (by kernel_rfl) (by kernel_rfl) (by kernel_rfl) (by kernel_rfl) (by kernel_rfl) (fun _ _ _ h => h) (Or.inl ⟨by rfl, fun w hS => ?_⟩) HSD.out ?_
              · (go_simp)
              simp only [Act.put, List.setIfInBounds_toArray, List.set_cons_zero, List.set_cons_succ]
              refine AnyL.take 8 (some 74) (v := (.slice a3 M c3)) rfl rfl (by kernel_rfl) (by kernel_rfl) (by kernel_rfl) (by kernel_rfl) (by kernel_rfl) (fun _ _ _ h => h) (Or.inl ⟨by rfl, fun w hS => ?_⟩) HSD.out ?_
              · (go_simp)
              simp only [Act.put, List.setIfInBounds_toArray, List.set_cons_zero, List.set_cons_succ]
              refine AnyL.one 9 (by kernel_rfl) rfl (by rfl) (fun KK hK => ?_)
              refine step_run_append (some 75) rfl (.tmp 67) (.tmp 74) 24 rfl _ _ _ _ rfl rfl hr ?_
              have HS3 : Hid ((fun W : World => Brow W w.heap.size [.bool lf, .slice a1 cs.length c1, .slice a2 ks.length c2, .slice a3 ds.length c3] 26 ∧ Brow W (w.heap.size + 2) [.bool lf, V1, .slice ad2 L2 cp2, .slice none 0 0] 26) w3) := ⟨HR3.out.n, HR3.out.o⟩
              refine hK.out _ _ (fun _ => HS3.out) ?_
              clear hK KK
              try simp only [Act.put, List.setIfInBounds_toArray, List.set_cons_zero, List.set_cons_succ]
              refine AnyL.take 10 (some 76) (v := (.pointer (some ⟨w.heap.size + 2, 3, none⟩))) rfl rfl (by kernel_rfl) (by kernel_rfl) (by kernel_rfl) (by kernel_rfl) (by kernel_rfl) (fun _ _ _ h => h) (Or.inl ⟨by rfl, fun w hS => ?_⟩) HS3.out ?_
              · (go_simp)
              simp only [Act.put, List.setIfInBounds_toArray, List.set_cons_zero, List.set_cons_succ]
              have y3 := HR3.out.o.at 3 _ rfl
              have yz := HR3.out.o.fz 3
              refine AnyL.one 11 (by kernel_rfl) rfl (by rfl) (fun KK hK => ?_)
              go_simp
              refine hK.out _ _ (fun h => absurd h (by decide)) ?_
              clear hK KK
              try simp only [Act.put, List.setIfInBounds_toArray, List.set_cons_zero, List.set_cons_succ]
              refine AnyL.done (by kernel_rfl) ?_
              have HO4 := (show Hid (Brow (w3.setCell ⟨w.heap.size + 2, 3, none⟩ (.slice ad3 M cp3)) (w.heap.size + 2) [.bool lf, V1, .slice ad2 L2 cp2, .slice ad3 M cp3] 26) from HR3.out.o.set 3 _)
              have HZ4 := (show Hid (Brow (w3.setCell ⟨w.heap.size + 2, 3, none⟩ (.slice ad3 M cp3)) (w.heap.size + 1) [.bool false, .slice none 0 0, .slice none 0 0, .slice none 0 0] 26) from HR3.out.z.far (by show w.heap.size + 2 ≠ w.heap.size + 1; omega))
              obtain ⟨ad1', cp1', hV1, hle1, hcm1, hr1⟩ := own_rowFrom HR3.out.r1
              obtain ⟨ad2', cp2', hV2, hle2, hcm2, hr2⟩ := own_rowFrom HR3.out.r2
              have hV2' := hV2
              injection hV2' with e1 e2 e3
              subst e1 e2 e3
              have HLF := (show Hid (LiesF (w3.setCell ⟨w.heap.size + 2, 3, none⟩ (.slice ad3 M cp3)) (w.heap.size + 3) ⟨lf, CS, (ks.take 20).map cutB, ds.take M⟩ ⟨ad1', cp1', ad2, cp2, ad3, cp3⟩) from ⟨hr1.set (by omega) _ _, hr2.set (by omega) _ _, (HF3.out.mono hzD).set (by omega) _ _, hle1, hle2, by rw [List.length_take]; exact Nat.le_trans (Nat.min_le_left _ _) hc1, hcm1, hcm2, hc2⟩)
              have HB4 := (show Hid (Below w.heap.size w (w3.setCell ⟨w.heap.size + 2, 3, none⟩ (.slice ad3 M cp3))) from HR3.out.b.setCell (by show w.heap.size ≤ w.heap.size + 2; omega) _)
              have HML : Is (ds.take M).length M := ⟨by rw [List.length_take]; omega⟩
              have HMT : Is (ds.take M) (ds.take 21) := ⟨by
                rw [HM.eq]
                by_cases h : ds.length ≤ 21
                · rw [Nat.min_eq_left h, List.take_of_length_le (Nat.le_refl _), List.take_of_length_le h]
                · rw [Nat.min_eq_right (by omega)]⟩
              clear hV2 hr1 hr2 HF3 hr y3 yz HR3 HRD HSD HS3 m1 m2 m3 f1
              subst hV1
              generalize (w3.setCell ⟨w.heap.size + 2, 3, none⟩ (.slice ad3 M cp3)) = w4 at *
              have HFR := (show Hid (Brow (setN w4 (w.heap.size + 1) (.bool lf) (.slice ad1' CS.length cp1') (.slice ad2 ((ks.take 20).map cutB).length cp2) (.slice ad3 M cp3)) (w.heap.size + 1) [.bool lf, .slice ad1' CS.length cp1', .slice ad2 ((ks.take 20).map cutB).length cp2, .slice ad3 M cp3] 26) from setN_row HZ4.out _ _ _ _)
              have HFL := (show Hid (LiesF (setN w4 (w.heap.size + 1) (.bool lf) (.slice ad1' CS.length cp1') (.slice ad2 ((ks.take 20).map cutB).length cp2) (.slice ad3 M cp3)) w.heap.size ⟨lf, CS, (ks.take 20).map cutB, ds.take M⟩ ⟨ad1', cp1', ad2, cp2, ad3, cp3⟩) from (setN_lies HLF.out (by omega) _ _ _ _).mono (by omega))
              have HFB := (show Hid (Below w.heap.size w (setN w4 (w.heap.size + 1) (.bool lf) (.slice ad1' CS.length cp1') (.slice ad2 ((ks.take 20).map cutB).length cp2) (.slice ad3 M cp3))) from setN_below HB4.out (by omega) _ _ _ _)
              have x0 := HO4.out.at 0 _ rfl
              have x1 := HO4.out.at 1 _ rfl
              have x2 := HO4.out.at 2 _ rfl
              have x3 := HO4.out.at 3 _ rfl
              have y0 := HZ4.out.at 0 _ rfl
              have y1 := HZ4.out.at 1 _ rfl
              have y2 := HZ4.out.at 2 _ rfl
              have y3 := HZ4.out.at 3 _ rfl
              have z0 := HZ4.out.fz 0
              have z1 := HZ4.out.fz 1
              have z2 := HZ4.out.fz 2
              have z3 := HZ4.out.fz 3
              unfold setN at HFR HFL HFB
              generalize hgl : ((ks.take 20).map cutB).length = L3 at *
              have HL3 : Is ((ks.take 20).map cutB).length L3 := ⟨hgl⟩
              clear hgl
              go_wp2
              refine bodyPost_ret (res_c rfl _ _ (w.heap.size + 1) 26 _ _ rfl HFR.out Try.underlying26 rfl (by kernel_rfl)) rfl ?_
              refine ⟨⟨ad1', cp1', ad2, cp2, ad3, cp3⟩, ?_, ?_, HFB.out⟩
              · rw [HFN.eq]
                simp only
                rw [HL3.eq, ← HMT.eq, HML.eq, HCS.eq]
              · rw [HFN.eq, ← HMT.eq, ← HCS.eq]
                exact HFL.out
            · have HJ : Is ((ks.take j).map cutB) ((ks.take 20).map cutB) := ⟨by rw [List.take_of_length_le (by omega), List.take_of_length_le (by omega)]⟩
              have d3 : decide ((j : Int) < (ks.length : Int)) = false := decide_eq_false (by omega)
              clear hlt hl4
              have HRE := (show Hid (FewR w lf (.slice a1 cs.length c1) (.slice a2 ks.length c2) (.slice a3 ds.length c3) CS ((ks.take 20).map cutB) V1 (.slice ad2 ((ks.take 20).map cutB).length cp2) (.slice none 0 0) wr) from by
                have h5 := HRq.out
                rw [HJ.eq] at h5
                exact h5)
              have HLQ := (show Hid (Lies w ⟨lf, cs, ks, ds⟩ ⟨a1, c1, a2, c2, a3, c3⟩) from HL.out)
              have q0 := HRE.out.n.at 0 _ rfl
              go_upto_region 13 with fail
              all_goals first | (exfalso; first | (have hX := of_decide_eq_true d3; omega) | (have hX := of_decide_eq_false d3; omega)) | skip
              clear d3
              clear q0 q1 q2 q3
              have HRD := (show Hid (FewR w lf (.slice a1 cs.length c1) (.slice a2 ks.length c2) (.slice a3 ds.length c3) CS ((ks.take 20).map cutB) V1 (.slice ad2 ((ks.take 20).map cutB).length cp2) (.slice none 0 0) wr.drew) from HRE.out.keep (Below.refl _ _).drew)
              have hzD : w.heap.size + 3 ≤ wr.drew.heap.size := hsq
              refine AnyL.begin (S := (fun W : World => Brow W w.heap.size [.bool lf, .slice a1 cs.length c1, .slice a2 ks.length c2, .slice a3 ds.length c3] 26 ∧ Brow W (w.heap.size + 2) [.bool lf, V1, .slice ad2 ((ks.take j).map cutB).length cp2, .slice none 0 0] 26)) (zs := [11]) (by kernel_rfl) ?_
              generalize wr.drew = wd at *
              clear HRE HRq hsq
              rw [HJ.eq]
              obtain ⟨L2, HL2⟩ : ∃ L2, Is L2 ((ks.take 20).map cutB).length := ⟨_, ⟨rfl⟩⟩
              rw [← HL2.eq] at HRD ⊢
              have HSD : Hid ((fun W : World => Brow W w.heap.size [.bool lf, .slice a1 cs.length c1, .slice a2 ks.length c2, .slice a3 ds.length c3] 26 ∧ Brow W (w.heap.size + 2) [.bool lf, V1, .slice ad2 L2 cp2, .slice none 0 0] 26) wd) := ⟨HRD.out.n, HRD.out.o⟩
              obtain ⟨M, HM⟩ : ∃ M, Is M (min ds.length 21) := ⟨_, ⟨rfl⟩⟩
              have m1 : min (ds.length : Int) 21 = (M : Int) := by have := HM.eq; omega
              have hl3 : ds.length ≤ c3 := HLQ.out.l3
              have hMl : M ≤ ds.length := by have := HM.eq; omega
              have hM2 : M ≤ 21 := by have := HM.eq; omega
              have m2 : (M : Int) ≤ (c3 : Int) := by omega
              have m3 : (0 : Int) ≤ (M : Int) := by omega
              have f1 : sliced a3 0 M c3 1 = .slice a3 M c3 := by rw [sliced_sub, subA_zero]; rfl
              have hA3 : RowAt wd a3 (icells (ds.take M)) := by rw [icells_take]; exact (HLQ.out.r3.below HRD.out.b).take _
              obtain ⟨ad3, cp3, w3, hr, hc1, hc2, _, hB3, hX3, hF3⟩ := app_fullF (P := Try.prog) (w := wd) (t := 24) Try.underlying24 infoI (ad := none) (n := 0) (xs := []) (.inl rfl) (by simp) (ad2 := a3) (m := M) (c2 := c3) (ys := icells (ds.take M)) hA3 (by rw [icells_length, List.length_take]; omega) (icells_one _) (by omega) (by omega)
              have HF3 := (show Hid (RowFrom w3 wd.heap.size ad3 (icells (ds.take M))) from by have := hF3 rfl; rwa [List.nil_append] at this)
              rw [Nat.zero_add] at hr hc1
              have HR3 := (show Hid (FewR w lf (.slice a1 cs.length c1) (.slice a2 ks.length c2) (.slice a3 ds.length c3) CS ((ks.take 20).map cutB) V1 (.slice ad2 L2 cp2) (.slice none 0 0) w3) from HRD.out.keep hB3)
              have hz3 : wd.heap.size ≤ w3.heap.size := hB3.size
              clear hA3 hX3 hF3 hB3
              refine AnyL.take 0 (some 66) (v := (.pointer (some ⟨w.heap.size + 2, 3, none⟩))) rfl rfl (by kernel_rfl) (by kernel_rfl) (by kernel_rfl) (by kernel_rfl) (by kernel_rfl) (fun _ _ _ h => h) (Or.inl ⟨by rfl, fun w hS => ?_⟩) HSD.out ?_
              · (go_simp)
              simp only [Act.put, List.setIfInBounds_toArray, List.set_cons_zero, List.set_cons_succ]
              refine AnyL.take 1 (some 67) (v := (.slice none 0 0)) rfl rfl (by kernel_rfl) (by kernel_rfl) (by kernel_rfl) (by kernel_rfl) (by kernel_rfl) (fun _ _ _ h => h) (Or.inl ⟨by rfl, fun w hS => ?_⟩) HSD.out ?_
              · (have q := hS.2.at 3 _ rfl; go_simp)
              simp only [Act.put, List.setIfInBounds_toArray, List.set_cons_zero, List.set_cons_succ]
              refine AnyL.take 2 (some 68) (v := (.pointer (some ⟨w.heap.size, 3, none⟩))) rfl rfl (by kernel_rfl) (by kernel_rfl) (by kernel_rfl) (by kernel_rfl) (by kernel_rfl) (fun _ _ _ h => h) (Or.inl ⟨by rfl, fun w hS => ?_⟩) HSD.out ?_
              · (go_simp)
              simp only [Act.put, List.setIfInBounds_toArray, List.set_cons_zero, List.set_cons_succ]
              refine AnyL.take 3 (some 69) (v := (.slice a3 ds.length c3)) rfl rfl (by kernel_rfl) (by kernel_rfl) (by kernel_rfl) (by kernel_rfl) (by kernel_rfl) (fun _ _ _ h => h) (Or.inl ⟨by rfl, fun w hS => ?_⟩) HSD.out ?_
              · (have q := hS.1.at 3 _ rfl; go_simp)
              simp only [Act.put, List.setIfInBounds_toArray, List.set_cons_zero, List.set_cons_succ]
              refine AnyL.take 4 (some 70) (v := (.pointer (some ⟨w.heap.size, 3, none⟩))) rfl rfl (by kernel_rfl) (by kernel_rfl) (by kernel_rfl) (by kernel_rfl) (by kernel_rfl) (fun _ _ _ h => h) (Or.inl ⟨by rfl, fun w hS => ?_⟩) HSD.out ?_
              · (go_simp)
              simp only [Act.put, List.setIfInBounds_toArray, List.set_cons_zero, List.set_cons_succ]
              refine AnyL.take 5 (some 71) (v := (.slice a3 ds.length c3)) rfl rfl (by kernel_rfl) (by kernel_rfl) (by kernel_rfl) (by kernel_rfl) (by kernel_rfl) (fun _ _ _ h => h) (Or.inl ⟨by rfl, fun w hS => ?_⟩) HSD.out ?_
              · (have q := hS.1.at 3 _ rfl; go_simp)
              simp only [Act.put, List.setIfInBounds_toArray, List.set_cons_zero, List.set_cons_succ]
              refine AnyL.take 6 (some 72) (v := (.int .i64 (ds.length : Int))) rfl rfl (by kernel_rfl) (by kernel_rfl) (by kernel_rfl) (by kernel_rfl) (by kernel_rfl) (fun _ _ _ h => h) (Or.inl ⟨by rfl, fun w hS => ?_⟩) HSD.out ?_
              · (go_simp)
              simp only [Act.put, List.setIfInBounds_toArray, List.set_cons_zero, List.set_cons_succ]
              refine AnyL.take 7 (some 73) (v := (.int .i64 (M : Int))) rfl rfl (by kernel_rfl) (by kernel_rfl) (by kernel_rfl) (by kernel_rfl) (by kernel_rfl) (fun _ _ _ h => h) (Or.inl ⟨by rfl, fun w hS => ?_⟩) HSD.out ?_
              · (go_simp)
              simp only [Act.put, List.setIfInBounds_toArray, List.set_cons_zero, List.set_cons_succ]
              refine AnyL.take 8 (some 74) (v := (.slice a3 M c3)) rfl rfl (by kernel_rfl) (by kernel_rfl) (by kernel_rfl) (by kernel_rfl) (by kernel_rfl) (fun _ _ _ h => h) (Or.inl ⟨by rfl, fun w hS => ?_⟩) HSD.out ?_
              · (go_simp)
              simp only [Act.put, List.setIfInBounds_toArray, List.set_cons_zero, List.set_cons_succ]
              refine AnyL.one 9 (by kernel_rfl) rfl (by rfl) (fun KK hK => ?_)
              refine step_run_append (some 75) rfl (.tmp 67) (.tmp 74) 24 rfl _ _ _ _ rfl rfl hr ?_
              have HS3 : Hid ((fun W : World => Brow W w.heap.size [.bool lf, .slice a1 cs.length c1, .slice a2 ks.length c2, .slice a3 ds.length c3] 26 ∧ Brow W (w.heap.size + 2) [.bool lf, V1, .slice ad2 L2 cp2, .slice none 0 0] 26) w3) := ⟨HR3.out.n, HR3.out.o⟩
              refine hK.out _ _ (fun _ => HS3.out) ?_
              clear hK KK
              try simp only [Act.put, List.setIfInBounds_toArray, List.set_cons_zero, List.set_cons_succ]
              refine AnyL.take 10 (some 76) (v := (.pointer (some ⟨w.heap.size + 2, 3, none⟩))) rfl rfl (by kernel_rfl) (by kernel_rfl) (by kernel_rfl) (by kernel_rfl) (by kernel_rfl) (fun _ _ _ h => h) (Or.inl ⟨by rfl, fun w hS => ?_⟩) HS3.out ?_
              · (go_simp)
              simp only [Act.put, List.setIfInBounds_toArray, List.set_cons_zero, List.set_cons_succ]
              have y3 := HR3.out.o.at 3 _ rfl
              have yz := HR3.out.o.fz 3
              refine AnyL.one 11 (by kernel_rfl) rfl (by rfl) (fun KK hK => ?_)
              go_simp
              refine hK.out _ _ (fun h => absurd h (by decide)) ?_
              clear hK KK
              try simp only [Act.put, List.setIfInBounds_toArray, List.set_cons_zero, List.set_cons_succ]
              refine AnyL.done (by kernel_rfl) ?_
              have HO4 := (show Hid (Brow (w3.setCell ⟨w.heap.size + 2, 3, none⟩ (.slice ad3 M cp3)) (w.heap.size + 2) [.bool lf, V1, .slice ad2 L2 cp2, .slice ad3 M cp3] 26) from HR3.out.o.set 3 _)
              have HZ4 := (show Hid (Brow (w3.setCell ⟨w.heap.size + 2, 3, none⟩ (.slice ad3 M cp3)) (w.heap.size + 1) [.bool false, .slice none 0 0, .slice none 0 0, .slice none 0 0] 26) from HR3.out.z.far (by show w.heap.size + 2 ≠ w.heap.size + 1; omega))
              obtain ⟨ad1', cp1', hV1, hle1, hcm1, hr1⟩ := own_rowFrom HR3.out.r1
              obtain ⟨ad2', cp2', hV2, hle2, hcm2, hr2⟩ := own_rowFrom HR3.out.r2
              have hV2' := hV2
              injection hV2' with e1 e2 e3
              subst e1 e2 e3
              have HLF := (show Hid (LiesF (w3.setCell ⟨w.heap.size + 2, 3, none⟩ (.slice ad3 M cp3)) (w.heap.size + 3) ⟨lf, CS, (ks.take 20).map cutB, ds.take M⟩ ⟨ad1', cp1', ad2, cp2, ad3, cp3⟩) from ⟨hr1.set (by omega) _ _, hr2.set (by omega) _ _, (HF3.out.mono hzD).set (by omega) _ _, hle1, hle2, by rw [List.length_take]; exact Nat.le_trans (Nat.min_le_left _ _) hc1, hcm1, hcm2, hc2⟩)
              have HB4 := (show Hid (Below w.heap.size w (w3.setCell ⟨w.heap.size + 2, 3, none⟩ (.slice ad3 M cp3))) from HR3.out.b.setCell (by show w.heap.size ≤ w.heap.size + 2; omega) _)
              have HML : Is (ds.take M).length M := ⟨by rw [List.length_take]; omega⟩
              have HMT : Is (ds.take M) (ds.take 21) := ⟨by
                rw [HM.eq]
                by_cases h : ds.length ≤ 21
                · rw [Nat.min_eq_left h, List.take_of_length_le (Nat.le_refl _), List.take_of_length_le h]
                · rw [Nat.min_eq_right (by omega)]⟩
              clear hV2 hr1 hr2 HF3 hr y3 yz HR3 HRD HSD HS3 m1 m2 m3 f1
              subst hV1
              generalize (w3.setCell ⟨w.heap.size + 2, 3, none⟩ (.slice ad3 M cp3)) = w4 at *
              have HFR := (show Hid (Brow (setN w4 (w.heap.size + 1) (.bool lf) (.slice ad1' CS.length cp1') (.slice ad2 ((ks.take 20).map cutB).length cp2) (.slice ad3 M cp3)) (w.heap.size + 1) [.bool lf, .slice ad1' CS.length cp1', .slice ad2 ((ks.take 20).map cutB).length cp2, .slice ad3 M cp3] 26) from setN_row HZ4.out _ _ _ _)
              have HFL := (show Hid (LiesF (setN w4 (w.heap.size + 1) (.bool lf) (.slice ad1' CS.length cp1') (.slice ad2 ((ks.take 20).map cutB).length cp2) (.slice ad3 M cp3)) w.heap.size ⟨lf, CS, (ks.take 20).map cutB, ds.take M⟩ ⟨ad1', cp1', ad2, cp2, ad3, cp3⟩) from (setN_lies HLF.out (by omega) _ _ _ _).mono (by omega))
              have HFB := (show Hid (Below w.heap.size w (setN w4 (w.heap.size + 1) (.bool lf) (.slice ad1' CS.length cp1') (.slice ad2 ((ks.take 20).map cutB).length cp2) (.slice ad3 M cp3))) from setN_below HB4.out (by omega) _ _ _ _)
              have x0 := HO4.out.at 0 _ rfl
              have x1 := HO4.out.at 1 _ rfl
              have x2 := HO4.out.at 2 _ rfl
              have x3 := HO4.out.at 3 _ rfl
              have y0 := HZ4.out.at 0 _ rfl
              have y1 := HZ4.out.at 1 _ rfl
              have y2 := HZ4.out.at 2 _ rfl
              have y3 := HZ4.out.at 3 _ rfl
              have z0 := HZ4.out.fz 0
              have z1 := HZ4.out.fz 1
              have z2 := HZ4.out.fz 2
              have z3 := HZ4.out.fz 3
              unfold setN at HFR HFL HFB
              generalize hgl : ((ks.take 20).map cutB).length = L3 at *
              have HL3 : Is ((ks.take 20).map cutB).length L3 := ⟨hgl⟩
              clear hgl
              go_wp2
              refine bodyPost_ret (res_c rfl _ _ (w.heap.size + 1) 26 _ _ rfl HFR.out Try.underlying26 rfl (by kernel_rfl)) rfl ?_
              refine ⟨⟨ad1', cp1', ad2, cp2, ad3, cp3⟩, ?_, ?_, HFB.out⟩
              · rw [HFN.eq]
                simp only
                rw [HL3.eq, ← HMT.eq, HML.eq, HCS.eq]
              · rw [HFN.eq, ← HMT.eq, ← HCS.eq]
                exact HFL.out
end Go.Proofs.Ytoinaplmgffkpaa
