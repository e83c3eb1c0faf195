/- Proved: what the document's Cut answers (stage 11). -/
import Derived.Test.YtoinaplmgffkpaaLBase
import Derived.Test.YtoinaplmgffkpaaMathP
namespace Go.Proofs.Ytoinaplmgffkpaa
open Go.RowKit
open Sl (Cel Nod)
/- cells that are gathered: the node, another variable, the result, and the row -/
structure OutR (w : World) (B Z : Nat) (nb xb : List Value) (xt : TypeId) (zb : List Value) (out : List Cel) (v : Value) (wr : World) : Prop where
  n : Brow wr w.heap.size nb 26
  x : Brow wr (w.heap.size + 1) xb xt
  z : Brow wr Z zb 26
  r : wr.ownsRow B 28 4 v out.length (cvals out)
  b : Below w.heap.size w wr
  s : B ≤ wr.heap.size
theorem OutR.keep {w : World} {B Z : Nat} {nb xb zb : List Value} {xt : TypeId} {out : List Cel} {v : Value} {wr wr' : World} (h : OutR w B Z nb xb xt zb out v wr) (hb : Below wr.heap.size wr wr') : OutR w B Z nb xb xt zb out v wr' :=
  ⟨h.n.below hb h.n.lt, h.x.below hb h.x.lt, h.z.below hb h.z.lt, own_below h.r hb, h.b.trans (hb.mono h.b.size), Nat.le_trans h.s hb.size⟩
theorem OutR.add {w : World} {B Z : Nat} {nb xb zb : List Value} {xt : TypeId} {out : List Cel} {v : Value} {wr : World} (h : OutR w B Z nb xb xt zb out v wr) (c : Cel) (hl : out.length ≤ 1000) (hB : w.heap.size + 1 < B) (hZ : Z < B) :
    ∃ v' w', (∀ ty, (Builtin.append_ #[22, 22] ty #[v, .slice (some ⟨wr.heap.size, 0, none⟩) 1 1]).run Try.prog (wr.alloc (.cells (ccells c).toArray 28)) = .ok v' w') ∧ OutR w B Z nb xb xt zb (out ++ [c]) v' w' := by
  have h1 := h.keep (below_alloc wr (.cells (ccells c).toArray 28))
  obtain ⟨v', w', hr, hO, hG⟩ := app_cel (wr.alloc (.cells (ccells c).toArray 28)) B v out c wr.heap.size h1.r hl h1.s (Brow.new wr _ 28)
  refine ⟨v', w', hr, h1.n.grew hG (own_far h1.r (by omega)), h1.x.grew hG (own_far h1.r hB), h1.z.grew hG (own_far h1.r hZ), hO, h1.b.trans ((hG.below h1.r h1.s).mono (by omega)), Nat.le_trans h1.s hG.by_.size⟩
def outC (cs : List Cel) (i : Int) (k : Nat) : List Cel := if 0 ≤ i ∧ i < (k : Int) then cs.take i.toNat ++ (cs.take k).drop (i.toNat + 1) else cs.take k
theorem outC_at {cs : List Cel} {i : Int} {k : Nat} (h : (k : Int) = i) : outC cs i (k + 1) = outC cs i k := by
  subst h
  unfold outC
  rw [if_pos (by omega), if_neg (by omega), Int.toNat_natCast, List.drop_eq_nil_of_le (by rw [List.length_take]; omega), List.append_nil]
theorem outC_not {cs : List Cel} {i : Int} {k : Nat} (h : ¬ (k : Int) = i) (hk : k < cs.length) : outC cs i (k + 1) = outC cs i k ++ [cs.getD k Sl.cel0] := by
  unfold outC
  rw [Sl.take_more cs k Sl.cel0 hk]
  by_cases h1 : 0 ≤ i ∧ i < (k : Int)
  · rw [if_pos (by omega), if_pos h1, List.drop_append_of_le_length (by rw [List.length_take]; omega), List.append_assoc]
  · rw [if_neg (by omega), if_neg h1]
theorem outC_end (cs : List Cel) (ks : List ByteArray) (ds : List Int) (i : Int) : cutN ⟨true, cs, ks, ds⟩ i = ⟨true, outC cs i cs.length, ks, ds⟩ := by
  unfold cutN outC
  by_cases h1 : 0 ≤ i ∧ i < (cs.length : Int)
  · rw [if_pos (by simp [h1.1, h1.2]), if_pos h1, List.take_length]
  · rw [if_neg (by simpa using h1), if_neg h1, List.take_length]
theorem outC_len (cs : List Cel) (i : Int) (k : Nat) : (outC cs i k).length ≤ cs.length := by
  unfold outC
  split
  · rw [List.length_append, List.length_take, List.length_drop, List.length_take]; omega
  · rw [List.length_take]; omega
set_option maxHeartbeats 4000000 in
theorem rcut_any (n : Nod) (p : Pt) (i : Int) (w : World) (hN : Lies w n p) (hl1 : n.cells.length ≤ 1000) :
    Calls Try.prog 18 #[nv n p, .int .i64 i] w fun e w' => ∃ p', e = .returned (nv (cutN n i) p') ∧ Lies w' (cutN n i) p' ∧ Below w.heap.size w w' := by
  have HL : Hid (Lies w n p) := hN
  have HPN : Is (cutN n i) (if n.leaf && (decide (0 ≤ i) && decide (i < (n.cells.length : Int))) then ⟨n.leaf, n.cells.take i.toNat ++ n.cells.drop (i.toNat + 1), n.keys, n.kids⟩ else n) := ⟨rfl⟩
  clear hN
  obtain ⟨lf, cs, ks, ds⟩ := n
  obtain ⟨a1, c1, a2, c2, a3, c3⟩ := p
  simp only at hl1 HPN ⊢
  cases lf with
  | false =>
    rw [HPN.eq, if_neg (by simp)]
    unfold nv
    simp only
    have HZ := (show Hid (Brow ((w.alloc (.cells #[.bool false, .slice a1 cs.length c1, .slice a2 ks.length c2, .slice a3 ds.length c3] 26)).alloc (.cells #[.bool false, .slice a1 cs.length c1, .slice a2 ks.length c2, .slice a3 ds.length c3] 26)) (w.heap.size + 1) [.bool false, .slice a1 cs.length c1, .slice a2 ks.length c2, .slice a3 ds.length c3] 26) from by
      have := Brow.new (w.alloc (.cells #[.bool false, .slice a1 cs.length c1, .slice a2 ks.length c2, .slice a3 ds.length c3] 26)) [.bool false, .slice a1 cs.length c1, .slice a2 ks.length c2, .slice a3 ds.length c3] 26
      rwa [size_alloc1] at this)
    have HB := (show Hid (Below w.heap.size w ((w.alloc (.cells #[.bool false, .slice a1 cs.length c1, .slice a2 ks.length c2, .slice a3 ds.length c3] 26)).alloc (.cells #[.bool false, .slice a1 cs.length c1, .slice a2 ks.length c2, .slice a3 ds.length c3] 26))) from (below_alloc _ _).alloc (by rw [size_alloc1]; omega) _)
    go_enter Try.func18, Try.ntmps18
    go_wp2
    refine bodyPost_ret (res_c rfl _ _ (w.heap.size + 1) 26 _ _ rfl HZ.out Try.underlying26 rfl (by kernel_rfl)) rfl ?_
    exact ⟨⟨a1, c1, a2, c2, a3, c3⟩, rfl, HL.out.below HB.out, HB.out⟩
  | true =>
    rw [outC_end]
    unfold nv
    simp only
    have HR0 : Hid (OutR w (w.heap.size + 2) (w.heap.size + 1) [.bool true, .slice a1 cs.length c1, .slice a2 ks.length c2, .slice a3 ds.length c3] [.bool false, .slice none 0 0, .slice none 0 0, .slice none 0 0] 26 [.bool false, .slice none 0 0, .slice none 0 0, .slice none 0 0] [] (.slice none 0 0) ((w.alloc (.cells #[.bool true, .slice a1 cs.length c1, .slice a2 ks.length c2, .slice a3 ds.length c3] 26)).alloc (.cells #[.bool false, .slice none 0 0, .slice none 0 0, .slice none 0 0] 26))) := ⟨(Brow.new w _ 26).alloc _, by
      have := Brow.new (w.alloc (.cells #[.bool true, .slice a1 cs.length c1, .slice a2 ks.length c2, .slice a3 ds.length c3] 26)) [.bool false, .slice none 0 0, .slice none 0 0, .slice none 0 0] 26
      rwa [size_alloc1] at this, by
      have := Brow.new (w.alloc (.cells #[.bool true, .slice a1 cs.length c1, .slice a2 ks.length c2, .slice a3 ds.length c3] 26)) [.bool false, .slice none 0 0, .slice none 0 0, .slice none 0 0] 26
      rwa [size_alloc1] at this, own_nil _ _ _ _, (below_alloc _ _).alloc (by rw [size_alloc1]; omega) _, by rw [size_alloc1, size_alloc1]; omega⟩
    clear HPN
    go_enter Try.func18, Try.ntmps18
    go_wp2_with fail
    generalize ((w.alloc (.cells #[.bool true, .slice a1 cs.length c1, .slice a2 ks.length c2, .slice a3 ds.length c3] 26)).alloc (.cells #[.bool false, .slice none 0 0, .slice none 0 0, .slice none 0 0] 26)) = w0 at *
    go_loopw [5, 6] (fun s5 s6 wr => ∃ (k : Nat) (v : Value), k ≤ cs.length ∧ v = s5 ∧ s6 = .int .i64 k ∧ OutR w (w.heap.size + 2) (w.heap.size + 1) [.bool true, .slice a1 cs.length c1, .slice a2 ks.length c2, .slice a3 ds.length c3] [.bool false, .slice none 0 0, .slice none 0 0, .slice none 0 0] 26 [.bool false, .slice none 0 0, .slice none 0 0, .slice none 0 0] (outC cs i k) v wr) (fun _ s6 _ => cs.length - (intOf s6).toNat)
    case atStart => exact ⟨0, _, by omega, rfl, rfl, by
      have e : outC cs i 0 = [] := by unfold outC; rw [if_neg (by omega)]; rfl
      rw [e]
      exact HR0.out⟩
    case round =>
      obtain ⟨k, v5, hk, hv5, rfl, hR⟩ := hrel
      subst hv5
      have HR : Hid (OutR w (w.heap.size + 2) (w.heap.size + 1) [.bool true, .slice a1 cs.length c1, .slice a2 ks.length c2, .slice a3 ds.length c3] [.bool false, .slice none 0 0, .slice none 0 0, .slice none 0 0] 26 [.bool false, .slice none 0 0, .slice none 0 0, .slice none 0 0] (outC cs i k) v5 wr) := hR
      clear hR HR0
      have q1 := HR.out.n.at 1 _ rfl
      have q2 := HR.out.n.at 2 _ rfl
      have q3 := HR.out.n.at 3 _ rfl
      have hoc := outC_len cs i k
      by_cases hlt : k < cs.length
      · have i0 : (k : Int) < (cs.length : Int) := by omega
        have j0 : (0 : Int) ≤ (k : Int) := Int.natCast_nonneg _
        by_cases hki : (k : Int) = i
        · have HE : Is (outC cs i (k + 1)) (outC cs i k) := ⟨outC_at hki⟩
          have b1 : ((k : Int) != i) = false := by simp [hki]
          have b2 : ((k : Int) == i) = true := by simp [hki]
          have HREL := (show Hid (OutR w (w.heap.size + 2) (w.heap.size + 1) [.bool true, .slice a1 cs.length c1, .slice a2 ks.length c2, .slice a3 ds.length c3] [.bool false, .slice none 0 0, .slice none 0 0, .slice none 0 0] 26 [.bool false, .slice none 0 0, .slice none 0 0, .slice none 0 0] (outC cs i (k + 1)) v5 wr) from by show OutR w (w.heap.size + 2) (w.heap.size + 1) [.bool true, .slice a1 cs.length c1, .slice a2 ks.length c2, .slice a3 ds.length c3] [.bool false, .slice none 0 0, .slice none 0 0, .slice none 0 0] 26 [.bool false, .slice none 0 0, .slice none 0 0, .slice none 0 0] (outC cs i (k + 1)) v5 wr; rw [HE.eq]; exact HR.out)
          clear hki HE HR
          go_wp2_with fail
          go_roundw
          case rel => exact ⟨k + 1, _, by omega, rfl, by go_num, HREL.out⟩
          case measure => (simp [intOf]) <;> omega
        · have HE : Is (outC cs i (k + 1)) (outC cs i k ++ [cs.getD k Sl.cel0]) := ⟨outC_not hki hlt⟩
          have b1 : ((k : Int) != i) = true := by simpa using hki
          have b2 : ((k : Int) == i) = false := by simpa using hki
          obtain ⟨b, off, ha1, hb, hcl⟩ := HL.out.r1.cell (Nat.lt_of_le_of_lt (Nat.zero_le _) hlt)
          simp only at ha1
          subst ha1
          obtain ⟨x0, x1, x2, x3⟩ := (hcl k hlt).below HR.out.b hb
          clear hcl HL hki
          generalize cs.getD k Sl.cel0 = x at *
          obtain ⟨v', w', hr, hR'⟩ := HR.out.add x (by omega) (by omega) (by omega)
          rw [← HE.eq] at hR'
          have HREL := (show Hid (OutR w (w.heap.size + 2) (w.heap.size + 1) [.bool true, .slice (some ⟨b, off, none⟩) cs.length c1, .slice a2 ks.length c2, .slice a3 ds.length c3] [.bool false, .slice none 0 0, .slice none 0 0, .slice none 0 0] 26 [.bool false, .slice none 0 0, .slice none 0 0, .slice none 0 0] (outC cs i (k + 1)) v' w') from hR')
          obtain ⟨xk, xx, xo, xl⟩ := x
          simp only [ccells] at x0 x1 x2 x3 hr
          clear hR' HE HR
          go_wp2_with (at_builtin; refine wpList_run_append rfl _ _ 22 rfl _ _ _ _ rfl rfl hr ?_)
          go_roundw
          case rel => first | exact ⟨k + 1, _, by omega, rfl, by go_num, HREL.out⟩ | ((repeat apply Exists.intro); exact ⟨⟨k + 1, _, by omega, rfl, by go_num, HREL.out⟩, rfl⟩)
          case measure => (simp [intOf]) <;> omega
      · have hkl : ¬ (k : Int) < (cs.length : Int) := by omega
        have hke : k = cs.length := by omega
        subst hke
        obtain ⟨out, HOUT⟩ : ∃ out, Is out (outC cs i cs.length) := ⟨_, ⟨rfl⟩⟩
        rw [← HOUT.eq] at HR
        obtain ⟨ad, cp, hv, hc1, hc2, hrow⟩ := own_rowFrom HR.out.r
        subst hv
        have HZ := (show Hid (Brow (setN wr (w.heap.size + 1) (.bool true) (.slice ad out.length cp) (.slice a2 ks.length c2) (.slice a3 ds.length c3)) (w.heap.size + 1) [.bool true, .slice ad out.length cp, .slice a2 ks.length c2, .slice a3 ds.length c3] 26) from setN_row HR.out.z _ _ _ _)
        have HB := (show Hid (Below w.heap.size w (setN wr (w.heap.size + 1) (.bool true) (.slice ad out.length cp) (.slice a2 ks.length c2) (.slice a3 ds.length c3))) from setN_below HR.out.b (by omega) _ _ _ _)
        have HF := (show Hid (Lies (setN wr (w.heap.size + 1) (.bool true) (.slice ad out.length cp) (.slice a2 ks.length c2) (.slice a3 ds.length c3)) ⟨true, out, ks, ds⟩ ⟨ad, cp, a2, c2, a3, c3⟩) from ⟨((((hrow.set (by omega) 0 _).set (by omega) 1 _).set (by omega) 2 _).set (by omega) 3 _).row, HL.out.r2.below HB.out, HL.out.r3.below HB.out, hc1, HL.out.l2, HL.out.l3, hc2, HL.out.m2, HL.out.m3⟩)
        have z0 := HR.out.z.at 0 _ rfl
        have z1 := HR.out.z.at 1 _ rfl
        have z2 := HR.out.z.at 2 _ rfl
        have z3 := HR.out.z.at 3 _ rfl
        have f0 := HR.out.z.fz 0
        have f1 := HR.out.z.fz 1
        have f2 := HR.out.z.fz 2
        have f3 := HR.out.z.fz 3
        clear hrow HR HL
        unfold setN at HZ HB HF
        go_wp2
        refine bodyPost_ret (res_c rfl _ _ (w.heap.size + 1) 26 _ _ rfl HZ.out Try.underlying26 rfl (by kernel_rfl)) rfl ?_
        rw [← HOUT.eq]
        exact ⟨⟨ad, cp, a2, c2, a3, c3⟩, rfl, HF.out, HB.out⟩
end Go.Proofs.Ytoinaplmgffkpaa
