/- Proved: SlotBack's walk (stage 11). -/
import Derived.Test.YtoinaplmgffkpaaLBase
import Derived.Test.YtoinaplmgffkpaaHalves
import Derived.Test.YtoinaplmgffkpaaDecode
import Derived.Test.YtoinaplmgffkpaaSame
namespace Go.Proofs.Ytoinaplmgffkpaa
open Go.RowKit
open Sl (Cel Nod)
theorem sumN_cb : ∀ (cs : List Cel), (cs.flatMap cbytes).length = sumN (cs.map csize)
  | [] => rfl
  | c :: cs => by rw [List.flatMap_cons, List.length_append, cbytes_length, List.map_cons, sumN_cb cs]; rfl
theorem bflat_sum (ks : List ByteArray) (ds : List Int) : ∀ k, k ≤ ks.length → (bflat ks ds k).length = sumN ((ks.take k).map fun x => 5 + x.size)
  | 0, _ => rfl
  | k + 1, h => by
    rw [bflat, List.length_append, bflat_sum ks ds k (by omega), bpart_length, Sl.take_more ks k ByteArray.empty (by omega), List.map_append, sumN_append]
    simp [sumN]
theorem nbytes_len (n : Nod) : (nbytes n).length = sizeN n := by
  obtain ⟨lf, cs, ks, ds⟩ := n
  cases lf with
  | true =>
    show (1 :: cs.length :: cs.flatMap cbytes).length = 2 + sumN (cs.map csize)
    rw [List.length_cons, List.length_cons, sumN_cb]
    omega
  | false =>
    show (2 :: ks.length :: (four (ds.getD 0 0).toNat 4 ++ bflat ks ds ks.length)).length = 6 + sumN (ks.map fun k => 5 + k.size)
    rw [List.length_cons, List.length_cons, List.length_append, four_length, bflat_sum ks ds _ (Nat.le_refl _), List.take_length]
    omega
theorem nbytes_lt {n : Nod} (h : Sl.may n = true) : ∀ x ∈ nbytes n, x < 256 := by
  unfold nbytes
  split
  · rename_i hl
    exact lbytes_lt (may_leaf h hl).1 (may_leaf h hl).2.1
  · rename_i hl
    have hb := may_branch h (by simpa using hl)
    exact bbytes_lt (fun k hk => by
      have := hb.1 k hk
      unfold Sl.isKey at this
      rw [Bool.and_eq_true, decide_eq_true_eq, decide_eq_true_eq] at this
      exact this.2) hb.2.1
theorem tb_more (l : List Nat) : tb l ++ ⟨#[0]⟩ = tb (l ++ [0]) := by
  refine Sl.ba_ext ?_
  rw [ByteArray.data_append]
  unfold tb
  simp
theorem cut_pos (c : Int) (Z : Nat) (hz : 0 < Z) : ∃ J : Nat, J < Z ∧ (c.tmod (Z : Int) + (Z : Int)).tmod (Z : Int) = (J : Int) ∧ -(Z : Int) < c.tmod (Z : Int) ∧ c.tmod (Z : Int) < (Z : Int) := by
  have h1 : c.tmod (Z : Int) < (Z : Int) := Int.tmod_lt_of_pos c (by omega)
  have h2 : -(Z : Int) < c.tmod (Z : Int) := by
    have := Int.lt_tmod_of_pos c (b := (Z : Int)) (by omega)
    exact this
  have h3 : (0 : Int) ≤ (c.tmod (Z : Int) + (Z : Int)).tmod (Z : Int) := Int.tmod_nonneg _ (by omega)
  have h4 : (c.tmod (Z : Int) + (Z : Int)).tmod (Z : Int) < (Z : Int) := Int.tmod_lt_of_pos _ (by omega)
  exact ⟨((c.tmod (Z : Int) + (Z : Int)).tmod (Z : Int)).toNat, by omega, by omega, h2, h1⟩
set_option maxHeartbeats 4000000 in
set_option maxRecDepth 20000 in
theorem back_walk (n : Nod) (p : Pt) (c : Int) (w : World) (hN : Lies w n p) (h0 : In0 n) :
    Calls Try.prog 5 #[nv n p, .int .i64 c] w fun e w' => e = .returned (.bool true) ∧ Below w.heap.size w w' := by
  have HFW := fun (W : World) (hW : Below w.heap.size w W) => few_call hN h0 hW
  have hfit := few_fit h0
  clear hN h0
  generalize fewN n = m at *
  have HEN := fun (q : Pt) (W : World) (h : Lies W m q) => encode_any m q W h hfit
  have HCH := fun (q : Pt) (W : World) (h : Lies W m q) => check_any m q W h hfit
  have HSZ := fun (q : Pt) (W : World) (h : Lies W m q) => size_any m q W h hfit
  have HSM := fun (q q' : Pt) (W : World) (h : Lies W m q) (h' : Lies W m q') => same_yes m q q' W h h' hfit.l1 hfit.l2 hfit.l3
  unfold checkE sizeE at *
  obtain ⟨lf, cs, ks, ds⟩ := n
  obtain ⟨a1, c1, a2, c2, a3, c3⟩ := p
  have HB0 : Hid (Below w.heap.size w (w.alloc (.cells #[.bool lf, .slice a1 cs.length c1, .slice a2 ks.length c2, .slice a3 ds.length c3] 26))) := below_alloc _ _
  have HN0 : Hid (Brow (w.alloc (.cells #[.bool lf, .slice a1 cs.length c1, .slice a2 ks.length c2, .slice a3 ds.length c3] 26)) w.heap.size [.bool lf, .slice a1 cs.length c1, .slice a2 ks.length c2, .slice a3 ds.length c3] 26) := Brow.new w [.bool lf, .slice a1 cs.length c1, .slice a2 ks.length c2, .slice a3 ds.length c3] 26
  have hs0 : w.heap.size + 1 ≤ (w.alloc (.cells #[.bool lf, .slice a1 cs.length c1, .slice a2 ks.length c2, .slice a3 ds.length c3] 26)).heap.size := by rw [size_alloc1]; omega
  by_cases hm : Sl.may m = true
  · rw [if_pos hm] at HCH
    simp only [if_pos hm] at HSZ
    by_cases hz : sizeN m ≤ 500
    · have he : encE m = 0 := by unfold encE; rw [if_pos hm, if_pos hz]
      have hs : encS m = tb (nbytes m) := by unfold encS; rw [hm, decide_eq_true hz]; rfl
      rw [he, hs] at HEN
      have hBK := back_ok hm
      have hZ := nbytes_len m
      have h8 := nbytes_lt hm
      have hzp : 0 < sizeN m := by unfold sizeN headN; split <;> omega
      obtain ⟨J, hJ, hJ1, hJ2, hJ3⟩ := cut_pos c (sizeN m) hzp
      have HSZS : Is (tb (nbytes m)).size (sizeN m) := ⟨by rw [tb_size, hZ]⟩
      have HD1 := fun (W : World) => (dec_any (tb (nbytes m)) W (by rw [HSZS.eq]; omega)).mono (fun _ _ hx => hx.ex)
      have HD2 := fun (W : World) => (dec_any ((tb (nbytes m)).extract 0 J) W (by rw [tb_take _ _ (by omega), tb_size, List.length_take]; omega)).mono (fun _ _ hx => hx.ex)
      have HD3 := fun (W : World) => (dec_any (tb (nbytes m) ++ ⟨#[0]⟩) W (by rw [tb_more, tb_size, List.length_append, hZ, List.length_singleton]; omega)).mono (fun _ _ hx => hx.ex)
      rw [bl_tb h8, hBK.yes.1, hBK.yes.2] at HD1
      rw [tb_take _ _ (by omega), bl_tb (fun x hx => h8 x (List.mem_of_mem_take hx)), hBK.cut J (by omega), ← tb_take _ _ (by omega)] at HD2
      rw [tb_more, bl_tb (fun x hx => by
        rcases List.mem_append.1 hx with h | h
        · exact h8 x h
        · rw [List.mem_singleton.1 h]; omega), hBK.more, ← tb_more] at HD3
      generalize decN ⟨nbytes m ++ [0], false⟩ = U at *
      generalize decN ⟨(nbytes m).take J, false⟩ = Q at *
      generalize tb (nbytes m) = S at *
      have hsz : S.size = sizeN m := HSZS.eq
      generalize sizeN m = Z at *
      clear hBK hZ h8 HCH hm he hs HSZS
      have u1 : ((S.size : Int) == 0) = false := beq_eq_false_iff_ne.2 (by omega)
      have u2 : ¬ (S.size : Int) = 0 := by omega
      have u3 : ¬ S.size = 0 := by omega
      have hw : IntKind.i64.wrap (c.tmod (Z : Int) + (Z : Int)) = c.tmod (Z : Int) + (Z : Int) := by rw [IntKind.wrap_i64]; omega
      subst hsz
      have j0 : (0 : Int) ≤ (J : Int) := by omega
      have j1 : (J : Int) ≤ (S.size : Int) := by omega
      have z5 : (S.size : Int) ≤ 500 := by omega
      obtain ⟨mf, ms, mk, md⟩ := m
      obtain ⟨qf, qc, qk, qd⟩ := Q
      obtain ⟨uf, uc, uk, ud⟩ := U
      unfold nv at *
      simp only at HFW HEN HSZ HSM HD1 HD2 HD3 ⊢
      go_enter Try.func5, Try.ntmps5
      go_wp2_with fail
      refine (HFW _ HB0.out).mono ?_
      rintro e w1 ⟨⟨e1, f1, e2, f2, e3, f3⟩, rfl, hL1, hB1⟩
      have HB1 : Hid (Below w.heap.size w w1) := HB0.out.trans (hB1.mono (by omega))
      have HN1 : Hid (Brow w1 w.heap.size [.bool lf, .slice a1 cs.length c1, .slice a2 ks.length c2, .slice a3 ds.length c3] 26) := HN0.out.below hB1 (by omega)
      have HL1 : Hid (LiesF w1 (w.heap.size + 1) ⟨mf, ms, mk, md⟩ ⟨e1, f1, e2, f2, e3, f3⟩) := hL1.mono hs0
      have hs1 : w.heap.size + 1 ≤ w1.heap.size := Nat.le_trans hs0 hB1.size
      clear hL1 hB1 HB0 HN0 hs0 HFW
      have HN2 := (show Hid (Brow (setN w1 w.heap.size (.bool mf) (.slice e1 ms.length f1) (.slice e2 mk.length f2) (.slice e3 md.length f3)) w.heap.size [.bool mf, .slice e1 ms.length f1, .slice e2 mk.length f2, .slice e3 md.length f3] 26) from setN_row HN1.out _ _ _ _)
      have HL2 := (show Hid (Lies (setN w1 w.heap.size (.bool mf) (.slice e1 ms.length f1) (.slice e2 mk.length f2) (.slice e3 md.length f3)) ⟨mf, ms, mk, md⟩ ⟨e1, f1, e2, f2, e3, f3⟩) from (setN_lies HL1.out (by omega) _ _ _ _).lies)
      have HB2 := (show Hid (Below w.heap.size w (setN w1 w.heap.size (.bool mf) (.slice e1 ms.length f1) (.slice e2 mk.length f2) (.slice e3 md.length f3))) from setN_below HB1.out (by omega) _ _ _ _)
      have hs2 : w.heap.size + 1 ≤ (setN w1 w.heap.size (.bool mf) (.slice e1 ms.length f1) (.slice e2 mk.length f2) (.slice e3 md.length f3)).heap.size := by rw [size_setN]; exact hs1
      have x0 := HN1.out.at 0 _ rfl
      have x1 := HN1.out.at 1 _ rfl
      have x2 := HN1.out.at 2 _ rfl
      have x3 := HN1.out.at 3 _ rfl
      have z0 := HN1.out.fz 0
      have z1 := HN1.out.fz 1
      have z2 := HN1.out.fz 2
      have z3 := HN1.out.fz 3
      have q0 := HN2.out.at 0 _ rfl
      have q1 := HN2.out.at 1 _ rfl
      have q2 := HN2.out.at 2 _ rfl
      have q3 := HN2.out.at 3 _ rfl
      clear HN1 HL1 HB1
      unfold setN at *
      go_wp2_with fail
      generalize ((((w1.setCell ⟨w.heap.size, 0, none⟩ (.bool mf)).setCell ⟨w.heap.size, 1, none⟩ (.slice e1 ms.length f1)).setCell ⟨w.heap.size, 2, none⟩ (.slice e2 mk.length f2)).setCell ⟨w.heap.size, 3, none⟩ (.slice e3 md.length f3)) = w2 at *
      clear x0 x1 x2 x3 z0 z1 z2 z3 q0 q1 q2 q3
      refine (HEN ⟨e1, f1, e2, f2, e3, f3⟩ w2 HL2.out).mono ?_
      rintro e w3 ⟨rfl, hB3⟩
      have HB3 : Hid (Below w.heap.size w w3) := HB2.out.trans (hB3.mono (by omega))
      have HN3 : Hid (Brow w3 w.heap.size [.bool mf, .slice e1 ms.length f1, .slice e2 mk.length f2, .slice e3 md.length f3] 26) := HN2.out.below hB3 (by omega)
      have HL3 : Hid (Lies w3 ⟨mf, ms, mk, md⟩ ⟨e1, f1, e2, f2, e3, f3⟩) := HL2.out.below hB3
      have hs3 : w.heap.size + 1 ≤ w3.heap.size := Nat.le_trans hs2 hB3.size
      clear hB3 HB2 HN2 HL2 HEN hs1 hs2
      go_wp2_with fail
      refine (HD1 w3).mono ?_
      rintro e w4 ⟨⟨g1, h1, g2, h2, g3, h3⟩, rfl, hL4, hB4⟩
      have HS5 := (show Hid (Below w.heap.size w (w4.alloc (.cells #[.bool mf, .slice g1 ms.length h1, .slice g2 mk.length h2, .slice g3 md.length h3] 26)) ∧ Brow (w4.alloc (.cells #[.bool mf, .slice g1 ms.length h1, .slice g2 mk.length h2, .slice g3 md.length h3] 26)) w.heap.size [.bool mf, .slice e1 ms.length f1, .slice e2 mk.length f2, .slice e3 md.length f3] 26 ∧ Brow (w4.alloc (.cells #[.bool mf, .slice g1 ms.length h1, .slice g2 mk.length h2, .slice g3 md.length h3] 26)) w4.heap.size [.bool mf, .slice g1 ms.length h1, .slice g2 mk.length h2, .slice g3 md.length h3] 26 ∧ Lies (w4.alloc (.cells #[.bool mf, .slice g1 ms.length h1, .slice g2 mk.length h2, .slice g3 md.length h3] 26)) ⟨mf, ms, mk, md⟩ ⟨e1, f1, e2, f2, e3, f3⟩ ∧ Lies (w4.alloc (.cells #[.bool mf, .slice g1 ms.length h1, .slice g2 mk.length h2, .slice g3 md.length h3] 26)) ⟨mf, ms, mk, md⟩ ⟨g1, h1, g2, h2, g3, h3⟩) from by
        have hA : Below w4.heap.size w4 (w4.alloc (.cells #[.bool mf, .slice g1 ms.length h1, .slice g2 mk.length h2, .slice g3 md.length h3] 26)) := below_alloc _ _
        have hz4 := hB4.size
        exact ⟨(HB3.out.trans (hB4.mono (by omega))).trans (hA.mono (by omega)), (HN3.out.below hB4 (by omega)).alloc _, Brow.new w4 [.bool mf, .slice g1 ms.length h1, .slice g2 mk.length h2, .slice g3 md.length h3] 26, (HL3.out.below hB4).below hA, hL4.lies.below hA⟩)
      have hs5 : w4.heap.size + 1 ≤ (w4.alloc (.cells #[.bool mf, .slice g1 ms.length h1, .slice g2 mk.length h2, .slice g3 md.length h3] 26)).heap.size := by rw [size_alloc1]; omega
      have hX : w.heap.size + 1 ≤ w4.heap.size := Nat.le_trans hs3 hB4.size
      clear hL4 hB4 HB3 HN3 HL3 HD1 hs3
      go_upto_region 8 with fail
      generalize (w4.alloc (.cells #[.bool mf, .slice g1 ms.length h1, .slice g2 mk.length h2, .slice g3 md.length h3] 26)) = w5 at *
      generalize w4.heap.size = X at *
      go_wp2_with fail
      refine (HD2 w5).mono ?_
      rintro e w6 ⟨⟨i1, j1_, i2, j2, i3, j3⟩, rfl, hL6, hB6⟩
      have HS6 := (show Hid (Below w.heap.size w w6 ∧ Brow w6 w.heap.size [.bool mf, .slice e1 ms.length f1, .slice e2 mk.length f2, .slice e3 md.length f3] 26 ∧ Brow w6 X [.bool mf, .slice g1 ms.length h1, .slice g2 mk.length h2, .slice g3 md.length h3] 26 ∧ Lies w6 ⟨mf, ms, mk, md⟩ ⟨e1, f1, e2, f2, e3, f3⟩ ∧ Lies w6 ⟨mf, ms, mk, md⟩ ⟨g1, h1, g2, h2, g3, h3⟩) from ⟨HS5.out.1.trans (hB6.mono (by omega)), HS5.out.2.1.below hB6 (by omega), HS5.out.2.2.1.below hB6 (by omega), HS5.out.2.2.2.1.below hB6, HS5.out.2.2.2.2.below hB6⟩)
      have hs6 : X + 1 ≤ w6.heap.size := Nat.le_trans hs5 hB6.size
      have hB7 : Below w6.heap.size w6 (w6.alloc (.cells #[.bool qf, .slice i1 qc.length j1_, .slice i2 qk.length j2, .slice i3 qd.length j3] 26)) := below_alloc _ _
      have HS7 := (show Hid (Below w.heap.size w (w6.alloc (.cells #[.bool qf, .slice i1 qc.length j1_, .slice i2 qk.length j2, .slice i3 qd.length j3] 26)) ∧ Brow (w6.alloc (.cells #[.bool qf, .slice i1 qc.length j1_, .slice i2 qk.length j2, .slice i3 qd.length j3] 26)) w.heap.size [.bool mf, .slice e1 ms.length f1, .slice e2 mk.length f2, .slice e3 md.length f3] 26 ∧ Brow (w6.alloc (.cells #[.bool qf, .slice i1 qc.length j1_, .slice i2 qk.length j2, .slice i3 qd.length j3] 26)) X [.bool mf, .slice g1 ms.length h1, .slice g2 mk.length h2, .slice g3 md.length h3] 26 ∧ Lies (w6.alloc (.cells #[.bool qf, .slice i1 qc.length j1_, .slice i2 qk.length j2, .slice i3 qd.length j3] 26)) ⟨mf, ms, mk, md⟩ ⟨e1, f1, e2, f2, e3, f3⟩ ∧ Lies (w6.alloc (.cells #[.bool qf, .slice i1 qc.length j1_, .slice i2 qk.length j2, .slice i3 qd.length j3] 26)) ⟨mf, ms, mk, md⟩ ⟨g1, h1, g2, h2, g3, h3⟩) from ⟨HS6.out.1.trans (hB7.mono (by omega)), HS6.out.2.1.below hB7 (by omega), HS6.out.2.2.1.below hB7 (by omega), HS6.out.2.2.2.1.below hB7, HS6.out.2.2.2.2.below hB7⟩)
      have hs7 : X + 1 ≤ (w6.alloc (.cells #[.bool qf, .slice i1 qc.length j1_, .slice i2 qk.length j2, .slice i3 qd.length j3] 26)).heap.size := by rw [size_alloc1]; omega
      clear hL6 hB6 hB7 HS5 HS6 HD2 hs5 hs6
      go_upto_region 9 with fail
      generalize (w6.alloc (.cells #[.bool qf, .slice i1 qc.length j1_, .slice i2 qk.length j2, .slice i3 qd.length j3] 26)) = w7 at *
      go_wp2_with fail
      refine (HD3 w7).mono ?_
      rintro e w8 ⟨⟨k1, l1, k2, l2, k3, l3⟩, rfl, hL8, hB8⟩
      have HS8 := (show Hid (Below w.heap.size w w8 ∧ Brow w8 w.heap.size [.bool mf, .slice e1 ms.length f1, .slice e2 mk.length f2, .slice e3 md.length f3] 26 ∧ Brow w8 X [.bool mf, .slice g1 ms.length h1, .slice g2 mk.length h2, .slice g3 md.length h3] 26 ∧ Lies w8 ⟨mf, ms, mk, md⟩ ⟨e1, f1, e2, f2, e3, f3⟩ ∧ Lies w8 ⟨mf, ms, mk, md⟩ ⟨g1, h1, g2, h2, g3, h3⟩) from ⟨HS7.out.1.trans (hB8.mono (by omega)), HS7.out.2.1.below hB8 (by omega), HS7.out.2.2.1.below hB8 (by omega), HS7.out.2.2.2.1.below hB8, HS7.out.2.2.2.2.below hB8⟩)
      have hs8 : X + 1 ≤ w8.heap.size := Nat.le_trans hs7 hB8.size
      have hB9 : Below w8.heap.size w8 (w8.alloc (.cells #[.bool uf, .slice k1 uc.length l1, .slice k2 uk.length l2, .slice k3 ud.length l3] 26)) := below_alloc _ _
      have HS9 := (show Hid (Below w.heap.size w (w8.alloc (.cells #[.bool uf, .slice k1 uc.length l1, .slice k2 uk.length l2, .slice k3 ud.length l3] 26)) ∧ Brow (w8.alloc (.cells #[.bool uf, .slice k1 uc.length l1, .slice k2 uk.length l2, .slice k3 ud.length l3] 26)) w.heap.size [.bool mf, .slice e1 ms.length f1, .slice e2 mk.length f2, .slice e3 md.length f3] 26 ∧ Brow (w8.alloc (.cells #[.bool uf, .slice k1 uc.length l1, .slice k2 uk.length l2, .slice k3 ud.length l3] 26)) X [.bool mf, .slice g1 ms.length h1, .slice g2 mk.length h2, .slice g3 md.length h3] 26 ∧ Lies (w8.alloc (.cells #[.bool uf, .slice k1 uc.length l1, .slice k2 uk.length l2, .slice k3 ud.length l3] 26)) ⟨mf, ms, mk, md⟩ ⟨e1, f1, e2, f2, e3, f3⟩ ∧ Lies (w8.alloc (.cells #[.bool uf, .slice k1 uc.length l1, .slice k2 uk.length l2, .slice k3 ud.length l3] 26)) ⟨mf, ms, mk, md⟩ ⟨g1, h1, g2, h2, g3, h3⟩) from ⟨HS8.out.1.trans (hB9.mono (by omega)), HS8.out.2.1.below hB9 (by omega), HS8.out.2.2.1.below hB9 (by omega), HS8.out.2.2.2.1.below hB9, HS8.out.2.2.2.2.below hB9⟩)
      have hs9 : X + 1 ≤ (w8.alloc (.cells #[.bool uf, .slice k1 uc.length l1, .slice k2 uk.length l2, .slice k3 ud.length l3] 26)).heap.size := by rw [size_alloc1]; omega
      clear hL8 hB8 hB9 HS7 HS8 HD3 hs7 hs8
      go_upto_region 10 with fail
      generalize (w8.alloc (.cells #[.bool uf, .slice k1 uc.length l1, .slice k2 uk.length l2, .slice k3 ud.length l3] 26)) = w9 at *
      have q0 := HS9.out.2.1.at 0 _ rfl
      have q1 := HS9.out.2.1.at 1 _ rfl
      have q2 := HS9.out.2.1.at 2 _ rfl
      have q3 := HS9.out.2.1.at 3 _ rfl
      have x0 := HS9.out.2.2.1.at 0 _ rfl
      have x1 := HS9.out.2.2.1.at 1 _ rfl
      have x2 := HS9.out.2.2.1.at 2 _ rfl
      have x3 := HS9.out.2.2.1.at 3 _ rfl
      go_wp2_with fail
      refine (HSM ⟨e1, f1, e2, f2, e3, f3⟩ ⟨g1, h1, g2, h2, g3, h3⟩ w9 HS9.out.2.2.2.1 HS9.out.2.2.2.2).mono ?_
      rintro e wA ⟨rfl, hBA⟩
      have HSA := (show Hid (Below w.heap.size w wA ∧ Brow wA w.heap.size [.bool mf, .slice e1 ms.length f1, .slice e2 mk.length f2, .slice e3 md.length f3] 26 ∧ Brow wA X [.bool mf, .slice g1 ms.length h1, .slice g2 mk.length h2, .slice g3 md.length h3] 26 ∧ Lies wA ⟨mf, ms, mk, md⟩ ⟨e1, f1, e2, f2, e3, f3⟩ ∧ Lies wA ⟨mf, ms, mk, md⟩ ⟨g1, h1, g2, h2, g3, h3⟩) from ⟨HS9.out.1.trans (hBA.mono (by omega)), HS9.out.2.1.below hBA (by omega), HS9.out.2.2.1.below hBA (by omega), HS9.out.2.2.2.1.below hBA, HS9.out.2.2.2.2.below hBA⟩)
      have hsA : X + 1 ≤ wA.heap.size := Nat.le_trans hs9 hBA.size
      clear hBA HS9 HSM hs9 q0 q1 q2 q3 x0 x1 x2 x3
      have q0 := HSA.out.2.1.at 0 _ rfl
      have q1 := HSA.out.2.1.at 1 _ rfl
      have q2 := HSA.out.2.1.at 2 _ rfl
      have q3 := HSA.out.2.1.at 3 _ rfl
      go_wp2_with fail
      refine (HSZ ⟨e1, f1, e2, f2, e3, f3⟩ wA HSA.out.2.2.2.1).mono ?_
      rintro e wB ⟨rfl, hBB⟩
      have HSB := (show Hid (Below w.heap.size w wB ∧ Brow wB w.heap.size [.bool mf, .slice e1 ms.length f1, .slice e2 mk.length f2, .slice e3 md.length f3] 26 ∧ Brow wB X [.bool mf, .slice g1 ms.length h1, .slice g2 mk.length h2, .slice g3 md.length h3] 26 ∧ Lies wB ⟨mf, ms, mk, md⟩ ⟨e1, f1, e2, f2, e3, f3⟩ ∧ Lies wB ⟨mf, ms, mk, md⟩ ⟨g1, h1, g2, h2, g3, h3⟩) from ⟨HSA.out.1.trans (hBB.mono (by omega)), HSA.out.2.1.below hBB (by omega), HSA.out.2.2.1.below hBB (by omega), HSA.out.2.2.2.1.below hBB, HSA.out.2.2.2.2.below hBB⟩)
      have hsB : X + 1 ≤ wB.heap.size := Nat.le_trans hsA hBB.size
      clear hBB HSA HSZ hsA q0 q1 q2 q3
      go_wp2_with fail
      refine (works_any wB).mono ?_
      rintro e wz ⟨rfl, hBz⟩
      have HBz : Hid (Below w.heap.size w wz) := HSB.out.1.trans (hBz.mono (by have := HSB.out.1.size; omega))
      clear hBz
      go_wp2
      go_ret
      exact ⟨rfl, HBz.out⟩
    · have he : encE m = 3 := by unfold encE; rw [if_pos hm, if_neg hz]
      have hs : encS m = ⟨#[]⟩ := by unfold encS; rw [decide_eq_false hz, Bool.and_false]; rfl
      rw [he, hs] at HEN
      have z5 : decide ((500 : Int) < (sizeN m : Int)) = true := decide_eq_true (by omega)
      have z6 : (500 : Int) < (sizeN m : Int) := by omega
      have z7 : 500 < sizeN m := by omega
      generalize sizeN m = Z at *
      clear hm he hs HSM hz hfit
      obtain ⟨mf, ms, mk, md⟩ := m
      unfold nv at *
      simp only at HFW HEN HSZ HCH ⊢
      go_enter Try.func5, Try.ntmps5
      go_wp2_with fail
      refine (HFW _ HB0.out).mono ?_
      rintro e w1 ⟨⟨e1, f1, e2, f2, e3, f3⟩, rfl, hL1, hB1⟩
      have HB1 : Hid (Below w.heap.size w w1) := HB0.out.trans (hB1.mono (by omega))
      have HN1 : Hid (Brow w1 w.heap.size [.bool lf, .slice a1 cs.length c1, .slice a2 ks.length c2, .slice a3 ds.length c3] 26) := HN0.out.below hB1 (by omega)
      have HL1 : Hid (LiesF w1 (w.heap.size + 1) ⟨mf, ms, mk, md⟩ ⟨e1, f1, e2, f2, e3, f3⟩) := hL1.mono hs0
      have hs1 : w.heap.size + 1 ≤ w1.heap.size := Nat.le_trans hs0 hB1.size
      clear hL1 hB1 HB0 HN0 hs0 HFW
      have HN2 := (show Hid (Brow (setN w1 w.heap.size (.bool mf) (.slice e1 ms.length f1) (.slice e2 mk.length f2) (.slice e3 md.length f3)) w.heap.size [.bool mf, .slice e1 ms.length f1, .slice e2 mk.length f2, .slice e3 md.length f3] 26) from setN_row HN1.out _ _ _ _)
      have HL2 := (show Hid (Lies (setN w1 w.heap.size (.bool mf) (.slice e1 ms.length f1) (.slice e2 mk.length f2) (.slice e3 md.length f3)) ⟨mf, ms, mk, md⟩ ⟨e1, f1, e2, f2, e3, f3⟩) from (setN_lies HL1.out (by omega) _ _ _ _).lies)
      have HB2 := (show Hid (Below w.heap.size w (setN w1 w.heap.size (.bool mf) (.slice e1 ms.length f1) (.slice e2 mk.length f2) (.slice e3 md.length f3))) from setN_below HB1.out (by omega) _ _ _ _)
      have hs2 : w.heap.size + 1 ≤ (setN w1 w.heap.size (.bool mf) (.slice e1 ms.length f1) (.slice e2 mk.length f2) (.slice e3 md.length f3)).heap.size := by rw [size_setN]; exact hs1
      have x0 := HN1.out.at 0 _ rfl
      have x1 := HN1.out.at 1 _ rfl
      have x2 := HN1.out.at 2 _ rfl
      have x3 := HN1.out.at 3 _ rfl
      have z0 := HN1.out.fz 0
      have z1 := HN1.out.fz 1
      have z2 := HN1.out.fz 2
      have z3 := HN1.out.fz 3
      have q0 := HN2.out.at 0 _ rfl
      have q1 := HN2.out.at 1 _ rfl
      have q2 := HN2.out.at 2 _ rfl
      have q3 := HN2.out.at 3 _ rfl
      clear HN1 HL1 HB1
      unfold setN at *
      go_wp2_with fail
      generalize ((((w1.setCell ⟨w.heap.size, 0, none⟩ (.bool mf)).setCell ⟨w.heap.size, 1, none⟩ (.slice e1 ms.length f1)).setCell ⟨w.heap.size, 2, none⟩ (.slice e2 mk.length f2)).setCell ⟨w.heap.size, 3, none⟩ (.slice e3 md.length f3)) = w2 at *
      clear x0 x1 x2 x3 z0 z1 z2 z3 q0 q1 q2 q3
      refine (HEN ⟨e1, f1, e2, f2, e3, f3⟩ w2 HL2.out).mono ?_
      rintro e w3 ⟨rfl, hB3⟩
      have HB3 : Hid (Below w.heap.size w w3) := HB2.out.trans (hB3.mono (by omega))
      have HN3 : Hid (Brow w3 w.heap.size [.bool mf, .slice e1 ms.length f1, .slice e2 mk.length f2, .slice e3 md.length f3] 26) := HN2.out.below hB3 (by omega)
      have HL3 : Hid (Lies w3 ⟨mf, ms, mk, md⟩ ⟨e1, f1, e2, f2, e3, f3⟩) := HL2.out.below hB3
      have hs3 : w.heap.size + 1 ≤ w3.heap.size := Nat.le_trans hs2 hB3.size
      clear hB3 HB2 HN2 HL2 HEN hs1 hs2
      have q0 := HN3.out.at 0 _ rfl
      have q1 := HN3.out.at 1 _ rfl
      have q2 := HN3.out.at 2 _ rfl
      have q3 := HN3.out.at 3 _ rfl
      go_wp2_with fail
      refine (HCH ⟨e1, f1, e2, f2, e3, f3⟩ w3 HL3.out).mono ?_
      rintro e w4 ⟨rfl, hB4⟩
      have HB4 : Hid (Below w.heap.size w w4) := HB3.out.trans (hB4.mono (by omega))
      have HN4 : Hid (Brow w4 w.heap.size [.bool mf, .slice e1 ms.length f1, .slice e2 mk.length f2, .slice e3 md.length f3] 26) := HN3.out.below hB4 (by omega)
      have HL4 : Hid (Lies w4 ⟨mf, ms, mk, md⟩ ⟨e1, f1, e2, f2, e3, f3⟩) := HL3.out.below hB4
      clear hB4 HB3 HN3 HL3 HCH q0 q1 q2 q3
      have q0 := HN4.out.at 0 _ rfl
      have q1 := HN4.out.at 1 _ rfl
      have q2 := HN4.out.at 2 _ rfl
      have q3 := HN4.out.at 3 _ rfl
      go_wp2_with fail
      refine (HSZ ⟨e1, f1, e2, f2, e3, f3⟩ w4 HL4.out).mono ?_
      rintro e w5 ⟨rfl, hB5⟩
      have HB5 : Hid (Below w.heap.size w w5) := HB4.out.trans (hB5.mono (by have := HB4.out.size; omega))
      clear hB5 HB4 HN4 HL4 HSZ q0 q1 q2 q3
      go_wp2_with fail
      refine (works_any w5).mono ?_
      rintro e wz ⟨rfl, hBz⟩
      have HBz : Hid (Below w.heap.size w wz) := HB5.out.trans (hBz.mono (by have := HB5.out.size; omega))
      clear hBz
      go_wp2
      go_ret
      exact ⟨rfl, HBz.out⟩
  · have he : encE m = 2 := by unfold encE; rw [if_neg hm]
    have hs : encS m = ⟨#[]⟩ := by unfold encS; rw [Bool.eq_false_iff.2 hm]; rfl
    rw [he, hs] at HEN
    rw [if_neg hm] at HCH
    clear hm he hs HSM HSZ hfit
    obtain ⟨mf, ms, mk, md⟩ := m
    unfold nv at *
    simp only at HFW HEN HCH ⊢
    go_enter Try.func5, Try.ntmps5
    go_wp2_with fail
    refine (HFW _ HB0.out).mono ?_
    rintro e w1 ⟨⟨e1, f1, e2, f2, e3, f3⟩, rfl, hL1, hB1⟩
    have HB1 : Hid (Below w.heap.size w w1) := HB0.out.trans (hB1.mono (by omega))
    have HN1 : Hid (Brow w1 w.heap.size [.bool lf, .slice a1 cs.length c1, .slice a2 ks.length c2, .slice a3 ds.length c3] 26) := HN0.out.below hB1 (by omega)
    have HL1 : Hid (LiesF w1 (w.heap.size + 1) ⟨mf, ms, mk, md⟩ ⟨e1, f1, e2, f2, e3, f3⟩) := hL1.mono hs0
    have hs1 : w.heap.size + 1 ≤ w1.heap.size := Nat.le_trans hs0 hB1.size
    clear hL1 hB1 HB0 HN0 hs0 HFW
    have HN2 := (show Hid (Brow (setN w1 w.heap.size (.bool mf) (.slice e1 ms.length f1) (.slice e2 mk.length f2) (.slice e3 md.length f3)) w.heap.size [.bool mf, .slice e1 ms.length f1, .slice e2 mk.length f2, .slice e3 md.length f3] 26) from setN_row HN1.out _ _ _ _)
    have HL2 := (show Hid (Lies (setN w1 w.heap.size (.bool mf) (.slice e1 ms.length f1) (.slice e2 mk.length f2) (.slice e3 md.length f3)) ⟨mf, ms, mk, md⟩ ⟨e1, f1, e2, f2, e3, f3⟩) from (setN_lies HL1.out (by omega) _ _ _ _).lies)
    have HB2 := (show Hid (Below w.heap.size w (setN w1 w.heap.size (.bool mf) (.slice e1 ms.length f1) (.slice e2 mk.length f2) (.slice e3 md.length f3))) from setN_below HB1.out (by omega) _ _ _ _)
    have hs2 : w.heap.size + 1 ≤ (setN w1 w.heap.size (.bool mf) (.slice e1 ms.length f1) (.slice e2 mk.length f2) (.slice e3 md.length f3)).heap.size := by rw [size_setN]; exact hs1
    have x0 := HN1.out.at 0 _ rfl
    have x1 := HN1.out.at 1 _ rfl
    have x2 := HN1.out.at 2 _ rfl
    have x3 := HN1.out.at 3 _ rfl
    have z0 := HN1.out.fz 0
    have z1 := HN1.out.fz 1
    have z2 := HN1.out.fz 2
    have z3 := HN1.out.fz 3
    have q0 := HN2.out.at 0 _ rfl
    have q1 := HN2.out.at 1 _ rfl
    have q2 := HN2.out.at 2 _ rfl
    have q3 := HN2.out.at 3 _ rfl
    clear HN1 HL1 HB1
    unfold setN at *
    go_wp2_with fail
    generalize ((((w1.setCell ⟨w.heap.size, 0, none⟩ (.bool mf)).setCell ⟨w.heap.size, 1, none⟩ (.slice e1 ms.length f1)).setCell ⟨w.heap.size, 2, none⟩ (.slice e2 mk.length f2)).setCell ⟨w.heap.size, 3, none⟩ (.slice e3 md.length f3)) = w2 at *
    clear x0 x1 x2 x3 z0 z1 z2 z3 q0 q1 q2 q3
    refine (HEN ⟨e1, f1, e2, f2, e3, f3⟩ w2 HL2.out).mono ?_
    rintro e w3 ⟨rfl, hB3⟩
    have HB3 : Hid (Below w.heap.size w w3) := HB2.out.trans (hB3.mono (by omega))
    have HN3 : Hid (Brow w3 w.heap.size [.bool mf, .slice e1 ms.length f1, .slice e2 mk.length f2, .slice e3 md.length f3] 26) := HN2.out.below hB3 (by omega)
    have HL3 : Hid (Lies w3 ⟨mf, ms, mk, md⟩ ⟨e1, f1, e2, f2, e3, f3⟩) := HL2.out.below hB3
    have hs3 : w.heap.size + 1 ≤ w3.heap.size := Nat.le_trans hs2 hB3.size
    clear hB3 HB2 HN2 HL2 HEN hs1 hs2
    have q0 := HN3.out.at 0 _ rfl
    have q1 := HN3.out.at 1 _ rfl
    have q2 := HN3.out.at 2 _ rfl
    have q3 := HN3.out.at 3 _ rfl
    go_wp2_with fail
    refine (HCH ⟨e1, f1, e2, f2, e3, f3⟩ w3 HL3.out).mono ?_
    rintro e w4 ⟨rfl, hB4⟩
    have HB4 : Hid (Below w.heap.size w w4) := HB3.out.trans (hB4.mono (by omega))
    clear hB4 HB3 HN3 HL3 HCH q0 q1 q2 q3
    go_wp2_with fail
    refine (works_any w4).mono ?_
    rintro e wz ⟨rfl, hBz⟩
    have HBz : Hid (Below w.heap.size w wz) := HB4.out.trans (hBz.mono (by have := HB4.out.size; omega))
    clear hBz
    go_wp2
    go_ret
    exact ⟨rfl, HBz.out⟩
end Go.Proofs.Ytoinaplmgffkpaa
