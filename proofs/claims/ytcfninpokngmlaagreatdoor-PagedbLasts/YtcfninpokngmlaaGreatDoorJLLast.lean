/- Proved: PagedbLasts' walk. -/
import Derived.Test.YtcfninpokngmlaaGreatDoorJDKeep
import Derived.Deep.DeepCutAuto
import Derived.Deep.CutBlock
namespace Go.Proofs.YtcfninpokngmlaaGreatDoor
open Go.RowKit
/- what came in, in boxes -/
structure LB (W : World) (aL aT : Nat) (k i n : Int) (s : ByteArray) (kp : Value) (x0 x1 x2 : Int) : Prop where
  bl : W.heap[aL]? = some (.cells #[.int .i64 k, .int .i64 i, .int .i64 n, .string s, kp] 28 (0, 0))
  bt : W.heap[aT]? = some (.cells #[.int .i64 x0, .int .i64 x1, .int .i64 x2] 75 (0, 0))
theorem LB.up {W wr : World} {aL aT : Nat} {k i n : Int} {s : ByteArray} {kp : Value} {x0 x1 x2 : Int} (h : LB W aL aT k i n s kp x0 x1 x2) (hB : Below W.heap.size W wr) : LB wr aL aT k i n s kp x0 x1 x2 :=
  ⟨(hB.block _ (Array.getElem?_eq_some_iff.1 h.bl).1).trans h.bl, (hB.block _ (Array.getElem?_eq_some_iff.1 h.bt).1).trans h.bt⟩
theorem LB.cl {W : World} {aL aT : Nat} {k i n : Int} {s : ByteArray} {kp : Value} {x0 x1 x2 : Int} (h : LB W aL aT k i n s kp x0 x1 x2) : W.cell? ⟨aL, 0, none⟩ = some (.int .i64 k) ∧ W.cell? ⟨aL, 1, none⟩ = some (.int .i64 i) ∧ W.cell? ⟨aL, 2, none⟩ = some (.int .i64 n) ∧ W.cell? ⟨aL, 3, none⟩ = some (.string s) ∧ W.cell? ⟨aL, 4, none⟩ = some kp :=
  ⟨(cell_of_row W aL 0 _ _ (0, 0) h.bl).trans rfl, (cell_of_row W aL 1 _ _ (0, 0) h.bl).trans rfl, (cell_of_row W aL 2 _ _ (0, 0) h.bl).trans rfl, (cell_of_row W aL 3 _ _ (0, 0) h.bl).trans rfl, (cell_of_row W aL 4 _ _ (0, 0) h.bl).trans rfl⟩
theorem LB.ct {W : World} {aL aT : Nat} {k i n : Int} {s : ByteArray} {kp : Value} {x0 x1 x2 : Int} (h : LB W aL aT k i n s kp x0 x1 x2) : W.cell? ⟨aT, 0, none⟩ = some (.int .i64 x0) ∧ W.cell? ⟨aT, 1, none⟩ = some (.int .i64 x1) ∧ W.cell? ⟨aT, 2, none⟩ = some (.int .i64 x2) :=
  ⟨(cell_of_row W aT 0 _ _ (0, 0) h.bt).trans rfl, (cell_of_row W aT 1 _ _ (0, 0) h.bt).trans rfl, (cell_of_row W aT 2 _ _ (0, 0) h.bt).trans rfl⟩
theorem lb_start (w : World) (k i n : Int) (s : ByteArray) (kp : Value) (x0 x1 x2 : Int) : LB ((w.alloc (.cells #[.int .i64 k, .int .i64 i, .int .i64 n, .string s, kp] 28)).alloc (.cells #[.int .i64 x0, .int .i64 x1, .int .i64 x2] 75)) w.heap.size (w.heap.size + 1) k i n s kp x0 x1 x2 ∧ Below w.heap.size w ((w.alloc (.cells #[.int .i64 k, .int .i64 i, .int .i64 n, .string s, kp] 28)).alloc (.cells #[.int .i64 x0, .int .i64 x1, .int .i64 x2] 75)) := by
  have s1 : (w.alloc (.cells #[.int .i64 k, .int .i64 i, .int .i64 n, .string s, kp] 28)).heap.size = w.heap.size + 1 := by simp
  have h1 := heap_alloc_new w (.cells #[.int .i64 k, .int .i64 i, .int .i64 n, .string s, kp] 28)
  have h2 := heap_alloc_new (w.alloc (.cells #[.int .i64 k, .int .i64 i, .int .i64 n, .string s, kp] 28)) (.cells #[.int .i64 x0, .int .i64 x1, .int .i64 x2] 75)
  rw [s1] at h2
  refine ⟨⟨?_, h2⟩, ((Below.refl _ w).alloc (Nat.le_refl _) _).alloc (by rw [s1]; omega) _⟩
  rw [Below.heap_alloc _ _ _ (by rw [s1]; omega)]
  exact h1
theorem made156 : (Sc.made 156).kept.length = 156 := by show (List.replicate 156 Sc.zero64).length = 156; rw [List.length_replicate]
set_option maxHeartbeats 8000000 in
set_option maxRecDepth 20000 in
theorem lasts_walk (a : Option Addr) (len cap : Nat) (x : Actv) (x0 x1 x2 : Int) (w : World) (hA : Acts w a len) (hlc : len ≤ cap) (hcm : cap ≤ 9223372036854775807) (hx : x.Fits w) (_h0 : In64 x0) (_h1 : In64 x1) (_h2 : In64 x2) (hT : Tab w) :
    Calls Tryz.prog 6 #[.slice a len cap, .agg x.cells, .agg #[.int .i64 x0, .int .i64 x1, .int .i64 x2]] w fun e w' => e = .returned (.bool true) ∧ Below w.heap.size w w' := by
  have HT : Hid (Tab w) := hT
  have hpos := hT.pos
  obtain ⟨xk, xi, xd, xs, ka, kl, kc, xm⟩ := x
  have hxs : xs.size ≤ 9223372036854775807 := hx.s
  have HAC : Hid (Acts w a len) := hA
  have HLB := (show Hid _ from lb_start w xk xi xd xs (.slice ka kl kc) x0 x1 x2)
  clear hT hA hx
  unfold Actv.cells
  simp only
  go_enter Tryz.func6, Tryz.ntmps6
  go_wp2_with fail
  generalize World.alloc (World.alloc w _) _ = W at *
  have HTW : Hid (Tab W) := HT.out.below HLB.out.2 hpos
  obtain ⟨aL, haL⟩ : ∃ a, w.heap.size = a := ⟨_, rfl⟩
  obtain ⟨aT, haT⟩ : ∃ a, w.heap.size + 1 = a := ⟨_, rfl⟩
  rw [haT, haL] at HLB
  rw [haT, haL]
  have HB0 : Hid (Below w.heap.size w W) := by rw [haL]; exact HLB.out.2
  have HXB : Hid (LB W aL aT xk xi xd xs (.slice ka kl kc) x0 x1 x2) := HLB.out.1
  have hpw := HTW.out.pos
  clear HLB haL haT
  refine (new_any 156 W (by omega) (by omega)).mono ?_
  rintro e w0 ⟨g, kg, rfl, hD0, hB0, hg, hkg⟩
  have G0 : Hid (GK W w0 g kg nil0 (Sc.made 156) 60 12 0 Pd.Ab.init) := made_gk g kg 156 60 12 hD0 HTW.out hB0 hg hkg (by omega) (by omega) (by omega) (by omega) (by omega)
  clear hD0 hB0 hg hkg
  go_wp2_with fail
  refine (gopen1 g kg nil0 (Sc.made 156) 60 12 G0.out (by omega) rfl).mono ?_
  rintro e w1 ⟨A1, d1, rfl, hAg, hAk, hG1, hn1, hc1, hk1, hlf1, _⟩
  have G1 : Hid (GD W w1 A1 (0 + 8 * 12 + 4) d1 Pd.Ab.init) := hG1
  have N1 : Hid (d1.n = 60 ∧ d1.cnt = 12 ∧ d1.s.left = -1 ∧ d1.s.kept.length = 156) := ⟨hn1, hc1, hlf1 rfl, hk1.trans made156⟩
  have HAG : Hid (A1.g = g ∧ A1.kg = kg) := ⟨hAg, hAk⟩
  clear hG1 hn1 hc1 hlf1 hk1 G0 hAg hAk
  have HBD := build_any a len cap 10 (HAC.out.up HB0.out) hlc hcm (by omega) G1.out N1.out.2.2.1 164 (by rw [N1.out.1, N1.out.2.1]) (by omega) (by rw [N1.out.1]; omega)
  go_wp2_with fail
  refine HBD.mono ?_
  rintro e w2 ⟨rfl, A2, d2, S, hB2⟩
  have hax : A2.x = A1.x := by obtain ⟨_, _, _, rfl⟩ := hB2.to; rfl
  have hag : A2.g = g := by obtain ⟨_, _, _, rfl⟩ := hB2.to; exact HAG.out.1
  have hak : A2.kg = kg := by obtain ⟨_, _, _, rfl⟩ := hB2.to; exact HAG.out.2
  have HAK : Hid (A2.kg = kg) := hak
  have G2 : Hid (GD W w2 A2 1740 d2 S) := hB2.gd
  have N2 : Hid (d2.n = 60 ∧ d2.cnt = 12 ∧ d2.s.kept.length = 156) := ⟨hB2.kin.n.trans N1.out.1, hB2.kin.cnt.trans N1.out.2.1, hB2.kin.len.trans N1.out.2.2.2⟩
  clear hB2 HBD G1 N1 HAG hak
  have HST := state_any G2.out hpw
  rw [hax] at HST
  go_wp2_with fail
  refine HST.mono ?_
  rintro e w3 ⟨vP, vF, vR, rfl, hG3, hO3, hap, _⟩
  have hposS := hG3.inv.fnd.ok.pos
  have HOK : Hid (S.Ok 12) := by have := hG3.inv.fnd.ok; rw [N2.out.2.1] at this; exact this
  have hmx : S.pgs.length ≤ 1000 := Nat.le_trans hG3.inv.fnd.ok.most hG3.inv.fnd.ok.small
  have hmf : S.freed.length ≤ 1000 := by have := hG3.inv.fnd.ok.free_lt; omega
  have HWB : Hid (Wz (w3.alloc (.cells #[vP, vF, vR] 39)) A2.ft w3.heap.size vP vF vR S) := wz_start hO3 hG3.db.lt hap
  obtain ⟨aP, cP, hvP⟩ := own_slice hO3.pg
  obtain ⟨aF, cF, hvF⟩ := own_slice hO3.fr
  obtain ⟨aR, cR, hvR⟩ := own_slice hO3.rt
  subst hvP hvF hvR
  have G3 : Hid (GD W (w3.alloc (.cells #[.slice aP S.pgs.length cP, .slice aF S.freed.length cF, .slice aR 4 cR] 39)) A2 1740 d2 S) := hG3.below ((Below.refl _ _).alloc (Nat.le_refl _) _)
  clear hG3 hO3 hap HST G2
  have HBE := gbegin G3.out
  rw [hax] at HBE
  go_wp2_with fail
  refine HBE.mono ?_
  rintro e w5 ⟨t, bt, rfl, hG5, hT5⟩
  have HW5 : Hid (Wz w5 (tft A2 t bt) w3.heap.size (.slice aP S.pgs.length cP) (.slice aF S.freed.length cF) (.slice aR 4 cR) S) := HWB.out.turn hT5
  have G5 : Hid (GT W w5 A2 t bt 1740 d2 S S false []) := hG5
  clear hG5 hT5 HBE HWB G3
  generalize w3.heap.size = u at *
  obtain ⟨z0, z1, z2⟩ := (HXB.out.up G5.out.bel).ct
  go_upto_if 59 with fail
  go_cut [] (fun wx => ∃ T tm, GT W wx A2 t bt 1740 d2 S T false tm ∧ Wz wx (tft A2 t bt) u (.slice aP S.pgs.length cP) (.slice aF S.freed.length cF) (.slice aR 4 cR) S ∧ (x0.tmod 3 = 0 → T = S) ∧ (¬ x0.tmod 3 = 0 → T = chA S 12 (chOf xk xi xd xs)))
  case first =>
    by_cases hm3 : x0.tmod 3 = 0
    · have f1 : (x0.tmod 3 != 0) = false := by simp [hm3]
      have f2 : decide (x0.tmod 3 = 0) = true := by simp [hm3]
      have HFN : Hid (∃ T tm, GT W w5 A2 t bt 1740 d2 S T false tm ∧ Wz w5 (tft A2 t bt) u (.slice aP S.pgs.length cP) (.slice aF S.freed.length cF) (.slice aR 4 cR) S ∧ (x0.tmod 3 = 0 → T = S) ∧ (¬ x0.tmod 3 = 0 → T = chA S 12 (chOf xk xi xd xs))) := ⟨S, [], G5.out, HW5.out, fun _ => rfl, fun h => absurd hm3 h⟩
      clear G5 HW5
      go_wp2_with fail
      go_meet
      case rel => exact HFN.out
    · have f1 : (x0.tmod 3 != 0) = true := by simp [hm3]
      have f2 : decide (x0.tmod 3 = 0) = false := by simp [hm3]
      obtain ⟨l0, l1, l2, l3, l4⟩ := (HXB.out.up G5.out.bel).cl
      have HCH := change_any xk xi xd xs (.slice ka kl kc) hxs G5.out
      rw [N2.out.2.1] at HCH
      unfold actV at HCH
      go_wp2_with fail
      refine HCH.mono ?_
      rintro e w6 ⟨rfl, ⟨tm6, hG6⟩, hT6⟩
      have HFN : Hid (∃ T tm, GT W w6 A2 t bt 1740 d2 S T false tm ∧ Wz w6 (tft A2 t bt) u (.slice aP S.pgs.length cP) (.slice aF S.freed.length cF) (.slice aR 4 cR) S ∧ (x0.tmod 3 = 0 → T = S) ∧ (¬ x0.tmod 3 = 0 → T = chA S 12 (chOf xk xi xd xs))) := ⟨_, tm6, hG6, HW5.out.turn hT6, fun h => absurd h hm3, fun _ => rfl⟩
      clear hG6 hT6 HCH G5 HW5 l0 l1 l2 l3 l4 z0 z1 z2
      go_wp2_with fail
      go_meet
      case rel => exact HFN.out
  case rest =>
    obtain ⟨T, tm, hG6, hW6, hTa, hTb⟩ := hcut
    have HG6 : Hid (GT W wc A2 t bt 1740 d2 S T false tm) := hG6
    have HW6 : Hid (Wz wc (tft A2 t bt) u (.slice aP S.pgs.length cP) (.slice aF S.freed.length cF) (.slice aR 4 cR) S) := hW6
    have HTT : Hid ((x0.tmod 3 = 0 → T = S) ∧ (¬ x0.tmod 3 = 0 → T = chA S 12 (chOf xk xi xd xs))) := ⟨hTa, hTb⟩
    clear hG6 hW6 hTa hTb G5 HW5 z0 z1 z2
    obtain ⟨z0, z1, z2⟩ := (HXB.out.up HG6.out.bel).ct
    obtain ⟨K60, hK60, e1, e2, b1, b2⟩ := mod_pos x1 60 (by omega)
    have e1 : (x1.tmod 60 + 60).tmod 60 = (K60 : Int) := e1
    have e2 : (x1.tmod 60 + 60) % 60 = (K60 : Int) := e2
    have hwr : IntKind.i64.wrap (x1.tmod 60 + 60) = x1.tmod 60 + 60 := by have b1 : -60 < x1.tmod 60 := b1; have b2 : x1.tmod 60 < 60 := b2; rw [IntKind.wrap_i64]; omega
    clear b1 b2
    have HAR := garmT (K60 : Int) (by omega) HG6.out
    rw [hag] at HAR
    go_wp2_with fail
    refine HAR.mono ?_
    rintro e w7 ⟨rfl, vp7, hG7, hT7⟩
    have HG7 : Hid (GT W w7 (A2.to A2.vr A2.vw vp7) t bt 1740 { d2 with s := Sc.armed d2.s (K60 : Int) } S T false tm) := hG7
    have HW7 : Hid (Wz w7 (tft (A2.to A2.vr A2.vw vp7) t bt) u (.slice aP S.pgs.length cP) (.slice aF S.freed.length cF) (.slice aR 4 cR) S) := HW6.out.turn hT7
    have HAX : Hid ((A2.to A2.vr A2.vw vp7).x = A1.x ∧ (A2.to A2.vr A2.vw vp7).g = g ∧ (A2.to A2.vr A2.vw vp7).kg = kg) := ⟨hax, hag, HAK.out⟩
    have N3 : Hid (({ d2 with s := Sc.armed d2.s (K60 : Int) } : Pd.Db).n = 60 ∧ ({ d2 with s := Sc.armed d2.s (K60 : Int) } : Pd.Db).cnt = 12 ∧ ({ d2 with s := Sc.armed d2.s (K60 : Int) } : Pd.Db).s.kept.length = 156) := N2.out
    clear hG7 hT7 HAR HG6 HW6 e1 e2 hwr z0 z1 z2 N2 hax hag HAK
    generalize ({ d2 with s := Sc.armed d2.s (K60 : Int) } : Pd.Db) = d3 at *
    generalize A2.to A2.vr A2.vw vp7 = A3 at *
    have HCO := gcommit HG7.out (by omega) (by rw [N3.out.1]; omega)
    have HCE : Hid (comE d3.n false tm = 0 ∨ comE d3.n false tm = 7) := by
      unfold comE
      rw [if_neg (by decide)]
      split
      · exact .inr rfl
      · exact .inl rfl
    have HCA : Hid (comE d3.n false tm = 0 → comA d3.n false tm S T = T) := fun h => by unfold comA; rw [if_pos h]
    go_wp2_with fail
    have HCO2 : Calls Tryz.prog 33 #[ptr t] w7 fun e w' => ∃ gg : Int, e = .returned (.int .i64 gg) ∧ ((gg = comE d3.n false tm ∧ ∃ A d, A.x = A3.x ∧ A.g = A3.g ∧ A.kg = A3.kg ∧ GD W w' A 1904 d (comA d3.n false tm S T) ∧ (d.n = 60 ∧ d.cnt = 12 ∧ d.s.kept.length = 156) ∧ Wz w' (A.ft) u (.slice aP S.pgs.length cP) (.slice aF S.freed.length cF) (.slice aR 4 cR) S) ∨ (gg = 10 ∧ ∃ vp s, Pw W w' A3.g A3.kg vp s 60 12 2100 S T ∧ s.kept.length = 156 ∧ Wz w' (foot A3.g A3.kg vp) u (.slice aP S.pgs.length cP) (.slice aF S.freed.length cF) (.slice aR 4 cR) S)) := by
      refine HCO.mono ?_
      rintro e w8 (⟨rfl, vr, vw, vp, d8, hG8, hk8, _, hT8⟩ | ⟨_, _, hf⟩)
      · refine ⟨_, rfl, .inl ⟨rfl, A3.to vr vw vp, d8, rfl, rfl, rfl, hG8.raise (by rw [N3.out.1, N3.out.2.1]; omega), ⟨hk8.n.trans N3.out.1, hk8.cnt.trans N3.out.2.1, hk8.len.trans N3.out.2.2⟩, (HW7.out.turn hT8).less (fun k hk => tft_a hk)⟩⟩
      · obtain ⟨rfl, vp, s, h1, h2, h3⟩ := pw_com HG7.out hf hpw N3.out HW7.out (by rw [N3.out.1, N3.out.2.1]; omega)
        exact ⟨_, rfl, .inr ⟨rfl, vp, s, h1, h2, h3⟩⟩
    clear HCO
    refine HCO2.mono ?_
    rintro e w8 ⟨gg, rfl, hor⟩
    have HOR := (show Hid _ from hor)
    clear hor HCO2 HG7 HW7
    go_upto_region 15 with fail
    go_cut [79] (fun s79 wx => ∃ bb : Bool, s79 = .bool bb ∧ bb = decide (gg = 0 ∧ ¬ x0.tmod 2 = 0) ∧ wx = w8)
    case first =>
      have HBW : Hid (Below W.heap.size W w8) := by
        rcases HOR.out with ⟨_, A, d, _, _, _, h, _⟩ | ⟨_, vp, s, h, _⟩
        · exact h.bel
        · exact h.bel
      obtain ⟨z0, z1, z2⟩ := (HXB.out.up HBW.out).ct
      clear HBW
      by_cases hg0 : gg = 0
      · have f0 : (gg == 0) = true := by simp [hg0]
        by_cases hm2 : x0.tmod 2 = 0
        · have f1 : (x0.tmod 2 != 0) = false := by simp [hm2]
          have f2 : decide (x0.tmod 2 = 0) = true := by simp [hm2]
          have HFN : Hid (decide (gg = 0 ∧ ¬ x0.tmod 2 = 0) = false) := by show _ = _; simp [hm2]
          clear hg0
          go_wp2_with fail
          go_meet
          case rel => exact ⟨_, rfl, HFN.out.symm, rfl⟩
        · have f1 : (x0.tmod 2 != 0) = true := by simp [hm2]
          have f2 : decide (x0.tmod 2 = 0) = false := by simp [hm2]
          have HFN : Hid (decide (gg = 0 ∧ ¬ x0.tmod 2 = 0) = true) := by show _ = _; simp [hm2, hg0]
          clear hg0
          go_wp2_with fail
          go_meet
          case rel => exact ⟨_, rfl, HFN.out.symm, rfl⟩
      · have f0 : (gg == 0) = false := by simp [hg0]
        have f3 : decide (gg = 0) = false := by simp [hg0]
        have HFN : Hid (decide (gg = 0 ∧ ¬ x0.tmod 2 = 0) = false) := by show _ = _; simp [hg0]
        go_wp2_with fail
        go_meet
        case rel => exact ⟨_, rfl, HFN.out.symm, rfl⟩
    case rest =>
      obtain ⟨bb, rfl, hbb, hwc⟩ := hcut
      subst hwc
      have HBB : Hid (bb = decide (gg = 0 ∧ ¬ x0.tmod 2 = 0)) := hbb
      clear hbb
      go_upto_if 79 with fail
      go_cut [15] (fun s15 wx => ∃ gg' : Int, s15 = .int .i64 gg' ∧ AftC W wx A3 gg' S T u (.slice aP S.pgs.length cP) (.slice aF S.freed.length cF) (.slice aR 4 cR))
      case first =>
        cases bb with
        | true =>
          have hg0 : gg = 0 := (of_decide_eq_true HBB.out.symm).1
          rcases HOR.out with ⟨hge, A, d, hAx, hAg, hAk, hG, hN, hZ⟩ | ⟨hge, _⟩
          · have HCK : Calls Tryz.prog 25 #[ptr A1.x] wc fun e w' => ∃ gg' : Int, e = .returned (.int .i64 gg') ∧ AftC W w' A3 gg' S T u (.slice aP S.pgs.length cP) (.slice aF S.freed.length cF) (.slice aR 4 cR) := by
              have hck := gckpt hG (by omega)
              rw [hAx, HAX.out.1] at hck
              refine hck.mono ?_
              rintro e w9 (⟨rfl, vr, vw, vp, d9, hG9, hk9, hT9⟩ | hf)
              · exact ⟨0, rfl, .inl ⟨A.to vr vw vp, d9, _, hAx, hAg, hAk, hG9.raise (by rw [hN.2.1]; omega), ⟨hk9.n.trans hN.1, hk9.cnt.trans hN.2.1, hk9.len.trans hN.2.2⟩, .inl rfl, hZ.turn hT9⟩⟩
              · rw [HCA.out (hge.symm.trans hg0)] at hG hf
                obtain ⟨rfl, vp, s, h1, h2, h3⟩ := pw_ck hG hf hpw hN hZ (by rw [hN.2.1]; omega)
                rw [hAg, hAk] at h1 h3
                exact ⟨10, rfl, .inr ⟨rfl, vp, s, h1, h2, h3⟩⟩
            clear hge hAx hAg hAk hG hN hZ hg0 HOR
            go_wp2_with fail
            refine HCK.mono ?_
            rintro e w9 ⟨gg', rfl, hF⟩
            have HFN := (show Hid _ from hF)
            clear hF HCK
            go_wp2_with fail
            go_meet
            case rel => exact ⟨gg', rfl, HFN.out⟩
          · exact absurd (hg0.symm.trans hge) (by decide)
        | false =>
          have HFN : Hid (AftC W wc A3 gg S T u (.slice aP S.pgs.length cP) (.slice aF S.freed.length cF) (.slice aR 4 cR)) := by
            rcases HOR.out with ⟨hge, A, d, hAx, hAg, hAk, hG, hN, hZ⟩ | ⟨hge, h⟩
            · exact .inl ⟨A, d, _, hAx, hAg, hAk, hG.raise (by omega), hN, by rw [hge]; exact HCE.out, hZ⟩
            · exact .inr ⟨hge, h⟩
          clear HOR
          go_wp2_with fail
          go_meet
          case rel => exact ⟨gg, rfl, HFN.out⟩
      case rest =>
        obtain ⟨g2, rfl, hAC⟩ := hcut
        have HAF : Hid (AftC W wc A3 g2 S T u (.slice aP S.pgs.length cP) (.slice aF S.freed.length cF) (.slice aR 4 cR)) := hAC
        clear hAC HOR HCE HCA
        rename World => wo
        have HZW : Hid (wo.cell? ⟨u, 0, none⟩ = some (.slice aP S.pgs.length cP) ∧ wo.cell? ⟨u, 1, none⟩ = some (.slice aF S.freed.length cF) ∧ wo.cell? ⟨u, 2, none⟩ = some (.slice aR 4 cR)) := by
          rcases HAF.out with ⟨A, d, I, _, _, _, _, _, _, hZ⟩ | ⟨_, vp, s, _, _, hZ⟩
          · exact hZ.cells
          · exact hZ.cells
        obtain ⟨m0, m1, m2⟩ := HZW.out
        clear HZW
        go_wp2_with fail
        clear m0 m1 m2
        have HDN : Calls Tryz.prog 37 #[ptr g] (wo.alloc (.cells #[.slice aP S.pgs.length cP, .slice aF S.freed.length cF, .slice aR 4 cR] 39)) fun e w' => ∃ dn : Bool, e = .returned (.bool dn) ∧ w' = wo.alloc (.cells #[.slice aP S.pgs.length cP, .slice aF S.freed.length cF, .slice aR 4 cR] 39) ∧ ((dn = false ∧ ∃ A d I, A.x = A3.x ∧ A.g = A3.g ∧ A.kg = A3.kg ∧ GD W wo A 2100 d I ∧ (d.n = 60 ∧ d.cnt = 12 ∧ d.s.kept.length = 156) ∧ (g2 = 0 ∨ g2 = 7) ∧ Wz wo (A.ft) u (.slice aP S.pgs.length cP) (.slice aF S.freed.length cF) (.slice aR 4 cR) S) ∨ (dn = true ∧ g2 = 10 ∧ ∃ vp s, Pw W wo A3.g A3.kg vp s 60 12 2100 S T ∧ s.kept.length = 156 ∧ Wz wo (foot A3.g A3.kg vp) u (.slice aP S.pgs.length cP) (.slice aF S.freed.length cF) (.slice aR 4 cR) S)) := by
          rcases HAF.out with ⟨A, d, I, hAx, hAg, hAk, hG, hN, hgg, hZ⟩ | ⟨hgg, vp, s, hP, hl, hZ⟩
          · have h1 := down_any A.g A.kg A.vp d.s _ (hG.below ((Below.refl _ wo).alloc (Nat.le_refl _) (.cells #[.slice aP S.pgs.length cP, .slice aF S.freed.length cF, .slice aR 4 cR] 39))).db.lp.dk
            rw [hAg, HAX.out.2.1] at h1
            refine h1.mono ?_
            rintro e w' ⟨rfl, rfl⟩
            exact ⟨_, rfl, rfl, .inl ⟨hG.inv.down, A, d, I, hAx, hAg, hAk, hG, hN, hgg, hZ⟩⟩
          · have h1 := down_any A3.g A3.kg vp s _ (hP.below ((Below.refl _ wo).alloc (Nat.le_refl _) (.cells #[.slice aP S.pgs.length cP, .slice aF S.freed.length cF, .slice aR 4 cR] 39))).dk
            rw [HAX.out.2.1] at h1
            refine h1.mono ?_
            rintro e w' ⟨rfl, rfl⟩
            exact ⟨_, rfl, rfl, .inr ⟨hP.down, hgg, vp, s, hP, hl, hZ⟩⟩
        clear HAF
        refine HDN.mono ?_
        rintro e w9 ⟨dn, rfl, hw9, hor⟩
        rw [hw9]
        have HOR2 := (show Hid _ from hor)
        clear hw9 w9 hor HDN
        go_upto_if 85 with fail
        go_cut [12] (fun s12 wx => s12 = .bool true ∧ AftO W wx g kg g2 S T u (.slice aP S.pgs.length cP) (.slice aF S.freed.length cF) (.slice aR 4 cR) wo.heap.size)
        case first =>
          rcases HOR2.out with ⟨rfl, A, d, I, hAx, hAg, hAk, hG, hN, hgg, hZ⟩ | ⟨rfl, hgg, vp, s, hP, hl, hZ⟩
          · have HG9 : Hid (GD W (wo.alloc (.cells #[.slice aP S.pgs.length cP, .slice aF S.freed.length cF, .slice aR 4 cR] 39)) A 2100 d I) := hG.below ((Below.refl _ _).alloc (Nat.le_refl _) _)
            have HX : Hid (A.x = A1.x ∧ A.g = g ∧ A.kg = kg) := ⟨hAx.trans HAX.out.1, hAg.trans HAX.out.2.1, hAk.trans HAX.out.2.2⟩
            have HGZ : Hid (GD W wo A 2100 d I ∧ Wz wo (A.ft) u (.slice aP S.pgs.length cP) (.slice aF S.freed.length cF) (.slice aR 4 cR) S ∧ (d.n = 60 ∧ d.cnt = 12 ∧ d.s.kept.length = 156) ∧ (g2 = 0 ∨ g2 = 7)) := ⟨hG, hZ, hN, hgg⟩
            clear HOR2 hAx hAg hAk hG hN hgg hZ
            have HST := state_any HG9.out hpw
            rw [HX.out.1] at HST
            go_wp2_with fail
            refine HST.mono ?_
            rintro e w10 ⟨vP2, vF2, vR2, rfl, hG10, hO10, hap10, hT10⟩
            have HUP := (show Hid _ from aft_up HGZ.out.1 HGZ.out.2.1 hpw hG10 hO10 hap10 hT10)
            obtain ⟨aP2, cP2, hvP2⟩ := own_slice hO10.pg
            obtain ⟨aF2, cF2, hvF2⟩ := own_slice hO10.fr
            obtain ⟨aR2, cR2, hvR2⟩ := own_slice hO10.rt
            subst hvP2 hvF2 hvR2
            clear hG10 hO10 hap10 hT10 HST HG9
            have q0 : w10.cell? ⟨wo.heap.size, 0, none⟩ = some (.slice aP S.pgs.length cP) := (cell_of_row w10 _ 0 _ _ (0, 0) HUP.out.1).trans rfl
            have q1 : w10.cell? ⟨wo.heap.size, 1, none⟩ = some (.slice aF S.freed.length cF) := (cell_of_row w10 _ 1 _ _ (0, 0) HUP.out.1).trans rfl
            have q2 : w10.cell? ⟨wo.heap.size, 2, none⟩ = some (.slice aR 4 cR) := (cell_of_row w10 _ 2 _ _ (0, 0) HUP.out.1).trans rfl
            have qz : ∀ i, w10.frozen? ⟨wo.heap.size, i, none⟩ = false := fun i => frozen_of_row w10 _ i _ _ HUP.out.1
            have HOF := goff (HUP.out.2.1.disk (by rw [HGZ.out.2.2.1.1, HGZ.out.2.2.1.2.1, HGZ.out.2.2.1.2.2]) (by rw [HGZ.out.2.2.1.2.1]; omega) hpw)
            rw [HGZ.out.2.2.1.1, HGZ.out.2.2.1.2.1, HX.out.2.1, HX.out.2.2] at HOF
            unfold set3 at HOF
            go_wp2_with fail
            refine HOF.mono ?_
            rintro e w11 ⟨rfl, vp11, hP11, hT11⟩
            have HFN : Hid (AftO W w11 g kg g2 S T u (.slice aP S.pgs.length cP) (.slice aF S.freed.length cF) (.slice aR 4 cR) wo.heap.size) := by
              have hft := foot_ft A
              rw [HX.out.2.1, HX.out.2.2] at hft
              exact ⟨vp11, _, I, _, _, _, I, I, hP11, HGZ.out.2.2.1.2.2, (HUP.out.2.2.1.less hft).turn hT11, (HUP.out.2.2.2.less hft).turn hT11, ok_small HUP.out.2.1.inv.fnd.ok, .inl ⟨HGZ.out.2.2.2, rfl⟩, .inl ⟨HGZ.out.2.2.2, rfl⟩⟩
            clear HOF HUP HGZ hP11 hT11 q0 q1 q2 qz
            go_wp2_with fail
            go_meet
            case rel => exact ⟨rfl, HFN.out⟩
          · have HFN : Hid (AftO W (wo.alloc (.cells #[.slice aP S.pgs.length cP, .slice aF S.freed.length cF, .slice aR 4 cR] 39)) g kg g2 S T u (.slice aP S.pgs.length cP) (.slice aF S.freed.length cF) (.slice aR 4 cR) wo.heap.size) := by
              rw [HAX.out.2.1, HAX.out.2.2] at hP hZ
              obtain ⟨z1, z2⟩ := wz_copy hZ hP.dk.lt
              exact ⟨vp, s, S, _, _, _, S, T, hP.below ((Below.refl _ _).alloc (Nat.le_refl _) _), hl, z1, z2, ⟨hposS, hmx, hmf⟩, .inr ⟨hgg, .inl rfl⟩, .inr ⟨hgg, .inr rfl⟩⟩
            clear HOR2 hP hl hZ hgg
            go_wp2_with fail
            go_meet
            case rel => exact ⟨rfl, HFN.out⟩
        case rest =>
          generalize wo.heap.size = u2 at *
          obtain ⟨rfl, vp, s, I, p2, f2, r2, R0, R1, hP, hl, hz1, hz2, hI, hF0, hF1⟩ := hcut
          clear HOR2
          rename World => wk
          have HP : Hid (Pw W wk g kg vp s 60 12 2100 R0 R1) := hP
          have HZ : Hid (Wz wk (foot g kg vp) u (.slice aP S.pgs.length cP) (.slice aF S.freed.length cF) (.slice aR 4 cR) S ∧ Wz wk (foot g kg vp) u2 p2 f2 r2 I) := ⟨hz1, hz2⟩
          have HFI : Hid (Fin g2 S T I R0 ∧ Fin g2 S T I R1 ∧ s.kept.length = 156) := ⟨hF0, hF1, hl⟩
          obtain ⟨hI1, hI2, hI3⟩ := hI
          clear hP hz1 hz2 hF0 hF1 hl
          go_wp2_with fail
          go_loopw [17, 18, 93] (fun s17 _ s93 wr => ∃ (k : Nat) (bs : List Bool), k ≤ 62 ∧ s93 = .int .i64 (k : Int) ∧ wr.ownsRow wk.heap.size 4 1 s17 k (bs.map Value.bool) ∧ Below wk.heap.size wk wr) (fun _ _ s93 _ => 62 - (intOf s93).toNat)
          case atStart => exact ⟨0, [], by omega, rfl, World.ownsRow_nil _ _ _ _, Below.refl _ _⟩
          case round =>
            obtain ⟨k, bs, hk, rfl, hO, hB⟩ := hrel
            have HO := (show Hid (wr.ownsRow wk.heap.size 4 1 _ k (bs.map Value.bool)) from hO)
            have HBk : Hid (Below wk.heap.size wk wr) := hB
            have hsk := hB.size
            have z2 := (HXB.out.up (HP.out.bel.trans (hB.mono HP.out.bel.size))).ct.2.2
            clear hO hB
            by_cases hk62 : k < 62
            · have dk : decide ((k : Int) < 62) = true := decide_eq_true (by omega)
              have k0 : (0 : Int) ≤ (k : Int) := by omega
              have k1 : (k : Int) < 62 := by omega
              have hk1m : k + 1 ≤ 1000000 := by omega
              have hskA : ∀ o, wk.heap.size ≤ (wr.alloc o).heap.size := fun o => by simp; omega
              go_wp2_with (at_builtin; (refine app_bool rfl (.tmp 96) (.tmp 103) rfl _ wk.heap.size _ k bs rfl (own_alloc HO.out _) ⟨wr.heap.size, 0, none⟩ 1 (bits BinOp.and IntKind.i64 (x2 / 2 ^ k) 1 == 1) rfl (fun j u hj => by rw [Addr.add_mid]; exact range_all (cs := [.bool (bits BinOp.and IntKind.i64 (x2 / 2 ^ k) 1 == 1)]) (heap_alloc_new wr _) j u hj) hk1m (hskA _) ?_; intro v3 wD hO3 hB3))
              have HFN := (show Hid (∃ (k' : Nat) (bs' : List Bool), k' ≤ 62 ∧ Value.int .i64 ((k : Int) + 1) = .int .i64 (k' : Int) ∧ wD.ownsRow wk.heap.size 4 1 v3 k' (bs'.map Value.bool) ∧ Below wk.heap.size wk wD) from ⟨k + 1, _, by omega, by go_num, hO3, HBk.out.trans (((Below.refl _ _).alloc hsk _).trans hB3)⟩)
              clear hO3 hB3
              go_roundw
              case rel => first | exact HFN.out | ((repeat apply Exists.intro); exact ⟨HFN.out, rfl⟩)
              case measure => (simp [intOf]) <;> omega
            · have dk : decide ((k : Int) < 62) = false := decide_eq_false (by omega)
              have hkk : k = 62 := by omega
              subst hkk
              obtain ⟨bk, ck, hvk, hKp⟩ := kp_own (fs := foot g kg vp) HO.out (fun j hj => HP.out.dk.lt j hj)
              subst hvk
              generalize (fun i => bs.getD i false) = mk at *
              have HK : Hid (Kp wr (foot g kg vp) bk ck mk) := hKp
              have HP2 : Hid (Pw W wr g kg vp s 60 12 2100 R0 R1) := HP.out.below HBk.out
              have HZ2 : Hid (Wz wr (foot g kg vp) u (.slice aP S.pgs.length cP) (.slice aF S.freed.length cF) (.slice aR 4 cR) S ∧ Wz wr (foot g kg vp) u2 p2 f2 r2 I) := ⟨HZ.out.1.below HBk.out, HZ.out.2.below HBk.out⟩
              have hck := hKp.cap
              clear HP HZ HO HBk hsk z2 hKp hk62 hk
              have HON := gon (some ⟨bk, 0, none⟩) 62 ck (fun i => mk (0 + i)) HP2.out (HK.out.bools 0 (by omega)) hck.1 hck.2
              go_wp2_with fail
              refine HON.mono ?_
              rintro e w12 ⟨rfl, vp12, hor, hT12⟩
              have HR : Hid (∃ R, GK W w12 g kg vp12 (Sc.back s (marks 62 (fun i => mk (0 + i)))) 60 12 2100 R ∧ Fin g2 S T I R) := by
                rcases hor with h | h
                · exact ⟨R0, h, HFI.out.1⟩
                · exact ⟨R1, h, HFI.out.2.1⟩
              obtain ⟨R, hR⟩ := HR.out
              have HGK : Hid (GK W w12 g kg vp12 (Sc.back s (marks 62 (fun i => mk (0 + i)))) 60 12 2100 R) := hR.1
              have HFR : Hid (Fin g2 S T I R) := hR.2
              have HK12 : Hid (Kp w12 (foot g kg vp12) bk ck mk) := HK.out.turn hT12
              have HZ12 : Hid (Wz w12 (foot g kg vp12) u (.slice aP S.pgs.length cP) (.slice aF S.freed.length cF) (.slice aR 4 cR) S ∧ Wz w12 (foot g kg vp12) u2 p2 f2 r2 I) := ⟨HZ2.out.1.turn hT12, HZ2.out.2.turn hT12⟩
              have HLN : Hid ((Sc.back s (marks 62 (fun i => mk (0 + i)))).kept.length = 156) := (Pd.KK_length (marks 62 (fun i => mk (0 + i))) s).trans HFI.out.2.2
              clear HR hR hor hT12 HON HP2 HZ2 HK HFI
              generalize Sc.back s (marks 62 (fun i => mk (0 + i))) = s12 at *
              obtain ⟨z0, z1, z2⟩ := (HXB.out.up HGK.out.bel).ct
              obtain ⟨K40, hK40, e1, e2, b1, b2⟩ := mod_pos x2 40 (by omega)
              have e1 : (x2.tmod 40 + 40).tmod 40 = (K40 : Int) := e1
              have e2 : (x2.tmod 40 + 40) % 40 = (K40 : Int) := e2
              have hwr : IntKind.i64.wrap (x2.tmod 40 + 40) = x2.tmod 40 + 40 := by have b1 : -40 < x2.tmod 40 := b1; have b2 : x2.tmod 40 < 40 := b2; rw [IntKind.wrap_i64]; omega
              clear b1 b2
              have HAR := garmK (K40 : Int) (by omega) HGK.out
              go_wp2_with fail
              refine HAR.mono ?_
              rintro e w13 ⟨rfl, vp13, hG13, hT13⟩
              have HG13 : Hid (GK W w13 g kg vp13 (Sc.armed s12 (K40 : Int)) 60 12 2100 R) := hG13
              have HK13 : Hid (Kp w13 (foot g kg vp13) bk ck mk) := HK12.out.turn hT13
              have HZ13 : Hid (Wz w13 (foot g kg vp13) u (.slice aP S.pgs.length cP) (.slice aF S.freed.length cF) (.slice aR 4 cR) S ∧ Wz w13 (foot g kg vp13) u2 p2 f2 r2 I) := ⟨HZ12.out.1.turn hT13, HZ12.out.2.turn hT13⟩
              have HLN2 : Hid ((Sc.armed s12 (K40 : Int)).kept.length = 156) := HLN.out
              clear hG13 hT13 HAR HGK HK12 HZ12 HLN e1 e2 hwr z0 z1 z2
              generalize Sc.armed s12 (K40 : Int) = s13 at *
              have HOP := gopendb W w13 g kg vp13 s13 60 12 2100 R HG13.out (by omega)
              go_wp2_with fail
              refine HOP.mono ?_
              rintro e w14 (⟨A, d, rfl, hAg, hAk, hG14, hdn, hdc, hdl, _, hT14⟩ | ⟨rfl, vp14, s14, hD14, hTb14, hB14, hnw14, hF14, hT14⟩)
              · have HG14 : Hid (GK W w14 g kg A.vp d.s 60 12 2200 R) := by
                  have h := hG14.disk (by rw [hdn, hdc, hdl, HLN2.out]) (by rw [hdc]; omega) hpw
                  rw [hAg, hAk, hdn, hdc] at h
                  exact h
                have hft := foot_ft A
                rw [hAg, hAk] at hft
                have HL14 : Hid (d.s.kept.length = 156) := hdl.trans HLN2.out
                have HK14 : Hid (Kp w14 (foot g kg A.vp) bk ck mk) := (HK13.out.turn hT14).less hft
                have HZ14 : Hid (Wz w14 (foot g kg A.vp) u (.slice aP S.pgs.length cP) (.slice aF S.freed.length cF) (.slice aR 4 cR) S ∧ Wz w14 (foot g kg A.vp) u2 p2 f2 r2 I) := ⟨(HZ13.out.1.turn hT14).less hft, (HZ13.out.2.turn hT14).less hft⟩
                have HDW := down_any g kg A.vp d.s w14 HG14.out.dk
                rw [HG14.out.down] at HDW
                have HOF := goff HG14.out
                clear hG14 hT14 hAg hAk hdn hdc hdl hft HG13 HK13 HZ13 HLN2 HOP
                generalize A.vp = vpA at *
                generalize d.s = sA at *
                go_wp2_with fail
                refine HDW.mono ?_
                rintro e w' ⟨rfl, hw⟩
                rw [hw]
                clear hw w' HDW
                go_wp2_with fail
                refine HOF.mono ?_
                rintro e w15 ⟨rfl, vp15, hP15, hT15⟩
                have HP15 : Hid (Pw W w15 g kg vp15 (Sc.fell sA) 60 12 2200 R R) := hP15
                have HK15 : Hid (Kp w15 (foot g kg vp15) bk ck mk) := HK14.out.turn hT15
                have HZ15 : Hid (Wz w15 (foot g kg vp15) u (.slice aP S.pgs.length cP) (.slice aF S.freed.length cF) (.slice aR 4 cR) S ∧ Wz w15 (foot g kg vp15) u2 p2 f2 r2 I) := ⟨HZ14.out.1.turn hT15, HZ14.out.2.turn hT15⟩
                have HL15 : Hid ((Sc.fell sA).kept.length = 156) := HL14.out
                clear hP15 hT15 HOF HK14 HZ14 HL14 HG14
                generalize Sc.fell sA = s15 at *
                obtain ⟨z0, z1, z2⟩ := (HXB.out.up HP15.out.bel).ct
                obtain ⟨K9, hK9, e1, e2, b1, b2⟩ := mod_pos x1 9 (by omega)
                have e1 : (x1.tmod 9 + 9).tmod 9 = (K9 : Int) := e1
                have e2 : (x1.tmod 9 + 9) % 9 = (K9 : Int) := e2
                have hwr : IntKind.i64.wrap (x1.tmod 9 + 9) = x1.tmod 9 + 9 := by have b1 : -9 < x1.tmod 9 := b1; have b2 : x1.tmod 9 < 9 := b2; rw [IntKind.wrap_i64]; omega
                clear b1 b2
                have k0 : (0 : Int) ≤ (K9 : Int) := by omega
                have k1 : (K9 : Int) ≤ 62 := by omega
                have HON := gon (some ⟨bk, K9, none⟩) (62 - K9) (ck - K9) (fun i => mk (K9 + i)) HP15.out (HK15.out.bools K9 (by omega)) (by omega) (by omega)
                go_wp2_with fail
                refine HON.mono ?_
                rintro e w16 ⟨rfl, vp16, hor, hT16⟩
                have HG16 : Hid (GK W w16 g kg vp16 (Sc.back s15 (marks (62 - K9) (fun i => mk (K9 + i)))) 60 12 2200 R) := by
                  rcases hor with h | h
                  · exact h
                  · exact h
                have HZ16 : Hid (Wz w16 (foot g kg vp16) u (.slice aP S.pgs.length cP) (.slice aF S.freed.length cF) (.slice aR 4 cR) S ∧ Wz w16 (foot g kg vp16) u2 p2 f2 r2 I) := ⟨HZ15.out.1.turn hT16, HZ15.out.2.turn hT16⟩
                clear hor hT16 HON HP15 HZ15 HK15 e1 e2 hwr z0 z1 z2
                have HOP := gopen1 g kg vp16 _ 60 12 HG16.out (by omega) rfl
                go_wp2_with fail
                refine HOP.mono ?_
                rintro e w17 ⟨A4, d4, rfl, hAg, hAk, hG17, hdn, hdc, _, _, hT17⟩
                have HG17 : Hid (GD W w17 A4 (2200 + 8 * 12 + 4) d4 R) := hG17
                have HZ17 : Hid (Wz w17 (A4.ft) u (.slice aP S.pgs.length cP) (.slice aF S.freed.length cF) (.slice aR 4 cR) S ∧ Wz w17 (A4.ft) u2 p2 f2 r2 I) := ⟨HZ16.out.1.turn hT17, HZ16.out.2.turn hT17⟩
                have HDC : Hid (d4.cnt = 12) := hdc
                clear hG17 hT17 hAg hAk hdn hdc HG16 HZ16 HOP
                have HST := state_any HG17.out hpw
                go_wp2_with fail
                refine HST.mono ?_
                rintro e w18 ⟨vP3, vF3, vR3, rfl, hG18, hO18, hap18, hT18⟩
                have HOR : Hid (R.Ok 12) := by have := hG18.inv.fnd.ok; rw [HDC.out] at this; exact this
                have HW18 : Hid (Wz (w18.alloc (.cells #[vP3, vF3, vR3] 39)) A4.ft w18.heap.size vP3 vF3 vR3 R) := wz_start hO18 hG18.db.lt hap18
                have HZ18 : Hid (Wz (w18.alloc (.cells #[vP3, vF3, vR3] 39)) (A4.ft) u (.slice aP S.pgs.length cP) (.slice aF S.freed.length cF) (.slice aR 4 cR) S ∧ Wz (w18.alloc (.cells #[vP3, vF3, vR3] 39)) (A4.ft) u2 p2 f2 r2 I) := ⟨(HZ17.out.1.turn hT18).below ((Below.refl _ _).alloc (Nat.le_refl _) _), (HZ17.out.2.turn hT18).below ((Below.refl _ _).alloc (Nat.le_refl _) _)⟩
                have HG18 : Hid (GD W (w18.alloc (.cells #[vP3, vF3, vR3] 39)) A4 (2200 + 8 * 12 + 4) d4 R) := hG18.below ((Below.refl _ _).alloc (Nat.le_refl _) _)
                obtain ⟨aP3, cP3, hv1⟩ := own_slice hO18.pg
                obtain ⟨aF3, cF3, hv2⟩ := own_slice hO18.fr
                obtain ⟨aR3, cR3, hv3⟩ := own_slice hO18.rt
                subst hv1 hv2 hv3
                clear hG18 hO18 hap18 hT18 HST HG17 HZ17
                go_upto_region 42 with fail
                obtain ⟨hR1, hR2, hR3⟩ := ok_small HOR.out
                obtain ⟨n0, n1, n2⟩ := HW18.out.cells
                obtain ⟨y0, y1, y2⟩ := HZ18.out.1.cells
                obtain ⟨i0, i1, i2⟩ := HZ18.out.2.cells
                have HCS : Hid (((g2 = 0 ∨ g2 = 7) ∧ R = I) ∨ (g2 = 10 ∧ (R = S ∨ R = T))) := HFR.out
                clear HFR
                generalize w18.heap.size = u3 at *
                generalize World.alloc w18 _ = w19 at *
                by_cases hgo : g2 = 0 ∨ g2 = 7
                · have hRI : R = I := by
                    rcases HCS.out with h | ⟨h, _⟩
                    · exact h.2
                    · omega
                  subst hRI
                  have HSM := rsame_any 0 0 _ _ _ _ _ _ R R w19 HW18.out.sto HZ18.out.2.sto hR1 hR2 hR3 hR1
                  obtain ⟨aP4, cP4, hv1⟩ := own_slice HZ18.out.2.sto.pg
                  obtain ⟨aF4, cF4, hv2⟩ := own_slice HZ18.out.2.sto.fr
                  obtain ⟨aR4, cR4, hv3⟩ := own_slice HZ18.out.2.sto.rt
                  subst hv1 hv2 hv3
                  have HWK : Hid (∀ w', Below w19.heap.size w19 w' → Calls Tryz.prog 20 #[] w' fun e w'' => e = .returned (.bool true) ∧ Below w'.heap.size w' w'') := fun w' hb => works_any w' (HG18.out.below hb).db.tab
                  have HBB : Hid (Below w.heap.size w w19) := HB0.out.trans (HG18.out.bel.mono HB0.out.size)
                  clear HCS HW18 HZ18 HG18
                  rcases hgo with rfl | rfl
                  · go_wp2_with fail
                    refine HSM.mono ?_
                    rintro e w20 ⟨⟨qq, rfl, hqq⟩, hB20⟩
                    have hqq := hqq trivial
                    subst hqq
                    have HB20 : Hid (Below w.heap.size w w20) := HBB.out.trans (hB20.mono HBB.out.size)
                    have HWK2 := HWK.out w20 hB20
                    clear hB20 HSM HBB HWK n0 n1 n2 y0 y1 y2 i0 i1 i2
                    go_wp2_with fail
                    refine HWK2.mono ?_
                    rintro e w21 ⟨rfl, hB21⟩
                    have HFN : Hid (Below w.heap.size w w21) := HB20.out.trans (hB21.mono HB20.out.size)
                    clear hB21 HWK2 HB20
                    go_wp2
                    go_ret
                    exact ⟨rfl, HFN.out⟩
                  · go_wp2_with fail
                    refine HSM.mono ?_
                    rintro e w20 ⟨⟨qq, rfl, hqq⟩, hB20⟩
                    have hqq := hqq trivial
                    subst hqq
                    have HB20 : Hid (Below w.heap.size w w20) := HBB.out.trans (hB20.mono HBB.out.size)
                    have HWK2 := HWK.out w20 hB20
                    clear hB20 HSM HBB HWK n0 n1 n2 y0 y1 y2 i0 i1 i2
                    go_wp2_with fail
                    refine HWK2.mono ?_
                    rintro e w21 ⟨rfl, hB21⟩
                    have HFN : Hid (Below w.heap.size w w21) := HB20.out.trans (hB21.mono HB20.out.size)
                    clear hB21 HWK2 HB20
                    go_wp2
                    go_ret
                    exact ⟨rfl, HFN.out⟩
                · have hg10 : g2 = 10 ∧ (R = S ∨ R = T) := by
                    rcases HCS.out with h | h
                    · exact absurd h.1 hgo
                    · exact h
                  obtain ⟨rfl, hRor⟩ := hg10
                  have HSM := rsame_any 0 0 _ _ _ _ _ _ R S w19 HW18.out.sto HZ18.out.1.sto hR1 hR2 hR3 hposS
                  have HRO : Hid (R = S ∨ R = T) := hRor
                  clear hgo HCS hRor i0 i1 i2
                  go_wp2_with fail
                  refine HSM.mono ?_
                  rintro e w20 ⟨⟨qq, rfl, hqq⟩, hB20⟩
                  have HQQ : Hid (R = S → qq = true) := hqq
                  have HG20 : Hid (GD W w20 A4 (2200 + 8 * 12 + 4) d4 R ∧ Wz w20 A4.ft u3 (.slice aP3 R.pgs.length cP3) (.slice aF3 R.freed.length cF3) (.slice aR3 4 cR3) R ∧ Wz w20 (A4.ft) u (.slice aP S.pgs.length cP) (.slice aF S.freed.length cF) (.slice aR 4 cR) S) := ⟨HG18.out.below hB20, HW18.out.below hB20, HZ18.out.1.below hB20⟩
                  clear hqq hB20 HSM HG18 HW18 HZ18 n0 n1 n2 y0 y1 y2
                  have HBB : Hid (Below w.heap.size w w20) := HB0.out.trans (HG20.out.1.bel.mono HB0.out.size)
                  cases qq with
                  | true =>
                    have HWK := works_any w20 HG20.out.1.db.tab
                    clear HG20 HQQ
                    go_wp2_with fail
                    refine HWK.mono ?_
                    rintro e w21 ⟨rfl, hB21⟩
                    have HFN : Hid (Below w.heap.size w w21) := HBB.out.trans (hB21.mono HBB.out.size)
                    clear hB21 HWK HBB
                    go_wp2
                    go_ret
                    exact ⟨rfl, HFN.out⟩
                  | false =>
                    have hRS : ¬ R = S := fun e => nomatch HQQ.out e
                    have hRT : R = T := HRO.out.resolve_left hRS
                    have hm3 : ¬ x0.tmod 3 = 0 := fun e => hRS (hRT.trans (HTT.out.1 e))
                    obtain ⟨n0, n1, n2⟩ := HG20.out.2.1.cells
                    obtain ⟨y0, y1, y2⟩ := HG20.out.2.2.cells
                    obtain ⟨l0, l1, l2, l3, l4⟩ := (HXB.out.up HG20.out.1.bel).cl
                    have z0 := (HXB.out.up HG20.out.1.bel).ct.1
                    have HWH := whole_any 0 0 _ _ _ _ _ _ R S xk xi xd xs (.slice ka kl kc) x0 w20 HG20.out.1.db.tab HG20.out.2.1.sto HG20.out.2.2.sto HOK.out HOR.out (hRT.trans (HTT.out.2 hm3)) hm3 hxs
                    unfold actV at HWH
                    have HWK : Hid (∀ w', Below w20.heap.size w20 w' → Calls Tryz.prog 20 #[] w' fun e w'' => e = .returned (.bool true) ∧ Below w'.heap.size w' w'') := fun w' hb => works_any w' (HG20.out.1.below hb).db.tab
                    clear HG20 HQQ hRS hRT hm3
                    go_wp2_with fail
                    refine HWH.mono ?_
                    rintro e w21 ⟨rfl, hB21⟩
                    have HB21 : Hid (Below w.heap.size w w21) := HBB.out.trans (hB21.mono HBB.out.size)
                    have HWK2 := HWK.out w21 hB21
                    clear hB21 HWH HBB HWK n0 n1 n2 y0 y1 y2 l0 l1 l2 l3 l4 z0
                    go_wp2_with fail
                    refine HWK2.mono ?_
                    rintro e w22 ⟨rfl, hB22⟩
                    have HFN : Hid (Below w.heap.size w w22) := HB21.out.trans (hB22.mono HB21.out.size)
                    clear hB22 HWK2 HB21
                    go_wp2
                    go_ret
                    exact ⟨rfl, HFN.out⟩
              · have HP15 : Hid (Pw W w14 g kg vp14 s14 60 12 2200 R R) := ⟨hD14, hTb14, hF14.down, hF14.dn, hF14.found, by rw [hF14.len, HLN2.out], by omega, hpw, hB14, hnw14⟩
                have HK15 : Hid (Kp w14 (foot g kg vp14) bk ck mk) := HK13.out.turn hT14
                have HZ15 : Hid (Wz w14 (foot g kg vp14) u (.slice aP S.pgs.length cP) (.slice aF S.freed.length cF) (.slice aR 4 cR) S ∧ Wz w14 (foot g kg vp14) u2 p2 f2 r2 I) := ⟨HZ13.out.1.turn hT14, HZ13.out.2.turn hT14⟩
                have HL15 : Hid (s14.kept.length = 156) := hF14.len.trans HLN2.out
                have HDW := down_any g kg vp14 s14 w14 hD14
                rw [hF14.down] at HDW
                clear hD14 hTb14 hB14 hnw14 hF14 hT14 HG13 HK13 HZ13 HLN2 HOP
                go_wp2_with fail
                refine HDW.mono ?_
                rintro e w' ⟨rfl, hw⟩
                rw [hw]
                clear hw w' HDW
                generalize w14 = w15 at *
                generalize vp14 = vp15 at *
                generalize s14 = s15 at *
                obtain ⟨z0, z1, z2⟩ := (HXB.out.up HP15.out.bel).ct
                obtain ⟨K9, hK9, e1, e2, b1, b2⟩ := mod_pos x1 9 (by omega)
                have e1 : (x1.tmod 9 + 9).tmod 9 = (K9 : Int) := e1
                have e2 : (x1.tmod 9 + 9) % 9 = (K9 : Int) := e2
                have hwr : IntKind.i64.wrap (x1.tmod 9 + 9) = x1.tmod 9 + 9 := by have b1 : -9 < x1.tmod 9 := b1; have b2 : x1.tmod 9 < 9 := b2; rw [IntKind.wrap_i64]; omega
                clear b1 b2
                have k0 : (0 : Int) ≤ (K9 : Int) := by omega
                have k1 : (K9 : Int) ≤ 62 := by omega
                have HON := gon (some ⟨bk, K9, none⟩) (62 - K9) (ck - K9) (fun i => mk (K9 + i)) HP15.out (HK15.out.bools K9 (by omega)) (by omega) (by omega)
                go_wp2_with fail
                refine HON.mono ?_
                rintro e w16 ⟨rfl, vp16, hor, hT16⟩
                have HG16 : Hid (GK W w16 g kg vp16 (Sc.back s15 (marks (62 - K9) (fun i => mk (K9 + i)))) 60 12 2200 R) := by
                  rcases hor with h | h
                  · exact h
                  · exact h
                have HZ16 : Hid (Wz w16 (foot g kg vp16) u (.slice aP S.pgs.length cP) (.slice aF S.freed.length cF) (.slice aR 4 cR) S ∧ Wz w16 (foot g kg vp16) u2 p2 f2 r2 I) := ⟨HZ15.out.1.turn hT16, HZ15.out.2.turn hT16⟩
                clear hor hT16 HON HP15 HZ15 HK15 e1 e2 hwr z0 z1 z2
                have HOP := gopen1 g kg vp16 _ 60 12 HG16.out (by omega) rfl
                go_wp2_with fail
                refine HOP.mono ?_
                rintro e w17 ⟨A4, d4, rfl, hAg, hAk, hG17, hdn, hdc, _, _, hT17⟩
                have HG17 : Hid (GD W w17 A4 (2200 + 8 * 12 + 4) d4 R) := hG17
                have HZ17 : Hid (Wz w17 (A4.ft) u (.slice aP S.pgs.length cP) (.slice aF S.freed.length cF) (.slice aR 4 cR) S ∧ Wz w17 (A4.ft) u2 p2 f2 r2 I) := ⟨HZ16.out.1.turn hT17, HZ16.out.2.turn hT17⟩
                have HDC : Hid (d4.cnt = 12) := hdc
                clear hG17 hT17 hAg hAk hdn hdc HG16 HZ16 HOP
                have HST := state_any HG17.out hpw
                go_wp2_with fail
                refine HST.mono ?_
                rintro e w18 ⟨vP3, vF3, vR3, rfl, hG18, hO18, hap18, hT18⟩
                have HOR : Hid (R.Ok 12) := by have := hG18.inv.fnd.ok; rw [HDC.out] at this; exact this
                have HW18 : Hid (Wz (w18.alloc (.cells #[vP3, vF3, vR3] 39)) A4.ft w18.heap.size vP3 vF3 vR3 R) := wz_start hO18 hG18.db.lt hap18
                have HZ18 : Hid (Wz (w18.alloc (.cells #[vP3, vF3, vR3] 39)) (A4.ft) u (.slice aP S.pgs.length cP) (.slice aF S.freed.length cF) (.slice aR 4 cR) S ∧ Wz (w18.alloc (.cells #[vP3, vF3, vR3] 39)) (A4.ft) u2 p2 f2 r2 I) := ⟨(HZ17.out.1.turn hT18).below ((Below.refl _ _).alloc (Nat.le_refl _) _), (HZ17.out.2.turn hT18).below ((Below.refl _ _).alloc (Nat.le_refl _) _)⟩
                have HG18 : Hid (GD W (w18.alloc (.cells #[vP3, vF3, vR3] 39)) A4 (2200 + 8 * 12 + 4) d4 R) := hG18.below ((Below.refl _ _).alloc (Nat.le_refl _) _)
                obtain ⟨aP3, cP3, hv1⟩ := own_slice hO18.pg
                obtain ⟨aF3, cF3, hv2⟩ := own_slice hO18.fr
                obtain ⟨aR3, cR3, hv3⟩ := own_slice hO18.rt
                subst hv1 hv2 hv3
                clear hG18 hO18 hap18 hT18 HST HG17 HZ17
                go_upto_region 42 with fail
                obtain ⟨hR1, hR2, hR3⟩ := ok_small HOR.out
                obtain ⟨n0, n1, n2⟩ := HW18.out.cells
                obtain ⟨y0, y1, y2⟩ := HZ18.out.1.cells
                obtain ⟨i0, i1, i2⟩ := HZ18.out.2.cells
                have HCS : Hid (((g2 = 0 ∨ g2 = 7) ∧ R = I) ∨ (g2 = 10 ∧ (R = S ∨ R = T))) := HFR.out
                clear HFR
                generalize w18.heap.size = u3 at *
                generalize World.alloc w18 _ = w19 at *
                by_cases hgo : g2 = 0 ∨ g2 = 7
                · have hRI : R = I := by
                    rcases HCS.out with h | ⟨h, _⟩
                    · exact h.2
                    · omega
                  subst hRI
                  have HSM := rsame_any 0 0 _ _ _ _ _ _ R R w19 HW18.out.sto HZ18.out.2.sto hR1 hR2 hR3 hR1
                  obtain ⟨aP4, cP4, hv1⟩ := own_slice HZ18.out.2.sto.pg
                  obtain ⟨aF4, cF4, hv2⟩ := own_slice HZ18.out.2.sto.fr
                  obtain ⟨aR4, cR4, hv3⟩ := own_slice HZ18.out.2.sto.rt
                  subst hv1 hv2 hv3
                  have HWK : Hid (∀ w', Below w19.heap.size w19 w' → Calls Tryz.prog 20 #[] w' fun e w'' => e = .returned (.bool true) ∧ Below w'.heap.size w' w'') := fun w' hb => works_any w' (HG18.out.below hb).db.tab
                  have HBB : Hid (Below w.heap.size w w19) := HB0.out.trans (HG18.out.bel.mono HB0.out.size)
                  clear HCS HW18 HZ18 HG18
                  rcases hgo with rfl | rfl
                  · go_wp2_with fail
                    refine HSM.mono ?_
                    rintro e w20 ⟨⟨qq, rfl, hqq⟩, hB20⟩
                    have hqq := hqq trivial
                    subst hqq
                    have HB20 : Hid (Below w.heap.size w w20) := HBB.out.trans (hB20.mono HBB.out.size)
                    have HWK2 := HWK.out w20 hB20
                    clear hB20 HSM HBB HWK n0 n1 n2 y0 y1 y2 i0 i1 i2
                    go_wp2_with fail
                    refine HWK2.mono ?_
                    rintro e w21 ⟨rfl, hB21⟩
                    have HFN : Hid (Below w.heap.size w w21) := HB20.out.trans (hB21.mono HB20.out.size)
                    clear hB21 HWK2 HB20
                    go_wp2
                    go_ret
                    exact ⟨rfl, HFN.out⟩
                  · go_wp2_with fail
                    refine HSM.mono ?_
                    rintro e w20 ⟨⟨qq, rfl, hqq⟩, hB20⟩
                    have hqq := hqq trivial
                    subst hqq
                    have HB20 : Hid (Below w.heap.size w w20) := HBB.out.trans (hB20.mono HBB.out.size)
                    have HWK2 := HWK.out w20 hB20
                    clear hB20 HSM HBB HWK n0 n1 n2 y0 y1 y2 i0 i1 i2
                    go_wp2_with fail
                    refine HWK2.mono ?_
                    rintro e w21 ⟨rfl, hB21⟩
                    have HFN : Hid (Below w.heap.size w w21) := HB20.out.trans (hB21.mono HB20.out.size)
                    clear hB21 HWK2 HB20
                    go_wp2
                    go_ret
                    exact ⟨rfl, HFN.out⟩
                · have hg10 : g2 = 10 ∧ (R = S ∨ R = T) := by
                    rcases HCS.out with h | h
                    · exact absurd h.1 hgo
                    · exact h
                  obtain ⟨rfl, hRor⟩ := hg10
                  have HSM := rsame_any 0 0 _ _ _ _ _ _ R S w19 HW18.out.sto HZ18.out.1.sto hR1 hR2 hR3 hposS
                  have HRO : Hid (R = S ∨ R = T) := hRor
                  clear hgo HCS hRor i0 i1 i2
                  go_wp2_with fail
                  refine HSM.mono ?_
                  rintro e w20 ⟨⟨qq, rfl, hqq⟩, hB20⟩
                  have HQQ : Hid (R = S → qq = true) := hqq
                  have HG20 : Hid (GD W w20 A4 (2200 + 8 * 12 + 4) d4 R ∧ Wz w20 A4.ft u3 (.slice aP3 R.pgs.length cP3) (.slice aF3 R.freed.length cF3) (.slice aR3 4 cR3) R ∧ Wz w20 (A4.ft) u (.slice aP S.pgs.length cP) (.slice aF S.freed.length cF) (.slice aR 4 cR) S) := ⟨HG18.out.below hB20, HW18.out.below hB20, HZ18.out.1.below hB20⟩
                  clear hqq hB20 HSM HG18 HW18 HZ18 n0 n1 n2 y0 y1 y2
                  have HBB : Hid (Below w.heap.size w w20) := HB0.out.trans (HG20.out.1.bel.mono HB0.out.size)
                  cases qq with
                  | true =>
                    have HWK := works_any w20 HG20.out.1.db.tab
                    clear HG20 HQQ
                    go_wp2_with fail
                    refine HWK.mono ?_
                    rintro e w21 ⟨rfl, hB21⟩
                    have HFN : Hid (Below w.heap.size w w21) := HBB.out.trans (hB21.mono HBB.out.size)
                    clear hB21 HWK HBB
                    go_wp2
                    go_ret
                    exact ⟨rfl, HFN.out⟩
                  | false =>
                    have hRS : ¬ R = S := fun e => nomatch HQQ.out e
                    have hRT : R = T := HRO.out.resolve_left hRS
                    have hm3 : ¬ x0.tmod 3 = 0 := fun e => hRS (hRT.trans (HTT.out.1 e))
                    obtain ⟨n0, n1, n2⟩ := HG20.out.2.1.cells
                    obtain ⟨y0, y1, y2⟩ := HG20.out.2.2.cells
                    obtain ⟨l0, l1, l2, l3, l4⟩ := (HXB.out.up HG20.out.1.bel).cl
                    have z0 := (HXB.out.up HG20.out.1.bel).ct.1
                    have HWH := whole_any 0 0 _ _ _ _ _ _ R S xk xi xd xs (.slice ka kl kc) x0 w20 HG20.out.1.db.tab HG20.out.2.1.sto HG20.out.2.2.sto HOK.out HOR.out (hRT.trans (HTT.out.2 hm3)) hm3 hxs
                    unfold actV at HWH
                    have HWK : Hid (∀ w', Below w20.heap.size w20 w' → Calls Tryz.prog 20 #[] w' fun e w'' => e = .returned (.bool true) ∧ Below w'.heap.size w' w'') := fun w' hb => works_any w' (HG20.out.1.below hb).db.tab
                    clear HG20 HQQ hRS hRT hm3
                    go_wp2_with fail
                    refine HWH.mono ?_
                    rintro e w21 ⟨rfl, hB21⟩
                    have HB21 : Hid (Below w.heap.size w w21) := HBB.out.trans (hB21.mono HBB.out.size)
                    have HWK2 := HWK.out w21 hB21
                    clear hB21 HWH HBB HWK n0 n1 n2 y0 y1 y2 l0 l1 l2 l3 l4 z0
                    go_wp2_with fail
                    refine HWK2.mono ?_
                    rintro e w22 ⟨rfl, hB22⟩
                    have HFN : Hid (Below w.heap.size w w22) := HB21.out.trans (hB22.mono HB21.out.size)
                    clear hB22 HWK2 HB21
                    go_wp2
                    go_ret
                    exact ⟨rfl, HFN.out⟩

end Go.Proofs.YtcfninpokngmlaaGreatDoor
