/- Proved: what one mixing of four words does, the program's (mix) and the document's (G). Conditions: the sixteen words and the two that are mixed in are below 2^32, the four places below 16. -/
import Derived.Test.YtefpaebbendnmaaDoorKRow
import Derived.Deep.Cut
import Derived.Deep.CutBlock
namespace Go.Proofs.YtefpaebbendnmaaDoor.BK
open Go.RowKit
theorem Row.drew {w : World} {g t : Nat} {v : List Nat} {tl : List Value} (h : Row w g t v tl) : Row w.drew g t v tl := h
theorem st1 {w : World} {g t : Nat} {v : List Nat} {tl : List Value} {a b x p q : Nat} (hl : a < v.length) (hr : Row w g t v tl) (hp : p = v.getD a 0) (hq : q = v.getD b 0) :
    Row ((w.setCell ⟨g, a, none⟩ (.int .u32 (((p : Int) + ((q : Int) + (x : Int))) % 4294967296))).drew) g t (Bl.s1 v a b x) tl ∧ Only g w ((w.setCell ⟨g, a, none⟩ (.int .u32 (((p : Int) + ((q : Int) + (x : Int))) % 4294967296))).drew) := by
  refine ⟨?_, ((Only.refl g w).setCell rfl _).drew⟩
  subst hp hq
  rw [show (((v.getD a 0 : Nat) : Int) + (((v.getD b 0 : Nat) : Int) + (x : Int))) % 4294967296 = (((v.getD a 0 + v.getD b 0 + x) % 4294967296 : Nat) : Int) by omega]
  exact (hr.set a _ hl).drew
theorem st1' {w : World} {g t : Nat} {v : List Nat} {tl : List Value} {a b x p q : Nat} (hl : a < v.length) (hr : Row w g t v tl) (hp : p = v.getD a 0) (hq : q = v.getD b 0) :
    Row ((w.setCell ⟨g, a, none⟩ (.int .u32 (((p : Int) + (q : Int) + (x : Int)) % 4294967296))).drew) g t (Bl.s1 v a b x) tl ∧ Only g w ((w.setCell ⟨g, a, none⟩ (.int .u32 (((p : Int) + (q : Int) + (x : Int)) % 4294967296))).drew) := by
  rw [Int.add_assoc]; exact st1 hl hr hp hq
theorem st2 {w : World} {g t : Nat} {v : List Nat} {tl : List Value} {d a k p q : Nat} (hl : d < v.length) (hr : Row w g t v tl) (hp : p = v.getD d 0) (hq : q = v.getD a 0) :
    Row ((w.setCell ⟨g, d, none⟩ (.int .u32 ((Bl.rot (p ^^^ q) k : Nat) : Int))).drew) g t (Bl.s2 v d a k) tl ∧ Only g w ((w.setCell ⟨g, d, none⟩ (.int .u32 ((Bl.rot (p ^^^ q) k : Nat) : Int))).drew) := by
  refine ⟨?_, ((Only.refl g w).setCell rfl _).drew⟩
  subst hp hq
  exact (hr.set d _ hl).drew
theorem st3 {w : World} {g t : Nat} {v : List Nat} {tl : List Value} {c d p q : Nat} (hl : c < v.length) (hr : Row w g t v tl) (hp : p = v.getD c 0) (hq : q = v.getD d 0) :
    Row ((w.setCell ⟨g, c, none⟩ (.int .u32 (((p : Int) + (q : Int)) % 4294967296))).drew) g t (Bl.s3 v c d) tl ∧ Only g w ((w.setCell ⟨g, c, none⟩ (.int .u32 (((p : Int) + (q : Int)) % 4294967296))).drew) := by
  refine ⟨?_, ((Only.refl g w).setCell rfl _).drew⟩
  subst hp hq
  rw [show (((v.getD c 0 : Nat) : Int) + ((v.getD d 0 : Nat) : Int)) % 4294967296 = (((v.getD c 0 + v.getD d 0) % 4294967296 : Nat) : Int) by omega]
  exact (hr.set c _ hl).drew
/- the two words that a statement reads, and that it may write the first -/
theorem two {w : World} {g t : Nat} {v : List Nat} {tl : List Value} (hv : Bl.Words 16 v) (hr : Row w g t v tl) {a b : Nat} (ha : a < 16) (hb : b < 16) :
    ∃ p q : Nat, w.cell? ⟨g, a, none⟩ = some (.int .u32 (p : Int)) ∧ w.frozen? ⟨g, a, none⟩ = false ∧ w.cell? ⟨g, b, none⟩ = some (.int .u32 (q : Int)) ∧ p < 4294967296 ∧ q < 4294967296 ∧ bits .xor .u32 (p : Int) (q : Int) = ((p ^^^ q : Nat) : Int) ∧ p ^^^ q < 4294967296 ∧ Hid (p = v.getD a 0) ∧ Hid (q = v.getD b 0) := by
  obtain ⟨ca, fa⟩ := hr.at a (by rw [hv.1]; exact ha)
  obtain ⟨cb, fb⟩ := hr.at b (by rw [hv.1]; exact hb)
  exact ⟨_, _, ca, fa, cb, hv.at a, hv.at b, u32_xor_nat _ _ (hv.at a) (hv.at b), Bl.xor_lt (hv.at a) (hv.at b), rfl, rfl⟩
set_option maxHeartbeats 4000000 in
set_option maxRecDepth 20000 in
theorem mix_any (g t : Nat) (v : List Nat) (tl : List Value) (a b c d x y : Nat) (w : World) (hv : Bl.Words 16 v) (hr : Row w g t v tl) (ha : a < 16) (hb : b < 16) (hc : c < 16) (hd : d < 16) :
    Calls Tryd.prog 55 #[.pointer (some ⟨g, 0, none⟩), .int .i64 (a : Int), .int .i64 (b : Int), .int .i64 (c : Int), .int .i64 (d : Int), .int .u32 (x : Int), .int .u32 (y : Int)] w
      fun e w' => e = .returned undef ∧ Row w' g t (Bl.g v a b c d x y) tl ∧ Only g w w' := by
  have a16 : (a : Int) < 16 := by omega
  have b16 : (b : Int) < 16 := by omega
  have c16 : (c : Int) < 16 := by omega
  have d16 : (d : Int) < 16 := by omega
  have a0 : (0 : Int) ≤ (a : Int) := Int.natCast_nonneg _
  have b0 : (0 : Int) ≤ (b : Int) := Int.natCast_nonneg _
  have c0 : (0 : Int) ≤ (c : Int) := Int.natCast_nonneg _
  have d0 : (0 : Int) ≤ (d : Int) := Int.natCast_nonneg _
  obtain ⟨V, hV⟩ : ∃ V, V = Bl.g v a b c d x y := ⟨_, rfl⟩
  rw [← hV]
  unfold Bl.g at hV
  have HVV : Hid (V = Bl.s2 (Bl.s3 (Bl.s2 (Bl.s1 (Bl.s2 (Bl.s3 (Bl.s2 (Bl.s1 v a b x) d a 16) c d) b c 12) a b y) d a 8) c d) b c 7) := hV
  have HR0 : Hid (Row w g t v tl) := hr
  have HV0 : Hid (Bl.Words 16 v) := hv
  have O0 : Hid (Only g w w) := Only.refl g w
  clear hr hv hV
  go_enter Tryd.func55, Tryd.ntmps55
  go_upto_region 0 with fail
  go_cut [0] from 14 (fun s wx => s = .pointer (some ⟨g, 0, none⟩) ∧ Row wx g t (Bl.s1 v a b x) tl ∧ Only g w wx)
  case first =>
    obtain ⟨p, q, cp, fp, cq, lp, lq, xpq, xl, Hp, Hq⟩ := two HV0.out HR0.out ha hb
    go_region
    all_goals go_wp2_with fail
    all_goals go_meet
    all_goals (case rel => exact ⟨rfl, (st1 (x := x) (by rw [HV0.out.1]; exact ha) HR0.out Hp.out Hq.out).imp id (fun o => O0.out.trans o)⟩)
  case rest =>
    obtain ⟨rfl, hr1, ho1⟩ := hcut
    have HR1 : Hid (Row wc g t (Bl.s1 v a b x) tl) := hr1
    have HV1 : Hid (Bl.Words 16 (Bl.s1 v a b x)) := HV0.out.s1 _ _ _
    have O1 : Hid (Only g w wc) := ho1
    clear hr1 ho1 HR0 HV0 O0
    generalize Bl.s1 v a b x = v1 at *
    go_upto_region 1 with fail
    go_cut [0] from 14 (fun s wx => s = .pointer (some ⟨g, 0, none⟩) ∧ Row wx g t (Bl.s2 v1 d a 16) tl ∧ Only g w wx)
    case first =>
      obtain ⟨p, q, cp, fp, cq, lp, lq, xpq, xl, Hp, Hq⟩ := two HV1.out HR1.out hd ha
      go_region_with (first | (go_at_call 57; refine (rotl_16 _ _ xl).mono ?_; rintro e w' ⟨rfl, rfl⟩))
      all_goals go_wp2_with fail
      all_goals go_meet
      all_goals (case rel => exact ⟨rfl, (st2 (k := 16) (by rw [HV1.out.1]; exact hd) HR1.out Hp.out Hq.out).imp id (fun o => O1.out.trans o)⟩)
    case rest =>
      obtain ⟨rfl, hr1, ho1⟩ := hcut
      have HR2 : Hid (Row wc g t (Bl.s2 v1 d a 16) tl) := hr1
      have HV2 : Hid (Bl.Words 16 (Bl.s2 v1 d a 16)) := HV1.out.s2 _ _ _
      have O2 : Hid (Only g w wc) := ho1
      clear hr1 ho1 HR1 HV1 O1
      generalize Bl.s2 v1 d a 16 = v2 at *
      go_upto_region 2 with fail
      go_cut [0] from 14 (fun s wx => s = .pointer (some ⟨g, 0, none⟩) ∧ Row wx g t (Bl.s3 v2 c d) tl ∧ Only g w wx)
      case first =>
        obtain ⟨p, q, cp, fp, cq, lp, lq, xpq, xl, Hp, Hq⟩ := two HV2.out HR2.out hc hd
        go_region
        all_goals go_wp2_with fail
        all_goals go_meet
        all_goals (case rel => exact ⟨rfl, (st3 (by rw [HV2.out.1]; exact hc) HR2.out Hp.out Hq.out).imp id (fun o => O2.out.trans o)⟩)
      case rest =>
        obtain ⟨rfl, hr1, ho1⟩ := hcut
        have HR3 : Hid (Row wc g t (Bl.s3 v2 c d) tl) := hr1
        have HV3 : Hid (Bl.Words 16 (Bl.s3 v2 c d)) := HV2.out.s3 _ _
        have O3 : Hid (Only g w wc) := ho1
        clear hr1 ho1 HR2 HV2 O2
        generalize Bl.s3 v2 c d = v3 at *
        go_upto_region 3 with fail
        go_cut [0] from 14 (fun s wx => s = .pointer (some ⟨g, 0, none⟩) ∧ Row wx g t (Bl.s2 v3 b c 12) tl ∧ Only g w wx)
        case first =>
          obtain ⟨p, q, cp, fp, cq, lp, lq, xpq, xl, Hp, Hq⟩ := two HV3.out HR3.out hb hc
          go_region_with (first | (go_at_call 57; refine (rotl_12 _ _ xl).mono ?_; rintro e w' ⟨rfl, rfl⟩))
          all_goals go_wp2_with fail
          all_goals go_meet
          all_goals (case rel => exact ⟨rfl, (st2 (k := 12) (by rw [HV3.out.1]; exact hb) HR3.out Hp.out Hq.out).imp id (fun o => O3.out.trans o)⟩)
        case rest =>
          obtain ⟨rfl, hr1, ho1⟩ := hcut
          have HR4 : Hid (Row wc g t (Bl.s2 v3 b c 12) tl) := hr1
          have HV4 : Hid (Bl.Words 16 (Bl.s2 v3 b c 12)) := HV3.out.s2 _ _ _
          have O4 : Hid (Only g w wc) := ho1
          clear hr1 ho1 HR3 HV3 O3
          generalize Bl.s2 v3 b c 12 = v4 at *
          go_upto_region 4 with fail
          go_cut [0] from 14 (fun s wx => s = .pointer (some ⟨g, 0, none⟩) ∧ Row wx g t (Bl.s1 v4 a b y) tl ∧ Only g w wx)
          case first =>
            obtain ⟨p, q, cp, fp, cq, lp, lq, xpq, xl, Hp, Hq⟩ := two HV4.out HR4.out ha hb
            go_region
            all_goals go_wp2_with fail
            all_goals go_meet
            all_goals (case rel => exact ⟨rfl, (st1 (x := y) (by rw [HV4.out.1]; exact ha) HR4.out Hp.out Hq.out).imp id (fun o => O4.out.trans o)⟩)
          case rest =>
            obtain ⟨rfl, hr1, ho1⟩ := hcut
            have HR5 : Hid (Row wc g t (Bl.s1 v4 a b y) tl) := hr1
            have HV5 : Hid (Bl.Words 16 (Bl.s1 v4 a b y)) := HV4.out.s1 _ _ _
            have O5 : Hid (Only g w wc) := ho1
            clear hr1 ho1 HR4 HV4 O4
            generalize Bl.s1 v4 a b y = v5 at *
            go_upto_region 5 with fail
            go_cut [0] from 14 (fun s wx => s = .pointer (some ⟨g, 0, none⟩) ∧ Row wx g t (Bl.s2 v5 d a 8) tl ∧ Only g w wx)
            case first =>
              obtain ⟨p, q, cp, fp, cq, lp, lq, xpq, xl, Hp, Hq⟩ := two HV5.out HR5.out hd ha
              go_region_with (first | (go_at_call 57; refine (rotl_8 _ _ xl).mono ?_; rintro e w' ⟨rfl, rfl⟩))
              all_goals go_wp2_with fail
              all_goals go_meet
              all_goals (case rel => exact ⟨rfl, (st2 (k := 8) (by rw [HV5.out.1]; exact hd) HR5.out Hp.out Hq.out).imp id (fun o => O5.out.trans o)⟩)
            case rest =>
              obtain ⟨rfl, hr1, ho1⟩ := hcut
              have HR6 : Hid (Row wc g t (Bl.s2 v5 d a 8) tl) := hr1
              have HV6 : Hid (Bl.Words 16 (Bl.s2 v5 d a 8)) := HV5.out.s2 _ _ _
              have O6 : Hid (Only g w wc) := ho1
              clear hr1 ho1 HR5 HV5 O5
              generalize Bl.s2 v5 d a 8 = v6 at *
              go_upto_region 6 with fail
              go_cut [0] from 14 (fun s wx => s = .pointer (some ⟨g, 0, none⟩) ∧ Row wx g t (Bl.s3 v6 c d) tl ∧ Only g w wx)
              case first =>
                obtain ⟨p, q, cp, fp, cq, lp, lq, xpq, xl, Hp, Hq⟩ := two HV6.out HR6.out hc hd
                go_region
                all_goals go_wp2_with fail
                all_goals go_meet
                all_goals (case rel => exact ⟨rfl, (st3 (by rw [HV6.out.1]; exact hc) HR6.out Hp.out Hq.out).imp id (fun o => O6.out.trans o)⟩)
              case rest =>
                obtain ⟨rfl, hr1, ho1⟩ := hcut
                have HR7 : Hid (Row wc g t (Bl.s3 v6 c d) tl) := hr1
                have HV7 : Hid (Bl.Words 16 (Bl.s3 v6 c d)) := HV6.out.s3 _ _
                have O7 : Hid (Only g w wc) := ho1
                clear hr1 ho1 HR6 HV6 O6
                generalize Bl.s3 v6 c d = v7 at *
                go_wp2_with fail
                obtain ⟨p, q, cp, fp, cq, lp, lq, xpq, xl, Hp, Hq⟩ := two HV7.out HR7.out hb hc
                go_region_with (first | (go_at_call 57; refine (rotl_7 _ _ xl).mono ?_; rintro e w' ⟨rfl, rfl⟩))
                all_goals go_end0
                all_goals exact ⟨rfl, by rw [HVV.out]; exact ((st2 (k := 7) (by rw [HV7.out.1]; exact hb) HR7.out Hp.out Hq.out).imp id (fun o => O7.out.trans o)).1, ((st2 (k := 7) (by rw [HV7.out.1]; exact hb) HR7.out Hp.out Hq.out).imp id (fun o => O7.out.trans o)).2⟩
end Go.Proofs.YtefpaebbendnmaaDoor.BK
