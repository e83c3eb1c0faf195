/- Proved: what the document's mixing of four words does. Conditions: the sixteen words and the two that are mixed in are below 2^32, the four places below 16. -/
import Derived.Test.YtefpaebbendnmaaDoorKMix
namespace Go.Proofs.YtefpaebbendnmaaDoor.BK
open Go.RowKit
set_option maxHeartbeats 4000000 in
set_option maxRecDepth 20000 in
theorem G_any (g t cap : Nat) (v : List Nat) (tl : List Value) (a b c d x y : Nat) (w : World) (hv : Bl.Words 16 v) (hr : Row w g t v tl) (ha : a < 16) (hb : b < 16) (hc : c < 16) (hd : d < 16) :
    Calls Tryd.prog 43 #[.slice (some ⟨g, 0, none⟩) 16 cap, .int .i64 (a : Int), .int .i64 (b : Int), .int .i64 (c : Int), .int .i64 (d : Int), .int .u32 (x : Int), .int .u32 (y : Int)] w
      fun e w' => e = .returned undef ∧ Row w' g t (Bl.g v a b c d x y) tl ∧ Only g w w' := by
  have a16 : (a : Int) < 16 := by omega
  have b16 : (b : Int) < 16 := by omega
  have c16 : (c : Int) < 16 := by omega
  have d16 : (d : Int) < 16 := by omega
  have a0 : (0 : Int) ≤ (a : Int) := Int.natCast_nonneg _
  have b0 : (0 : Int) ≤ (b : Int) := Int.natCast_nonneg _
  have c0 : (0 : Int) ≤ (c : Int) := Int.natCast_nonneg _
  have d0 : (0 : Int) ≤ (d : Int) := Int.natCast_nonneg _
  obtain ⟨V, hV⟩ : ∃ V, V = Bl.g v a b c d x y := ⟨_, rfl⟩
  rw [← hV]
  unfold Bl.g at hV
  have HVV : Hid (V = Bl.s2 (Bl.s3 (Bl.s2 (Bl.s1 (Bl.s2 (Bl.s3 (Bl.s2 (Bl.s1 v a b x) d a 16) c d) b c 12) a b y) d a 8) c d) b c 7) := hV
  have HR0 : Hid (Row w g t v tl) := hr
  have HV0 : Hid (Bl.Words 16 v) := hv
  have O0 : Hid (Only g w w) := Only.refl g w
  clear hr hv hV
  go_enter Tryd.func43, Tryd.ntmps43
  go_upto_region 0 with fail
  go_cut [0] from 14 (fun s wx => s = .slice (some ⟨g, 0, none⟩) 16 cap ∧ Row wx g t (Bl.s1 v a b x) tl ∧ Only g w wx)
  case first =>
    obtain ⟨p, q, cp, fp, cq, lp, lq, xpq, xl, Hp, Hq⟩ := two HV0.out HR0.out ha hb
    go_region
    all_goals go_wp2_with fail
    all_goals go_meet
    all_goals (case rel => exact ⟨rfl, (st1' (x := x) (by rw [HV0.out.1]; exact ha) HR0.out Hp.out Hq.out).imp id (fun o => O0.out.trans o)⟩)
  case rest =>
    obtain ⟨rfl, hr1, ho1⟩ := hcut
    have HR1 : Hid (Row wc g t (Bl.s1 v a b x) tl) := hr1
    have HV1 : Hid (Bl.Words 16 (Bl.s1 v a b x)) := HV0.out.s1 _ _ _
    have O1 : Hid (Only g w wc) := ho1
    clear hr1 ho1 HR0 HV0 O0
    generalize Bl.s1 v a b x = v1 at *
    go_upto_region 1 with fail
    go_cut [0] from 14 (fun s wx => s = .slice (some ⟨g, 0, none⟩) 16 cap ∧ Row wx g t (Bl.s2 v1 d a 16) tl ∧ Only g w wx)
    case first =>
      obtain ⟨p, q, cp, fp, cq, lp, lq, xpq, xl, Hp, Hq⟩ := two HV1.out HR1.out hd ha
      go_region_with (first | (go_at_call 50; refine (right_any _ 16 _ xl (by omega) (by omega)).mono ?_; rintro e w' ⟨rfl, rfl⟩))
      all_goals go_wp2_with fail
      all_goals go_meet
      all_goals (case rel => exact ⟨rfl, (st2 (k := 16) (by rw [HV1.out.1]; exact hd) HR1.out Hp.out Hq.out).imp id (fun o => O1.out.trans o)⟩)
    case rest =>
      obtain ⟨rfl, hr1, ho1⟩ := hcut
      have HR2 : Hid (Row wc g t (Bl.s2 v1 d a 16) tl) := hr1
      have HV2 : Hid (Bl.Words 16 (Bl.s2 v1 d a 16)) := HV1.out.s2 _ _ _
      have O2 : Hid (Only g w wc) := ho1
      clear hr1 ho1 HR1 HV1 O1
      generalize Bl.s2 v1 d a 16 = v2 at *
      go_upto_region 2 with fail
      go_cut [0] from 14 (fun s wx => s = .slice (some ⟨g, 0, none⟩) 16 cap ∧ Row wx g t (Bl.s3 v2 c d) tl ∧ Only g w wx)
      case first =>
        obtain ⟨p, q, cp, fp, cq, lp, lq, xpq, xl, Hp, Hq⟩ := two HV2.out HR2.out hc hd
        go_region
        all_goals go_wp2_with fail
        all_goals go_meet
        all_goals (case rel => exact ⟨rfl, (st3 (by rw [HV2.out.1]; exact hc) HR2.out Hp.out Hq.out).imp id (fun o => O2.out.trans o)⟩)
      case rest =>
        obtain ⟨rfl, hr1, ho1⟩ := hcut
        have HR3 : Hid (Row wc g t (Bl.s3 v2 c d) tl) := hr1
        have HV3 : Hid (Bl.Words 16 (Bl.s3 v2 c d)) := HV2.out.s3 _ _
        have O3 : Hid (Only g w wc) := ho1
        clear hr1 ho1 HR2 HV2 O2
        generalize Bl.s3 v2 c d = v3 at *
        go_upto_region 3 with fail
        go_cut [0] from 14 (fun s wx => s = .slice (some ⟨g, 0, none⟩) 16 cap ∧ Row wx g t (Bl.s2 v3 b c 12) tl ∧ Only g w wx)
        case first =>
          obtain ⟨p, q, cp, fp, cq, lp, lq, xpq, xl, Hp, Hq⟩ := two HV3.out HR3.out hb hc
          go_region_with (first | (go_at_call 50; refine (right_any _ 12 _ xl (by omega) (by omega)).mono ?_; rintro e w' ⟨rfl, rfl⟩))
          all_goals go_wp2_with fail
          all_goals go_meet
          all_goals (case rel => exact ⟨rfl, (st2 (k := 12) (by rw [HV3.out.1]; exact hb) HR3.out Hp.out Hq.out).imp id (fun o => O3.out.trans o)⟩)
        case rest =>
          obtain ⟨rfl, hr1, ho1⟩ := hcut
          have HR4 : Hid (Row wc g t (Bl.s2 v3 b c 12) tl) := hr1
          have HV4 : Hid (Bl.Words 16 (Bl.s2 v3 b c 12)) := HV3.out.s2 _ _ _
          have O4 : Hid (Only g w wc) := ho1
          clear hr1 ho1 HR3 HV3 O3
          generalize Bl.s2 v3 b c 12 = v4 at *
          go_upto_region 4 with fail
          go_cut [0] from 14 (fun s wx => s = .slice (some ⟨g, 0, none⟩) 16 cap ∧ Row wx g t (Bl.s1 v4 a b y) tl ∧ Only g w wx)
          case first =>
            obtain ⟨p, q, cp, fp, cq, lp, lq, xpq, xl, Hp, Hq⟩ := two HV4.out HR4.out ha hb
            go_region
            all_goals go_wp2_with fail
            all_goals go_meet
            all_goals (case rel => exact ⟨rfl, (st1' (x := y) (by rw [HV4.out.1]; exact ha) HR4.out Hp.out Hq.out).imp id (fun o => O4.out.trans o)⟩)
          case rest =>
            obtain ⟨rfl, hr1, ho1⟩ := hcut
            have HR5 : Hid (Row wc g t (Bl.s1 v4 a b y) tl) := hr1
            have HV5 : Hid (Bl.Words 16 (Bl.s1 v4 a b y)) := HV4.out.s1 _ _ _
            have O5 : Hid (Only g w wc) := ho1
            clear hr1 ho1 HR4 HV4 O4
            generalize Bl.s1 v4 a b y = v5 at *
            go_upto_region 5 with fail
            go_cut [0] from 14 (fun s wx => s = .slice (some ⟨g, 0, none⟩) 16 cap ∧ Row wx g t (Bl.s2 v5 d a 8) tl ∧ Only g w wx)
            case first =>
              obtain ⟨p, q, cp, fp, cq, lp, lq, xpq, xl, Hp, Hq⟩ := two HV5.out HR5.out hd ha
              go_region_with (first | (go_at_call 50; refine (right_any _ 8 _ xl (by omega) (by omega)).mono ?_; rintro e w' ⟨rfl, rfl⟩))
              all_goals go_wp2_with fail
              all_goals go_meet
              all_goals (case rel => exact ⟨rfl, (st2 (k := 8) (by rw [HV5.out.1]; exact hd) HR5.out Hp.out Hq.out).imp id (fun o => O5.out.trans o)⟩)
            case rest =>
              obtain ⟨rfl, hr1, ho1⟩ := hcut
              have HR6 : Hid (Row wc g t (Bl.s2 v5 d a 8) tl) := hr1
              have HV6 : Hid (Bl.Words 16 (Bl.s2 v5 d a 8)) := HV5.out.s2 _ _ _
              have O6 : Hid (Only g w wc) := ho1
              clear hr1 ho1 HR5 HV5 O5
              generalize Bl.s2 v5 d a 8 = v6 at *
              go_upto_region 6 with fail
              go_cut [0] from 14 (fun s wx => s = .slice (some ⟨g, 0, none⟩) 16 cap ∧ Row wx g t (Bl.s3 v6 c d) tl ∧ Only g w wx)
              case first =>
                obtain ⟨p, q, cp, fp, cq, lp, lq, xpq, xl, Hp, Hq⟩ := two HV6.out HR6.out hc hd
                go_region
                all_goals go_wp2_with fail
                all_goals go_meet
                all_goals (case rel => exact ⟨rfl, (st3 (by rw [HV6.out.1]; exact hc) HR6.out Hp.out Hq.out).imp id (fun o => O6.out.trans o)⟩)
              case rest =>
                obtain ⟨rfl, hr1, ho1⟩ := hcut
                have HR7 : Hid (Row wc g t (Bl.s3 v6 c d) tl) := hr1
                have HV7 : Hid (Bl.Words 16 (Bl.s3 v6 c d)) := HV6.out.s3 _ _
                have O7 : Hid (Only g w wc) := ho1
                clear hr1 ho1 HR6 HV6 O6
                generalize Bl.s3 v6 c d = v7 at *
                go_wp2_with fail
                obtain ⟨p, q, cp, fp, cq, lp, lq, xpq, xl, Hp, Hq⟩ := two HV7.out HR7.out hb hc
                go_region_with (first | (go_at_call 50; refine (right_any _ 7 _ xl (by omega) (by omega)).mono ?_; rintro e w' ⟨rfl, rfl⟩))
                all_goals go_end0
                all_goals exact ⟨rfl, by rw [HVV.out]; exact ((st2 (k := 7) (by rw [HV7.out.1]; exact hb) HR7.out Hp.out Hq.out).imp id (fun o => O7.out.trans o)).1, ((st2 (k := 7) (by rw [HV7.out.1]; exact hb) HR7.out Hp.out Hq.out).imp id (fun o => O7.out.trans o)).2⟩
end Go.Proofs.YtefpaebbendnmaaDoor.BK
