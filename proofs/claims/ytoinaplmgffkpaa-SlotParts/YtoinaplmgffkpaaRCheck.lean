/- Proved: what the document's Check answers (stage 11). -/
import Derived.Test.YtoinaplmgffkpaaMathK
import Derived.Test.YtoinaplmgffkpaaRLeaf
import Derived.Deep.Cut
namespace Go.Proofs.Ytoinaplmgffkpaa
open Go.RowKit
open Sl (Cel Nod)
set_option maxHeartbeats 8000000 in
set_option maxRecDepth 20000 in
theorem rcheck_any (n : Nod) (p : Pt) (w : World) (hN : Lies w n p) (hF : Fit n) :
    Calls Try.prog 35 #[nv n p] w fun e w' => e = .returned (.int .i64 (checkE n)) ∧ Below w.heap.size w w' := by
  have HL : Hid (Lies w n p) := hN
  have HF : Hid (Fit n) := hF
  have hl1 := hF.l1
  have hl2 := hF.l2
  have hl3 := hF.l3
  have HNO := (show Hid (¬ (shape n = true ∧ Good n) → checkE n = 2) from may_no)
  have HYE := (show Hid (shape n = true → Good n → checkE n = 0) from may_yes)
  have HSH : Is (shape n) ((if n.leaf then decide (n.keys.length = 0) && decide (n.kids.length = 0) else decide (n.cells.length = 0) && decide (n.kids.length = n.keys.length + 1)) && (decide (n.cells.length ≤ 255) && decide (n.keys.length ≤ 255))) := ⟨rfl⟩
  clear hN hF
  generalize checkE n = E at *
  obtain ⟨lf, cs, ks, ds⟩ := n
  obtain ⟨a1, c1, a2, c2, a3, c3⟩ := p
  generalize shape ⟨lf, cs, ks, ds⟩ = SH at *
  unfold nv
  simp only at hl1 hl2 hl3 HSH ⊢
  have HB0 : Hid (Below w.heap.size w (w.alloc (.cells #[.bool lf, .slice a1 cs.length c1, .slice a2 ks.length c2, .slice a3 ds.length c3] 26))) := below_alloc _ _
  have HN0 : Hid (Brow (w.alloc (.cells #[.bool lf, .slice a1 cs.length c1, .slice a2 ks.length c2, .slice a3 ds.length c3] 26)) w.heap.size [.bool lf, .slice a1 cs.length c1, .slice a2 ks.length c2, .slice a3 ds.length c3] 26) := Brow.new w [.bool lf, .slice a1 cs.length c1, .slice a2 ks.length c2, .slice a3 ds.length c3] 26
  have hs0 : w.heap.size + 1 ≤ (w.alloc (.cells #[.bool lf, .slice a1 cs.length c1, .slice a2 ks.length c2, .slice a3 ds.length c3] 26)).heap.size := by rw [size_alloc1]; omega
  go_enter Try.func35, Try.ntmps35
  go_upto_region 1 with fail
  generalize (w.alloc (.cells #[.bool lf, .slice a1 cs.length c1, .slice a2 ks.length c2, .slice a3 ds.length c3] 26)) = w0 at *
  go_cut [52] from 6 (fun s52 wx => s52 = .bool (!SH) ∧ wx = w0)
  case first =>
    clear HL HF HNO HYE HB0
    have q0 := HN0.out.at 0 _ rfl
    have q1 := HN0.out.at 1 _ rfl
    have q2 := HN0.out.at 2 _ rfl
    have q3 := HN0.out.at 3 _ rfl
    have e0 : decide ((0 : Int) < (ks.length : Int)) = !decide (ks.length = 0) := by
      by_cases h : ks.length = 0
      · simp [h]
      · rw [decide_eq_false h, decide_eq_true (by omega)]; rfl
    have e1 : decide ((0 : Int) < (ds.length : Int)) = !decide (ds.length = 0) := by
      by_cases h : ds.length = 0
      · simp [h]
      · rw [decide_eq_false h, decide_eq_true (by omega)]; rfl
    have e2 : decide ((0 : Int) < (cs.length : Int)) = !decide (cs.length = 0) := by
      by_cases h : cs.length = 0
      · simp [h]
      · rw [decide_eq_false h, decide_eq_true (by omega)]; rfl
    have e3 : decide ((255 : Int) < (cs.length : Int)) = !decide (cs.length ≤ 255) := by
      by_cases h : cs.length ≤ 255
      · rw [decide_eq_true h, decide_eq_false (by omega)]; rfl
      · rw [decide_eq_false h, decide_eq_true (by omega)]; rfl
    have e4 : decide ((255 : Int) < (ks.length : Int)) = !decide (ks.length ≤ 255) := by
      by_cases h : ks.length ≤ 255
      · rw [decide_eq_true h, decide_eq_false (by omega)]; rfl
      · rw [decide_eq_false h, decide_eq_true (by omega)]; rfl
    cases lf with
    | true =>
      by_cases hk : ks.length = 0
      · have hkf0 : ¬ (0 : Int) < (ks.length : Int) := by omega
        have hkg0 : decide ((0 : Int) < (ks.length : Int)) = false := decide_eq_false (by omega)
        have hkf1 : ¬ 0 < ks.length := by omega
        have hkg1 : decide (0 < ks.length) = false := decide_eq_false (by omega)
        by_cases hd : ds.length = 0
        · have hdf0 : ¬ (0 : Int) < (ds.length : Int) := by omega
          have hdg0 : decide ((0 : Int) < (ds.length : Int)) = false := decide_eq_false (by omega)
          have hdf1 : ¬ 0 < ds.length := by omega
          have hdg1 : decide (0 < ds.length) = false := decide_eq_false (by omega)
          by_cases hc : cs.length ≤ 255
          · have hcf0 : ¬ (255 : Int) < (cs.length : Int) := by omega
            have hcg0 : decide ((255 : Int) < (cs.length : Int)) = false := decide_eq_false (by omega)
            have hcf1 : ¬ 255 < cs.length := by omega
            have hcg1 : decide (255 < cs.length) = false := decide_eq_false (by omega)
            by_cases hk2 : ks.length ≤ 255
            · have hk2f0 : ¬ (255 : Int) < (ks.length : Int) := by omega
              have hk2g0 : decide ((255 : Int) < (ks.length : Int)) = false := decide_eq_false (by omega)
              have hk2f1 : ¬ 255 < ks.length := by omega
              have hk2g1 : decide (255 < ks.length) = false := decide_eq_false (by omega)
              have HE : Is SH true := ⟨by rw [HSH.eq]; simp only [if_true, if_true, decide_eq_true (p := _) hk, decide_eq_true (p := _) hd, decide_eq_true (p := _) hc, decide_eq_true (p := _) hk2]; rfl⟩
              clear HSH e0 e1 e2 e3 e4 hk hd hc hk2
              go_wp2_with fail
              go_meet
              case rel => exact ⟨by rw [HE.eq]; rfl, rfl⟩
            · exfalso; omega
          · have hcf0 : (255 : Int) < (cs.length : Int) := by omega
            have hcg0 : decide ((255 : Int) < (cs.length : Int)) = true := decide_eq_true (by omega)
            have hcf1 : 255 < cs.length := by omega
            have hcg1 : decide (255 < cs.length) = true := decide_eq_true (by omega)
            have HE : Is SH false := ⟨by rw [HSH.eq]; simp [hc]⟩
            clear HSH e0 e1 e2 e3 e4 hk hd hc
            go_wp2_with fail
            go_meet
            case rel => exact ⟨by rw [HE.eq]; rfl, rfl⟩
        · have hdf0 : (0 : Int) < (ds.length : Int) := by omega
          have hdg0 : decide ((0 : Int) < (ds.length : Int)) = true := decide_eq_true (by omega)
          have hdf1 : 0 < ds.length := by omega
          have hdg1 : decide (0 < ds.length) = true := decide_eq_true (by omega)
          have HE : Is SH false := ⟨by rw [HSH.eq]; simp [hd]⟩
          clear HSH e0 e1 e2 e3 e4 hk hd
          go_wp2_with fail
          go_meet
          case rel => exact ⟨by rw [HE.eq]; rfl, rfl⟩
      · have hkf0 : (0 : Int) < (ks.length : Int) := by omega
        have hkg0 : decide ((0 : Int) < (ks.length : Int)) = true := decide_eq_true (by omega)
        have hkf1 : 0 < ks.length := by omega
        have hkg1 : decide (0 < ks.length) = true := decide_eq_true (by omega)
        have HE : Is SH false := ⟨by rw [HSH.eq]; simp [hk]⟩
        clear HSH e0 e1 e2 e3 e4 hk
        go_wp2_with fail
        go_meet
        case rel => exact ⟨by rw [HE.eq]; rfl, rfl⟩
    | false =>
      by_cases hc0 : cs.length = 0
      · have hc0f0 : ¬ (0 : Int) < (cs.length : Int) := by omega
        have hc0g0 : decide ((0 : Int) < (cs.length : Int)) = false := decide_eq_false (by omega)
        have hc0f1 : ¬ 0 < cs.length := by omega
        have hc0g1 : decide (0 < cs.length) = false := decide_eq_false (by omega)
        by_cases hd : ds.length = ks.length + 1
        · have hx1 : (ds.length : Int) = (ks.length : Int) + 1 := by omega
          have hx2 : ((ds.length : Int) != (ks.length : Int) + 1) = false := by simp; omega
          by_cases hc : cs.length ≤ 255
          · have hcf0 : ¬ (255 : Int) < (cs.length : Int) := by omega
            have hcg0 : decide ((255 : Int) < (cs.length : Int)) = false := decide_eq_false (by omega)
            have hcf1 : ¬ 255 < cs.length := by omega
            have hcg1 : decide (255 < cs.length) = false := decide_eq_false (by omega)
            by_cases hk2 : ks.length ≤ 255
            · have hk2f0 : ¬ (255 : Int) < (ks.length : Int) := by omega
              have hk2g0 : decide ((255 : Int) < (ks.length : Int)) = false := decide_eq_false (by omega)
              have hk2f1 : ¬ 255 < ks.length := by omega
              have hk2g1 : decide (255 < ks.length) = false := decide_eq_false (by omega)
              have HE : Is SH true := ⟨by rw [HSH.eq]; simp only [Bool.false_eq_true, if_false, decide_eq_true (p := _) hc0, decide_eq_true (p := _) hd, decide_eq_true (p := _) hc, decide_eq_true (p := _) hk2]; rfl⟩
              clear HSH e0 e1 e2 e3 e4 hc0 hd hc hk2
              go_wp2_with fail
              go_meet
              case rel => exact ⟨by rw [HE.eq]; rfl, rfl⟩
            · have hk2f0 : (255 : Int) < (ks.length : Int) := by omega
              have hk2g0 : decide ((255 : Int) < (ks.length : Int)) = true := decide_eq_true (by omega)
              have hk2f1 : 255 < ks.length := by omega
              have hk2g1 : decide (255 < ks.length) = true := decide_eq_true (by omega)
              have HE : Is SH false := ⟨by rw [HSH.eq]; simp [hk2]⟩
              clear HSH e0 e1 e2 e3 e4 hc0 hd hc hk2
              go_wp2_with fail
              go_meet
              case rel => exact ⟨by rw [HE.eq]; rfl, rfl⟩
          · exfalso; omega
        · have hx1 : ¬ (ds.length : Int) = (ks.length : Int) + 1 := by omega
          have hx2 : ((ds.length : Int) != (ks.length : Int) + 1) = true := by simp; omega
          have HE : Is SH false := ⟨by rw [HSH.eq]; simp [hd]⟩
          clear HSH e0 e1 e2 e3 e4 hc0 hd
          go_wp2_with fail
          go_meet
          case rel => exact ⟨by rw [HE.eq]; rfl, rfl⟩
      · have hc0f0 : (0 : Int) < (cs.length : Int) := by omega
        have hc0g0 : decide ((0 : Int) < (cs.length : Int)) = true := decide_eq_true (by omega)
        have hc0f1 : 0 < cs.length := by omega
        have hc0g1 : decide (0 < cs.length) = true := decide_eq_true (by omega)
        have HE : Is SH false := ⟨by rw [HSH.eq]; simp [hc0]⟩
        clear HSH e0 e1 e2 e3 e4 hc0
        go_wp2_with fail
        go_meet
        case rel => exact ⟨by rw [HE.eq]; rfl, rfl⟩
  case rest =>
    obtain ⟨rfl, hwc⟩ := hcut
    replace hwc := hwc.symm
    subst hwc
    clear HSH
    cases SH with
    | false =>
      have HFE := (show Hid (E = 2) from HNO.out (fun h => by cases h.1))
      clear HNO HYE HL HF HN0
      simp only [Bool.not_false]
      go_wp2
      go_ret
      exact ⟨by rw [HFE.out]; rfl, HB0.out⟩
    | true =>
      have HNG := (show Hid (¬ Good ⟨lf, cs, ks, ds⟩ → E = 2) from fun h => HNO.out (fun h' => h h'.2))
      have HYG := (show Hid (Good ⟨lf, cs, ks, ds⟩ → E = 0) from HYE.out rfl)
      clear HNO HYE
      simp only [Bool.not_true]
      have HE0 := (show Hid (∀ W : World, Below w0.heap.size w0 W → Below w.heap.size w W) from fun W h => HB0.out.trans (h.mono (by omega)))
      clear HB0
      have q0 := HN0.out.at 0 _ rfl
      have q1 := HN0.out.at 1 _ rfl
      have q2 := HN0.out.at 2 _ rfl
      have q3 := HN0.out.at 3 _ rfl
      go_wp2_with fail
      go_loopw [3] (fun s3 wr => ∃ k : Nat, k ≤ cs.length ∧ s3 = .int .i64 (k : Int) ∧ (∀ i, i < k → celOk (cs.getD i Sl.cel0) = true) ∧ (∀ i, i + 1 < k → Sl.lt (cs.getD i Sl.cel0).key (cs.getD (i + 1) Sl.cel0).key = true) ∧ Below w0.heap.size w0 wr) (fun s3 _ => cs.length - (intOf s3).toNat)
      case atStart => exact ⟨0, by omega, rfl, fun i hi => absurd hi (by omega), fun i hi => absurd hi (by omega), Below.refl _ _⟩
      case round =>
        obtain ⟨k, hk, rfl, hall, hri, hB⟩ := hrel
        have HALL := (show Hid (∀ i, i < k → celOk (cs.getD i Sl.cel0) = true) from hall)
        have HRI := (show Hid (∀ i, i + 1 < k → Sl.lt (cs.getD i Sl.cel0).key (cs.getD (i + 1) Sl.cel0).key = true) from hri)
        have HBr := (show Hid (Below w0.heap.size w0 wr) from hB)
        have HBW := (show Hid (Below w.heap.size w wr) from HE0.out _ hB)
        have HN := (show Hid (Brow wr w.heap.size [.bool lf, .slice a1 cs.length c1, .slice a2 ks.length c2, .slice a3 ds.length c3] 26) from HN0.out.below hB (by omega))
        have hsr : w.heap.size + 1 ≤ wr.heap.size := Nat.le_trans hs0 hB.size
        have hsb : w0.heap.size ≤ wr.heap.size := hB.size
        clear hall hri hB
        have q0 := HN.out.at 0 _ rfl
        have q1 := HN.out.at 1 _ rfl
        have q2 := HN.out.at 2 _ rfl
        have q3 := HN.out.at 3 _ rfl
        by_cases hlt : k < cs.length
        · obtain ⟨b, off, hab, hb, hc⟩ := HL.out.r1.cell (Nat.lt_of_le_of_lt (Nat.zero_le _) hlt)
          simp only at hab
          subst hab
          obtain ⟨j, HJ⟩ : ∃ j, Is j (k - 1) := ⟨_, ⟨rfl⟩⟩
          have hjl : j < cs.length := by have := HJ.eq; omega
          have hj1 : 0 < k → j + 1 = k := fun h => by have := HJ.eq; omega
          have hbw : b < wr.heap.size := Nat.lt_of_lt_of_le hb HBW.out.size
          have hcX := (hc k hlt).below HBW.out hb
          have hcY := (hc j hjl).below HBW.out hb
          have hfX := HF.out.cells _ (Sl.getD_mem cs k Sl.cel0 hlt)
          clear hc
          have d1 : decide ((k : Int) < (cs.length : Int)) = true := decide_eq_true (by omega)
          have i1 : (k : Int) < (cs.length : Int) := by omega
          have i2 : (0 : Int) ≤ (k : Int) := by omega
          have HMM := (show Hid (cs.getD k Sl.cel0 ∈ cs) from Sl.getD_mem cs k Sl.cel0 hlt)
          have HQ0 : Is (celOk (cs.getD k Sl.cel0)) (celOk (cs.getD k Sl.cel0)) := ⟨rfl⟩
          have HALX := (show Hid (celOk (cs.getD k Sl.cel0) = true → ∀ i, i < k + 1 → celOk (cs.getD i Sl.cel0) = true) from fun h i hi => by
            by_cases e : i = k
            · rw [e]; exact h
            · exact HALL.out i (by omega))
          have HLTF := (show Hid (0 < k → (Sl.lt (cs.getD j Sl.cel0).key (cs.getD k Sl.cel0).key = false → ¬ Good ⟨lf, cs, ks, ds⟩) ∧ (Sl.lt (cs.getD j Sl.cel0).key (cs.getD k Sl.cel0).key = true → ∀ i, i + 1 < k + 1 → Sl.lt (cs.getD i Sl.cel0).key (cs.getD (i + 1) Sl.cel0).key = true)) from fun h0 => ⟨fun hlt0 hg => (fun h0 hlt0 hg => rise_not (l := cs.map Cel.key) (i := j) (by rw [List.length_map, hj1 h0]; exact hlt) (by rw [map_key cs j hjl, hj1 h0, map_key cs k hlt]; exact hlt0) hg.cr) h0 hlt0 hg, fun h i hi => by
            have hj := HJ.eq
            by_cases e : i + 1 = k
            · rw [e, show i = j by omega]; exact h
            · exact HRI.out i (by omega)⟩)
          clear hj1
          go_upto_region 6 with fail
          clear q0 q1 q2 q3
          cases hQ : celOk (cs.getD k Sl.cel0) with
          | false =>
            have HMQ : Is (celOk (cs.getD k Sl.cel0)) false := ⟨hQ⟩
            have HNX := (show Hid (¬ Good ⟨lf, cs, ks, ds⟩) from fun hg => by
              have h := hg.c _ HMM.out
              rw [hQ] at h
              cases h)
            clear HMM HALX HALL HRI HQ0 HMQ
            replace hQ : Is (celOk (cs.getD k Sl.cel0)) false := ⟨hQ⟩
            generalize cs.getD k Sl.cel0 = x at *
            generalize cs.getD j Sl.cel0 = y at *
            have HCL := fun W => rcell_any x W hfX
            obtain ⟨xk, xx, xo, xl⟩ := x
            obtain ⟨yk, yx, yo, yl⟩ := y
            unfold cv at HCL
            simp only at HCL HLTF
            generalize celOk ⟨xk, xx, xo, xl⟩ = q at *
            rw [hQ.eq] at HCL
            clear hQ HLTF
            have HSD := (show Hid ((fun W : World => Brow W w.heap.size [.bool lf, .slice (some ⟨b, off, none⟩) cs.length c1, .slice a2 ks.length c2, .slice a3 ds.length c3] 26 ∧ CelAt W b (off + k * 4) ⟨xk, xx, xo, xl⟩ ∧ CelAt W b (off + j * 4) ⟨yk, yx, yo, yl⟩) wr.drew) from ⟨HN.out.drew, (hcX.below (Below.refl wr.heap.size wr).drew hbw), (hcY.below (Below.refl wr.heap.size wr).drew hbw)⟩)
            have HBD := (show Hid (Below w0.heap.size w0 wr.drew) from HBr.out.drew)
            have hsd : w.heap.size + 1 ≤ wr.drew.heap.size := hsr
            have hsbd : w0.heap.size ≤ wr.drew.heap.size := hsb
            have hbd : b < wr.drew.heap.size := hbw
            clear hbw
            have hbw := hbd
            refine wp_region_held_drew (S := (fun W : World => Brow W w.heap.size [.bool lf, .slice (some ⟨b, off, none⟩) cs.length c1, .slice a2 ks.length c2, .slice a3 ds.length c3] 26 ∧ CelAt W b (off + k * 4) ⟨xk, xx, xo, xl⟩ ∧ CelAt W b (off + j * 4) ⟨yk, yx, yo, yl⟩)) (by kernel_rfl) HSD.out (fun _ => ?_)
            generalize wr.drew = wd at *
            clear HBr HBW HN hcX hcY
            refine heldTake 0 (some 60) (.pointer (some ⟨w.heap.size, 1, none⟩)) rfl rfl (by kernel_rfl) (by kernel_rfl) (by kernel_rfl) (fun _ _ _ h => h) (Or.inl ⟨by rfl, fun w hS => ?_⟩) HSD.out ?_
            · (go_simp)
            simp only [Act.put, List.setIfInBounds_toArray, List.set_cons_zero, List.set_cons_succ]
            refine heldTake 1 (some 61) (.slice (some ⟨b, off, none⟩) cs.length c1) rfl rfl (by kernel_rfl) (by kernel_rfl) (by kernel_rfl) (fun _ _ _ h => h) (Or.inl ⟨by rfl, fun w hS => ?_⟩) HSD.out ?_
            · (have q := hS.1.at 1 _ rfl; go_simp)
            simp only [Act.put, List.setIfInBounds_toArray, List.set_cons_zero, List.set_cons_succ]
            refine heldTake 2 (some 62) (.int .i64 (k : Int)) rfl rfl (by kernel_rfl) (by kernel_rfl) (by kernel_rfl) (fun _ _ _ h => h) (Or.inl ⟨by rfl, fun w hS => ?_⟩) HSD.out ?_
            · (go_simp)
            simp only [Act.put, List.setIfInBounds_toArray, List.set_cons_zero, List.set_cons_succ]
            refine heldTake 3 (some 63) (.pointer (some ⟨b, off + k * 4, none⟩)) rfl rfl (by kernel_rfl) (by kernel_rfl) (by kernel_rfl) (fun _ _ _ h => h) (Or.inl ⟨by rfl, fun w hS => ?_⟩) HSD.out ?_
            · (go_simp)
            simp only [Act.put, List.setIfInBounds_toArray, List.set_cons_zero, List.set_cons_succ]
            refine heldTake 4 (some 64) (.agg #[.string xk, .string xx, .int .i64 xo, .int .i64 xl]) rfl rfl (by kernel_rfl) (by kernel_rfl) (by kernel_rfl) (fun _ _ _ h => h) (Or.inl ⟨by rfl, fun w hS => ?_⟩) HSD.out ?_
            · (have q0 := hS.2.1.key; have q1 := hS.2.1.val; have q2 := hS.2.1.over; have q3 := hS.2.1.len; simp only at q0 q1 q2 q3; go_simp)
            simp only [Act.put, List.setIfInBounds_toArray, List.set_cons_zero, List.set_cons_succ]
            refine heldOne 5 (by kernel_rfl) rfl (by rfl) (fun KK hK => ?_)
            go_simp
            go_at_call 62
            refine (HCL wd).mono ?_
            rintro e w9 ⟨rfl, hB9⟩
            have HS9 := (show Hid ((fun W : World => Brow W w.heap.size [.bool lf, .slice (some ⟨b, off, none⟩) cs.length c1, .slice a2 ks.length c2, .slice a3 ds.length c3] 26 ∧ CelAt W b (off + k * 4) ⟨xk, xx, xo, xl⟩ ∧ CelAt W b (off + j * 4) ⟨yk, yx, yo, yl⟩) w9) from ⟨HSD.out.1.below hB9 (by omega), HSD.out.2.1.below hB9 hbw, HSD.out.2.2.below hB9 hbw⟩)
            have HB9 := (show Hid (Below w0.heap.size w0 w9) from HBD.out.trans (hB9.mono (by omega)))
            clear hB9 HSD HBD HCL
            refine hK.out _ _ HS9.out ?_
            clear hK KK
            try simp only [Act.put, List.setIfInBounds_toArray, List.set_cons_zero, List.set_cons_succ]
            refine heldTake 6 (some 66) (.bool true) rfl rfl (by kernel_rfl) (by kernel_rfl) (by kernel_rfl) (fun _ _ _ h => h) (Or.inl ⟨by rfl, fun w hS => ?_⟩) HS9.out ?_
            · (go_simp)
            simp only [Act.put, List.setIfInBounds_toArray, List.set_cons_zero, List.set_cons_succ]
            refine heldTake 7 (some 67) (.bool true) rfl rfl (by kernel_rfl) (by kernel_rfl) (by kernel_rfl) (fun _ _ _ h => h) (Or.inl ⟨by rfl, fun w hS => ?_⟩) HS9.out ?_
            · (go_simp)
            simp only [Act.put, List.setIfInBounds_toArray, List.set_cons_zero, List.set_cons_succ]
            refine heldTake 8 (some 68) undef rfl rfl (by kernel_rfl) (by kernel_rfl) (by kernel_rfl) (fun _ _ _ h => h) (Or.inr ⟨by rfl, rfl⟩) HS9.out ?_
            simp only [Act.put, List.setIfInBounds_toArray, List.set_cons_zero, List.set_cons_succ]
            refine heldTake 9 (some 69) undef rfl rfl (by kernel_rfl) (by kernel_rfl) (by kernel_rfl) (fun _ _ _ h => h) (Or.inr ⟨by rfl, rfl⟩) HS9.out ?_
            simp only [Act.put, List.setIfInBounds_toArray, List.set_cons_zero, List.set_cons_succ]
            refine heldTake 10 (some 70) undef rfl rfl (by kernel_rfl) (by kernel_rfl) (by kernel_rfl) (fun _ _ _ h => h) (Or.inr ⟨by rfl, rfl⟩) HS9.out ?_
            simp only [Act.put, List.setIfInBounds_toArray, List.set_cons_zero, List.set_cons_succ]
            refine heldTake 11 (some 71) undef rfl rfl (by kernel_rfl) (by kernel_rfl) (by kernel_rfl) (fun _ _ _ h => h) (Or.inr ⟨by rfl, rfl⟩) HS9.out ?_
            simp only [Act.put, List.setIfInBounds_toArray, List.set_cons_zero, List.set_cons_succ]
            refine heldTake 12 (some 72) undef rfl rfl (by kernel_rfl) (by kernel_rfl) (by kernel_rfl) (fun _ _ _ h => h) (Or.inr ⟨by rfl, rfl⟩) HS9.out ?_
            simp only [Act.put, List.setIfInBounds_toArray, List.set_cons_zero, List.set_cons_succ]
            refine heldTake 13 (some 73) undef rfl rfl (by kernel_rfl) (by kernel_rfl) (by kernel_rfl) (fun _ _ _ h => h) (Or.inr ⟨by rfl, rfl⟩) HS9.out ?_
            simp only [Act.put, List.setIfInBounds_toArray, List.set_cons_zero, List.set_cons_succ]
            refine heldTake 14 (some 74) undef rfl rfl (by kernel_rfl) (by kernel_rfl) (by kernel_rfl) (fun _ _ _ h => h) (Or.inr ⟨by rfl, rfl⟩) HS9.out ?_
            simp only [Act.put, List.setIfInBounds_toArray, List.set_cons_zero, List.set_cons_succ]
            refine heldTake 15 (some 75) undef rfl rfl (by kernel_rfl) (by kernel_rfl) (by kernel_rfl) (fun _ _ _ h => h) (Or.inr ⟨by rfl, rfl⟩) HS9.out ?_
            simp only [Act.put, List.setIfInBounds_toArray, List.set_cons_zero, List.set_cons_succ]
            refine heldTake 16 (some 76) undef rfl rfl (by kernel_rfl) (by kernel_rfl) (by kernel_rfl) (fun _ _ _ h => h) (Or.inr ⟨by rfl, rfl⟩) HS9.out ?_
            simp only [Act.put, List.setIfInBounds_toArray, List.set_cons_zero, List.set_cons_succ]
            refine heldTake 17 (some 77) undef rfl rfl (by kernel_rfl) (by kernel_rfl) (by kernel_rfl) (fun _ _ _ h => h) (Or.inr ⟨by rfl, rfl⟩) HS9.out ?_
            simp only [Act.put, List.setIfInBounds_toArray, List.set_cons_zero, List.set_cons_succ]
            refine heldTake 18 (some 78) undef rfl rfl (by kernel_rfl) (by kernel_rfl) (by kernel_rfl) (fun _ _ _ h => h) (Or.inr ⟨by rfl, rfl⟩) HS9.out ?_
            simp only [Act.put, List.setIfInBounds_toArray, List.set_cons_zero, List.set_cons_succ]
            refine heldTake 19 (some 79) undef rfl rfl (by kernel_rfl) (by kernel_rfl) (by kernel_rfl) (fun _ _ _ h => h) (Or.inr ⟨by rfl, rfl⟩) HS9.out ?_
            simp only [Act.put, List.setIfInBounds_toArray, List.set_cons_zero, List.set_cons_succ]
            refine heldTake 20 (some 80) undef rfl rfl (by kernel_rfl) (by kernel_rfl) (by kernel_rfl) (fun _ _ _ h => h) (Or.inr ⟨by rfl, rfl⟩) HS9.out ?_
            simp only [Act.put, List.setIfInBounds_toArray, List.set_cons_zero, List.set_cons_succ]
            refine heldTake 21 (some 81) undef rfl rfl (by kernel_rfl) (by kernel_rfl) (by kernel_rfl) (fun _ _ _ h => h) (Or.inr ⟨by rfl, rfl⟩) HS9.out ?_
            simp only [Act.put, List.setIfInBounds_toArray, List.set_cons_zero, List.set_cons_succ]
            refine heldTake 22 (some 82) undef rfl rfl (by kernel_rfl) (by kernel_rfl) (by kernel_rfl) (fun _ _ _ h => h) (Or.inr ⟨by rfl, rfl⟩) HS9.out ?_
            simp only [Act.put, List.setIfInBounds_toArray, List.set_cons_zero, List.set_cons_succ]
            refine heldTake 23 (some 83) undef rfl rfl (by kernel_rfl) (by kernel_rfl) (by kernel_rfl) (fun _ _ _ h => h) (Or.inr ⟨by rfl, rfl⟩) HS9.out ?_
            simp only [Act.put, List.setIfInBounds_toArray, List.set_cons_zero, List.set_cons_succ]
            refine heldTake 24 (some 84) undef rfl rfl (by kernel_rfl) (by kernel_rfl) (by kernel_rfl) (fun _ _ _ h => h) (Or.inr ⟨by rfl, rfl⟩) HS9.out ?_
            simp only [Act.put, List.setIfInBounds_toArray, List.set_cons_zero, List.set_cons_succ]
            refine heldTake 25 (some 85) undef rfl rfl (by kernel_rfl) (by kernel_rfl) (by kernel_rfl) (fun _ _ _ h => h) (Or.inr ⟨by rfl, rfl⟩) HS9.out ?_
            simp only [Act.put, List.setIfInBounds_toArray, List.set_cons_zero, List.set_cons_succ]
            refine heldTake 26 (some 86) (.bool true) rfl rfl (by kernel_rfl) (by kernel_rfl) (by kernel_rfl) (fun _ _ _ h => h) (Or.inl ⟨by rfl, fun w hS => ?_⟩) HS9.out ?_
            · (go_simp)
            simp only [Act.put, List.setIfInBounds_toArray, List.set_cons_zero, List.set_cons_succ]
            refine wpAnyH_done (by kernel_rfl) ?_ _
            have HFE := (show Hid (E = 2) from HNG.out (HNX.out))
            clear HNG HYG
            go_wp2
            go_ret
            exact ⟨by rw [HFE.out]; rfl, HE0.out _ HB9.out⟩
          | true =>
            have HALN := (show Hid (∀ i, i < k + 1 → celOk (cs.getD i Sl.cel0) = true) from HALX.out hQ)
            clear HMM HALX HQ0
            replace hQ : Is (celOk (cs.getD k Sl.cel0)) true := ⟨hQ⟩
            generalize cs.getD k Sl.cel0 = x at *
            generalize cs.getD j Sl.cel0 = y at *
            have HCL := fun W => rcell_any x W hfX
            obtain ⟨xk, xx, xo, xl⟩ := x
            obtain ⟨yk, yx, yo, yl⟩ := y
            unfold cv at HCL
            simp only at HCL HLTF
            generalize celOk ⟨xk, xx, xo, xl⟩ = q at *
            rw [hQ.eq] at HCL
            clear hQ
            have HSD := (show Hid ((fun W : World => Brow W w.heap.size [.bool lf, .slice (some ⟨b, off, none⟩) cs.length c1, .slice a2 ks.length c2, .slice a3 ds.length c3] 26 ∧ CelAt W b (off + k * 4) ⟨xk, xx, xo, xl⟩ ∧ CelAt W b (off + j * 4) ⟨yk, yx, yo, yl⟩) wr.drew) from ⟨HN.out.drew, (hcX.below (Below.refl wr.heap.size wr).drew hbw), (hcY.below (Below.refl wr.heap.size wr).drew hbw)⟩)
            have HBD := (show Hid (Below w0.heap.size w0 wr.drew) from HBr.out.drew)
            have hsd : w.heap.size + 1 ≤ wr.drew.heap.size := hsr
            have hsbd : w0.heap.size ≤ wr.drew.heap.size := hsb
            have hbd : b < wr.drew.heap.size := hbw
            clear hbw
            have hbw := hbd
            refine wp_region_held_drew (S := (fun W : World => Brow W w.heap.size [.bool lf, .slice (some ⟨b, off, none⟩) cs.length c1, .slice a2 ks.length c2, .slice a3 ds.length c3] 26 ∧ CelAt W b (off + k * 4) ⟨xk, xx, xo, xl⟩ ∧ CelAt W b (off + j * 4) ⟨yk, yx, yo, yl⟩)) (by kernel_rfl) HSD.out (fun _ => ?_)
            generalize wr.drew = wd at *
            clear HBr HBW HN hcX hcY
            by_cases hk0 : k = 0
            · have g0 : ¬ (0 : Int) < (k : Int) := by omega
              have g1 : decide ((0 : Int) < (k : Int)) = false := decide_eq_false g0
              have g2 : ¬ 0 < k := by omega
              clear HLTF
              have hk1 : k ≤ 0 := by omega
              clear hk0
              refine heldTake 0 (some 60) (.pointer (some ⟨w.heap.size, 1, none⟩)) rfl rfl (by kernel_rfl) (by kernel_rfl) (by kernel_rfl) (fun _ _ _ h => h) (Or.inl ⟨by rfl, fun w hS => ?_⟩) HSD.out ?_
              · (go_simp)
              simp only [Act.put, List.setIfInBounds_toArray, List.set_cons_zero, List.set_cons_succ]
              refine heldTake 1 (some 61) (.slice (some ⟨b, off, none⟩) cs.length c1) rfl rfl (by kernel_rfl) (by kernel_rfl) (by kernel_rfl) (fun _ _ _ h => h) (Or.inl ⟨by rfl, fun w hS => ?_⟩) HSD.out ?_
              · (have q := hS.1.at 1 _ rfl; go_simp)
              simp only [Act.put, List.setIfInBounds_toArray, List.set_cons_zero, List.set_cons_succ]
              refine heldTake 2 (some 62) (.int .i64 (k : Int)) rfl rfl (by kernel_rfl) (by kernel_rfl) (by kernel_rfl) (fun _ _ _ h => h) (Or.inl ⟨by rfl, fun w hS => ?_⟩) HSD.out ?_
              · (go_simp)
              simp only [Act.put, List.setIfInBounds_toArray, List.set_cons_zero, List.set_cons_succ]
              refine heldTake 3 (some 63) (.pointer (some ⟨b, off + k * 4, none⟩)) rfl rfl (by kernel_rfl) (by kernel_rfl) (by kernel_rfl) (fun _ _ _ h => h) (Or.inl ⟨by rfl, fun w hS => ?_⟩) HSD.out ?_
              · (go_simp)
              simp only [Act.put, List.setIfInBounds_toArray, List.set_cons_zero, List.set_cons_succ]
              refine heldTake 4 (some 64) (.agg #[.string xk, .string xx, .int .i64 xo, .int .i64 xl]) rfl rfl (by kernel_rfl) (by kernel_rfl) (by kernel_rfl) (fun _ _ _ h => h) (Or.inl ⟨by rfl, fun w hS => ?_⟩) HSD.out ?_
              · (have q0 := hS.2.1.key; have q1 := hS.2.1.val; have q2 := hS.2.1.over; have q3 := hS.2.1.len; simp only at q0 q1 q2 q3; go_simp)
              simp only [Act.put, List.setIfInBounds_toArray, List.set_cons_zero, List.set_cons_succ]
              refine heldOne 5 (by kernel_rfl) rfl (by rfl) (fun KK hK => ?_)
              go_simp
              go_at_call 62
              refine (HCL wd).mono ?_
              rintro e w9 ⟨rfl, hB9⟩
              have HS9 := (show Hid ((fun W : World => Brow W w.heap.size [.bool lf, .slice (some ⟨b, off, none⟩) cs.length c1, .slice a2 ks.length c2, .slice a3 ds.length c3] 26 ∧ CelAt W b (off + k * 4) ⟨xk, xx, xo, xl⟩ ∧ CelAt W b (off + j * 4) ⟨yk, yx, yo, yl⟩) w9) from ⟨HSD.out.1.below hB9 (by omega), HSD.out.2.1.below hB9 hbw, HSD.out.2.2.below hB9 hbw⟩)
              have HB9 := (show Hid (Below w0.heap.size w0 w9) from HBD.out.trans (hB9.mono (by omega)))
              clear hB9 HSD HBD HCL
              refine hK.out _ _ HS9.out ?_
              clear hK KK
              try simp only [Act.put, List.setIfInBounds_toArray, List.set_cons_zero, List.set_cons_succ]
              refine heldTake 6 (some 66) (.bool false) rfl rfl (by kernel_rfl) (by kernel_rfl) (by kernel_rfl) (fun _ _ _ h => h) (Or.inl ⟨by rfl, fun w hS => ?_⟩) HS9.out ?_
              · (go_simp)
              simp only [Act.put, List.setIfInBounds_toArray, List.set_cons_zero, List.set_cons_succ]
              refine heldTake 7 (some 67) (.bool false) rfl rfl (by kernel_rfl) (by kernel_rfl) (by kernel_rfl) (fun _ _ _ h => h) (Or.inl ⟨by rfl, fun w hS => ?_⟩) HS9.out ?_
              · (go_simp)
              simp only [Act.put, List.setIfInBounds_toArray, List.set_cons_zero, List.set_cons_succ]
              refine heldTake 8 (some 68) (.int .i64 (k : Int)) rfl rfl (by kernel_rfl) (by kernel_rfl) (by kernel_rfl) (fun _ _ _ h => h) (Or.inl ⟨by rfl, fun w hS => ?_⟩) HS9.out ?_
              · (go_simp)
              simp only [Act.put, List.setIfInBounds_toArray, List.set_cons_zero, List.set_cons_succ]
              refine heldTake 9 (some 69) (.bool false) rfl rfl (by kernel_rfl) (by kernel_rfl) (by kernel_rfl) (fun _ _ _ h => h) (Or.inl ⟨by rfl, fun w hS => ?_⟩) HS9.out ?_
              · (go_simp)
              simp only [Act.put, List.setIfInBounds_toArray, List.set_cons_zero, List.set_cons_succ]
              refine heldTake 10 (some 70) (.bool false) rfl rfl (by kernel_rfl) (by kernel_rfl) (by kernel_rfl) (fun _ _ _ h => h) (Or.inl ⟨by rfl, fun w hS => ?_⟩) HS9.out ?_
              · (go_simp)
              simp only [Act.put, List.setIfInBounds_toArray, List.set_cons_zero, List.set_cons_succ]
              refine heldTake 11 (some 71) undef rfl rfl (by kernel_rfl) (by kernel_rfl) (by kernel_rfl) (fun _ _ _ h => h) (Or.inr ⟨by rfl, rfl⟩) HS9.out ?_
              simp only [Act.put, List.setIfInBounds_toArray, List.set_cons_zero, List.set_cons_succ]
              refine heldTake 12 (some 72) undef rfl rfl (by kernel_rfl) (by kernel_rfl) (by kernel_rfl) (fun _ _ _ h => h) (Or.inr ⟨by rfl, rfl⟩) HS9.out ?_
              simp only [Act.put, List.setIfInBounds_toArray, List.set_cons_zero, List.set_cons_succ]
              refine heldTake 13 (some 73) undef rfl rfl (by kernel_rfl) (by kernel_rfl) (by kernel_rfl) (fun _ _ _ h => h) (Or.inr ⟨by rfl, rfl⟩) HS9.out ?_
              simp only [Act.put, List.setIfInBounds_toArray, List.set_cons_zero, List.set_cons_succ]
              refine heldTake 14 (some 74) undef rfl rfl (by kernel_rfl) (by kernel_rfl) (by kernel_rfl) (fun _ _ _ h => h) (Or.inr ⟨by rfl, rfl⟩) HS9.out ?_
              simp only [Act.put, List.setIfInBounds_toArray, List.set_cons_zero, List.set_cons_succ]
              refine heldTake 15 (some 75) undef rfl rfl (by kernel_rfl) (by kernel_rfl) (by kernel_rfl) (fun _ _ _ h => h) (Or.inr ⟨by rfl, rfl⟩) HS9.out ?_
              simp only [Act.put, List.setIfInBounds_toArray, List.set_cons_zero, List.set_cons_succ]
              refine heldTake 16 (some 76) undef rfl rfl (by kernel_rfl) (by kernel_rfl) (by kernel_rfl) (fun _ _ _ h => h) (Or.inr ⟨by rfl, rfl⟩) HS9.out ?_
              simp only [Act.put, List.setIfInBounds_toArray, List.set_cons_zero, List.set_cons_succ]
              refine heldTake 17 (some 77) undef rfl rfl (by kernel_rfl) (by kernel_rfl) (by kernel_rfl) (fun _ _ _ h => h) (Or.inr ⟨by rfl, rfl⟩) HS9.out ?_
              simp only [Act.put, List.setIfInBounds_toArray, List.set_cons_zero, List.set_cons_succ]
              refine heldTake 18 (some 78) undef rfl rfl (by kernel_rfl) (by kernel_rfl) (by kernel_rfl) (fun _ _ _ h => h) (Or.inr ⟨by rfl, rfl⟩) HS9.out ?_
              simp only [Act.put, List.setIfInBounds_toArray, List.set_cons_zero, List.set_cons_succ]
              refine heldTake 19 (some 79) undef rfl rfl (by kernel_rfl) (by kernel_rfl) (by kernel_rfl) (fun _ _ _ h => h) (Or.inr ⟨by rfl, rfl⟩) HS9.out ?_
              simp only [Act.put, List.setIfInBounds_toArray, List.set_cons_zero, List.set_cons_succ]
              refine heldTake 20 (some 80) undef rfl rfl (by kernel_rfl) (by kernel_rfl) (by kernel_rfl) (fun _ _ _ h => h) (Or.inr ⟨by rfl, rfl⟩) HS9.out ?_
              simp only [Act.put, List.setIfInBounds_toArray, List.set_cons_zero, List.set_cons_succ]
              refine heldTake 21 (some 81) undef rfl rfl (by kernel_rfl) (by kernel_rfl) (by kernel_rfl) (fun _ _ _ h => h) (Or.inr ⟨by rfl, rfl⟩) HS9.out ?_
              simp only [Act.put, List.setIfInBounds_toArray, List.set_cons_zero, List.set_cons_succ]
              refine heldTake 22 (some 82) undef rfl rfl (by kernel_rfl) (by kernel_rfl) (by kernel_rfl) (fun _ _ _ h => h) (Or.inr ⟨by rfl, rfl⟩) HS9.out ?_
              simp only [Act.put, List.setIfInBounds_toArray, List.set_cons_zero, List.set_cons_succ]
              refine heldTake 23 (some 83) undef rfl rfl (by kernel_rfl) (by kernel_rfl) (by kernel_rfl) (fun _ _ _ h => h) (Or.inr ⟨by rfl, rfl⟩) HS9.out ?_
              simp only [Act.put, List.setIfInBounds_toArray, List.set_cons_zero, List.set_cons_succ]
              refine heldTake 24 (some 84) undef rfl rfl (by kernel_rfl) (by kernel_rfl) (by kernel_rfl) (fun _ _ _ h => h) (Or.inr ⟨by rfl, rfl⟩) HS9.out ?_
              simp only [Act.put, List.setIfInBounds_toArray, List.set_cons_zero, List.set_cons_succ]
              refine heldTake 25 (some 85) (.bool false) rfl rfl (by kernel_rfl) (by kernel_rfl) (by kernel_rfl) (fun _ _ _ h => h) (Or.inl ⟨by rfl, fun w hS => ?_⟩) HS9.out ?_
              · (go_simp)
              simp only [Act.put, List.setIfInBounds_toArray, List.set_cons_zero, List.set_cons_succ]
              refine heldTake 26 (some 86) (.bool false) rfl rfl (by kernel_rfl) (by kernel_rfl) (by kernel_rfl) (fun _ _ _ h => h) (Or.inl ⟨by rfl, fun w hS => ?_⟩) HS9.out ?_
              · (go_simp)
              simp only [Act.put, List.setIfInBounds_toArray, List.set_cons_zero, List.set_cons_succ]
              refine wpAnyH_done (by kernel_rfl) ?_ _
              clear HS9
              have HREL := (show Hid (∃ k' : Nat, k' ≤ cs.length ∧ Value.int .i64 ((k : Int) + 1) = .int .i64 (k' : Int) ∧ (∀ i, i < k' → celOk (cs.getD i Sl.cel0) = true) ∧ (∀ i, i + 1 < k' → Sl.lt (cs.getD i Sl.cel0).key (cs.getD (i + 1) Sl.cel0).key = true) ∧ Below w0.heap.size w0 w9) from ⟨k + 1, by omega, by go_num, HALN.out, fun i hi => absurd hi (by omega), HB9.out⟩)
              clear HB9 HALL HRI
              go_wp2_with fail
              go_roundw
              case rel => first | exact HREL.out | (obtain ⟨k', h1, h2, h3, h4, h5⟩ := HREL.out; exact ⟨k', h1, h2, h3, h4, h5⟩)
              case measure => (simp [intOf]) <;> omega
            · have g0 : (0 : Int) < (k : Int) := by omega
              have g1 : decide ((0 : Int) < (k : Int)) = true := decide_eq_true g0
              have g2 : 0 < k := by omega
              obtain ⟨p1, p2⟩ := wrap_pred (k := k) (j := j) (by have := HJ.eq; omega) (by omega)
              have p3 : (j : Int) < (cs.length : Int) := by omega
              have p4 : (0 : Int) ≤ (j : Int) := by omega
              have p5 : IntKind.i64.wrap (j : Int) = (j : Int) := by rw [IntKind.wrap_i64]; omega
              obtain ⟨LQ, HLQ⟩ : ∃ LQ, Hid ((Op.bytesLess xk.toList yk.toList || xk.toList == yk.toList) = LQ) := ⟨_, rfl⟩
              have hLe := leq_of xk yk
              have HLT := (show Hid (LQ = true → ¬ Good ⟨lf, cs, ks, ds⟩) from fun h => (HLTF.out g2).1 (by
                have h2 := HLQ.out
                rw [hLe, h] at h2
                simpa using h2))
              have HLF := (show Hid (LQ = false → _) from fun h => (HLTF.out g2).2 (by
                have h2 := HLQ.out
                rw [hLe, h] at h2
                simpa using h2))
              clear HLTF hLe hk0
              refine heldTake 0 (some 60) (.pointer (some ⟨w.heap.size, 1, none⟩)) rfl rfl (by kernel_rfl) (by kernel_rfl) (by kernel_rfl) (fun _ _ _ h => h) (Or.inl ⟨by rfl, fun w hS => ?_⟩) HSD.out ?_
              · (go_simp)
              simp only [Act.put, List.setIfInBounds_toArray, List.set_cons_zero, List.set_cons_succ]
              refine heldTake 1 (some 61) (.slice (some ⟨b, off, none⟩) cs.length c1) rfl rfl (by kernel_rfl) (by kernel_rfl) (by kernel_rfl) (fun _ _ _ h => h) (Or.inl ⟨by rfl, fun w hS => ?_⟩) HSD.out ?_
              · (have q := hS.1.at 1 _ rfl; go_simp)
              simp only [Act.put, List.setIfInBounds_toArray, List.set_cons_zero, List.set_cons_succ]
              refine heldTake 2 (some 62) (.int .i64 (k : Int)) rfl rfl (by kernel_rfl) (by kernel_rfl) (by kernel_rfl) (fun _ _ _ h => h) (Or.inl ⟨by rfl, fun w hS => ?_⟩) HSD.out ?_
              · (go_simp)
              simp only [Act.put, List.setIfInBounds_toArray, List.set_cons_zero, List.set_cons_succ]
              refine heldTake 3 (some 63) (.pointer (some ⟨b, off + k * 4, none⟩)) rfl rfl (by kernel_rfl) (by kernel_rfl) (by kernel_rfl) (fun _ _ _ h => h) (Or.inl ⟨by rfl, fun w hS => ?_⟩) HSD.out ?_
              · (go_simp)
              simp only [Act.put, List.setIfInBounds_toArray, List.set_cons_zero, List.set_cons_succ]
              refine heldTake 4 (some 64) (.agg #[.string xk, .string xx, .int .i64 xo, .int .i64 xl]) rfl rfl (by kernel_rfl) (by kernel_rfl) (by kernel_rfl) (fun _ _ _ h => h) (Or.inl ⟨by rfl, fun w hS => ?_⟩) HSD.out ?_
              · (have q0 := hS.2.1.key; have q1 := hS.2.1.val; have q2 := hS.2.1.over; have q3 := hS.2.1.len; simp only at q0 q1 q2 q3; go_simp)
              simp only [Act.put, List.setIfInBounds_toArray, List.set_cons_zero, List.set_cons_succ]
              refine heldOne 5 (by kernel_rfl) rfl (by rfl) (fun KK hK => ?_)
              go_simp
              go_at_call 62
              refine (HCL wd).mono ?_
              rintro e w9 ⟨rfl, hB9⟩
              have HS9 := (show Hid ((fun W : World => Brow W w.heap.size [.bool lf, .slice (some ⟨b, off, none⟩) cs.length c1, .slice a2 ks.length c2, .slice a3 ds.length c3] 26 ∧ CelAt W b (off + k * 4) ⟨xk, xx, xo, xl⟩ ∧ CelAt W b (off + j * 4) ⟨yk, yx, yo, yl⟩) w9) from ⟨HSD.out.1.below hB9 (by omega), HSD.out.2.1.below hB9 hbw, HSD.out.2.2.below hB9 hbw⟩)
              have HB9 := (show Hid (Below w0.heap.size w0 w9) from HBD.out.trans (hB9.mono (by omega)))
              clear hB9 HSD HBD HCL
              refine hK.out _ _ HS9.out ?_
              clear hK KK
              try simp only [Act.put, List.setIfInBounds_toArray, List.set_cons_zero, List.set_cons_succ]
              refine heldTake 6 (some 66) (.bool false) rfl rfl (by kernel_rfl) (by kernel_rfl) (by kernel_rfl) (fun _ _ _ h => h) (Or.inl ⟨by rfl, fun w hS => ?_⟩) HS9.out ?_
              · (go_simp)
              simp only [Act.put, List.setIfInBounds_toArray, List.set_cons_zero, List.set_cons_succ]
              refine heldTake 7 (some 67) (.bool false) rfl rfl (by kernel_rfl) (by kernel_rfl) (by kernel_rfl) (fun _ _ _ h => h) (Or.inl ⟨by rfl, fun w hS => ?_⟩) HS9.out ?_
              · (go_simp)
              simp only [Act.put, List.setIfInBounds_toArray, List.set_cons_zero, List.set_cons_succ]
              refine heldTake 8 (some 68) (.int .i64 (k : Int)) rfl rfl (by kernel_rfl) (by kernel_rfl) (by kernel_rfl) (fun _ _ _ h => h) (Or.inl ⟨by rfl, fun w hS => ?_⟩) HS9.out ?_
              · (go_simp)
              simp only [Act.put, List.setIfInBounds_toArray, List.set_cons_zero, List.set_cons_succ]
              refine heldTake 9 (some 69) (.bool true) rfl rfl (by kernel_rfl) (by kernel_rfl) (by kernel_rfl) (fun _ _ _ h => h) (Or.inl ⟨by rfl, fun w hS => ?_⟩) HS9.out ?_
              · (go_simp)
              simp only [Act.put, List.setIfInBounds_toArray, List.set_cons_zero, List.set_cons_succ]
              refine heldTake 10 (some 70) (.bool true) rfl rfl (by kernel_rfl) (by kernel_rfl) (by kernel_rfl) (fun _ _ _ h => h) (Or.inl ⟨by rfl, fun w hS => ?_⟩) HS9.out ?_
              · (go_simp)
              simp only [Act.put, List.setIfInBounds_toArray, List.set_cons_zero, List.set_cons_succ]
              refine heldTake 11 (some 71) (.pointer (some ⟨w.heap.size, 1, none⟩)) rfl rfl (by kernel_rfl) (by kernel_rfl) (by kernel_rfl) (fun _ _ _ h => h) (Or.inl ⟨by rfl, fun w hS => ?_⟩) HS9.out ?_
              · (go_simp)
              simp only [Act.put, List.setIfInBounds_toArray, List.set_cons_zero, List.set_cons_succ]
              refine heldTake 12 (some 72) (.slice (some ⟨b, off, none⟩) cs.length c1) rfl rfl (by kernel_rfl) (by kernel_rfl) (by kernel_rfl) (fun _ _ _ h => h) (Or.inl ⟨by rfl, fun w hS => ?_⟩) HS9.out ?_
              · (have q := hS.1.at 1 _ rfl; go_simp)
              simp only [Act.put, List.setIfInBounds_toArray, List.set_cons_zero, List.set_cons_succ]
              refine heldTake 13 (some 73) (.int .i64 (k : Int)) rfl rfl (by kernel_rfl) (by kernel_rfl) (by kernel_rfl) (fun _ _ _ h => h) (Or.inl ⟨by rfl, fun w hS => ?_⟩) HS9.out ?_
              · (go_simp)
              simp only [Act.put, List.setIfInBounds_toArray, List.set_cons_zero, List.set_cons_succ]
              refine heldTake 14 (some 74) (.pointer (some ⟨b, off + k * 4, none⟩)) rfl rfl (by kernel_rfl) (by kernel_rfl) (by kernel_rfl) (fun _ _ _ h => h) (Or.inl ⟨by rfl, fun w hS => ?_⟩) HS9.out ?_
              · (go_simp)
              simp only [Act.put, List.setIfInBounds_toArray, List.set_cons_zero, List.set_cons_succ]
              refine heldTake 15 (some 75) (.pointer (some ⟨b, off + k * 4, none⟩)) rfl rfl (by kernel_rfl) (by kernel_rfl) (by kernel_rfl) (fun _ _ _ h => h) (Or.inl ⟨by rfl, fun w hS => ?_⟩) HS9.out ?_
              · (go_simp)
              simp only [Act.put, List.setIfInBounds_toArray, List.set_cons_zero, List.set_cons_succ]
              refine heldTake 16 (some 76) (.string xk) rfl rfl (by kernel_rfl) (by kernel_rfl) (by kernel_rfl) (fun _ _ _ h => h) (Or.inl ⟨by rfl, fun w hS => ?_⟩) HS9.out ?_
              · (have q0 := hS.2.1.key; have q1 := hS.2.1.val; have q2 := hS.2.1.over; have q3 := hS.2.1.len; simp only at q0 q1 q2 q3; go_simp)
              simp only [Act.put, List.setIfInBounds_toArray, List.set_cons_zero, List.set_cons_succ]
              refine heldTake 17 (some 77) (.pointer (some ⟨w.heap.size, 1, none⟩)) rfl rfl (by kernel_rfl) (by kernel_rfl) (by kernel_rfl) (fun _ _ _ h => h) (Or.inl ⟨by rfl, fun w hS => ?_⟩) HS9.out ?_
              · (go_simp)
              simp only [Act.put, List.setIfInBounds_toArray, List.set_cons_zero, List.set_cons_succ]
              refine heldTake 18 (some 78) (.slice (some ⟨b, off, none⟩) cs.length c1) rfl rfl (by kernel_rfl) (by kernel_rfl) (by kernel_rfl) (fun _ _ _ h => h) (Or.inl ⟨by rfl, fun w hS => ?_⟩) HS9.out ?_
              · (have q := hS.1.at 1 _ rfl; go_simp)
              simp only [Act.put, List.setIfInBounds_toArray, List.set_cons_zero, List.set_cons_succ]
              refine heldTake 19 (some 79) (.int .i64 (k : Int)) rfl rfl (by kernel_rfl) (by kernel_rfl) (by kernel_rfl) (fun _ _ _ h => h) (Or.inl ⟨by rfl, fun w hS => ?_⟩) HS9.out ?_
              · (go_simp)
              simp only [Act.put, List.setIfInBounds_toArray, List.set_cons_zero, List.set_cons_succ]
              refine heldTake 20 (some 80) (.int .i64 (j : Int)) rfl rfl (by kernel_rfl) (by kernel_rfl) (by kernel_rfl) (fun _ _ _ h => h) (Or.inl ⟨by rfl, fun w hS => ?_⟩) HS9.out ?_
              · (go_simp)
              simp only [Act.put, List.setIfInBounds_toArray, List.set_cons_zero, List.set_cons_succ]
              refine heldTake 21 (some 81) (.pointer (some ⟨b, off + j * 4, none⟩)) rfl rfl (by kernel_rfl) (by kernel_rfl) (by kernel_rfl) (fun _ _ _ h => h) (Or.inl ⟨by rfl, fun w hS => ?_⟩) HS9.out ?_
              · (go_simp)
              simp only [Act.put, List.setIfInBounds_toArray, List.set_cons_zero, List.set_cons_succ]
              refine heldTake 22 (some 82) (.pointer (some ⟨b, off + j * 4, none⟩)) rfl rfl (by kernel_rfl) (by kernel_rfl) (by kernel_rfl) (fun _ _ _ h => h) (Or.inl ⟨by rfl, fun w hS => ?_⟩) HS9.out ?_
              · (go_simp)
              simp only [Act.put, List.setIfInBounds_toArray, List.set_cons_zero, List.set_cons_succ]
              refine heldTake 23 (some 83) (.string yk) rfl rfl (by kernel_rfl) (by kernel_rfl) (by kernel_rfl) (fun _ _ _ h => h) (Or.inl ⟨by rfl, fun w hS => ?_⟩) HS9.out ?_
              · (have q0 := hS.2.2.key; simp only at q0; go_simp)
              simp only [Act.put, List.setIfInBounds_toArray, List.set_cons_zero, List.set_cons_succ]
              refine heldTake 24 (some 84) (.bool LQ) rfl rfl (by kernel_rfl) (by kernel_rfl) (by kernel_rfl) (fun _ _ _ h => h) (Or.inl ⟨by rfl, fun w hS => ?_⟩) HS9.out ?_
              · (go_simp; first | exact HLQ.out | simpa using HLQ.out)
              simp only [Act.put, List.setIfInBounds_toArray, List.set_cons_zero, List.set_cons_succ]
              refine heldTake 25 (some 85) (.bool LQ) rfl rfl (by kernel_rfl) (by kernel_rfl) (by kernel_rfl) (fun _ _ _ h => h) (Or.inl ⟨by rfl, fun w hS => ?_⟩) HS9.out ?_
              · (go_simp)
              simp only [Act.put, List.setIfInBounds_toArray, List.set_cons_zero, List.set_cons_succ]
              refine heldTake 26 (some 86) (.bool LQ) rfl rfl (by kernel_rfl) (by kernel_rfl) (by kernel_rfl) (fun _ _ _ h => h) (Or.inl ⟨by rfl, fun w hS => ?_⟩) HS9.out ?_
              · (go_simp)
              simp only [Act.put, List.setIfInBounds_toArray, List.set_cons_zero, List.set_cons_succ]
              cases LQ with
              | true =>
                refine wpAnyH_done (by kernel_rfl) ?_ _
                have HFE := (show Hid (E = 2) from HNG.out (HLT.out rfl))
                clear HNG HYG
                go_wp2
                go_ret
                exact ⟨by rw [HFE.out]; rfl, HE0.out _ HB9.out⟩
              | false =>
                refine wpAnyH_done (by kernel_rfl) ?_ _
                clear HS9
                have HREL := (show Hid (∃ k' : Nat, k' ≤ cs.length ∧ Value.int .i64 ((k : Int) + 1) = .int .i64 (k' : Int) ∧ (∀ i, i < k' → celOk (cs.getD i Sl.cel0) = true) ∧ (∀ i, i + 1 < k' → Sl.lt (cs.getD i Sl.cel0).key (cs.getD (i + 1) Sl.cel0).key = true) ∧ Below w0.heap.size w0 w9) from ⟨k + 1, by omega, by go_num, HALN.out, HLF.out rfl, HB9.out⟩)
                clear HB9 HALL HRI
                go_wp2_with fail
                go_roundw
                case rel => first | exact HREL.out | (obtain ⟨k', h1, h2, h3, h4, h5⟩ := HREL.out; exact ⟨k', h1, h2, h3, h4, h5⟩)
                case measure => (simp [intOf]) <;> omega
        · have hkl : ¬ (k : Int) < (cs.length : Int) := by omega
          have HGC := (show Hid ((∀ c ∈ cs, celOk c = true) ∧ Sl.rise (cs.map Cel.key) = true) from ⟨all_of (d := Sl.cel0) (fun i hi => HALL.out i (by omega)), (Sl.rise_iff _).2 (fun i hi => by rw [List.length_map] at hi; rw [map_key cs i (by omega), map_key cs (i + 1) hi]; exact HRI.out i (by omega))⟩)
          have HN1 := (show Hid (Brow wr w.heap.size [.bool lf, .slice a1 cs.length c1, .slice a2 ks.length c2, .slice a3 ds.length c3] 26) from HN.out)
          have HE1 := (show Hid (∀ W : World, Below wr.heap.size wr W → Below w.heap.size w W) from fun W h => HBW.out.trans (h.mono (by omega)))
          have hs1 : w.heap.size + 1 ≤ wr.heap.size := hsr
          clear HALL HRI HBr HBW HN HN0 HE0 hs0 hsr hsb hlt q0 q1 q2 q3
          generalize wr = w1 at *
          have q0 := HN1.out.at 0 _ rfl
          have q1 := HN1.out.at 1 _ rfl
          have q2 := HN1.out.at 2 _ rfl
          have q3 := HN1.out.at 3 _ rfl
          go_wp2_with fail
          go_loopw [4] (fun s4 wr => ∃ k : Nat, k ≤ ks.length ∧ s4 = .int .i64 (k : Int) ∧ (∀ i, i < k → Sl.isKey (ks.getD i ByteArray.empty) = true) ∧ (∀ i, i + 1 < k → Sl.lt (ks.getD i ByteArray.empty) (ks.getD (i + 1) ByteArray.empty) = true) ∧ Below w1.heap.size w1 wr) (fun s4 _ => ks.length - (intOf s4).toNat)
          case atStart => exact ⟨0, by omega, rfl, fun i hi => absurd hi (by omega), fun i hi => absurd hi (by omega), Below.refl _ _⟩
          case round =>
            obtain ⟨k, hk, rfl, hall, hri, hB⟩ := hrel
            have HALL := (show Hid (∀ i, i < k → Sl.isKey (ks.getD i ByteArray.empty) = true) from hall)
            have HRI := (show Hid (∀ i, i + 1 < k → Sl.lt (ks.getD i ByteArray.empty) (ks.getD (i + 1) ByteArray.empty) = true) from hri)
            have HBr := (show Hid (Below w1.heap.size w1 wr) from hB)
            have HBW := (show Hid (Below w.heap.size w wr) from HE1.out _ hB)
            have HN := (show Hid (Brow wr w.heap.size [.bool lf, .slice a1 cs.length c1, .slice a2 ks.length c2, .slice a3 ds.length c3] 26) from HN1.out.below hB (by omega))
            have hsr : w.heap.size + 1 ≤ wr.heap.size := Nat.le_trans hs1 hB.size
            have hsb : w1.heap.size ≤ wr.heap.size := hB.size
            clear hall hri hB
            have q0 := HN.out.at 0 _ rfl
            have q1 := HN.out.at 1 _ rfl
            have q2 := HN.out.at 2 _ rfl
            have q3 := HN.out.at 3 _ rfl
            by_cases hlt : k < ks.length
            · obtain ⟨b, off, hab, hb, hc⟩ := HL.out.r2.keyAt (Nat.lt_of_le_of_lt (Nat.zero_le _) hlt)
              simp only at hab
              subst hab
              obtain ⟨j, HJ⟩ : ∃ j, Is j (k - 1) := ⟨_, ⟨rfl⟩⟩
              have hjl : j < ks.length := by have := HJ.eq; omega
              have hj1 : 0 < k → j + 1 = k := fun h => by have := HJ.eq; omega
              have hbw : b < wr.heap.size := Nat.lt_of_lt_of_le hb HBW.out.size
              have hcX := (HBW.out.cell (p := ⟨b, off + k, none⟩) hb).trans (hc k hlt)
              have hcY := (HBW.out.cell (p := ⟨b, off + j, none⟩) hb).trans (hc j hjl)
              have hfX := HF.out.keys _ (Sl.getD_mem ks k ByteArray.empty hlt)
              clear hc
              have d1 : decide ((k : Int) < (ks.length : Int)) = true := decide_eq_true (by omega)
              have i1 : (k : Int) < (ks.length : Int) := by omega
              have i2 : (0 : Int) ≤ (k : Int) := by omega
              have HMM := (show Hid (ks.getD k ByteArray.empty ∈ ks) from Sl.getD_mem ks k ByteArray.empty hlt)
              have HQ0 : Is (Sl.isKey (ks.getD k ByteArray.empty)) (Sl.isKey (ks.getD k ByteArray.empty)) := ⟨rfl⟩
              have HALX := (show Hid (Sl.isKey (ks.getD k ByteArray.empty) = true → ∀ i, i < k + 1 → Sl.isKey (ks.getD i ByteArray.empty) = true) from fun h i hi => by
                by_cases e : i = k
                · rw [e]; exact h
                · exact HALL.out i (by omega))
              have HLTF := (show Hid (0 < k → (Sl.lt (ks.getD j ByteArray.empty) (ks.getD k ByteArray.empty) = false → ¬ Good ⟨lf, cs, ks, ds⟩) ∧ (Sl.lt (ks.getD j ByteArray.empty) (ks.getD k ByteArray.empty) = true → ∀ i, i + 1 < k + 1 → Sl.lt (ks.getD i ByteArray.empty) (ks.getD (i + 1) ByteArray.empty) = true)) from fun h0 => ⟨fun hlt0 hg => (fun h0 hlt0 hg => rise_not (l := ks) (i := j) (by rw [hj1 h0]; exact hlt) (by rw [hj1 h0]; exact hlt0) hg.kr) h0 hlt0 hg, fun h i hi => by
                have hj := HJ.eq
                by_cases e : i + 1 = k
                · rw [e, show i = j by omega]; exact h
                · exact HRI.out i (by omega)⟩)
              clear hj1
              go_upto_region 11 with fail
              clear q0 q1 q2 q3
              cases hQ : Sl.isKey (ks.getD k ByteArray.empty) with
              | false =>
                have HMQ : Is (Sl.isKey (ks.getD k ByteArray.empty)) false := ⟨hQ⟩
                have HNX := (show Hid (¬ Good ⟨lf, cs, ks, ds⟩) from fun hg => by
                  have h := hg.k _ HMM.out
                  rw [hQ] at h
                  cases h)
                clear HMM HALX HALL HRI HQ0 HMQ
                replace hQ : Is (Sl.isKey (ks.getD k ByteArray.empty)) false := ⟨hQ⟩
                generalize ks.getD k ByteArray.empty = xk at *
                generalize ks.getD j ByteArray.empty = yk at *
                have HCL := fun W => rkey_any xk W (by omega)
                generalize Sl.isKey xk = q at *
                rw [hQ.eq] at HCL
                clear hQ HLTF
                have HSD := (show Hid ((fun W : World => Brow W w.heap.size [.bool lf, .slice a1 cs.length c1, .slice (some ⟨b, off, none⟩) ks.length c2, .slice a3 ds.length c3] 26 ∧ W.cell? ⟨b, off + k, none⟩ = some (.string xk) ∧ W.cell? ⟨b, off + j, none⟩ = some (.string yk)) wr.drew) from ⟨HN.out.drew, hcX, hcY⟩)
                have HBD := (show Hid (Below w1.heap.size w1 wr.drew) from HBr.out.drew)
                have hsd : w.heap.size + 1 ≤ wr.drew.heap.size := hsr
                have hsbd : w1.heap.size ≤ wr.drew.heap.size := hsb
                have hbd : b < wr.drew.heap.size := hbw
                clear hbw
                have hbw := hbd
                refine wp_region_held_drew (S := (fun W : World => Brow W w.heap.size [.bool lf, .slice a1 cs.length c1, .slice (some ⟨b, off, none⟩) ks.length c2, .slice a3 ds.length c3] 26 ∧ W.cell? ⟨b, off + k, none⟩ = some (.string xk) ∧ W.cell? ⟨b, off + j, none⟩ = some (.string yk))) (by kernel_rfl) HSD.out (fun _ => ?_)
                generalize wr.drew = wd at *
                clear HBr HBW HN hcX hcY
                refine heldTake 0 (some 94) (.pointer (some ⟨w.heap.size, 2, none⟩)) rfl rfl (by kernel_rfl) (by kernel_rfl) (by kernel_rfl) (fun _ _ _ h => h) (Or.inl ⟨by rfl, fun w hS => ?_⟩) HSD.out ?_
                · (go_simp)
                simp only [Act.put, List.setIfInBounds_toArray, List.set_cons_zero, List.set_cons_succ]
                refine heldTake 1 (some 95) (.slice (some ⟨b, off, none⟩) ks.length c2) rfl rfl (by kernel_rfl) (by kernel_rfl) (by kernel_rfl) (fun _ _ _ h => h) (Or.inl ⟨by rfl, fun w hS => ?_⟩) HSD.out ?_
                · (have q := hS.1.at 2 _ rfl; go_simp)
                simp only [Act.put, List.setIfInBounds_toArray, List.set_cons_zero, List.set_cons_succ]
                refine heldTake 2 (some 96) (.int .i64 (k : Int)) rfl rfl (by kernel_rfl) (by kernel_rfl) (by kernel_rfl) (fun _ _ _ h => h) (Or.inl ⟨by rfl, fun w hS => ?_⟩) HSD.out ?_
                · (go_simp)
                simp only [Act.put, List.setIfInBounds_toArray, List.set_cons_zero, List.set_cons_succ]
                refine heldTake 3 (some 97) (.pointer (some ⟨b, off + k, none⟩)) rfl rfl (by kernel_rfl) (by kernel_rfl) (by kernel_rfl) (fun _ _ _ h => h) (Or.inl ⟨by rfl, fun w hS => ?_⟩) HSD.out ?_
                · (go_simp)
                simp only [Act.put, List.setIfInBounds_toArray, List.set_cons_zero, List.set_cons_succ]
                refine heldTake 4 (some 98) (.string xk) rfl rfl (by kernel_rfl) (by kernel_rfl) (by kernel_rfl) (fun _ _ _ h => h) (Or.inl ⟨by rfl, fun w hS => ?_⟩) HSD.out ?_
                · (have q0 := hS.2.1; go_simp)
                simp only [Act.put, List.setIfInBounds_toArray, List.set_cons_zero, List.set_cons_succ]
                refine heldOne 5 (by kernel_rfl) rfl (by rfl) (fun KK hK => ?_)
                go_simp
                go_at_call 63
                refine (HCL wd).mono ?_
                rintro e w9 ⟨rfl, hw9⟩
                rw [hw9]
                clear hw9 w9 HCL
                have HS9 := (show Hid ((fun W : World => Brow W w.heap.size [.bool lf, .slice a1 cs.length c1, .slice (some ⟨b, off, none⟩) ks.length c2, .slice a3 ds.length c3] 26 ∧ W.cell? ⟨b, off + k, none⟩ = some (.string xk) ∧ W.cell? ⟨b, off + j, none⟩ = some (.string yk)) wd) from HSD.out)
                have HB9 := (show Hid (Below w1.heap.size w1 wd) from HBD.out)
                clear HSD HBD
                refine hK.out _ _ HS9.out ?_
                clear hK KK
                try simp only [Act.put, List.setIfInBounds_toArray, List.set_cons_zero, List.set_cons_succ]
                refine heldTake 6 (some 100) (.bool true) rfl rfl (by kernel_rfl) (by kernel_rfl) (by kernel_rfl) (fun _ _ _ h => h) (Or.inl ⟨by rfl, fun w hS => ?_⟩) HS9.out ?_
                · (go_simp)
                simp only [Act.put, List.setIfInBounds_toArray, List.set_cons_zero, List.set_cons_succ]
                refine heldTake 7 (some 101) (.bool true) rfl rfl (by kernel_rfl) (by kernel_rfl) (by kernel_rfl) (fun _ _ _ h => h) (Or.inl ⟨by rfl, fun w hS => ?_⟩) HS9.out ?_
                · (go_simp)
                simp only [Act.put, List.setIfInBounds_toArray, List.set_cons_zero, List.set_cons_succ]
                refine heldTake 8 (some 102) undef rfl rfl (by kernel_rfl) (by kernel_rfl) (by kernel_rfl) (fun _ _ _ h => h) (Or.inr ⟨by rfl, rfl⟩) HS9.out ?_
                simp only [Act.put, List.setIfInBounds_toArray, List.set_cons_zero, List.set_cons_succ]
                refine heldTake 9 (some 103) undef rfl rfl (by kernel_rfl) (by kernel_rfl) (by kernel_rfl) (fun _ _ _ h => h) (Or.inr ⟨by rfl, rfl⟩) HS9.out ?_
                simp only [Act.put, List.setIfInBounds_toArray, List.set_cons_zero, List.set_cons_succ]
                refine heldTake 10 (some 104) undef rfl rfl (by kernel_rfl) (by kernel_rfl) (by kernel_rfl) (fun _ _ _ h => h) (Or.inr ⟨by rfl, rfl⟩) HS9.out ?_
                simp only [Act.put, List.setIfInBounds_toArray, List.set_cons_zero, List.set_cons_succ]
                refine heldTake 11 (some 105) undef rfl rfl (by kernel_rfl) (by kernel_rfl) (by kernel_rfl) (fun _ _ _ h => h) (Or.inr ⟨by rfl, rfl⟩) HS9.out ?_
                simp only [Act.put, List.setIfInBounds_toArray, List.set_cons_zero, List.set_cons_succ]
                refine heldTake 12 (some 106) undef rfl rfl (by kernel_rfl) (by kernel_rfl) (by kernel_rfl) (fun _ _ _ h => h) (Or.inr ⟨by rfl, rfl⟩) HS9.out ?_
                simp only [Act.put, List.setIfInBounds_toArray, List.set_cons_zero, List.set_cons_succ]
                refine heldTake 13 (some 107) undef rfl rfl (by kernel_rfl) (by kernel_rfl) (by kernel_rfl) (fun _ _ _ h => h) (Or.inr ⟨by rfl, rfl⟩) HS9.out ?_
                simp only [Act.put, List.setIfInBounds_toArray, List.set_cons_zero, List.set_cons_succ]
                refine heldTake 14 (some 108) undef rfl rfl (by kernel_rfl) (by kernel_rfl) (by kernel_rfl) (fun _ _ _ h => h) (Or.inr ⟨by rfl, rfl⟩) HS9.out ?_
                simp only [Act.put, List.setIfInBounds_toArray, List.set_cons_zero, List.set_cons_succ]
                refine heldTake 15 (some 109) undef rfl rfl (by kernel_rfl) (by kernel_rfl) (by kernel_rfl) (fun _ _ _ h => h) (Or.inr ⟨by rfl, rfl⟩) HS9.out ?_
                simp only [Act.put, List.setIfInBounds_toArray, List.set_cons_zero, List.set_cons_succ]
                refine heldTake 16 (some 110) undef rfl rfl (by kernel_rfl) (by kernel_rfl) (by kernel_rfl) (fun _ _ _ h => h) (Or.inr ⟨by rfl, rfl⟩) HS9.out ?_
                simp only [Act.put, List.setIfInBounds_toArray, List.set_cons_zero, List.set_cons_succ]
                refine heldTake 17 (some 111) undef rfl rfl (by kernel_rfl) (by kernel_rfl) (by kernel_rfl) (fun _ _ _ h => h) (Or.inr ⟨by rfl, rfl⟩) HS9.out ?_
                simp only [Act.put, List.setIfInBounds_toArray, List.set_cons_zero, List.set_cons_succ]
                refine heldTake 18 (some 112) undef rfl rfl (by kernel_rfl) (by kernel_rfl) (by kernel_rfl) (fun _ _ _ h => h) (Or.inr ⟨by rfl, rfl⟩) HS9.out ?_
                simp only [Act.put, List.setIfInBounds_toArray, List.set_cons_zero, List.set_cons_succ]
                refine heldTake 19 (some 113) undef rfl rfl (by kernel_rfl) (by kernel_rfl) (by kernel_rfl) (fun _ _ _ h => h) (Or.inr ⟨by rfl, rfl⟩) HS9.out ?_
                simp only [Act.put, List.setIfInBounds_toArray, List.set_cons_zero, List.set_cons_succ]
                refine heldTake 20 (some 114) undef rfl rfl (by kernel_rfl) (by kernel_rfl) (by kernel_rfl) (fun _ _ _ h => h) (Or.inr ⟨by rfl, rfl⟩) HS9.out ?_
                simp only [Act.put, List.setIfInBounds_toArray, List.set_cons_zero, List.set_cons_succ]
                refine heldTake 21 (some 115) undef rfl rfl (by kernel_rfl) (by kernel_rfl) (by kernel_rfl) (fun _ _ _ h => h) (Or.inr ⟨by rfl, rfl⟩) HS9.out ?_
                simp only [Act.put, List.setIfInBounds_toArray, List.set_cons_zero, List.set_cons_succ]
                refine heldTake 22 (some 116) undef rfl rfl (by kernel_rfl) (by kernel_rfl) (by kernel_rfl) (fun _ _ _ h => h) (Or.inr ⟨by rfl, rfl⟩) HS9.out ?_
                simp only [Act.put, List.setIfInBounds_toArray, List.set_cons_zero, List.set_cons_succ]
                refine heldTake 23 (some 117) undef rfl rfl (by kernel_rfl) (by kernel_rfl) (by kernel_rfl) (fun _ _ _ h => h) (Or.inr ⟨by rfl, rfl⟩) HS9.out ?_
                simp only [Act.put, List.setIfInBounds_toArray, List.set_cons_zero, List.set_cons_succ]
                refine heldTake 24 (some 118) (.bool true) rfl rfl (by kernel_rfl) (by kernel_rfl) (by kernel_rfl) (fun _ _ _ h => h) (Or.inl ⟨by rfl, fun w hS => ?_⟩) HS9.out ?_
                · (go_simp)
                simp only [Act.put, List.setIfInBounds_toArray, List.set_cons_zero, List.set_cons_succ]
                refine wpAnyH_done (by kernel_rfl) ?_ _
                have HFE := (show Hid (E = 2) from HNG.out (HNX.out))
                clear HNG HYG
                go_wp2
                go_ret
                exact ⟨by rw [HFE.out]; rfl, HE1.out _ HB9.out⟩
              | true =>
                have HALN := (show Hid (∀ i, i < k + 1 → Sl.isKey (ks.getD i ByteArray.empty) = true) from HALX.out hQ)
                clear HMM HALX HQ0
                replace hQ : Is (Sl.isKey (ks.getD k ByteArray.empty)) true := ⟨hQ⟩
                generalize ks.getD k ByteArray.empty = xk at *
                generalize ks.getD j ByteArray.empty = yk at *
                have HCL := fun W => rkey_any xk W (by omega)
                generalize Sl.isKey xk = q at *
                rw [hQ.eq] at HCL
                clear hQ
                have HSD := (show Hid ((fun W : World => Brow W w.heap.size [.bool lf, .slice a1 cs.length c1, .slice (some ⟨b, off, none⟩) ks.length c2, .slice a3 ds.length c3] 26 ∧ W.cell? ⟨b, off + k, none⟩ = some (.string xk) ∧ W.cell? ⟨b, off + j, none⟩ = some (.string yk)) wr.drew) from ⟨HN.out.drew, hcX, hcY⟩)
                have HBD := (show Hid (Below w1.heap.size w1 wr.drew) from HBr.out.drew)
                have hsd : w.heap.size + 1 ≤ wr.drew.heap.size := hsr
                have hsbd : w1.heap.size ≤ wr.drew.heap.size := hsb
                have hbd : b < wr.drew.heap.size := hbw
                clear hbw
                have hbw := hbd
                refine wp_region_held_drew (S := (fun W : World => Brow W w.heap.size [.bool lf, .slice a1 cs.length c1, .slice (some ⟨b, off, none⟩) ks.length c2, .slice a3 ds.length c3] 26 ∧ W.cell? ⟨b, off + k, none⟩ = some (.string xk) ∧ W.cell? ⟨b, off + j, none⟩ = some (.string yk))) (by kernel_rfl) HSD.out (fun _ => ?_)
                generalize wr.drew = wd at *
                clear HBr HBW HN hcX hcY
                by_cases hk0 : k = 0
                · have g0 : ¬ (0 : Int) < (k : Int) := by omega
                  have g1 : decide ((0 : Int) < (k : Int)) = false := decide_eq_false g0
                  have g2 : ¬ 0 < k := by omega
                  clear HLTF
                  have hk1 : k ≤ 0 := by omega
                  clear hk0
                  refine heldTake 0 (some 94) (.pointer (some ⟨w.heap.size, 2, none⟩)) rfl rfl (by kernel_rfl) (by kernel_rfl) (by kernel_rfl) (fun _ _ _ h => h) (Or.inl ⟨by rfl, fun w hS => ?_⟩) HSD.out ?_
                  · (go_simp)
                  simp only [Act.put, List.setIfInBounds_toArray, List.set_cons_zero, List.set_cons_succ]
                  refine heldTake 1 (some 95) (.slice (some ⟨b, off, none⟩) ks.length c2) rfl rfl (by kernel_rfl) (by kernel_rfl) (by kernel_rfl) (fun _ _ _ h => h) (Or.inl ⟨by rfl, fun w hS => ?_⟩) HSD.out ?_
                  · (have q := hS.1.at 2 _ rfl; go_simp)
                  simp only [Act.put, List.setIfInBounds_toArray, List.set_cons_zero, List.set_cons_succ]
                  refine heldTake 2 (some 96) (.int .i64 (k : Int)) rfl rfl (by kernel_rfl) (by kernel_rfl) (by kernel_rfl) (fun _ _ _ h => h) (Or.inl ⟨by rfl, fun w hS => ?_⟩) HSD.out ?_
                  · (go_simp)
                  simp only [Act.put, List.setIfInBounds_toArray, List.set_cons_zero, List.set_cons_succ]
                  refine heldTake 3 (some 97) (.pointer (some ⟨b, off + k, none⟩)) rfl rfl (by kernel_rfl) (by kernel_rfl) (by kernel_rfl) (fun _ _ _ h => h) (Or.inl ⟨by rfl, fun w hS => ?_⟩) HSD.out ?_
                  · (go_simp)
                  simp only [Act.put, List.setIfInBounds_toArray, List.set_cons_zero, List.set_cons_succ]
                  refine heldTake 4 (some 98) (.string xk) rfl rfl (by kernel_rfl) (by kernel_rfl) (by kernel_rfl) (fun _ _ _ h => h) (Or.inl ⟨by rfl, fun w hS => ?_⟩) HSD.out ?_
                  · (have q0 := hS.2.1; go_simp)
                  simp only [Act.put, List.setIfInBounds_toArray, List.set_cons_zero, List.set_cons_succ]
                  refine heldOne 5 (by kernel_rfl) rfl (by rfl) (fun KK hK => ?_)
                  go_simp
                  go_at_call 63
                  refine (HCL wd).mono ?_
                  rintro e w9 ⟨rfl, hw9⟩
                  rw [hw9]
                  clear hw9 w9 HCL
                  have HS9 := (show Hid ((fun W : World => Brow W w.heap.size [.bool lf, .slice a1 cs.length c1, .slice (some ⟨b, off, none⟩) ks.length c2, .slice a3 ds.length c3] 26 ∧ W.cell? ⟨b, off + k, none⟩ = some (.string xk) ∧ W.cell? ⟨b, off + j, none⟩ = some (.string yk)) wd) from HSD.out)
                  have HB9 := (show Hid (Below w1.heap.size w1 wd) from HBD.out)
                  clear HSD HBD
                  refine hK.out _ _ HS9.out ?_
                  clear hK KK
                  try simp only [Act.put, List.setIfInBounds_toArray, List.set_cons_zero, List.set_cons_succ]
                  refine heldTake 6 (some 100) (.bool false) rfl rfl (by kernel_rfl) (by kernel_rfl) (by kernel_rfl) (fun _ _ _ h => h) (Or.inl ⟨by rfl, fun w hS => ?_⟩) HS9.out ?_
                  · (go_simp)
                  simp only [Act.put, List.setIfInBounds_toArray, List.set_cons_zero, List.set_cons_succ]
                  refine heldTake 7 (some 101) (.bool false) rfl rfl (by kernel_rfl) (by kernel_rfl) (by kernel_rfl) (fun _ _ _ h => h) (Or.inl ⟨by rfl, fun w hS => ?_⟩) HS9.out ?_
                  · (go_simp)
                  simp only [Act.put, List.setIfInBounds_toArray, List.set_cons_zero, List.set_cons_succ]
                  refine heldTake 8 (some 102) (.int .i64 (k : Int)) rfl rfl (by kernel_rfl) (by kernel_rfl) (by kernel_rfl) (fun _ _ _ h => h) (Or.inl ⟨by rfl, fun w hS => ?_⟩) HS9.out ?_
                  · (go_simp)
                  simp only [Act.put, List.setIfInBounds_toArray, List.set_cons_zero, List.set_cons_succ]
                  refine heldTake 9 (some 103) (.bool false) rfl rfl (by kernel_rfl) (by kernel_rfl) (by kernel_rfl) (fun _ _ _ h => h) (Or.inl ⟨by rfl, fun w hS => ?_⟩) HS9.out ?_
                  · (go_simp)
                  simp only [Act.put, List.setIfInBounds_toArray, List.set_cons_zero, List.set_cons_succ]
                  refine heldTake 10 (some 104) (.bool false) rfl rfl (by kernel_rfl) (by kernel_rfl) (by kernel_rfl) (fun _ _ _ h => h) (Or.inl ⟨by rfl, fun w hS => ?_⟩) HS9.out ?_
                  · (go_simp)
                  simp only [Act.put, List.setIfInBounds_toArray, List.set_cons_zero, List.set_cons_succ]
                  refine heldTake 11 (some 105) undef rfl rfl (by kernel_rfl) (by kernel_rfl) (by kernel_rfl) (fun _ _ _ h => h) (Or.inr ⟨by rfl, rfl⟩) HS9.out ?_
                  simp only [Act.put, List.setIfInBounds_toArray, List.set_cons_zero, List.set_cons_succ]
                  refine heldTake 12 (some 106) undef rfl rfl (by kernel_rfl) (by kernel_rfl) (by kernel_rfl) (fun _ _ _ h => h) (Or.inr ⟨by rfl, rfl⟩) HS9.out ?_
                  simp only [Act.put, List.setIfInBounds_toArray, List.set_cons_zero, List.set_cons_succ]
                  refine heldTake 13 (some 107) undef rfl rfl (by kernel_rfl) (by kernel_rfl) (by kernel_rfl) (fun _ _ _ h => h) (Or.inr ⟨by rfl, rfl⟩) HS9.out ?_
                  simp only [Act.put, List.setIfInBounds_toArray, List.set_cons_zero, List.set_cons_succ]
                  refine heldTake 14 (some 108) undef rfl rfl (by kernel_rfl) (by kernel_rfl) (by kernel_rfl) (fun _ _ _ h => h) (Or.inr ⟨by rfl, rfl⟩) HS9.out ?_
                  simp only [Act.put, List.setIfInBounds_toArray, List.set_cons_zero, List.set_cons_succ]
                  refine heldTake 15 (some 109) undef rfl rfl (by kernel_rfl) (by kernel_rfl) (by kernel_rfl) (fun _ _ _ h => h) (Or.inr ⟨by rfl, rfl⟩) HS9.out ?_
                  simp only [Act.put, List.setIfInBounds_toArray, List.set_cons_zero, List.set_cons_succ]
                  refine heldTake 16 (some 110) undef rfl rfl (by kernel_rfl) (by kernel_rfl) (by kernel_rfl) (fun _ _ _ h => h) (Or.inr ⟨by rfl, rfl⟩) HS9.out ?_
                  simp only [Act.put, List.setIfInBounds_toArray, List.set_cons_zero, List.set_cons_succ]
                  refine heldTake 17 (some 111) undef rfl rfl (by kernel_rfl) (by kernel_rfl) (by kernel_rfl) (fun _ _ _ h => h) (Or.inr ⟨by rfl, rfl⟩) HS9.out ?_
                  simp only [Act.put, List.setIfInBounds_toArray, List.set_cons_zero, List.set_cons_succ]
                  refine heldTake 18 (some 112) undef rfl rfl (by kernel_rfl) (by kernel_rfl) (by kernel_rfl) (fun _ _ _ h => h) (Or.inr ⟨by rfl, rfl⟩) HS9.out ?_
                  simp only [Act.put, List.setIfInBounds_toArray, List.set_cons_zero, List.set_cons_succ]
                  refine heldTake 19 (some 113) undef rfl rfl (by kernel_rfl) (by kernel_rfl) (by kernel_rfl) (fun _ _ _ h => h) (Or.inr ⟨by rfl, rfl⟩) HS9.out ?_
                  simp only [Act.put, List.setIfInBounds_toArray, List.set_cons_zero, List.set_cons_succ]
                  refine heldTake 20 (some 114) undef rfl rfl (by kernel_rfl) (by kernel_rfl) (by kernel_rfl) (fun _ _ _ h => h) (Or.inr ⟨by rfl, rfl⟩) HS9.out ?_
                  simp only [Act.put, List.setIfInBounds_toArray, List.set_cons_zero, List.set_cons_succ]
                  refine heldTake 21 (some 115) undef rfl rfl (by kernel_rfl) (by kernel_rfl) (by kernel_rfl) (fun _ _ _ h => h) (Or.inr ⟨by rfl, rfl⟩) HS9.out ?_
                  simp only [Act.put, List.setIfInBounds_toArray, List.set_cons_zero, List.set_cons_succ]
                  refine heldTake 22 (some 116) undef rfl rfl (by kernel_rfl) (by kernel_rfl) (by kernel_rfl) (fun _ _ _ h => h) (Or.inr ⟨by rfl, rfl⟩) HS9.out ?_
                  simp only [Act.put, List.setIfInBounds_toArray, List.set_cons_zero, List.set_cons_succ]
                  refine heldTake 23 (some 117) (.bool false) rfl rfl (by kernel_rfl) (by kernel_rfl) (by kernel_rfl) (fun _ _ _ h => h) (Or.inl ⟨by rfl, fun w hS => ?_⟩) HS9.out ?_
                  · (go_simp)
                  simp only [Act.put, List.setIfInBounds_toArray, List.set_cons_zero, List.set_cons_succ]
                  refine heldTake 24 (some 118) (.bool false) rfl rfl (by kernel_rfl) (by kernel_rfl) (by kernel_rfl) (fun _ _ _ h => h) (Or.inl ⟨by rfl, fun w hS => ?_⟩) HS9.out ?_
                  · (go_simp)
                  simp only [Act.put, List.setIfInBounds_toArray, List.set_cons_zero, List.set_cons_succ]
                  refine wpAnyH_done (by kernel_rfl) ?_ _
                  clear HS9
                  have HREL := (show Hid (∃ k' : Nat, k' ≤ ks.length ∧ Value.int .i64 ((k : Int) + 1) = .int .i64 (k' : Int) ∧ (∀ i, i < k' → Sl.isKey (ks.getD i ByteArray.empty) = true) ∧ (∀ i, i + 1 < k' → Sl.lt (ks.getD i ByteArray.empty) (ks.getD (i + 1) ByteArray.empty) = true) ∧ Below w1.heap.size w1 wd) from ⟨k + 1, by omega, by go_num, HALN.out, fun i hi => absurd hi (by omega), HB9.out⟩)
                  clear HB9 HALL HRI
                  go_wp2_with fail
                  go_roundw
                  case rel => first | exact HREL.out | (obtain ⟨k', h1, h2, h3, h4, h5⟩ := HREL.out; exact ⟨k', h1, h2, h3, h4, h5⟩)
                  case measure => (simp [intOf]) <;> omega
                · have g0 : (0 : Int) < (k : Int) := by omega
                  have g1 : decide ((0 : Int) < (k : Int)) = true := decide_eq_true g0
                  have g2 : 0 < k := by omega
                  obtain ⟨p1, p2⟩ := wrap_pred (k := k) (j := j) (by have := HJ.eq; omega) (by omega)
                  have p3 : (j : Int) < (ks.length : Int) := by omega
                  have p4 : (0 : Int) ≤ (j : Int) := by omega
                  have p5 : IntKind.i64.wrap (j : Int) = (j : Int) := by rw [IntKind.wrap_i64]; omega
                  obtain ⟨LQ, HLQ⟩ : ∃ LQ, Hid ((Op.bytesLess xk.toList yk.toList || xk.toList == yk.toList) = LQ) := ⟨_, rfl⟩
                  have hLe := leq_of xk yk
                  have HLT := (show Hid (LQ = true → ¬ Good ⟨lf, cs, ks, ds⟩) from fun h => (HLTF.out g2).1 (by
                    have h2 := HLQ.out
                    rw [hLe, h] at h2
                    simpa using h2))
                  have HLF := (show Hid (LQ = false → _) from fun h => (HLTF.out g2).2 (by
                    have h2 := HLQ.out
                    rw [hLe, h] at h2
                    simpa using h2))
                  clear HLTF hLe hk0
                  refine heldTake 0 (some 94) (.pointer (some ⟨w.heap.size, 2, none⟩)) rfl rfl (by kernel_rfl) (by kernel_rfl) (by kernel_rfl) (fun _ _ _ h => h) (Or.inl ⟨by rfl, fun w hS => ?_⟩) HSD.out ?_
                  · (go_simp)
                  simp only [Act.put, List.setIfInBounds_toArray, List.set_cons_zero, List.set_cons_succ]
                  refine heldTake 1 (some 95) (.slice (some ⟨b, off, none⟩) ks.length c2) rfl rfl (by kernel_rfl) (by kernel_rfl) (by kernel_rfl) (fun _ _ _ h => h) (Or.inl ⟨by rfl, fun w hS => ?_⟩) HSD.out ?_
                  · (have q := hS.1.at 2 _ rfl; go_simp)
                  simp only [Act.put, List.setIfInBounds_toArray, List.set_cons_zero, List.set_cons_succ]
                  refine heldTake 2 (some 96) (.int .i64 (k : Int)) rfl rfl (by kernel_rfl) (by kernel_rfl) (by kernel_rfl) (fun _ _ _ h => h) (Or.inl ⟨by rfl, fun w hS => ?_⟩) HSD.out ?_
                  · (go_simp)
                  simp only [Act.put, List.setIfInBounds_toArray, List.set_cons_zero, List.set_cons_succ]
                  refine heldTake 3 (some 97) (.pointer (some ⟨b, off + k, none⟩)) rfl rfl (by kernel_rfl) (by kernel_rfl) (by kernel_rfl) (fun _ _ _ h => h) (Or.inl ⟨by rfl, fun w hS => ?_⟩) HSD.out ?_
                  · (go_simp)
                  simp only [Act.put, List.setIfInBounds_toArray, List.set_cons_zero, List.set_cons_succ]
                  refine heldTake 4 (some 98) (.string xk) rfl rfl (by kernel_rfl) (by kernel_rfl) (by kernel_rfl) (fun _ _ _ h => h) (Or.inl ⟨by rfl, fun w hS => ?_⟩) HSD.out ?_
                  · (have q0 := hS.2.1; go_simp)
                  simp only [Act.put, List.setIfInBounds_toArray, List.set_cons_zero, List.set_cons_succ]
                  refine heldOne 5 (by kernel_rfl) rfl (by rfl) (fun KK hK => ?_)
                  go_simp
                  go_at_call 63
                  refine (HCL wd).mono ?_
                  rintro e w9 ⟨rfl, hw9⟩
                  rw [hw9]
                  clear hw9 w9 HCL
                  have HS9 := (show Hid ((fun W : World => Brow W w.heap.size [.bool lf, .slice a1 cs.length c1, .slice (some ⟨b, off, none⟩) ks.length c2, .slice a3 ds.length c3] 26 ∧ W.cell? ⟨b, off + k, none⟩ = some (.string xk) ∧ W.cell? ⟨b, off + j, none⟩ = some (.string yk)) wd) from HSD.out)
                  have HB9 := (show Hid (Below w1.heap.size w1 wd) from HBD.out)
                  clear HSD HBD
                  refine hK.out _ _ HS9.out ?_
                  clear hK KK
                  try simp only [Act.put, List.setIfInBounds_toArray, List.set_cons_zero, List.set_cons_succ]
                  refine heldTake 6 (some 100) (.bool false) rfl rfl (by kernel_rfl) (by kernel_rfl) (by kernel_rfl) (fun _ _ _ h => h) (Or.inl ⟨by rfl, fun w hS => ?_⟩) HS9.out ?_
                  · (go_simp)
                  simp only [Act.put, List.setIfInBounds_toArray, List.set_cons_zero, List.set_cons_succ]
                  refine heldTake 7 (some 101) (.bool false) rfl rfl (by kernel_rfl) (by kernel_rfl) (by kernel_rfl) (fun _ _ _ h => h) (Or.inl ⟨by rfl, fun w hS => ?_⟩) HS9.out ?_
                  · (go_simp)
                  simp only [Act.put, List.setIfInBounds_toArray, List.set_cons_zero, List.set_cons_succ]
                  refine heldTake 8 (some 102) (.int .i64 (k : Int)) rfl rfl (by kernel_rfl) (by kernel_rfl) (by kernel_rfl) (fun _ _ _ h => h) (Or.inl ⟨by rfl, fun w hS => ?_⟩) HS9.out ?_
                  · (go_simp)
                  simp only [Act.put, List.setIfInBounds_toArray, List.set_cons_zero, List.set_cons_succ]
                  refine heldTake 9 (some 103) (.bool true) rfl rfl (by kernel_rfl) (by kernel_rfl) (by kernel_rfl) (fun _ _ _ h => h) (Or.inl ⟨by rfl, fun w hS => ?_⟩) HS9.out ?_
                  · (go_simp)
                  simp only [Act.put, List.setIfInBounds_toArray, List.set_cons_zero, List.set_cons_succ]
                  refine heldTake 10 (some 104) (.bool true) rfl rfl (by kernel_rfl) (by kernel_rfl) (by kernel_rfl) (fun _ _ _ h => h) (Or.inl ⟨by rfl, fun w hS => ?_⟩) HS9.out ?_
                  · (go_simp)
                  simp only [Act.put, List.setIfInBounds_toArray, List.set_cons_zero, List.set_cons_succ]
                  refine heldTake 11 (some 105) (.pointer (some ⟨w.heap.size, 2, none⟩)) rfl rfl (by kernel_rfl) (by kernel_rfl) (by kernel_rfl) (fun _ _ _ h => h) (Or.inl ⟨by rfl, fun w hS => ?_⟩) HS9.out ?_
                  · (go_simp)
                  simp only [Act.put, List.setIfInBounds_toArray, List.set_cons_zero, List.set_cons_succ]
                  refine heldTake 12 (some 106) (.slice (some ⟨b, off, none⟩) ks.length c2) rfl rfl (by kernel_rfl) (by kernel_rfl) (by kernel_rfl) (fun _ _ _ h => h) (Or.inl ⟨by rfl, fun w hS => ?_⟩) HS9.out ?_
                  · (have q := hS.1.at 2 _ rfl; go_simp)
                  simp only [Act.put, List.setIfInBounds_toArray, List.set_cons_zero, List.set_cons_succ]
                  refine heldTake 13 (some 107) (.int .i64 (k : Int)) rfl rfl (by kernel_rfl) (by kernel_rfl) (by kernel_rfl) (fun _ _ _ h => h) (Or.inl ⟨by rfl, fun w hS => ?_⟩) HS9.out ?_
                  · (go_simp)
                  simp only [Act.put, List.setIfInBounds_toArray, List.set_cons_zero, List.set_cons_succ]
                  refine heldTake 14 (some 108) (.pointer (some ⟨b, off + k, none⟩)) rfl rfl (by kernel_rfl) (by kernel_rfl) (by kernel_rfl) (fun _ _ _ h => h) (Or.inl ⟨by rfl, fun w hS => ?_⟩) HS9.out ?_
                  · (go_simp)
                  simp only [Act.put, List.setIfInBounds_toArray, List.set_cons_zero, List.set_cons_succ]
                  refine heldTake 15 (some 109) (.string xk) rfl rfl (by kernel_rfl) (by kernel_rfl) (by kernel_rfl) (fun _ _ _ h => h) (Or.inl ⟨by rfl, fun w hS => ?_⟩) HS9.out ?_
                  · (have q0 := hS.2.1; go_simp)
                  simp only [Act.put, List.setIfInBounds_toArray, List.set_cons_zero, List.set_cons_succ]
                  refine heldTake 16 (some 110) (.pointer (some ⟨w.heap.size, 2, none⟩)) rfl rfl (by kernel_rfl) (by kernel_rfl) (by kernel_rfl) (fun _ _ _ h => h) (Or.inl ⟨by rfl, fun w hS => ?_⟩) HS9.out ?_
                  · (go_simp)
                  simp only [Act.put, List.setIfInBounds_toArray, List.set_cons_zero, List.set_cons_succ]
                  refine heldTake 17 (some 111) (.slice (some ⟨b, off, none⟩) ks.length c2) rfl rfl (by kernel_rfl) (by kernel_rfl) (by kernel_rfl) (fun _ _ _ h => h) (Or.inl ⟨by rfl, fun w hS => ?_⟩) HS9.out ?_
                  · (have q := hS.1.at 2 _ rfl; go_simp)
                  simp only [Act.put, List.setIfInBounds_toArray, List.set_cons_zero, List.set_cons_succ]
                  refine heldTake 18 (some 112) (.int .i64 (k : Int)) rfl rfl (by kernel_rfl) (by kernel_rfl) (by kernel_rfl) (fun _ _ _ h => h) (Or.inl ⟨by rfl, fun w hS => ?_⟩) HS9.out ?_
                  · (go_simp)
                  simp only [Act.put, List.setIfInBounds_toArray, List.set_cons_zero, List.set_cons_succ]
                  refine heldTake 19 (some 113) (.int .i64 (j : Int)) rfl rfl (by kernel_rfl) (by kernel_rfl) (by kernel_rfl) (fun _ _ _ h => h) (Or.inl ⟨by rfl, fun w hS => ?_⟩) HS9.out ?_
                  · (go_simp)
                  simp only [Act.put, List.setIfInBounds_toArray, List.set_cons_zero, List.set_cons_succ]
                  refine heldTake 20 (some 114) (.pointer (some ⟨b, off + j, none⟩)) rfl rfl (by kernel_rfl) (by kernel_rfl) (by kernel_rfl) (fun _ _ _ h => h) (Or.inl ⟨by rfl, fun w hS => ?_⟩) HS9.out ?_
                  · (go_simp)
                  simp only [Act.put, List.setIfInBounds_toArray, List.set_cons_zero, List.set_cons_succ]
                  refine heldTake 21 (some 115) (.string yk) rfl rfl (by kernel_rfl) (by kernel_rfl) (by kernel_rfl) (fun _ _ _ h => h) (Or.inl ⟨by rfl, fun w hS => ?_⟩) HS9.out ?_
                  · (have q0 := hS.2.2; go_simp)
                  simp only [Act.put, List.setIfInBounds_toArray, List.set_cons_zero, List.set_cons_succ]
                  refine heldTake 22 (some 116) (.bool LQ) rfl rfl (by kernel_rfl) (by kernel_rfl) (by kernel_rfl) (fun _ _ _ h => h) (Or.inl ⟨by rfl, fun w hS => ?_⟩) HS9.out ?_
                  · (go_simp; first | exact HLQ.out | simpa using HLQ.out)
                  simp only [Act.put, List.setIfInBounds_toArray, List.set_cons_zero, List.set_cons_succ]
                  refine heldTake 23 (some 117) (.bool LQ) rfl rfl (by kernel_rfl) (by kernel_rfl) (by kernel_rfl) (fun _ _ _ h => h) (Or.inl ⟨by rfl, fun w hS => ?_⟩) HS9.out ?_
                  · (go_simp)
                  simp only [Act.put, List.setIfInBounds_toArray, List.set_cons_zero, List.set_cons_succ]
                  refine heldTake 24 (some 118) (.bool LQ) rfl rfl (by kernel_rfl) (by kernel_rfl) (by kernel_rfl) (fun _ _ _ h => h) (Or.inl ⟨by rfl, fun w hS => ?_⟩) HS9.out ?_
                  · (go_simp)
                  simp only [Act.put, List.setIfInBounds_toArray, List.set_cons_zero, List.set_cons_succ]
                  cases LQ with
                  | true =>
                    refine wpAnyH_done (by kernel_rfl) ?_ _
                    have HFE := (show Hid (E = 2) from HNG.out (HLT.out rfl))
                    clear HNG HYG
                    go_wp2
                    go_ret
                    exact ⟨by rw [HFE.out]; rfl, HE1.out _ HB9.out⟩
                  | false =>
                    refine wpAnyH_done (by kernel_rfl) ?_ _
                    clear HS9
                    have HREL := (show Hid (∃ k' : Nat, k' ≤ ks.length ∧ Value.int .i64 ((k : Int) + 1) = .int .i64 (k' : Int) ∧ (∀ i, i < k' → Sl.isKey (ks.getD i ByteArray.empty) = true) ∧ (∀ i, i + 1 < k' → Sl.lt (ks.getD i ByteArray.empty) (ks.getD (i + 1) ByteArray.empty) = true) ∧ Below w1.heap.size w1 wd) from ⟨k + 1, by omega, by go_num, HALN.out, HLF.out rfl, HB9.out⟩)
                    clear HB9 HALL HRI
                    go_wp2_with fail
                    go_roundw
                    case rel => first | exact HREL.out | (obtain ⟨k', h1, h2, h3, h4, h5⟩ := HREL.out; exact ⟨k', h1, h2, h3, h4, h5⟩)
                    case measure => (simp [intOf]) <;> omega
            · have hkl : ¬ (k : Int) < (ks.length : Int) := by omega
              have HGK := (show Hid ((∀ c ∈ ks, Sl.isKey c = true) ∧ Sl.rise ks = true) from ⟨all_of (d := ByteArray.empty) (fun i hi => HALL.out i (by omega)), (Sl.rise_iff _).2 (fun i hi => HRI.out i (by omega))⟩)
              have HN2 := (show Hid (Brow wr w.heap.size [.bool lf, .slice a1 cs.length c1, .slice a2 ks.length c2, .slice a3 ds.length c3] 26) from HN.out)
              have HE2 := (show Hid (∀ W : World, Below wr.heap.size wr W → Below w.heap.size w W) from fun W h => HBW.out.trans (h.mono (by omega)))
              have hs2 : w.heap.size + 1 ≤ wr.heap.size := hsr
              clear HALL HRI HBr HBW HN HN1 HE1 hs1 hsr hsb hlt q0 q1 q2 q3
              generalize wr = w2 at *
              have q0 := HN2.out.at 0 _ rfl
              have q1 := HN2.out.at 1 _ rfl
              have q2 := HN2.out.at 2 _ rfl
              have q3 := HN2.out.at 3 _ rfl
              go_wp2_with fail
              clear q0 q1 q2 q3
              go_loopw [5] (fun s5 wr => ∃ k : Nat, k ≤ ds.length ∧ s5 = .int .i64 (k : Int) ∧ (∀ i, i < k → Sl.isPage (ds.getD i 0) = true) ∧ wr = w2) (fun s5 _ => ds.length - (intOf s5).toNat)
              case atStart => exact ⟨0, by omega, rfl, fun i hi => absurd hi (by omega), rfl⟩
              case round =>
                obtain ⟨k, hk, rfl, hall, hwr⟩ := hrel
                replace hwr := hwr.symm
                subst hwr
                have HALL := (show Hid (∀ i, i < k → Sl.isPage (ds.getD i 0) = true) from hall)
                clear hall
                have q0 := HN2.out.at 0 _ rfl
                have q1 := HN2.out.at 1 _ rfl
                have q2 := HN2.out.at 2 _ rfl
                have q3 := HN2.out.at 3 _ rfl
                by_cases hlt : k < ds.length
                · obtain ⟨b, off, hab, hb, hc⟩ := HL.out.r3.intAt (Nat.lt_of_le_of_lt (Nat.zero_le _) hlt)
                  simp only at hab
                  subst hab
                  have hcX := ((HE2.out _ (Below.refl _ _)).cell (p := ⟨b, off + k, none⟩) hb).trans (hc k hlt)
                  clear hc
                  have d1 : decide ((k : Int) < (ds.length : Int)) = true := decide_eq_true (by omega)
                  have i1 : (k : Int) < (ds.length : Int) := by omega
                  have i2 : (0 : Int) ≤ (k : Int) := by omega
                  have HMM := (show Hid (ds.getD k 0 ∈ ds) from Sl.getD_mem ds k 0 hlt)
                  have HALX := (show Hid (Sl.isPage (ds.getD k 0) = true → ∀ i, i < k + 1 → Sl.isPage (ds.getD i 0) = true) from fun h i hi => by
                    by_cases e : i = k
                    · rw [e]; exact h
                    · exact HALL.out i (by omega))
                  have HNX := (show Hid (Sl.isPage (ds.getD k 0) = false → ¬ Good ⟨lf, cs, ks, ds⟩) from fun h0 hg => by
                    have h := hg.d _ HMM.out
                    rw [h0] at h
                    cases h)
                  clear HMM HALL
                  generalize ds.getD k 0 = x at *
                  have HCL := fun W => rpage_any x W
                  generalize Sl.isPage x = q at *
                  go_wp2_with fail
                  refine (HCL w2).mono ?_
                  rintro e wS ⟨rfl, hwS⟩
                  rw [hwS]
                  clear hwS wS HCL
                  cases q with
                  | false =>
                    have HFE := (show Hid (E = 2) from HNG.out (HNX.out rfl))
                    clear HNG HYG
                    go_wp2
                    go_ret
                    exact ⟨by rw [HFE.out]; rfl, HE2.out _ (Below.refl _ _)⟩
                  | true =>
                    have HALN := (show Hid _ from HALX.out rfl)
                    clear HALX HNX
                    go_wp2_with fail
                    go_roundw
                    case rel => exact ⟨k + 1, by omega, by go_num, HALN.out, trivial⟩
                    case measure => (simp [intOf]) <;> omega
                · have hkl : ¬ (k : Int) < (ds.length : Int) := by omega
                  have HFE := (show Hid (E = 0) from HYG.out ⟨HGC.out.1, HGC.out.2, HGK.out.1, HGK.out.2, all_of (l := ds) (d := (0 : Int)) (fun i hi => HALL.out i (by omega))⟩)
                  clear HNG HYG HGC HGK HALL
                  go_wp2
                  go_ret
                  exact ⟨by rw [HFE.out]; rfl, HE2.out _ (Below.refl _ _)⟩
end Go.Proofs.Ytoinaplmgffkpaa
