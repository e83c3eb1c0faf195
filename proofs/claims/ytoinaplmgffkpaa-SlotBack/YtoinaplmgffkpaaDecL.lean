/- Proved: what slot's input.leaf answers (stage 11). -/
import Derived.Test.YtoinaplmgffkpaaDecR
namespace Go.Proofs.Ytoinaplmgffkpaa
open Go.RowKit
open Sl (Cel Nod)
set_option maxHeartbeats 4000000 in
set_option maxRecDepth 20000 in
theorem lf_in (g : Nat) (s : In) (w : World) (hg : Brow w g (irow s) 76) (hs : Ok8 s) :
    Calls Try.prog 78 #[.pointer (some ⟨g, 0, none⟩)] w (NdPost g w (lfV s) (lfS s)) := by
  have HN := fun (W : World) (h : Brow W g (irow s) 76) => num_in g s 1 W h hs (by omega)
  have hcl : numV s 1 < 256 := hs.num 1
  have HCI := fun (k : Nat) (W : World) (h : Brow W g (irow (celsS k (cutS s 1))) 76) => cel_in g (celsS k (cutS s 1)) W h ((hs.cut 1).cels k)
  unfold cv at HCI
  have HR0 := (show Hid (DR g w s true [] [] [] (.slice none 0 0) (.slice none 0 0) (.slice none 0 0) ((w.alloc (.cells #[.bool false, .slice none 0 0, .slice none 0 0, .slice none 0 0] 26)).alloc (.cells #[.bool true, .slice none 0 0, .slice none 0 0, .slice none 0 0] 26))) from ⟨(hg.alloc _).alloc _, (Brow.new w _ 26).alloc _, by
    have := Brow.new (w.alloc (.cells #[.bool false, .slice none 0 0, .slice none 0 0, .slice none 0 0] 26)) [.bool true, .slice none 0 0, .slice none 0 0, .slice none 0 0] 26
    rwa [size_alloc1] at this, own_nil _ _ _ _, own_nil _ _ _ _, own_nil _ _ _ _, ((Chg.refl g w).alloc _).alloc _, hg.lt, by rw [size_alloc1, size_alloc1]; omega, fun b hb => by cases hb⟩)
  clear hg hs
  unfold lfV lfS
  generalize numV s 1 = cnt at *
  generalize cutS s 1 = s1 at *
  go_enter Try.func78, Try.ntmps78
  go_wp2_with fail
  refine (HN _ HR0.out.i).mono ?_
  rintro e w1 ⟨rfl, hI1, hB1⟩
  have HR1 := (show Hid (DR g w s1 true [] [] [] (.slice none 0 0) (.slice none 0 0) (.slice none 0 0) w1) from HR0.out.chg hB1 hI1)
  clear hI1 hB1 HR0 HN
  go_wp2_with fail
  go_loopw [7] (fun s7 wr => ∃ (k : Nat) (v1 : Value), k ≤ cnt ∧ s7 = .int .i64 (k : Int) ∧ DR g w (celsS k s1) true (celsV k s1) [] [] v1 (.slice none 0 0) (.slice none 0 0) wr) (fun s7 _ => cnt - (intOf s7).toNat)
  case atStart => exact ⟨0, .slice none 0 0, by omega, rfl, HR1.out⟩
  case round =>
    obtain ⟨k, v1, hk, rfl, hR⟩ := hrel
    obtain ⟨a1, c1, hv1, _, _, _⟩ := own_rowFrom hR.r1
    subst hv1
    have HLN : Is (celsV k s1).length k := ⟨celsV_len s1 k⟩
    have HR := (show Hid (DR g w (celsS k s1) true (celsV k s1) [] [] (.slice a1 k c1) (.slice none 0 0) (.slice none 0 0) wr) from by
      rw [HLN.eq] at hR
      exact hR)
    clear hR HR1
    by_cases hlt : k < cnt
    · have d1 : decide ((k : Int) < (cnt : Int)) = true := decide_eq_true (by omega)
      go_upto_region 4 with fail
      have HRD := (show Hid (DR g w (celsS k s1) true (celsV k s1) [] [] (.slice a1 k c1) (.slice none 0 0) (.slice none 0 0) wr.drew) from HR.out.below (Below.refl _ _).drew)
      refine AnyL.begin (S := (fun W : World => Brow W (w.heap.size + 1) [.bool true, .slice a1 k c1, .slice none 0 0, .slice none 0 0] 26)) (zs := [7]) (by kernel_rfl) ?_
      generalize wr.drew = wd at *
      refine AnyL.take 0 (some 9) (v := (.pointer (some ⟨w.heap.size + 1, 1, none⟩))) rfl rfl (by kernel_rfl) (by kernel_rfl) (by kernel_rfl) (by kernel_rfl) (by kernel_rfl) (fun _ _ _ h => h) (Or.inl ⟨by rfl, fun w hS => ?_⟩) HRD.out.o ?_
      · (go_simp)
      simp only [Act.put, List.setIfInBounds_toArray, List.set_cons_zero, List.set_cons_succ]
      refine AnyL.take 1 (some 10) (v := (.slice a1 k c1)) rfl rfl (by kernel_rfl) (by kernel_rfl) (by kernel_rfl) (by kernel_rfl) (by kernel_rfl) (fun _ _ _ h => h) (Or.inl ⟨by rfl, fun w hS => ?_⟩) HRD.out.o ?_
      · (have q := hS.at 1 _ rfl; go_simp)
      simp only [Act.put, List.setIfInBounds_toArray, List.set_cons_zero, List.set_cons_succ]
      refine AnyL.take 2 (some 11) (v := (.pointer (some ⟨g, 0, none⟩))) rfl rfl (by kernel_rfl) (by kernel_rfl) (by kernel_rfl) (by kernel_rfl) (by kernel_rfl) (fun _ _ _ h => h) (Or.inl ⟨by rfl, fun w hS => ?_⟩) HRD.out.o ?_
      · (go_simp)
      simp only [Act.put, List.setIfInBounds_toArray, List.set_cons_zero, List.set_cons_succ]
      refine AnyL.one 3 (by kernel_rfl) rfl (by rfl) (fun KK hK => ?_)
      go_simp
      go_at_call 86
      refine (HCI k wd HRD.out.i).mono ?_
      rintro e w2 ⟨rfl, hI2, hB2⟩
      have HR2 := (show Hid (DR g w (celS (celsS k s1)) true (celsV k s1) [] [] (.slice a1 k c1) (.slice none 0 0) (.slice none 0 0) w2) from HRD.out.chg hB2 hI2)
      clear hI2 hB2 HRD HR
      refine hK.out _ _ (fun _ => HR2.out.o) ?_
      clear hK KK
      try simp only [Act.put, List.setIfInBounds_toArray, List.set_cons_zero, List.set_cons_succ]
      have HR3 := (show Hid (DR g w (celS (celsS k s1)) true (celsV k s1) [] [] (.slice a1 k c1) (.slice none 0 0) (.slice none 0 0) (w2.alloc (.cells #[.string (celV (celsS k s1)).key, .string (celV (celsS k s1)).val, .int .i64 (celV (celsS k s1)).over, .int .i64 (celV (celsS k s1)).len] 28))) from HR2.out.below (below_alloc _ _))
      refine AnyL.one 4 (by kernel_rfl) rfl (by rfl) (fun KK hK => ?_)
      go_simp
      refine hK.out _ _ (fun _ => HR3.out.o) ?_
      clear hK KK
      try simp only [Act.put, List.setIfInBounds_toArray, List.set_cons_zero, List.set_cons_succ]
      obtain ⟨v', w', hr, hO', hG'⟩ := app_cel (w2.alloc (.cells #[.string (celV (celsS k s1)).key, .string (celV (celsS k s1)).val, .int .i64 (celV (celsS k s1)).over, .int .i64 (celV (celsS k s1)).len] 28)) (w.heap.size + 2) _ (celsV k s1) (celV (celsS k s1)) w2.heap.size HR3.out.r1 (by have := HLN.eq; omega) HR3.out.n (Brow.new w2 _ 28)
      have HRN := (show Hid _ from HR3.out.cel hO' hG')
      have HON := (show Hid (Brow w' (w.heap.size + 1) [.bool true, .slice a1 k c1, .slice none 0 0, .slice none 0 0] 26) from HR3.out.o.grew hG' (own_far HR3.out.r1 (by omega)))
      obtain ⟨ad3, cp3, hv3, _, _, _⟩ := own_rowFrom hO'
      subst hv3
      have hln : ((celsV k s1) ++ [celV (celsS k s1)]).length = k + 1 := by rw [List.length_append, HLN.eq]; rfl
      rw [hln] at hr
      have HR5 := (show Hid (DR g w (celS (celsS k s1)) true ((celsV k s1) ++ [celV (celsS k s1)]) [] [] (.slice ad3 (k + 1) cp3) (.slice none 0 0) (.slice none 0 0) (w'.setCell ⟨w.heap.size + 1, 1, none⟩ (.slice ad3 (k + 1) cp3))) from by
        have h := HRN.out
        rw [hln] at h
        exact h)
      clear HRN hO' hG' HR3 HR2 hln
      refine AnyL.one 5 (by kernel_rfl) rfl (by rfl) (fun KK hK => ?_)
      refine step_run_append (some 14) rfl (.tmp 10) (.tmp 13) 22 rfl _ _ _ _ rfl rfl hr ?_
      refine hK.out _ _ (fun _ => HON.out) ?_
      clear hK KK hr
      try simp only [Act.put, List.setIfInBounds_toArray, List.set_cons_zero, List.set_cons_succ]
      refine AnyL.take 6 (some 15) (v := (.pointer (some ⟨w.heap.size + 1, 1, none⟩))) rfl rfl (by kernel_rfl) (by kernel_rfl) (by kernel_rfl) (by kernel_rfl) (by kernel_rfl) (fun _ _ _ h => h) (Or.inl ⟨by rfl, fun w hS => ?_⟩) HON.out ?_
      · (go_simp)
      simp only [Act.put, List.setIfInBounds_toArray, List.set_cons_zero, List.set_cons_succ]
      have p1 := HON.out.at 1 _ rfl
      have pz := HON.out.fz 1
      refine AnyL.one 7 (by kernel_rfl) rfl (by rfl) (fun KK hK => ?_)
      go_simp
      refine hK.out _ _ (fun h => absurd h (by decide)) ?_
      clear hK KK
      try simp only [Act.put, List.setIfInBounds_toArray, List.set_cons_zero, List.set_cons_succ]
      refine AnyL.done (by kernel_rfl) ?_
      clear p1 pz HON
      generalize (w'.setCell ⟨w.heap.size + 1, 1, none⟩ (.slice ad3 (k + 1) cp3)) = w5 at *
      have HREL := (show Hid (∃ (k' : Nat) (v1 : Value), k' ≤ cnt ∧ Value.int .i64 ((k : Int) + 1) = .int .i64 (k' : Int) ∧ DR g w (celsS k' s1) true (celsV k' s1) [] [] v1 (.slice none 0 0) (.slice none 0 0) w5) from ⟨k + 1, _, by omega, by go_num, HR5.out⟩)
      clear HR5 HCI
      go_wp2_with fail
      go_roundw
      case rel => first | exact HREL.out | (obtain ⟨k', v', h1, h2, h3⟩ := HREL.out; exact ⟨k', v', h1, h2, h3⟩)
      case measure => (simp [intOf]) <;> omega
    · have hkl : ¬ (k : Int) < (cnt : Int) := by omega
      obtain rfl : k = cnt := by omega
      have HFR := (show Hid (Brow (setN wr w.heap.size (.bool true) (.slice a1 k c1) (.slice none 0 0) (.slice none 0 0)) w.heap.size [.bool true, .slice a1 k c1, .slice none 0 0, .slice none 0 0] 26) from setN_row HR.out.z _ _ _ _)
      have HFG := (show Hid (Brow (setN wr w.heap.size (.bool true) (.slice a1 k c1) (.slice none 0 0) (.slice none 0 0)) g (irow (celsS k s1)) 76 ∧ Chg g w (setN wr w.heap.size (.bool true) (.slice a1 k c1) (.slice none 0 0) (.slice none 0 0))) from ⟨setN_far HR.out.i (by have := HR.out.h; omega) _ _ _ _, ((((HR.out.c.setNew (Nat.le_refl _) 0 _).setNew (Nat.le_refl _) 1 _).setNew (Nat.le_refl _) 2 _).setNew (Nat.le_refl _) 3 _)⟩)
      have HFL := (show Hid (LiesF (setN wr w.heap.size (.bool true) (.slice a1 k c1) (.slice none 0 0) (.slice none 0 0)) w.heap.size ⟨true, celsV k s1, [], []⟩ ⟨a1, c1, none, 0, none, 0⟩) from (setN_lies (LiesF.mono (DR.lies HR.out) (Nat.le_refl _)) (by omega) _ _ _ _).mono (by omega))
      have q0 := HR.out.o.at 0 _ rfl
      have q1 := HR.out.o.at 1 _ rfl
      have q2 := HR.out.o.at 2 _ rfl
      have q3 := HR.out.o.at 3 _ rfl
      have y0 := HR.out.z.at 0 _ rfl
      have y1 := HR.out.z.at 1 _ rfl
      have y2 := HR.out.z.at 2 _ rfl
      have y3 := HR.out.z.at 3 _ rfl
      have z0 := HR.out.z.fz 0
      have z1 := HR.out.z.fz 1
      have z2 := HR.out.z.fz 2
      have z3 := HR.out.z.fz 3
      unfold setN at HFR HFG HFL
      go_wp2
      refine bodyPost_ret (res_c rfl _ _ (w.heap.size) 26 _ _ rfl HFR.out Try.underlying26 rfl (by kernel_rfl)) rfl ?_
      exact ⟨⟨⟨a1, c1, none, 0, none, 0⟩, by unfold nv; simp only [HLN.eq, List.length_nil], HFL.out, HFG.out.1, HFG.out.2⟩⟩
end Go.Proofs.Ytoinaplmgffkpaa
