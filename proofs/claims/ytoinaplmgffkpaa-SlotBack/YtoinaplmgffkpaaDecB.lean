/- Proved: what slot's input.branch answers (stage 11). -/
import Derived.Test.YtoinaplmgffkpaaDecR
namespace Go.Proofs.Ytoinaplmgffkpaa
open Go.RowKit
open Sl (Cel Nod)
set_option maxHeartbeats 4000000 in
set_option maxRecDepth 20000 in
theorem bn_in (g : Nat) (s : In) (w : World) (hg : Brow w g (irow s) 76) (hs : Ok8 s) :
    Calls Try.prog 79 #[.pointer (some ⟨g, 0, none⟩)] w (NdPost g w (bnV s) (bnS s)) := by
  have HN := fun (W : World) (h : Brow W g (irow s) 76) => num_in g s 1 W h hs (by omega)
  have HD := fun (W : World) (h : Brow W g (irow (cutS s 1)) 76) => num_in g (cutS s 1) 4 W h (hs.cut 1) (by omega)
  have hcl : numV s 1 < 256 := hs.num 1
  have HTI := fun (k : Nat) (W : World) (h : Brow W g (irow (brS k (cutS (cutS s 1) 4))) 76) => txt_in g (brS k (cutS (cutS s 1) 4)) W h (((hs.cut 1).cut 4).br k)
  have HNI := fun (k : Nat) (W : World) (h : Brow W g (irow (txtS (brS k (cutS (cutS s 1) 4)))) 76) => num_in g (txtS (brS k (cutS (cutS s 1) 4))) 4 W h ((((hs.cut 1).cut 4).br k).txt) (by omega)
  have HR0 := (show Hid (DR g w s false [] [] [] (.slice none 0 0) (.slice none 0 0) (.slice none 0 0) ((w.alloc (.cells #[.bool false, .slice none 0 0, .slice none 0 0, .slice none 0 0] 26)).alloc (.cells #[.bool false, .slice none 0 0, .slice none 0 0, .slice none 0 0] 26))) from ⟨(hg.alloc _).alloc _, (Brow.new w _ 26).alloc _, by
    have := Brow.new (w.alloc (.cells #[.bool false, .slice none 0 0, .slice none 0 0, .slice none 0 0] 26)) [.bool false, .slice none 0 0, .slice none 0 0, .slice none 0 0] 26
    rwa [size_alloc1] at this, own_nil _ _ _ _, own_nil _ _ _ _, own_nil _ _ _ _, ((Chg.refl g w).alloc _).alloc _, hg.lt, by rw [size_alloc1, size_alloc1]; omega, fun b hb => by cases hb⟩)
  clear hg hs
  unfold bnV bnS
  generalize numV s 1 = cnt at *
  generalize numV (cutS s 1) 4 = d0 at *
  generalize cutS (cutS s 1) 4 = s2 at *
  generalize cutS s 1 = s1 at *
  go_enter Try.func79, Try.ntmps79
  go_wp2_with fail
  refine (HN _ HR0.out.i).mono ?_
  rintro e w1 ⟨rfl, hI1, hB1⟩
  have HR1 := (show Hid (DR g w s1 false [] [] [] (.slice none 0 0) (.slice none 0 0) (.slice none 0 0) w1) from HR0.out.chg hB1 hI1)
  clear hI1 hB1 HR0 HN
  go_upto_region 3 with fail
  have HRD := (show Hid (DR g w s1 false [] [] [] (.slice none 0 0) (.slice none 0 0) (.slice none 0 0) w1.drew) from HR1.out.below (Below.refl _ _).drew)
  refine AnyL.begin (S := (fun W : World => Brow W (w.heap.size + 1) [.bool false, .slice none 0 0, .slice none 0 0, .slice none 0 0] 26)) (zs := [7]) (by kernel_rfl) ?_
  generalize w1.drew = wd at *
  refine AnyL.take 0 (some 7) (v := (.pointer (some ⟨w.heap.size + 1, 3, none⟩))) rfl rfl (by kernel_rfl) (by kernel_rfl) (by kernel_rfl) (by kernel_rfl) (by kernel_rfl) (fun _ _ _ h => h) (Or.inl ⟨by rfl, fun w hS => ?_⟩) HRD.out.o ?_
  · (go_simp)
  simp only [Act.put, List.setIfInBounds_toArray, List.set_cons_zero, List.set_cons_succ]
  refine AnyL.take 1 (some 8) (v := (.slice none 0 0)) rfl rfl (by kernel_rfl) (by kernel_rfl) (by kernel_rfl) (by kernel_rfl) (by kernel_rfl) (fun _ _ _ h => h) (Or.inl ⟨by rfl, fun w hS => ?_⟩) HRD.out.o ?_
  · (have q := hS.at 3 _ rfl; go_simp)
  simp only [Act.put, List.setIfInBounds_toArray, List.set_cons_zero, List.set_cons_succ]
  refine AnyL.take 2 (some 9) (v := (.pointer (some ⟨g, 0, none⟩))) rfl rfl (by kernel_rfl) (by kernel_rfl) (by kernel_rfl) (by kernel_rfl) (by kernel_rfl) (fun _ _ _ h => h) (Or.inl ⟨by rfl, fun w hS => ?_⟩) HRD.out.o ?_
  · (go_simp)
  simp only [Act.put, List.setIfInBounds_toArray, List.set_cons_zero, List.set_cons_succ]
  refine AnyL.one 3 (by kernel_rfl) rfl (by rfl) (fun KK hK => ?_)
  go_simp
  go_at_call 77
  refine (HD wd HRD.out.i).mono ?_
  rintro e w2 ⟨rfl, hI2, hB2⟩
  have HR2 := (show Hid (DR g w s2 false [] [] [] (.slice none 0 0) (.slice none 0 0) (.slice none 0 0) w2) from HRD.out.chg hB2 hI2)
  clear hI2 hB2 HRD HR1
  refine hK.out _ _ (fun _ => HR2.out.o) ?_
  clear hK KK
  try simp only [Act.put, List.setIfInBounds_toArray, List.set_cons_zero, List.set_cons_succ]
  have HR3 := (show Hid (DR g w s2 false [] [] [] (.slice none 0 0) (.slice none 0 0) (.slice none 0 0) (w2.alloc (.cells #[.int .i64 (d0 : Int)] 3))) from HR2.out.below (below_alloc _ _))
  refine AnyL.one 4 (by kernel_rfl) rfl (by rfl) (fun KK hK => ?_)
  go_simp
  refine hK.out _ _ (fun _ => HR3.out.o) ?_
  clear hK KK
  try simp only [Act.put, List.setIfInBounds_toArray, List.set_cons_zero, List.set_cons_succ]
  obtain ⟨v', w', hr, hO', hG'⟩ := app_kid (w2.alloc (.cells #[.int .i64 (d0 : Int)] 3)) (w.heap.size + 2) _ [] ((d0 : Int)) w2.heap.size HR3.out.r3 (by simp) HR3.out.n (Brow.new w2 _ 3)
  have HRN := (show Hid _ from HR3.out.kid hO' hG')
  have HON := (show Hid (Brow w' (w.heap.size + 1) [.bool false, .slice none 0 0, .slice none 0 0, .slice none 0 0] 26) from HR3.out.o.grew hG' (own_far HR3.out.r3 (by omega)))
  obtain ⟨ad3, cp3, hv3, _, _, _⟩ := own_rowFrom hO'
  subst hv3
  have hln : ([] ++ [(d0 : Int)]).length = 1 := rfl
  rw [hln] at hr
  have HR5 := (show Hid (DR g w s2 false [] [] ([] ++ [(d0 : Int)]) (.slice none 0 0) (.slice none 0 0) (.slice ad3 (1) cp3) (w'.setCell ⟨w.heap.size + 1, 3, none⟩ (.slice ad3 (1) cp3))) from by
    have h := HRN.out
    rw [hln] at h
    exact h)
  clear HRN hO' hG' HR3 HR2 hln
  refine AnyL.one 5 (by kernel_rfl) rfl (by rfl) (fun KK hK => ?_)
  refine step_run_append (some 12) rfl (.tmp 8) (.tmp 11) 24 rfl _ _ _ _ rfl rfl hr ?_
  refine hK.out _ _ (fun _ => HON.out) ?_
  clear hK KK hr
  try simp only [Act.put, List.setIfInBounds_toArray, List.set_cons_zero, List.set_cons_succ]
  refine AnyL.take 6 (some 13) (v := (.pointer (some ⟨w.heap.size + 1, 3, none⟩))) rfl rfl (by kernel_rfl) (by kernel_rfl) (by kernel_rfl) (by kernel_rfl) (by kernel_rfl) (fun _ _ _ h => h) (Or.inl ⟨by rfl, fun w hS => ?_⟩) HON.out ?_
  · (go_simp)
  simp only [Act.put, List.setIfInBounds_toArray, List.set_cons_zero, List.set_cons_succ]
  have p1 := HON.out.at 3 _ rfl
  have pz := HON.out.fz 3
  refine AnyL.one 7 (by kernel_rfl) rfl (by rfl) (fun KK hK => ?_)
  go_simp
  refine hK.out _ _ (fun h => absurd h (by decide)) ?_
  clear hK KK
  try simp only [Act.put, List.setIfInBounds_toArray, List.set_cons_zero, List.set_cons_succ]
  refine AnyL.done (by kernel_rfl) ?_
  clear p1 pz HON
  generalize (w'.setCell ⟨w.heap.size + 1, 3, none⟩ (.slice ad3 (1) cp3)) = w5 at *
  have HR6 := (show Hid (DR g w s2 false [] [] [(d0 : Int)] (.slice none 0 0) (.slice none 0 0) (.slice ad3 1 cp3) w5) from HR5.out)
  clear HR5 HD
  go_wp2_with fail
  go_loopw [15] (fun s15 wr => ∃ (k : Nat) (v2 v3 : Value), k ≤ cnt ∧ s15 = .int .i64 (k : Int) ∧ DR g w (brS k s2) false [] (brK k s2) ([(d0 : Int)] ++ brD k s2) (.slice none 0 0) v2 v3 wr) (fun s15 _ => cnt - (intOf s15).toNat)
  case atStart => exact ⟨0, .slice none 0 0, .slice ad3 1 cp3, by omega, rfl, HR6.out⟩
  case round =>
    obtain ⟨k, v2, v3, hk, rfl, hR⟩ := hrel
    obtain ⟨a2, c2, hv2, _, _, _⟩ := own_rowFrom hR.r2
    obtain ⟨a3, c3, hv3, _, _, _⟩ := own_rowFrom hR.r3
    subst hv2 hv3
    have HLK : Is (brK k s2).length k := ⟨brK_len s2 k⟩
    have HLD : Is ([(d0 : Int)] ++ brD k s2).length (k + 1) := ⟨by rw [List.length_append, brD_len s2 k, List.length_singleton]; omega⟩
    have HR := (show Hid (DR g w (brS k s2) false [] (brK k s2) ([(d0 : Int)] ++ brD k s2) (.slice none 0 0) (.slice a2 k c2) (.slice a3 (k + 1) c3) wr) from by
      rw [HLK.eq, HLD.eq] at hR
      exact hR)
    clear hR HR6
    by_cases hlt : k < cnt
    · have d1 : decide ((k : Int) < (cnt : Int)) = true := decide_eq_true (by omega)
      have HTK := HTI k
      have HNK := HNI k
      clear HTI HNI
      go_upto_region 6 with fail
      have HRD := (show Hid (DR g w (brS k s2) false [] (brK k s2) ([(d0 : Int)] ++ brD k s2) (.slice none 0 0) (.slice a2 k c2) (.slice a3 (k + 1) c3) wr.drew) from HR.out.below (Below.refl _ _).drew)
      refine AnyL.begin (S := (fun W : World => Brow W (w.heap.size + 1) [.bool false, .slice none 0 0, .slice a2 k c2, .slice a3 (k + 1) c3] 26)) (zs := [7]) (by kernel_rfl) ?_
      generalize wr.drew = wd at *
      refine AnyL.take 0 (some 17) (v := (.pointer (some ⟨w.heap.size + 1, 2, none⟩))) rfl rfl (by kernel_rfl) (by kernel_rfl) (by kernel_rfl) (by kernel_rfl) (by kernel_rfl) (fun _ _ _ h => h) (Or.inl ⟨by rfl, fun w hS => ?_⟩) HRD.out.o ?_
      · (go_simp)
      simp only [Act.put, List.setIfInBounds_toArray, List.set_cons_zero, List.set_cons_succ]
      refine AnyL.take 1 (some 18) (v := (.slice a2 k c2)) rfl rfl (by kernel_rfl) (by kernel_rfl) (by kernel_rfl) (by kernel_rfl) (by kernel_rfl) (fun _ _ _ h => h) (Or.inl ⟨by rfl, fun w hS => ?_⟩) HRD.out.o ?_
      · (have q := hS.at 2 _ rfl; go_simp)
      simp only [Act.put, List.setIfInBounds_toArray, List.set_cons_zero, List.set_cons_succ]
      refine AnyL.take 2 (some 19) (v := (.pointer (some ⟨g, 0, none⟩))) rfl rfl (by kernel_rfl) (by kernel_rfl) (by kernel_rfl) (by kernel_rfl) (by kernel_rfl) (fun _ _ _ h => h) (Or.inl ⟨by rfl, fun w hS => ?_⟩) HRD.out.o ?_
      · (go_simp)
      simp only [Act.put, List.setIfInBounds_toArray, List.set_cons_zero, List.set_cons_succ]
      refine AnyL.one 3 (by kernel_rfl) rfl (by rfl) (fun KK hK => ?_)
      go_simp
      go_at_call 87
      refine (HTK wd HRD.out.i).mono ?_
      rintro e w2 ⟨rfl, hI2, hB2⟩
      have HR2 := (show Hid (DR g w (txtS (brS k s2)) false [] (brK k s2) ([(d0 : Int)] ++ brD k s2) (.slice none 0 0) (.slice a2 k c2) (.slice a3 (k + 1) c3) w2) from HRD.out.chg hB2 hI2)
      clear hI2 hB2 HRD HR
      refine hK.out _ _ (fun _ => HR2.out.o) ?_
      clear hK KK
      try simp only [Act.put, List.setIfInBounds_toArray, List.set_cons_zero, List.set_cons_succ]
      have HR3 := (show Hid (DR g w (txtS (brS k s2)) false [] (brK k s2) ([(d0 : Int)] ++ brD k s2) (.slice none 0 0) (.slice a2 k c2) (.slice a3 (k + 1) c3) (w2.alloc (.cells #[.string (tb (txtV (brS k s2)))] 9))) from HR2.out.below (below_alloc _ _))
      refine AnyL.one 4 (by kernel_rfl) rfl (by rfl) (fun KK hK => ?_)
      go_simp
      refine hK.out _ _ (fun _ => HR3.out.o) ?_
      clear hK KK
      try simp only [Act.put, List.setIfInBounds_toArray, List.set_cons_zero, List.set_cons_succ]
      obtain ⟨v', w', hr, hO', hG'⟩ := app_key (w2.alloc (.cells #[.string (tb (txtV (brS k s2)))] 9)) (w.heap.size + 2) _ (brK k s2) (tb (txtV (brS k s2))) w2.heap.size HR3.out.r2 (by have := HLK.eq; omega) HR3.out.n (Brow.new w2 _ 9)
      have HRN := (show Hid _ from HR3.out.key hO' hG')
      have HON := (show Hid (Brow w' (w.heap.size + 1) [.bool false, .slice none 0 0, .slice a2 k c2, .slice a3 (k + 1) c3] 26) from HR3.out.o.grew hG' (own_far HR3.out.r2 (by omega)))
      obtain ⟨ad3, cp3, hv3, _, _, _⟩ := own_rowFrom hO'
      subst hv3
      have hln : ((brK k s2) ++ [tb (txtV (brS k s2))]).length = k + 1 := by rw [List.length_append, HLK.eq]; rfl
      rw [hln] at hr
      have HR5 := (show Hid (DR g w (txtS (brS k s2)) false [] ((brK k s2) ++ [tb (txtV (brS k s2))]) ([(d0 : Int)] ++ brD k s2) (.slice none 0 0) (.slice ad3 (k + 1) cp3) (.slice a3 (k + 1) c3) (w'.setCell ⟨w.heap.size + 1, 2, none⟩ (.slice ad3 (k + 1) cp3))) from by
        have h := HRN.out
        rw [hln] at h
        exact h)
      clear HRN hO' hG' HR3 HR2 hln
      refine AnyL.one 5 (by kernel_rfl) rfl (by rfl) (fun KK hK => ?_)
      refine step_run_append (some 22) rfl (.tmp 18) (.tmp 21) 23 rfl _ _ _ _ rfl rfl hr ?_
      refine hK.out _ _ (fun _ => HON.out) ?_
      clear hK KK hr
      try simp only [Act.put, List.setIfInBounds_toArray, List.set_cons_zero, List.set_cons_succ]
      refine AnyL.take 6 (some 23) (v := (.pointer (some ⟨w.heap.size + 1, 2, none⟩))) rfl rfl (by kernel_rfl) (by kernel_rfl) (by kernel_rfl) (by kernel_rfl) (by kernel_rfl) (fun _ _ _ h => h) (Or.inl ⟨by rfl, fun w hS => ?_⟩) HON.out ?_
      · (go_simp)
      simp only [Act.put, List.setIfInBounds_toArray, List.set_cons_zero, List.set_cons_succ]
      have p1 := HON.out.at 2 _ rfl
      have pz := HON.out.fz 2
      refine AnyL.one 7 (by kernel_rfl) rfl (by rfl) (fun KK hK => ?_)
      go_simp
      refine hK.out _ _ (fun h => absurd h (by decide)) ?_
      clear hK KK
      try simp only [Act.put, List.setIfInBounds_toArray, List.set_cons_zero, List.set_cons_succ]
      refine AnyL.done (by kernel_rfl) ?_
      clear p1 pz HON
      generalize (w'.setCell ⟨w.heap.size + 1, 2, none⟩ (.slice ad3 (k + 1) cp3)) = w5 at *
      have HRx := (show Hid (DR g w (txtS (brS k s2)) false [] (brK k s2 ++ [tb (txtV (brS k s2))]) ([(d0 : Int)] ++ brD k s2) (.slice none 0 0) (.slice ad3 (k + 1) cp3) (.slice a3 (k + 1) c3) w5) from HR5.out)
      clear HR5
      generalize w5 = w7 at *
      generalize ad3 = a4 at *
      generalize cp3 = c4 at *
      go_upto_region 7 with fail
      have HRD := (show Hid (DR g w (txtS (brS k s2)) false [] (brK k s2 ++ [tb (txtV (brS k s2))]) ([(d0 : Int)] ++ brD k s2) (.slice none 0 0) (.slice a4 (k + 1) c4) (.slice a3 (k + 1) c3) w7.drew) from HRx.out.below (Below.refl _ _).drew)
      refine AnyL.begin (S := (fun W : World => Brow W (w.heap.size + 1) [.bool false, .slice none 0 0, .slice a4 (k + 1) c4, .slice a3 (k + 1) c3] 26)) (zs := [7]) (by kernel_rfl) ?_
      generalize w7.drew = wd at *
      refine AnyL.take 0 (some 24) (v := (.pointer (some ⟨w.heap.size + 1, 3, none⟩))) rfl rfl (by kernel_rfl) (by kernel_rfl) (by kernel_rfl) (by kernel_rfl) (by kernel_rfl) (fun _ _ _ h => h) (Or.inl ⟨by rfl, fun w hS => ?_⟩) HRD.out.o ?_
      · (go_simp)
      simp only [Act.put, List.setIfInBounds_toArray, List.set_cons_zero, List.set_cons_succ]
      refine AnyL.take 1 (some 25) (v := (.slice a3 (k + 1) c3)) rfl rfl (by kernel_rfl) (by kernel_rfl) (by kernel_rfl) (by kernel_rfl) (by kernel_rfl) (fun _ _ _ h => h) (Or.inl ⟨by rfl, fun w hS => ?_⟩) HRD.out.o ?_
      · (have q := hS.at 3 _ rfl; go_simp)
      simp only [Act.put, List.setIfInBounds_toArray, List.set_cons_zero, List.set_cons_succ]
      refine AnyL.take 2 (some 26) (v := (.pointer (some ⟨g, 0, none⟩))) rfl rfl (by kernel_rfl) (by kernel_rfl) (by kernel_rfl) (by kernel_rfl) (by kernel_rfl) (fun _ _ _ h => h) (Or.inl ⟨by rfl, fun w hS => ?_⟩) HRD.out.o ?_
      · (go_simp)
      simp only [Act.put, List.setIfInBounds_toArray, List.set_cons_zero, List.set_cons_succ]
      refine AnyL.one 3 (by kernel_rfl) rfl (by rfl) (fun KK hK => ?_)
      go_simp
      go_at_call 77
      refine (HNK wd HRD.out.i).mono ?_
      rintro e w2 ⟨rfl, hI2, hB2⟩
      have HR2 := (show Hid (DR g w (cutS (txtS (brS k s2)) 4) false [] (brK k s2 ++ [tb (txtV (brS k s2))]) ([(d0 : Int)] ++ brD k s2) (.slice none 0 0) (.slice a4 (k + 1) c4) (.slice a3 (k + 1) c3) w2) from HRD.out.chg hB2 hI2)
      clear hI2 hB2 HRD HRx
      refine hK.out _ _ (fun _ => HR2.out.o) ?_
      clear hK KK
      try simp only [Act.put, List.setIfInBounds_toArray, List.set_cons_zero, List.set_cons_succ]
      have HR3 := (show Hid (DR g w (cutS (txtS (brS k s2)) 4) false [] (brK k s2 ++ [tb (txtV (brS k s2))]) ([(d0 : Int)] ++ brD k s2) (.slice none 0 0) (.slice a4 (k + 1) c4) (.slice a3 (k + 1) c3) (w2.alloc (.cells #[.int .i64 (numV (txtS (brS k s2)) 4 : Int)] 3))) from HR2.out.below (below_alloc _ _))
      refine AnyL.one 4 (by kernel_rfl) rfl (by rfl) (fun KK hK => ?_)
      go_simp
      refine hK.out _ _ (fun _ => HR3.out.o) ?_
      clear hK KK
      try simp only [Act.put, List.setIfInBounds_toArray, List.set_cons_zero, List.set_cons_succ]
      obtain ⟨v', w', hr, hO', hG'⟩ := app_kid (w2.alloc (.cells #[.int .i64 (numV (txtS (brS k s2)) 4 : Int)] 3)) (w.heap.size + 2) _ ([(d0 : Int)] ++ brD k s2) ((numV (txtS (brS k s2)) 4 : Int)) w2.heap.size HR3.out.r3 (by have := HLD.eq; omega) HR3.out.n (Brow.new w2 _ 3)
      have HRN := (show Hid _ from HR3.out.kid hO' hG')
      have HON := (show Hid (Brow w' (w.heap.size + 1) [.bool false, .slice none 0 0, .slice a4 (k + 1) c4, .slice a3 (k + 1) c3] 26) from HR3.out.o.grew hG' (own_far HR3.out.r3 (by omega)))
      obtain ⟨ad3, cp3, hv3, _, _, _⟩ := own_rowFrom hO'
      subst hv3
      have hln : (([(d0 : Int)] ++ brD k s2) ++ [(numV (txtS (brS k s2)) 4 : Int)]).length = k + 1 + 1 := by rw [List.length_append, HLD.eq]; rfl
      rw [hln] at hr
      have HR5 := (show Hid (DR g w (cutS (txtS (brS k s2)) 4) false [] (brK k s2 ++ [tb (txtV (brS k s2))]) (([(d0 : Int)] ++ brD k s2) ++ [(numV (txtS (brS k s2)) 4 : Int)]) (.slice none 0 0) (.slice a4 (k + 1) c4) (.slice ad3 (k + 1 + 1) cp3) (w'.setCell ⟨w.heap.size + 1, 3, none⟩ (.slice ad3 (k + 1 + 1) cp3))) from by
        have h := HRN.out
        rw [hln] at h
        exact h)
      clear HRN hO' hG' HR3 HR2 hln
      refine AnyL.one 5 (by kernel_rfl) rfl (by rfl) (fun KK hK => ?_)
      refine step_run_append (some 29) rfl (.tmp 25) (.tmp 28) 24 rfl _ _ _ _ rfl rfl hr ?_
      refine hK.out _ _ (fun _ => HON.out) ?_
      clear hK KK hr
      try simp only [Act.put, List.setIfInBounds_toArray, List.set_cons_zero, List.set_cons_succ]
      refine AnyL.take 6 (some 30) (v := (.pointer (some ⟨w.heap.size + 1, 3, none⟩))) rfl rfl (by kernel_rfl) (by kernel_rfl) (by kernel_rfl) (by kernel_rfl) (by kernel_rfl) (fun _ _ _ h => h) (Or.inl ⟨by rfl, fun w hS => ?_⟩) HON.out ?_
      · (go_simp)
      simp only [Act.put, List.setIfInBounds_toArray, List.set_cons_zero, List.set_cons_succ]
      have p1 := HON.out.at 3 _ rfl
      have pz := HON.out.fz 3
      refine AnyL.one 7 (by kernel_rfl) rfl (by rfl) (fun KK hK => ?_)
      go_simp
      refine hK.out _ _ (fun h => absurd h (by decide)) ?_
      clear hK KK
      try simp only [Act.put, List.setIfInBounds_toArray, List.set_cons_zero, List.set_cons_succ]
      refine AnyL.done (by kernel_rfl) ?_
      clear p1 pz HON
      generalize (w'.setCell ⟨w.heap.size + 1, 3, none⟩ (.slice ad3 (k + 1 + 1) cp3)) = w5 at *
      have HREL := (show Hid (∃ (k' : Nat) (v2 v3 : Value), k' ≤ cnt ∧ Value.int .i64 ((k : Int) + 1) = .int .i64 (k' : Int) ∧ DR g w (brS k' s2) false [] (brK k' s2) ([(d0 : Int)] ++ brD k' s2) (.slice none 0 0) v2 v3 w5) from ⟨k + 1, _, _, by omega, by go_num, by
        have h := HR5.out
        rw [List.append_assoc] at h
        exact h⟩)
      clear HR5
      go_wp2_with fail
      go_roundw
      case rel => first | exact HREL.out | (obtain ⟨k', v', v'', h1, h2, h3⟩ := HREL.out; exact ⟨k', v', v'', h1, h2, h3⟩)
      case measure => (simp [intOf]) <;> omega
    · have hkl : ¬ (k : Int) < (cnt : Int) := by omega
      obtain rfl : k = cnt := by omega
      have HFR := (show Hid (Brow (setN wr w.heap.size (.bool false) (.slice none 0 0) (.slice a2 k c2) (.slice a3 (k + 1) c3)) w.heap.size [.bool false, .slice none 0 0, .slice a2 k c2, .slice a3 (k + 1) c3] 26) from setN_row HR.out.z _ _ _ _)
      have HFG := (show Hid (Brow (setN wr w.heap.size (.bool false) (.slice none 0 0) (.slice a2 k c2) (.slice a3 (k + 1) c3)) g (irow (brS k s2)) 76 ∧ Chg g w (setN wr w.heap.size (.bool false) (.slice none 0 0) (.slice a2 k c2) (.slice a3 (k + 1) c3))) from ⟨setN_far HR.out.i (by have := HR.out.h; omega) _ _ _ _, ((((HR.out.c.setNew (Nat.le_refl _) 0 _).setNew (Nat.le_refl _) 1 _).setNew (Nat.le_refl _) 2 _).setNew (Nat.le_refl _) 3 _)⟩)
      have HFL := (show Hid (LiesF (setN wr w.heap.size (.bool false) (.slice none 0 0) (.slice a2 k c2) (.slice a3 (k + 1) c3)) w.heap.size ⟨false, [], brK k s2, [(d0 : Int)] ++ brD k s2⟩ ⟨none, 0, a2, c2, a3, c3⟩) from (setN_lies (LiesF.mono (DR.lies HR.out) (Nat.le_refl _)) (by omega) _ _ _ _).mono (by omega))
      have q0 := HR.out.o.at 0 _ rfl
      have q1 := HR.out.o.at 1 _ rfl
      have q2 := HR.out.o.at 2 _ rfl
      have q3 := HR.out.o.at 3 _ rfl
      have y0 := HR.out.z.at 0 _ rfl
      have y1 := HR.out.z.at 1 _ rfl
      have y2 := HR.out.z.at 2 _ rfl
      have y3 := HR.out.z.at 3 _ rfl
      have z0 := HR.out.z.fz 0
      have z1 := HR.out.z.fz 1
      have z2 := HR.out.z.fz 2
      have z3 := HR.out.z.fz 3
      unfold setN at HFR HFG HFL
      go_wp2
      refine bodyPost_ret (res_c rfl _ _ (w.heap.size) 26 _ _ rfl HFR.out Try.underlying26 rfl (by kernel_rfl)) rfl ?_
      exact ⟨⟨⟨none, 0, a2, c2, a3, c3⟩, by unfold nv; simp only [HLK.eq, List.length_cons, brD_len, List.length_nil]; try rfl, HFL.out, HFG.out.1, HFG.out.2⟩⟩
end Go.Proofs.Ytoinaplmgffkpaa
