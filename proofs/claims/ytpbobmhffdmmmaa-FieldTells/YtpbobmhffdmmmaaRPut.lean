/- Proved: the document's Put puts a field ahead of the first one whose tag is above its own. -/
import Derived.Test.YtpbobmhffdmmmaaPut
import Derived.Test.YtpbobmhffdmmmaaRDec
namespace Go.Proofs.Ytpbobmhffdmmmaa
open Go.RowKit
set_option maxHeartbeats 2000000 in
set_option maxRecDepth 20000 in
theorem rput_any (a : Option Addr) (len cap : Nat) (f : Fv) (fs : List Fv) (w : World) (hF : FieldsL w a len fs) (hlen : len ≤ 30000) : Calls Try.prog 24 #[.slice a len cap, fv f] w fun e w' => ∃ v, e = .returned v ∧ w'.ownsRow w.heap.size 38 4 v (len + 1) ((putV fs f).flatMap fcells) ∧ Below w.heap.size w w' := by
  have HF : Hid (FieldsL w a len fs) := hF
  clear hF
  go_enter Try.func24, Try.ntmps24
  go_wp2_with fail
  go_loopw [5, 6, 7] (fun s5 s6 s7 wr => ∃ (k : Nat) (p : Bool) (ac : List Fv), k ≤ len ∧ s7 = .int .i64 k ∧ s6 = .bool p ∧ ac.length ≤ k + 1 ∧ wr.ownsRow (w.heap.size + 1) 38 4 s5 ac.length (ac.flatMap fcells) ∧ Below (w.heap.size + 1) (boxed w f) wr ∧ (p = true → ac ++ fs.drop k = putV fs f) ∧ (p = false → ac = fs.take k ∧ ∀ x ∈ fs.take k, ¬ f.tag < x.tag)) (fun _ _ s7 _ => len - (intOf s7).toNat)
  case atStart => exact ⟨0, false, [], by omega, rfl, rfl, by simp, ⟨rfl, .inl ⟨rfl, rfl⟩⟩, Below.refl _ _, fun h => (by cases h), fun _ => ⟨by simp, by simp⟩⟩
  case round =>
    obtain ⟨k, p, acc, hk, rfl, rfl, hacc, hO, hB, hpl, hnp⟩ := hrel
    have HB : Hid (Below (w.heap.size + 1) (boxed w f) wr) := hB
    have HO : Hid (wr.ownsRow (w.heap.size + 1) 38 4 _ acc.length (acc.flatMap fcells)) := hO
    have hsz : w.heap.size + 1 ≤ wr.heap.size := by have := hB.size; rw [size_alloc1] at this; exact this
    have HFB : Hid (FieldAt wr w.heap.size 0 f) := (box_at w f).below hB (by omega)
    have HBW : Hid (Below w.heap.size w wr) := ((Below.refl _ w).alloc (Nat.le_refl _) _).trans (hB.mono (by omega))
    clear hO hB

    by_cases hlt : k < len
    · have i0 : decide ((k : Int) < (len : Int)) = true := by simp; omega
      have j0 : (0 : Int) ≤ (k : Int) := Int.natCast_nonneg _
      have hkl : k < fs.length := by rw [HF.out.1]; exact hlt
      obtain ⟨b, off, rfl, hc⟩ : ∃ b off, a = some ⟨b, off, none⟩ ∧ ∀ i, i < len → FieldAt w b (off + i * 4) (fs.getD i fv0) := by
        rcases HF.out.2.2 with h | h
        · omega
        · exact h
      have hbl : b < w.heap.size := block_lt_of_cell (hc k hlt).tag
      have HG : Hid (FieldAt wr b (off + k * 4) (fs.getD k fv0)) := (hc k hlt).below HBW.out hbl
      have HTS : Is (fs.take (k + 1)) (fs.take k ++ [fs.getD k fv0]) := ⟨by rw [List.take_succ_eq_append_getElem hkl, List.getD_eq_getElem?_getD, List.getElem?_eq_getElem hkl]; rfl⟩
      have HNX : Is (fs.drop k) (fs.getD k fv0 :: fs.drop (k + 1)) := ⟨drop_getD fs k hkl⟩
      clear hc
      generalize hgd : fs.getD k fv0 = g at *
      clear hgd
      have HS : Hid ((fun W : World => FieldAt W w.heap.size 0 f ∧ FieldAt W b (off + k * 4) g) wr.drew) := ⟨HFB.out.drew, HG.out.drew⟩
      cases p with
      | true =>
        have HPL : Hid (acc ++ fs.drop k = putV fs f) := hpl rfl
        have HNP : True := trivial
        clear hpl hnp
        go_upto_region 6 with fail
        refine wp_region_held_drew (S := (fun W : World => FieldAt W w.heap.size 0 f ∧ FieldAt W b (off + k * 4) g)) (by kernel_rfl) HS.out (fun _ => ?_)
        refine heldTake 0 (some 14) (.bool true) rfl rfl (by kernel_rfl) (by kernel_rfl) (by kernel_rfl) (fun _ _ _ h => h) (Or.inl ⟨by rfl, fun w hS => ?_⟩) HS.out ?_
        · (go_simp)
        simp only [Act.put, List.setIfInBounds_toArray, List.set_cons_zero, List.set_cons_succ]
        refine heldTake 1 (some 15) (.bool false) rfl rfl (by kernel_rfl) (by kernel_rfl) (by kernel_rfl) (fun _ _ _ h => h) (Or.inl ⟨by rfl, fun w hS => ?_⟩) HS.out ?_
        · (go_simp)
        simp only [Act.put, List.setIfInBounds_toArray, List.set_cons_zero, List.set_cons_succ]
        refine heldTake 2 (some 16) (.bool false) rfl rfl (by kernel_rfl) (by kernel_rfl) (by kernel_rfl) (fun _ _ _ h => h) (Or.inl ⟨by rfl, fun w hS => ?_⟩) HS.out ?_
        · (go_simp)
        simp only [Act.put, List.setIfInBounds_toArray, List.set_cons_zero, List.set_cons_succ]
        refine heldTake 3 (some 17) (undef) rfl rfl (by kernel_rfl) (by kernel_rfl) (by kernel_rfl) (fun _ _ _ h => h) (Or.inr ⟨by rfl, rfl⟩) HS.out ?_
        simp only [Act.put, List.setIfInBounds_toArray, List.set_cons_zero, List.set_cons_succ]
        refine heldTake 4 (some 18) (undef) rfl rfl (by kernel_rfl) (by kernel_rfl) (by kernel_rfl) (fun _ _ _ h => h) (Or.inr ⟨by rfl, rfl⟩) HS.out ?_
        simp only [Act.put, List.setIfInBounds_toArray, List.set_cons_zero, List.set_cons_succ]
        refine heldTake 5 (some 19) (undef) rfl rfl (by kernel_rfl) (by kernel_rfl) (by kernel_rfl) (fun _ _ _ h => h) (Or.inr ⟨by rfl, rfl⟩) HS.out ?_
        simp only [Act.put, List.setIfInBounds_toArray, List.set_cons_zero, List.set_cons_succ]
        refine heldTake 6 (some 20) (undef) rfl rfl (by kernel_rfl) (by kernel_rfl) (by kernel_rfl) (fun _ _ _ h => h) (Or.inr ⟨by rfl, rfl⟩) HS.out ?_
        simp only [Act.put, List.setIfInBounds_toArray, List.set_cons_zero, List.set_cons_succ]
        refine heldTake 7 (some 21) (undef) rfl rfl (by kernel_rfl) (by kernel_rfl) (by kernel_rfl) (fun _ _ _ h => h) (Or.inr ⟨by rfl, rfl⟩) HS.out ?_
        simp only [Act.put, List.setIfInBounds_toArray, List.set_cons_zero, List.set_cons_succ]
        refine heldTake 8 (some 22) (undef) rfl rfl (by kernel_rfl) (by kernel_rfl) (by kernel_rfl) (fun _ _ _ h => h) (Or.inr ⟨by rfl, rfl⟩) HS.out ?_
        simp only [Act.put, List.setIfInBounds_toArray, List.set_cons_zero, List.set_cons_succ]
        refine heldTake 9 (some 23) (undef) rfl rfl (by kernel_rfl) (by kernel_rfl) (by kernel_rfl) (fun _ _ _ h => h) (Or.inr ⟨by rfl, rfl⟩) HS.out ?_
        simp only [Act.put, List.setIfInBounds_toArray, List.set_cons_zero, List.set_cons_succ]
        refine heldTake 10 (some 24) (undef) rfl rfl (by kernel_rfl) (by kernel_rfl) (by kernel_rfl) (fun _ _ _ h => h) (Or.inr ⟨by rfl, rfl⟩) HS.out ?_
        simp only [Act.put, List.setIfInBounds_toArray, List.set_cons_zero, List.set_cons_succ]
        refine heldTake 11 (some 25) (.bool false) rfl rfl (by kernel_rfl) (by kernel_rfl) (by kernel_rfl) (fun _ _ _ h => h) (Or.inl ⟨by rfl, fun w hS => ?_⟩) HS.out ?_
        · (go_simp)
        simp only [Act.put, List.setIfInBounds_toArray, List.set_cons_zero, List.set_cons_succ]
        refine wpAnyH_done (by kernel_rfl) ?_ _
        have HBD : Hid (Below (w.heap.size + 1) (boxed w f) wr.drew) := HB.out.drew
        have HOD : Hid (wr.drew.ownsRow (w.heap.size + 1) 38 4 u5 acc.length (acc.flatMap fcells)) := owns_below38 HO.out (Below.refl _ _).drew
        have hsD : w.heap.size + 1 ≤ wr.drew.heap.size := hsz
        obtain ⟨HFD, HGD⟩ := HS.out
        obtain ⟨c0, c1, c2, c3⟩ := HGD
        obtain ⟨d0, d1, d2, d3⟩ := HFD
        simp only [Nat.zero_add] at d0 d1 d2 d3
        have HGW : Hid (FieldAt wr.drew b (off + k * 4) g) := ⟨c0, c1, c2, c3⟩
        generalize wr.drew = w5 at *
        clear HB HO HFB HBW HG HS
        have i5 : (k : Int) < (len : Int) := by omega
        have HFIN : Is (acc ++ [g] ++ fs.drop (k + 1)) (putV fs f) := ⟨by rw [← HPL.out, HNX.eq]; simp⟩
        clear HPL HNP
        go_wp2_with (first | (refine append_field rfl (.tmp 30) (.tmp 35) rfl _ (w.heap.size + 1) _ (acc.length) (acc) rfl (owns_alloc HOD.out _) ⟨w5.heap.size, 0, none⟩ 1 g rfl (field_new w5 g) (by omega) (by simp; omega) ?_; intro v7 w7 hO1 hB1; have HOw7 := (show Hid (w7.ownsRow (w.heap.size + 1) 38 4 v7 (acc.length + 1) _) from hO1); have HLw7 : Hid (Below (w.heap.size + 1) w5 w7) := (((Below.refl _ w5).alloc (Nat.le_refl _) _).mono (by omega)).trans hB1; have hsw7 : w.heap.size + 1 ≤ w7.heap.size := Nat.le_trans (by omega) HLw7.out.size; clear hO1 hB1))
        have HREL : ∃ (k' : Nat) (p : Bool) (ac : List Fv), k' ≤ len ∧ Value.int .i64 ((k : Int) + 1) = .int .i64 k' ∧ Value.bool true = .bool p ∧ ac.length ≤ k' + 1 ∧ w7.ownsRow (w.heap.size + 1) 38 4 v7 ac.length (ac.flatMap fcells) ∧ Below (w.heap.size + 1) (boxed w f) w7 ∧ (p = true → ac ++ fs.drop k' = putV fs f) ∧ (p = false → ac = fs.take k' ∧ ∀ x ∈ fs.take k', ¬ f.tag < x.tag) := ⟨k + 1, true, acc ++ [g], by omega, by go_num, rfl, by simp; omega, by have h := HOw7.out; rw [show (acc ++ [g]).length = acc.length + 1 by simp]; exact h, HBD.out.trans HLw7.out, fun _ => HFIN.eq, fun h => by cases h⟩
        clear HOw7 HLw7 c0 c1 c2 c3 d0 d1 d2 d3
        clear HFIN HNX HTS HOD HBD HGW
        go_wp2_with fail
        go_roundw
        case rel => first | exact HREL | ((repeat apply Exists.intro); exact ⟨HREL, rfl⟩)
        case measure => (simp [intOf]) <;> omega
      | false =>
        have HNP : Hid (acc = fs.take k ∧ ∀ x ∈ fs.take k, ¬ f.tag < x.tag) := hnp rfl
        have HPL : True := trivial
        clear hpl hnp
        by_cases hgt : f.tag < g.tag
        · have d1 : decide (f.tag < g.tag) = true := by simp; omega
          have d1' : decide (g.tag > f.tag) = true := by simp; omega
          go_upto_region 6 with fail
          refine wp_region_held_drew (S := (fun W : World => FieldAt W w.heap.size 0 f ∧ FieldAt W b (off + k * 4) g)) (by kernel_rfl) HS.out (fun _ => ?_)
          refine heldTake 0 (some 14) (.bool false) rfl rfl (by kernel_rfl) (by kernel_rfl) (by kernel_rfl) (fun _ _ _ h => h) (Or.inl ⟨by rfl, fun w hS => ?_⟩) HS.out ?_
          · (go_simp)
          simp only [Act.put, List.setIfInBounds_toArray, List.set_cons_zero, List.set_cons_succ]
          refine heldTake 1 (some 15) (.bool true) rfl rfl (by kernel_rfl) (by kernel_rfl) (by kernel_rfl) (fun _ _ _ h => h) (Or.inl ⟨by rfl, fun w hS => ?_⟩) HS.out ?_
          · (go_simp)
          simp only [Act.put, List.setIfInBounds_toArray, List.set_cons_zero, List.set_cons_succ]
          refine heldTake 2 (some 16) (.bool true) rfl rfl (by kernel_rfl) (by kernel_rfl) (by kernel_rfl) (fun _ _ _ h => h) (Or.inl ⟨by rfl, fun w hS => ?_⟩) HS.out ?_
          · (go_simp)
          simp only [Act.put, List.setIfInBounds_toArray, List.set_cons_zero, List.set_cons_succ]
          refine heldTake 3 (some 17) (.slice (some ⟨b, off, none⟩) len cap) rfl rfl (by kernel_rfl) (by kernel_rfl) (by kernel_rfl) (fun _ _ _ h => h) (Or.inl ⟨by rfl, fun w hS => ?_⟩) HS.out ?_
          · (go_simp)
          simp only [Act.put, List.setIfInBounds_toArray, List.set_cons_zero, List.set_cons_succ]
          refine heldTake 4 (some 18) (.int .i64 (k : Int)) rfl rfl (by kernel_rfl) (by kernel_rfl) (by kernel_rfl) (fun _ _ _ h => h) (Or.inl ⟨by rfl, fun w hS => ?_⟩) HS.out ?_
          · (go_simp)
          simp only [Act.put, List.setIfInBounds_toArray, List.set_cons_zero, List.set_cons_succ]
          refine heldTake 5 (some 19) (.pointer (some ⟨b, off + k * 4, none⟩)) rfl rfl (by kernel_rfl) (by kernel_rfl) (by kernel_rfl) (fun _ _ _ h => h) (Or.inl ⟨by rfl, fun w hS => ?_⟩) HS.out ?_
          · ((have h5 : (k : Int) < (len : Int) := by omega); go_simp)
          simp only [Act.put, List.setIfInBounds_toArray, List.set_cons_zero, List.set_cons_succ]
          refine heldTake 6 (some 20) (.pointer (some ⟨b, off + k * 4, none⟩)) rfl rfl (by kernel_rfl) (by kernel_rfl) (by kernel_rfl) (fun _ _ _ h => h) (Or.inl ⟨by rfl, fun w hS => ?_⟩) HS.out ?_
          · (go_simp)
          simp only [Act.put, List.setIfInBounds_toArray, List.set_cons_zero, List.set_cons_succ]
          refine heldTake 7 (some 21) (.int .i64 g.tag) rfl rfl (by kernel_rfl) (by kernel_rfl) (by kernel_rfl) (fun _ _ _ h => h) (Or.inl ⟨by rfl, fun w hS => ?_⟩) HS.out ?_
          · (have c := hS.2.tag; go_simp)
          simp only [Act.put, List.setIfInBounds_toArray, List.set_cons_zero, List.set_cons_succ]
          refine heldTake 8 (some 22) (.pointer (some ⟨w.heap.size, 0, none⟩)) rfl rfl (by kernel_rfl) (by kernel_rfl) (by kernel_rfl) (fun _ _ _ h => h) (Or.inl ⟨by rfl, fun w hS => ?_⟩) HS.out ?_
          · (go_simp)
          simp only [Act.put, List.setIfInBounds_toArray, List.set_cons_zero, List.set_cons_succ]
          refine heldTake 9 (some 23) (.int .i64 f.tag) rfl rfl (by kernel_rfl) (by kernel_rfl) (by kernel_rfl) (fun _ _ _ h => h) (Or.inl ⟨by rfl, fun w hS => ?_⟩) HS.out ?_
          · (have c := hS.1.tag; go_simp)
          simp only [Act.put, List.setIfInBounds_toArray, List.set_cons_zero, List.set_cons_succ]
          refine heldTake 10 (some 24) (.bool true) rfl rfl (by kernel_rfl) (by kernel_rfl) (by kernel_rfl) (fun _ _ _ h => h) (Or.inl ⟨by rfl, fun w hS => ?_⟩) HS.out ?_
          · (go_simp)
          simp only [Act.put, List.setIfInBounds_toArray, List.set_cons_zero, List.set_cons_succ]
          refine heldTake 11 (some 25) (.bool true) rfl rfl (by kernel_rfl) (by kernel_rfl) (by kernel_rfl) (fun _ _ _ h => h) (Or.inl ⟨by rfl, fun w hS => ?_⟩) HS.out ?_
          · (go_simp)
          simp only [Act.put, List.setIfInBounds_toArray, List.set_cons_zero, List.set_cons_succ]
          refine wpAnyH_done (by kernel_rfl) ?_ _
          have HBD : Hid (Below (w.heap.size + 1) (boxed w f) wr.drew) := HB.out.drew
          have HOD : Hid (wr.drew.ownsRow (w.heap.size + 1) 38 4 u5 acc.length (acc.flatMap fcells)) := owns_below38 HO.out (Below.refl _ _).drew
          have hsD : w.heap.size + 1 ≤ wr.drew.heap.size := hsz
          obtain ⟨HFD, HGD⟩ := HS.out
          obtain ⟨c0, c1, c2, c3⟩ := HGD
          obtain ⟨d0, d1, d2, d3⟩ := HFD
          simp only [Nat.zero_add] at d0 d1 d2 d3
          have HGW : Hid (FieldAt wr.drew b (off + k * 4) g) := ⟨c0, c1, c2, c3⟩
          generalize wr.drew = w5 at *
          clear HB HO HFB HBW HG HS
          have i5 : (k : Int) < (len : Int) := by omega
          have HFIN : Is (acc ++ [f] ++ [g] ++ fs.drop (k + 1)) (putV fs f) := ⟨by rw [HNP.out.1, putV_at fs f k HNP.out.2 (fun x hx => by rw [HNX.eq] at hx; cases hx; exact hgt), HNX.eq]; simp⟩
          have hal : acc.length = k := by rw [HNP.out.1, List.length_take, HF.out.1]; omega
          clear HNP HPL
          go_wp2_with (first | (refine append_field rfl (.tmp 26) (.tmp 28) rfl _ (w.heap.size + 1) _ (acc.length) (acc) rfl (owns_alloc HOD.out _) ⟨w5.heap.size, 0, none⟩ 1 f rfl (field_new w5 f) (by omega) (by simp; omega) ?_; intro v6 w6 hO1 hB1; have HOw6 := (show Hid (w6.ownsRow (w.heap.size + 1) 38 4 v6 (acc.length + 1) _) from hO1); have HLw6 : Hid (Below (w.heap.size + 1) w5 w6) := (((Below.refl _ w5).alloc (Nat.le_refl _) _).mono (by omega)).trans hB1; have hsw6 : w.heap.size + 1 ≤ w6.heap.size := Nat.le_trans (by omega) HLw6.out.size; clear hO1 hB1; obtain ⟨e0, e1, e2, e3⟩ := HGW.out.below HLw6.out (by omega); clear c0 c1 c2 c3 d0 d1 d2 d3) | (refine append_field rfl (.tmp 30) (.tmp 35) rfl _ (w.heap.size + 1) _ (acc.length + 1) (acc ++ [f]) rfl (owns_alloc HOw6.out _) ⟨w6.heap.size, 0, none⟩ 1 g rfl (field_new w6 g) (by omega) (by simp; omega) ?_; intro v7 w7 hO1 hB1; have HOw7 := (show Hid (w7.ownsRow (w.heap.size + 1) 38 4 v7 (acc.length + 1 + 1) _) from hO1); have HLw7 : Hid (Below (w.heap.size + 1) w6 w7) := (((Below.refl _ w6).alloc (Nat.le_refl _) _).mono (by omega)).trans hB1; have hsw7 : w.heap.size + 1 ≤ w7.heap.size := Nat.le_trans (by omega) HLw7.out.size; clear hO1 hB1))
          have HREL : ∃ (k' : Nat) (p : Bool) (ac : List Fv), k' ≤ len ∧ Value.int .i64 ((k : Int) + 1) = .int .i64 k' ∧ Value.bool true = .bool p ∧ ac.length ≤ k' + 1 ∧ w7.ownsRow (w.heap.size + 1) 38 4 v7 ac.length (ac.flatMap fcells) ∧ Below (w.heap.size + 1) (boxed w f) w7 ∧ (p = true → ac ++ fs.drop k' = putV fs f) ∧ (p = false → ac = fs.take k' ∧ ∀ x ∈ fs.take k', ¬ f.tag < x.tag) := ⟨k + 1, true, acc ++ [f] ++ [g], by omega, by go_num, rfl, by simp; omega, by have h := HOw7.out; rw [show (acc ++ [f] ++ [g]).length = acc.length + 1 + 1 by simp]; exact h, HBD.out.trans (HLw6.out.trans HLw7.out), fun _ => HFIN.eq, fun h => by cases h⟩
          clear HOw6 HOw7 HLw6 HLw7 e0 e1 e2 e3
          clear HFIN HNX HTS HOD HBD HGW
          go_wp2_with fail
          go_roundw
          case rel => first | exact HREL | ((repeat apply Exists.intro); exact ⟨HREL, rfl⟩)
          case measure => (simp [intOf]) <;> omega
        · have d1 : decide (f.tag < g.tag) = false := by simp; omega
          have d1' : decide (g.tag > f.tag) = false := by simp; omega
          go_upto_region 6 with fail
          refine wp_region_held_drew (S := (fun W : World => FieldAt W w.heap.size 0 f ∧ FieldAt W b (off + k * 4) g)) (by kernel_rfl) HS.out (fun _ => ?_)
          refine heldTake 0 (some 14) (.bool false) rfl rfl (by kernel_rfl) (by kernel_rfl) (by kernel_rfl) (fun _ _ _ h => h) (Or.inl ⟨by rfl, fun w hS => ?_⟩) HS.out ?_
          · (go_simp)
          simp only [Act.put, List.setIfInBounds_toArray, List.set_cons_zero, List.set_cons_succ]
          refine heldTake 1 (some 15) (.bool true) rfl rfl (by kernel_rfl) (by kernel_rfl) (by kernel_rfl) (fun _ _ _ h => h) (Or.inl ⟨by rfl, fun w hS => ?_⟩) HS.out ?_
          · (go_simp)
          simp only [Act.put, List.setIfInBounds_toArray, List.set_cons_zero, List.set_cons_succ]
          refine heldTake 2 (some 16) (.bool true) rfl rfl (by kernel_rfl) (by kernel_rfl) (by kernel_rfl) (fun _ _ _ h => h) (Or.inl ⟨by rfl, fun w hS => ?_⟩) HS.out ?_
          · (go_simp)
          simp only [Act.put, List.setIfInBounds_toArray, List.set_cons_zero, List.set_cons_succ]
          refine heldTake 3 (some 17) (.slice (some ⟨b, off, none⟩) len cap) rfl rfl (by kernel_rfl) (by kernel_rfl) (by kernel_rfl) (fun _ _ _ h => h) (Or.inl ⟨by rfl, fun w hS => ?_⟩) HS.out ?_
          · (go_simp)
          simp only [Act.put, List.setIfInBounds_toArray, List.set_cons_zero, List.set_cons_succ]
          refine heldTake 4 (some 18) (.int .i64 (k : Int)) rfl rfl (by kernel_rfl) (by kernel_rfl) (by kernel_rfl) (fun _ _ _ h => h) (Or.inl ⟨by rfl, fun w hS => ?_⟩) HS.out ?_
          · (go_simp)
          simp only [Act.put, List.setIfInBounds_toArray, List.set_cons_zero, List.set_cons_succ]
          refine heldTake 5 (some 19) (.pointer (some ⟨b, off + k * 4, none⟩)) rfl rfl (by kernel_rfl) (by kernel_rfl) (by kernel_rfl) (fun _ _ _ h => h) (Or.inl ⟨by rfl, fun w hS => ?_⟩) HS.out ?_
          · ((have h5 : (k : Int) < (len : Int) := by omega); go_simp)
          simp only [Act.put, List.setIfInBounds_toArray, List.set_cons_zero, List.set_cons_succ]
          refine heldTake 6 (some 20) (.pointer (some ⟨b, off + k * 4, none⟩)) rfl rfl (by kernel_rfl) (by kernel_rfl) (by kernel_rfl) (fun _ _ _ h => h) (Or.inl ⟨by rfl, fun w hS => ?_⟩) HS.out ?_
          · (go_simp)
          simp only [Act.put, List.setIfInBounds_toArray, List.set_cons_zero, List.set_cons_succ]
          refine heldTake 7 (some 21) (.int .i64 g.tag) rfl rfl (by kernel_rfl) (by kernel_rfl) (by kernel_rfl) (fun _ _ _ h => h) (Or.inl ⟨by rfl, fun w hS => ?_⟩) HS.out ?_
          · (have c := hS.2.tag; go_simp)
          simp only [Act.put, List.setIfInBounds_toArray, List.set_cons_zero, List.set_cons_succ]
          refine heldTake 8 (some 22) (.pointer (some ⟨w.heap.size, 0, none⟩)) rfl rfl (by kernel_rfl) (by kernel_rfl) (by kernel_rfl) (fun _ _ _ h => h) (Or.inl ⟨by rfl, fun w hS => ?_⟩) HS.out ?_
          · (go_simp)
          simp only [Act.put, List.setIfInBounds_toArray, List.set_cons_zero, List.set_cons_succ]
          refine heldTake 9 (some 23) (.int .i64 f.tag) rfl rfl (by kernel_rfl) (by kernel_rfl) (by kernel_rfl) (fun _ _ _ h => h) (Or.inl ⟨by rfl, fun w hS => ?_⟩) HS.out ?_
          · (have c := hS.1.tag; go_simp)
          simp only [Act.put, List.setIfInBounds_toArray, List.set_cons_zero, List.set_cons_succ]
          refine heldTake 10 (some 24) (.bool false) rfl rfl (by kernel_rfl) (by kernel_rfl) (by kernel_rfl) (fun _ _ _ h => h) (Or.inl ⟨by rfl, fun w hS => ?_⟩) HS.out ?_
          · (go_simp)
          simp only [Act.put, List.setIfInBounds_toArray, List.set_cons_zero, List.set_cons_succ]
          refine heldTake 11 (some 25) (.bool false) rfl rfl (by kernel_rfl) (by kernel_rfl) (by kernel_rfl) (fun _ _ _ h => h) (Or.inl ⟨by rfl, fun w hS => ?_⟩) HS.out ?_
          · (go_simp)
          simp only [Act.put, List.setIfInBounds_toArray, List.set_cons_zero, List.set_cons_succ]
          refine wpAnyH_done (by kernel_rfl) ?_ _
          have HBD : Hid (Below (w.heap.size + 1) (boxed w f) wr.drew) := HB.out.drew
          have HOD : Hid (wr.drew.ownsRow (w.heap.size + 1) 38 4 u5 acc.length (acc.flatMap fcells)) := owns_below38 HO.out (Below.refl _ _).drew
          have hsD : w.heap.size + 1 ≤ wr.drew.heap.size := hsz
          obtain ⟨HFD, HGD⟩ := HS.out
          obtain ⟨c0, c1, c2, c3⟩ := HGD
          obtain ⟨d0, d1, d2, d3⟩ := HFD
          simp only [Nat.zero_add] at d0 d1 d2 d3
          have HGW : Hid (FieldAt wr.drew b (off + k * 4) g) := ⟨c0, c1, c2, c3⟩
          generalize wr.drew = w5 at *
          clear HB HO HFB HBW HG HS
          have i5 : (k : Int) < (len : Int) := by omega
          have HFIN : Hid (acc ++ [g] = fs.take (k + 1) ∧ ∀ x ∈ fs.take (k + 1), ¬ f.tag < x.tag) := ⟨by rw [HNP.out.1, HTS.eq], fun x hx => by rw [HTS.eq] at hx; rcases List.mem_append.1 hx with hx | hx; exact HNP.out.2 x hx; rw [List.mem_singleton.1 hx]; exact hgt⟩
          clear HPL HNP
          go_wp2_with (first | (refine append_field rfl (.tmp 30) (.tmp 35) rfl _ (w.heap.size + 1) _ (acc.length) (acc) rfl (owns_alloc HOD.out _) ⟨w5.heap.size, 0, none⟩ 1 g rfl (field_new w5 g) (by omega) (by simp; omega) ?_; intro v7 w7 hO1 hB1; have HOw7 := (show Hid (w7.ownsRow (w.heap.size + 1) 38 4 v7 (acc.length + 1) _) from hO1); have HLw7 : Hid (Below (w.heap.size + 1) w5 w7) := (((Below.refl _ w5).alloc (Nat.le_refl _) _).mono (by omega)).trans hB1; have hsw7 : w.heap.size + 1 ≤ w7.heap.size := Nat.le_trans (by omega) HLw7.out.size; clear hO1 hB1))
          have HREL : ∃ (k' : Nat) (p : Bool) (ac : List Fv), k' ≤ len ∧ Value.int .i64 ((k : Int) + 1) = .int .i64 k' ∧ Value.bool false = .bool p ∧ ac.length ≤ k' + 1 ∧ w7.ownsRow (w.heap.size + 1) 38 4 v7 ac.length (ac.flatMap fcells) ∧ Below (w.heap.size + 1) (boxed w f) w7 ∧ (p = true → ac ++ fs.drop k' = putV fs f) ∧ (p = false → ac = fs.take k' ∧ ∀ x ∈ fs.take k', ¬ f.tag < x.tag) := ⟨k + 1, false, acc ++ [g], by omega, by go_num, rfl, by simp; omega, by have h := HOw7.out; rw [show (acc ++ [g]).length = acc.length + 1 by simp]; exact h, HBD.out.trans HLw7.out, fun h => (by cases h), fun _ => HFIN.out⟩
          clear HOw7 HLw7 c0 c1 c2 c3 d0 d1 d2 d3
          clear HFIN HNX HTS HOD HBD HGW
          go_wp2_with fail
          go_roundw
          case rel => first | exact HREL | ((repeat apply Exists.intro); exact ⟨HREL, rfl⟩)
          case measure => (simp [intOf]) <;> omega
    · have i0 : decide ((k : Int) < (len : Int)) = false := by simp; omega
      have hkl : fs.drop k = [] := List.drop_eq_nil_of_le (by rw [HF.out.1]; omega)
      cases p with
      | true =>
        have HE : Is acc (putV fs f) := ⟨by have h := hpl rfl; rwa [hkl, List.append_nil] at h⟩
        have hal : acc.length = len + 1 := by rw [HE.eq, putV_length, HF.out.1]
        have HFN : ∃ v, Ending.returned u5 = .returned v ∧ wr.ownsRow w.heap.size 38 4 v (len + 1) ((putV fs f).flatMap fcells) ∧ Below w.heap.size w wr := ⟨_, rfl, by have h := owns_base HO.out (show w.heap.size ≤ w.heap.size + 1 by omega); rw [hal, HE.eq] at h; exact h, HBW.out⟩
        clear hpl hnp hkl hal HE HO
        go_wp2_with fail
        go_ret
        exact HFN
      | false =>
        have HE : Is (acc ++ [f]) (putV fs f) := ⟨by have h := hnp rfl; rw [h.1, putV_at fs f k h.2 (fun x hx => by rw [hkl] at hx; cases hx), hkl]⟩
        have hal : acc.length = len := by rw [(hnp rfl).1, List.length_take, HF.out.1]; omega
        obtain ⟨d0, d1, d2, d3⟩ := HFB.out
        simp only [Nat.zero_add] at d0 d1 d2 d3
        clear hpl hnp hkl
        go_wp2_with (first | (refine append_field rfl (.tmp 39) (.tmp 41) rfl _ (w.heap.size + 1) _ (acc.length) (acc) rfl (owns_alloc HO.out _) ⟨wr.heap.size, 0, none⟩ 1 f rfl (field_new wr f) (by omega) (by simp; omega) ?_; intro v7 w7 hO1 hB1; have HOw7 := (show Hid (w7.ownsRow (w.heap.size + 1) 38 4 v7 (acc.length + 1) _) from hO1); have HLw7 : Hid (Below (w.heap.size + 1) wr w7) := (((Below.refl _ wr).alloc (Nat.le_refl _) _).mono (by omega)).trans hB1; have hsw7 : w.heap.size + 1 ≤ w7.heap.size := Nat.le_trans (by omega) HLw7.out.size; clear hO1 hB1))
        have HFN : ∃ v, Ending.returned v7 = .returned v ∧ w7.ownsRow w.heap.size 38 4 v (len + 1) ((putV fs f).flatMap fcells) ∧ Below w.heap.size w w7 := ⟨_, rfl, by have h := owns_base HOw7.out (show w.heap.size ≤ w.heap.size + 1 by omega); rw [HE.eq, hal] at h; exact h, HBW.out.trans (HLw7.out.mono (by omega))⟩
        go_ret
        exact HFN
end Go.Proofs.Ytpbobmhffdmmmaa
