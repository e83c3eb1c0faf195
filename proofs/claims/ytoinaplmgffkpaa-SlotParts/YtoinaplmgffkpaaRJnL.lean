/- Proved: what the document's Join answers of leaves (stage 11). -/
import Derived.Test.YtoinaplmgffkpaaRJnH
namespace Go.Proofs.Ytoinaplmgffkpaa
open Go.RowKit
open Sl (Cel Nod)
set_option maxHeartbeats 4000000 in
set_option maxRecDepth 20000 in
theorem rjoin_leaf (l r : Nod) (p q : Pt) (k : ByteArray) (w : World) (hL : Lies w l p) (hR : Lies w r q) (hFl : Fit l) (hFr : Fit r) (hk : k.size ≤ 140737488355328) (hz1 : l.cells.length + r.cells.length ≤ 200) (hz2 : l.keys.length + r.keys.length ≤ 200) (hz3 : l.kids.length + r.kids.length ≤ 200) (hml : Sl.may l = true) (hmr : Sl.may r = true) (hlf : l.leaf = true) (hrf : r.leaf = true) :
    Calls Try.prog 22 #[nv l p, nv r q, .string k] w (JoPost w l r k) := by
  have hfj := fit_join (k := k) hFl hFr hk (by omega) (by omega) (by omega)
  have HNO := (show Hid (∀ (e : Ending) (w' : World), joinOk l r k = false → e = .returned (.tuple #[nv Sl.nod0 ⟨none, 0, none, 0, none, 0⟩, .int .i64 2]) → Below w.heap.size w w' → JoPost w l r k e w') from fun e w' h he hB => jo_no e w' h he hB)
  have HYE0 := (show Hid (∀ (n : Nod), joinN l r k = n → ∀ (e : Ending) (w' : World) (p : Pt), joinOk l r k = true → e = .returned (.tuple #[nv n p, .int .i64 0]) → LiesF w' w.heap.size n p → Below w.heap.size w w' → JoPost w l r k e w') from fun n hn e w' p h he hL hB => jo_yes n hn e w' p h he hL hB)
  have HC1 := fun (W : World) (h : Below w.heap.size w W) => rcheck_any l p W (hL.below h) hFl
  have HC2 := fun (W : World) (h : Below w.heap.size w W) => rcheck_any r q W (hR.below h) hFr
  have HC3 := fun (P : Pt) (W : World) (h : Lies W (joinN l r k) P) => rcheck_any (joinN l r k) P W h hfj
  unfold checkE at HC1 HC2 HC3
  rw [hml] at HC1
  rw [hmr] at HC2
  rw [join_may hml hmr (hlf.trans hrf.symm) hz1 hz2] at HC3
  simp only [if_true] at HC1 HC2
  have HRLC := (show Hid (RowAt w p.a1 (cvals l.cells) ∧ RowAt w q.a1 (cvals r.cells)) from ⟨hL.r1, hR.r1⟩)
  have HRLK := (show Hid (RowAt w p.a2 (kcells l.keys) ∧ RowAt w q.a2 (kcells r.keys)) from ⟨hL.r2, hR.r2⟩)
  have HRLD := (show Hid (RowAt w p.a3 (icells l.kids) ∧ RowAt w q.a3 (icells r.kids)) from ⟨hL.r3, hR.r3⟩)
  obtain ⟨lf, cl, kl, dl⟩ := l
  obtain ⟨rf, cr, kr, dr⟩ := r
  obtain ⟨a1, c1, a2, c2, a3, c3⟩ := p
  obtain ⟨b1, e1, b2, e2, b3, e3⟩ := q
  simp only at hlf hrf
  subst hlf hrf
  have hjn : joinN ⟨true, cl, kl, dl⟩ ⟨true, cr, kr, dr⟩ k = ⟨true, cl ++ cr, [], dl ++ dr⟩ := rfl
  rw [hjn] at HC3
  have HYE := (show Hid (∀ (e : Ending) (w' : World) (p : Pt), joinOk ⟨true, cl, kl, dl⟩ ⟨true, cr, kr, dr⟩ k = true → e = .returned (.tuple #[nv ⟨true, cl ++ cr, [], dl ++ dr⟩ p, .int .i64 0]) → LiesF w' w.heap.size ⟨true, cl ++ cr, [], dl ++ dr⟩ p → Below w.heap.size w w' → JoPost w ⟨true, cl, kl, dl⟩ ⟨true, cr, kr, dr⟩ k e w') from HYE0.out _ hjn)
  have HOK : Is (joinOk ⟨true, cl, kl, dl⟩ ⟨true, cr, kr, dr⟩ k) (joinOk ⟨true, cl, kl, dl⟩ ⟨true, cr, kr, dr⟩ k) := ⟨rfl⟩
  clear hL hR hFl hFr hml hmr hfj hjn HYE0 HOK
  generalize joinOk ⟨true, cl, kl, dl⟩ ⟨true, cr, kr, dr⟩ k = OK at *
  unfold nv at *
  simp only at HC1 HC2 HC3 HYE HNO HRLC HRLK HRLD hz1 hz2 hz3 ⊢
  have HS0 := (show Hid (Below w.heap.size w (((w.alloc (.cells #[.bool true, .slice a1 cl.length c1, .slice a2 kl.length c2, .slice a3 dl.length c3] 26)).alloc (.cells #[.bool true, .slice b1 cr.length e1, .slice b2 kr.length e2, .slice b3 dr.length e3] 26)).alloc (.cells #[.bool false, .slice none 0 0, .slice none 0 0, .slice none 0 0] 26)) ∧ (Brow (((w.alloc (.cells #[.bool true, .slice a1 cl.length c1, .slice a2 kl.length c2, .slice a3 dl.length c3] 26)).alloc (.cells #[.bool true, .slice b1 cr.length e1, .slice b2 kr.length e2, .slice b3 dr.length e3] 26)).alloc (.cells #[.bool false, .slice none 0 0, .slice none 0 0, .slice none 0 0] 26)) w.heap.size [.bool true, .slice a1 cl.length c1, .slice a2 kl.length c2, .slice a3 dl.length c3] 26 ∧ Brow (((w.alloc (.cells #[.bool true, .slice a1 cl.length c1, .slice a2 kl.length c2, .slice a3 dl.length c3] 26)).alloc (.cells #[.bool true, .slice b1 cr.length e1, .slice b2 kr.length e2, .slice b3 dr.length e3] 26)).alloc (.cells #[.bool false, .slice none 0 0, .slice none 0 0, .slice none 0 0] 26)) (w.heap.size + 1) [.bool true, .slice b1 cr.length e1, .slice b2 kr.length e2, .slice b3 dr.length e3] 26) ∧ Brow (((w.alloc (.cells #[.bool true, .slice a1 cl.length c1, .slice a2 kl.length c2, .slice a3 dl.length c3] 26)).alloc (.cells #[.bool true, .slice b1 cr.length e1, .slice b2 kr.length e2, .slice b3 dr.length e3] 26)).alloc (.cells #[.bool false, .slice none 0 0, .slice none 0 0, .slice none 0 0] 26)) (w.heap.size + 2) [.bool false, .slice none 0 0, .slice none 0 0, .slice none 0 0] 26) from ⟨((below_alloc _ _).alloc (by rw [size_alloc1]; omega) _).alloc (by rw [size_alloc1, size_alloc1]; omega) _, ⟨((Brow.new w [.bool true, .slice a1 cl.length c1, .slice a2 kl.length c2, .slice a3 dl.length c3] 26).alloc _).alloc _, by
    have := (Brow.new (w.alloc (.cells #[.bool true, .slice a1 cl.length c1, .slice a2 kl.length c2, .slice a3 dl.length c3] 26)) [.bool true, .slice b1 cr.length e1, .slice b2 kr.length e2, .slice b3 dr.length e3] 26).alloc (.cells #[.bool false, .slice none 0 0, .slice none 0 0, .slice none 0 0] 26)
    rwa [size_alloc1] at this⟩, by
    have := Brow.new ((w.alloc (.cells #[.bool true, .slice a1 cl.length c1, .slice a2 kl.length c2, .slice a3 dl.length c3] 26)).alloc (.cells #[.bool true, .slice b1 cr.length e1, .slice b2 kr.length e2, .slice b3 dr.length e3] 26)) [.bool false, .slice none 0 0, .slice none 0 0, .slice none 0 0] 26
    rwa [size_alloc1, size_alloc1] at this⟩)
  have hs0 : w.heap.size + 3 ≤ (((w.alloc (.cells #[.bool true, .slice a1 cl.length c1, .slice a2 kl.length c2, .slice a3 dl.length c3] 26)).alloc (.cells #[.bool true, .slice b1 cr.length e1, .slice b2 kr.length e2, .slice b3 dr.length e3] 26)).alloc (.cells #[.bool false, .slice none 0 0, .slice none 0 0, .slice none 0 0] 26)).heap.size := by rw [size_alloc1, size_alloc1, size_alloc1]; omega
  go_enter Try.func22, Try.ntmps22
  go_wp2_with fail
  refine (HC1 _ HS0.out.1).mono ?_
  rintro e w1 ⟨rfl, hB1⟩
  have HS1 := (show Hid (Below w.heap.size w w1 ∧ (Brow w1 w.heap.size [.bool true, .slice a1 cl.length c1, .slice a2 kl.length c2, .slice a3 dl.length c3] 26 ∧ Brow w1 (w.heap.size + 1) [.bool true, .slice b1 cr.length e1, .slice b2 kr.length e2, .slice b3 dr.length e3] 26) ∧ Brow w1 (w.heap.size + 2) [.bool false, .slice none 0 0, .slice none 0 0, .slice none 0 0] 26) from ⟨HS0.out.1.trans (hB1.mono (by omega)), ⟨HS0.out.2.1.1.below hB1 (by omega), HS0.out.2.1.2.below hB1 (by omega)⟩, HS0.out.2.2.below hB1 (by omega)⟩)
  have hs1 : w.heap.size + 3 ≤ w1.heap.size := Nat.le_trans hs0 hB1.size
  clear hB1 HS0 hs0 HC1
  have q0 := HS1.out.2.1.1.at 0 _ rfl
  have q1 := HS1.out.2.1.1.at 1 _ rfl
  have q2 := HS1.out.2.1.1.at 2 _ rfl
  have q3 := HS1.out.2.1.1.at 3 _ rfl
  have r0 := HS1.out.2.1.2.at 0 _ rfl
  have r1 := HS1.out.2.1.2.at 1 _ rfl
  have r2 := HS1.out.2.1.2.at 2 _ rfl
  have r3 := HS1.out.2.1.2.at 3 _ rfl
  go_wp2_with fail
  refine (HC2 _ HS1.out.1).mono ?_
  rintro e w2 ⟨rfl, hB2⟩
  have HS2 := (show Hid (Below w.heap.size w w2 ∧ (Brow w2 w.heap.size [.bool true, .slice a1 cl.length c1, .slice a2 kl.length c2, .slice a3 dl.length c3] 26 ∧ Brow w2 (w.heap.size + 1) [.bool true, .slice b1 cr.length e1, .slice b2 kr.length e2, .slice b3 dr.length e3] 26) ∧ Brow w2 (w.heap.size + 2) [.bool false, .slice none 0 0, .slice none 0 0, .slice none 0 0] 26) from ⟨HS1.out.1.trans (hB2.mono (by omega)), ⟨HS1.out.2.1.1.below hB2 (by omega), HS1.out.2.1.2.below hB2 (by omega)⟩, HS1.out.2.2.below hB2 (by omega)⟩)
  have hs2 : w.heap.size + 3 ≤ w2.heap.size := Nat.le_trans hs1 hB2.size
  clear hB2 HS1 hs1 HC2 q0 q1 q2 q3 r0 r1 r2 r3
  have q0 := HS2.out.2.1.1.at 0 _ rfl
  have q1 := HS2.out.2.1.1.at 1 _ rfl
  have q2 := HS2.out.2.1.1.at 2 _ rfl
  have q3 := HS2.out.2.1.1.at 3 _ rfl
  have r0 := HS2.out.2.1.2.at 0 _ rfl
  have r1 := HS2.out.2.1.2.at 1 _ rfl
  have r2 := HS2.out.2.1.2.at 2 _ rfl
  have r3 := HS2.out.2.1.2.at 3 _ rfl
  have HJ0 := (show Hid (JR w w2.heap.size [.bool true, .slice a1 cl.length c1, .slice a2 kl.length c2, .slice a3 dl.length c3] [.bool true, .slice b1 cr.length e1, .slice b2 kr.length e2, .slice b3 dr.length e3] true [] [] [] (.slice none 0 0) (.slice none 0 0) (.slice none 0 0) (w2.alloc (.cells #[.bool true, .slice none 0 0, .slice none 0 0, .slice none 0 0] 26))) from ⟨HS2.out.2.1.1.alloc _, HS2.out.2.1.2.alloc _, HS2.out.2.2.alloc _, Brow.new w2 _ 26, own_nil _ _ _ _, own_nil _ _ _ _, own_nil _ _ _ _, HS2.out.1.alloc (by omega) _, hs2, by rw [size_alloc1]; omega, fun b hb => (by cases hb), fun b hb => (by cases hb), fun b hb => (by cases hb)⟩)
  go_upto_region 4 with fail
  generalize (w2.alloc (.cells #[.bool true, .slice none 0 0, .slice none 0 0, .slice none 0 0] 26)) = wn at *
  generalize w2.heap.size = X at *
  clear HS2 hs2 q0 q1 q2 q3 r0 r1 r2 r3
  have HJd := (show Hid (JR w X [.bool true, .slice a1 cl.length c1, .slice a2 kl.length c2, .slice a3 dl.length c3] [.bool true, .slice b1 cr.length e1, .slice b2 kr.length e2, .slice b3 dr.length e3] true [] [] [] (.slice none 0 0) (.slice none 0 0) (.slice none 0 0) wn.drew) from HJ0.out.below (Below.refl _ _).drew)
  clear HJ0
  refine AnyL.begin (S := (fun W : World => Brow W X [.bool true, .slice none 0 0, .slice none 0 0, .slice none 0 0] 26 ∧ Brow W w.heap.size [.bool true, .slice a1 cl.length c1, .slice a2 kl.length c2, .slice a3 dl.length c3] 26 ∧ Brow W (w.heap.size + 1) [.bool true, .slice b1 cr.length e1, .slice b2 kr.length e2, .slice b3 dr.length e3] 26)) (zs := [9]) (by kernel_rfl) ?_
  generalize wn.drew = wd at *
  have HSd := (show Hid ((fun W : World => Brow W X [.bool true, .slice none 0 0, .slice none 0 0, .slice none 0 0] 26 ∧ Brow W w.heap.size [.bool true, .slice a1 cl.length c1, .slice a2 kl.length c2, .slice a3 dl.length c3] 26 ∧ Brow W (w.heap.size + 1) [.bool true, .slice b1 cr.length e1, .slice b2 kr.length e2, .slice b3 dr.length e3] 26) wd) from ⟨HJd.out.o, HJd.out.bl, HJd.out.br⟩)
  refine AnyL.take 0 (some 28) (v := (.pointer (some ⟨X, 1, none⟩))) rfl rfl (by kernel_rfl) (by kernel_rfl) (by kernel_rfl) (by kernel_rfl) (by kernel_rfl) (fun _ _ _ h => h) (Or.inl ⟨by rfl, fun w hS => ?_⟩) HSd.out ?_
  · (go_simp)
  simp only [Act.put, List.setIfInBounds_toArray, List.set_cons_zero, List.set_cons_succ]
  refine AnyL.take 1 (some 29) (v := (.slice none 0 0)) rfl rfl (by kernel_rfl) (by kernel_rfl) (by kernel_rfl) (by kernel_rfl) (by kernel_rfl) (fun _ _ _ h => h) (Or.inl ⟨by rfl, fun w hS => ?_⟩) HSd.out ?_
  · (have q := hS.1.at 1 _ rfl; go_simp)
  simp only [Act.put, List.setIfInBounds_toArray, List.set_cons_zero, List.set_cons_succ]
  refine AnyL.take 2 (some 30) (v := (.pointer (some ⟨w.heap.size, 1, none⟩))) rfl rfl (by kernel_rfl) (by kernel_rfl) (by kernel_rfl) (by kernel_rfl) (by kernel_rfl) (fun _ _ _ h => h) (Or.inl ⟨by rfl, fun w hS => ?_⟩) HSd.out ?_
  · (go_simp)
  simp only [Act.put, List.setIfInBounds_toArray, List.set_cons_zero, List.set_cons_succ]
  refine AnyL.take 3 (some 31) (v := (.slice a1 cl.length c1)) rfl rfl (by kernel_rfl) (by kernel_rfl) (by kernel_rfl) (by kernel_rfl) (by kernel_rfl) (fun _ _ _ h => h) (Or.inl ⟨by rfl, fun w hS => ?_⟩) HSd.out ?_
  · (have q := hS.2.1.at 1 _ rfl; go_simp)
  simp only [Act.put, List.setIfInBounds_toArray, List.set_cons_zero, List.set_cons_succ]
  refine AnyL.take 5 (some 33) (v := (.pointer (some ⟨w.heap.size + 1, 1, none⟩))) rfl rfl (by kernel_rfl) (by kernel_rfl) (by kernel_rfl) (by kernel_rfl) (by kernel_rfl) (fun _ _ _ h => h) (Or.inl ⟨by rfl, fun w hS => ?_⟩) HSd.out ?_
  · (go_simp)
  simp only [Act.put, List.setIfInBounds_toArray, List.set_cons_zero, List.set_cons_succ]
  refine AnyL.take 6 (some 34) (v := (.slice b1 cr.length e1)) rfl rfl (by kernel_rfl) (by kernel_rfl) (by kernel_rfl) (by kernel_rfl) (by kernel_rfl) (fun _ _ _ h => h) (Or.inl ⟨by rfl, fun w hS => ?_⟩) HSd.out ?_
  · (have q := hS.2.2.at 1 _ rfl; go_simp)
  simp only [Act.put, List.setIfInBounds_toArray, List.set_cons_zero, List.set_cons_succ]
  clear HSd
  have HBd := (show Hid (Bes X (.slice none 0 0) (.slice none 0 0) (.slice none 0 0) (.slice none 0 0) 28 4 0 [] wd) from Bes.nil _ _)
  obtain ⟨vA, w4, hr, hO, hG⟩ := app_own (P := Try.prog) (W := wd) (t := 22) Try.underlying22 infoC rfl (by omega) (X + 1) (.slice none 0 0) 0 [] HBd.out.own a1 cl.length c1 (cvals cl) (HRLC.out.1.below HJd.out.b) (by rw [cvals_length]) (cvals_one _) (by omega) (by omega) HJd.out.n
  have HJ4 := (show Hid (JR w X [.bool true, .slice a1 cl.length c1, .slice a2 kl.length c2, .slice a3 dl.length c3] [.bool true, .slice b1 cr.length e1, .slice b2 kr.length e2, .slice b3 dr.length e3] true [] [] [] (.slice none 0 0) (.slice none 0 0) (.slice none 0 0) w4) from HJd.out.grow HBd.out hG)
  have HB4' := HBd.out.grow HJd.out hG hO
  rw [List.nil_append, Nat.zero_add] at HB4'
  have HB4 := (show Hid (Bes X (.slice none 0 0) (.slice none 0 0) (.slice none 0 0) (vA) 28 4 cl.length (cvals cl) w4) from HB4')
  clear hO hG HB4' HJd HBd
  refine AnyL.one 4 (by kernel_rfl) rfl (by rfl) (fun KK hK => ?_)
  refine step_run_append (some 32) rfl (.tmp 29) (.tmp 31) 22 rfl _ _ _ _ rfl rfl hr ?_
  refine hK.out _ _ (fun _ => ⟨HJ4.out.o, HJ4.out.bl, HJ4.out.br⟩) ?_
  clear hK KK hr
  try simp only [Act.put, List.setIfInBounds_toArray, List.set_cons_zero, List.set_cons_succ]
  obtain ⟨vB, w7, hr, hO, hG⟩ := app_own (P := Try.prog) (W := w4) (t := 22) Try.underlying22 infoC rfl (by omega) (X + 1) (vA) cl.length (cvals cl) HB4.out.own b1 cr.length e1 (cvals cr) (HRLC.out.2.below HJ4.out.b) (by rw [cvals_length]) (cvals_one _) (by omega) (by omega) HJ4.out.n
  have HJ7 := (show Hid (JR w X [.bool true, .slice a1 cl.length c1, .slice a2 kl.length c2, .slice a3 dl.length c3] [.bool true, .slice b1 cr.length e1, .slice b2 kr.length e2, .slice b3 dr.length e3] true [] [] [] (.slice none 0 0) (.slice none 0 0) (.slice none 0 0) w7) from HJ4.out.grow HB4.out hG)
  have HB7' := HB4.out.grow HJ4.out hG hO
  rw [← cvals_append] at HB7'
  have HB7 := (show Hid (Bes X (.slice none 0 0) (.slice none 0 0) (.slice none 0 0) (vB) 28 4 (cl.length + cr.length) (cvals (cl ++ cr)) w7) from HB7')
  clear hO hG HB7' HJ4 HB4
  refine AnyL.one 7 (by kernel_rfl) rfl (by rfl) (fun KK hK => ?_)
  refine step_run_append (some 35) rfl (.tmp 32) (.tmp 34) 22 rfl _ _ _ _ rfl rfl hr ?_
  refine hK.out _ _ (fun _ => ⟨HJ7.out.o, HJ7.out.bl, HJ7.out.br⟩) ?_
  clear hK KK hr
  try simp only [Act.put, List.setIfInBounds_toArray, List.set_cons_zero, List.set_cons_succ]
  obtain ⟨adx, cpx, hv3, _, _, _⟩ := own_rowFrom HB7.out.own
  subst hv3
  have HSe := (show Hid ((fun W : World => Brow W X [.bool true, .slice none 0 0, .slice none 0 0, .slice none 0 0] 26 ∧ Brow W w.heap.size [.bool true, .slice a1 cl.length c1, .slice a2 kl.length c2, .slice a3 dl.length c3] 26 ∧ Brow W (w.heap.size + 1) [.bool true, .slice b1 cr.length e1, .slice b2 kr.length e2, .slice b3 dr.length e3] 26) w7) from ⟨HJ7.out.o, HJ7.out.bl, HJ7.out.br⟩)
  refine AnyL.take 8 (some 36) (v := (.pointer (some ⟨X, 1, none⟩))) rfl rfl (by kernel_rfl) (by kernel_rfl) (by kernel_rfl) (by kernel_rfl) (by kernel_rfl) (fun _ _ _ h => h) (Or.inl ⟨by rfl, fun w hS => ?_⟩) HSe.out ?_
  · (go_simp)
  simp only [Act.put, List.setIfInBounds_toArray, List.set_cons_zero, List.set_cons_succ]
  have HJ9 := (show Hid (JR w X [.bool true, .slice a1 cl.length c1, .slice a2 kl.length c2, .slice a3 dl.length c3] [.bool true, .slice b1 cr.length e1, .slice b2 kr.length e2, .slice b3 dr.length e3] true (cl ++ cr) [] [] (.slice adx (cl.length + cr.length) cpx) (.slice none 0 0) (.slice none 0 0) (w7.setCell ⟨X, 1, none⟩ (.slice adx (cl.length + cr.length) cpx))) from HJ7.out.put1 (by
    have h := HB7.out
    have e : (cl ++ cr).length = cl.length + cr.length := List.length_append
    rw [e]
    exact h))
  have p1 := HJ7.out.o.at 1 _ rfl
  have pz := HJ7.out.o.fz 1
  refine AnyL.one 9 (by kernel_rfl) rfl (by rfl) (fun KK hK => ?_)
  go_simp
  refine hK.out _ _ (fun h => absurd h (by decide)) ?_
  clear hK KK
  try simp only [Act.put, List.setIfInBounds_toArray, List.set_cons_zero, List.set_cons_succ]
  refine AnyL.done (by kernel_rfl) ?_
  clear p1 pz HSe HJ7 HB7
  generalize (w7.setCell ⟨X, 1, none⟩ (.slice adx (cl.length + cr.length) cpx)) = wo at *
  have HJwo := HJ9
  clear HJ9
  generalize adx = ad1 at *
  generalize cpx = cp1 at *
  go_upto_region 5 with fail
  have HJd := (show Hid (JR w X [.bool true, .slice a1 cl.length c1, .slice a2 kl.length c2, .slice a3 dl.length c3] [.bool true, .slice b1 cr.length e1, .slice b2 kr.length e2, .slice b3 dr.length e3] true (cl ++ cr) [] [] (.slice ad1 (cl.length + cr.length) cp1) (.slice none 0 0) (.slice none 0 0) wo.drew) from HJwo.out.below (Below.refl _ _).drew)
  clear HJwo
  refine AnyL.begin (S := (fun W : World => Brow W X [.bool true, .slice ad1 (cl.length + cr.length) cp1, .slice none 0 0, .slice none 0 0] 26 ∧ Brow W w.heap.size [.bool true, .slice a1 cl.length c1, .slice a2 kl.length c2, .slice a3 dl.length c3] 26 ∧ Brow W (w.heap.size + 1) [.bool true, .slice b1 cr.length e1, .slice b2 kr.length e2, .slice b3 dr.length e3] 26)) (zs := [9]) (by kernel_rfl) ?_
  generalize wo.drew = wd at *
  have HSd := (show Hid ((fun W : World => Brow W X [.bool true, .slice ad1 (cl.length + cr.length) cp1, .slice none 0 0, .slice none 0 0] 26 ∧ Brow W w.heap.size [.bool true, .slice a1 cl.length c1, .slice a2 kl.length c2, .slice a3 dl.length c3] 26 ∧ Brow W (w.heap.size + 1) [.bool true, .slice b1 cr.length e1, .slice b2 kr.length e2, .slice b3 dr.length e3] 26) wd) from ⟨HJd.out.o, HJd.out.bl, HJd.out.br⟩)
  refine AnyL.take 0 (some 37) (v := (.pointer (some ⟨X, 3, none⟩))) rfl rfl (by kernel_rfl) (by kernel_rfl) (by kernel_rfl) (by kernel_rfl) (by kernel_rfl) (fun _ _ _ h => h) (Or.inl ⟨by rfl, fun w hS => ?_⟩) HSd.out ?_
  · (go_simp)
  simp only [Act.put, List.setIfInBounds_toArray, List.set_cons_zero, List.set_cons_succ]
  refine AnyL.take 1 (some 38) (v := (.slice none 0 0)) rfl rfl (by kernel_rfl) (by kernel_rfl) (by kernel_rfl) (by kernel_rfl) (by kernel_rfl) (fun _ _ _ h => h) (Or.inl ⟨by rfl, fun w hS => ?_⟩) HSd.out ?_
  · (have q := hS.1.at 3 _ rfl; go_simp)
  simp only [Act.put, List.setIfInBounds_toArray, List.set_cons_zero, List.set_cons_succ]
  refine AnyL.take 2 (some 39) (v := (.pointer (some ⟨w.heap.size, 3, none⟩))) rfl rfl (by kernel_rfl) (by kernel_rfl) (by kernel_rfl) (by kernel_rfl) (by kernel_rfl) (fun _ _ _ h => h) (Or.inl ⟨by rfl, fun w hS => ?_⟩) HSd.out ?_
  · (go_simp)
  simp only [Act.put, List.setIfInBounds_toArray, List.set_cons_zero, List.set_cons_succ]
  refine AnyL.take 3 (some 40) (v := (.slice a3 dl.length c3)) rfl rfl (by kernel_rfl) (by kernel_rfl) (by kernel_rfl) (by kernel_rfl) (by kernel_rfl) (fun _ _ _ h => h) (Or.inl ⟨by rfl, fun w hS => ?_⟩) HSd.out ?_
  · (have q := hS.2.1.at 3 _ rfl; go_simp)
  simp only [Act.put, List.setIfInBounds_toArray, List.set_cons_zero, List.set_cons_succ]
  refine AnyL.take 5 (some 42) (v := (.pointer (some ⟨w.heap.size + 1, 3, none⟩))) rfl rfl (by kernel_rfl) (by kernel_rfl) (by kernel_rfl) (by kernel_rfl) (by kernel_rfl) (fun _ _ _ h => h) (Or.inl ⟨by rfl, fun w hS => ?_⟩) HSd.out ?_
  · (go_simp)
  simp only [Act.put, List.setIfInBounds_toArray, List.set_cons_zero, List.set_cons_succ]
  refine AnyL.take 6 (some 43) (v := (.slice b3 dr.length e3)) rfl rfl (by kernel_rfl) (by kernel_rfl) (by kernel_rfl) (by kernel_rfl) (by kernel_rfl) (fun _ _ _ h => h) (Or.inl ⟨by rfl, fun w hS => ?_⟩) HSd.out ?_
  · (have q := hS.2.2.at 3 _ rfl; go_simp)
  simp only [Act.put, List.setIfInBounds_toArray, List.set_cons_zero, List.set_cons_succ]
  clear HSd
  have HBd := (show Hid (Bes X (.slice ad1 (cl.length + cr.length) cp1) (.slice none 0 0) (.slice none 0 0) (.slice none 0 0) 3 1 0 [] wd) from Bes.nil _ _)
  obtain ⟨vA, w4, hr, hO, hG⟩ := app_own (P := Try.prog) (W := wd) (t := 24) Try.underlying24 infoI rfl (by omega) (X + 1) (.slice none 0 0) 0 [] HBd.out.own a3 dl.length c3 (icells dl) (HRLD.out.1.below HJd.out.b) (by rw [icells_length]) (icells_one _) (by omega) (by omega) HJd.out.n
  have HJ4 := (show Hid (JR w X [.bool true, .slice a1 cl.length c1, .slice a2 kl.length c2, .slice a3 dl.length c3] [.bool true, .slice b1 cr.length e1, .slice b2 kr.length e2, .slice b3 dr.length e3] true (cl ++ cr) [] [] (.slice ad1 (cl.length + cr.length) cp1) (.slice none 0 0) (.slice none 0 0) w4) from HJd.out.grow HBd.out hG)
  have HB4' := HBd.out.grow HJd.out hG hO
  rw [List.nil_append, Nat.zero_add] at HB4'
  have HB4 := (show Hid (Bes X (.slice ad1 (cl.length + cr.length) cp1) (.slice none 0 0) (.slice none 0 0) (vA) 3 1 dl.length (icells dl) w4) from HB4')
  clear hO hG HB4' HJd HBd
  refine AnyL.one 4 (by kernel_rfl) rfl (by rfl) (fun KK hK => ?_)
  refine step_run_append (some 41) rfl (.tmp 38) (.tmp 40) 24 rfl _ _ _ _ rfl rfl hr ?_
  refine hK.out _ _ (fun _ => ⟨HJ4.out.o, HJ4.out.bl, HJ4.out.br⟩) ?_
  clear hK KK hr
  try simp only [Act.put, List.setIfInBounds_toArray, List.set_cons_zero, List.set_cons_succ]
  obtain ⟨vB, w7, hr, hO, hG⟩ := app_own (P := Try.prog) (W := w4) (t := 24) Try.underlying24 infoI rfl (by omega) (X + 1) (vA) dl.length (icells dl) HB4.out.own b3 dr.length e3 (icells dr) (HRLD.out.2.below HJ4.out.b) (by rw [icells_length]) (icells_one _) (by omega) (by omega) HJ4.out.n
  have HJ7 := (show Hid (JR w X [.bool true, .slice a1 cl.length c1, .slice a2 kl.length c2, .slice a3 dl.length c3] [.bool true, .slice b1 cr.length e1, .slice b2 kr.length e2, .slice b3 dr.length e3] true (cl ++ cr) [] [] (.slice ad1 (cl.length + cr.length) cp1) (.slice none 0 0) (.slice none 0 0) w7) from HJ4.out.grow HB4.out hG)
  have HB7' := HB4.out.grow HJ4.out hG hO
  rw [← icells_append] at HB7'
  have HB7 := (show Hid (Bes X (.slice ad1 (cl.length + cr.length) cp1) (.slice none 0 0) (.slice none 0 0) (vB) 3 1 (dl.length + dr.length) (icells (dl ++ dr)) w7) from HB7')
  clear hO hG HB7' HJ4 HB4
  refine AnyL.one 7 (by kernel_rfl) rfl (by rfl) (fun KK hK => ?_)
  refine step_run_append (some 44) rfl (.tmp 41) (.tmp 43) 24 rfl _ _ _ _ rfl rfl hr ?_
  refine hK.out _ _ (fun _ => ⟨HJ7.out.o, HJ7.out.bl, HJ7.out.br⟩) ?_
  clear hK KK hr
  try simp only [Act.put, List.setIfInBounds_toArray, List.set_cons_zero, List.set_cons_succ]
  obtain ⟨adx, cpx, hv3, _, _, _⟩ := own_rowFrom HB7.out.own
  subst hv3
  have HSe := (show Hid ((fun W : World => Brow W X [.bool true, .slice ad1 (cl.length + cr.length) cp1, .slice none 0 0, .slice none 0 0] 26 ∧ Brow W w.heap.size [.bool true, .slice a1 cl.length c1, .slice a2 kl.length c2, .slice a3 dl.length c3] 26 ∧ Brow W (w.heap.size + 1) [.bool true, .slice b1 cr.length e1, .slice b2 kr.length e2, .slice b3 dr.length e3] 26) w7) from ⟨HJ7.out.o, HJ7.out.bl, HJ7.out.br⟩)
  refine AnyL.take 8 (some 45) (v := (.pointer (some ⟨X, 3, none⟩))) rfl rfl (by kernel_rfl) (by kernel_rfl) (by kernel_rfl) (by kernel_rfl) (by kernel_rfl) (fun _ _ _ h => h) (Or.inl ⟨by rfl, fun w hS => ?_⟩) HSe.out ?_
  · (go_simp)
  simp only [Act.put, List.setIfInBounds_toArray, List.set_cons_zero, List.set_cons_succ]
  have HJ9 := (show Hid (JR w X [.bool true, .slice a1 cl.length c1, .slice a2 kl.length c2, .slice a3 dl.length c3] [.bool true, .slice b1 cr.length e1, .slice b2 kr.length e2, .slice b3 dr.length e3] true (cl ++ cr) [] (dl ++ dr) (.slice ad1 (cl.length + cr.length) cp1) (.slice none 0 0) (.slice adx (dl.length + dr.length) cpx) (w7.setCell ⟨X, 3, none⟩ (.slice adx (dl.length + dr.length) cpx))) from HJ7.out.put3 (by
    have h := HB7.out
    have e : (dl ++ dr).length = dl.length + dr.length := List.length_append
    rw [e]
    exact h))
  have p1 := HJ7.out.o.at 3 _ rfl
  have pz := HJ7.out.o.fz 3
  refine AnyL.one 9 (by kernel_rfl) rfl (by rfl) (fun KK hK => ?_)
  go_simp
  refine hK.out _ _ (fun h => absurd h (by decide)) ?_
  clear hK KK
  try simp only [Act.put, List.setIfInBounds_toArray, List.set_cons_zero, List.set_cons_succ]
  refine AnyL.done (by kernel_rfl) ?_
  clear p1 pz HSe HJ7 HB7
  generalize (w7.setCell ⟨X, 3, none⟩ (.slice adx (dl.length + dr.length) cpx)) = wp at *
  have HJwp := HJ9
  clear HJ9
  generalize adx = ad3 at *
  generalize cpx = cp3 at *
  have HC4 := HC3 ⟨ad1, cp1, none, 0, ad3, cp3⟩ wp HJwp.out.lies.lies
  simp only [List.length_append, List.length_nil] at HC4
  have hXg : w.heap.size + 3 ≤ X := HJwp.out.x
  have p0 := HJwp.out.o.at 0 _ rfl
  have p1 := HJwp.out.o.at 1 _ rfl
  have p2 := HJwp.out.o.at 2 _ rfl
  have p3 := HJwp.out.o.at 3 _ rfl
  go_wp2_with fail
  refine HC4.mono ?_
  rintro e w9 ⟨rfl, hB9⟩
  have HJ9 := (show Hid (JR w X [.bool true, .slice a1 cl.length c1, .slice a2 kl.length c2, .slice a3 dl.length c3] [.bool true, .slice b1 cr.length e1, .slice b2 kr.length e2, .slice b3 dr.length e3] true (cl ++ cr) [] (dl ++ dr) (.slice ad1 (cl.length + cr.length) cp1) (.slice none 0 0) (.slice ad3 (dl.length + dr.length) cp3) w9) from HJwp.out.below hB9)
  clear hB9 HC4 HC3 HJwp p0 p1 p2 p3
  cases OK with
  | false =>
    simp only [Bool.false_eq_true, if_false]
    have HFR := (show Hid (Brow (setN w9 (w.heap.size + 2) (.bool false) (.slice none 0 0) (.slice none 0 0) (.slice none 0 0)) (w.heap.size + 2) [.bool false, .slice none 0 0, .slice none 0 0, .slice none 0 0] 26) from setN_row HJ9.out.z _ _ _ _)
    have HFB := (show Hid (Below w.heap.size w (setN w9 (w.heap.size + 2) (.bool false) (.slice none 0 0) (.slice none 0 0) (.slice none 0 0))) from setN_below HJ9.out.b (by omega) _ _ _ _)
    have y0 := HJ9.out.z.at 0 _ rfl
    have y1 := HJ9.out.z.at 1 _ rfl
    have y2 := HJ9.out.z.at 2 _ rfl
    have y3 := HJ9.out.z.at 3 _ rfl
    have z0 := HJ9.out.z.fz 0
    have z1 := HJ9.out.z.fz 1
    have z2 := HJ9.out.z.fz 2
    have z3 := HJ9.out.z.fz 3
    unfold setN at HFR HFB
    go_wp2
    refine bodyPost_ret (res_ct rfl _ _ (w.heap.size + 2) 26 _ _ rfl HFR.out Try.underlying26 rfl (by kernel_rfl)) rfl ?_
    exact HNO.out _ _ (by first | rfl | trivial) rfl HFB.out
  | true =>
    simp only [if_true]
    have HFR := (show Hid (Brow (setN w9 (w.heap.size + 2) (.bool true) (.slice ad1 (cl.length + cr.length) cp1) (.slice none 0 0) (.slice ad3 (dl.length + dr.length) cp3)) (w.heap.size + 2) [.bool true, .slice ad1 (cl.length + cr.length) cp1, .slice none 0 0, .slice ad3 (dl.length + dr.length) cp3] 26) from setN_row HJ9.out.z _ _ _ _)
    have HFB := (show Hid (Below w.heap.size w (setN w9 (w.heap.size + 2) (.bool true) (.slice ad1 (cl.length + cr.length) cp1) (.slice none 0 0) (.slice ad3 (dl.length + dr.length) cp3))) from setN_below HJ9.out.b (by omega) _ _ _ _)
    have HFL := (show Hid (LiesF (setN w9 (w.heap.size + 2) (.bool true) (.slice ad1 (cl.length + cr.length) cp1) (.slice none 0 0) (.slice ad3 (dl.length + dr.length) cp3)) w.heap.size ⟨true, (cl ++ cr), [], (dl ++ dr)⟩ ⟨ad1, cp1, none, 0, ad3, cp3⟩) from (setN_lies (JR.lies HJ9.out) (by omega) _ _ _ _).mono (by omega))
    have p0 := HJ9.out.o.at 0 _ rfl
    have p1 := HJ9.out.o.at 1 _ rfl
    have p2 := HJ9.out.o.at 2 _ rfl
    have p3 := HJ9.out.o.at 3 _ rfl
    have y0 := HJ9.out.z.at 0 _ rfl
    have y1 := HJ9.out.z.at 1 _ rfl
    have y2 := HJ9.out.z.at 2 _ rfl
    have y3 := HJ9.out.z.at 3 _ rfl
    have z0 := HJ9.out.z.fz 0
    have z1 := HJ9.out.z.fz 1
    have z2 := HJ9.out.z.fz 2
    have z3 := HJ9.out.z.fz 3
    unfold setN at HFR HFB HFL
    go_wp2
    refine bodyPost_ret (res_ct rfl _ _ (w.heap.size + 2) 26 _ _ rfl HFR.out Try.underlying26 rfl (by kernel_rfl)) rfl ?_
    exact HYE.out _ _ ⟨ad1, cp1, none, 0, ad3, cp3⟩ (by first | rfl | trivial) (by first | rfl | (simp only [List.length_append, List.length_nil]; done) | (simp only [List.length_append, List.length_nil]; rfl)) HFL.out HFB.out
end Go.Proofs.Ytoinaplmgffkpaa
