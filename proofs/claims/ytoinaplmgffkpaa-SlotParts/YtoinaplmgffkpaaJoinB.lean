/- Proved: what slot's Join answers of branches (stage 11). -/
import Derived.Test.YtoinaplmgffkpaaJoinH
import Derived.Deep.Cut
namespace Go.Proofs.Ytoinaplmgffkpaa
open Go.RowKit
open Sl (Cel Nod)
theorem NX.below {w wx wy : World} {X : Nat} {n : Nod} {p : Pt} (h : NX w wx X n p) (hb : Below wx.heap.size wx wy) : NX w wy X n p := by
  have h1 := h.bx.lt
  have h2 := h.x
  have h3 := h.z.lt
  exact ⟨h.bx.below hb h1, h.r1.below hb, h.r2.below hb, h.r3.below hb, h.l1, h.l2, h.l3, h.m1, h.m2, h.m3, h.z.below hb h3, h.b.trans (hb.mono (by omega)), h.x⟩
theorem NX.setK {w wx : World} {X : Nat} {lf : Bool} {C : List Cel} {D : List Int} {x1 x2 x3 : Option Addr} {y1 y2 y3 M : Nat} (h : NX w wx X ⟨lf, C, [], D⟩ ⟨x1, y1, none, 0, x3, y3⟩) (ks : List ByteArray) (hr : RowBut wx X x2 (kcells ks)) (hM : ks.length = M) (h1 : M ≤ y2) (h2 : y2 ≤ 9223372036854775807) : NX w (wx.setCell ⟨X, 2, none⟩ (.slice x2 M y2)) X ⟨lf, C, ks, D⟩ ⟨x1, y1, x2, y2, x3, y3⟩ := by
  subst hM
  have hx := h.x
  exact ⟨h.bx.set 2 _, h.r1.set 2 _, hr.set 2 _, h.r3.set 2 _, h.l1, h1, h.l3, h.m1, h2, h.m3, h.z.far (by show X ≠ _; omega), h.b.setCell (by show w.heap.size ≤ X; omega) _, hx⟩
theorem row_key (w : World) (k : ByteArray) : RowAt (w.alloc (.cells #[.string k] 9)) (some ⟨w.heap.size, 0, none⟩) (kcells [k]) := by
  have h := Brow.new w [.string k] 9
  refine .inr ⟨w.heap.size, 0, rfl, by rw [size_alloc1]; omega, fun j u hj => ?_⟩
  have hj' : [Value.string k][j]? = some u := hj
  rw [Nat.zero_add]
  exact h.at j u hj'
set_option maxHeartbeats 4000000 in
set_option maxRecDepth 20000 in
theorem join_branch (l r : Nod) (p q : Pt) (k : ByteArray) (w : World) (hL : Lies w l p) (hR : Lies w r q) (hFl : Fit l) (hFr : Fit r) (hk : k.size ≤ 140737488355328) (hz1 : l.cells.length + r.cells.length ≤ 900) (hz2 : l.keys.length + r.keys.length ≤ 900) (hz3 : l.kids.length + r.kids.length ≤ 900) (hml : Sl.may l = true) (hmr : Sl.may r = true) (hlf : l.leaf = false) (hrf : r.leaf = false) :
    Calls Try.prog 21 #[nv l p, nv r q, .string k] w (JoPost w l r k) := by
  have hfj := fit_join (k := k) hFl hFr hk hz1 hz2 hz3
  have HNO := (show Hid (∀ (e : Ending) (w' : World), joinOk l r k = false → e = .returned (.tuple #[nv Sl.nod0 ⟨none, 0, none, 0, none, 0⟩, .int .i64 2]) → Below w.heap.size w w' → JoPost w l r k e w') from fun e w' h he hB => jo_no e w' h he hB)
  have HYE0 := (show Hid (∀ (n : Nod), joinN l r k = n → ∀ (e : Ending) (w' : World) (p : Pt), joinOk l r k = true → e = .returned (.tuple #[nv n p, .int .i64 0]) → LiesF w' w.heap.size n p → Below w.heap.size w w' → JoPost w l r k e w') from fun n hn e w' p h he hL hB => jo_yes n hn e w' p h he hL hB)
  have HC1 := fun (W : World) (h : Below w.heap.size w W) => check_any l p W (hL.below h) hFl
  have HC2 := fun (W : World) (h : Below w.heap.size w W) => check_any r q W (hR.below h) hFr
  unfold checkE at HC1 HC2
  rw [hml] at HC1
  rw [hmr] at HC2
  simp only [if_true] at HC1 HC2
  have hok : joinOk l r k = ((l.leaf || Sl.isKey k) && Sl.rise (Sl.keysOf (joinN l r k))) := by
    unfold joinOk
    rw [hml, hmr, hlf, hrf]
    rfl
  have HAC := fun (W : World) (h : Below w.heap.size w W) => appC_any p.a1 l.cells.length p.c1 l.cells q.a1 r.cells.length q.c1 r.cells W (hL.r1.below h) (hR.r1.below h) rfl rfl hL.l1 (by omega)
  have HAI := fun (W : World) (h : Below w.heap.size w W) => appI_any p.a3 l.kids.length p.c3 l.kids q.a3 r.kids.length q.c3 r.kids W (hL.r3.below h) (hR.r3.below h) rfl rfl hL.l3 (by omega)
  have HA1 : Hid (RowAt w p.a1 (cvals l.cells)) := hL.r1
  have HA3 : Hid (RowAt w p.a3 (icells l.kids)) := hL.r3
  have HAS := fun (W : World) (h : Below w.heap.size w W) => appS_any p.a2 l.keys.length p.c2 l.keys q.a2 r.keys.length q.c2 r.keys W (hL.r2.below h) (hR.r2.below h) rfl rfl hL.l2 (by omega)
  have HA2 : Hid (RowAt w p.a2 (kcells l.keys)) := hL.r2
  have HIK := fun (W : World) => isKey_any k W (by omega)
  have HSP := fun (x : Option Addr) (c : Nat) (z : Option Addr) (W : World) (h : RowAt W x (kcells (l.keys ++ r.keys))) (h' : RowAt W z (kcells [k])) (hc : l.keys.length + r.keys.length ≤ c) (hm : c ≤ 9223372036854775807) => splS_any x (l.keys.length + r.keys.length) c (l.keys ++ r.keys) l.keys.length l.keys.length z 1 1 [k] W h h' (by rw [List.length_append]) rfl (Nat.le_refl _) (by omega) hc hm (by omega)
  simp only [List.take_left, List.drop_left, Nat.add_sub_cancel_left] at HSP
  obtain ⟨lf, cl, kl, dl⟩ := l
  obtain ⟨rf, cr, kr, dr⟩ := r
  obtain ⟨a1, c1, a2, c2, a3, c3⟩ := p
  obtain ⟨b1, e1, b2, e2, b3, e3⟩ := q
  simp only at hlf hrf
  subst hlf hrf
  have hjn : joinN ⟨false, cl, kl, dl⟩ ⟨false, cr, kr, dr⟩ k = ⟨false, cl ++ cr, kl ++ [k] ++ kr, dl ++ dr⟩ := rfl
  rw [hjn] at hok hfj
  have HKO := fun (P : Pt) (W : World) (h : Lies W ⟨false, cl ++ cr, kl ++ [k] ++ kr, dl ++ dr⟩ P) => keysOf_any ⟨false, cl ++ cr, kl ++ [k] ++ kr, dl ++ dr⟩ P W h hfj
  have HOW := fun (P : Pt) (W : World) (h : Lies W ⟨false, cl ++ cr, kl ++ [k] ++ kr, dl ++ dr⟩ P) => own_any ⟨false, cl ++ cr, kl ++ [k] ++ kr, dl ++ dr⟩ P W h hfj
  have HRO := fun (ad : Option Addr) (cap : Nat) (W : World) (h : RowAt W ad (kcells (Sl.keysOf ⟨false, cl ++ cr, kl ++ [k] ++ kr, dl ++ dr⟩))) => rise_any ad cap (Sl.keysOf ⟨false, cl ++ cr, kl ++ [k] ++ kr, dl ++ dr⟩) W h (keysOf_fit hfj).1
  have HYE := (show Hid (∀ (e : Ending) (w' : World) (p : Pt), joinOk ⟨false, cl, kl, dl⟩ ⟨false, cr, kr, dr⟩ k = true → e = .returned (.tuple #[nv ⟨false, cl ++ cr, kl ++ [k] ++ kr, dl ++ dr⟩ p, .int .i64 0]) → LiesF w' w.heap.size ⟨false, cl ++ cr, kl ++ [k] ++ kr, dl ++ dr⟩ p → Below w.heap.size w w' → JoPost w ⟨false, cl, kl, dl⟩ ⟨false, cr, kr, dr⟩ k e w') from HYE0.out _ hjn)
  clear hL hR hFl hFr hml hmr hfj hjn HYE0
  unfold nv at *
  simp only at HC1 HC2 HAC HAI HA1 HA3 HKO HOW HYE HNO HAS HA2 HSP ⊢
  have HRR := (show Hid (joinOk ⟨false, cl, kl, dl⟩ ⟨false, cr, kr, dr⟩ k = (Sl.isKey k && Sl.rise (Sl.keysOf ⟨false, cl ++ cr, kl ++ [k] ++ kr, dl ++ dr⟩))) from hok)
  clear hok
  generalize Sl.rise (Sl.keysOf ⟨false, cl ++ cr, kl ++ [k] ++ kr, dl ++ dr⟩) = RR at *
  generalize Sl.isKey k = KB at *
  have HS0 := (show Hid (Below w.heap.size w (((w.alloc (.cells #[.bool false, .slice a1 cl.length c1, .slice a2 kl.length c2, .slice a3 dl.length c3] 26)).alloc (.cells #[.bool false, .slice b1 cr.length e1, .slice b2 kr.length e2, .slice b3 dr.length e3] 26)).alloc (.cells #[.bool false, .slice none 0 0, .slice none 0 0, .slice none 0 0] 26)) ∧ (Brow (((w.alloc (.cells #[.bool false, .slice a1 cl.length c1, .slice a2 kl.length c2, .slice a3 dl.length c3] 26)).alloc (.cells #[.bool false, .slice b1 cr.length e1, .slice b2 kr.length e2, .slice b3 dr.length e3] 26)).alloc (.cells #[.bool false, .slice none 0 0, .slice none 0 0, .slice none 0 0] 26)) w.heap.size [.bool false, .slice a1 cl.length c1, .slice a2 kl.length c2, .slice a3 dl.length c3] 26 ∧ Brow (((w.alloc (.cells #[.bool false, .slice a1 cl.length c1, .slice a2 kl.length c2, .slice a3 dl.length c3] 26)).alloc (.cells #[.bool false, .slice b1 cr.length e1, .slice b2 kr.length e2, .slice b3 dr.length e3] 26)).alloc (.cells #[.bool false, .slice none 0 0, .slice none 0 0, .slice none 0 0] 26)) (w.heap.size + 1) [.bool false, .slice b1 cr.length e1, .slice b2 kr.length e2, .slice b3 dr.length e3] 26) ∧ Brow (((w.alloc (.cells #[.bool false, .slice a1 cl.length c1, .slice a2 kl.length c2, .slice a3 dl.length c3] 26)).alloc (.cells #[.bool false, .slice b1 cr.length e1, .slice b2 kr.length e2, .slice b3 dr.length e3] 26)).alloc (.cells #[.bool false, .slice none 0 0, .slice none 0 0, .slice none 0 0] 26)) (w.heap.size + 2) [.bool false, .slice none 0 0, .slice none 0 0, .slice none 0 0] 26) from ⟨((below_alloc _ _).alloc (by rw [size_alloc1]; omega) _).alloc (by rw [size_alloc1, size_alloc1]; omega) _, ⟨((Brow.new w [.bool false, .slice a1 cl.length c1, .slice a2 kl.length c2, .slice a3 dl.length c3] 26).alloc _).alloc _, by
    have := (Brow.new (w.alloc (.cells #[.bool false, .slice a1 cl.length c1, .slice a2 kl.length c2, .slice a3 dl.length c3] 26)) [.bool false, .slice b1 cr.length e1, .slice b2 kr.length e2, .slice b3 dr.length e3] 26).alloc (.cells #[.bool false, .slice none 0 0, .slice none 0 0, .slice none 0 0] 26)
    rwa [size_alloc1] at this⟩, by
    have := Brow.new ((w.alloc (.cells #[.bool false, .slice a1 cl.length c1, .slice a2 kl.length c2, .slice a3 dl.length c3] 26)).alloc (.cells #[.bool false, .slice b1 cr.length e1, .slice b2 kr.length e2, .slice b3 dr.length e3] 26)) [.bool false, .slice none 0 0, .slice none 0 0, .slice none 0 0] 26
    rwa [size_alloc1, size_alloc1] at this⟩)
  have hs0 : w.heap.size + 3 ≤ (((w.alloc (.cells #[.bool false, .slice a1 cl.length c1, .slice a2 kl.length c2, .slice a3 dl.length c3] 26)).alloc (.cells #[.bool false, .slice b1 cr.length e1, .slice b2 kr.length e2, .slice b3 dr.length e3] 26)).alloc (.cells #[.bool false, .slice none 0 0, .slice none 0 0, .slice none 0 0] 26)).heap.size := by rw [size_alloc1, size_alloc1, size_alloc1]; omega
  go_enter Try.func21, Try.ntmps21
  go_wp2_with fail
  refine (HC1 _ HS0.out.1).mono ?_
  rintro e w1 ⟨rfl, hB1⟩
  have HS1 := (show Hid (Below w.heap.size w w1 ∧ (Brow w1 w.heap.size [.bool false, .slice a1 cl.length c1, .slice a2 kl.length c2, .slice a3 dl.length c3] 26 ∧ Brow w1 (w.heap.size + 1) [.bool false, .slice b1 cr.length e1, .slice b2 kr.length e2, .slice b3 dr.length e3] 26) ∧ Brow w1 (w.heap.size + 2) [.bool false, .slice none 0 0, .slice none 0 0, .slice none 0 0] 26) from ⟨HS0.out.1.trans (hB1.mono (by omega)), ⟨HS0.out.2.1.1.below hB1 (by omega), HS0.out.2.1.2.below hB1 (by omega)⟩, HS0.out.2.2.below hB1 (by omega)⟩)
  have hs1 : w.heap.size + 3 ≤ w1.heap.size := Nat.le_trans hs0 hB1.size
  clear hB1 HS0 hs0 HC1
  have q0 := HS1.out.2.1.1.at 0 _ rfl
  have q1 := HS1.out.2.1.1.at 1 _ rfl
  have q2 := HS1.out.2.1.1.at 2 _ rfl
  have q3 := HS1.out.2.1.1.at 3 _ rfl
  have r0 := HS1.out.2.1.2.at 0 _ rfl
  have r1 := HS1.out.2.1.2.at 1 _ rfl
  have r2 := HS1.out.2.1.2.at 2 _ rfl
  have r3 := HS1.out.2.1.2.at 3 _ rfl
  go_wp2_with fail
  refine (HC2 _ HS1.out.1).mono ?_
  rintro e w2 ⟨rfl, hB2⟩
  have HS2 := (show Hid (Below w.heap.size w w2 ∧ (Brow w2 w.heap.size [.bool false, .slice a1 cl.length c1, .slice a2 kl.length c2, .slice a3 dl.length c3] 26 ∧ Brow w2 (w.heap.size + 1) [.bool false, .slice b1 cr.length e1, .slice b2 kr.length e2, .slice b3 dr.length e3] 26) ∧ Brow w2 (w.heap.size + 2) [.bool false, .slice none 0 0, .slice none 0 0, .slice none 0 0] 26) from ⟨HS1.out.1.trans (hB2.mono (by omega)), ⟨HS1.out.2.1.1.below hB2 (by omega), HS1.out.2.1.2.below hB2 (by omega)⟩, HS1.out.2.2.below hB2 (by omega)⟩)
  have hs2 : w.heap.size + 3 ≤ w2.heap.size := Nat.le_trans hs1 hB2.size
  clear hB2 HS1 hs1 HC2 q0 q1 q2 q3 r0 r1 r2 r3
  have q0 := HS2.out.2.1.1.at 0 _ rfl
  have q1 := HS2.out.2.1.1.at 1 _ rfl
  have q2 := HS2.out.2.1.1.at 2 _ rfl
  have q3 := HS2.out.2.1.1.at 3 _ rfl
  have r0 := HS2.out.2.1.2.at 0 _ rfl
  have r1 := HS2.out.2.1.2.at 1 _ rfl
  have r2 := HS2.out.2.1.2.at 2 _ rfl
  have r3 := HS2.out.2.1.2.at 3 _ rfl
  go_wp2_with fail
  refine (HIK w2).mono ?_
  rintro e wS ⟨rfl, hwS⟩
  rw [hwS]
  clear hwS wS HIK
  cases KB with
  | false =>
    clear q0 q1 q2 q3 r0 r1 r2 r3
    have HFR := (show Hid (Brow (setN w2 (w.heap.size + 2) (.bool false) (.slice none 0 0) (.slice none 0 0) (.slice none 0 0)) (w.heap.size + 2) [.bool false, .slice none 0 0, .slice none 0 0, .slice none 0 0] 26) from setN_row HS2.out.2.2 _ _ _ _)
    have HFB := (show Hid (Below w.heap.size w (setN w2 (w.heap.size + 2) (.bool false) (.slice none 0 0) (.slice none 0 0) (.slice none 0 0))) from setN_below HS2.out.1 (by omega) _ _ _ _)
    have y0 := HS2.out.2.2.at 0 _ rfl
    have y1 := HS2.out.2.2.at 1 _ rfl
    have y2 := HS2.out.2.2.at 2 _ rfl
    have y3 := HS2.out.2.2.at 3 _ rfl
    have z0 := HS2.out.2.2.fz 0
    have z1 := HS2.out.2.2.fz 1
    have z2 := HS2.out.2.2.fz 2
    have z3 := HS2.out.2.2.fz 3
    unfold setN at HFR HFB
    go_wp2
    refine bodyPost_ret (res_ct rfl _ _ (w.heap.size + 2) 26 _ _ rfl HFR.out Try.underlying26 rfl (by kernel_rfl)) rfl ?_
    exact HNO.out _ _ (HRR.out.trans rfl) rfl HFB.out
  | true =>
    go_upto_region 5 with fail
    go_cut [8] from 34 (fun s8 wx => ∃ X x1 y1 x3 y3, s8 = .pointer (some ⟨X, 0, none⟩) ∧ NX w wx X ⟨false, cl ++ cr, [], dl ++ dr⟩ ⟨x1, y1, none, 0, x3, y3⟩ ∧ (fun W : World => Brow W w.heap.size [.bool false, .slice a1 cl.length c1, .slice a2 kl.length c2, .slice a3 dl.length c3] 26 ∧ Brow W (w.heap.size + 1) [.bool false, .slice b1 cr.length e1, .slice b2 kr.length e2, .slice b3 dr.length e3] 26) wx)
    case first =>
      clear HNO HYE HKO HOW HRO HAS HSP HA2
      have HS5 := (show Hid (Below w.heap.size w w2.drew ∧ (Brow w2.drew w.heap.size [.bool false, .slice a1 cl.length c1, .slice a2 kl.length c2, .slice a3 dl.length c3] 26 ∧ Brow w2.drew (w.heap.size + 1) [.bool false, .slice b1 cr.length e1, .slice b2 kr.length e2, .slice b3 dr.length e3] 26) ∧ Brow w2.drew (w.heap.size + 2) [.bool false, .slice none 0 0, .slice none 0 0, .slice none 0 0] 26) from ⟨HS2.out.1.drew, ⟨HS2.out.2.1.1.drew, HS2.out.2.1.2.drew⟩, HS2.out.2.2.drew⟩)
      have hs5 : w.heap.size + 3 ≤ w2.drew.heap.size := hs2
      refine wp_region_held_drew (S := (fun W : World => Brow W w.heap.size [.bool false, .slice a1 cl.length c1, .slice a2 kl.length c2, .slice a3 dl.length c3] 26 ∧ Brow W (w.heap.size + 1) [.bool false, .slice b1 cr.length e1, .slice b2 kr.length e2, .slice b3 dr.length e3] 26)) (by kernel_rfl) HS5.out.2.1 (fun _ => ?_)
      generalize w2.drew = w5 at *
      clear HS2 hs2
      refine heldTake 0 (some 34) (.pointer (some ⟨w.heap.size, 0, none⟩)) rfl rfl (by kernel_rfl) (by kernel_rfl) (by kernel_rfl) (fun _ _ _ h => h) (Or.inl ⟨by rfl, fun w hS => ?_⟩) HS5.out.2.1 ?_
      · (go_simp)
      simp only [Act.put, List.setIfInBounds_toArray, List.set_cons_zero, List.set_cons_succ]
      refine heldTake 1 (some 35) (.bool false) rfl rfl (by kernel_rfl) (by kernel_rfl) (by kernel_rfl) (fun _ _ _ h => h) (Or.inl ⟨by rfl, fun w hS => ?_⟩) HS5.out.2.1 ?_
      · (have q := hS.1.at 0 _ rfl; go_simp)
      simp only [Act.put, List.setIfInBounds_toArray, List.set_cons_zero, List.set_cons_succ]
      refine heldTake 2 (some 36) (.pointer (some ⟨w.heap.size, 1, none⟩)) rfl rfl (by kernel_rfl) (by kernel_rfl) (by kernel_rfl) (fun _ _ _ h => h) (Or.inl ⟨by rfl, fun w hS => ?_⟩) HS5.out.2.1 ?_
      · (go_simp)
      simp only [Act.put, List.setIfInBounds_toArray, List.set_cons_zero, List.set_cons_succ]
      refine heldTake 3 (some 37) (.slice a1 cl.length c1) rfl rfl (by kernel_rfl) (by kernel_rfl) (by kernel_rfl) (fun _ _ _ h => h) (Or.inl ⟨by rfl, fun w hS => ?_⟩) HS5.out.2.1 ?_
      · (have q := hS.1.at 1 _ rfl; go_simp)
      simp only [Act.put, List.setIfInBounds_toArray, List.set_cons_zero, List.set_cons_succ]
      refine heldTake 4 (some 38) (.pointer (some ⟨w.heap.size + 1, 1, none⟩)) rfl rfl (by kernel_rfl) (by kernel_rfl) (by kernel_rfl) (fun _ _ _ h => h) (Or.inl ⟨by rfl, fun w hS => ?_⟩) HS5.out.2.1 ?_
      · (go_simp)
      simp only [Act.put, List.setIfInBounds_toArray, List.set_cons_zero, List.set_cons_succ]
      refine heldTake 5 (some 39) (.slice b1 cr.length e1) rfl rfl (by kernel_rfl) (by kernel_rfl) (by kernel_rfl) (fun _ _ _ h => h) (Or.inl ⟨by rfl, fun w hS => ?_⟩) HS5.out.2.1 ?_
      · (have q := hS.2.at 1 _ rfl; go_simp)
      simp only [Act.put, List.setIfInBounds_toArray, List.set_cons_zero, List.set_cons_succ]
      refine heldTake 7 (some 41) (.pointer (some ⟨w.heap.size, 3, none⟩)) rfl rfl (by kernel_rfl) (by kernel_rfl) (by kernel_rfl) (fun _ _ _ h => h) (Or.inl ⟨by rfl, fun w hS => ?_⟩) HS5.out.2.1 ?_
      · (go_simp)
      simp only [Act.put, List.setIfInBounds_toArray, List.set_cons_zero, List.set_cons_succ]
      refine heldTake 8 (some 42) (.slice a3 dl.length c3) rfl rfl (by kernel_rfl) (by kernel_rfl) (by kernel_rfl) (fun _ _ _ h => h) (Or.inl ⟨by rfl, fun w hS => ?_⟩) HS5.out.2.1 ?_
      · (have q := hS.1.at 3 _ rfl; go_simp)
      simp only [Act.put, List.setIfInBounds_toArray, List.set_cons_zero, List.set_cons_succ]
      refine heldTake 9 (some 43) (.pointer (some ⟨w.heap.size + 1, 3, none⟩)) rfl rfl (by kernel_rfl) (by kernel_rfl) (by kernel_rfl) (fun _ _ _ h => h) (Or.inl ⟨by rfl, fun w hS => ?_⟩) HS5.out.2.1 ?_
      · (go_simp)
      simp only [Act.put, List.setIfInBounds_toArray, List.set_cons_zero, List.set_cons_succ]
      refine heldTake 10 (some 44) (.slice b3 dr.length e3) rfl rfl (by kernel_rfl) (by kernel_rfl) (by kernel_rfl) (fun _ _ _ h => h) (Or.inl ⟨by rfl, fun w hS => ?_⟩) HS5.out.2.1 ?_
      · (have q := hS.2.at 3 _ rfl; go_simp)
      simp only [Act.put, List.setIfInBounds_toArray, List.set_cons_zero, List.set_cons_succ]
      refine heldTwo 6 13 (by kernel_rfl) rfl rfl (by rfl) (by rfl) (fun KK hK => ?_) (fun KK hK => ?_)
      · go_simp
        go_at_call 39
        refine (HAC w5 HS5.out.1).mono ?_
        rintro e w6 ⟨x1, y1, rfl, g1, g2, hR6, hB6, hX6⟩
        have HS6 := (show Hid (Below w.heap.size w w6 ∧ (Brow w6 w.heap.size [.bool false, .slice a1 cl.length c1, .slice a2 kl.length c2, .slice a3 dl.length c3] 26 ∧ Brow w6 (w.heap.size + 1) [.bool false, .slice b1 cr.length e1, .slice b2 kr.length e2, .slice b3 dr.length e3] 26) ∧ Brow w6 (w.heap.size + 2) [.bool false, .slice none 0 0, .slice none 0 0, .slice none 0 0] 26) from ⟨HS5.out.1.trans (hB6.mono (by omega)), ⟨HS5.out.2.1.1.below hB6 (by omega), HS5.out.2.1.2.below hB6 (by omega)⟩, HS5.out.2.2.below hB6 (by omega)⟩)
        have hs6 : w.heap.size + 3 ≤ w6.heap.size := Nat.le_trans hs5 hB6.size
        have HK1 : Hid (cl.length + cr.length ≤ y1 ∧ y1 ≤ 9223372036854775807) := ⟨g1, g2⟩
        have HR6 := (show Hid (RowAt w6 x1 (cvals (cl ++ cr))) from hR6)
        clear g1 g2 hR6 hX6 HS5 hs5 HAC
        clear hB6
        refine hK.out _ _ HS6.out.2.1 ?_
        clear hK KK
        try simp only [Act.put, List.setIfInBounds_toArray, List.set_cons_zero, List.set_cons_succ]
        refine heldTwo 11 13 (by kernel_rfl) rfl rfl (by rfl) (by rfl) (fun KK hK => ?_) (fun KK hK => ?_)
        · go_simp
          go_at_call 40
          refine (HAI w6 HS6.out.1).mono ?_
          rintro e w7 ⟨x3, y3, rfl, g1, g2, hR7, hB7, hX7⟩
          have HS7 := (show Hid (Below w.heap.size w w7 ∧ (Brow w7 w.heap.size [.bool false, .slice a1 cl.length c1, .slice a2 kl.length c2, .slice a3 dl.length c3] 26 ∧ Brow w7 (w.heap.size + 1) [.bool false, .slice b1 cr.length e1, .slice b2 kr.length e2, .slice b3 dr.length e3] 26) ∧ Brow w7 (w.heap.size + 2) [.bool false, .slice none 0 0, .slice none 0 0, .slice none 0 0] 26) from ⟨HS6.out.1.trans (hB7.mono (by omega)), ⟨HS6.out.2.1.1.below hB7 (by omega), HS6.out.2.1.2.below hB7 (by omega)⟩, HS6.out.2.2.below hB7 (by omega)⟩)
          have hs7 : w.heap.size + 3 ≤ w7.heap.size := Nat.le_trans hs6 hB7.size
          have HK3 : Hid (dl.length + dr.length ≤ y3 ∧ y3 ≤ 9223372036854775807) := ⟨g1, g2⟩
          have HR7 := (show Hid (RowAt w7 x1 (cvals (cl ++ cr)) ∧ RowAt w7 x3 (icells (dl ++ dr))) from ⟨HR6.out.below hB7, hR7⟩)
          clear g1 g2 hR7 hX7 HS6 hs6 HAI HR6
          clear hB7
          refine hK.out _ _ HS7.out.2.1 ?_
          clear hK KK
          try simp only [Act.put, List.setIfInBounds_toArray, List.set_cons_zero, List.set_cons_succ]
          refine heldTake 12 (some 46) (.agg #[.bool false, .slice x1 (cl.length + cr.length) y1, .slice none 0 0, .slice x3 (dl.length + dr.length) y3]) rfl rfl (by kernel_rfl) (by kernel_rfl) (by kernel_rfl) (fun _ _ _ h => h) (Or.inl ⟨by rfl, fun w hS => ?_⟩) HS7.out.2.1 ?_
          · (go_simp)
          simp only [Act.put, List.setIfInBounds_toArray, List.set_cons_zero, List.set_cons_succ]
          refine heldOne 13 (by kernel_rfl) rfl (by rfl) (fun KK hK => ?_)
          go_simp
          have HS8 := (show Hid (Below w.heap.size w (w7.alloc (.cells #[.bool false, .slice none 0 0, .slice none 0 0, .slice none 0 0] 26)) ∧ (Brow (w7.alloc (.cells #[.bool false, .slice none 0 0, .slice none 0 0, .slice none 0 0] 26)) w.heap.size [.bool false, .slice a1 cl.length c1, .slice a2 kl.length c2, .slice a3 dl.length c3] 26 ∧ Brow (w7.alloc (.cells #[.bool false, .slice none 0 0, .slice none 0 0, .slice none 0 0] 26)) (w.heap.size + 1) [.bool false, .slice b1 cr.length e1, .slice b2 kr.length e2, .slice b3 dr.length e3] 26) ∧ Brow (w7.alloc (.cells #[.bool false, .slice none 0 0, .slice none 0 0, .slice none 0 0] 26)) (w.heap.size + 2) [.bool false, .slice none 0 0, .slice none 0 0, .slice none 0 0] 26) from ⟨HS7.out.1.alloc (by omega) _, ⟨HS7.out.2.1.1.alloc _, HS7.out.2.1.2.alloc _⟩, HS7.out.2.2.alloc _⟩)
          have HX8 := (show Hid (Brow (w7.alloc (.cells #[.bool false, .slice none 0 0, .slice none 0 0, .slice none 0 0] 26)) w7.heap.size [.bool false, .slice none 0 0, .slice none 0 0, .slice none 0 0] 26) from Brow.new w7 [.bool false, .slice none 0 0, .slice none 0 0, .slice none 0 0] 26)
          have hs8 : w7.heap.size + 1 ≤ (w7.alloc (.cells #[.bool false, .slice none 0 0, .slice none 0 0, .slice none 0 0] 26)).heap.size := by rw [size_alloc1]; omega
          have hB8 : Below w7.heap.size w7 (w7.alloc (.cells #[.bool false, .slice none 0 0, .slice none 0 0, .slice none 0 0] 26)) := below_alloc _ _
          have HR8 := (show Hid (RowBut (w7.alloc (.cells #[.bool false, .slice none 0 0, .slice none 0 0, .slice none 0 0] 26)) w7.heap.size x1 (cvals (cl ++ cr)) ∧ RowBut (w7.alloc (.cells #[.bool false, .slice none 0 0, .slice none 0 0, .slice none 0 0] 26)) w7.heap.size x3 (icells (dl ++ dr))) from ⟨(HR7.out.1.but (Nat.le_refl _)).below hB8, (HR7.out.2.but (Nat.le_refl _)).below hB8⟩)
          clear HR7 HS7
          clear hB8
          refine hK.out _ _ HS8.out.2.1 ?_
          clear hK KK
          try simp only [Act.put, List.setIfInBounds_toArray, List.set_cons_zero, List.set_cons_succ]
          generalize (w7.alloc (.cells #[.bool false, .slice none 0 0, .slice none 0 0, .slice none 0 0] 26)) = w8 at *
          have hXg : w.heap.size + 3 ≤ w7.heap.size := by omega
          have HBB := (show Hid (Below w.heap.size w (setN w8 w7.heap.size (.bool false) (.slice x1 (cl.length + cr.length) y1) (.slice none 0 0) (.slice x3 (dl.length + dr.length) y3))) from setN_below HS8.out.1 (by omega) _ _ _ _)
          have HXB := (show Hid (Brow (setN w8 w7.heap.size (.bool false) (.slice x1 (cl.length + cr.length) y1) (.slice none 0 0) (.slice x3 (dl.length + dr.length) y3)) w7.heap.size [.bool false, .slice x1 (cl.length + cr.length) y1, .slice none 0 0, .slice x3 (dl.length + dr.length) y3] 26) from setN_row HX8.out _ _ _ _)
          have HNB := (show Hid ((fun W : World => Brow W w.heap.size [.bool false, .slice a1 cl.length c1, .slice a2 kl.length c2, .slice a3 dl.length c3] 26 ∧ Brow W (w.heap.size + 1) [.bool false, .slice b1 cr.length e1, .slice b2 kr.length e2, .slice b3 dr.length e3] 26) (setN w8 w7.heap.size (.bool false) (.slice x1 (cl.length + cr.length) y1) (.slice none 0 0) (.slice x3 (dl.length + dr.length) y3))) from ⟨setN_far HS8.out.2.1.1 (by omega) _ _ _ _, setN_far HS8.out.2.1.2 (by omega) _ _ _ _⟩)
          have HZB := (show Hid (Brow (setN w8 w7.heap.size (.bool false) (.slice x1 (cl.length + cr.length) y1) (.slice none 0 0) (.slice x3 (dl.length + dr.length) y3)) (w.heap.size + 2) [.bool false, .slice none 0 0, .slice none 0 0, .slice none 0 0] 26) from setN_far HS8.out.2.2 (by omega) _ _ _ _)
          have HRB := (show Hid (RowBut (setN w8 w7.heap.size (.bool false) (.slice x1 (cl.length + cr.length) y1) (.slice none 0 0) (.slice x3 (dl.length + dr.length) y3)) w7.heap.size x1 (cvals (cl ++ cr)) ∧ RowBut (setN w8 w7.heap.size (.bool false) (.slice x1 (cl.length + cr.length) y1) (.slice none 0 0) (.slice x3 (dl.length + dr.length) y3)) w7.heap.size x3 (icells (dl ++ dr))) from ⟨setN_but HR8.out.1 _ _ _ _, setN_but HR8.out.2 _ _ _ _⟩)
          have y_0 := HX8.out.at 0 _ rfl
          have y_1 := HX8.out.at 1 _ rfl
          have y_2 := HX8.out.at 2 _ rfl
          have y_3 := HX8.out.at 3 _ rfl
          have z_0 := HX8.out.fz 0
          have z_1 := HX8.out.fz 1
          have z_2 := HX8.out.fz 2
          have z_3 := HX8.out.fz 3
          unfold setN at HBB HXB HNB HZB HRB
          refine heldOne 14 (by kernel_rfl) rfl (by rfl) (fun KK hK => ?_)
          go_simp
          refine hK.out _ _ HNB.out ?_
          clear hK KK
          try simp only [Act.put, List.setIfInBounds_toArray, List.set_cons_zero, List.set_cons_succ]
          refine wpAnyH_done (by kernel_rfl) ?_ _
          clear y_0 y_1 y_2 y_3 z_0 z_1 z_2 z_3
          go_wp2_with fail
          go_meet
          case rel => exact ⟨w7.heap.size, x1, y1, x3, y3, rfl, ⟨by simp only [List.length_append, List.length_nil]; exact HXB.out, HRB.out.1, nil_but _ _ _, HRB.out.2, by simp only [List.length_append]; exact HK1.out.1, Nat.le_refl _, by simp only [List.length_append]; exact HK3.out.1, HK1.out.2, by show 0 ≤ 9223372036854775807; omega, HK3.out.2, HZB.out, HBB.out, hXg⟩, HNB.out⟩
        · go_simp
          have HS7 := (show Hid (Below w.heap.size w (w6.alloc (.cells #[.bool false, .slice none 0 0, .slice none 0 0, .slice none 0 0] 26)) ∧ (Brow (w6.alloc (.cells #[.bool false, .slice none 0 0, .slice none 0 0, .slice none 0 0] 26)) w.heap.size [.bool false, .slice a1 cl.length c1, .slice a2 kl.length c2, .slice a3 dl.length c3] 26 ∧ Brow (w6.alloc (.cells #[.bool false, .slice none 0 0, .slice none 0 0, .slice none 0 0] 26)) (w.heap.size + 1) [.bool false, .slice b1 cr.length e1, .slice b2 kr.length e2, .slice b3 dr.length e3] 26) ∧ Brow (w6.alloc (.cells #[.bool false, .slice none 0 0, .slice none 0 0, .slice none 0 0] 26)) (w.heap.size + 2) [.bool false, .slice none 0 0, .slice none 0 0, .slice none 0 0] 26) from ⟨HS6.out.1.alloc (by omega) _, ⟨HS6.out.2.1.1.alloc _, HS6.out.2.1.2.alloc _⟩, HS6.out.2.2.alloc _⟩)
          have HX7 := (show Hid (Brow (w6.alloc (.cells #[.bool false, .slice none 0 0, .slice none 0 0, .slice none 0 0] 26)) w6.heap.size [.bool false, .slice none 0 0, .slice none 0 0, .slice none 0 0] 26) from Brow.new w6 [.bool false, .slice none 0 0, .slice none 0 0, .slice none 0 0] 26)
          have hs7 : w6.heap.size + 1 ≤ (w6.alloc (.cells #[.bool false, .slice none 0 0, .slice none 0 0, .slice none 0 0] 26)).heap.size := by rw [size_alloc1]; omega
          have hB7 : Below w6.heap.size w6 (w6.alloc (.cells #[.bool false, .slice none 0 0, .slice none 0 0, .slice none 0 0] 26)) := below_alloc _ _
          have HR7 := (show Hid (RowBut (w6.alloc (.cells #[.bool false, .slice none 0 0, .slice none 0 0, .slice none 0 0] 26)) w6.heap.size x1 (cvals (cl ++ cr)) ∧ RowBut (w6.alloc (.cells #[.bool false, .slice none 0 0, .slice none 0 0, .slice none 0 0] 26)) w6.heap.size a3 (icells dl)) from ⟨(HR6.out.but (Nat.le_refl _)).below hB7, (HA3.out.but (by omega)).below HS7.out.1⟩)
          clear HR6 HS6
          clear hB7
          refine hK.out _ _ HS7.out.2.1 ?_
          clear hK KK
          try simp only [Act.put, List.setIfInBounds_toArray, List.set_cons_zero, List.set_cons_succ]
          generalize (w6.alloc (.cells #[.bool false, .slice none 0 0, .slice none 0 0, .slice none 0 0] 26)) = w7 at *
          have hs7' : w.heap.size + 3 ≤ w7.heap.size := by omega
          refine heldOne 11 (by kernel_rfl) rfl (by rfl) (fun KK hK => ?_)
          go_simp
          go_at_call 40
          refine (HAI w7 HS7.out.1).mono ?_
          rintro e w8 ⟨x3, y3, rfl, g1, g2, hR8, hB8, hX8⟩
          have HS8 := (show Hid (Below w.heap.size w w8 ∧ (Brow w8 w.heap.size [.bool false, .slice a1 cl.length c1, .slice a2 kl.length c2, .slice a3 dl.length c3] 26 ∧ Brow w8 (w.heap.size + 1) [.bool false, .slice b1 cr.length e1, .slice b2 kr.length e2, .slice b3 dr.length e3] 26) ∧ Brow w8 (w.heap.size + 2) [.bool false, .slice none 0 0, .slice none 0 0, .slice none 0 0] 26) from ⟨HS7.out.1.trans (hB8.mono (by omega)), ⟨HS7.out.2.1.1.below hB8 (by omega), HS7.out.2.1.2.below hB8 (by omega)⟩, HS7.out.2.2.below hB8 (by omega)⟩)
          have hs8 : w.heap.size + 3 ≤ w8.heap.size := Nat.le_trans hs7' hB8.size
          have HK3 : Hid (dl.length + dr.length ≤ y3 ∧ y3 ≤ 9223372036854775807) := ⟨g1, g2⟩
          have HR8 := (show Hid (RowBut w8 w6.heap.size x1 (cvals (cl ++ cr)) ∧ RowBut w8 w6.heap.size x3 (icells (dl ++ dr))) from ⟨HR7.out.1.below hB8, hX8 _ (by omega) HR7.out.2⟩)
          have HX8 := (show Hid (Brow w8 w6.heap.size [.bool false, .slice none 0 0, .slice none 0 0, .slice none 0 0] 26) from HX7.out.below hB8 (by omega))
          clear g1 g2 hR8 hX8 HS7 HAI HR7 HX7
          clear hB8
          refine hK.out _ _ HS8.out.2.1 ?_
          clear hK KK
          try simp only [Act.put, List.setIfInBounds_toArray, List.set_cons_zero, List.set_cons_succ]
          refine heldTake 12 (some 46) (.agg #[.bool false, .slice x1 (cl.length + cr.length) y1, .slice none 0 0, .slice x3 (dl.length + dr.length) y3]) rfl rfl (by kernel_rfl) (by kernel_rfl) (by kernel_rfl) (fun _ _ _ h => h) (Or.inl ⟨by rfl, fun w hS => ?_⟩) HS8.out.2.1 ?_
          · (go_simp)
          simp only [Act.put, List.setIfInBounds_toArray, List.set_cons_zero, List.set_cons_succ]
          have hXg : w.heap.size + 3 ≤ w6.heap.size := by omega
          have HBB := (show Hid (Below w.heap.size w (setN w8 w6.heap.size (.bool false) (.slice x1 (cl.length + cr.length) y1) (.slice none 0 0) (.slice x3 (dl.length + dr.length) y3))) from setN_below HS8.out.1 (by omega) _ _ _ _)
          have HXB := (show Hid (Brow (setN w8 w6.heap.size (.bool false) (.slice x1 (cl.length + cr.length) y1) (.slice none 0 0) (.slice x3 (dl.length + dr.length) y3)) w6.heap.size [.bool false, .slice x1 (cl.length + cr.length) y1, .slice none 0 0, .slice x3 (dl.length + dr.length) y3] 26) from setN_row HX8.out _ _ _ _)
          have HNB := (show Hid ((fun W : World => Brow W w.heap.size [.bool false, .slice a1 cl.length c1, .slice a2 kl.length c2, .slice a3 dl.length c3] 26 ∧ Brow W (w.heap.size + 1) [.bool false, .slice b1 cr.length e1, .slice b2 kr.length e2, .slice b3 dr.length e3] 26) (setN w8 w6.heap.size (.bool false) (.slice x1 (cl.length + cr.length) y1) (.slice none 0 0) (.slice x3 (dl.length + dr.length) y3))) from ⟨setN_far HS8.out.2.1.1 (by omega) _ _ _ _, setN_far HS8.out.2.1.2 (by omega) _ _ _ _⟩)
          have HZB := (show Hid (Brow (setN w8 w6.heap.size (.bool false) (.slice x1 (cl.length + cr.length) y1) (.slice none 0 0) (.slice x3 (dl.length + dr.length) y3)) (w.heap.size + 2) [.bool false, .slice none 0 0, .slice none 0 0, .slice none 0 0] 26) from setN_far HS8.out.2.2 (by omega) _ _ _ _)
          have HRB := (show Hid (RowBut (setN w8 w6.heap.size (.bool false) (.slice x1 (cl.length + cr.length) y1) (.slice none 0 0) (.slice x3 (dl.length + dr.length) y3)) w6.heap.size x1 (cvals (cl ++ cr)) ∧ RowBut (setN w8 w6.heap.size (.bool false) (.slice x1 (cl.length + cr.length) y1) (.slice none 0 0) (.slice x3 (dl.length + dr.length) y3)) w6.heap.size x3 (icells (dl ++ dr))) from ⟨setN_but HR8.out.1 _ _ _ _, setN_but HR8.out.2 _ _ _ _⟩)
          have y_0 := HX8.out.at 0 _ rfl
          have y_1 := HX8.out.at 1 _ rfl
          have y_2 := HX8.out.at 2 _ rfl
          have y_3 := HX8.out.at 3 _ rfl
          have z_0 := HX8.out.fz 0
          have z_1 := HX8.out.fz 1
          have z_2 := HX8.out.fz 2
          have z_3 := HX8.out.fz 3
          unfold setN at HBB HXB HNB HZB HRB
          refine heldOne 14 (by kernel_rfl) rfl (by rfl) (fun KK hK => ?_)
          go_simp
          refine hK.out _ _ HNB.out ?_
          clear hK KK
          try simp only [Act.put, List.setIfInBounds_toArray, List.set_cons_zero, List.set_cons_succ]
          refine wpAnyH_done (by kernel_rfl) ?_ _
          clear y_0 y_1 y_2 y_3 z_0 z_1 z_2 z_3
          go_wp2_with fail
          go_meet
          case rel => exact ⟨w6.heap.size, x1, y1, x3, y3, rfl, ⟨by simp only [List.length_append, List.length_nil]; exact HXB.out, HRB.out.1, nil_but _ _ _, HRB.out.2, by simp only [List.length_append]; exact HK1.out.1, Nat.le_refl _, by simp only [List.length_append]; exact HK3.out.1, HK1.out.2, by show 0 ≤ 9223372036854775807; omega, HK3.out.2, HZB.out, HBB.out, hXg⟩, HNB.out⟩
      · go_simp
        have HS6 := (show Hid (Below w.heap.size w (w5.alloc (.cells #[.bool false, .slice none 0 0, .slice none 0 0, .slice none 0 0] 26)) ∧ (Brow (w5.alloc (.cells #[.bool false, .slice none 0 0, .slice none 0 0, .slice none 0 0] 26)) w.heap.size [.bool false, .slice a1 cl.length c1, .slice a2 kl.length c2, .slice a3 dl.length c3] 26 ∧ Brow (w5.alloc (.cells #[.bool false, .slice none 0 0, .slice none 0 0, .slice none 0 0] 26)) (w.heap.size + 1) [.bool false, .slice b1 cr.length e1, .slice b2 kr.length e2, .slice b3 dr.length e3] 26) ∧ Brow (w5.alloc (.cells #[.bool false, .slice none 0 0, .slice none 0 0, .slice none 0 0] 26)) (w.heap.size + 2) [.bool false, .slice none 0 0, .slice none 0 0, .slice none 0 0] 26) from ⟨HS5.out.1.alloc (by omega) _, ⟨HS5.out.2.1.1.alloc _, HS5.out.2.1.2.alloc _⟩, HS5.out.2.2.alloc _⟩)
        have HX6 := (show Hid (Brow (w5.alloc (.cells #[.bool false, .slice none 0 0, .slice none 0 0, .slice none 0 0] 26)) w5.heap.size [.bool false, .slice none 0 0, .slice none 0 0, .slice none 0 0] 26) from Brow.new w5 [.bool false, .slice none 0 0, .slice none 0 0, .slice none 0 0] 26)
        have hs6 : w5.heap.size + 1 ≤ (w5.alloc (.cells #[.bool false, .slice none 0 0, .slice none 0 0, .slice none 0 0] 26)).heap.size := by rw [size_alloc1]; omega
        have hB6 : Below w5.heap.size w5 (w5.alloc (.cells #[.bool false, .slice none 0 0, .slice none 0 0, .slice none 0 0] 26)) := below_alloc _ _
        have HR6 := (show Hid (RowBut (w5.alloc (.cells #[.bool false, .slice none 0 0, .slice none 0 0, .slice none 0 0] 26)) w5.heap.size a1 (cvals cl) ∧ RowBut (w5.alloc (.cells #[.bool false, .slice none 0 0, .slice none 0 0, .slice none 0 0] 26)) w5.heap.size a3 (icells dl)) from ⟨(HA1.out.but (by omega)).below HS6.out.1, (HA3.out.but (by omega)).below HS6.out.1⟩)
        clear HS5
        clear hB6
        refine hK.out _ _ HS6.out.2.1 ?_
        clear hK KK
        try simp only [Act.put, List.setIfInBounds_toArray, List.set_cons_zero, List.set_cons_succ]
        generalize (w5.alloc (.cells #[.bool false, .slice none 0 0, .slice none 0 0, .slice none 0 0] 26)) = w6 at *
        have hs6' : w.heap.size + 3 ≤ w6.heap.size := by omega
        refine heldOne 6 (by kernel_rfl) rfl (by rfl) (fun KK hK => ?_)
        go_simp
        go_at_call 39
        refine (HAC w6 HS6.out.1).mono ?_
        rintro e w7 ⟨x1, y1, rfl, g1, g2, hR7, hB7, hX7⟩
        have HS7 := (show Hid (Below w.heap.size w w7 ∧ (Brow w7 w.heap.size [.bool false, .slice a1 cl.length c1, .slice a2 kl.length c2, .slice a3 dl.length c3] 26 ∧ Brow w7 (w.heap.size + 1) [.bool false, .slice b1 cr.length e1, .slice b2 kr.length e2, .slice b3 dr.length e3] 26) ∧ Brow w7 (w.heap.size + 2) [.bool false, .slice none 0 0, .slice none 0 0, .slice none 0 0] 26) from ⟨HS6.out.1.trans (hB7.mono (by omega)), ⟨HS6.out.2.1.1.below hB7 (by omega), HS6.out.2.1.2.below hB7 (by omega)⟩, HS6.out.2.2.below hB7 (by omega)⟩)
        have hs7 : w.heap.size + 3 ≤ w7.heap.size := Nat.le_trans hs6' hB7.size
        have HK1 : Hid (cl.length + cr.length ≤ y1 ∧ y1 ≤ 9223372036854775807) := ⟨g1, g2⟩
        have HR7 := (show Hid (RowBut w7 w5.heap.size x1 (cvals (cl ++ cr)) ∧ RowBut w7 w5.heap.size a3 (icells dl)) from ⟨hX7 _ (by omega) HR6.out.1, HR6.out.2.below hB7⟩)
        have HX7 := (show Hid (Brow w7 w5.heap.size [.bool false, .slice none 0 0, .slice none 0 0, .slice none 0 0] 26) from HX6.out.below hB7 (by omega))
        have hX7' : w5.heap.size < w7.heap.size := HX7.out.lt
        clear g1 g2 hR7 hX7 HS6 HAC HR6 HX6
        clear hB7
        refine hK.out _ _ HS7.out.2.1 ?_
        clear hK KK
        try simp only [Act.put, List.setIfInBounds_toArray, List.set_cons_zero, List.set_cons_succ]
        refine heldOne 11 (by kernel_rfl) rfl (by rfl) (fun KK hK => ?_)
        go_simp
        go_at_call 40
        refine (HAI w7 HS7.out.1).mono ?_
        rintro e w8 ⟨x3, y3, rfl, g1, g2, hR8, hB8, hX8⟩
        have HS8 := (show Hid (Below w.heap.size w w8 ∧ (Brow w8 w.heap.size [.bool false, .slice a1 cl.length c1, .slice a2 kl.length c2, .slice a3 dl.length c3] 26 ∧ Brow w8 (w.heap.size + 1) [.bool false, .slice b1 cr.length e1, .slice b2 kr.length e2, .slice b3 dr.length e3] 26) ∧ Brow w8 (w.heap.size + 2) [.bool false, .slice none 0 0, .slice none 0 0, .slice none 0 0] 26) from ⟨HS7.out.1.trans (hB8.mono (by omega)), ⟨HS7.out.2.1.1.below hB8 (by omega), HS7.out.2.1.2.below hB8 (by omega)⟩, HS7.out.2.2.below hB8 (by omega)⟩)
        have hs8 : w.heap.size + 3 ≤ w8.heap.size := Nat.le_trans hs7 hB8.size
        have HK3 : Hid (dl.length + dr.length ≤ y3 ∧ y3 ≤ 9223372036854775807) := ⟨g1, g2⟩
        have HR8 := (show Hid (RowBut w8 w5.heap.size x1 (cvals (cl ++ cr)) ∧ RowBut w8 w5.heap.size x3 (icells (dl ++ dr))) from ⟨HR7.out.1.below hB8, hX8 _ hX7' HR7.out.2⟩)
        have HX8 := (show Hid (Brow w8 w5.heap.size [.bool false, .slice none 0 0, .slice none 0 0, .slice none 0 0] 26) from HX7.out.below hB8 hX7')
        clear g1 g2 hR8 hX8 HS7 HAI HR7 HX7
        clear hB8
        refine hK.out _ _ HS8.out.2.1 ?_
        clear hK KK
        try simp only [Act.put, List.setIfInBounds_toArray, List.set_cons_zero, List.set_cons_succ]
        refine heldTake 12 (some 46) (.agg #[.bool false, .slice x1 (cl.length + cr.length) y1, .slice none 0 0, .slice x3 (dl.length + dr.length) y3]) rfl rfl (by kernel_rfl) (by kernel_rfl) (by kernel_rfl) (fun _ _ _ h => h) (Or.inl ⟨by rfl, fun w hS => ?_⟩) HS8.out.2.1 ?_
        · (go_simp)
        simp only [Act.put, List.setIfInBounds_toArray, List.set_cons_zero, List.set_cons_succ]
        have hXg : w.heap.size + 3 ≤ w5.heap.size := by omega
        have HBB := (show Hid (Below w.heap.size w (setN w8 w5.heap.size (.bool false) (.slice x1 (cl.length + cr.length) y1) (.slice none 0 0) (.slice x3 (dl.length + dr.length) y3))) from setN_below HS8.out.1 (by omega) _ _ _ _)
        have HXB := (show Hid (Brow (setN w8 w5.heap.size (.bool false) (.slice x1 (cl.length + cr.length) y1) (.slice none 0 0) (.slice x3 (dl.length + dr.length) y3)) w5.heap.size [.bool false, .slice x1 (cl.length + cr.length) y1, .slice none 0 0, .slice x3 (dl.length + dr.length) y3] 26) from setN_row HX8.out _ _ _ _)
        have HNB := (show Hid ((fun W : World => Brow W w.heap.size [.bool false, .slice a1 cl.length c1, .slice a2 kl.length c2, .slice a3 dl.length c3] 26 ∧ Brow W (w.heap.size + 1) [.bool false, .slice b1 cr.length e1, .slice b2 kr.length e2, .slice b3 dr.length e3] 26) (setN w8 w5.heap.size (.bool false) (.slice x1 (cl.length + cr.length) y1) (.slice none 0 0) (.slice x3 (dl.length + dr.length) y3))) from ⟨setN_far HS8.out.2.1.1 (by omega) _ _ _ _, setN_far HS8.out.2.1.2 (by omega) _ _ _ _⟩)
        have HZB := (show Hid (Brow (setN w8 w5.heap.size (.bool false) (.slice x1 (cl.length + cr.length) y1) (.slice none 0 0) (.slice x3 (dl.length + dr.length) y3)) (w.heap.size + 2) [.bool false, .slice none 0 0, .slice none 0 0, .slice none 0 0] 26) from setN_far HS8.out.2.2 (by omega) _ _ _ _)
        have HRB := (show Hid (RowBut (setN w8 w5.heap.size (.bool false) (.slice x1 (cl.length + cr.length) y1) (.slice none 0 0) (.slice x3 (dl.length + dr.length) y3)) w5.heap.size x1 (cvals (cl ++ cr)) ∧ RowBut (setN w8 w5.heap.size (.bool false) (.slice x1 (cl.length + cr.length) y1) (.slice none 0 0) (.slice x3 (dl.length + dr.length) y3)) w5.heap.size x3 (icells (dl ++ dr))) from ⟨setN_but HR8.out.1 _ _ _ _, setN_but HR8.out.2 _ _ _ _⟩)
        have y_0 := HX8.out.at 0 _ rfl
        have y_1 := HX8.out.at 1 _ rfl
        have y_2 := HX8.out.at 2 _ rfl
        have y_3 := HX8.out.at 3 _ rfl
        have z_0 := HX8.out.fz 0
        have z_1 := HX8.out.fz 1
        have z_2 := HX8.out.fz 2
        have z_3 := HX8.out.fz 3
        unfold setN at HBB HXB HNB HZB HRB
        refine heldOne 14 (by kernel_rfl) rfl (by rfl) (fun KK hK => ?_)
        go_simp
        refine hK.out _ _ HNB.out ?_
        clear hK KK
        try simp only [Act.put, List.setIfInBounds_toArray, List.set_cons_zero, List.set_cons_succ]
        refine wpAnyH_done (by kernel_rfl) ?_ _
        clear y_0 y_1 y_2 y_3 z_0 z_1 z_2 z_3
        go_wp2_with fail
        go_meet
        case rel => exact ⟨w5.heap.size, x1, y1, x3, y3, rfl, ⟨by simp only [List.length_append, List.length_nil]; exact HXB.out, HRB.out.1, nil_but _ _ _, HRB.out.2, by simp only [List.length_append]; exact HK1.out.1, Nat.le_refl _, by simp only [List.length_append]; exact HK3.out.1, HK1.out.2, by show 0 ≤ 9223372036854775807; omega, HK3.out.2, HZB.out, HBB.out, hXg⟩, HNB.out⟩
    case rest =>
      clear HAC HAI HA1 HA3 HS2 hs2 q0 q1 q2 q3 r0 r1 r2 r3
      obtain ⟨X, x1, y1, x3, y3, rfl, hX, hN⟩ := hcut
      have HX : Hid (NX w wc X ⟨false, cl ++ cr, [], dl ++ dr⟩ ⟨x1, y1, none, 0, x3, y3⟩) := hX
      have HNB : Hid ((fun W : World => Brow W w.heap.size [.bool false, .slice a1 cl.length c1, .slice a2 kl.length c2, .slice a3 dl.length c3] 26 ∧ Brow W (w.heap.size + 1) [.bool false, .slice b1 cr.length e1, .slice b2 kr.length e2, .slice b3 dr.length e3] 26) wc) := hN
      have hXl : X < wc.heap.size := hX.bx.lt
      have hXg : w.heap.size + 3 ≤ X := hX.x
      have p0 := hX.bx.at 0 _ rfl
      have p1 := hX.bx.at 1 _ rfl
      have p2 := hX.bx.at 2 _ rfl
      have p3 := hX.bx.at 3 _ rfl
      clear hX hN
      go_upto_region 7 with fail
      go_cut [] from 50 (fun wx => ∃ x2 y2, NX w wx X ⟨false, cl ++ cr, kl ++ [k] ++ kr, dl ++ dr⟩ ⟨x1, y1, x2, y2, x3, y3⟩)
      case first =>
        clear HNO HYE HKO HOW HRO p0 p1 p2 p3
        have HS5 := (show Hid (NX w wc.drew X ⟨false, cl ++ cr, [], dl ++ dr⟩ ⟨x1, y1, none, 0, x3, y3⟩ ∧ (fun W : World => Brow W w.heap.size [.bool false, .slice a1 cl.length c1, .slice a2 kl.length c2, .slice a3 dl.length c3] 26 ∧ Brow W (w.heap.size + 1) [.bool false, .slice b1 cr.length e1, .slice b2 kr.length e2, .slice b3 dr.length e3] 26) wc.drew) from ⟨HX.out.below (Below.refl _ _).drew, HNB.out.1.drew, HNB.out.2.drew⟩)
        have hs5 : X < wc.drew.heap.size := hXl
        refine wp_region_held_drew (S := (fun W : World => Brow W w.heap.size [.bool false, .slice a1 cl.length c1, .slice a2 kl.length c2, .slice a3 dl.length c3] 26 ∧ Brow W (w.heap.size + 1) [.bool false, .slice b1 cr.length e1, .slice b2 kr.length e2, .slice b3 dr.length e3] 26)) (by kernel_rfl) HS5.out.2 (fun _ => ?_)
        generalize wc.drew = w5 at *
        clear HX HNB hXl
        refine heldTake 0 (some 50) (.pointer (some ⟨w.heap.size, 2, none⟩)) rfl rfl (by kernel_rfl) (by kernel_rfl) (by kernel_rfl) (fun _ _ _ h => h) (Or.inl ⟨by rfl, fun w hS => ?_⟩) HS5.out.2 ?_
        · (go_simp)
        simp only [Act.put, List.setIfInBounds_toArray, List.set_cons_zero, List.set_cons_succ]
        refine heldTake 1 (some 51) (.slice a2 kl.length c2) rfl rfl (by kernel_rfl) (by kernel_rfl) (by kernel_rfl) (fun _ _ _ h => h) (Or.inl ⟨by rfl, fun w hS => ?_⟩) HS5.out.2 ?_
        · (have q := hS.1.at 2 _ rfl; go_simp)
        simp only [Act.put, List.setIfInBounds_toArray, List.set_cons_zero, List.set_cons_succ]
        refine heldTake 2 (some 52) (.pointer (some ⟨w.heap.size + 1, 2, none⟩)) rfl rfl (by kernel_rfl) (by kernel_rfl) (by kernel_rfl) (fun _ _ _ h => h) (Or.inl ⟨by rfl, fun w hS => ?_⟩) HS5.out.2 ?_
        · (go_simp)
        simp only [Act.put, List.setIfInBounds_toArray, List.set_cons_zero, List.set_cons_succ]
        refine heldTake 3 (some 53) (.slice b2 kr.length e2) rfl rfl (by kernel_rfl) (by kernel_rfl) (by kernel_rfl) (fun _ _ _ h => h) (Or.inl ⟨by rfl, fun w hS => ?_⟩) HS5.out.2 ?_
        · (have q := hS.2.at 2 _ rfl; go_simp)
        simp only [Act.put, List.setIfInBounds_toArray, List.set_cons_zero, List.set_cons_succ]
        refine heldTake 5 (some 55) (.pointer (some ⟨w.heap.size, 2, none⟩)) rfl rfl (by kernel_rfl) (by kernel_rfl) (by kernel_rfl) (fun _ _ _ h => h) (Or.inl ⟨by rfl, fun w hS => ?_⟩) HS5.out.2 ?_
        · (go_simp)
        simp only [Act.put, List.setIfInBounds_toArray, List.set_cons_zero, List.set_cons_succ]
        refine heldTake 6 (some 56) (.slice a2 kl.length c2) rfl rfl (by kernel_rfl) (by kernel_rfl) (by kernel_rfl) (fun _ _ _ h => h) (Or.inl ⟨by rfl, fun w hS => ?_⟩) HS5.out.2 ?_
        · (have q := hS.1.at 2 _ rfl; go_simp)
        simp only [Act.put, List.setIfInBounds_toArray, List.set_cons_zero, List.set_cons_succ]
        refine heldTake 7 (some 57) (.int .i64 (kl.length : Int)) rfl rfl (by kernel_rfl) (by kernel_rfl) (by kernel_rfl) (fun _ _ _ h => h) (Or.inl ⟨by rfl, fun w hS => ?_⟩) HS5.out.2 ?_
        · (go_simp)
        simp only [Act.put, List.setIfInBounds_toArray, List.set_cons_zero, List.set_cons_succ]
        refine heldTake 8 (some 58) (.pointer (some ⟨w.heap.size, 2, none⟩)) rfl rfl (by kernel_rfl) (by kernel_rfl) (by kernel_rfl) (fun _ _ _ h => h) (Or.inl ⟨by rfl, fun w hS => ?_⟩) HS5.out.2 ?_
        · (go_simp)
        simp only [Act.put, List.setIfInBounds_toArray, List.set_cons_zero, List.set_cons_succ]
        refine heldTake 9 (some 59) (.slice a2 kl.length c2) rfl rfl (by kernel_rfl) (by kernel_rfl) (by kernel_rfl) (fun _ _ _ h => h) (Or.inl ⟨by rfl, fun w hS => ?_⟩) HS5.out.2 ?_
        · (have q := hS.1.at 2 _ rfl; go_simp)
        simp only [Act.put, List.setIfInBounds_toArray, List.set_cons_zero, List.set_cons_succ]
        refine heldTake 10 (some 60) (.int .i64 (kl.length : Int)) rfl rfl (by kernel_rfl) (by kernel_rfl) (by kernel_rfl) (fun _ _ _ h => h) (Or.inl ⟨by rfl, fun w hS => ?_⟩) HS5.out.2 ?_
        · (go_simp)
        simp only [Act.put, List.setIfInBounds_toArray, List.set_cons_zero, List.set_cons_succ]
        refine heldTake 11 (some 61) (.string k) rfl rfl (by kernel_rfl) (by kernel_rfl) (by kernel_rfl) (fun _ _ _ h => h) (Or.inl ⟨by rfl, fun w hS => ?_⟩) HS5.out.2 ?_
        · (go_simp)
        simp only [Act.put, List.setIfInBounds_toArray, List.set_cons_zero, List.set_cons_succ]
        refine heldTwo 4 12 (by kernel_rfl) rfl rfl (by rfl) (by rfl) (fun KK hK => ?_) (fun KK hK => ?_)
        · go_simp
          go_at_call 42
          refine (HAS w5 HS5.out.1.b).mono ?_
          rintro e w6 ⟨xk, yk, rfl, g1, g2, hR6, hB6, hX6⟩
          have HS6 := (show Hid (NX w w6 X ⟨false, cl ++ cr, [], dl ++ dr⟩ ⟨x1, y1, none, 0, x3, y3⟩ ∧ (fun W : World => Brow W w.heap.size [.bool false, .slice a1 cl.length c1, .slice a2 kl.length c2, .slice a3 dl.length c3] 26 ∧ Brow W (w.heap.size + 1) [.bool false, .slice b1 cr.length e1, .slice b2 kr.length e2, .slice b3 dr.length e3] 26) w6) from ⟨HS5.out.1.below hB6, HS5.out.2.1.below hB6 (by omega), HS5.out.2.2.below hB6 (by omega)⟩)
          have hs6 : X < w6.heap.size := HS6.out.1.bx.lt
          have hKk : kl.length + kr.length ≤ yk := g1
          have hKm : yk ≤ 9223372036854775807 := g2
          have HR6 := (show Hid (RowBut w6 X xk (kcells (kl ++ kr))) from hX6 _ hs5 ((HA2.out.but (by omega)).below HS5.out.1.b))
          clear g1 g2 hR6 hX6 HAS
          clear hB6 HS5
          refine hK.out _ _ HS6.out.2 ?_
          clear hK KK
          try simp only [Act.put, List.setIfInBounds_toArray, List.set_cons_zero, List.set_cons_succ]
          refine heldOne 12 (by kernel_rfl) rfl (by rfl) (fun KK hK => ?_)
          go_simp
          have hB7 : Below w6.heap.size w6 (w6.alloc (.cells #[.string k] 9)) := below_alloc _ _
          have HS7 := (show Hid (NX w (w6.alloc (.cells #[.string k] 9)) X ⟨false, cl ++ cr, [], dl ++ dr⟩ ⟨x1, y1, none, 0, x3, y3⟩ ∧ (fun W : World => Brow W w.heap.size [.bool false, .slice a1 cl.length c1, .slice a2 kl.length c2, .slice a3 dl.length c3] 26 ∧ Brow W (w.heap.size + 1) [.bool false, .slice b1 cr.length e1, .slice b2 kr.length e2, .slice b3 dr.length e3] 26) (w6.alloc (.cells #[.string k] 9))) from ⟨HS6.out.1.below hB7, HS6.out.2.1.below hB7 (by omega), HS6.out.2.2.below hB7 (by omega)⟩)
          have hs7 : X < (w6.alloc (.cells #[.string k] 9)).heap.size := HS7.out.1.bx.lt
          have HZ7 := (show Hid (RowAt (w6.alloc (.cells #[.string k] 9)) (some ⟨w6.heap.size, 0, none⟩) (kcells [k])) from row_key w6 k)
          have HR7 := (show Hid (RowBut (w6.alloc (.cells #[.string k] 9)) X xk (kcells (kl ++ kr))) from HR6.out.below hB7)
          clear HR6
          clear hB7 HS6
          refine hK.out _ _ HS7.out.2 ?_
          clear hK KK
          try simp only [Act.put, List.setIfInBounds_toArray, List.set_cons_zero, List.set_cons_succ]
          generalize (w6.alloc (.cells #[.string k] 9)) = w7 at *
          refine heldOne 13 (by kernel_rfl) rfl (by rfl) (fun KK hK => ?_)
          go_simp
          go_at_call 41
          refine (HSP xk yk _ w7 HR7.out.row HZ7.out hKk hKm).mono ?_
          rintro e w8 ⟨x2, y2, rfl, g1, g2, hR8, hB8, hX8⟩
          have HS8 := (show Hid (NX w w8 X ⟨false, cl ++ cr, [], dl ++ dr⟩ ⟨x1, y1, none, 0, x3, y3⟩ ∧ (fun W : World => Brow W w.heap.size [.bool false, .slice a1 cl.length c1, .slice a2 kl.length c2, .slice a3 dl.length c3] 26 ∧ Brow W (w.heap.size + 1) [.bool false, .slice b1 cr.length e1, .slice b2 kr.length e2, .slice b3 dr.length e3] 26) w8) from ⟨HS7.out.1.below hB8, HS7.out.2.1.below hB8 (by omega), HS7.out.2.2.below hB8 (by omega)⟩)
          have hs8 : X < w8.heap.size := HS8.out.1.bx.lt
          have HK2 : Hid (kl.length + 1 + kr.length ≤ y2 ∧ y2 ≤ 9223372036854775807) := ⟨g1, g2⟩
          have HR8 := (show Hid (RowBut w8 X x2 (kcells (kl ++ [k] ++ kr))) from hX8 _ hs7 HR7.out)
          clear g1 g2 hR8 hX8 HR7 HSP
          clear hB8 HS7
          refine hK.out _ _ HS8.out.2 ?_
          clear hK KK
          try simp only [Act.put, List.setIfInBounds_toArray, List.set_cons_zero, List.set_cons_succ]
          refine heldTake 14 (some 64) (.pointer (some ⟨X, 2, none⟩)) rfl rfl (by kernel_rfl) (by kernel_rfl) (by kernel_rfl) (fun _ _ _ h => h) (Or.inl ⟨by rfl, fun w hS => ?_⟩) HS8.out.2 ?_
          · (go_simp)
          simp only [Act.put, List.setIfInBounds_toArray, List.set_cons_zero, List.set_cons_succ]
          have HFX := (show Hid (NX w (w8.setCell ⟨X, 2, none⟩ (.slice x2 (kl.length + 1 + kr.length) y2)) X ⟨false, cl ++ cr, kl ++ [k] ++ kr, dl ++ dr⟩ ⟨x1, y1, x2, y2, x3, y3⟩) from HS8.out.1.setK (kl ++ [k] ++ kr) HR8.out (by simp only [List.length_append, List.length_cons, List.length_nil]) HK2.out.1 HK2.out.2)
          have HFS := (show Hid ((fun W : World => Brow W w.heap.size [.bool false, .slice a1 cl.length c1, .slice a2 kl.length c2, .slice a3 dl.length c3] 26 ∧ Brow W (w.heap.size + 1) [.bool false, .slice b1 cr.length e1, .slice b2 kr.length e2, .slice b3 dr.length e3] 26) (w8.setCell ⟨X, 2, none⟩ (.slice x2 (kl.length + 1 + kr.length) y2))) from ⟨HS8.out.2.1.far (by show X ≠ w.heap.size; omega), HS8.out.2.2.far (by show X ≠ w.heap.size + 1; omega)⟩)
          have y_2 := HS8.out.1.bx.at 2 _ rfl
          have z_2 := HS8.out.1.bx.fz 2
          refine heldOne 15 (by kernel_rfl) rfl (by rfl) (fun KK hK => ?_)
          go_simp
          refine hK.out _ _ HFS.out ?_
          clear hK KK
          try simp only [Act.put, List.setIfInBounds_toArray, List.set_cons_zero, List.set_cons_succ]
          refine wpAnyH_done (by kernel_rfl) ?_ _
          clear y_2 z_2 HS8
          go_wp2_with fail
          go_meet
          case rel => exact ⟨x2, y2, HFX.out⟩
        · go_simp
          have hB6 : Below w5.heap.size w5 (w5.alloc (.cells #[.string k] 9)) := below_alloc _ _
          have HS6 := (show Hid (NX w (w5.alloc (.cells #[.string k] 9)) X ⟨false, cl ++ cr, [], dl ++ dr⟩ ⟨x1, y1, none, 0, x3, y3⟩ ∧ (fun W : World => Brow W w.heap.size [.bool false, .slice a1 cl.length c1, .slice a2 kl.length c2, .slice a3 dl.length c3] 26 ∧ Brow W (w.heap.size + 1) [.bool false, .slice b1 cr.length e1, .slice b2 kr.length e2, .slice b3 dr.length e3] 26) (w5.alloc (.cells #[.string k] 9))) from ⟨HS5.out.1.below hB6, HS5.out.2.1.below hB6 (by omega), HS5.out.2.2.below hB6 (by omega)⟩)
          have hs6 : X < (w5.alloc (.cells #[.string k] 9)).heap.size := HS6.out.1.bx.lt
          have HZ6 := (show Hid (RowAt (w5.alloc (.cells #[.string k] 9)) (some ⟨w5.heap.size, 0, none⟩) (kcells [k])) from row_key w5 k)
          have HA6 := (show Hid (RowBut (w5.alloc (.cells #[.string k] 9)) X a2 (kcells kl)) from (HA2.out.but (by omega)).below HS6.out.1.b)
          clear hB6 HS5
          refine hK.out _ _ HS6.out.2 ?_
          clear hK KK
          try simp only [Act.put, List.setIfInBounds_toArray, List.set_cons_zero, List.set_cons_succ]
          generalize (w5.alloc (.cells #[.string k] 9)) = w6 at *
          refine heldOne 4 (by kernel_rfl) rfl (by rfl) (fun KK hK => ?_)
          go_simp
          go_at_call 42
          refine (HAS w6 HS6.out.1.b).mono ?_
          rintro e w7 ⟨xk, yk, rfl, g1, g2, hR7, hB7, hX7⟩
          have HS7 := (show Hid (NX w w7 X ⟨false, cl ++ cr, [], dl ++ dr⟩ ⟨x1, y1, none, 0, x3, y3⟩ ∧ (fun W : World => Brow W w.heap.size [.bool false, .slice a1 cl.length c1, .slice a2 kl.length c2, .slice a3 dl.length c3] 26 ∧ Brow W (w.heap.size + 1) [.bool false, .slice b1 cr.length e1, .slice b2 kr.length e2, .slice b3 dr.length e3] 26) w7) from ⟨HS6.out.1.below hB7, HS6.out.2.1.below hB7 (by omega), HS6.out.2.2.below hB7 (by omega)⟩)
          have hs7 : X < w7.heap.size := HS7.out.1.bx.lt
          have hKk : kl.length + kr.length ≤ yk := g1
          have hKm : yk ≤ 9223372036854775807 := g2
          have HR7 := (show Hid (RowBut w7 X xk (kcells (kl ++ kr))) from hX7 _ hs6 HA6.out)
          have HZ7 := (show Hid (RowAt w7 (some ⟨w5.heap.size, 0, none⟩) (kcells [k])) from HZ6.out.below hB7)
          clear g1 g2 hR7 hX7 HAS HZ6 HA6
          clear hB7 HS6
          refine hK.out _ _ HS7.out.2 ?_
          clear hK KK
          try simp only [Act.put, List.setIfInBounds_toArray, List.set_cons_zero, List.set_cons_succ]
          refine heldOne 13 (by kernel_rfl) rfl (by rfl) (fun KK hK => ?_)
          go_simp
          go_at_call 41
          refine (HSP xk yk _ w7 HR7.out.row HZ7.out hKk hKm).mono ?_
          rintro e w8 ⟨x2, y2, rfl, g1, g2, hR8, hB8, hX8⟩
          have HS8 := (show Hid (NX w w8 X ⟨false, cl ++ cr, [], dl ++ dr⟩ ⟨x1, y1, none, 0, x3, y3⟩ ∧ (fun W : World => Brow W w.heap.size [.bool false, .slice a1 cl.length c1, .slice a2 kl.length c2, .slice a3 dl.length c3] 26 ∧ Brow W (w.heap.size + 1) [.bool false, .slice b1 cr.length e1, .slice b2 kr.length e2, .slice b3 dr.length e3] 26) w8) from ⟨HS7.out.1.below hB8, HS7.out.2.1.below hB8 (by omega), HS7.out.2.2.below hB8 (by omega)⟩)
          have hs8 : X < w8.heap.size := HS8.out.1.bx.lt
          have HK2 : Hid (kl.length + 1 + kr.length ≤ y2 ∧ y2 ≤ 9223372036854775807) := ⟨g1, g2⟩
          have HR8 := (show Hid (RowBut w8 X x2 (kcells (kl ++ [k] ++ kr))) from hX8 _ hs7 HR7.out)
          clear g1 g2 hR8 hX8 HR7 HSP
          clear hB8 HS7
          refine hK.out _ _ HS8.out.2 ?_
          clear hK KK
          try simp only [Act.put, List.setIfInBounds_toArray, List.set_cons_zero, List.set_cons_succ]
          refine heldTake 14 (some 64) (.pointer (some ⟨X, 2, none⟩)) rfl rfl (by kernel_rfl) (by kernel_rfl) (by kernel_rfl) (fun _ _ _ h => h) (Or.inl ⟨by rfl, fun w hS => ?_⟩) HS8.out.2 ?_
          · (go_simp)
          simp only [Act.put, List.setIfInBounds_toArray, List.set_cons_zero, List.set_cons_succ]
          have HFX := (show Hid (NX w (w8.setCell ⟨X, 2, none⟩ (.slice x2 (kl.length + 1 + kr.length) y2)) X ⟨false, cl ++ cr, kl ++ [k] ++ kr, dl ++ dr⟩ ⟨x1, y1, x2, y2, x3, y3⟩) from HS8.out.1.setK (kl ++ [k] ++ kr) HR8.out (by simp only [List.length_append, List.length_cons, List.length_nil]) HK2.out.1 HK2.out.2)
          have HFS := (show Hid ((fun W : World => Brow W w.heap.size [.bool false, .slice a1 cl.length c1, .slice a2 kl.length c2, .slice a3 dl.length c3] 26 ∧ Brow W (w.heap.size + 1) [.bool false, .slice b1 cr.length e1, .slice b2 kr.length e2, .slice b3 dr.length e3] 26) (w8.setCell ⟨X, 2, none⟩ (.slice x2 (kl.length + 1 + kr.length) y2))) from ⟨HS8.out.2.1.far (by show X ≠ w.heap.size; omega), HS8.out.2.2.far (by show X ≠ w.heap.size + 1; omega)⟩)
          have y_2 := HS8.out.1.bx.at 2 _ rfl
          have z_2 := HS8.out.1.bx.fz 2
          refine heldOne 15 (by kernel_rfl) rfl (by rfl) (fun KK hK => ?_)
          go_simp
          refine hK.out _ _ HFS.out ?_
          clear hK KK
          try simp only [Act.put, List.setIfInBounds_toArray, List.set_cons_zero, List.set_cons_succ]
          refine wpAnyH_done (by kernel_rfl) ?_ _
          clear y_2 z_2 HS8
          go_wp2_with fail
          go_meet
          case rel => exact ⟨x2, y2, HFX.out⟩
      case rest =>
        clear HAS HSP HA2 HX HNB p0 p1 p2 p3 hXl hXg
        obtain ⟨x2, y2, hX⟩ := hcut
        have HX : Hid (NX w wc X ⟨false, cl ++ cr, kl ++ [k] ++ kr, dl ++ dr⟩ ⟨x1, y1, x2, y2, x3, y3⟩) := hX
        clear hX
        generalize cl ++ cr = C at *
        generalize dl ++ dr = D at *
        generalize kl ++ [k] ++ kr = K at *
        have HKO2 := HKO ⟨x1, y1, x2, y2, x3, y3⟩ wc HX.out.lies
        have HXR := (show Hid (Brow wc X [.bool false, .slice x1 C.length y1, .slice x2 K.length y2, .slice x3 D.length y3] 26) from HX.out.bx)
        have hXl : X < wc.heap.size := HXR.out.lt
        have hXg : w.heap.size + 3 ≤ X := HX.out.x
        simp only at HKO2
        clear HKO
        have p0 := HXR.out.at 0 _ rfl
        have p1 := HXR.out.at 1 _ rfl
        have p2 := HXR.out.at 2 _ rfl
        have p3 := HXR.out.at 3 _ rfl
        go_wp2_with fail
        refine HKO2.mono ?_
        rintro e w7 ⟨ad, cap, rfl, hA, hc1, hc2, hB7⟩
        have HL7 := (show Hid (Lies w7 ⟨false, C, K, D⟩ ⟨x1, y1, x2, y2, x3, y3⟩) from HX.out.lies.below hB7)
        have HX7 := (show Hid (Brow w7 X [.bool false, .slice x1 C.length y1, .slice x2 K.length y2, .slice x3 D.length y3] 26) from HXR.out.below hB7 hXl)
        have HZ7 := (show Hid (Brow w7 (w.heap.size + 2) [.bool false, .slice none 0 0, .slice none 0 0, .slice none 0 0] 26) from HX.out.z.below hB7 (by omega))
        have HB7 := (show Hid (Below w.heap.size w w7) from HX.out.b.trans (hB7.mono (by omega)))
        have hXl7 : X < w7.heap.size := HX7.out.lt
        have HRO2 := HRO ad cap w7 hA
        clear hA hc1 hc2 hB7 HX HXR HKO2 HRO p0 p1 p2 p3 hXl
        go_wp2_with fail
        refine HRO2.mono ?_
        rintro e w8 ⟨rfl, hB8⟩
        have HL8 := (show Hid (Lies w8 ⟨false, C, K, D⟩ ⟨x1, y1, x2, y2, x3, y3⟩) from HL7.out.below hB8)
        have HX8 := (show Hid (Brow w8 X [.bool false, .slice x1 C.length y1, .slice x2 K.length y2, .slice x3 D.length y3] 26) from HX7.out.below hB8 hXl7)
        have HZ8 := (show Hid (Brow w8 (w.heap.size + 2) [.bool false, .slice none 0 0, .slice none 0 0, .slice none 0 0] 26) from HZ7.out.below hB8 (by omega))
        have HB8 := (show Hid (Below w.heap.size w w8) from HB7.out.trans (hB8.mono (by omega)))
        have hXl8 : X < w8.heap.size := HX8.out.lt
        clear hB8 HL7 HX7 HZ7 HB7 HRO2 hXl7
        cases RR with
        | false =>
          have HFR := (show Hid (Brow (setN w8 (w.heap.size + 2) (.bool false) (.slice none 0 0) (.slice none 0 0) (.slice none 0 0)) (w.heap.size + 2) [.bool false, .slice none 0 0, .slice none 0 0, .slice none 0 0] 26) from setN_row HZ8.out _ _ _ _)
          have HFB := (show Hid (Below w.heap.size w (setN w8 (w.heap.size + 2) (.bool false) (.slice none 0 0) (.slice none 0 0) (.slice none 0 0))) from setN_below HB8.out (by omega) _ _ _ _)
          have y0 := HZ8.out.at 0 _ rfl
          have y1 := HZ8.out.at 1 _ rfl
          have y2 := HZ8.out.at 2 _ rfl
          have y3 := HZ8.out.at 3 _ rfl
          have z0 := HZ8.out.fz 0
          have z1 := HZ8.out.fz 1
          have z2 := HZ8.out.fz 2
          have z3 := HZ8.out.fz 3
          unfold setN at HFR HFB
          go_wp2
          refine bodyPost_ret (res_ct rfl _ _ (w.heap.size + 2) 26 _ _ rfl HFR.out Try.underlying26 rfl (by kernel_rfl)) rfl ?_
          exact HNO.out _ _ (HRR.out.trans rfl) rfl HFB.out
        | true =>
          have HOW2 := HOW ⟨x1, y1, x2, y2, x3, y3⟩ w8 HL8.out
          simp only at HOW2
          have p0 := HX8.out.at 0 _ rfl
          have p1 := HX8.out.at 1 _ rfl
          have p2 := HX8.out.at 2 _ rfl
          have p3 := HX8.out.at 3 _ rfl
          go_wp2_with fail
          refine HOW2.mono ?_
          rintro e w9 ⟨⟨i1, j1, i2, j2, i3, j3⟩, rfl, hL9, hB9⟩
          have HB9 : Hid (Below w.heap.size w w9) := HB8.out.trans (hB9.mono (by omega))
          have HZ9 : Hid (Brow w9 (w.heap.size + 2) [.bool false, .slice none 0 0, .slice none 0 0, .slice none 0 0] 26) := HZ8.out.below hB9 (by omega)
          have HL9 : Hid (LiesF w9 (w.heap.size + 3) ⟨false, C, K, D⟩ ⟨i1, j1, i2, j2, i3, j3⟩) := hL9.mono (by omega)
          clear hL9 hB9 HB8 HZ8 HL8 HX8 HOW HOW2 p0 p1 p2 p3
          have HFR := (show Hid (Brow (setN w9 (w.heap.size + 2) (.bool false) (.slice i1 C.length j1) (.slice i2 K.length j2) (.slice i3 D.length j3)) (w.heap.size + 2) [.bool false, .slice i1 C.length j1, .slice i2 K.length j2, .slice i3 D.length j3] 26) from setN_row HZ9.out _ _ _ _)
          have HFL := (show Hid (LiesF (setN w9 (w.heap.size + 2) (.bool false) (.slice i1 C.length j1) (.slice i2 K.length j2) (.slice i3 D.length j3)) w.heap.size ⟨false, C, K, D⟩ ⟨i1, j1, i2, j2, i3, j3⟩) from (setN_lies HL9.out (by omega) _ _ _ _).mono (by omega))
          have HFB := (show Hid (Below w.heap.size w (setN w9 (w.heap.size + 2) (.bool false) (.slice i1 C.length j1) (.slice i2 K.length j2) (.slice i3 D.length j3))) from setN_below HB9.out (by omega) _ _ _ _)
          have y0 := HZ9.out.at 0 _ rfl
          have y1 := HZ9.out.at 1 _ rfl
          have y2 := HZ9.out.at 2 _ rfl
          have y3 := HZ9.out.at 3 _ rfl
          have z0 := HZ9.out.fz 0
          have z1 := HZ9.out.fz 1
          have z2 := HZ9.out.fz 2
          have z3 := HZ9.out.fz 3
          unfold setN at HFR HFL HFB
          go_wp2
          refine bodyPost_ret (res_ct rfl _ _ (w.heap.size + 2) 26 _ _ rfl HFR.out Try.underlying26 rfl (by kernel_rfl)) rfl ?_
          exact HYE.out _ _ ⟨i1, j1, i2, j2, i3, j3⟩ HRR.out rfl HFL.out HFB.out
end Go.Proofs.Ytoinaplmgffkpaa
