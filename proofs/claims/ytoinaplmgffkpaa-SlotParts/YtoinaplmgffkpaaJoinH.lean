/- Proved: what slot's Join answers, refused at once (stage 11). -/
import Derived.Test.YtoinaplmgffkpaaMathJ
namespace Go.Proofs.Ytoinaplmgffkpaa
open Go.RowKit
open Sl (Cel Nod)
structure JoPost (w : World) (l r : Nod) (k : ByteArray) (e : Ending) (w' : World) : Prop where
  ex : ∃ p', e = .returned (.tuple #[nv (joinR l r k) p', .int .i64 (joinE l r k)]) ∧ LiesF w' w.heap.size (joinR l r k) p' ∧ Below w.heap.size w w'
theorem jo_no {w : World} {l r : Nod} {k : ByteArray} (e : Ending) (w' : World) (h : joinOk l r k = false) (he : e = .returned (.tuple #[nv Sl.nod0 ⟨none, 0, none, 0, none, 0⟩, .int .i64 2])) (hB : Below w.heap.size w w') : JoPost w l r k e w' :=
  ⟨⟨⟨none, 0, none, 0, none, 0⟩, by unfold joinR joinE; rw [h]; exact he, by unfold joinR; rw [h]; exact lies0 _ _, hB⟩⟩
theorem jo_yes {w : World} {l r : Nod} {k : ByteArray} (n : Nod) (hn : joinN l r k = n) (e : Ending) (w' : World) (p : Pt) (h : joinOk l r k = true) (he : e = .returned (.tuple #[nv n p, .int .i64 0])) (hL : LiesF w' w.heap.size n p) (hB : Below w.heap.size w w') : JoPost w l r k e w' :=
  ⟨⟨p, by unfold joinR joinE; rw [h, hn]; exact he, by unfold joinR; rw [h, hn]; exact hL, hB⟩⟩
structure NX (w wx : World) (X : Nat) (n : Nod) (p : Pt) : Prop where
  bx : Brow wx X [.bool n.leaf, .slice p.a1 n.cells.length p.c1, .slice p.a2 n.keys.length p.c2, .slice p.a3 n.kids.length p.c3] 26
  r1 : RowBut wx X p.a1 (cvals n.cells)
  r2 : RowBut wx X p.a2 (kcells n.keys)
  r3 : RowBut wx X p.a3 (icells n.kids)
  l1 : n.cells.length ≤ p.c1
  l2 : n.keys.length ≤ p.c2
  l3 : n.kids.length ≤ p.c3
  m1 : p.c1 ≤ 9223372036854775807
  m2 : p.c2 ≤ 9223372036854775807
  m3 : p.c3 ≤ 9223372036854775807
  z : Brow wx (w.heap.size + 2) [.bool false, .slice none 0 0, .slice none 0 0, .slice none 0 0] 26
  b : Below w.heap.size w wx
  x : w.heap.size + 3 ≤ X
theorem NX.lies {w wx : World} {X : Nat} {n : Nod} {p : Pt} (h : NX w wx X n p) : Lies wx n p := ⟨h.r1.row, h.r2.row, h.r3.row, h.l1, h.l2, h.l3, h.m1, h.m2, h.m3⟩
theorem setN_but {w : World} {B : Nat} {ad : Option Addr} {vs : List Value} (h : RowBut w B ad vs) (v0 v1 v2 v3 : Value) : RowBut (setN w B v0 v1 v2 v3) B ad vs := (((h.set 0 v0).set 1 v1).set 2 v2).set 3 v3
theorem nil_but (w : World) (B : Nat) (ad : Option Addr) : RowBut w B ad [] := .inl rfl
theorem fit_join {l r : Nod} {k : ByteArray} (hl : Fit l) (hr : Fit r) (hk : k.size ≤ 140737488355328) (h1 : l.cells.length + r.cells.length ≤ 900) (h2 : l.keys.length + r.keys.length ≤ 900) (h3 : l.kids.length + r.kids.length ≤ 900) : Fit (joinN l r k) := by
  refine ⟨fun c hc => ?_, fun x hx => ?_, fun i hi => ?_, ?_, ?_, ?_⟩
  · rcases List.mem_append.1 hc with h | h
    · exact hl.cells c h
    · exact hr.cells c h
  · unfold joinN at hx
    simp only at hx
    split at hx
    · cases hx
    · simp only [List.mem_append, List.mem_singleton] at hx
      rcases hx with (h | h) | h
      · exact hl.keys x h
      · rw [h]; exact hk
      · exact hr.keys x h
  · rcases List.mem_append.1 hi with h | h
    · exact hl.kids i h
    · exact hr.kids i h
  · show (l.cells ++ r.cells).length ≤ 1000
    rw [List.length_append]; omega
  · show (if l.leaf then [] else l.keys ++ [k] ++ r.keys).length ≤ 1000
    split
    · simp
    · simp only [List.length_append, List.length_cons, List.length_nil]; omega
  · show (l.kids ++ r.kids).length ≤ 1000
    rw [List.length_append]; omega
set_option maxHeartbeats 4000000 in
set_option maxRecDepth 20000 in
theorem join_no (l r : Nod) (p q : Pt) (k : ByteArray) (w : World) (hL : Lies w l p) (hR : Lies w r q) (hFl : Fit l) (hFr : Fit r) (_hk : k.size ≤ 140737488355328) (_hz1 : l.cells.length + r.cells.length ≤ 900) (_hz2 : l.keys.length + r.keys.length ≤ 900) (_hz3 : l.kids.length + r.kids.length ≤ 900) (hN : Sl.may l = false ∨ (Sl.may l = true ∧ Sl.may r = false) ∨ (Sl.may l = true ∧ Sl.may r = true ∧ l.leaf ≠ r.leaf)) :
    Calls Try.prog 21 #[nv l p, nv r q, .string k] w (JoPost w l r k) := by
  have hok : joinOk l r k = false := by
    unfold joinOk
    rcases hN with h | ⟨h, h'⟩ | ⟨h, h', hn⟩
    · rw [h]; rfl
    · rw [h, h']; rfl
    · rw [h, h', decide_eq_false hn]; rfl
  have HOK : Hid (joinOk l r k = false) := hok
  have HNO := (show Hid (∀ (e : Ending) (w' : World), joinOk l r k = false → e = .returned (.tuple #[nv Sl.nod0 ⟨none, 0, none, 0, none, 0⟩, .int .i64 2]) → Below w.heap.size w w' → JoPost w l r k e w') from fun e w' h he hB => jo_no e w' h he hB)
  have HC1 := fun (W : World) (h : Below w.heap.size w W) => check_any l p W (hL.below h) hFl
  have HC2 := fun (W : World) (h : Below w.heap.size w W) => check_any r q W (hR.below h) hFr
  unfold checkE at HC1 HC2
  clear hL hR hFl hFr hok
  obtain ⟨lf, cl, kl, dl⟩ := l
  obtain ⟨rf, cr, kr, dr⟩ := r
  obtain ⟨a1, c1, a2, c2, a3, c3⟩ := p
  obtain ⟨b1, e1, b2, e2, b3, e3⟩ := q
  unfold nv at *
  simp only at HC1 HC2 ⊢
  rcases hN with hN | ⟨hN, hM⟩ | ⟨hN, hM, hlr⟩
  · rw [hN] at HC1
    clear HC2 hN
    simp only [Bool.false_eq_true, if_false] at HC1
    have HS0 := (show Hid (Below w.heap.size w (((w.alloc (.cells #[.bool lf, .slice a1 cl.length c1, .slice a2 kl.length c2, .slice a3 dl.length c3] 26)).alloc (.cells #[.bool rf, .slice b1 cr.length e1, .slice b2 kr.length e2, .slice b3 dr.length e3] 26)).alloc (.cells #[.bool false, .slice none 0 0, .slice none 0 0, .slice none 0 0] 26)) ∧ (Brow (((w.alloc (.cells #[.bool lf, .slice a1 cl.length c1, .slice a2 kl.length c2, .slice a3 dl.length c3] 26)).alloc (.cells #[.bool rf, .slice b1 cr.length e1, .slice b2 kr.length e2, .slice b3 dr.length e3] 26)).alloc (.cells #[.bool false, .slice none 0 0, .slice none 0 0, .slice none 0 0] 26)) w.heap.size [.bool lf, .slice a1 cl.length c1, .slice a2 kl.length c2, .slice a3 dl.length c3] 26 ∧ Brow (((w.alloc (.cells #[.bool lf, .slice a1 cl.length c1, .slice a2 kl.length c2, .slice a3 dl.length c3] 26)).alloc (.cells #[.bool rf, .slice b1 cr.length e1, .slice b2 kr.length e2, .slice b3 dr.length e3] 26)).alloc (.cells #[.bool false, .slice none 0 0, .slice none 0 0, .slice none 0 0] 26)) (w.heap.size + 1) [.bool rf, .slice b1 cr.length e1, .slice b2 kr.length e2, .slice b3 dr.length e3] 26) ∧ Brow (((w.alloc (.cells #[.bool lf, .slice a1 cl.length c1, .slice a2 kl.length c2, .slice a3 dl.length c3] 26)).alloc (.cells #[.bool rf, .slice b1 cr.length e1, .slice b2 kr.length e2, .slice b3 dr.length e3] 26)).alloc (.cells #[.bool false, .slice none 0 0, .slice none 0 0, .slice none 0 0] 26)) (w.heap.size + 2) [.bool false, .slice none 0 0, .slice none 0 0, .slice none 0 0] 26) from ⟨((below_alloc _ _).alloc (by rw [size_alloc1]; omega) _).alloc (by rw [size_alloc1, size_alloc1]; omega) _, ⟨((Brow.new w [.bool lf, .slice a1 cl.length c1, .slice a2 kl.length c2, .slice a3 dl.length c3] 26).alloc _).alloc _, by
      have := (Brow.new (w.alloc (.cells #[.bool lf, .slice a1 cl.length c1, .slice a2 kl.length c2, .slice a3 dl.length c3] 26)) [.bool rf, .slice b1 cr.length e1, .slice b2 kr.length e2, .slice b3 dr.length e3] 26).alloc (.cells #[.bool false, .slice none 0 0, .slice none 0 0, .slice none 0 0] 26)
      rwa [size_alloc1] at this⟩, by
      have := Brow.new ((w.alloc (.cells #[.bool lf, .slice a1 cl.length c1, .slice a2 kl.length c2, .slice a3 dl.length c3] 26)).alloc (.cells #[.bool rf, .slice b1 cr.length e1, .slice b2 kr.length e2, .slice b3 dr.length e3] 26)) [.bool false, .slice none 0 0, .slice none 0 0, .slice none 0 0] 26
      rwa [size_alloc1, size_alloc1] at this⟩)
    have hs0 : w.heap.size + 3 ≤ (((w.alloc (.cells #[.bool lf, .slice a1 cl.length c1, .slice a2 kl.length c2, .slice a3 dl.length c3] 26)).alloc (.cells #[.bool rf, .slice b1 cr.length e1, .slice b2 kr.length e2, .slice b3 dr.length e3] 26)).alloc (.cells #[.bool false, .slice none 0 0, .slice none 0 0, .slice none 0 0] 26)).heap.size := by rw [size_alloc1, size_alloc1, size_alloc1]; omega
    go_enter Try.func21, Try.ntmps21
    go_wp2_with fail
    refine (HC1 _ HS0.out.1).mono ?_
    rintro e w1 ⟨rfl, hB1⟩
    have HS1 := (show Hid (Below w.heap.size w w1 ∧ (Brow w1 w.heap.size [.bool lf, .slice a1 cl.length c1, .slice a2 kl.length c2, .slice a3 dl.length c3] 26 ∧ Brow w1 (w.heap.size + 1) [.bool rf, .slice b1 cr.length e1, .slice b2 kr.length e2, .slice b3 dr.length e3] 26) ∧ Brow w1 (w.heap.size + 2) [.bool false, .slice none 0 0, .slice none 0 0, .slice none 0 0] 26) from ⟨HS0.out.1.trans (hB1.mono (by omega)), ⟨HS0.out.2.1.1.below hB1 (by omega), HS0.out.2.1.2.below hB1 (by omega)⟩, HS0.out.2.2.below hB1 (by omega)⟩)
    have hs1 : w.heap.size + 3 ≤ w1.heap.size := Nat.le_trans hs0 hB1.size
    clear hB1 HS0 hs0 HC1
    have HFR := (show Hid (Brow (setN w1 (w.heap.size + 2) (.bool false) (.slice none 0 0) (.slice none 0 0) (.slice none 0 0)) (w.heap.size + 2) [.bool false, .slice none 0 0, .slice none 0 0, .slice none 0 0] 26) from setN_row HS1.out.2.2 _ _ _ _)
    have HFB := (show Hid (Below w.heap.size w (setN w1 (w.heap.size + 2) (.bool false) (.slice none 0 0) (.slice none 0 0) (.slice none 0 0))) from setN_below HS1.out.1 (by omega) _ _ _ _)
    have y0 := HS1.out.2.2.at 0 _ rfl
    have y1 := HS1.out.2.2.at 1 _ rfl
    have y2 := HS1.out.2.2.at 2 _ rfl
    have y3 := HS1.out.2.2.at 3 _ rfl
    have z0 := HS1.out.2.2.fz 0
    have z1 := HS1.out.2.2.fz 1
    have z2 := HS1.out.2.2.fz 2
    have z3 := HS1.out.2.2.fz 3
    unfold setN at HFR HFB
    go_wp2
    refine bodyPost_ret (res_ct rfl _ _ (w.heap.size + 2) 26 _ _ rfl HFR.out Try.underlying26 rfl (by kernel_rfl)) rfl ?_
    exact HNO.out _ _ HOK.out rfl HFB.out
  · rw [hN] at HC1
    rw [hM] at HC2
    clear hN hM
    simp only [Bool.false_eq_true, if_false, if_true] at HC1 HC2
    have HS0 := (show Hid (Below w.heap.size w (((w.alloc (.cells #[.bool lf, .slice a1 cl.length c1, .slice a2 kl.length c2, .slice a3 dl.length c3] 26)).alloc (.cells #[.bool rf, .slice b1 cr.length e1, .slice b2 kr.length e2, .slice b3 dr.length e3] 26)).alloc (.cells #[.bool false, .slice none 0 0, .slice none 0 0, .slice none 0 0] 26)) ∧ (Brow (((w.alloc (.cells #[.bool lf, .slice a1 cl.length c1, .slice a2 kl.length c2, .slice a3 dl.length c3] 26)).alloc (.cells #[.bool rf, .slice b1 cr.length e1, .slice b2 kr.length e2, .slice b3 dr.length e3] 26)).alloc (.cells #[.bool false, .slice none 0 0, .slice none 0 0, .slice none 0 0] 26)) w.heap.size [.bool lf, .slice a1 cl.length c1, .slice a2 kl.length c2, .slice a3 dl.length c3] 26 ∧ Brow (((w.alloc (.cells #[.bool lf, .slice a1 cl.length c1, .slice a2 kl.length c2, .slice a3 dl.length c3] 26)).alloc (.cells #[.bool rf, .slice b1 cr.length e1, .slice b2 kr.length e2, .slice b3 dr.length e3] 26)).alloc (.cells #[.bool false, .slice none 0 0, .slice none 0 0, .slice none 0 0] 26)) (w.heap.size + 1) [.bool rf, .slice b1 cr.length e1, .slice b2 kr.length e2, .slice b3 dr.length e3] 26) ∧ Brow (((w.alloc (.cells #[.bool lf, .slice a1 cl.length c1, .slice a2 kl.length c2, .slice a3 dl.length c3] 26)).alloc (.cells #[.bool rf, .slice b1 cr.length e1, .slice b2 kr.length e2, .slice b3 dr.length e3] 26)).alloc (.cells #[.bool false, .slice none 0 0, .slice none 0 0, .slice none 0 0] 26)) (w.heap.size + 2) [.bool false, .slice none 0 0, .slice none 0 0, .slice none 0 0] 26) from ⟨((below_alloc _ _).alloc (by rw [size_alloc1]; omega) _).alloc (by rw [size_alloc1, size_alloc1]; omega) _, ⟨((Brow.new w [.bool lf, .slice a1 cl.length c1, .slice a2 kl.length c2, .slice a3 dl.length c3] 26).alloc _).alloc _, by
      have := (Brow.new (w.alloc (.cells #[.bool lf, .slice a1 cl.length c1, .slice a2 kl.length c2, .slice a3 dl.length c3] 26)) [.bool rf, .slice b1 cr.length e1, .slice b2 kr.length e2, .slice b3 dr.length e3] 26).alloc (.cells #[.bool false, .slice none 0 0, .slice none 0 0, .slice none 0 0] 26)
      rwa [size_alloc1] at this⟩, by
      have := Brow.new ((w.alloc (.cells #[.bool lf, .slice a1 cl.length c1, .slice a2 kl.length c2, .slice a3 dl.length c3] 26)).alloc (.cells #[.bool rf, .slice b1 cr.length e1, .slice b2 kr.length e2, .slice b3 dr.length e3] 26)) [.bool false, .slice none 0 0, .slice none 0 0, .slice none 0 0] 26
      rwa [size_alloc1, size_alloc1] at this⟩)
    have hs0 : w.heap.size + 3 ≤ (((w.alloc (.cells #[.bool lf, .slice a1 cl.length c1, .slice a2 kl.length c2, .slice a3 dl.length c3] 26)).alloc (.cells #[.bool rf, .slice b1 cr.length e1, .slice b2 kr.length e2, .slice b3 dr.length e3] 26)).alloc (.cells #[.bool false, .slice none 0 0, .slice none 0 0, .slice none 0 0] 26)).heap.size := by rw [size_alloc1, size_alloc1, size_alloc1]; omega
    go_enter Try.func21, Try.ntmps21
    go_wp2_with fail
    refine (HC1 _ HS0.out.1).mono ?_
    rintro e w1 ⟨rfl, hB1⟩
    have HS1 := (show Hid (Below w.heap.size w w1 ∧ (Brow w1 w.heap.size [.bool lf, .slice a1 cl.length c1, .slice a2 kl.length c2, .slice a3 dl.length c3] 26 ∧ Brow w1 (w.heap.size + 1) [.bool rf, .slice b1 cr.length e1, .slice b2 kr.length e2, .slice b3 dr.length e3] 26) ∧ Brow w1 (w.heap.size + 2) [.bool false, .slice none 0 0, .slice none 0 0, .slice none 0 0] 26) from ⟨HS0.out.1.trans (hB1.mono (by omega)), ⟨HS0.out.2.1.1.below hB1 (by omega), HS0.out.2.1.2.below hB1 (by omega)⟩, HS0.out.2.2.below hB1 (by omega)⟩)
    have hs1 : w.heap.size + 3 ≤ w1.heap.size := Nat.le_trans hs0 hB1.size
    clear hB1 HS0 hs0 HC1
    have q0 := HS1.out.2.1.1.at 0 _ rfl
    have q1 := HS1.out.2.1.1.at 1 _ rfl
    have q2 := HS1.out.2.1.1.at 2 _ rfl
    have q3 := HS1.out.2.1.1.at 3 _ rfl
    have r0 := HS1.out.2.1.2.at 0 _ rfl
    have r1 := HS1.out.2.1.2.at 1 _ rfl
    have r2 := HS1.out.2.1.2.at 2 _ rfl
    have r3 := HS1.out.2.1.2.at 3 _ rfl
    go_wp2_with fail
    refine (HC2 _ HS1.out.1).mono ?_
    rintro e w2 ⟨rfl, hB2⟩
    have HS2 := (show Hid (Below w.heap.size w w2 ∧ (Brow w2 w.heap.size [.bool lf, .slice a1 cl.length c1, .slice a2 kl.length c2, .slice a3 dl.length c3] 26 ∧ Brow w2 (w.heap.size + 1) [.bool rf, .slice b1 cr.length e1, .slice b2 kr.length e2, .slice b3 dr.length e3] 26) ∧ Brow w2 (w.heap.size + 2) [.bool false, .slice none 0 0, .slice none 0 0, .slice none 0 0] 26) from ⟨HS1.out.1.trans (hB2.mono (by omega)), ⟨HS1.out.2.1.1.below hB2 (by omega), HS1.out.2.1.2.below hB2 (by omega)⟩, HS1.out.2.2.below hB2 (by omega)⟩)
    have hs2 : w.heap.size + 3 ≤ w2.heap.size := Nat.le_trans hs1 hB2.size
    clear hB2 HS1 hs1 HC2 q0 q1 q2 q3 r0 r1 r2 r3
    have q0 := HS2.out.2.1.1.at 0 _ rfl
    have q1 := HS2.out.2.1.1.at 1 _ rfl
    have q2 := HS2.out.2.1.1.at 2 _ rfl
    have q3 := HS2.out.2.1.1.at 3 _ rfl
    have r0 := HS2.out.2.1.2.at 0 _ rfl
    have r1 := HS2.out.2.1.2.at 1 _ rfl
    have r2 := HS2.out.2.1.2.at 2 _ rfl
    have r3 := HS2.out.2.1.2.at 3 _ rfl
    clear q0 q1 q2 q3 r0 r1 r2 r3
    have HFR := (show Hid (Brow (setN w2 (w.heap.size + 2) (.bool false) (.slice none 0 0) (.slice none 0 0) (.slice none 0 0)) (w.heap.size + 2) [.bool false, .slice none 0 0, .slice none 0 0, .slice none 0 0] 26) from setN_row HS2.out.2.2 _ _ _ _)
    have HFB := (show Hid (Below w.heap.size w (setN w2 (w.heap.size + 2) (.bool false) (.slice none 0 0) (.slice none 0 0) (.slice none 0 0))) from setN_below HS2.out.1 (by omega) _ _ _ _)
    have y0 := HS2.out.2.2.at 0 _ rfl
    have y1 := HS2.out.2.2.at 1 _ rfl
    have y2 := HS2.out.2.2.at 2 _ rfl
    have y3 := HS2.out.2.2.at 3 _ rfl
    have z0 := HS2.out.2.2.fz 0
    have z1 := HS2.out.2.2.fz 1
    have z2 := HS2.out.2.2.fz 2
    have z3 := HS2.out.2.2.fz 3
    unfold setN at HFR HFB
    go_wp2
    refine bodyPost_ret (res_ct rfl _ _ (w.heap.size + 2) 26 _ _ rfl HFR.out Try.underlying26 rfl (by kernel_rfl)) rfl ?_
    exact HNO.out _ _ HOK.out rfl HFB.out
  · rw [hN] at HC1
    rw [hM] at HC2
    clear hN hM
    simp only [if_true] at HC1 HC2
    cases lf with
    | true =>
      cases rf with
      | true => exact absurd rfl hlr
      | false =>
        clear hlr
        have HS0 := (show Hid (Below w.heap.size w (((w.alloc (.cells #[.bool true, .slice a1 cl.length c1, .slice a2 kl.length c2, .slice a3 dl.length c3] 26)).alloc (.cells #[.bool false, .slice b1 cr.length e1, .slice b2 kr.length e2, .slice b3 dr.length e3] 26)).alloc (.cells #[.bool false, .slice none 0 0, .slice none 0 0, .slice none 0 0] 26)) ∧ (Brow (((w.alloc (.cells #[.bool true, .slice a1 cl.length c1, .slice a2 kl.length c2, .slice a3 dl.length c3] 26)).alloc (.cells #[.bool false, .slice b1 cr.length e1, .slice b2 kr.length e2, .slice b3 dr.length e3] 26)).alloc (.cells #[.bool false, .slice none 0 0, .slice none 0 0, .slice none 0 0] 26)) w.heap.size [.bool true, .slice a1 cl.length c1, .slice a2 kl.length c2, .slice a3 dl.length c3] 26 ∧ Brow (((w.alloc (.cells #[.bool true, .slice a1 cl.length c1, .slice a2 kl.length c2, .slice a3 dl.length c3] 26)).alloc (.cells #[.bool false, .slice b1 cr.length e1, .slice b2 kr.length e2, .slice b3 dr.length e3] 26)).alloc (.cells #[.bool false, .slice none 0 0, .slice none 0 0, .slice none 0 0] 26)) (w.heap.size + 1) [.bool false, .slice b1 cr.length e1, .slice b2 kr.length e2, .slice b3 dr.length e3] 26) ∧ Brow (((w.alloc (.cells #[.bool true, .slice a1 cl.length c1, .slice a2 kl.length c2, .slice a3 dl.length c3] 26)).alloc (.cells #[.bool false, .slice b1 cr.length e1, .slice b2 kr.length e2, .slice b3 dr.length e3] 26)).alloc (.cells #[.bool false, .slice none 0 0, .slice none 0 0, .slice none 0 0] 26)) (w.heap.size + 2) [.bool false, .slice none 0 0, .slice none 0 0, .slice none 0 0] 26) from ⟨((below_alloc _ _).alloc (by rw [size_alloc1]; omega) _).alloc (by rw [size_alloc1, size_alloc1]; omega) _, ⟨((Brow.new w [.bool true, .slice a1 cl.length c1, .slice a2 kl.length c2, .slice a3 dl.length c3] 26).alloc _).alloc _, by
          have := (Brow.new (w.alloc (.cells #[.bool true, .slice a1 cl.length c1, .slice a2 kl.length c2, .slice a3 dl.length c3] 26)) [.bool false, .slice b1 cr.length e1, .slice b2 kr.length e2, .slice b3 dr.length e3] 26).alloc (.cells #[.bool false, .slice none 0 0, .slice none 0 0, .slice none 0 0] 26)
          rwa [size_alloc1] at this⟩, by
          have := Brow.new ((w.alloc (.cells #[.bool true, .slice a1 cl.length c1, .slice a2 kl.length c2, .slice a3 dl.length c3] 26)).alloc (.cells #[.bool false, .slice b1 cr.length e1, .slice b2 kr.length e2, .slice b3 dr.length e3] 26)) [.bool false, .slice none 0 0, .slice none 0 0, .slice none 0 0] 26
          rwa [size_alloc1, size_alloc1] at this⟩)
        have hs0 : w.heap.size + 3 ≤ (((w.alloc (.cells #[.bool true, .slice a1 cl.length c1, .slice a2 kl.length c2, .slice a3 dl.length c3] 26)).alloc (.cells #[.bool false, .slice b1 cr.length e1, .slice b2 kr.length e2, .slice b3 dr.length e3] 26)).alloc (.cells #[.bool false, .slice none 0 0, .slice none 0 0, .slice none 0 0] 26)).heap.size := by rw [size_alloc1, size_alloc1, size_alloc1]; omega
        go_enter Try.func21, Try.ntmps21
        go_wp2_with fail
        refine (HC1 _ HS0.out.1).mono ?_
        rintro e w1 ⟨rfl, hB1⟩
        have HS1 := (show Hid (Below w.heap.size w w1 ∧ (Brow w1 w.heap.size [.bool true, .slice a1 cl.length c1, .slice a2 kl.length c2, .slice a3 dl.length c3] 26 ∧ Brow w1 (w.heap.size + 1) [.bool false, .slice b1 cr.length e1, .slice b2 kr.length e2, .slice b3 dr.length e3] 26) ∧ Brow w1 (w.heap.size + 2) [.bool false, .slice none 0 0, .slice none 0 0, .slice none 0 0] 26) from ⟨HS0.out.1.trans (hB1.mono (by omega)), ⟨HS0.out.2.1.1.below hB1 (by omega), HS0.out.2.1.2.below hB1 (by omega)⟩, HS0.out.2.2.below hB1 (by omega)⟩)
        have hs1 : w.heap.size + 3 ≤ w1.heap.size := Nat.le_trans hs0 hB1.size
        clear hB1 HS0 hs0 HC1
        have q0 := HS1.out.2.1.1.at 0 _ rfl
        have q1 := HS1.out.2.1.1.at 1 _ rfl
        have q2 := HS1.out.2.1.1.at 2 _ rfl
        have q3 := HS1.out.2.1.1.at 3 _ rfl
        have r0 := HS1.out.2.1.2.at 0 _ rfl
        have r1 := HS1.out.2.1.2.at 1 _ rfl
        have r2 := HS1.out.2.1.2.at 2 _ rfl
        have r3 := HS1.out.2.1.2.at 3 _ rfl
        go_wp2_with fail
        refine (HC2 _ HS1.out.1).mono ?_
        rintro e w2 ⟨rfl, hB2⟩
        have HS2 := (show Hid (Below w.heap.size w w2 ∧ (Brow w2 w.heap.size [.bool true, .slice a1 cl.length c1, .slice a2 kl.length c2, .slice a3 dl.length c3] 26 ∧ Brow w2 (w.heap.size + 1) [.bool false, .slice b1 cr.length e1, .slice b2 kr.length e2, .slice b3 dr.length e3] 26) ∧ Brow w2 (w.heap.size + 2) [.bool false, .slice none 0 0, .slice none 0 0, .slice none 0 0] 26) from ⟨HS1.out.1.trans (hB2.mono (by omega)), ⟨HS1.out.2.1.1.below hB2 (by omega), HS1.out.2.1.2.below hB2 (by omega)⟩, HS1.out.2.2.below hB2 (by omega)⟩)
        have hs2 : w.heap.size + 3 ≤ w2.heap.size := Nat.le_trans hs1 hB2.size
        clear hB2 HS1 hs1 HC2 q0 q1 q2 q3 r0 r1 r2 r3
        have q0 := HS2.out.2.1.1.at 0 _ rfl
        have q1 := HS2.out.2.1.1.at 1 _ rfl
        have q2 := HS2.out.2.1.1.at 2 _ rfl
        have q3 := HS2.out.2.1.1.at 3 _ rfl
        have r0 := HS2.out.2.1.2.at 0 _ rfl
        have r1 := HS2.out.2.1.2.at 1 _ rfl
        have r2 := HS2.out.2.1.2.at 2 _ rfl
        have r3 := HS2.out.2.1.2.at 3 _ rfl
        have HFR := (show Hid (Brow (setN w2 (w.heap.size + 2) (.bool false) (.slice none 0 0) (.slice none 0 0) (.slice none 0 0)) (w.heap.size + 2) [.bool false, .slice none 0 0, .slice none 0 0, .slice none 0 0] 26) from setN_row HS2.out.2.2 _ _ _ _)
        have HFB := (show Hid (Below w.heap.size w (setN w2 (w.heap.size + 2) (.bool false) (.slice none 0 0) (.slice none 0 0) (.slice none 0 0))) from setN_below HS2.out.1 (by omega) _ _ _ _)
        have y0 := HS2.out.2.2.at 0 _ rfl
        have y1 := HS2.out.2.2.at 1 _ rfl
        have y2 := HS2.out.2.2.at 2 _ rfl
        have y3 := HS2.out.2.2.at 3 _ rfl
        have z0 := HS2.out.2.2.fz 0
        have z1 := HS2.out.2.2.fz 1
        have z2 := HS2.out.2.2.fz 2
        have z3 := HS2.out.2.2.fz 3
        unfold setN at HFR HFB
        go_wp2
        refine bodyPost_ret (res_ct rfl _ _ (w.heap.size + 2) 26 _ _ rfl HFR.out Try.underlying26 rfl (by kernel_rfl)) rfl ?_
        exact HNO.out _ _ HOK.out rfl HFB.out
    | false =>
      cases rf with
      | false => exact absurd rfl hlr
      | true =>
        clear hlr
        have HS0 := (show Hid (Below w.heap.size w (((w.alloc (.cells #[.bool false, .slice a1 cl.length c1, .slice a2 kl.length c2, .slice a3 dl.length c3] 26)).alloc (.cells #[.bool true, .slice b1 cr.length e1, .slice b2 kr.length e2, .slice b3 dr.length e3] 26)).alloc (.cells #[.bool false, .slice none 0 0, .slice none 0 0, .slice none 0 0] 26)) ∧ (Brow (((w.alloc (.cells #[.bool false, .slice a1 cl.length c1, .slice a2 kl.length c2, .slice a3 dl.length c3] 26)).alloc (.cells #[.bool true, .slice b1 cr.length e1, .slice b2 kr.length e2, .slice b3 dr.length e3] 26)).alloc (.cells #[.bool false, .slice none 0 0, .slice none 0 0, .slice none 0 0] 26)) w.heap.size [.bool false, .slice a1 cl.length c1, .slice a2 kl.length c2, .slice a3 dl.length c3] 26 ∧ Brow (((w.alloc (.cells #[.bool false, .slice a1 cl.length c1, .slice a2 kl.length c2, .slice a3 dl.length c3] 26)).alloc (.cells #[.bool true, .slice b1 cr.length e1, .slice b2 kr.length e2, .slice b3 dr.length e3] 26)).alloc (.cells #[.bool false, .slice none 0 0, .slice none 0 0, .slice none 0 0] 26)) (w.heap.size + 1) [.bool true, .slice b1 cr.length e1, .slice b2 kr.length e2, .slice b3 dr.length e3] 26) ∧ Brow (((w.alloc (.cells #[.bool false, .slice a1 cl.length c1, .slice a2 kl.length c2, .slice a3 dl.length c3] 26)).alloc (.cells #[.bool true, .slice b1 cr.length e1, .slice b2 kr.length e2, .slice b3 dr.length e3] 26)).alloc (.cells #[.bool false, .slice none 0 0, .slice none 0 0, .slice none 0 0] 26)) (w.heap.size + 2) [.bool false, .slice none 0 0, .slice none 0 0, .slice none 0 0] 26) from ⟨((below_alloc _ _).alloc (by rw [size_alloc1]; omega) _).alloc (by rw [size_alloc1, size_alloc1]; omega) _, ⟨((Brow.new w [.bool false, .slice a1 cl.length c1, .slice a2 kl.length c2, .slice a3 dl.length c3] 26).alloc _).alloc _, by
          have := (Brow.new (w.alloc (.cells #[.bool false, .slice a1 cl.length c1, .slice a2 kl.length c2, .slice a3 dl.length c3] 26)) [.bool true, .slice b1 cr.length e1, .slice b2 kr.length e2, .slice b3 dr.length e3] 26).alloc (.cells #[.bool false, .slice none 0 0, .slice none 0 0, .slice none 0 0] 26)
          rwa [size_alloc1] at this⟩, by
          have := Brow.new ((w.alloc (.cells #[.bool false, .slice a1 cl.length c1, .slice a2 kl.length c2, .slice a3 dl.length c3] 26)).alloc (.cells #[.bool true, .slice b1 cr.length e1, .slice b2 kr.length e2, .slice b3 dr.length e3] 26)) [.bool false, .slice none 0 0, .slice none 0 0, .slice none 0 0] 26
          rwa [size_alloc1, size_alloc1] at this⟩)
        have hs0 : w.heap.size + 3 ≤ (((w.alloc (.cells #[.bool false, .slice a1 cl.length c1, .slice a2 kl.length c2, .slice a3 dl.length c3] 26)).alloc (.cells #[.bool true, .slice b1 cr.length e1, .slice b2 kr.length e2, .slice b3 dr.length e3] 26)).alloc (.cells #[.bool false, .slice none 0 0, .slice none 0 0, .slice none 0 0] 26)).heap.size := by rw [size_alloc1, size_alloc1, size_alloc1]; omega
        go_enter Try.func21, Try.ntmps21
        go_wp2_with fail
        refine (HC1 _ HS0.out.1).mono ?_
        rintro e w1 ⟨rfl, hB1⟩
        have HS1 := (show Hid (Below w.heap.size w w1 ∧ (Brow w1 w.heap.size [.bool false, .slice a1 cl.length c1, .slice a2 kl.length c2, .slice a3 dl.length c3] 26 ∧ Brow w1 (w.heap.size + 1) [.bool true, .slice b1 cr.length e1, .slice b2 kr.length e2, .slice b3 dr.length e3] 26) ∧ Brow w1 (w.heap.size + 2) [.bool false, .slice none 0 0, .slice none 0 0, .slice none 0 0] 26) from ⟨HS0.out.1.trans (hB1.mono (by omega)), ⟨HS0.out.2.1.1.below hB1 (by omega), HS0.out.2.1.2.below hB1 (by omega)⟩, HS0.out.2.2.below hB1 (by omega)⟩)
        have hs1 : w.heap.size + 3 ≤ w1.heap.size := Nat.le_trans hs0 hB1.size
        clear hB1 HS0 hs0 HC1
        have q0 := HS1.out.2.1.1.at 0 _ rfl
        have q1 := HS1.out.2.1.1.at 1 _ rfl
        have q2 := HS1.out.2.1.1.at 2 _ rfl
        have q3 := HS1.out.2.1.1.at 3 _ rfl
        have r0 := HS1.out.2.1.2.at 0 _ rfl
        have r1 := HS1.out.2.1.2.at 1 _ rfl
        have r2 := HS1.out.2.1.2.at 2 _ rfl
        have r3 := HS1.out.2.1.2.at 3 _ rfl
        go_wp2_with fail
        refine (HC2 _ HS1.out.1).mono ?_
        rintro e w2 ⟨rfl, hB2⟩
        have HS2 := (show Hid (Below w.heap.size w w2 ∧ (Brow w2 w.heap.size [.bool false, .slice a1 cl.length c1, .slice a2 kl.length c2, .slice a3 dl.length c3] 26 ∧ Brow w2 (w.heap.size + 1) [.bool true, .slice b1 cr.length e1, .slice b2 kr.length e2, .slice b3 dr.length e3] 26) ∧ Brow w2 (w.heap.size + 2) [.bool false, .slice none 0 0, .slice none 0 0, .slice none 0 0] 26) from ⟨HS1.out.1.trans (hB2.mono (by omega)), ⟨HS1.out.2.1.1.below hB2 (by omega), HS1.out.2.1.2.below hB2 (by omega)⟩, HS1.out.2.2.below hB2 (by omega)⟩)
        have hs2 : w.heap.size + 3 ≤ w2.heap.size := Nat.le_trans hs1 hB2.size
        clear hB2 HS1 hs1 HC2 q0 q1 q2 q3 r0 r1 r2 r3
        have q0 := HS2.out.2.1.1.at 0 _ rfl
        have q1 := HS2.out.2.1.1.at 1 _ rfl
        have q2 := HS2.out.2.1.1.at 2 _ rfl
        have q3 := HS2.out.2.1.1.at 3 _ rfl
        have r0 := HS2.out.2.1.2.at 0 _ rfl
        have r1 := HS2.out.2.1.2.at 1 _ rfl
        have r2 := HS2.out.2.1.2.at 2 _ rfl
        have r3 := HS2.out.2.1.2.at 3 _ rfl
        have HFR := (show Hid (Brow (setN w2 (w.heap.size + 2) (.bool false) (.slice none 0 0) (.slice none 0 0) (.slice none 0 0)) (w.heap.size + 2) [.bool false, .slice none 0 0, .slice none 0 0, .slice none 0 0] 26) from setN_row HS2.out.2.2 _ _ _ _)
        have HFB := (show Hid (Below w.heap.size w (setN w2 (w.heap.size + 2) (.bool false) (.slice none 0 0) (.slice none 0 0) (.slice none 0 0))) from setN_below HS2.out.1 (by omega) _ _ _ _)
        have y0 := HS2.out.2.2.at 0 _ rfl
        have y1 := HS2.out.2.2.at 1 _ rfl
        have y2 := HS2.out.2.2.at 2 _ rfl
        have y3 := HS2.out.2.2.at 3 _ rfl
        have z0 := HS2.out.2.2.fz 0
        have z1 := HS2.out.2.2.fz 1
        have z2 := HS2.out.2.2.fz 2
        have z3 := HS2.out.2.2.fz 3
        unfold setN at HFR HFB
        go_wp2
        refine bodyPost_ret (res_ct rfl _ _ (w.heap.size + 2) 26 _ _ rfl HFR.out Try.underlying26 rfl (by kernel_rfl)) rfl ?_
        exact HNO.out _ _ HOK.out rfl HFB.out
end Go.Proofs.Ytoinaplmgffkpaa
