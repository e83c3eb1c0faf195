/- Proved: how the document's Join gathers what two nodes have (stage 11). -/
import Derived.Test.YtoinaplmgffkpaaJoinH
import Derived.Test.YtoinaplmgffkpaaRCheck
import Derived.Test.YtoinaplmgffkpaaFewH
import Derived.Test.YtoinaplmgffkpaaFew
import Derived.Test.YtoinaplmgffkpaaLate
import Derived.Laws.OwnMore
namespace Go.Proofs.Ytoinaplmgffkpaa
open Go.RowKit
open Sl (Cel Nod)
section
variable {P : Program} {ops : Array Oper} {Q : Exit → Act → World → Prop} {md : Region.Mode} {S : World → Prop} {zs : List Nat}
theorem AnyL.two (i j : Nat) {o o' : Oper} {n : Nat} {listed : Array Bool} {a : Act} {w : World} (hr : Region.ready md ops listed = [i, j]) (ho : ops[i]? = some o) (ho' : ops[j]? = some o') (hw : Region.wanted o (yielded ops a.tmps) = true) (hw' : Region.wanted o' (yielded ops a.tmps) = true)
    (h : ∀ K : Act → World → Prop, Shut (∀ a' w', (zs.contains i = false → S w') → AnyL P md ops Q S zs n (listed.setIfInBounds i true) a' w' → K a' w') → Oper.wp P o a w K Q)
    (h' : ∀ K : Act → World → Prop, Shut (∀ a' w', (zs.contains j = false → S w') → AnyL P md ops Q S zs n (listed.setIfInBounds j true) a' w' → K a' w') → Oper.wp P o' a w K Q) : AnyL P md ops Q S zs (n + 1) listed a w := by
  refine ⟨fun h0 => (by rw [hr] at h0; cases h0), fun x hx => ?_⟩
  rw [hr] at hx
  rcases List.mem_cons.1 hx with rfl | hx
  · exact wpOp_step ho (fun K' hK => by rw [if_pos hw]; exact h K' (fun a' w' h1 h2 => hK a' w' ⟨h1, h2⟩))
  · obtain rfl := List.mem_singleton.1 hx
    exact wpOp_step ho' (fun K' hK => by rw [if_pos hw']; exact h' K' (fun a' w' h1 h2 => hK a' w' ⟨h1, h2⟩))
end
theorem run_app_none {P : Program} {w : World} (base : Nat) (t ty e : TypeId) (i : TypeInfo) (size : Nat) (ht : P.underlying t = some (.slice e)) (hi : P.info? e = some i)
    (v : Value) (n c : Nat) (xs : List Value) (hown : w.ownsRow base e size v n xs) :
    (Builtin.append_ #[t, t] ty #[v, .slice none 0 c]).run P w = .ok v w := by
  rcases hown.2 with ⟨rfl, rfl⟩ | ⟨g, cap, cur, rfl, _, _, hnc, _⟩
  · simp [Builtin.append_, run_underlying ht, sizeOf, typeInfo, hi, Builtin.lenOf, Builtin.firstCells]
  · simp [Builtin.append_, run_underlying ht, sizeOf, typeInfo, hi, Builtin.lenOf, Builtin.firstCells, hnc, storeCells]
theorem app_own {P : Program} {W : World} {t e : TypeId} {z : Value} {size bytes : Nat} (ht : P.underlying t = some (.slice e)) (hinfo : (P.info? e).map (fun i => (i.zero, i.size, i.bytes)) = some (some z, size, bytes)) (hzs : z.cells.size = size) (hsz : 0 < size) (B : Nat) (v : Value) (n : Nat) (xs : List Value) (hown : W.ownsRow B e size v n xs)
    (ad2 : Option Addr) (m c2 : Nat) (ys : List Value) (hy : RowAt W ad2 ys) (hyl : ys.length = m * size) (hy1 : ∀ u ∈ ys, u.oneCell' = true) (hb : (n + m) * bytes ≤ 140737488355328) (hnm : n + m ≤ 100000) (hB : B ≤ W.heap.size) :
    ∃ v' w', (∀ ty, (Builtin.append_ #[t, t] ty #[v, .slice ad2 m c2]).run P W = .ok v' w') ∧ w'.ownsRow B e size v' (n + m) (xs ++ ys) ∧ Grew W v w' v' := by
  obtain ⟨i0, hi, hz0, hz1, hz2⟩ := info_parts hinfo
  cases ad2 with
  | none =>
    have hys : ys = [] := by
      rcases hy with h | ⟨_, _, h, _⟩
      · exact h
      · cases h
    subst hys
    have hm : m = 0 := by
      rcases Nat.eq_zero_or_pos m with h | h
      · exact h
      · have := Nat.mul_pos h hsz
        simp at hyl
        omega
    subst hm
    exact ⟨v, W, fun ty => run_app_none B t ty e i0 size ht hi v n c2 xs hown, by rw [List.append_nil, Nat.add_zero]; exact hown, Grew.refl _ _⟩
  | some a =>
    have hn : ∀ j u, ys[j]? = some u → W.cell? (a.add j) = some u := fun j u hj => by
      rcases hy with h | ⟨b, off, h, _, h2⟩
      · rw [h] at hj; simp at hj
      · cases h
        rw [Addr.add_lit]
        exact h2 j u hj
    obtain ⟨v', w', hr, h2, h3, h4, h5⟩ := run_append_own_at (P := P) W B t 0 e i0 z size bytes ht hi hz0 hz1 hz2 hzs hsz v n xs hown a m c2 ys hyl hn hy1 (by unfold maxLen; omega) hb hB
    exact ⟨v', w', fun _ => hr, h2, h3, h5.imp id (fun h => ⟨_, h, Nat.le_refl _⟩)⟩
structure JR (w : World) (X : Nat) (lb rb : List Value) (lf : Bool) (cs : List Cel) (ks : List ByteArray) (ds : List Int) (v1 v2 v3 : Value) (wr : World) : Prop where
  bl : Brow wr w.heap.size lb 26
  br : Brow wr (w.heap.size + 1) rb 26
  z : Brow wr (w.heap.size + 2) [.bool false, .slice none 0 0, .slice none 0 0, .slice none 0 0] 26
  o : Brow wr X [.bool lf, v1, v2, v3] 26
  r1 : wr.ownsRow (X + 1) 28 4 v1 cs.length (cvals cs)
  r2 : wr.ownsRow (X + 1) 9 1 v2 ks.length (kcells ks)
  r3 : wr.ownsRow (X + 1) 3 1 v3 ds.length (icells ds)
  b : Below w.heap.size w wr
  x : w.heap.size + 3 ≤ X
  n : X + 1 ≤ wr.heap.size
  a12 : ∀ b, v1.ownBlock = some b → v2.ownBlock ≠ some b
  a13 : ∀ b, v1.ownBlock = some b → v3.ownBlock ≠ some b
  a23 : ∀ b, v2.ownBlock = some b → v3.ownBlock ≠ some b
variable {w wr w' : World} {X : Nat} {lb rb : List Value} {lf : Bool} {cs : List Cel} {ks : List ByteArray} {ds : List Int} {v1 v2 v3 v v' : Value}
theorem JR.below (h : JR w X lb rb lf cs ks ds v1 v2 v3 wr) (hb : Below wr.heap.size wr w') : JR w X lb rb lf cs ks ds v1 v2 v3 w' := by
  have := h.x
  have := h.n
  exact ⟨h.bl.below hb (by omega), h.br.below hb (by omega), h.z.below hb (by omega), h.o.below hb (by omega), own_below h.r1 hb, own_below h.r2 hb, own_below h.r3 hb, h.b.trans (hb.mono (by omega)), h.x, Nat.le_trans h.n hb.size, h.a12, h.a13, h.a23⟩
/- a row of the call's own beside the node -/
structure Bes (X : Nat) (v1 v2 v3 v : Value) (e k n : Nat) (vs : List Value) (wr : World) : Prop where
  own : wr.ownsRow (X + 1) e k v n vs
  b1 : ∀ b, v.ownBlock = some b → v1.ownBlock ≠ some b
  b2 : ∀ b, v.ownBlock = some b → v2.ownBlock ≠ some b
  b3 : ∀ b, v.ownBlock = some b → v3.ownBlock ≠ some b
theorem Bes.below {e k n : Nat} {vs : List Value} (h : Bes X v1 v2 v3 v e k n vs wr) (hb : Below wr.heap.size wr w') : Bes X v1 v2 v3 v e k n vs w' := ⟨own_below h.own hb, h.b1, h.b2, h.b3⟩
theorem Bes.nil (e k : Nat) : Bes X v1 v2 v3 (.slice none 0 0) e k 0 [] wr := ⟨own_nil _ _ _ _, fun b hb => (by cases hb), fun b hb => (by cases hb), fun b hb => (by cases hb)⟩
theorem grew_ap (G : Grew wr v w' v') {u : Value} (h : ∀ b, v.ownBlock = some b → u.ownBlock ≠ some b) (hu : ∀ b, u.ownBlock = some b → b < wr.heap.size) : ∀ b, v'.ownBlock = some b → u.ownBlock ≠ some b := fun b hb e => by
  rcases G.row with e1 | ⟨g', e1, hg'⟩
  · rw [e1] at hb; exact h b hb e
  · rw [e1] at hb
    have := Option.some.inj hb
    have := hu b e
    omega
theorem JR.grow {e k n : Nat} {vs : List Value} (h : JR w X lb rb lf cs ks ds v1 v2 v3 wr) (hB : Bes X v1 v2 v3 v e k n vs wr) (G : Grew wr v w' v') : JR w X lb rb lf cs ks ds v1 v2 v3 w' := by
  have hx := h.x
  have hn := h.n
  have hf : ∀ b, b < X + 1 → some b ≠ v.ownBlock := fun b hb => own_far hB.own hb
  exact ⟨h.bl.grew G (hf _ (by omega)), h.br.grew G (hf _ (by omega)), h.z.grew G (hf _ (by omega)), h.o.grew G (hf _ (by omega)), own_grew h.r1 G (fun b hb e => hB.b1 b e hb), own_grew h.r2 G (fun b hb e => hB.b2 b e hb), own_grew h.r3 G (fun b hb e => hB.b3 b e hb), h.b.trans ((G.below hB.own hn).mono (by omega)), h.x, Nat.le_trans h.n G.by_.size, h.a12, h.a13, h.a23⟩
theorem Bes.grow {e k n n' : Nat} {vs vs' : List Value} (h : JR w X lb rb lf cs ks ds v1 v2 v3 wr) (hB : Bes X v1 v2 v3 v e k n vs wr) (G : Grew wr v w' v') (ho : w'.ownsRow (X + 1) e k v' n' vs') : Bes X v1 v2 v3 v' e k n' vs' w' :=
  ⟨ho, grew_ap G hB.b1 (fun _b hb => (own_row h.r1 hb).2), grew_ap G hB.b2 (fun _b hb => (own_row h.r2 hb).2), grew_ap G hB.b3 (fun _b hb => (own_row h.r3 hb).2)⟩
theorem JR.put1 {cs' : List Cel} (h : JR w X lb rb lf cs ks ds v1 v2 v3 wr) (hB : Bes X v1 v2 v3 v 28 4 cs'.length (cvals cs') wr) : JR w X lb rb lf cs' ks ds v v2 v3 (wr.setCell ⟨X, 1, none⟩ v) := by
  have hx := h.x
  exact ⟨h.bl.far (by show X ≠ _; omega), h.br.far (by show X ≠ _; omega), h.z.far (by show X ≠ _; omega), h.o.set 1 v, own_setFar hB.own (by omega), own_setFar h.r2 (by omega), own_setFar h.r3 (by omega), h.b.setCell (by show w.heap.size ≤ X; omega) _, hx, by rw [size_setCell]; exact h.n, hB.b2, hB.b3, h.a23⟩
theorem JR.put2 {ks' : List ByteArray} (h : JR w X lb rb lf cs ks ds v1 v2 v3 wr) (hB : Bes X v1 v2 v3 v 9 1 ks'.length (kcells ks') wr) : JR w X lb rb lf cs ks' ds v1 v v3 (wr.setCell ⟨X, 2, none⟩ v) := by
  have hx := h.x
  exact ⟨h.bl.far (by show X ≠ _; omega), h.br.far (by show X ≠ _; omega), h.z.far (by show X ≠ _; omega), h.o.set 2 v, own_setFar h.r1 (by omega), own_setFar hB.own (by omega), own_setFar h.r3 (by omega), h.b.setCell (by show w.heap.size ≤ X; omega) _, hx, by rw [size_setCell]; exact h.n, fun b hb e => hB.b1 b e hb, h.a13, hB.b3⟩
theorem JR.put3 {ds' : List Int} (h : JR w X lb rb lf cs ks ds v1 v2 v3 wr) (hB : Bes X v1 v2 v3 v 3 1 ds'.length (icells ds') wr) : JR w X lb rb lf cs ks ds' v1 v2 v (wr.setCell ⟨X, 3, none⟩ v) := by
  have hx := h.x
  exact ⟨h.bl.far (by show X ≠ _; omega), h.br.far (by show X ≠ _; omega), h.z.far (by show X ≠ _; omega), h.o.set 3 v, own_setFar h.r1 (by omega), own_setFar h.r2 (by omega), own_setFar hB.own (by omega), h.b.setCell (by show w.heap.size ≤ X; omega) _, hx, by rw [size_setCell]; exact h.n, h.a12, fun b hb e => hB.b1 b e hb, fun b hb e => hB.b2 b e hb⟩
theorem JR.lies {a1 a2 a3 : Option Addr} {c1 c2 c3 n1 n2 n3 : Nat} (h : JR w X lb rb lf cs ks ds (.slice a1 n1 c1) (.slice a2 n2 c2) (.slice a3 n3 c3) wr) : LiesF wr (X + 1) ⟨lf, cs, ks, ds⟩ ⟨a1, c1, a2, c2, a3, c3⟩ := by
  obtain ⟨x1, y1, e1, m1, l1, f1⟩ := own_rowFrom h.r1
  obtain ⟨x2, y2, e2, m2, l2, f2⟩ := own_rowFrom h.r2
  obtain ⟨x3, y3, e3, m3, l3, f3⟩ := own_rowFrom h.r3
  cases e1; cases e2; cases e3
  exact ⟨f1, f2, f3, m1, m2, m3, l1, l2, l3⟩
theorem join_may {l r : Nod} {k : ByteArray} (hl : Sl.may l = true) (hr : Sl.may r = true) (hf : l.leaf = r.leaf) (h1 : l.cells.length + r.cells.length ≤ 200) (h2 : l.keys.length + r.keys.length ≤ 200) : Sl.may (joinN l r k) = joinOk l r k := by
  obtain ⟨sl, gl⟩ := may_good hl
  obtain ⟨sr, gr⟩ := may_good hr
  have hok : joinOk l r k = ((l.leaf || Sl.isKey k) && Sl.rise (Sl.keysOf (joinN l r k))) := by
    unfold joinOk
    rw [hl, hr, decide_eq_true hf]
    rfl
  rw [hok, Bool.eq_iff_iff, Bool.and_eq_true]
  obtain ⟨lf, cl, kl, dl⟩ := l
  obtain ⟨rf, cr, kr, dr⟩ := r
  simp only at hf h1 h2
  subst hf
  cases lf with
  | true =>
    obtain ⟨_, _, _, e4, e5⟩ := may_leaf hl rfl
    obtain ⟨_, _, _, e6, e7⟩ := may_leaf hr rfl
    simp only at e4 e5 e6 e7
    subst e4 e5 e6 e7
    constructor
    · intro h
      have := (may_leaf h rfl).2.2.1
      exact ⟨rfl, this⟩
    · rintro ⟨_, h⟩
      refine may_of_leaf (fun c hc => ?_) ?_ h
      · rcases List.mem_append.1 hc with hc | hc
        · exact gl.c c hc
        · exact gr.c c hc
      · show (cl ++ cr).length ≤ 255
        rw [List.length_append]; omega
  | false =>
    obtain ⟨_, _, _, e4, e5, _⟩ := may_branch hl rfl
    obtain ⟨_, _, _, e6, e7, _⟩ := may_branch hr rfl
    simp only at e4 e5 e6 e7
    subst e4 e6
    constructor
    · intro h
      have hb := may_branch h rfl
      exact ⟨hb.1 k (by show k ∈ kl ++ [k] ++ kr; simp), hb.2.2.1⟩
    · rintro ⟨hk, h⟩
      have hk' : Sl.isKey k = true := hk
      refine may_of_branch (ks := kl ++ [k] ++ kr) (ds := dl ++ dr) (fun x hx => ?_) ?_ h ?_ (fun d hd => ?_)
      · simp only [List.mem_append, List.mem_singleton] at hx
        rcases hx with (hx | rfl) | hx
        · exact gl.k x hx
        · exact hk'
        · exact gr.k x hx
      · simp only [List.length_append, List.length_cons, List.length_nil]; omega
      · simp only [List.length_append, List.length_cons, List.length_nil]; omega
      · rcases List.mem_append.1 hd with hd | hd
        · exact gl.d d hd
        · exact gr.d d hd
set_option maxHeartbeats 4000000 in
set_option maxRecDepth 20000 in
theorem rjoin_no (l r : Nod) (p q : Pt) (k : ByteArray) (w : World) (hL : Lies w l p) (hR : Lies w r q) (hFl : Fit l) (hFr : Fit r) (_hk : k.size ≤ 140737488355328) (_hz1 : l.cells.length + r.cells.length ≤ 200) (_hz2 : l.keys.length + r.keys.length ≤ 200) (_hz3 : l.kids.length + r.kids.length ≤ 200) (hN : Sl.may l = false ∨ (Sl.may l = true ∧ Sl.may r = false) ∨ (Sl.may l = true ∧ Sl.may r = true ∧ l.leaf ≠ r.leaf)) :
    Calls Try.prog 22 #[nv l p, nv r q, .string k] w (JoPost w l r k) := by
  have hok : joinOk l r k = false := by
    unfold joinOk
    rcases hN with h | ⟨h, h'⟩ | ⟨h, h', hn⟩
    · rw [h]; rfl
    · rw [h, h']; rfl
    · rw [h, h', decide_eq_false hn]; rfl
  have HOK : Hid (joinOk l r k = false) := hok
  have HNO := (show Hid (∀ (e : Ending) (w' : World), joinOk l r k = false → e = .returned (.tuple #[nv Sl.nod0 ⟨none, 0, none, 0, none, 0⟩, .int .i64 2]) → Below w.heap.size w w' → JoPost w l r k e w') from fun e w' h he hB => jo_no e w' h he hB)
  have HC1 := fun (W : World) (h : Below w.heap.size w W) => rcheck_any l p W (hL.below h) hFl
  have HC2 := fun (W : World) (h : Below w.heap.size w W) => rcheck_any r q W (hR.below h) hFr
  unfold checkE at HC1 HC2
  clear hL hR hFl hFr hok
  obtain ⟨lf, cl, kl, dl⟩ := l
  obtain ⟨rf, cr, kr, dr⟩ := r
  obtain ⟨a1, c1, a2, c2, a3, c3⟩ := p
  obtain ⟨b1, e1, b2, e2, b3, e3⟩ := q
  unfold nv at *
  simp only at HC1 HC2 ⊢
  rcases hN with hN | ⟨hN, hM⟩ | ⟨hN, hM, hlr⟩
  · rw [hN] at HC1
    clear HC2 hN
    simp only [Bool.false_eq_true, if_false] at HC1
    have HS0 := (show Hid (Below w.heap.size w (((w.alloc (.cells #[.bool lf, .slice a1 cl.length c1, .slice a2 kl.length c2, .slice a3 dl.length c3] 26)).alloc (.cells #[.bool rf, .slice b1 cr.length e1, .slice b2 kr.length e2, .slice b3 dr.length e3] 26)).alloc (.cells #[.bool false, .slice none 0 0, .slice none 0 0, .slice none 0 0] 26)) ∧ (Brow (((w.alloc (.cells #[.bool lf, .slice a1 cl.length c1, .slice a2 kl.length c2, .slice a3 dl.length c3] 26)).alloc (.cells #[.bool rf, .slice b1 cr.length e1, .slice b2 kr.length e2, .slice b3 dr.length e3] 26)).alloc (.cells #[.bool false, .slice none 0 0, .slice none 0 0, .slice none 0 0] 26)) w.heap.size [.bool lf, .slice a1 cl.length c1, .slice a2 kl.length c2, .slice a3 dl.length c3] 26 ∧ Brow (((w.alloc (.cells #[.bool lf, .slice a1 cl.length c1, .slice a2 kl.length c2, .slice a3 dl.length c3] 26)).alloc (.cells #[.bool rf, .slice b1 cr.length e1, .slice b2 kr.length e2, .slice b3 dr.length e3] 26)).alloc (.cells #[.bool false, .slice none 0 0, .slice none 0 0, .slice none 0 0] 26)) (w.heap.size + 1) [.bool rf, .slice b1 cr.length e1, .slice b2 kr.length e2, .slice b3 dr.length e3] 26) ∧ Brow (((w.alloc (.cells #[.bool lf, .slice a1 cl.length c1, .slice a2 kl.length c2, .slice a3 dl.length c3] 26)).alloc (.cells #[.bool rf, .slice b1 cr.length e1, .slice b2 kr.length e2, .slice b3 dr.length e3] 26)).alloc (.cells #[.bool false, .slice none 0 0, .slice none 0 0, .slice none 0 0] 26)) (w.heap.size + 2) [.bool false, .slice none 0 0, .slice none 0 0, .slice none 0 0] 26) from ⟨((below_alloc _ _).alloc (by rw [size_alloc1]; omega) _).alloc (by rw [size_alloc1, size_alloc1]; omega) _, ⟨((Brow.new w [.bool lf, .slice a1 cl.length c1, .slice a2 kl.length c2, .slice a3 dl.length c3] 26).alloc _).alloc _, by
      have := (Brow.new (w.alloc (.cells #[.bool lf, .slice a1 cl.length c1, .slice a2 kl.length c2, .slice a3 dl.length c3] 26)) [.bool rf, .slice b1 cr.length e1, .slice b2 kr.length e2, .slice b3 dr.length e3] 26).alloc (.cells #[.bool false, .slice none 0 0, .slice none 0 0, .slice none 0 0] 26)
      rwa [size_alloc1] at this⟩, by
      have := Brow.new ((w.alloc (.cells #[.bool lf, .slice a1 cl.length c1, .slice a2 kl.length c2, .slice a3 dl.length c3] 26)).alloc (.cells #[.bool rf, .slice b1 cr.length e1, .slice b2 kr.length e2, .slice b3 dr.length e3] 26)) [.bool false, .slice none 0 0, .slice none 0 0, .slice none 0 0] 26
      rwa [size_alloc1, size_alloc1] at this⟩)
    have hs0 : w.heap.size + 3 ≤ (((w.alloc (.cells #[.bool lf, .slice a1 cl.length c1, .slice a2 kl.length c2, .slice a3 dl.length c3] 26)).alloc (.cells #[.bool rf, .slice b1 cr.length e1, .slice b2 kr.length e2, .slice b3 dr.length e3] 26)).alloc (.cells #[.bool false, .slice none 0 0, .slice none 0 0, .slice none 0 0] 26)).heap.size := by rw [size_alloc1, size_alloc1, size_alloc1]; omega
    go_enter Try.func22, Try.ntmps22
    go_wp2_with fail
    refine (HC1 _ HS0.out.1).mono ?_
    rintro e w1 ⟨rfl, hB1⟩
    have HS1 := (show Hid (Below w.heap.size w w1 ∧ (Brow w1 w.heap.size [.bool lf, .slice a1 cl.length c1, .slice a2 kl.length c2, .slice a3 dl.length c3] 26 ∧ Brow w1 (w.heap.size + 1) [.bool rf, .slice b1 cr.length e1, .slice b2 kr.length e2, .slice b3 dr.length e3] 26) ∧ Brow w1 (w.heap.size + 2) [.bool false, .slice none 0 0, .slice none 0 0, .slice none 0 0] 26) from ⟨HS0.out.1.trans (hB1.mono (by omega)), ⟨HS0.out.2.1.1.below hB1 (by omega), HS0.out.2.1.2.below hB1 (by omega)⟩, HS0.out.2.2.below hB1 (by omega)⟩)
    have hs1 : w.heap.size + 3 ≤ w1.heap.size := Nat.le_trans hs0 hB1.size
    clear hB1 HS0 hs0 HC1
    have HFR := (show Hid (Brow (setN w1 (w.heap.size + 2) (.bool false) (.slice none 0 0) (.slice none 0 0) (.slice none 0 0)) (w.heap.size + 2) [.bool false, .slice none 0 0, .slice none 0 0, .slice none 0 0] 26) from setN_row HS1.out.2.2 _ _ _ _)
    have HFB := (show Hid (Below w.heap.size w (setN w1 (w.heap.size + 2) (.bool false) (.slice none 0 0) (.slice none 0 0) (.slice none 0 0))) from setN_below HS1.out.1 (by omega) _ _ _ _)
    have y0 := HS1.out.2.2.at 0 _ rfl
    have y1 := HS1.out.2.2.at 1 _ rfl
    have y2 := HS1.out.2.2.at 2 _ rfl
    have y3 := HS1.out.2.2.at 3 _ rfl
    have z0 := HS1.out.2.2.fz 0
    have z1 := HS1.out.2.2.fz 1
    have z2 := HS1.out.2.2.fz 2
    have z3 := HS1.out.2.2.fz 3
    unfold setN at HFR HFB
    go_wp2
    refine bodyPost_ret (res_ct rfl _ _ (w.heap.size + 2) 26 _ _ rfl HFR.out Try.underlying26 rfl (by kernel_rfl)) rfl ?_
    exact HNO.out _ _ HOK.out rfl HFB.out
  · rw [hN] at HC1
    rw [hM] at HC2
    clear hN hM
    simp only [Bool.false_eq_true, if_false, if_true] at HC1 HC2
    have HS0 := (show Hid (Below w.heap.size w (((w.alloc (.cells #[.bool lf, .slice a1 cl.length c1, .slice a2 kl.length c2, .slice a3 dl.length c3] 26)).alloc (.cells #[.bool rf, .slice b1 cr.length e1, .slice b2 kr.length e2, .slice b3 dr.length e3] 26)).alloc (.cells #[.bool false, .slice none 0 0, .slice none 0 0, .slice none 0 0] 26)) ∧ (Brow (((w.alloc (.cells #[.bool lf, .slice a1 cl.length c1, .slice a2 kl.length c2, .slice a3 dl.length c3] 26)).alloc (.cells #[.bool rf, .slice b1 cr.length e1, .slice b2 kr.length e2, .slice b3 dr.length e3] 26)).alloc (.cells #[.bool false, .slice none 0 0, .slice none 0 0, .slice none 0 0] 26)) w.heap.size [.bool lf, .slice a1 cl.length c1, .slice a2 kl.length c2, .slice a3 dl.length c3] 26 ∧ Brow (((w.alloc (.cells #[.bool lf, .slice a1 cl.length c1, .slice a2 kl.length c2, .slice a3 dl.length c3] 26)).alloc (.cells #[.bool rf, .slice b1 cr.length e1, .slice b2 kr.length e2, .slice b3 dr.length e3] 26)).alloc (.cells #[.bool false, .slice none 0 0, .slice none 0 0, .slice none 0 0] 26)) (w.heap.size + 1) [.bool rf, .slice b1 cr.length e1, .slice b2 kr.length e2, .slice b3 dr.length e3] 26) ∧ Brow (((w.alloc (.cells #[.bool lf, .slice a1 cl.length c1, .slice a2 kl.length c2, .slice a3 dl.length c3] 26)).alloc (.cells #[.bool rf, .slice b1 cr.length e1, .slice b2 kr.length e2, .slice b3 dr.length e3] 26)).alloc (.cells #[.bool false, .slice none 0 0, .slice none 0 0, .slice none 0 0] 26)) (w.heap.size + 2) [.bool false, .slice none 0 0, .slice none 0 0, .slice none 0 0] 26) from ⟨((below_alloc _ _).alloc (by rw [size_alloc1]; omega) _).alloc (by rw [size_alloc1, size_alloc1]; omega) _, ⟨((Brow.new w [.bool lf, .slice a1 cl.length c1, .slice a2 kl.length c2, .slice a3 dl.length c3] 26).alloc _).alloc _, by
      have := (Brow.new (w.alloc (.cells #[.bool lf, .slice a1 cl.length c1, .slice a2 kl.length c2, .slice a3 dl.length c3] 26)) [.bool rf, .slice b1 cr.length e1, .slice b2 kr.length e2, .slice b3 dr.length e3] 26).alloc (.cells #[.bool false, .slice none 0 0, .slice none 0 0, .slice none 0 0] 26)
      rwa [size_alloc1] at this⟩, by
      have := Brow.new ((w.alloc (.cells #[.bool lf, .slice a1 cl.length c1, .slice a2 kl.length c2, .slice a3 dl.length c3] 26)).alloc (.cells #[.bool rf, .slice b1 cr.length e1, .slice b2 kr.length e2, .slice b3 dr.length e3] 26)) [.bool false, .slice none 0 0, .slice none 0 0, .slice none 0 0] 26
      rwa [size_alloc1, size_alloc1] at this⟩)
    have hs0 : w.heap.size + 3 ≤ (((w.alloc (.cells #[.bool lf, .slice a1 cl.length c1, .slice a2 kl.length c2, .slice a3 dl.length c3] 26)).alloc (.cells #[.bool rf, .slice b1 cr.length e1, .slice b2 kr.length e2, .slice b3 dr.length e3] 26)).alloc (.cells #[.bool false, .slice none 0 0, .slice none 0 0, .slice none 0 0] 26)).heap.size := by rw [size_alloc1, size_alloc1, size_alloc1]; omega
    go_enter Try.func22, Try.ntmps22
    go_wp2_with fail
    refine (HC1 _ HS0.out.1).mono ?_
    rintro e w1 ⟨rfl, hB1⟩
    have HS1 := (show Hid (Below w.heap.size w w1 ∧ (Brow w1 w.heap.size [.bool lf, .slice a1 cl.length c1, .slice a2 kl.length c2, .slice a3 dl.length c3] 26 ∧ Brow w1 (w.heap.size + 1) [.bool rf, .slice b1 cr.length e1, .slice b2 kr.length e2, .slice b3 dr.length e3] 26) ∧ Brow w1 (w.heap.size + 2) [.bool false, .slice none 0 0, .slice none 0 0, .slice none 0 0] 26) from ⟨HS0.out.1.trans (hB1.mono (by omega)), ⟨HS0.out.2.1.1.below hB1 (by omega), HS0.out.2.1.2.below hB1 (by omega)⟩, HS0.out.2.2.below hB1 (by omega)⟩)
    have hs1 : w.heap.size + 3 ≤ w1.heap.size := Nat.le_trans hs0 hB1.size
    clear hB1 HS0 hs0 HC1
    have q0 := HS1.out.2.1.1.at 0 _ rfl
    have q1 := HS1.out.2.1.1.at 1 _ rfl
    have q2 := HS1.out.2.1.1.at 2 _ rfl
    have q3 := HS1.out.2.1.1.at 3 _ rfl
    have r0 := HS1.out.2.1.2.at 0 _ rfl
    have r1 := HS1.out.2.1.2.at 1 _ rfl
    have r2 := HS1.out.2.1.2.at 2 _ rfl
    have r3 := HS1.out.2.1.2.at 3 _ rfl
    go_wp2_with fail
    refine (HC2 _ HS1.out.1).mono ?_
    rintro e w2 ⟨rfl, hB2⟩
    have HS2 := (show Hid (Below w.heap.size w w2 ∧ (Brow w2 w.heap.size [.bool lf, .slice a1 cl.length c1, .slice a2 kl.length c2, .slice a3 dl.length c3] 26 ∧ Brow w2 (w.heap.size + 1) [.bool rf, .slice b1 cr.length e1, .slice b2 kr.length e2, .slice b3 dr.length e3] 26) ∧ Brow w2 (w.heap.size + 2) [.bool false, .slice none 0 0, .slice none 0 0, .slice none 0 0] 26) from ⟨HS1.out.1.trans (hB2.mono (by omega)), ⟨HS1.out.2.1.1.below hB2 (by omega), HS1.out.2.1.2.below hB2 (by omega)⟩, HS1.out.2.2.below hB2 (by omega)⟩)
    have hs2 : w.heap.size + 3 ≤ w2.heap.size := Nat.le_trans hs1 hB2.size
    clear hB2 HS1 hs1 HC2 q0 q1 q2 q3 r0 r1 r2 r3
    have q0 := HS2.out.2.1.1.at 0 _ rfl
    have q1 := HS2.out.2.1.1.at 1 _ rfl
    have q2 := HS2.out.2.1.1.at 2 _ rfl
    have q3 := HS2.out.2.1.1.at 3 _ rfl
    have r0 := HS2.out.2.1.2.at 0 _ rfl
    have r1 := HS2.out.2.1.2.at 1 _ rfl
    have r2 := HS2.out.2.1.2.at 2 _ rfl
    have r3 := HS2.out.2.1.2.at 3 _ rfl
    clear q0 q1 q2 q3 r0 r1 r2 r3
    have HFR := (show Hid (Brow (setN w2 (w.heap.size + 2) (.bool false) (.slice none 0 0) (.slice none 0 0) (.slice none 0 0)) (w.heap.size + 2) [.bool false, .slice none 0 0, .slice none 0 0, .slice none 0 0] 26) from setN_row HS2.out.2.2 _ _ _ _)
    have HFB := (show Hid (Below w.heap.size w (setN w2 (w.heap.size + 2) (.bool false) (.slice none 0 0) (.slice none 0 0) (.slice none 0 0))) from setN_below HS2.out.1 (by omega) _ _ _ _)
    have y0 := HS2.out.2.2.at 0 _ rfl
    have y1 := HS2.out.2.2.at 1 _ rfl
    have y2 := HS2.out.2.2.at 2 _ rfl
    have y3 := HS2.out.2.2.at 3 _ rfl
    have z0 := HS2.out.2.2.fz 0
    have z1 := HS2.out.2.2.fz 1
    have z2 := HS2.out.2.2.fz 2
    have z3 := HS2.out.2.2.fz 3
    unfold setN at HFR HFB
    go_wp2
    refine bodyPost_ret (res_ct rfl _ _ (w.heap.size + 2) 26 _ _ rfl HFR.out Try.underlying26 rfl (by kernel_rfl)) rfl ?_
    exact HNO.out _ _ HOK.out rfl HFB.out
  · rw [hN] at HC1
    rw [hM] at HC2
    clear hN hM
    simp only [if_true] at HC1 HC2
    cases lf with
    | true =>
      cases rf with
      | true => exact absurd rfl hlr
      | false =>
        clear hlr
        have HS0 := (show Hid (Below w.heap.size w (((w.alloc (.cells #[.bool true, .slice a1 cl.length c1, .slice a2 kl.length c2, .slice a3 dl.length c3] 26)).alloc (.cells #[.bool false, .slice b1 cr.length e1, .slice b2 kr.length e2, .slice b3 dr.length e3] 26)).alloc (.cells #[.bool false, .slice none 0 0, .slice none 0 0, .slice none 0 0] 26)) ∧ (Brow (((w.alloc (.cells #[.bool true, .slice a1 cl.length c1, .slice a2 kl.length c2, .slice a3 dl.length c3] 26)).alloc (.cells #[.bool false, .slice b1 cr.length e1, .slice b2 kr.length e2, .slice b3 dr.length e3] 26)).alloc (.cells #[.bool false, .slice none 0 0, .slice none 0 0, .slice none 0 0] 26)) w.heap.size [.bool true, .slice a1 cl.length c1, .slice a2 kl.length c2, .slice a3 dl.length c3] 26 ∧ Brow (((w.alloc (.cells #[.bool true, .slice a1 cl.length c1, .slice a2 kl.length c2, .slice a3 dl.length c3] 26)).alloc (.cells #[.bool false, .slice b1 cr.length e1, .slice b2 kr.length e2, .slice b3 dr.length e3] 26)).alloc (.cells #[.bool false, .slice none 0 0, .slice none 0 0, .slice none 0 0] 26)) (w.heap.size + 1) [.bool false, .slice b1 cr.length e1, .slice b2 kr.length e2, .slice b3 dr.length e3] 26) ∧ Brow (((w.alloc (.cells #[.bool true, .slice a1 cl.length c1, .slice a2 kl.length c2, .slice a3 dl.length c3] 26)).alloc (.cells #[.bool false, .slice b1 cr.length e1, .slice b2 kr.length e2, .slice b3 dr.length e3] 26)).alloc (.cells #[.bool false, .slice none 0 0, .slice none 0 0, .slice none 0 0] 26)) (w.heap.size + 2) [.bool false, .slice none 0 0, .slice none 0 0, .slice none 0 0] 26) from ⟨((below_alloc _ _).alloc (by rw [size_alloc1]; omega) _).alloc (by rw [size_alloc1, size_alloc1]; omega) _, ⟨((Brow.new w [.bool true, .slice a1 cl.length c1, .slice a2 kl.length c2, .slice a3 dl.length c3] 26).alloc _).alloc _, by
          have := (Brow.new (w.alloc (.cells #[.bool true, .slice a1 cl.length c1, .slice a2 kl.length c2, .slice a3 dl.length c3] 26)) [.bool false, .slice b1 cr.length e1, .slice b2 kr.length e2, .slice b3 dr.length e3] 26).alloc (.cells #[.bool false, .slice none 0 0, .slice none 0 0, .slice none 0 0] 26)
          rwa [size_alloc1] at this⟩, by
          have := Brow.new ((w.alloc (.cells #[.bool true, .slice a1 cl.length c1, .slice a2 kl.length c2, .slice a3 dl.length c3] 26)).alloc (.cells #[.bool false, .slice b1 cr.length e1, .slice b2 kr.length e2, .slice b3 dr.length e3] 26)) [.bool false, .slice none 0 0, .slice none 0 0, .slice none 0 0] 26
          rwa [size_alloc1, size_alloc1] at this⟩)
        have hs0 : w.heap.size + 3 ≤ (((w.alloc (.cells #[.bool true, .slice a1 cl.length c1, .slice a2 kl.length c2, .slice a3 dl.length c3] 26)).alloc (.cells #[.bool false, .slice b1 cr.length e1, .slice b2 kr.length e2, .slice b3 dr.length e3] 26)).alloc (.cells #[.bool false, .slice none 0 0, .slice none 0 0, .slice none 0 0] 26)).heap.size := by rw [size_alloc1, size_alloc1, size_alloc1]; omega
        go_enter Try.func22, Try.ntmps22
        go_wp2_with fail
        refine (HC1 _ HS0.out.1).mono ?_
        rintro e w1 ⟨rfl, hB1⟩
        have HS1 := (show Hid (Below w.heap.size w w1 ∧ (Brow w1 w.heap.size [.bool true, .slice a1 cl.length c1, .slice a2 kl.length c2, .slice a3 dl.length c3] 26 ∧ Brow w1 (w.heap.size + 1) [.bool false, .slice b1 cr.length e1, .slice b2 kr.length e2, .slice b3 dr.length e3] 26) ∧ Brow w1 (w.heap.size + 2) [.bool false, .slice none 0 0, .slice none 0 0, .slice none 0 0] 26) from ⟨HS0.out.1.trans (hB1.mono (by omega)), ⟨HS0.out.2.1.1.below hB1 (by omega), HS0.out.2.1.2.below hB1 (by omega)⟩, HS0.out.2.2.below hB1 (by omega)⟩)
        have hs1 : w.heap.size + 3 ≤ w1.heap.size := Nat.le_trans hs0 hB1.size
        clear hB1 HS0 hs0 HC1
        have q0 := HS1.out.2.1.1.at 0 _ rfl
        have q1 := HS1.out.2.1.1.at 1 _ rfl
        have q2 := HS1.out.2.1.1.at 2 _ rfl
        have q3 := HS1.out.2.1.1.at 3 _ rfl
        have r0 := HS1.out.2.1.2.at 0 _ rfl
        have r1 := HS1.out.2.1.2.at 1 _ rfl
        have r2 := HS1.out.2.1.2.at 2 _ rfl
        have r3 := HS1.out.2.1.2.at 3 _ rfl
        go_wp2_with fail
        refine (HC2 _ HS1.out.1).mono ?_
        rintro e w2 ⟨rfl, hB2⟩
        have HS2 := (show Hid (Below w.heap.size w w2 ∧ (Brow w2 w.heap.size [.bool true, .slice a1 cl.length c1, .slice a2 kl.length c2, .slice a3 dl.length c3] 26 ∧ Brow w2 (w.heap.size + 1) [.bool false, .slice b1 cr.length e1, .slice b2 kr.length e2, .slice b3 dr.length e3] 26) ∧ Brow w2 (w.heap.size + 2) [.bool false, .slice none 0 0, .slice none 0 0, .slice none 0 0] 26) from ⟨HS1.out.1.trans (hB2.mono (by omega)), ⟨HS1.out.2.1.1.below hB2 (by omega), HS1.out.2.1.2.below hB2 (by omega)⟩, HS1.out.2.2.below hB2 (by omega)⟩)
        have hs2 : w.heap.size + 3 ≤ w2.heap.size := Nat.le_trans hs1 hB2.size
        clear hB2 HS1 hs1 HC2 q0 q1 q2 q3 r0 r1 r2 r3
        have q0 := HS2.out.2.1.1.at 0 _ rfl
        have q1 := HS2.out.2.1.1.at 1 _ rfl
        have q2 := HS2.out.2.1.1.at 2 _ rfl
        have q3 := HS2.out.2.1.1.at 3 _ rfl
        have r0 := HS2.out.2.1.2.at 0 _ rfl
        have r1 := HS2.out.2.1.2.at 1 _ rfl
        have r2 := HS2.out.2.1.2.at 2 _ rfl
        have r3 := HS2.out.2.1.2.at 3 _ rfl
        have HFR := (show Hid (Brow (setN w2 (w.heap.size + 2) (.bool false) (.slice none 0 0) (.slice none 0 0) (.slice none 0 0)) (w.heap.size + 2) [.bool false, .slice none 0 0, .slice none 0 0, .slice none 0 0] 26) from setN_row HS2.out.2.2 _ _ _ _)
        have HFB := (show Hid (Below w.heap.size w (setN w2 (w.heap.size + 2) (.bool false) (.slice none 0 0) (.slice none 0 0) (.slice none 0 0))) from setN_below HS2.out.1 (by omega) _ _ _ _)
        have y0 := HS2.out.2.2.at 0 _ rfl
        have y1 := HS2.out.2.2.at 1 _ rfl
        have y2 := HS2.out.2.2.at 2 _ rfl
        have y3 := HS2.out.2.2.at 3 _ rfl
        have z0 := HS2.out.2.2.fz 0
        have z1 := HS2.out.2.2.fz 1
        have z2 := HS2.out.2.2.fz 2
        have z3 := HS2.out.2.2.fz 3
        unfold setN at HFR HFB
        go_wp2
        refine bodyPost_ret (res_ct rfl _ _ (w.heap.size + 2) 26 _ _ rfl HFR.out Try.underlying26 rfl (by kernel_rfl)) rfl ?_
        exact HNO.out _ _ HOK.out rfl HFB.out
    | false =>
      cases rf with
      | false => exact absurd rfl hlr
      | true =>
        clear hlr
        have HS0 := (show Hid (Below w.heap.size w (((w.alloc (.cells #[.bool false, .slice a1 cl.length c1, .slice a2 kl.length c2, .slice a3 dl.length c3] 26)).alloc (.cells #[.bool true, .slice b1 cr.length e1, .slice b2 kr.length e2, .slice b3 dr.length e3] 26)).alloc (.cells #[.bool false, .slice none 0 0, .slice none 0 0, .slice none 0 0] 26)) ∧ (Brow (((w.alloc (.cells #[.bool false, .slice a1 cl.length c1, .slice a2 kl.length c2, .slice a3 dl.length c3] 26)).alloc (.cells #[.bool true, .slice b1 cr.length e1, .slice b2 kr.length e2, .slice b3 dr.length e3] 26)).alloc (.cells #[.bool false, .slice none 0 0, .slice none 0 0, .slice none 0 0] 26)) w.heap.size [.bool false, .slice a1 cl.length c1, .slice a2 kl.length c2, .slice a3 dl.length c3] 26 ∧ Brow (((w.alloc (.cells #[.bool false, .slice a1 cl.length c1, .slice a2 kl.length c2, .slice a3 dl.length c3] 26)).alloc (.cells #[.bool true, .slice b1 cr.length e1, .slice b2 kr.length e2, .slice b3 dr.length e3] 26)).alloc (.cells #[.bool false, .slice none 0 0, .slice none 0 0, .slice none 0 0] 26)) (w.heap.size + 1) [.bool true, .slice b1 cr.length e1, .slice b2 kr.length e2, .slice b3 dr.length e3] 26) ∧ Brow (((w.alloc (.cells #[.bool false, .slice a1 cl.length c1, .slice a2 kl.length c2, .slice a3 dl.length c3] 26)).alloc (.cells #[.bool true, .slice b1 cr.length e1, .slice b2 kr.length e2, .slice b3 dr.length e3] 26)).alloc (.cells #[.bool false, .slice none 0 0, .slice none 0 0, .slice none 0 0] 26)) (w.heap.size + 2) [.bool false, .slice none 0 0, .slice none 0 0, .slice none 0 0] 26) from ⟨((below_alloc _ _).alloc (by rw [size_alloc1]; omega) _).alloc (by rw [size_alloc1, size_alloc1]; omega) _, ⟨((Brow.new w [.bool false, .slice a1 cl.length c1, .slice a2 kl.length c2, .slice a3 dl.length c3] 26).alloc _).alloc _, by
          have := (Brow.new (w.alloc (.cells #[.bool false, .slice a1 cl.length c1, .slice a2 kl.length c2, .slice a3 dl.length c3] 26)) [.bool true, .slice b1 cr.length e1, .slice b2 kr.length e2, .slice b3 dr.length e3] 26).alloc (.cells #[.bool false, .slice none 0 0, .slice none 0 0, .slice none 0 0] 26)
          rwa [size_alloc1] at this⟩, by
          have := Brow.new ((w.alloc (.cells #[.bool false, .slice a1 cl.length c1, .slice a2 kl.length c2, .slice a3 dl.length c3] 26)).alloc (.cells #[.bool true, .slice b1 cr.length e1, .slice b2 kr.length e2, .slice b3 dr.length e3] 26)) [.bool false, .slice none 0 0, .slice none 0 0, .slice none 0 0] 26
          rwa [size_alloc1, size_alloc1] at this⟩)
        have hs0 : w.heap.size + 3 ≤ (((w.alloc (.cells #[.bool false, .slice a1 cl.length c1, .slice a2 kl.length c2, .slice a3 dl.length c3] 26)).alloc (.cells #[.bool true, .slice b1 cr.length e1, .slice b2 kr.length e2, .slice b3 dr.length e3] 26)).alloc (.cells #[.bool false, .slice none 0 0, .slice none 0 0, .slice none 0 0] 26)).heap.size := by rw [size_alloc1, size_alloc1, size_alloc1]; omega
        go_enter Try.func22, Try.ntmps22
        go_wp2_with fail
        refine (HC1 _ HS0.out.1).mono ?_
        rintro e w1 ⟨rfl, hB1⟩
        have HS1 := (show Hid (Below w.heap.size w w1 ∧ (Brow w1 w.heap.size [.bool false, .slice a1 cl.length c1, .slice a2 kl.length c2, .slice a3 dl.length c3] 26 ∧ Brow w1 (w.heap.size + 1) [.bool true, .slice b1 cr.length e1, .slice b2 kr.length e2, .slice b3 dr.length e3] 26) ∧ Brow w1 (w.heap.size + 2) [.bool false, .slice none 0 0, .slice none 0 0, .slice none 0 0] 26) from ⟨HS0.out.1.trans (hB1.mono (by omega)), ⟨HS0.out.2.1.1.below hB1 (by omega), HS0.out.2.1.2.below hB1 (by omega)⟩, HS0.out.2.2.below hB1 (by omega)⟩)
        have hs1 : w.heap.size + 3 ≤ w1.heap.size := Nat.le_trans hs0 hB1.size
        clear hB1 HS0 hs0 HC1
        have q0 := HS1.out.2.1.1.at 0 _ rfl
        have q1 := HS1.out.2.1.1.at 1 _ rfl
        have q2 := HS1.out.2.1.1.at 2 _ rfl
        have q3 := HS1.out.2.1.1.at 3 _ rfl
        have r0 := HS1.out.2.1.2.at 0 _ rfl
        have r1 := HS1.out.2.1.2.at 1 _ rfl
        have r2 := HS1.out.2.1.2.at 2 _ rfl
        have r3 := HS1.out.2.1.2.at 3 _ rfl
        go_wp2_with fail
        refine (HC2 _ HS1.out.1).mono ?_
        rintro e w2 ⟨rfl, hB2⟩
        have HS2 := (show Hid (Below w.heap.size w w2 ∧ (Brow w2 w.heap.size [.bool false, .slice a1 cl.length c1, .slice a2 kl.length c2, .slice a3 dl.length c3] 26 ∧ Brow w2 (w.heap.size + 1) [.bool true, .slice b1 cr.length e1, .slice b2 kr.length e2, .slice b3 dr.length e3] 26) ∧ Brow w2 (w.heap.size + 2) [.bool false, .slice none 0 0, .slice none 0 0, .slice none 0 0] 26) from ⟨HS1.out.1.trans (hB2.mono (by omega)), ⟨HS1.out.2.1.1.below hB2 (by omega), HS1.out.2.1.2.below hB2 (by omega)⟩, HS1.out.2.2.below hB2 (by omega)⟩)
        have hs2 : w.heap.size + 3 ≤ w2.heap.size := Nat.le_trans hs1 hB2.size
        clear hB2 HS1 hs1 HC2 q0 q1 q2 q3 r0 r1 r2 r3
        have q0 := HS2.out.2.1.1.at 0 _ rfl
        have q1 := HS2.out.2.1.1.at 1 _ rfl
        have q2 := HS2.out.2.1.1.at 2 _ rfl
        have q3 := HS2.out.2.1.1.at 3 _ rfl
        have r0 := HS2.out.2.1.2.at 0 _ rfl
        have r1 := HS2.out.2.1.2.at 1 _ rfl
        have r2 := HS2.out.2.1.2.at 2 _ rfl
        have r3 := HS2.out.2.1.2.at 3 _ rfl
        have HFR := (show Hid (Brow (setN w2 (w.heap.size + 2) (.bool false) (.slice none 0 0) (.slice none 0 0) (.slice none 0 0)) (w.heap.size + 2) [.bool false, .slice none 0 0, .slice none 0 0, .slice none 0 0] 26) from setN_row HS2.out.2.2 _ _ _ _)
        have HFB := (show Hid (Below w.heap.size w (setN w2 (w.heap.size + 2) (.bool false) (.slice none 0 0) (.slice none 0 0) (.slice none 0 0))) from setN_below HS2.out.1 (by omega) _ _ _ _)
        have y0 := HS2.out.2.2.at 0 _ rfl
        have y1 := HS2.out.2.2.at 1 _ rfl
        have y2 := HS2.out.2.2.at 2 _ rfl
        have y3 := HS2.out.2.2.at 3 _ rfl
        have z0 := HS2.out.2.2.fz 0
        have z1 := HS2.out.2.2.fz 1
        have z2 := HS2.out.2.2.fz 2
        have z3 := HS2.out.2.2.fz 3
        unfold setN at HFR HFB
        go_wp2
        refine bodyPost_ret (res_ct rfl _ _ (w.heap.size + 2) 26 _ _ rfl HFR.out Try.underlying26 rfl (by kernel_rfl)) rfl ?_
        exact HNO.out _ _ HOK.out rfl HFB.out
end Go.Proofs.Ytoinaplmgffkpaa
