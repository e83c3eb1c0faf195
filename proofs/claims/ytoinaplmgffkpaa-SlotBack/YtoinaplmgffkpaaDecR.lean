/- Proved: what is known between the rounds in which slot reads a node's cells, keys and kids (stage 11). -/
import Derived.Test.YtoinaplmgffkpaaDecC
namespace Go.Proofs.Ytoinaplmgffkpaa
open Go.RowKit
open Sl (Cel Nod)
structure DR (g : Nat) (w : World) (s : In) (lf : Bool) (cs : List Cel) (ks : List ByteArray) (ds : List Int) (v1 v2 v3 : Value) (wr : World) : Prop where
  i : Brow wr g (irow s) 76
  z : Brow wr w.heap.size [.bool false, .slice none 0 0, .slice none 0 0, .slice none 0 0] 26
  o : Brow wr (w.heap.size + 1) [.bool lf, v1, v2, v3] 26
  r1 : wr.ownsRow (w.heap.size + 2) 28 4 v1 cs.length (cvals cs)
  r2 : wr.ownsRow (w.heap.size + 2) 9 1 v2 ks.length (kcells ks)
  r3 : wr.ownsRow (w.heap.size + 2) 3 1 v3 ds.length (icells ds)
  c : Chg g w wr
  h : g < w.heap.size
  n : w.heap.size + 2 ≤ wr.heap.size
  ap : ∀ b, v2.ownBlock = some b → v3.ownBlock ≠ some b
variable {g : Nat} {w wr w' : World} {s : In} {lf : Bool} {cs : List Cel} {ks : List ByteArray} {ds : List Int} {v1 v2 v3 v' : Value}
theorem DR.chg (h : DR g w s lf cs ks ds v1 v2 v3 wr) {s' : In} (hc : Chg g wr w') (hi : Brow w' g (irow s') 76) : DR g w s' lf cs ks ds v1 v2 v3 w' := by
  have := h.h
  exact ⟨hi, hc.brow h.z (by omega), hc.brow h.o (by omega), hc.own (by omega) h.r1, hc.own (by omega) h.r2, hc.own (by omega) h.r3, h.c.trans hc, h.h, Nat.le_trans h.n hc.size, h.ap⟩
theorem DR.below (h : DR g w s lf cs ks ds v1 v2 v3 wr) (hb : Below wr.heap.size wr w') : DR g w s lf cs ks ds v1 v2 v3 w' := h.chg (Chg.of g hb) (h.i.below hb h.i.lt)
theorem Chg.grew {N n k : Nat} {e : TypeId} {v : Value} {vs : List Value} (h : Chg g w wr) (G : Grew wr v w' v') (hown : wr.ownsRow N e k v n vs) (hN : w.heap.size ≤ N) : Chg g w w' :=
  ⟨⟨G.by_.os.trans h.by_.os, G.by_.tape.trans h.by_.tape, G.by_.output.trans h.by_.output, Nat.le_trans h.by_.size G.by_.size, fun i hi hne => (G.by_.block i (Nat.lt_of_lt_of_le hi h.by_.size) (fun e => by have := (own_row hown e.symm).1; omega)).trans (h.by_.block i hi hne)⟩⟩
theorem new_ap {u : Value} (G : Grew wr u w' v') {v : Value} (h : ∀ b, v.ownBlock = some b → u.ownBlock ≠ some b) (hv : ∀ b, v.ownBlock = some b → b < wr.heap.size) : ∀ b, v.ownBlock = some b → v'.ownBlock ≠ some b := fun b hb => by
  rcases G.row with e | ⟨g', e, hg'⟩
  · rw [e]; exact h b hb
  · rw [e]; intro e2; have := Option.some.inj e2; have := hv b hb; omega
theorem DR.cel (h : DR g w s lf cs [] [] v1 (.slice none 0 0) (.slice none 0 0) wr) {c : Cel} (hO : w'.ownsRow (w.heap.size + 2) 28 4 v' (cs ++ [c]).length (cvals (cs ++ [c]))) (G : Grew wr v1 w' v') : DR g w s lf (cs ++ [c]) [] [] v' (.slice none 0 0) (.slice none 0 0) (w'.setCell ⟨w.heap.size + 1, 1, none⟩ v') := by
  have hh := h.h
  have hf : ∀ b, b < w.heap.size + 2 → some b ≠ v1.ownBlock := fun b hb => own_far h.r1 hb
  exact ⟨(h.i.grew G (hf _ (by omega))).far (by show w.heap.size + 1 ≠ g; omega), (h.z.grew G (hf _ (by omega))).far (by show w.heap.size + 1 ≠ w.heap.size; omega), (h.o.grew G (hf _ (by omega))).set 1 v', own_setFar hO (by omega), own_nil _ _ _ _, own_nil _ _ _ _, (h.c.grew G h.r1 (by omega)).setNew (by omega) 1 _, hh, by rw [size_setCell]; exact Nat.le_trans h.n G.by_.size, fun b hb => by cases hb⟩
theorem DR.key (h : DR g w s lf [] ks ds (.slice none 0 0) v2 v3 wr) {c : ByteArray} (hO : w'.ownsRow (w.heap.size + 2) 9 1 v' (ks ++ [c]).length (kcells (ks ++ [c]))) (G : Grew wr v2 w' v') : DR g w s lf [] (ks ++ [c]) ds (.slice none 0 0) v' v3 (w'.setCell ⟨w.heap.size + 1, 2, none⟩ v') := by
  have hh := h.h
  have hf : ∀ b, b < w.heap.size + 2 → some b ≠ v2.ownBlock := fun b hb => own_far h.r2 hb
  have ha : ∀ b, v3.ownBlock = some b → v'.ownBlock ≠ some b := new_ap G (fun b hb e => h.ap b e hb) (fun b hb => (own_row h.r3 hb).2)
  exact ⟨(h.i.grew G (hf _ (by omega))).far (by show w.heap.size + 1 ≠ g; omega), (h.z.grew G (hf _ (by omega))).far (by show w.heap.size + 1 ≠ w.heap.size; omega), (h.o.grew G (hf _ (by omega))).set 2 v', own_nil _ _ _ _, own_setFar hO (by omega), own_setFar (own_grew h.r3 G (fun b hb e => h.ap b e hb)) (by omega), (h.c.grew G h.r2 (by omega)).setNew (by omega) 2 _, hh, by rw [size_setCell]; exact Nat.le_trans h.n G.by_.size, fun b hb e => ha b e hb⟩
theorem DR.kid (h : DR g w s lf [] ks ds (.slice none 0 0) v2 v3 wr) {c : Int} (hO : w'.ownsRow (w.heap.size + 2) 3 1 v' (ds ++ [c]).length (icells (ds ++ [c]))) (G : Grew wr v3 w' v') : DR g w s lf [] ks (ds ++ [c]) (.slice none 0 0) v2 v' (w'.setCell ⟨w.heap.size + 1, 3, none⟩ v') := by
  have hh := h.h
  have hf : ∀ b, b < w.heap.size + 2 → some b ≠ v3.ownBlock := fun b hb => own_far h.r3 hb
  have ha : ∀ b, v2.ownBlock = some b → v'.ownBlock ≠ some b := new_ap G h.ap (fun b hb => (own_row h.r2 hb).2)
  exact ⟨(h.i.grew G (hf _ (by omega))).far (by show w.heap.size + 1 ≠ g; omega), (h.z.grew G (hf _ (by omega))).far (by show w.heap.size + 1 ≠ w.heap.size; omega), (h.o.grew G (hf _ (by omega))).set 3 v', own_nil _ _ _ _, own_setFar (own_grew h.r2 G h.ap) (by omega), own_setFar hO (by omega), (h.c.grew G h.r3 (by omega)).setNew (by omega) 3 _, hh, by rw [size_setCell]; exact Nat.le_trans h.n G.by_.size, ha⟩
theorem app_kid (W : World) (B : Nat) (v : Value) (xs : List Int) (c : Int) (y : Nat) (hown : W.ownsRow B 3 1 v xs.length (icells xs)) (hl : xs.length ≤ 1000) (hB : B ≤ W.heap.size) (hy : Brow W y [.int .i64 c] 3) :
    ∃ v' w', (∀ ty, (Builtin.append_ #[24, 24] ty #[v, .slice (some ⟨y, 0, none⟩) 1 1]).run Try.prog W = .ok v' w') ∧ w'.ownsRow B 3 1 v' (xs ++ [c]).length (icells (xs ++ [c])) ∧ Grew W v w' v' := by
  obtain ⟨i0, hi, hz0, hz1, hz2⟩ := info_parts infoI
  obtain ⟨v', w', hr, h2, h3, h4, h5⟩ := run_append_own_at (P := Try.prog) W B 24 0 3 i0 _ 1 8 Try.underlying24 hi hz0 hz1 hz2 rfl (by omega) v xs.length (icells xs) hown ⟨y, 0, none⟩ 1 1 [.int .i64 c] rfl (fun j u hj => by rw [Addr.add_lit, Nat.zero_add]; exact hy.at j u hj) (fun u hu => by rw [List.mem_singleton.1 hu]; rfl) (by unfold maxLen; omega) (by omega) hB
  refine ⟨v', w', fun _ => hr, ?_, h3, h5.imp id (fun h => ⟨_, h, Nat.le_refl _⟩)⟩
  rw [icells_append, List.length_append]
  simpa [icells] using h2
structure NdPost (g : Nat) (w : World) (n : Nod) (s : In) (e : Ending) (w' : World) : Prop where
  ex : ∃ p, e = .returned (nv n p) ∧ LiesF w' w.heap.size n p ∧ Brow w' g (irow s) 76 ∧ Chg g w w'
theorem DR.lies {a1 a2 a3 : Option Addr} {c1 c2 c3 n1 n2 n3 : Nat} (h : DR g w s lf cs ks ds (.slice a1 n1 c1) (.slice a2 n2 c2) (.slice a3 n3 c3) wr) : LiesF wr (w.heap.size + 2) ⟨lf, cs, ks, ds⟩ ⟨a1, c1, a2, c2, a3, c3⟩ := by
  obtain ⟨x1, y1, e1, m1, l1, f1⟩ := own_rowFrom h.r1
  obtain ⟨x2, y2, e2, m2, l2, f2⟩ := own_rowFrom h.r2
  obtain ⟨x3, y3, e3, m3, l3, f3⟩ := own_rowFrom h.r3
  cases e1; cases e2; cases e3
  exact ⟨f1, f2, f3, m1, m2, m3, l1, l2, l3⟩
end Go.Proofs.Ytoinaplmgffkpaa
