/- Proved: rows that lie in new memory, rows that lie outside a block (stage 11). -/
import Derived.Test.YtoinaplmgffkpaaCheck
namespace Go.Proofs.Ytoinaplmgffkpaa
open Go.RowKit
open Sl (Cel Nod)
theorem RowAt.none_nil {w : World} {vs : List Value} (h : RowAt w none vs) : vs = [] := by
  rcases h with h | ⟨b, off, e, _⟩
  · exact h
  · cases e
/- cells in blocks from N on -/
def RowFrom (w : World) (N : Nat) (ad : Option Addr) (vs : List Value) : Prop :=
  vs = [] ∨ ∃ b off, ad = some ⟨b, off, none⟩ ∧ N ≤ b ∧ b < w.heap.size ∧ ∀ j u, vs[j]? = some u → w.cell? ⟨b, off + j, none⟩ = some u
/- cells that do not lie in block B -/
def RowBut (w : World) (B : Nat) (ad : Option Addr) (vs : List Value) : Prop :=
  vs = [] ∨ ∃ b off, ad = some ⟨b, off, none⟩ ∧ b ≠ B ∧ b < w.heap.size ∧ ∀ j u, vs[j]? = some u → w.cell? ⟨b, off + j, none⟩ = some u
section
variable {w w' : World} {N M B : Nat} {ad : Option Addr} {vs : List Value}
theorem RowFrom.row (h : RowFrom w N ad vs) : RowAt w ad vs := h.imp id fun ⟨b, off, e, _, r⟩ => ⟨b, off, e, r⟩
theorem RowBut.row (h : RowBut w B ad vs) : RowAt w ad vs := h.imp id fun ⟨b, off, e, _, r⟩ => ⟨b, off, e, r⟩
theorem RowFrom.but (h : RowFrom w N ad vs) (hB : B < N) : RowBut w B ad vs := h.imp id fun ⟨b, off, e, h1, r⟩ => ⟨b, off, e, by omega, r⟩
theorem RowFrom.mono (h : RowFrom w N ad vs) (hM : M ≤ N) : RowFrom w M ad vs := h.imp id fun ⟨b, off, e, h1, r⟩ => ⟨b, off, e, by omega, r⟩
theorem RowAt.but (h : RowAt w ad vs) (hB : w.heap.size ≤ B) : RowBut w B ad vs := h.imp id fun ⟨b, off, e, h1, r⟩ => ⟨b, off, e, by omega, h1, r⟩
theorem RowFrom.below (h : RowFrom w N ad vs) (hb : Below w.heap.size w w') : RowFrom w' N ad vs := by
  rcases h with h | ⟨b, off, e, h1, hl, hc⟩
  · exact .inl h
  · exact .inr ⟨b, off, e, h1, Nat.lt_of_lt_of_le hl hb.size, fun j u hj => (hb.cell (p := ⟨b, off + j, none⟩) hl).trans (hc j u hj)⟩
theorem RowBut.below (h : RowBut w B ad vs) (hb : Below w.heap.size w w') : RowBut w' B ad vs := by
  rcases h with h | ⟨b, off, e, h1, hl, hc⟩
  · exact .inl h
  · exact .inr ⟨b, off, e, h1, Nat.lt_of_lt_of_le hl hb.size, fun j u hj => (hb.cell (p := ⟨b, off + j, none⟩) hl).trans (hc j u hj)⟩
theorem size_setCell (w : World) (a : Addr) (v : Value) : (w.setCell a v).heap.size = w.heap.size := by simp [World.setCell]
theorem RowBut.set (h : RowBut w B ad vs) (i : Nat) (v : Value) : RowBut (w.setCell ⟨B, i, none⟩ v) B ad vs := by
  rcases h with h | ⟨b, off, e, h1, hl, hc⟩
  · exact .inl h
  · exact .inr ⟨b, off, e, h1, by rw [size_setCell]; exact hl, fun j u hj => by
      rw [World.cell?_setCell_far _ _ _ _ (show B ≠ b from fun e => h1 e.symm)]; exact hc j u hj⟩
theorem RowFrom.set (h : RowFrom w N ad vs) (hB : B < N) (i : Nat) (v : Value) : RowFrom (w.setCell ⟨B, i, none⟩ v) N ad vs := by
  rcases h with h | ⟨b, off, e, h1, hl, hc⟩
  · exact .inl h
  · exact .inr ⟨b, off, e, h1, by rw [size_setCell]; exact hl, fun j u hj => by
      rw [World.cell?_setCell_far _ _ _ _ (show B ≠ b by omega)]; exact hc j u hj⟩
theorem RowBut.take (h : RowBut w B ad vs) (m : Nat) : RowBut w B ad (vs.take m) := by
  rcases h with h | ⟨b, off, e, h1, hl, hc⟩
  · rw [h, List.take_nil]; exact .inl rfl
  · refine .inr ⟨b, off, e, h1, hl, fun j u hj => hc j u ?_⟩
    rw [List.getElem?_take] at hj
    split at hj
    · exact hj
    · cases hj
theorem own_rowFrom {e k n : Nat} {v : Value} (h : w.ownsRow N e k v n vs) : ∃ ad cap, v = .slice ad n cap ∧ n ≤ cap ∧ cap ≤ 9223372036854775807 ∧ RowFrom w N ad vs := by
  rcases h.2 with ⟨hv, hn⟩ | ⟨g, cap, cur, hv, hN, hh, hc, hm, _, ht⟩
  · have hl := h.1
    rw [hn, Nat.zero_mul] at hl
    refine ⟨none, 0, by rw [hn]; exact hv, by omega, by omega, .inl (List.length_eq_zero_iff.1 hl)⟩
  · unfold maxLen at hm
    refine ⟨_, cap, hv, hc, by omega, .inr ⟨g, 0, rfl, hN, (Array.getElem?_eq_some_iff.1 hh).1, fun j u hj => ?_⟩⟩
    rw [cell_of_row w g _ cur e (0, 0) hh, Nat.zero_add, ← Array.getElem?_toList]
    rw [← ht, List.getElem?_take] at hj
    split at hj
    · exact hj
    · cases hj
end
/- a node in new memory -/
structure LiesF (w : World) (N : Nat) (n : Nod) (p : Pt) : Prop where
  r1 : RowFrom w N p.a1 (cvals n.cells)
  r2 : RowFrom w N p.a2 (kcells n.keys)
  r3 : RowFrom w N p.a3 (icells n.kids)
  l1 : n.cells.length ≤ p.c1
  l2 : n.keys.length ≤ p.c2
  l3 : n.kids.length ≤ p.c3
  m1 : p.c1 ≤ 9223372036854775807
  m2 : p.c2 ≤ 9223372036854775807
  m3 : p.c3 ≤ 9223372036854775807
theorem LiesF.lies {w : World} {N : Nat} {n : Nod} {p : Pt} (h : LiesF w N n p) : Lies w n p := ⟨h.r1.row, h.r2.row, h.r3.row, h.l1, h.l2, h.l3, h.m1, h.m2, h.m3⟩
theorem LiesF.below {w w' : World} {N : Nat} {n : Nod} {p : Pt} (h : LiesF w N n p) (hb : Below w.heap.size w w') : LiesF w' N n p := ⟨h.r1.below hb, h.r2.below hb, h.r3.below hb, h.l1, h.l2, h.l3, h.m1, h.m2, h.m3⟩
theorem LiesF.mono {w : World} {N M : Nat} {n : Nod} {p : Pt} (h : LiesF w N n p) (hM : M ≤ N) : LiesF w M n p := ⟨h.r1.mono hM, h.r2.mono hM, h.r3.mono hM, h.l1, h.l2, h.l3, h.m1, h.m2, h.m3⟩
theorem LiesF.set {w : World} {N B : Nat} {n : Nod} {p : Pt} (h : LiesF w N n p) (hB : B < N) (i : Nat) (v : Value) : LiesF (w.setCell ⟨B, i, none⟩ v) N n p := ⟨h.r1.set hB i v, h.r2.set hB i v, h.r3.set hB i v, h.l1, h.l2, h.l3, h.m1, h.m2, h.m3⟩
/- a node outside a block -/
structure LiesB (w : World) (B : Nat) (n : Nod) (p : Pt) : Prop where
  r1 : RowBut w B p.a1 (cvals n.cells)
  r2 : RowBut w B p.a2 (kcells n.keys)
  r3 : RowBut w B p.a3 (icells n.kids)
  l1 : n.cells.length ≤ p.c1
  l2 : n.keys.length ≤ p.c2
  l3 : n.kids.length ≤ p.c3
  m1 : p.c1 ≤ 9223372036854775807
  m2 : p.c2 ≤ 9223372036854775807
  m3 : p.c3 ≤ 9223372036854775807
theorem LiesB.lies {w : World} {B : Nat} {n : Nod} {p : Pt} (h : LiesB w B n p) : Lies w n p := ⟨h.r1.row, h.r2.row, h.r3.row, h.l1, h.l2, h.l3, h.m1, h.m2, h.m3⟩
theorem LiesB.below {w w' : World} {B : Nat} {n : Nod} {p : Pt} (h : LiesB w B n p) (hb : Below w.heap.size w w') : LiesB w' B n p := ⟨h.r1.below hb, h.r2.below hb, h.r3.below hb, h.l1, h.l2, h.l3, h.m1, h.m2, h.m3⟩
theorem LiesB.set {w : World} {B : Nat} {n : Nod} {p : Pt} (h : LiesB w B n p) (i : Nat) (v : Value) : LiesB (w.setCell ⟨B, i, none⟩ v) B n p := ⟨h.r1.set i v, h.r2.set i v, h.r3.set i v, h.l1, h.l2, h.l3, h.m1, h.m2, h.m3⟩
theorem Lies.but {w : World} {B : Nat} {n : Nod} {p : Pt} (h : Lies w n p) (hB : w.heap.size ≤ B) : LiesB w B n p := ⟨h.r1.but hB, h.r2.but hB, h.r3.but hB, h.l1, h.l2, h.l3, h.m1, h.m2, h.m3⟩
/- what 'append' of a full slice brings lies in new memory, or is the old row -/
theorem app_fullF {P : Program} {w : World} {t e : TypeId} {z : Value} {size bytes : Nat} (ht : P.underlying t = some (.slice e)) (hinfo : (P.info? e).map (fun i => (i.zero, i.size, i.bytes)) = some (some z, size, bytes))
    {ad : Option Addr} {n : Nat} {xs : List Value} (hx : RowAt w ad xs) (hxl : xs.length = n * size) {ad2 : Option Addr} {m c2 : Nat} {ys : List Value} (hy : RowAt w ad2 ys) (hyl : ys.length = m * size) (hy1 : ∀ u ∈ ys, u.oneCell' = true) (hb : (n + m) * bytes ≤ 140737488355328) (hnm : n + m ≤ 100000) :
    ∃ ad' cap' w', (∀ ty, (Builtin.append_ #[t, t] ty #[.slice ad n n, .slice ad2 m c2]).run P w = .ok (.slice ad' (n + m) cap') w') ∧ n + m ≤ cap' ∧ cap' ≤ 9223372036854775807 ∧ RowAt w' ad' (xs ++ ys) ∧ Below w.heap.size w w' ∧ (∀ B, B < w.heap.size → RowBut w B ad xs → RowBut w' B ad' (xs ++ ys)) ∧ (xs = [] → RowFrom w' w.heap.size ad' (xs ++ ys)) := by
  obtain ⟨i, hi, hz, hs, hby⟩ := info_parts hinfo
  subst hs hby
  have hS := src_row (size := i.size) (cap := c2) ht hyl hy hy1
  by_cases h0 : m = 0
  · subst h0
    obtain rfl : ys = [] := List.length_eq_zero_iff.1 (by simpa using hyl)
    exact ⟨ad, n, w, fun ty => run_append_nothing (P := P) w t t ty e i ht hi ad n n (Nat.le_refl _) _ hS, by omega, by omega, by simpa using hx, Below.refl _ _, fun B _ h => by simpa using h, fun h => .inl (by simpa using h)⟩
  · have hg : n < n + m := by omega
    have hr := fun ty => run_append_grow_src (P := P) w t t ty e i z ht hi hz ad n n xs (firstCells_row hxl (hx.below (Below.refl _ _).drew)) _ m ys hS hg (by omega) (growslice_fits hg hb)
    have hsz : w.heap.size < (w.drew.alloc (.cells ((xs ++ ys).toArray ++ Builtin.zeroCells z.cells (grownCap w (n + m) n e - (n + m))) e)).heap.size := by rw [size_alloc1]; show w.heap.size < w.heap.size + 1; omega
    have hcl : ∀ j u, (xs ++ ys)[j]? = some u → (w.drew.alloc (.cells ((xs ++ ys).toArray ++ Builtin.zeroCells z.cells (grownCap w (n + m) n e - (n + m))) e)).cell? ⟨w.heap.size, 0 + j, none⟩ = some u := fun j u hj => by
      have hjl : j < (xs ++ ys).length := (List.getElem?_eq_some_iff.1 hj).1
      rw [Nat.zero_add]
      refine (World.cell?_alloc_new w.drew _ _ j).trans ?_
      rw [Array.getElem?_append_left (by simpa using hjl), List.getElem?_toArray]
      exact hj
    refine ⟨_, _, _, hr, grownCap_ge w (n + m) n e, ?_, .inr ⟨w.heap.size, 0, rfl, hsz, hcl⟩, ((Below.refl _ w).drew).alloc (Nat.le_refl _) _, fun B hB _ => .inr ⟨w.heap.size, 0, rfl, by omega, hsz, hcl⟩, fun _ => .inr ⟨w.heap.size, 0, rfl, Nat.le_refl _, hsz, hcl⟩⟩
    have := grownCap_le_maxLen w (n + m) n e (by unfold maxLen; omega)
    unfold maxLen at this; omega
end Go.Proofs.Ytoinaplmgffkpaa
