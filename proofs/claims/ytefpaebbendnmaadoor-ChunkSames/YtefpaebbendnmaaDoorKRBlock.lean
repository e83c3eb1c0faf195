/- Proved: laws for the document's block: words appended to a slice of the call's own, in a region that draws its order and outside of one. -/
import Derived.Test.YtefpaebbendnmaaDoorKRFirst
namespace Go.Proofs.YtefpaebbendnmaaDoor.BK
open Go.RowKit
theorem info46 : Tryd.prog.info? 59 = some Tryd.t59 := by kernel_rfl
/- 'append(x, y)' of words behind a slice of the call's own, as one step of a region that draws its order -/
theorem step_append_words {ops : Array Oper} {o : Oper} {a : Act} {w : World} {K : Act → World → Prop} {Q : Exit → Act → World → Prop} {E : Prop} (hgd : o.guard = none) (s x : Operand)
    (ho : o.op = .call { callee := .builtin .append, args := #[s, x], argTypes := #[57, 57] }) (N : Nat) (v : Value) (n : Nat) (vs : List Nat) (hs : a.eval s = v) (hown : w.ownsRow N 59 1 v n (vs.map V32))
    (ad : Addr) (m c : Nat) (ds : List Nat) (hx : a.eval x = .slice (some ad) m c) (hl : ds.length = m) (hnews : ∀ j u, (ds.map V32)[j]? = some u → w.cell? (ad.add j) = some u) (hb : n + m ≤ 1000) (hN : N ≤ w.heap.size)
    (h : ∀ v' w', w'.ownsRow N 59 1 v' (n + m) ((vs ++ ds).map V32) → Below N w w' → K (a.put o.dst v') w') :
    if Region.wanted o (yielded ops a.tmps) = true then Oper.wp Tryd.prog o a w K Q else E := by
  have hw : Region.wanted o (yielded ops a.tmps) = true := by simp [Region.wanted, hgd]
  rw [if_pos hw]
  obtain ⟨v', w', hr, h2, h3, h4, h5⟩ := run_append_own_at (P := Tryd.prog) w N 57 o.type 59 Tryd.t59 (.int .u32 0) 1 4 Tryd.underlying57 info46 rfl rfl rfl rfl (by omega) v n (vs.map V32) hown ad m c (ds.map V32) (by simpa using hl) hnews (v32_one ds) (by unfold maxLen; omega) (by omega) hN
  unfold Oper.wp execOp
  simp only [ho, resolve, invoke, builtin, Sem.run_bind, Sem.run_pure, Result.andThen_ok, List.map_toArray, List.map_cons, List.map_nil, hs, hx, hr]
  rw [← List.map_append] at h2
  refine h v' w' h2 ((Below.refl _ _).grown h3 hN (fun k hk => ?_))
  rcases hown.2 with ⟨hv, _⟩ | ⟨g, cap', cur, hv, hNg, _⟩
  · subst hv; cases hk
  · subst hv
    have : g = k := Option.some.inj hk
    omega
theorem word_int (b0 b1 b2 b3 : Nat) : (b0 : Int) + (b1 : Int) * 256 + (b2 : Int) * 65536 + (b3 : Int) * 16777216 = ((b0 + b1 * 256 + b2 * 65536 + b3 * 16777216 : Nat) : Int) := by omega
theorem words_take (b : List Nat) (k : Nat) (hk : k < 16) : (Bl.words b).take (k + 1) = (Bl.words b).take k ++ [Bl.word b k] := by
  have hl : (Bl.words b).length = 16 := by simp [Bl.words]
  have e := Bl.words_at b k hk
  rw [List.getD_eq_getElem?_getD, List.getElem?_eq_getElem (by omega), Option.getD_some] at e
  rw [List.take_succ_eq_append_getElem (by omega), e]
theorem owns_new {w : World} {N n : Nat} {v : Value} {vs : List Value} (h : w.ownsRow N 59 1 v n vs) (o : Obj) : ((w.alloc o).drew).ownsRow N 59 1 v n vs := by
  obtain ⟨h0, h1⟩ := h
  refine ⟨h0, ?_⟩
  rcases h1 with h1 | ⟨g, cap', cur, hv, hN, hh, r⟩
  · exact .inl h1
  · exact .inr ⟨g, cap', cur, hv, hN, (Below.heap_alloc w o g (Array.getElem?_eq_some_iff.1 hh).1).trans hh, r⟩
theorem one_new (w : World) {z : Int} {n : Nat} (hz : z = (n : Int)) : ∀ j u, ([n].map V32)[j]? = some u → (w.alloc (.cells #[.int .u32 z] 59)).drew.cell? ((⟨w.heap.size, 0, none⟩ : Addr).add j) = some u := by
  subst hz
  exact fun j u hj => cell_one_new w (V32 n) 59 j u hj
theorem four_new {w : World} {bb p q r s : Nat} {a b c d : Value} {o : Obj} (h : w.cell? ⟨bb, p, none⟩ = some a ∧ w.cell? ⟨bb, q, none⟩ = some b ∧ w.cell? ⟨bb, r, none⟩ = some c ∧ w.cell? ⟨bb, s, none⟩ = some d) (hb : bb < w.heap.size) :
    (w.alloc o).drew.cell? ⟨bb, p, none⟩ = some a ∧ (w.alloc o).drew.cell? ⟨bb, q, none⟩ = some b ∧ (w.alloc o).drew.cell? ⟨bb, r, none⟩ = some c ∧ (w.alloc o).drew.cell? ⟨bb, s, none⟩ = some d := by
  have hB : Below w.heap.size w (w.alloc o).drew := ((Below.refl _ _).alloc (Nat.le_refl _) _).drew
  exact ⟨(hB.cell (p := ⟨bb, p, none⟩) hb).trans h.1, (hB.cell (p := ⟨bb, q, none⟩) hb).trans h.2.1, (hB.cell (p := ⟨bb, r, none⟩) hb).trans h.2.2.1, (hB.cell (p := ⟨bb, s, none⟩) hb).trans h.2.2.2⟩
theorem four_below {w w' : World} {N bb p q r s : Nat} {a b c d : Value} {o : Obj} (h : w.cell? ⟨bb, p, none⟩ = some a ∧ w.cell? ⟨bb, q, none⟩ = some b ∧ w.cell? ⟨bb, r, none⟩ = some c ∧ w.cell? ⟨bb, s, none⟩ = some d) (hb : bb < N) (hN : N ≤ w.heap.size) (hB : Below N (w.alloc o).drew w') :
    w'.cell? ⟨bb, p, none⟩ = some a ∧ w'.cell? ⟨bb, q, none⟩ = some b ∧ w'.cell? ⟨bb, r, none⟩ = some c ∧ w'.cell? ⟨bb, s, none⟩ = some d := by
  have h1 := four_new (o := o) h (by omega)
  exact ⟨(hB.cell (p := ⟨bb, p, none⟩) hb).trans h1.1, (hB.cell (p := ⟨bb, q, none⟩) hb).trans h1.2.1, (hB.cell (p := ⟨bb, r, none⟩) hb).trans h1.2.2.1, (hB.cell (p := ⟨bb, s, none⟩) hb).trans h1.2.2.2⟩
/- the same where the order is not drawn -/
theorem append_words {ops : Array Oper} {rest : List Oper} {o : Oper} {a : Act} {Q : Exit → Act → World → Prop} (hgd : o.guard = none) (s x : Operand)
    (ho : o.op = .call { callee := .builtin .append, args := #[s, x], argTypes := #[57, 57] }) (W : World) (N : Nat) (v : Value) (n : Nat) (vs : List Nat) (hs : a.eval s = v) (hown : W.ownsRow N 59 1 v n (vs.map V32))
    (ad : Addr) (m c : Nat) (ds : List Nat) (hx : a.eval x = .slice (some ad) m c) (hl : ds.length = m) (hnews : ∀ j u, (ds.map V32)[j]? = some u → W.cell? (ad.add j) = some u) (hb : n + m ≤ 1000) (hN : N ≤ W.heap.size)
    (h : ∀ v' w', w'.ownsRow N 59 1 v' (n + m) ((vs ++ ds).map V32) → Below N W w' → wpList Tryd.prog ops Q rest (a.put o.dst v') w') : wpList Tryd.prog ops Q (o :: rest) a W := by
  refine wpList_plain hgd fun K hK => ?_
  have e := step_append_words (ops := ops) (w := W) (K := K) (Q := Q) (E := True) hgd s x ho N v n vs hs hown ad m c ds hx hl hnews hb hN (fun v' w' h1 h2 => hK _ _ (h v' w' h1 h2))
  have hw : Region.wanted o (yielded ops a.tmps) = true := by simp [Region.wanted, hgd]
  rw [if_pos hw] at e
  exact e
/- a slice of the call's own that has words: its block -/
theorem own_row {w : World} {N n : Nat} {v : Value} {vs : List Nat} (h : w.ownsRow N 59 1 v n (vs.map V32)) (hn : 0 < n) : ∃ g cap tl, v = .slice (some ⟨g, 0, none⟩) n cap ∧ N ≤ g ∧ n ≤ cap ∧ vs.length = n ∧ Row w g 59 vs tl := by
  obtain ⟨h0, h1⟩ := h
  rcases h1 with ⟨_, h1⟩ | ⟨g, cap', cur, hv, hN, hh, hc, hm, hsz, ht⟩
  · omega
  · have hl : vs.length = n := by simpa using h0
    refine ⟨g, cap', cur.toList.drop n, hv, hN, by omega, hl, ?_⟩
    unfold Row
    rw [Nat.mul_one] at ht
    rw [← ht, List.take_append_drop]
    exact hh
end Go.Proofs.YtefpaebbendnmaaDoor.BK
