/- Proved: laws for bytes appended to a slice of the call's own, in a region that draws its order and outside of one. -/
import Derived.Test.YtefpaebbendnmaaDoorKRBlock
import Derived.Test.YtefpaebbendnmaaDoorKPieces
namespace Go.Proofs.YtefpaebbendnmaaDoor.BK
open Go.RowKit
theorem news8 {W : World} {ad : Addr} {m : Nat} {ds : List Nat} (hB : Bytes W (some ad) m ds) : ∀ j u, (ds.map V8)[j]? = some u → W.cell? (ad.add j) = some u := fun j u hj => by
  obtain ⟨hl, hlt, hmax, hc⟩ := hB
  have hj' : j < m := by
    have := (List.getElem?_eq_some_iff.1 hj).1
    simp at this; omega
  rcases hc with h0 | ⟨b, off, ha, hc⟩
  · omega
  cases ha
  rw [add_none, hc j hj']
  rw [List.getElem?_map, List.getElem?_eq_getElem (by omega)] at hj
  rw [List.getD_eq_getElem?_getD, List.getElem?_eq_getElem (by omega)]
  exact hj
/- 'append(x, y)' of bytes behind a slice of the call's own, as one step of a region that draws its order -/
theorem step_append_bytes {ops : Array Oper} {o : Oper} {a : Act} {w : World} {K : Act → World → Prop} {Q : Exit → Act → World → Prop} {E : Prop} (hgd : o.guard = none) (s x : Operand)
    (ho : o.op = .call { callee := .builtin .append, args := #[s, x], argTypes := #[28, 28] }) (N : Nat) (v : Value) (n : Nat) (vs : List Nat) (hs : a.eval s = v) (hown : w.ownsRow N 5 1 v n (vs.map V8))
    (ad : Addr) (m c : Nat) (ds : List Nat) (hx : a.eval x = .slice (some ad) m c) (hl : ds.length = m) (hnews : ∀ j u, (ds.map V8)[j]? = some u → w.cell? (ad.add j) = some u) (hb : n + m ≤ 40000) (hN : N ≤ w.heap.size)
    (h : ∀ v' w', w'.ownsRow N 5 1 v' (n + m) ((vs ++ ds).map V8) → Below N w w' → K (a.put o.dst v') w') :
    if Region.wanted o (yielded ops a.tmps) = true then Oper.wp Tryd.prog o a w K Q else E := by
  have hw : Region.wanted o (yielded ops a.tmps) = true := by simp [Region.wanted, hgd]
  rw [if_pos hw]
  obtain ⟨v', w', hr, h2, h3, h4, h5⟩ := run_append_own_at (P := Tryd.prog) w N 28 o.type 5 Tryd.t5 (.int .u8 0) 1 1 Tryd.underlying28 info5 rfl rfl rfl rfl (by omega) v n (vs.map V8) hown ad m c (ds.map V8) (by simpa using hl) hnews (v8_one ds) (by unfold maxLen; omega) (by omega) hN
  unfold Oper.wp execOp
  simp only [ho, resolve, invoke, builtin, Sem.run_bind, Sem.run_pure, Result.andThen_ok, List.map_toArray, List.map_cons, List.map_nil, hs, hx, hr]
  rw [← List.map_append] at h2
  refine h v' w' h2 ((Below.refl _ _).grown h3 hN (fun k hk => ?_))
  rcases hown.2 with ⟨hv, _⟩ | ⟨g, cap', cur, hv, hNg, _⟩
  · subst hv; cases hk
  · subst hv
    have : g = k := Option.some.inj hk
    omega
/- the same where the order is not drawn -/
theorem append_bytes {ops : Array Oper} {rest : List Oper} {o : Oper} {a : Act} {Q : Exit → Act → World → Prop} (hgd : o.guard = none) (s x : Operand)
    (ho : o.op = .call { callee := .builtin .append, args := #[s, x], argTypes := #[28, 28] }) (W : World) (N : Nat) (v : Value) (n : Nat) (vs : List Nat) (hs : a.eval s = v) (hown : W.ownsRow N 5 1 v n (vs.map V8))
    (ad : Addr) (m c : Nat) (ds : List Nat) (hx : a.eval x = .slice (some ad) m c) (hl : ds.length = m) (hnews : ∀ j u, (ds.map V8)[j]? = some u → W.cell? (ad.add j) = some u) (hb : n + m ≤ 40000) (hN : N ≤ W.heap.size)
    (h : ∀ v' w', w'.ownsRow N 5 1 v' (n + m) ((vs ++ ds).map V8) → Below N W w' → wpList Tryd.prog ops Q rest (a.put o.dst v') w') : wpList Tryd.prog ops Q (o :: rest) a W := by
  refine wpList_plain hgd fun K hK => ?_
  have e := step_append_bytes (ops := ops) (w := W) (K := K) (Q := Q) (E := True) hgd s x ho N v n vs hs hown ad m c ds hx hl hnews hb hN (fun v' w' h1 h2 => hK _ _ (h v' w' h1 h2))
  have hw : Region.wanted o (yielded ops a.tmps) = true := by simp [Region.wanted, hgd]
  rw [if_pos hw] at e
  exact e
/- a slice of the call's own that has bytes -/
theorem own_bytes {w : World} {N n : Nat} {v : Value} {vs : List Nat} (h : w.ownsRow N 5 1 v n (vs.map V8)) (h8 : ∀ x ∈ vs, x < 256) (hn : 0 < n) : ∃ g cap, v = .slice (some ⟨g, 0, none⟩) n cap ∧ Mine w N (some ⟨g, 0, none⟩) n cap vs := by
  have h' := h
  obtain ⟨h0, h1⟩ := h
  rcases h1 with ⟨_, h1⟩ | ⟨g, cap', cur, hv, hN, hh, hc, hm, hsz, ht⟩
  · omega
  · subst hv
    exact ⟨g, cap', rfl, h', h8, by omega⟩
theorem owns8_alloc {w : World} {N n : Nat} {v : Value} {vs : List Value} (h : w.ownsRow N 5 1 v n vs) (o : Obj) : (w.alloc o).ownsRow N 5 1 v n vs := by
  obtain ⟨h0, h1⟩ := h
  refine ⟨h0, ?_⟩
  rcases h1 with h1 | ⟨g, cap', cur, hv, hN, hh, r⟩
  · exact .inl h1
  · exact .inr ⟨g, cap', cur, hv, hN, (Below.heap_alloc w o g (Array.getElem?_eq_some_iff.1 hh).1).trans hh, r⟩
theorem owns8_new {w : World} {N n : Nat} {v : Value} {vs : List Value} (h : w.ownsRow N 5 1 v n vs) (o : Obj) : ((w.alloc o).drew).ownsRow N 5 1 v n vs := owns8_alloc h o
theorem owns8_mono {w : World} {N M n : Nat} {v : Value} {vs : List Value} (h : w.ownsRow N 5 1 v n vs) (hM : M ≤ N) : w.ownsRow M 5 1 v n vs := by
  obtain ⟨h0, h1⟩ := h
  refine ⟨h0, ?_⟩
  rcases h1 with h1 | ⟨g, cap', cur, hv, hN, r⟩
  · exact .inl h1
  · exact .inr ⟨g, cap', cur, hv, Nat.le_trans hM hN, r⟩
theorem Mine.mono {w : World} {N M : Nat} {a : Option Addr} {len cap : Nat} {bs : List Nat} (h : Mine w N a len cap bs) (hM : M ≤ N) : Mine w M a len cap bs := ⟨owns8_mono h.1 hM, h.2⟩
end Go.Proofs.YtefpaebbendnmaaDoor.BK
