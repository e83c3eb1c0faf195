/- Proved: one text, or one number, behind a list of the call's own. -/
import Derived.Test.YtefpaebbendnmaaDoorJn
import Derived.Laws.AppendOwn
namespace Go.Proofs.YtefpaebbendnmaaDoor
open Go.RowKit
open Ck (T)
theorem info_int : Tryd.prog.info? 3 = some Tryd.t3 := by kernel_rfl
def nv (n : Nat) : Value := .int .i64 (n : Int)
abbrev OwnN (w : World) (N : Nat) (v : Value) (rs : List Nat) : Prop := w.ownsRow N 3 1 v rs.length (rs.map nv)
structure Nums (w : World) (v : Value) (rs : List Nat) : Prop where
  sl : ∃ a cap, v = .slice a rs.length cap ∧ rs.length ≤ cap ∧ cap ≤ 9223372036854775807 ∧ (0 < rs.length → ∃ g off, a = some ⟨g, off, none⟩ ∧ g < w.heap.size ∧ ∀ i r, rs[i]? = some r → w.cell? ⟨g, off + i, none⟩ = some (nv r))
theorem OwnN.nums {w : World} {N : Nat} {v : Value} {rs : List Nat} (h : OwnN w N v rs) : Nums w v rs := by
  rcases h.2 with ⟨h1, h2⟩ | ⟨g, cap, cur, hv, _, hh, hc, hm, hs, ht⟩
  · exact ⟨none, 0, by rw [h2]; exact h1, by omega, by omega, fun h => by omega⟩
  · unfold maxLen at hm
    refine ⟨_, cap, hv, hc, by omega, fun _ => ⟨g, 0, rfl, (Array.getElem?_eq_some_iff.1 hh).1, fun i r hr => ?_⟩⟩
    have hi := (List.getElem?_eq_some_iff.1 hr).1
    rw [cell_of_row w g (0 + i) cur _ (0, 0) hh, ← Array.getElem?_toList, Nat.zero_add]
    have e : (cur.toList.take (rs.length * 1))[i]? = (rs.map nv)[i]? := by rw [ht]
    rw [List.getElem?_take_of_lt (by omega)] at e
    rw [e, List.getElem?_map, hr]
    rfl
theorem Nums.below {w w' : World} {v : Value} {rs : List Nat} (h : Nums w v rs) (hb : Below w.heap.size w w') : Nums w' v rs := by
  obtain ⟨a, cap, hv, hc, hm, hl⟩ := h.sl
  refine ⟨a, cap, hv, hc, hm, fun h0 => ?_⟩
  obtain ⟨g, off, ha, hg, hcell⟩ := hl h0
  exact ⟨g, off, ha, Nat.lt_of_lt_of_le hg hb.size, fun i r hr => (hb.cell (p := ⟨g, off + i, none⟩) hg).trans (hcell i r hr)⟩
theorem one_new (w : World) (v : Value) (t : TypeId) : ∀ j u, [v][j]? = some u → (w.alloc (.cells #[v] t)).cell? ((⟨w.heap.size, 0, none⟩ : Addr).add j) = some u := fun j u hj => by
  rw [Addr.add_mid, cell_of_row _ _ (0 + j) _ t (0, 0) (heap_alloc_new w _), Nat.zero_add]
  show [v].toArray[j]? = some u
  rw [List.getElem?_toArray]; exact hj
/- one str -/
theorem run_str (W : World) (N : Nat) (ty : TypeId) (v : Value) (rs : List T) (t : T) (hown : OwnT W N v rs) (ad : Addr) (c : Nat) (hnews : ∀ j u, [tv t][j]? = some u → W.cell? (ad.add j) = some u) (hb : rs.length ≤ 1000000) (hN : N ≤ W.heap.size) :
    ∃ v' w', (Builtin.append_ #[38, 38] ty #[v, .slice (some ad) 1 c]).run Tryd.prog W = .ok v' w' ∧ OwnT w' N v' (rs ++ [t]) ∧ Below N W w' := by
  obtain ⟨v', w', hr, h2, h3, _⟩ := run_append_own_at (P := Tryd.prog) W N 38 ty 9 Tryd.t9 (.string ByteArray.empty) 1 16 Tryd.underlying38 info_str rfl rfl rfl rfl (by omega) v rs.length (rs.map tv) hown ad 1 c [tv t] rfl hnews (fun u hu => by rw [List.mem_singleton.1 hu]; rfl) (by unfold maxLen; omega) (by omega) hN
  refine ⟨v', w', hr, ?_, below_grown h3 hown hN⟩
  show w'.ownsRow N 9 1 v' (rs ++ [t]).length ((rs ++ [t]).map tv)
  rw [List.length_append, List.map_append]
  exact h2
theorem app_str {ops : Array Oper} {rest : List Oper} {o : Oper} {a : Act} {Q : Exit → Act → World → Prop} (hgd : o.guard = none) (s x : Operand)
    (ho : o.op = .call { callee := .builtin .append, args := #[s, x], argTypes := #[38, 38] }) (W : World) (N : Nat) (v : Value) (rs : List T) (t : T) (hs : a.eval s = v) (hown : OwnT W N v rs)
    (ad : Addr) (c : Nat) (hx : a.eval x = .slice (some ad) 1 c) (hnews : ∀ j u, [tv t][j]? = some u → W.cell? (ad.add j) = some u) (hb : rs.length ≤ 1000000) (hN : N ≤ W.heap.size)
    (h : ∀ v' w', OwnT w' N v' (rs ++ [t]) → Below N W w' → wpList Tryd.prog ops Q rest (a.put o.dst v') w') : wpList Tryd.prog ops Q (o :: rest) a W := by
  obtain ⟨v', w', hr, h2, h3⟩ := run_str W N o.type v rs t hown ad c hnews hb hN
  refine wpList_plain hgd fun K hK => ?_
  unfold Oper.wp execOp
  simp only [ho, resolve, invoke, builtin, Sem.run_bind, Sem.run_pure, Result.andThen_ok, List.map_toArray, List.map_cons, List.map_nil, hs, hx, hr]
  exact hK _ _ (h v' w' h2 h3)
theorem opw_str {o : Oper} {a : Act} {W : World} {K : Act → World → Prop} {Q : Exit → Act → World → Prop} (s x : Operand) (d : Option Tmp) (hd : o.dst = d)
    (ho : o.op = .call { callee := .builtin .append, args := #[s, x], argTypes := #[38, 38] }) (N : Nat) (v : Value) (rs : List T) (t : T) (hs : a.eval s = v) (hown : OwnT W N v rs)
    (ad : Addr) (c : Nat) (hx : a.eval x = .slice (some ad) 1 c) (hnews : ∀ j u, [tv t][j]? = some u → W.cell? (ad.add j) = some u) (hb : rs.length ≤ 1000000) (hN : N ≤ W.heap.size)
    (h : ∀ v' w', OwnT w' N v' (rs ++ [t]) → Below N W w' → K (a.put d v') w') : Oper.wp Tryd.prog o a W K Q := by
  subst hd
  obtain ⟨v', w', hr, h2, h3⟩ := run_str W N o.type v rs t hown ad c hnews hb hN
  unfold Oper.wp execOp
  simp only [ho, resolve, invoke, builtin, Sem.run_bind, Sem.run_pure, Result.andThen_ok, List.map_toArray, List.map_cons, List.map_nil, hs, hx, hr]
  exact h v' w' h2 h3
/- one num -/
theorem run_num (W : World) (N : Nat) (ty : TypeId) (v : Value) (rs : List Nat) (t : Nat) (hown : OwnN W N v rs) (ad : Addr) (c : Nat) (hnews : ∀ j u, [nv t][j]? = some u → W.cell? (ad.add j) = some u) (hb : rs.length ≤ 1000000) (hN : N ≤ W.heap.size) :
    ∃ v' w', (Builtin.append_ #[26, 26] ty #[v, .slice (some ad) 1 c]).run Tryd.prog W = .ok v' w' ∧ OwnN w' N v' (rs ++ [t]) ∧ Below N W w' := by
  obtain ⟨v', w', hr, h2, h3, _⟩ := run_append_own_at (P := Tryd.prog) W N 26 ty 3 Tryd.t3 (.int .i64 0) 1 8 Tryd.underlying26 info_int rfl rfl rfl rfl (by omega) v rs.length (rs.map nv) hown ad 1 c [nv t] rfl hnews (fun u hu => by rw [List.mem_singleton.1 hu]; rfl) (by unfold maxLen; omega) (by omega) hN
  refine ⟨v', w', hr, ?_, below_grown h3 hown hN⟩
  show w'.ownsRow N 3 1 v' (rs ++ [t]).length ((rs ++ [t]).map nv)
  rw [List.length_append, List.map_append]
  exact h2
theorem app_num {ops : Array Oper} {rest : List Oper} {o : Oper} {a : Act} {Q : Exit → Act → World → Prop} (hgd : o.guard = none) (s x : Operand)
    (ho : o.op = .call { callee := .builtin .append, args := #[s, x], argTypes := #[26, 26] }) (W : World) (N : Nat) (v : Value) (rs : List Nat) (t : Nat) (hs : a.eval s = v) (hown : OwnN W N v rs)
    (ad : Addr) (c : Nat) (hx : a.eval x = .slice (some ad) 1 c) (hnews : ∀ j u, [nv t][j]? = some u → W.cell? (ad.add j) = some u) (hb : rs.length ≤ 1000000) (hN : N ≤ W.heap.size)
    (h : ∀ v' w', OwnN w' N v' (rs ++ [t]) → Below N W w' → wpList Tryd.prog ops Q rest (a.put o.dst v') w') : wpList Tryd.prog ops Q (o :: rest) a W := by
  obtain ⟨v', w', hr, h2, h3⟩ := run_num W N o.type v rs t hown ad c hnews hb hN
  refine wpList_plain hgd fun K hK => ?_
  unfold Oper.wp execOp
  simp only [ho, resolve, invoke, builtin, Sem.run_bind, Sem.run_pure, Result.andThen_ok, List.map_toArray, List.map_cons, List.map_nil, hs, hx, hr]
  exact hK _ _ (h v' w' h2 h3)
theorem opw_num {o : Oper} {a : Act} {W : World} {K : Act → World → Prop} {Q : Exit → Act → World → Prop} (s x : Operand) (d : Option Tmp) (hd : o.dst = d)
    (ho : o.op = .call { callee := .builtin .append, args := #[s, x], argTypes := #[26, 26] }) (N : Nat) (v : Value) (rs : List Nat) (t : Nat) (hs : a.eval s = v) (hown : OwnN W N v rs)
    (ad : Addr) (c : Nat) (hx : a.eval x = .slice (some ad) 1 c) (hnews : ∀ j u, [nv t][j]? = some u → W.cell? (ad.add j) = some u) (hb : rs.length ≤ 1000000) (hN : N ≤ W.heap.size)
    (h : ∀ v' w', OwnN w' N v' (rs ++ [t]) → Below N W w' → K (a.put d v') w') : Oper.wp Tryd.prog o a W K Q := by
  subst hd
  obtain ⟨v', w', hr, h2, h3⟩ := run_num W N o.type v rs t hown ad c hnews hb hN
  unfold Oper.wp execOp
  simp only [ho, resolve, invoke, builtin, Sem.run_bind, Sem.run_pure, Result.andThen_ok, List.map_toArray, List.map_cons, List.map_nil, hs, hx, hr]
  exact h v' w' h2 h3
end Go.Proofs.YtefpaebbendnmaaDoor
