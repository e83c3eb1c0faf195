/- Proved: what the law ChunkBack needs of lists of chunks and of lists that are appended. -/
import Derived.Test.YtefpaebbendnmaaRSpl
import Derived.Test.YtefpaebbendnmaaWorks
namespace Go.Proofs.Ytefpaebbendnmaa
open Go.RowKit
open Ck (T cnt bnd pc chunks Ok joinE joinT)
theorem sne2 (s : ByteArray) : (s.toList != s.toList) = false := by simp
theorem run_strs (W : World) (N : Nat) (ty : TypeId) (v : Value) (rs ts : List T) (hown : OwnT W N v rs) (ad : Addr) (k c : Nat) (hk : ts.length = k) (hnews : ∀ j t, ts[j]? = some t → W.cell? (ad.add j) = some (tv t)) (hb : rs.length + ts.length ≤ 1000000) (hN : N ≤ W.heap.size) :
    ∃ v' w', (Builtin.append_ #[22, 22] ty #[v, .slice (some ad) k c]).run Try.prog W = .ok v' w' ∧ OwnT w' N v' (rs ++ ts) ∧ Below N W w' := by
  subst hk
  obtain ⟨v', w', hr, h2, h3, _⟩ := run_append_own_at (P := Try.prog) W N 22 ty 9 Try.t9 (.string ByteArray.empty) 1 16 Try.underlying22 info_str rfl rfl rfl rfl (by omega) v rs.length (rs.map tv) hown ad ts.length c (ts.map tv) (by rw [List.length_map, Nat.mul_one]) (fun j u hu => by
    rw [List.getElem?_map] at hu
    obtain ⟨t, ht, rfl⟩ := Option.map_eq_some_iff.1 hu
    exact hnews j t ht) (fun u hu => by
    obtain ⟨t, _, rfl⟩ := List.mem_map.1 hu
    rfl) (by unfold maxLen; omega) (by omega) hN
  refine ⟨v', w', hr, ?_, below_grown h3 hown hN⟩
  show w'.ownsRow N 9 1 v' (rs ++ ts).length ((rs ++ ts).map tv)
  rw [List.length_append, List.map_append]
  exact h2
theorem app_strs {ops : Array Oper} {rest : List Oper} {o : Oper} {a : Act} {Q : Exit → Act → World → Prop} (hgd : o.guard = none) (s x : Operand)
    (ho : o.op = .call { callee := .builtin .append, args := #[s, x], argTypes := #[22, 22] }) (W : World) (N : Nat) (v : Value) (rs ts : List T) (hs : a.eval s = v) (hown : OwnT W N v rs)
    (ad : Addr) (k c : Nat) (hx : a.eval x = .slice (some ad) k c) (hk : ts.length = k) (hnews : ∀ j t, ts[j]? = some t → W.cell? (ad.add j) = some (tv t)) (hb : rs.length + ts.length ≤ 1000000) (hN : N ≤ W.heap.size)
    (h : ∀ v' w', OwnT w' N v' (rs ++ ts) → Below N W w' → wpList Try.prog ops Q rest (a.put o.dst v') w') : wpList Try.prog ops Q (o :: rest) a W := by
  obtain ⟨v', w', hr, h2, h3⟩ := run_strs W N o.type v rs ts hown ad k c hk hnews hb hN
  refine wpList_plain hgd fun K hK => ?_
  unfold Oper.wp execOp
  simp only [ho, resolve, invoke, builtin, Sem.run_bind, Sem.run_pure, Result.andThen_ok, List.map_toArray, List.map_cons, List.map_nil, hs, hx, hr]
  exact hK _ _ (h v' w' h2 h3)
/- an empty list of the call's own -/
theorem own_empty (W : World) (N : Nat) (hN : N ≤ W.heap.size) : OwnT (W.alloc (.cells #[] 9)) N (.slice (some ⟨W.heap.size, 0, none⟩) 0 0) [] :=
  ⟨rfl, .inr ⟨W.heap.size, 0, #[], rfl, hN, heap_alloc_new W _, Nat.le_refl _, by unfold maxLen; omega, rfl, rfl⟩⟩
theorem chunks_pos {s : T} {i : Nat} (h : i < cnt s.length) : 0 < (pc s i).length := by
  rw [Ck.pc_length]
  unfold cnt at h
  omega
theorem short_no {s : T} {k : Nat} (h : k < cnt s.length) : ¬ Ok ((chunks s).set k ((pc s k).drop 1)) s.length := fun hO => by
  have h1 := hO.2 k ((pc s k).drop 1) (by rw [List.getElem?_set_self (by rw [Ck.chunks_length]; exact h)])
  have h2 := chunks_pos h
  rw [List.length_drop] at h1
  rw [Ck.pc_length] at h1 h2
  omega
theorem more_no {s x : T} : ¬ Ok (chunks s ++ [x]) s.length := fun hO => by
  have := hO.1
  rw [List.length_append, Ck.chunks_length] at this
  simp at this
theorem less_no {s : T} (h : 0 < cnt s.length) : ¬ Ok ((chunks s).drop 1) s.length := fun hO => by
  have := hO.1
  rw [List.length_drop, Ck.chunks_length] at this
  omega
theorem bnd_in {n i : Nat} (hn : n ≤ 4096) (h : i < cnt n) : bnd n i = (((64 * i : Nat) : Int), ((64 * i + min 64 (n - 64 * i) : Nat) : Int)) := by
  have h' : 64 * i < n := by unfold cnt at h; omega
  unfold bnd
  rw [Ck.cntZ_nat, if_neg (by omega)]
  congr 1 <;> omega
theorem pc_ext (s : ByteArray) (i : Nat) (_h : 64 * i < s.size) : s.extract (64 * i) (64 * i + min 64 (s.size - 64 * i)) = mk (pc (bl s) i) := by
  rw [← mk_bl (s.extract _ _), bl_ext, ext_mid]
  unfold pc
  by_cases h2 : 64 ≤ s.size - 64 * i
  · rw [Nat.min_eq_left h2]
  · rw [List.take_of_length_le (by rw [List.length_drop, bl_length]; omega), List.take_of_length_le (by rw [List.length_drop, bl_length]; omega)]
theorem drop_ext (t : T) : (mk t).extract 1 (mk t).size = mk (t.drop 1) := by
  rw [mk_ext, ext_drop _ _ _ (by rw [mk_size]; exact Nat.le_refl _)]
theorem Txts.tail {w : World} {g off n cap : Nat} {l : List T} (h : Txts w (.slice (some ⟨g, off, none⟩) n cap) l) (a : Addr) (ha : 1 < l.length → a = ⟨g, off + 1, none⟩) (h0 : 0 < l.length) : Txts w (.slice (some a) (n - 1) (cap - 1)) (l.drop 1) := by
  obtain ⟨ad', cap', hv, hc, hm, hl⟩ := h.sl
  obtain ⟨rfl, rfl, rfl⟩ : some (⟨g, off, none⟩ : Addr) = ad' ∧ n = l.length ∧ cap = cap' := by simpa using hv
  refine ⟨some a, cap - 1, by rw [List.length_drop], by rw [List.length_drop]; omega, by omega, fun h1 => ?_⟩
  rw [List.length_drop] at h1
  obtain ⟨g', off', e, hg, hcell⟩ := hl h0
  obtain ⟨rfl, rfl⟩ : g = g' ∧ off = off' := by simpa using e
  refine ⟨g, off + 1, by rw [ha (by omega)], hg, fun i r hr => ?_⟩
  rw [List.getElem?_drop] at hr
  rw [Nat.add_assoc]
  exact hcell _ r hr
end Go.Proofs.Ytefpaebbendnmaa
