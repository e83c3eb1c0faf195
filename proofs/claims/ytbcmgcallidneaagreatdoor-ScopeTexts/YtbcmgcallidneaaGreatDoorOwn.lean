/- Proved: how a list of texts of a call's own is lengthened and shortened. -/
import Derived.Test.YtbcmgcallidneaaGreatDoorSmall
import Derived.Laws.AppendOwn
import Derived.Deep.AppendSrc
namespace Go.Proofs.YtbcmgcallidneaaGreatDoor
open Go.RowKit
theorem bl_append (a b : ByteArray) : bl (a ++ b) = bl a ++ bl b := by
  rw [bl, ByteArray.data_append, Array.toList_append]
theorem info9 : Tryz.prog.info? 9 = some Tryz.t9 := by kernel_rfl
structure Grew (w : World) (v : Value) (w' : World) (v' : Value) : Prop where
  by_ : w.grownBy w' v.ownBlock
  row : v'.ownBlock = v.ownBlock ∨ ∃ g, v'.ownBlock = some g ∧ w.heap.size ≤ g
theorem Grew.below {w w' : World} {v v' : Value} {N n : Nat} {vs : List Value} {e : TypeId} {k : Nat} (h : Grew w v w' v') (hown : w.ownsRow N e k v n vs) (hN : N ≤ w.heap.size) : Below N w w' := by
  refine (Below.refl _ _).grown h.by_ hN (fun k hk => ?_)
  rcases hown.2 with ⟨hv, _⟩ | ⟨g, cap', cur, hv, hNg, _⟩
  · subst hv; cases hk
  · subst hv
    have : g = k := Option.some.inj hk
    omega
theorem own_row {w : World} {N n : Nat} {v : Value} {vs : List Value} {e : TypeId} {k : Nat} (h : w.ownsRow N e k v n vs) {g : Nat} (hg : v.ownBlock = some g) : N ≤ g ∧ g < w.heap.size := by
  rcases h.2 with ⟨hv, _⟩ | ⟨g', cap', cur, hv, hNg, hh, _⟩
  · subst hv; cases hg
  · subst hv
    have : g' = g := Option.some.inj hg
    subst this
    exact ⟨hNg, (Array.getElem?_eq_some_iff.1 hh).1⟩
theorem str_new (w : World) (s : ByteArray) : ∀ j u, [Value.string s][j]? = some u → (w.alloc (.cells #[.string s] 9)).cell? ((⟨w.heap.size, 0, none⟩ : Addr).add j) = some u := fun j u hj => by
  rw [Go.WideShapes.add_plain, cell_of_row _ _ (0 + j) _ 9 (0, 0) (heap_alloc_new w _), Nat.zero_add]
  show [Value.string s].toArray[j]? = some u
  rw [List.getElem?_toArray]; exact hj
theorem own_below {w w' : World} {N n : Nat} {v : Value} {vs : List Value} {e : TypeId} {k : Nat} (h : w.ownsRow N e k v n vs) (hb : Below w.heap.size w w') : w'.ownsRow N e k v n vs := by
  obtain ⟨h0, h1⟩ := h
  refine ⟨h0, ?_⟩
  rcases h1 with h1 | ⟨g, cap', cur, hv, hN, hh, r⟩
  · exact .inl h1
  · exact .inr ⟨g, cap', cur, hv, hN, (hb.block g (Array.getElem?_eq_some_iff.1 hh).1).trans hh, r⟩
theorem own_alloc1 {w : World} {N n : Nat} {v : Value} {vs : List Value} {e : TypeId} {k : Nat} (h : w.ownsRow N e k v n vs) (o : Obj) : (w.alloc o).ownsRow N e k v n vs := own_below h ((Below.refl _ w).alloc (Nat.le_refl _) o)
theorem owns_base {w : World} {N M n : Nat} {v : Value} {vs : List Value} {e : TypeId} {k : Nat} (h : w.ownsRow M e k v n vs) (hN : N ≤ M) : w.ownsRow N e k v n vs := by
  obtain ⟨h0, h1⟩ := h
  refine ⟨h0, ?_⟩
  rcases h1 with h1 | ⟨g, cap', cur, hv, hM, r⟩
  · exact .inl h1
  · exact .inr ⟨g, cap', cur, hv, Nat.le_trans hN hM, r⟩
/- one text behind a list of the call's own -/
theorem append_str {ops : Array Oper} {rest : List Oper} {o : Oper} {a : Act} {Q : Exit → Act → World → Prop} (hgd : o.guard = none) (s x : Operand)
    (ho : o.op = .call { callee := .builtin .append, args := #[s, x], argTypes := #[22, 22] }) (W : World) (N : Nat) (v : Value) (n : Nat) (vs : List Value) (hs : a.eval s = v) (hown : W.ownsRow N 9 1 v n vs)
    (ad : Addr) (c : Nat) (t : ByteArray) (hx : a.eval x = .slice (some ad) 1 c) (hnews : ∀ j u, [Value.string t][j]? = some u → W.cell? (ad.add j) = some u) (hb : n + 1 ≤ 50000) (hN : N ≤ W.heap.size)
    (h : ∀ v' w', w'.ownsRow N 9 1 v' (n + 1) (vs ++ [.string t]) → Grew W v w' v' → wpList Tryz.prog ops Q rest (a.put o.dst v') w') : wpList Tryz.prog ops Q (o :: rest) a W := by
  obtain ⟨v', w', hr, h2, h3, h4, h5⟩ := run_append_own_at (P := Tryz.prog) W N 22 o.type 9 Tryz.t9 (.string ByteArray.empty) 1 16 Tryz.underlying22 info9 rfl rfl rfl rfl (by omega) v n vs hown ad 1 c [.string t] rfl hnews (fun u hu => by rw [List.mem_singleton.1 hu]; rfl) (by unfold maxLen; omega) (by omega) hN
  refine wpList_plain hgd fun K hK => ?_
  unfold Oper.wp execOp
  simp only [ho, resolve, invoke, builtin, Sem.run_bind, Sem.run_pure, Result.andThen_ok, List.map_toArray, List.map_cons, List.map_nil, hs, hx, hr]
  exact hK _ _ (h v' w' h2 ⟨h3, h5.imp id (fun h => ⟨_, h, Nat.le_refl _⟩)⟩)
/- what a list of texts of the call's own is -/
theorem own_shape {w : World} {N : Nat} {v : Value} {l : List Pm.T} (h : w.ownsRow N 9 1 v l.length (scells l)) : (v = .slice none 0 0 ∧ l = []) ∨ ∃ g cap, v = .slice (some ⟨g, 0, none⟩) l.length cap ∧ N ≤ g ∧ g < w.heap.size ∧ l.length ≤ cap ∧ cap ≤ 9223372036854775807 ∧ TextsAt w g 0 l := by
  rcases h.2 with ⟨h1, h2⟩ | ⟨g, cap, cur, hv, hN, hh, hc, hm, hs, ht⟩
  · exact .inl ⟨h1, List.eq_nil_of_length_eq_zero h2⟩
  · unfold maxLen at hm
    refine .inr ⟨g, cap, hv, hN, (Array.getElem?_eq_some_iff.1 hh).1, hc, by omega, fun j x hj => ?_⟩
    have hjl : j < l.length := (List.getElem?_eq_some_iff.1 hj).1
    rw [cell_of_row w g (0 + j) cur 9 (0, 0) hh, Nat.zero_add, ← Array.getElem?_toList]
    have e : (cur.toList.take (l.length * 1))[j]? = (scells l)[j]? := by rw [ht]
    rw [List.getElem?_take_of_lt (by omega)] at e
    rw [e, scells, List.getElem?_map, hj]; rfl
/- .. without its last one -/
theorem own_short {w : World} {N : Nat} {g cap : Nat} {l : List Pm.T} (h : w.ownsRow N 9 1 (.slice (some ⟨g, 0, none⟩) l.length cap) l.length (scells l)) : w.ownsRow N 9 1 (.slice (some ⟨g, 0, none⟩) (l.length - 1) cap) l.dropLast.length (scells l.dropLast) := by
  refine ⟨by simp [scells], ?_⟩
  rcases h.2 with ⟨h1, _⟩ | ⟨g', cap', cur, hv, hN, hh, hc, hm, hs, ht⟩
  · cases h1
  · cases hv
    refine .inr ⟨g, cap, cur, by rw [List.length_dropLast], hN, hh, by rw [List.length_dropLast]; omega, hm, hs, ?_⟩
    have e : cur.toList.take (l.dropLast.length * 1) = (cur.toList.take (l.length * 1)).take (l.dropLast.length * 1) := by rw [List.take_take, Nat.min_eq_left (by rw [List.length_dropLast]; omega)]
    rw [e, ht, scells, scells, List.dropLast_eq_take, List.length_take, ← List.map_take]
    congr 1
    rw [Nat.mul_one, Nat.min_eq_left (by omega)]
theorem join_short : ∀ (l : List Pm.T) (m : Nat), (∀ n ∈ l, n.length ≤ m) → (Pm.join l).length ≤ l.length * (m + 1)
  | [], _, _ => by simp [Pm.join]
  | [n], m, h => by have := h n (List.mem_cons_self ..); simp [Pm.join]; omega
  | n :: k :: r, m, h => by
    have h1 := h n (List.mem_cons_self ..)
    have h2 := join_short (k :: r) m fun x hx => h x (List.mem_cons_of_mem _ hx)
    rw [Pm.join, List.length_append, List.length_cons, List.length_cons (a := n), Nat.succ_mul]
    omega
end Go.Proofs.YtbcmgcallidneaaGreatDoor
