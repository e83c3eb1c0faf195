/- Proved: laws for texts that are appended to lists of texts. -/
import Derived.Test.YtcfninpokngmlaaGreatDoorPApp
import Derived.Deep.AppendSrc
namespace Go.Proofs.YtcfninpokngmlaaGreatDoor
open Go.RowKit
theorem info_str : Tryz.prog.info? 9 = some Tryz.t9 := by kernel_rfl
/- a list of texts that lies in a block of its own, from N on -/
abbrev OwnS (w : World) (N : Nat) (v : Value) (rs : List ByteArray) : Prop := w.ownsRow N 9 1 v rs.length (rs.map Value.string)
theorem grown_refl (W : World) (row : Option Nat) : W.grownBy W row := ⟨rfl, rfl, rfl, Nat.le_refl _, fun _ _ _ => rfl⟩
theorem run_many (W : World) (N : Nat) (ty : TypeId) (v u : Value) (rs gs : List ByteArray) (hown : OwnS W N v rs) (hsrc : OwnS W 0 u gs) (hb : rs.length + gs.length ≤ 10000000) (hN : N ≤ W.heap.size) :
    ∃ v' w', (Builtin.append_ #[114, 114] ty #[v, u]).run Tryz.prog W = .ok v' w' ∧ OwnS w' N v' (rs ++ gs) ∧ W.grownBy w' v.ownBlock ∧ (v'.ownBlock = v.ownBlock ∨ v'.ownBlock = some W.heap.size) := by
  rcases hsrc.2 with ⟨hu, hl⟩ | ⟨pg, pcap, cur, hu, _, hh, _, _, _, ht⟩
  · obtain rfl : gs = [] := List.length_eq_zero_iff.1 hl
    subst hu
    rw [List.append_nil]
    rcases hown.2 with ⟨hv, hl2⟩ | ⟨g', cap', cur', hv, hNg, hg, hc, hm, hcs, htk⟩
    · subst hv
      refine ⟨.slice none 0 0, W, ?_, hown, grown_refl _ _, .inl rfl⟩
      have hf := run_firstCells_none (P := Tryz.prog) W 1 0 0 0
      have hu := Tryz.underlying114
      have hs1 : Tryz.t9.size = 1 := rfl
      simp [Builtin.append_, run_underlying hu, sizeOf, typeInfo, info_str, hs1, Builtin.lenOf, hf]
    · have hr := run_append_room_src (P := Tryz.prog) W 114 114 ty 9 Tryz.t9 Tryz.underlying114 info_str g' 0 rs.length cap' (.slice none 0 0) 0 [] (Src.ofNil W Tryz.underlying114 0) hc (fun j hj => by cases hj) (fun j hj => by cases hj)
      have e0 : W.setCells g' (0 + rs.length * Tryz.t9.size) [] = W := rfl
      rw [e0, Nat.add_zero, ← hv] at hr
      exact ⟨_, _, hr, hown, grown_refl _ _, .inl rfl⟩
  · subst hu
    obtain ⟨v', w', hr, h2, h3, h4, h5⟩ := run_append_own_at (P := Tryz.prog) W N 114 ty 9 Tryz.t9 (.string ByteArray.empty) 1 16 Tryz.underlying114 info_str rfl rfl rfl rfl (by omega) v rs.length (rs.map Value.string) hown ⟨pg, 0, none⟩ gs.length pcap (gs.map Value.string) (by simp) (fun j z hj => by
      have hjl := (List.getElem?_eq_some_iff.1 hj).1
      rw [Addr.add_mid, Nat.zero_add, cell_of_row W pg j cur _ (0, 0) hh, ← Array.getElem?_toList]
      rw [← ht] at hj
      rwa [List.getElem?_take_of_lt (by simpa using hjl)] at hj) (fun z hz => by obtain ⟨r, _, rfl⟩ := List.mem_map.1 hz; rfl) (by unfold maxLen; omega) (by omega) hN
    rw [← List.map_append, ← List.length_append] at h2
    exact ⟨v', w', hr, h2, h3, h5⟩
theorem opw_many {o : Oper} {a : Act} {W : World} {K : Act → World → Prop} {Q : Exit → Act → World → Prop} (sl x : Operand) (d : Option Tmp) (hd : o.dst = d)
    (ho : o.op = .call { callee := .builtin .append, args := #[sl, x], argTypes := #[114, 114] }) (N : Nat) (v u : Value) (rs gs : List ByteArray) (hs : a.eval sl = v) (hown : OwnS W N v rs) (hx : a.eval x = u) (hsrc : OwnS W 0 u gs) (hb : rs.length + gs.length ≤ 10000000) (hN : N ≤ W.heap.size)
    (h : ∀ v' w', OwnS w' N v' (rs ++ gs) → W.grownBy w' v.ownBlock → (v'.ownBlock = v.ownBlock ∨ v'.ownBlock = some W.heap.size) → K (a.put d v') w') : Oper.wp Tryz.prog o a W K Q := by
  subst hd
  obtain ⟨v', w', hr, h2, h3, h4⟩ := run_many W N o.type v u rs gs hown hsrc hb hN
  unfold Oper.wp execOp
  simp only [ho, resolve, invoke, builtin, Sem.run_bind, Sem.run_pure, Result.andThen_ok, List.map_toArray, List.map_cons, List.map_nil, hs, hx, hr]
  exact h v' w' h2 h3 h4
theorem app_many {ops : Array Oper} {rest : List Oper} {o : Oper} {a : Act} {Q : Exit → Act → World → Prop} (hgd : o.guard = none) (sl x : Operand)
    (ho : o.op = .call { callee := .builtin .append, args := #[sl, x], argTypes := #[114, 114] }) (W : World) (N : Nat) (v u : Value) (rs gs : List ByteArray) (hs : a.eval sl = v) (hown : OwnS W N v rs) (hx : a.eval x = u) (hsrc : OwnS W 0 u gs) (hb : rs.length + gs.length ≤ 10000000) (hN : N ≤ W.heap.size)
    (h : ∀ v' w', OwnS w' N v' (rs ++ gs) → W.grownBy w' v.ownBlock → (v'.ownBlock = v.ownBlock ∨ v'.ownBlock = some W.heap.size) → wpList Tryz.prog ops Q rest (a.put o.dst v') w') : wpList Tryz.prog ops Q (o :: rest) a W :=
  wpList_plain hgd fun _ hK => opw_many sl x o.dst rfl ho N v u rs gs hs hown hx hsrc hb hN (fun v' w' h1 h2 h3 => hK _ _ (h v' w' h1 h2 h3))
/- one text that lies in a new block -/
theorem own_new (W : World) (t : ByteArray) : OwnS (W.alloc (.cells #[.string t] 9)) 0 (.slice (some ⟨W.heap.size, 0, none⟩) 1 1) [t] := ⟨rfl, .inr ⟨W.heap.size, 1, _, rfl, Nat.zero_le _, heap_alloc_new W _, Nat.le_refl _, by unfold maxLen; omega, rfl, rfl⟩⟩
theorem own_alloc {w : World} {N e k n : Nat} {v : Value} {vs : List Value} (h : w.ownsRow N e k v n vs) (o : Obj) : (w.alloc o).ownsRow N e k v n vs := own_keep h (fun k hk => Below.heap_alloc w o k (h.lt k hk).2)
theorem own_below {w w' : World} {N e k n : Nat} {v : Value} {vs : List Value} (h : w.ownsRow N e k v n vs) (hb : Below w.heap.size w w') : w'.ownsRow N e k v n vs := own_keep h (fun k hk => hb.block k (h.lt k hk).2)
theorem own_zero {w : World} {N n : Nat} {v : Value} {vs : List Value} {e : TypeId} {k : Nat} (h : w.ownsRow N e k v n vs) : w.ownsRow 0 e k v n vs := by
  obtain ⟨h0, h1⟩ := h
  refine ⟨h0, ?_⟩
  rcases h1 with h1 | ⟨g, cap', cur, hv, _, r⟩
  · exact .inl h1
  · exact .inr ⟨g, cap', cur, hv, Nat.zero_le _, r⟩
theorem below_grown {N : Nat} {W w' : World} {e k n : Nat} {v : Value} {vs : List Value} (h : W.grownBy w' v.ownBlock) (hown : W.ownsRow N e k v n vs) (hN : N ≤ W.heap.size) : Below N W w' := (Below.refl _ _).grown h hN (fun k hk => (hown.lt k hk).1)
/- a list of texts, cell by cell -/
theorem own_strs {w : World} {N n : Nat} {v : Value} {rs : List ByteArray} (h : w.ownsRow N 9 1 v n (rs.map Value.string)) : ∃ a cap, v = .slice a n cap ∧ n ≤ cap ∧ cap ≤ 9223372036854775807 ∧ (0 < n → ∃ g, a = some ⟨g, 0, none⟩ ∧ v.ownBlock = some g ∧ ∀ i r, rs[i]? = some r → w.cell? ⟨g, i, none⟩ = some (.string r)) := by
  have hl : rs.length = n := by have := h.1; simpa using this
  rcases h.2 with ⟨h1, h2⟩ | ⟨g, cap, cur, hv, _, hh, hc, hm, hs, ht⟩
  · exact ⟨none, 0, by rw [h2]; exact h1, by omega, by omega, fun h => by omega⟩
  · unfold maxLen at hm
    refine ⟨_, cap, hv, hc, by omega, fun _ => ⟨g, rfl, by rw [hv]; rfl, fun i r hr => ?_⟩⟩
    have hi := (List.getElem?_eq_some_iff.1 hr).1
    rw [cell_of_row w g i cur _ (0, 0) hh, ← Array.getElem?_toList]
    have e : (cur.toList.take (n * 1))[i]? = (rs.map Value.string)[i]? := by rw [ht]
    rw [List.getElem?_take_of_lt (by omega)] at e
    rw [e, List.getElem?_map, hr]
    rfl
end Go.Proofs.YtcfninpokngmlaaGreatDoor
