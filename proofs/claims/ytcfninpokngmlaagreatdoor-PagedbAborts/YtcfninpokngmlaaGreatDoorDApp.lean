/- Proved: a page put behind pages, a number put ahead of numbers, in memory of the call's own (stage 10). -/
import Derived.Test.YtcfninpokngmlaaGreatDoorLBld
import Derived.Maps.AppendAt
import Derived.Deep.AppendSrc
namespace Go.Proofs.YtcfninpokngmlaaGreatDoor
open Go.RowKit
def pgC : Option Pd.Sheet → List Value
  | some x => [.int .i64 (x.kind : Int), .string x.body, .bool false]
  | none => [.int .i64 0, .string ⟨#[]⟩, .bool true]
theorem pgC_length (o : Option Pd.Sheet) : (pgC o).length = 3 := by cases o <;> rfl
theorem pgC_one (o : Option Pd.Sheet) : ∀ u ∈ pgC o, u.oneCell' = true := by
  cases o <;> intro u hu <;> simp [pgC] at hu <;> rcases hu with rfl | rfl | rfl <;> rfl
def intC (l : List Nat) : List Value := l.map fun i : Nat => Value.int .i64 (i : Int)
theorem intC_one (l : List Nat) : ∀ u ∈ intC l, u.oneCell' = true := fun u hu => by
  obtain ⟨i, _, rfl⟩ := List.mem_map.1 hu
  rfl
theorem info_pg : (Tryz.prog.info? 83).map (fun i => (i.zero, i.size, i.bytes)) = some (some (.agg #[.int .i64 0, .string ⟨#[]⟩, .bool false]), 3, 32) := by kernel_rfl
/- 'append', by what it comes to -/
theorem wpList_run_append {P : Program} {w : World} {ops : Array Oper} {rest : List Oper} {o : Oper} {a : Act} {Q : Exit → Act → World → Prop} (hg : o.guard = none) (s x : Operand) (t : TypeId) (hop : o.op = Op.call { callee := Callee.builtin Builtin.append, args := #[s, x], argTypes := #[t, t] })
    (v u v' : Value) (w' : World) (hs : a.eval s = v) (hx : a.eval x = u) (hr : ∀ ty, (Builtin.append_ #[t, t] ty #[v, u]).run P w = .ok v' w') (hK : wpList P ops Q rest (a.put o.dst v') w') : wpList P ops Q (o :: rest) a w := by
  refine wpList_plain hg fun K hK' => ?_
  have hrun := hr o.type
  unfold Oper.wp
  simp [execOp, hop, resolve, invoke, builtin, hs, hx, hrun, Result.andThen]
  exact hK' _ _ hK
theorem app_pg (W : World) (B : Nat) (v : Value) (xs : List (Option Pd.Sheet)) (o : Option Pd.Sheet) (y : Nat) (hown : W.ownsRow B 83 3 v xs.length (xs.flatMap pgC)) (hl : xs.length ≤ 100000) (hB : B ≤ W.heap.size) (hy : W.heap[y]? = some (.cells (pgC o).toArray 83 (0, 0))) :
    ∃ v' w', (∀ ty, (Builtin.append_ #[36, 36] ty #[v, .slice (some ⟨y, 0, none⟩) 1 1]).run Tryz.prog W = .ok v' w') ∧ w'.ownsRow B 83 3 v' (xs ++ [o]).length ((xs ++ [o]).flatMap pgC) ∧ W.grownBy w' v.ownBlock ∧ (v'.ownBlock = v.ownBlock ∨ v'.ownBlock = some W.heap.size) := by
  obtain ⟨i0, hi, hz0, hz1, hz2⟩ := info_parts info_pg
  obtain ⟨v', w', hr, h2, h3, h4, h5⟩ := run_append_own_at (P := Tryz.prog) W B 36 0 83 i0 (.agg #[.int .i64 0, .string ⟨#[]⟩, .bool false]) 3 32 Tryz.underlying36 hi hz0 hz1 hz2 rfl (by omega) v xs.length (xs.flatMap pgC) hown ⟨y, 0, none⟩ 1 1 (pgC o) (by rw [pgC_length]) (fun j u hj => by rw [Addr.add_mid]; exact range_all hy j u hj) (pgC_one o) (by unfold maxLen; omega) (by omega) hB
  exact ⟨v', w', fun _ => hr, by simpa using h2, h3, h5⟩
theorem app_int (W : World) (B : Nat) (v : Value) (fl : List Nat) (id y : Nat) (hown : W.ownsRow B 3 1 v fl.length (intC fl)) (hl : fl.length ≤ 100000) (hBy : B ≤ y) (hB : B ≤ W.heap.size) (hy : W.heap[y]? = some (.cells #[.int .i64 (id : Int)] 3 (0, 0))) :
    ∃ v' w', (∀ ty, (Builtin.append_ #[37, 37] ty #[.slice (some ⟨y, 0, none⟩) 1 1, v]).run Tryz.prog W = .ok v' w') ∧ w'.ownsRow B 3 1 v' (id :: fl).length (intC (id :: fl)) ∧ W.grownBy w' (some y) ∧ (v'.ownBlock = some y ∨ v'.ownBlock = some W.heap.size) := by
  obtain ⟨i0, hi, hz0, hz1, hz2⟩ := info_parts infoInt
  have hrow : W.ownsRow B 3 1 (.slice (some ⟨y, 0, none⟩) 1 1) 1 (intC [id]) := ⟨rfl, .inr ⟨y, 1, _, rfl, hBy, hy, Nat.le_refl _, by unfold maxLen; omega, rfl, rfl⟩⟩
  rcases hown.2 with ⟨rfl, h0⟩ | ⟨g, cap, cur, rfl, hg, hb, h1, h2, h3, h4⟩
  · have hfl : fl = [] := List.length_eq_zero_iff.1 h0
    subst hfl
    have hS := Src.ofNil (P := Tryz.prog) W (size := i0.size) (tx := 37) Tryz.underlying37 0
    have hr := run_append_room_src (P := Tryz.prog) W 37 37 0 3 i0 Tryz.underlying37 hi y 0 1 1 (.slice none 0 0) 0 [] hS (Nat.le_refl _) (fun j hj => by cases hj) (fun j hj => by cases hj)
    refine ⟨_, _, fun _ => hr, ?_, ⟨rfl, rfl, rfl, Nat.le_refl _, fun _ _ _ => rfl⟩, .inl rfl⟩
    exact hrow
  · obtain ⟨v', w', hr, h2', h3', h4', h5'⟩ := run_append_own_at (P := Tryz.prog) W B 37 0 3 i0 (.int .i64 0) 1 8 Tryz.underlying37 hi hz0 hz1 hz2 rfl (by omega) _ 1 (intC [id]) hrow ⟨g, 0, none⟩ fl.length cap (intC fl) (by unfold intC; rw [List.length_map]; omega) (fun j u hj => by
      rw [Addr.add_mid, cell_of_row W g _ _ _ (0, 0) hb]
      have hlt : j < (intC fl).length := (List.getElem?_eq_some_iff.1 hj).1
      rw [← h4] at hj
      rw [Nat.zero_add, ← Array.getElem?_toList]
      rw [List.getElem?_take_of_lt (by unfold intC at hlt; rw [List.length_map] at hlt; omega)] at hj
      exact hj) (intC_one fl) (by unfold maxLen; omega) (by omega) hB
    refine ⟨v', w', fun _ => hr, ?_, h3', h5'⟩
    rw [List.length_cons, Nat.add_comm]
    exact h2'
end Go.Proofs.YtcfninpokngmlaaGreatDoor
