/- Proved: a map of pages in memory: what it tells, and how it is turned. -/
import Derived.Test.YtcfninpokngmlaaGreatDoorBase
import Derived.Test.YtcfninpokngmlaaGreatDoorDRec
import Derived.Maps.OwnOps
import Derived.Maps.OwnSet
import Derived.Maps.RangeWalk
import Derived.Maps.Ext
import Derived.MapFrom
namespace Go.Proofs.YtcfninpokngmlaaGreatDoor
open Go.RowKit Go.Maps Go.MapKept
def shV (x : Pd.Sheet) : Value := .agg #[.int .i64 (x.kind : Int), .string x.body]
def shD (x : Pd.Sheet) : DataW Unit := .agg [.lit (.int .i64 (x.kind : Int)), .lit (.string x.body.data.toList)]
def shL : List Value → Option (DataW Unit × List MemPlace)
  | [.int .i64 k, .string b] => if 0 ≤ k then some (.agg [.lit (.int .i64 k), .lit (.string b.data.toList)], []) else none
  | _ => none
def shR : Value → Option (DataW Unit × List MemPlace)
  | .agg a => shL a.toList
  | _ => none
theorem shR_mk (x : Pd.Sheet) : shR (shV x) = some (shD x, []) := by
  show (if (0 : Int) ≤ (x.kind : Int) then some _ else none) = _
  rw [if_pos (by omega)]
  rfl
theorem shR_inv {v : Value} {y : DataW Unit × List MemPlace} (h : shR v = some y) : ∃ x : Pd.Sheet, v = shV x ∧ y = (shD x, []) := by
  unfold shR at h
  split at h
  · rename_i a
    unfold shL at h
    split at h
    · rename_i k b e
      split at h
      · rename_i hk
        obtain ⟨n, rfl⟩ := Int.eq_ofNat_of_zero_le hk
        refine ⟨⟨n, b⟩, ?_, ?_⟩
        · unfold shV
          rw [← Array.toArray_toList (xs := a), e]
        · cases h
          rfl
      · cases h
    · cases h
  · cases h
theorem shD_inj {x y : Pd.Sheet} (h : shD x = shD y) : x = y := by
  obtain ⟨k, b⟩ := x
  obtain ⟨k', b'⟩ := y
  unfold shD at h
  simp only [DataW.agg.injEq, List.cons.injEq, DataW.lit.injEq, Lit.int.injEq, Lit.string.injEq, and_true, true_and] at h
  have h1 : k = k' := by omega
  have h2 : b = b' := Wl.ext_list h.2
  rw [h1, h2]
def keyL (i : Nat) : Lit := .int .i64 (i : Int)
theorem keyL_inj {i j : Nat} (h : keyL i = keyL j) : i = j := by
  unfold keyL at h
  simp only [Lit.int.injEq, true_and] at h
  omega
def dM (m : Pd.Mp) : DataW Unit := .map (m.map fun p => (keyL p.1, shD p.2))
theorem same_key (i j : Nat) : (keyL i).sameKey (keyL j) = decide (i = j) := by
  show decide (IntKind.i64 = IntKind.i64 ∧ (i : Int) = (j : Int)) = _
  by_cases h : i = j
  · rw [decide_eq_true h, decide_eq_true ⟨rfl, by omega⟩]
  · rw [decide_eq_false h, decide_eq_false (fun e => h (by omega))]
theorem before_key (i j : Nat) : (keyL i).before (keyL j) = decide (i < j) := by
  show decide ((i : Int) < (j : Int)) = _
  by_cases h : i < j
  · rw [decide_eq_true h, decide_eq_true (by omega)]
  · rw [decide_eq_false h, decide_eq_false (by omega)]
theorem isKey (i : Nat) : WideAt.IsKeyLit (keyL i) := trivial
def strike (i : Nat) (m : Pd.Mp) : Pd.Mp := m.filter fun p => !decide (p.1 = i)
theorem strike_map (i : Nat) (m : Pd.Mp) : (m.map fun p => (keyL p.1, shD p.2)).filter (fun p => !p.1.sameKey (keyL i)) = (strike i m).map fun p => (keyL p.1, shD p.2) := by
  unfold strike
  rw [List.filter_map]
  refine congrArg _ (List.filter_congr fun p _ => ?_)
  show (!(keyL p.1).sameKey (keyL i)) = _
  rw [same_key]
theorem strike_none {i : Nat} : ∀ {m : Pd.Mp}, (∀ p ∈ m, p.1 ≠ i) → strike i m = m := fun {m} h => by
  unfold strike
  refine List.filter_eq_self.2 fun p hp => ?_
  rw [decide_eq_false (h p hp)]
  rfl
theorem insert_set (i : Nat) (x : Pd.Sheet) : ∀ (m : Pd.Mp), Pd.Up m → DataW.insert (keyL i, shD x) ((strike i m).map fun p => (keyL p.1, shD p.2)) = (Pd.set m i x).map fun p => (keyL p.1, shD p.2)
  | [], _ => rfl
  | q :: m, h => by
    have h1 := (List.pairwise_cons.1 h).1
    have h2 : Pd.Up m := (List.pairwise_cons.1 h).2
    unfold Pd.set
    by_cases hlt : i < q.1
    · rw [if_pos hlt, strike_none (fun p hp => by
        rcases List.mem_cons.1 hp with rfl | hp
        · omega
        · have := h1 p hp; omega)]
      show (if (keyL i).before (keyL q.1) then _ else _) = _
      rw [before_key, decide_eq_true hlt, if_pos rfl]
      rfl
    · rw [if_neg hlt]
      by_cases he : q.1 = i
      · rw [if_pos he]
        have e : strike i (q :: m) = m := by
          unfold strike
          rw [List.filter_cons_of_neg (by rw [decide_eq_true he]; decide)]
          exact strike_none (fun p hp => by have := h1 p hp; omega)
        rw [e]
        cases m with
        | nil => rfl
        | cons r m =>
          have := h1 r List.mem_cons_self
          show (if (keyL i).before (keyL r.1) then _ else _) = _
          rw [before_key, decide_eq_true (by omega), if_pos rfl]
          rfl
      · rw [if_neg he]
        have e : strike i (q :: m) = q :: strike i m := by
          unfold strike
          rw [List.filter_cons_of_pos (by rw [decide_eq_false he]; rfl)]
        rw [e]
        show (if (keyL i).before (keyL q.1) then _ else _) = _
        rw [before_key, decide_eq_false hlt, if_neg (by decide)]
        show (keyL q.1, shD q.2) :: DataW.insert (keyL i, shD x) ((strike i m).map fun p => (keyL p.1, shD p.2)) = _
        rw [insert_set i x m h2]
        rfl
theorem put_dM {m : Pd.Mp} (h : Pd.Up m) (i : Nat) (x : Pd.Sheet) : (dM m).put (keyL i) (shD x) = dM (Pd.set m i x) := by
  show DataW.map (DataW.insert (keyL i, shD x) ((m.map fun p => (keyL p.1, shD p.2)).filter fun p => !p.1.sameKey (keyL i))) = _
  rw [strike_map, insert_set i x m h]
  rfl
theorem find_dM (i : Nat) : ∀ (m : Pd.Mp), (m.map fun p => (keyL p.1, shD p.2)).find? (fun p => p.1.sameKey (keyL i)) = (Pd.get m i).map fun x => (keyL i, shD x)
  | [] => rfl
  | q :: m => by
    rw [List.map_cons, List.find?_cons]
    show (match (keyL q.1).sameKey (keyL i) with | true => _ | false => _) = _
    rw [same_key]
    unfold Pd.get
    by_cases h : q.1 = i
    · rw [decide_eq_true h, if_pos h, h]
      rfl
    · rw [decide_eq_false h, if_neg h]
      exact find_dM i m
theorem at_dM (m : Pd.Mp) (i : Nat) (z : DataW Unit) : (dM m).atKey (keyL i) z = match Pd.get m i with | some x => shD x | none => z := by
  unfold dM DataW.atKey
  simp only
  rw [find_dM]
  cases Pd.get m i <;> rfl
theorem has_dM (m : Pd.Mp) (i : Nat) : Maps.has (dM m) (keyL i) = (Pd.get m i).isSome := by
  show (m.map fun p => (keyL p.1, shD p.2)).any (fun p => p.1.sameKey (keyL i)) = _
  have e : ∀ (l : List (Lit × DataW Unit)) (f : Lit × DataW Unit → Bool), l.any f = (l.find? f).isSome := fun l f => by
    induction l with
    | nil => rfl
    | cons x l ih =>
      rw [List.any_cons, List.find?_cons, ih]
      cases f x <;> rfl
  rw [e, find_dM]
  cases Pd.get m i <;> rfl
theorem size_dM (m : Pd.Mp) : Maps.size (dM m) = m.length := by
  show (m.map fun p => (keyL p.1, shD p.2)).length = _
  rw [List.length_map]
theorem has_key {m : Pd.Mp} {kl : Lit} (h : Maps.has (dM m) kl = true) : ∃ p ∈ m, kl = keyL p.1 := by
  have h : (m.map fun p => (keyL p.1, shD p.2)).any (fun p => p.1.sameKey kl) = true := h
  obtain ⟨q, hq, hs⟩ := List.any_eq_true.1 h
  obtain ⟨p, hp, rfl⟩ := List.mem_map.1 hq
  exact ⟨p, hp, (WideAt.sameKey_eq hs).symm⟩
/- block b is a map that has these pages -/
structure MpAt (w : World) (b : Nat) (m : Pd.Mp) : Prop where
  up : Pd.Up m
  own : w.ownsMap Tryz.prog 3 shR b m.length (dM m)
theorem own_exact {w : World} {b n : Nat} {m : Pd.Mp} (h : w.ownsMap Tryz.prog 3 shR b n (dM m)) : w.ownsMap Tryz.prog 3 shR b m.length (dM m) := by
  obtain ⟨es, clock, hb, F, hs, hD⟩ := h
  refine ⟨es, clock, hb, F, ?_, hD⟩
  have h1 := congrArg Maps.size hD
  rw [size_dM] at h1
  rw [h1]
  show es.size ≤ _
  rw [show Maps.size (DataW.map ((es.toList.map (WideElems.rg Tryz.prog 3 shR)).foldr DataW.insert [])) = ((es.toList.map (WideElems.rg Tryz.prog 3 shR)).foldr DataW.insert []).length from rfl, length_read]
  exact Nat.le_refl _
theorem MpAt.lt {w : World} {b : Nat} {m : Pd.Mp} (h : MpAt w b m) : b < w.heap.size := h.own.lt
theorem MpAt.keep {w w' : World} {b : Nat} {m : Pd.Mp} (h : MpAt w b m) (hb : w'.heap[b]? = w.heap[b]?) : MpAt w' b m := by
  obtain ⟨es, clock, hb0, F, hs, hD⟩ := h.own
  exact ⟨h.up, es, clock, hb.trans hb0, F, hs, hD⟩
theorem MpAt.chg {w w' : World} {b : Nat} {m : Pd.Mp} (h : MpAt w b m) {fs : List Nat} (hc : Chg fs w w') (ha : b ∉ fs) : MpAt w' b m := h.keep (hc.block b h.lt ha)
theorem MpAt.below {w w' : World} {b : Nat} {m : Pd.Mp} (h : MpAt w b m) (hB : Below w.heap.size w w') : MpAt w' b m := h.keep (hB.block b h.lt)
theorem MpAt.alloc {w : World} {b : Nat} {m : Pd.Mp} (h : MpAt w b m) (o : Obj) : MpAt (w.alloc o) b m := ⟨h.up, h.own.alloc o⟩
theorem MpAt.made (w : World) : MpAt (w.alloc (.map #[] 0)) w.heap.size [] := ⟨Pd.up_nil, World.ownsMap_made w Tryz.prog 3 shR⟩
theorem lawI : Keyed Tryz.prog 3 := int_keyed Tryz.underlying3
theorem wfI {i : Nat} (h : i ≤ 9223372036854775807) : (Lit.int .i64 (i : Int)).wf = true := WalkArith.wf_i64 (by omega)
theorem keyI {i : Nat} (h : i ≤ 9223372036854775807) : keyOf Tryz.prog 3 (.int .i64 (i : Int)) = some (keyL i) := keyOf_int_mk Tryz.underlying3 (wfI h)
def sh00 : Pd.Sheet := ⟨0, Pd.none0⟩
theorem zeroSh (w : World) : (zeroValue 102).run Tryz.prog w = .ok (shV sh00) w := by kernel_rfl
/- laws for the walk -/
section
variable (w : World) {ops : Array Oper} {rest : List Oper} {o : Oper} {a : Act} {Q : Exit → Act → World → Prop}
theorem mp_look_ok (hg : o.guard = none) (mo x : Operand) (hop : o.op = Op.lookup 59 mo x true) (b : Nat) (m : Pd.Mp) (hm : a.eval mo = .map (some b)) (hM : MpAt w b m) (i : Nat) (hi : i ≤ 9223372036854775807) (hx : a.eval x = .int .i64 (i : Int))
    (hK : wpList Tryz.prog ops Q rest (a.put o.dst (.tuple #[shV ((Pd.get m i).getD sh00), .bool (Pd.get m i).isSome])) w) : wpList Tryz.prog ops Q (o :: rest) a w := by
  refine wpList_lookup_own_ok w hg mo x 59 hop 3 102 lawI Tryz.underlying59 shR (zeroSh w) (shD sh00) [] (shR_mk sh00) b m.length (dM m) hm hM.own _ (keyL i) hx (keyI hi) (fun v ps hv => ?_)
  obtain ⟨y, rfl, hy⟩ := shR_inv hv
  rw [has_dM]
  rw [at_dM] at hy
  have e : y = (Pd.get m i).getD sh00 := by
    cases hg : Pd.get m i with
    | none => rw [hg] at hy; exact (shD_inj (congrArg Prod.fst hy)).symm
    | some z => rw [hg] at hy; exact (shD_inj (congrArg Prod.fst hy)).symm
  rw [e]
  exact hK
theorem mp_look (hg : o.guard = none) (mo x : Operand) (hop : o.op = Op.lookup 59 mo x false) (b : Nat) (m : Pd.Mp) (hm : a.eval mo = .map (some b)) (hM : MpAt w b m) (i : Nat) (hi : i ≤ 9223372036854775807) (hx : a.eval x = .int .i64 (i : Int))
    (hK : wpList Tryz.prog ops Q rest (a.put o.dst (shV ((Pd.get m i).getD sh00))) w) : wpList Tryz.prog ops Q (o :: rest) a w := by
  refine wpList_plain hg fun K' hK' => ?_
  obtain ⟨v, ps, hrun, hv⟩ := hM.own.lookup lawI Tryz.underlying59 (zeroSh w) (shR_mk sh00) (keyI hi)
  obtain ⟨y, rfl, hy⟩ := shR_inv hv
  rw [at_dM] at hy
  have e : y = (Pd.get m i).getD sh00 := by
    cases hg : Pd.get m i with
    | none => rw [hg] at hy; exact (shD_inj (congrArg Prod.fst hy)).symm
    | some z => rw [hg] at hy; exact (shD_inj (congrArg Prod.fst hy)).symm
  rw [e] at hrun
  unfold Oper.wp
  simp [execOp, hop, hm, hx, hrun, Result.andThen]
  exact hK' _ _ hK
theorem mp_put (hg : o.guard = none) (mo x v : Operand) (hop : o.op = Op.mapUpdate 59 mo x v) (b : Nat) (m : Pd.Mp) (hm : a.eval mo = .map (some b)) (hM : MpAt w b m) (hl : m.length ≤ 100000) (i : Nat) (hi : i ≤ 9223372036854775807) (hx : a.eval x = .int .i64 (i : Int)) (y : Pd.Sheet) (hv : a.eval v = shV y)
    (hK : ∀ w', MpAt w' b (Pd.set m i y) → w.grownBy w' (some b) → wpList Tryz.prog ops Q rest (a.put o.dst undef) w') : wpList Tryz.prog ops Q (o :: rest) a w := by
  refine wpList_mapUpdate_own w hg mo x v 59 hop 3 102 lawI Tryz.underlying59 shR b m.length (dM m) hm hM.own (by unfold maxLen; omega) _ _ (keyL i) hx hv (keyI hi) (shD y) [] (shR_mk y) (fun w' ho hg => ?_)
  rw [put_dM hM.up] at ho
  exact hK w' ⟨hM.up.set y i, own_exact ho⟩ hg
theorem mp_len (hg : o.guard = none) (mo : Operand) (hop : o.op = Op.call { callee := Callee.builtin Builtin.len, args := #[mo], argTypes := #[59] }) (b : Nat) (m : Pd.Mp) (hm : a.eval mo = .map (some b)) (hM : MpAt w b m)
    (hK : wpList Tryz.prog ops Q rest (a.put o.dst (.int .i64 (m.length : Int))) w) : wpList Tryz.prog ops Q (o :: rest) a w := by
  refine wpList_len_own w hg mo 59 hop 3 102 Tryz.underlying59 shR b m.length (dM m) hm hM.own ?_
  rw [size_dM]
  exact hK
theorem mp_clear (hg : o.guard = none) (mo : Operand) (hop : o.op = Op.call { callee := Callee.builtin Builtin.clear, args := #[mo], argTypes := #[59] }) (b : Nat) (m : Pd.Mp) (hm : a.eval mo = .map (some b)) (hM : MpAt w b m)
    (hK : ∀ w', MpAt w' b [] → w.grownBy w' (some b) → wpList Tryz.prog ops Q rest (a.put o.dst (.tuple #[])) w') : wpList Tryz.prog ops Q (o :: rest) a w := by
  refine wpList_plain hg fun K' hK' => ?_
  obtain ⟨es, clock, hb, F, hs, hD⟩ := hM.own
  have hst := heap_set (o' := .map #[] clock) hb
  unfold Oper.wp
  simp [execOp, hop, resolve, invoke, builtin, hm, Builtin.clear_, run_underlying Tryz.underlying59, Go.MapKept.run_getObj_map hb, Go.MapKept.run_setObj_map _ hb, Result.andThen]
  refine hK' _ _ (hK _ ⟨Pd.up_nil, #[], clock, hst.1, ⟨by simp, stamped_empty clock, by simp⟩, Nat.le_refl _, rfl⟩ ⟨rfl, rfl, rfl, by simp, fun i _ hi => hst.2 i (fun e => hi (by rw [e]))⟩)
end
end Go.Proofs.YtcfninpokngmlaaGreatDoor
