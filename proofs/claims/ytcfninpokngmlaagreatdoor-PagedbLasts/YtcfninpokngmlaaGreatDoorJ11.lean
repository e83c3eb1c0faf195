/- Proved: a map of pages in memory: what it tells, and how it is turned. -/
import Derived.Test.YtcfninpokngmlaaGreatDoorJ04
import Derived.Test.YtcfninpokngmlaaGreatDoorJ03
import Derived.Maps.OwnOps
import Derived.Maps.OwnSet
import Derived.Maps.RangeWalk
import Derived.Maps.Ext
import Derived.MapFrom
import Derived.Test.YtcfninpokngmlaaGreatDoorJ10
import Derived.LoopN
import Derived.Handy
namespace Go.Proofs.YtcfninpokngmlaaGreatDoor
open Go.RowKit Go.Maps Go.MapKept
def shV (x : Pd.Sheet) : Value := .agg #[.int .i64 (x.kind : Int), .string x.body]
def shD (x : Pd.Sheet) : DataW Unit := .agg [.lit (.int .i64 (x.kind : Int)), .lit (.string x.body.data.toList)]
def shL : List Value → Option (DataW Unit × List MemPlace)
  | [.int .i64 k, .string b] => if 0 ≤ k then some (.agg [.lit (.int .i64 k), .lit (.string b.data.toList)], []) else none
  | _ => none
def shR : Value → Option (DataW Unit × List MemPlace)
  | .agg a => shL a.toList
  | _ => none
theorem shR_mk (x : Pd.Sheet) : shR (shV x) = some (shD x, []) := by
  show (if (0 : Int) ≤ (x.kind : Int) then some _ else none) = _
  rw [if_pos (by omega)]
  rfl
theorem shR_inv {v : Value} {y : DataW Unit × List MemPlace} (h : shR v = some y) : ∃ x : Pd.Sheet, v = shV x ∧ y = (shD x, []) := by
  unfold shR at h
  split at h
  · rename_i a
    unfold shL at h
    split at h
    · rename_i k b e
      split at h
      · rename_i hk
        obtain ⟨n, rfl⟩ := Int.eq_ofNat_of_zero_le hk
        refine ⟨⟨n, b⟩, ?_, ?_⟩
        · unfold shV
          rw [← Array.toArray_toList (xs := a), e]
        · cases h
          rfl
      · cases h
    · cases h
  · cases h
theorem shD_inj {x y : Pd.Sheet} (h : shD x = shD y) : x = y := by
  obtain ⟨k, b⟩ := x
  obtain ⟨k', b'⟩ := y
  unfold shD at h
  simp only [DataW.agg.injEq, List.cons.injEq, DataW.lit.injEq, Lit.int.injEq, Lit.string.injEq, and_true, true_and] at h
  have h1 : k = k' := by omega
  have h2 : b = b' := Wl.ext_list h.2
  rw [h1, h2]
def keyL (i : Nat) : Lit := .int .i64 (i : Int)
theorem keyL_inj {i j : Nat} (h : keyL i = keyL j) : i = j := by
  unfold keyL at h
  simp only [Lit.int.injEq, true_and] at h
  omega
def dM (m : Pd.Mp) : DataW Unit := .map (m.map fun p => (keyL p.1, shD p.2))
theorem same_key (i j : Nat) : (keyL i).sameKey (keyL j) = decide (i = j) := by
  show decide (IntKind.i64 = IntKind.i64 ∧ (i : Int) = (j : Int)) = _
  by_cases h : i = j
  · rw [decide_eq_true h, decide_eq_true ⟨rfl, by omega⟩]
  · rw [decide_eq_false h, decide_eq_false (fun e => h (by omega))]
theorem before_key (i j : Nat) : (keyL i).before (keyL j) = decide (i < j) := by
  show decide ((i : Int) < (j : Int)) = _
  by_cases h : i < j
  · rw [decide_eq_true h, decide_eq_true (by omega)]
  · rw [decide_eq_false h, decide_eq_false (by omega)]
theorem isKey (i : Nat) : WideAt.IsKeyLit (keyL i) := trivial
def strike (i : Nat) (m : Pd.Mp) : Pd.Mp := m.filter fun p => !decide (p.1 = i)
theorem strike_map (i : Nat) (m : Pd.Mp) : (m.map fun p => (keyL p.1, shD p.2)).filter (fun p => !p.1.sameKey (keyL i)) = (strike i m).map fun p => (keyL p.1, shD p.2) := by
  unfold strike
  rw [List.filter_map]
  refine congrArg _ (List.filter_congr fun p _ => ?_)
  show (!(keyL p.1).sameKey (keyL i)) = _
  rw [same_key]
theorem strike_none {i : Nat} : ∀ {m : Pd.Mp}, (∀ p ∈ m, p.1 ≠ i) → strike i m = m := fun {m} h => by
  unfold strike
  refine List.filter_eq_self.2 fun p hp => ?_
  rw [decide_eq_false (h p hp)]
  rfl
theorem insert_set (i : Nat) (x : Pd.Sheet) : ∀ (m : Pd.Mp), Pd.Up m → DataW.insert (keyL i, shD x) ((strike i m).map fun p => (keyL p.1, shD p.2)) = (Pd.set m i x).map fun p => (keyL p.1, shD p.2)
  | [], _ => rfl
  | q :: m, h => by
    have h1 := (List.pairwise_cons.1 h).1
    have h2 : Pd.Up m := (List.pairwise_cons.1 h).2
    unfold Pd.set
    by_cases hlt : i < q.1
    · rw [if_pos hlt, strike_none (fun p hp => by
        rcases List.mem_cons.1 hp with rfl | hp
        · omega
        · have := h1 p hp; omega)]
      show (if (keyL i).before (keyL q.1) then _ else _) = _
      rw [before_key, decide_eq_true hlt, if_pos rfl]
      rfl
    · rw [if_neg hlt]
      by_cases he : q.1 = i
      · rw [if_pos he]
        have e : strike i (q :: m) = m := by
          unfold strike
          rw [List.filter_cons_of_neg (by rw [decide_eq_true he]; decide)]
          exact strike_none (fun p hp => by have := h1 p hp; omega)
        rw [e]
        cases m with
        | nil => rfl
        | cons r m =>
          have := h1 r List.mem_cons_self
          show (if (keyL i).before (keyL r.1) then _ else _) = _
          rw [before_key, decide_eq_true (by omega), if_pos rfl]
          rfl
      · rw [if_neg he]
        have e : strike i (q :: m) = q :: strike i m := by
          unfold strike
          rw [List.filter_cons_of_pos (by rw [decide_eq_false he]; rfl)]
        rw [e]
        show (if (keyL i).before (keyL q.1) then _ else _) = _
        rw [before_key, decide_eq_false hlt, if_neg (by decide)]
        show (keyL q.1, shD q.2) :: DataW.insert (keyL i, shD x) ((strike i m).map fun p => (keyL p.1, shD p.2)) = _
        rw [insert_set i x m h2]
        rfl
theorem put_dM {m : Pd.Mp} (h : Pd.Up m) (i : Nat) (x : Pd.Sheet) : (dM m).put (keyL i) (shD x) = dM (Pd.set m i x) := by
  show DataW.map (DataW.insert (keyL i, shD x) ((m.map fun p => (keyL p.1, shD p.2)).filter fun p => !p.1.sameKey (keyL i))) = _
  rw [strike_map, insert_set i x m h]
  rfl
theorem find_dM (i : Nat) : ∀ (m : Pd.Mp), (m.map fun p => (keyL p.1, shD p.2)).find? (fun p => p.1.sameKey (keyL i)) = (Pd.get m i).map fun x => (keyL i, shD x)
  | [] => rfl
  | q :: m => by
    rw [List.map_cons, List.find?_cons]
    show (match (keyL q.1).sameKey (keyL i) with | true => _ | false => _) = _
    rw [same_key]
    unfold Pd.get
    by_cases h : q.1 = i
    · rw [decide_eq_true h, if_pos h, h]
      rfl
    · rw [decide_eq_false h, if_neg h]
      exact find_dM i m
theorem at_dM (m : Pd.Mp) (i : Nat) (z : DataW Unit) : (dM m).atKey (keyL i) z = match Pd.get m i with | some x => shD x | none => z := by
  unfold dM DataW.atKey
  simp only
  rw [find_dM]
  cases Pd.get m i <;> rfl
theorem has_dM (m : Pd.Mp) (i : Nat) : Maps.has (dM m) (keyL i) = (Pd.get m i).isSome := by
  show (m.map fun p => (keyL p.1, shD p.2)).any (fun p => p.1.sameKey (keyL i)) = _
  have e : ∀ (l : List (Lit × DataW Unit)) (f : Lit × DataW Unit → Bool), l.any f = (l.find? f).isSome := fun l f => by
    induction l with
    | nil => rfl
    | cons x l ih =>
      rw [List.any_cons, List.find?_cons, ih]
      cases f x <;> rfl
  rw [e, find_dM]
  cases Pd.get m i <;> rfl
theorem size_dM (m : Pd.Mp) : Maps.size (dM m) = m.length := by
  show (m.map fun p => (keyL p.1, shD p.2)).length = _
  rw [List.length_map]
theorem has_key {m : Pd.Mp} {kl : Lit} (h : Maps.has (dM m) kl = true) : ∃ p ∈ m, kl = keyL p.1 := by
  have h : (m.map fun p => (keyL p.1, shD p.2)).any (fun p => p.1.sameKey kl) = true := h
  obtain ⟨q, hq, hs⟩ := List.any_eq_true.1 h
  obtain ⟨p, hp, rfl⟩ := List.mem_map.1 hq
  exact ⟨p, hp, (WideAt.sameKey_eq hs).symm⟩
/- block b is a map that has these pages -/
structure MpAt (w : World) (b : Nat) (m : Pd.Mp) : Prop where
  up : Pd.Up m
  own : w.ownsMap Tryz.prog 3 shR b m.length (dM m)
theorem own_exact {w : World} {b n : Nat} {m : Pd.Mp} (h : w.ownsMap Tryz.prog 3 shR b n (dM m)) : w.ownsMap Tryz.prog 3 shR b m.length (dM m) := by
  obtain ⟨es, clock, hb, F, hs, hD⟩ := h
  refine ⟨es, clock, hb, F, ?_, hD⟩
  have h1 := congrArg Maps.size hD
  rw [size_dM] at h1
  rw [h1]
  show es.size ≤ _
  rw [show Maps.size (DataW.map ((es.toList.map (WideElems.rg Tryz.prog 3 shR)).foldr DataW.insert [])) = ((es.toList.map (WideElems.rg Tryz.prog 3 shR)).foldr DataW.insert []).length from rfl, length_read]
  exact Nat.le_refl _
theorem MpAt.lt {w : World} {b : Nat} {m : Pd.Mp} (h : MpAt w b m) : b < w.heap.size := h.own.lt
theorem MpAt.keep {w w' : World} {b : Nat} {m : Pd.Mp} (h : MpAt w b m) (hb : w'.heap[b]? = w.heap[b]?) : MpAt w' b m := by
  obtain ⟨es, clock, hb0, F, hs, hD⟩ := h.own
  exact ⟨h.up, es, clock, hb.trans hb0, F, hs, hD⟩
theorem MpAt.chg {w w' : World} {b : Nat} {m : Pd.Mp} (h : MpAt w b m) {fs : List Nat} (hc : Chg fs w w') (ha : b ∉ fs) : MpAt w' b m := h.keep (hc.block b h.lt ha)
theorem MpAt.below {w w' : World} {b : Nat} {m : Pd.Mp} (h : MpAt w b m) (hB : Below w.heap.size w w') : MpAt w' b m := h.keep (hB.block b h.lt)
theorem MpAt.alloc {w : World} {b : Nat} {m : Pd.Mp} (h : MpAt w b m) (o : Obj) : MpAt (w.alloc o) b m := ⟨h.up, h.own.alloc o⟩
theorem MpAt.made (w : World) : MpAt (w.alloc (.map #[] 0)) w.heap.size [] := ⟨Pd.up_nil, World.ownsMap_made w Tryz.prog 3 shR⟩
theorem lawI : Keyed Tryz.prog 3 := int_keyed Tryz.underlying3
theorem wfI {i : Nat} (h : i ≤ 9223372036854775807) : (Lit.int .i64 (i : Int)).wf = true := WalkArith.wf_i64 (by omega)
theorem keyI {i : Nat} (h : i ≤ 9223372036854775807) : keyOf Tryz.prog 3 (.int .i64 (i : Int)) = some (keyL i) := keyOf_int_mk Tryz.underlying3 (wfI h)
def sh00 : Pd.Sheet := ⟨0, Pd.none0⟩
theorem zeroSh (w : World) : (zeroValue 102).run Tryz.prog w = .ok (shV sh00) w := by kernel_rfl
/- laws for the walk -/
section
variable (w : World) {ops : Array Oper} {rest : List Oper} {o : Oper} {a : Act} {Q : Exit → Act → World → Prop}
theorem mp_look_ok (hg : o.guard = none) (mo x : Operand) (hop : o.op = Op.lookup 59 mo x true) (b : Nat) (m : Pd.Mp) (hm : a.eval mo = .map (some b)) (hM : MpAt w b m) (i : Nat) (hi : i ≤ 9223372036854775807) (hx : a.eval x = .int .i64 (i : Int))
    (hK : wpList Tryz.prog ops Q rest (a.put o.dst (.tuple #[shV ((Pd.get m i).getD sh00), .bool (Pd.get m i).isSome])) w) : wpList Tryz.prog ops Q (o :: rest) a w := by
  refine wpList_lookup_own_ok w hg mo x 59 hop 3 102 lawI Tryz.underlying59 shR (zeroSh w) (shD sh00) [] (shR_mk sh00) b m.length (dM m) hm hM.own _ (keyL i) hx (keyI hi) (fun v ps hv => ?_)
  obtain ⟨y, rfl, hy⟩ := shR_inv hv
  rw [has_dM]
  rw [at_dM] at hy
  have e : y = (Pd.get m i).getD sh00 := by
    cases hg : Pd.get m i with
    | none => rw [hg] at hy; exact (shD_inj (congrArg Prod.fst hy)).symm
    | some z => rw [hg] at hy; exact (shD_inj (congrArg Prod.fst hy)).symm
  rw [e]
  exact hK
theorem mp_look (hg : o.guard = none) (mo x : Operand) (hop : o.op = Op.lookup 59 mo x false) (b : Nat) (m : Pd.Mp) (hm : a.eval mo = .map (some b)) (hM : MpAt w b m) (i : Nat) (hi : i ≤ 9223372036854775807) (hx : a.eval x = .int .i64 (i : Int))
    (hK : wpList Tryz.prog ops Q rest (a.put o.dst (shV ((Pd.get m i).getD sh00))) w) : wpList Tryz.prog ops Q (o :: rest) a w := by
  refine wpList_plain hg fun K' hK' => ?_
  obtain ⟨v, ps, hrun, hv⟩ := hM.own.lookup lawI Tryz.underlying59 (zeroSh w) (shR_mk sh00) (keyI hi)
  obtain ⟨y, rfl, hy⟩ := shR_inv hv
  rw [at_dM] at hy
  have e : y = (Pd.get m i).getD sh00 := by
    cases hg : Pd.get m i with
    | none => rw [hg] at hy; exact (shD_inj (congrArg Prod.fst hy)).symm
    | some z => rw [hg] at hy; exact (shD_inj (congrArg Prod.fst hy)).symm
  rw [e] at hrun
  unfold Oper.wp
  simp [execOp, hop, hm, hx, hrun, Result.andThen]
  exact hK' _ _ hK
theorem mp_put (hg : o.guard = none) (mo x v : Operand) (hop : o.op = Op.mapUpdate 59 mo x v) (b : Nat) (m : Pd.Mp) (hm : a.eval mo = .map (some b)) (hM : MpAt w b m) (hl : m.length ≤ 100000) (i : Nat) (hi : i ≤ 9223372036854775807) (hx : a.eval x = .int .i64 (i : Int)) (y : Pd.Sheet) (hv : a.eval v = shV y)
    (hK : ∀ w', MpAt w' b (Pd.set m i y) → w.grownBy w' (some b) → wpList Tryz.prog ops Q rest (a.put o.dst undef) w') : wpList Tryz.prog ops Q (o :: rest) a w := by
  refine wpList_mapUpdate_own w hg mo x v 59 hop 3 102 lawI Tryz.underlying59 shR b m.length (dM m) hm hM.own (by unfold maxLen; omega) _ _ (keyL i) hx hv (keyI hi) (shD y) [] (shR_mk y) (fun w' ho hg => ?_)
  rw [put_dM hM.up] at ho
  exact hK w' ⟨hM.up.set y i, own_exact ho⟩ hg
theorem mp_len (hg : o.guard = none) (mo : Operand) (hop : o.op = Op.call { callee := Callee.builtin Builtin.len, args := #[mo], argTypes := #[59] }) (b : Nat) (m : Pd.Mp) (hm : a.eval mo = .map (some b)) (hM : MpAt w b m)
    (hK : wpList Tryz.prog ops Q rest (a.put o.dst (.int .i64 (m.length : Int))) w) : wpList Tryz.prog ops Q (o :: rest) a w := by
  refine wpList_len_own w hg mo 59 hop 3 102 Tryz.underlying59 shR b m.length (dM m) hm hM.own ?_
  rw [size_dM]
  exact hK
theorem mp_clear (hg : o.guard = none) (mo : Operand) (hop : o.op = Op.call { callee := Callee.builtin Builtin.clear, args := #[mo], argTypes := #[59] }) (b : Nat) (m : Pd.Mp) (hm : a.eval mo = .map (some b)) (hM : MpAt w b m)
    (hK : ∀ w', MpAt w' b [] → w.grownBy w' (some b) → wpList Tryz.prog ops Q rest (a.put o.dst (.tuple #[])) w') : wpList Tryz.prog ops Q (o :: rest) a w := by
  refine wpList_plain hg fun K' hK' => ?_
  obtain ⟨es, clock, hb, F, hs, hD⟩ := hM.own
  have hst := heap_set (o' := .map #[] clock) hb
  unfold Oper.wp
  simp [execOp, hop, resolve, invoke, builtin, hm, Builtin.clear_, run_underlying Tryz.underlying59, Go.MapKept.run_getObj_map hb, Go.MapKept.run_setObj_map _ hb, Result.andThen]
  refine hK' _ _ (hK _ ⟨Pd.up_nil, #[], clock, hst.1, ⟨by simp, stamped_empty clock, by simp⟩, Nat.le_refl _, rfl⟩ ⟨rfl, rfl, rfl, by simp, fun i _ hi => hst.2 i (fun e => hi (by rw [e]))⟩)
end
end Go.Proofs.YtcfninpokngmlaaGreatDoor
/- Proved: what pagedb's numberText, number, recordSize, isRoot and at answer. -/
namespace Go.Proofs.YtcfninpokngmlaaGreatDoor
open Go.RowKit
def zq4 : Array Value := (List.replicate 4 zv).toArray
theorem zero4 (W : World) : (zeroValue 167).run Tryz.prog W = .ok (.agg zq4) W := by kernel_rfl
theorem shr_i64 (n j : Nat) (hj : j ≤ 4) : (n : Int).fdiv (2 ^ min (8 * (j : Int)).toNat IntKind.i64.bits) = (n : Int) / 2 ^ (8 * j) := by
  have e : min (8 * (j : Int)).toNat IntKind.i64.bits = 8 * j := by
    show min (8 * (j : Int)).toNat 64 = 8 * j
    omega
  rw [e]
  exact Int.fdiv_eq_ediv_of_nonneg _ (Int.le_of_lt (Int.pow_pos (by omega)))
set_option maxHeartbeats 1000000 in
theorem ntext_any (n : Nat) (w : World) :
    Calls Tryz.prog 90 #[.int .i64 (n : Int)] w fun e w' => e = .returned (.string (Wl.put n 4)) ∧ Below w.heap.size w w' := by
  have HB0 : Hid (Below w.heap.size w (w.alloc (.cells zq4 167))) := (Below.refl _ _).alloc (Nat.le_refl _) _
  have HG : Hid ((w.alloc (.cells zq4 167)).heap[w.heap.size]? = some (.cells (List.replicate 4 zv).toArray 167 (0, 0))) := heap_alloc_new w _
  have hz := zero4
  go_enter Tryz.func90, Tryz.ntmps90
  go_wp2_with fail
  generalize World.alloc w _ = w0 at *
  go_loopw [4, 5] (fun _ s5 wr => ∃ j : Nat, j ≤ 4 ∧ s5 = .int .i64 (j : Int) ∧ wr = w0.setCells w.heap.size 0 (nc n j)) (fun _ s5 _ => 4 - (intOf s5).toNat)
  case atStart => exact ⟨0, by omega, rfl, rfl⟩
  case round =>
    obtain ⟨j, hj, rfl, hwr⟩ := hrel
    have HR : Hid ((w0.setCells w.heap.size 0 (nc n j)).heap[w.heap.size]? = some (.cells (splice (List.replicate 4 zv) 0 (nc n j)).toArray 167 (0, 0))) := setCells_splice w.heap.size 167 _ 0 _ w0 HG.out (by rw [nc_length, List.length_replicate]; omega)
    rw [← hwr] at HR
    by_cases hjk : j < 4
    · have hsl : (splice (List.replicate 4 zv) 0 (nc n j)).length = 4 := by unfold splice; rw [List.length_append, List.length_append, List.length_take, List.length_drop, nc_length, List.length_replicate]; omega
      have HFN : Hid (∃ j' : Nat, j' ≤ 4 ∧ Value.int .i64 ((j : Int) + 1) = .int .i64 (j' : Int) ∧ wr.setCell ⟨w.heap.size, j, none⟩ (.int .u8 ((n : Int) / 2 ^ (8 * j) % 256)) = w0.setCells w.heap.size 0 (nc n j')) := ⟨j + 1, by omega, by go_num, by
        rw [hwr, nc_succ, shr_num]
        have := setCells_snoc w.heap.size (.int .u8 ((n / 256 ^ j % 256 : Nat) : Int)) (nc n j) 0 w0
        rw [nc_length, Nat.zero_add] at this
        exact this⟩
      obtain ⟨u, hu⟩ : ∃ u, wr.cell? ⟨w.heap.size, j, none⟩ = some u := ⟨_, by rw [cell_of_row wr _ _ _ _ (0, 0) HR.out, Array.getElem?_eq_getElem (by rw [List.size_toArray]; omega)]⟩
      have hf : wr.frozen? ⟨w.heap.size, j, none⟩ = false := frozen_of_row wr _ _ _ _ HR.out
      have dj : decide ((j : Int) < 4) = true := decide_eq_true (by omega)
      have j0 : (0 : Int) ≤ (j : Int) := by omega
      have j1 : (j : Int) < 4 := by omega
      have hw8 : IntKind.i64.wrap (8 * (j : Int)) = 8 * (j : Int) := by rw [IntKind.wrap_i64]; omega
      have hsh := shr_i64 n j (by omega)
      clear hwr HR hsl
      go_wp2
      go_roundw
      case rel => first | exact HFN.out | ((repeat apply Exists.intro); exact ⟨HFN.out, rfl⟩)
      case measure => (simp [intOf]) <;> omega
    · obtain rfl : j = 4 := by omega
      have dj : decide (((4 : Nat) : Int) < 4) = false := decide_eq_false (by omega)
      rw [splice_all _ _ (by rw [nc_length, List.length_replicate]), nc_bc] at HR
      have hcv := str_of (x := Wl.put n 4) (range_all HR.out) 4
      rw [Wl.put_size] at hcv
      have HB1 : Hid (Below w.heap.size w wr) := by
        rw [hwr]; exact below_setCells (Nat.le_refl _) _ _ _ HB0.out
      clear hwr HR
      go_wp2
      go_ret
      exact ⟨rfl, HB1.out⟩
theorem i64_or_nat (a b : Nat) (ha : a < 4294967296) (hb : b < 4294967296) : bits .or .i64 (a : Int) (b : Int) = ((a ||| b : Nat) : Int) := by
  have hx : a ||| b < 2 ^ 32 := Nat.or_lt_two_pow (by omega) (by omega)
  show IntKind.i64.wrap ((BitVec.ofInt 64 (a : Int) ||| BitVec.ofInt 64 (b : Int)).toNat : Int) = _
  rw [BitVec.toNat_or, ofInt_u64 a (by omega), ofInt_u64 b (by omega), IntKind.wrap_i64]
  omega
theorem or_i64 (a x j : Nat) (ha : a < 256 ^ j) (hx : x < 256) (hj : j < 4) : bits .or .i64 (a : Int) (wrap64 ((x : Int) * 2 ^ (8 * j))) = ((a + 256 ^ j * x : Nat) : Int) := by
  rw [pow256] at ha ⊢
  have hp : 2 ^ (8 * j) * 256 ≤ 4294967296 := by
    have h1 : 2 ^ (8 * j) * 256 = 2 ^ (8 * j + 8) := by rw [Nat.pow_add]
    have h2 : 2 ^ (8 * j + 8) ≤ 2 ^ 32 := Nat.pow_le_pow_right (by omega) (by omega)
    rw [h1]
    exact h2
  have hx2 : 2 ^ (8 * j) * x < 4294967296 := by
    have h1 : 2 ^ (8 * j) * (x + 1) ≤ 2 ^ (8 * j) * 256 := Nat.mul_le_mul_left _ (by omega)
    have h2 := Nat.two_pow_pos (8 * j)
    rw [Nat.mul_add] at h1
    omega
  have e1 : (x : Int) * 2 ^ (8 * j) = ((2 ^ (8 * j) * x : Nat) : Int) := by push_cast; rw [Int.mul_comm]
  have e2 : wrap64 ((2 ^ (8 * j) * x : Nat) : Int) = ((2 ^ (8 * j) * x : Nat) : Int) := by unfold wrap64; omega
  have h3 : 2 ^ (8 * j) ≤ 4294967296 := by omega
  rw [e1, e2, i64_or_nat _ _ (by omega) (by omega), Nat.or_comm, ← Nat.two_pow_add_eq_or_of_lt ha, Nat.add_comm]
set_option maxHeartbeats 1000000 in
theorem dnumber_any (s : ByteArray) (w : World) (hs : 4 ≤ s.size) :
    Calls Tryz.prog 102 #[.string s] w fun e w' => e = .returned (.int .i64 (Pd.numb s : Nat)) ∧ w' = w := by
  have HZ : Hid (s.size = s.data.toList.length) := Sc.size_eq s
  go_enter Tryz.func102, Tryz.ntmps102
  go_wp2_with fail
  go_loopw [3, 4, 5] (fun s3 _ s5 wr => ∃ j : Nat, j ≤ 4 ∧ s5 = .int .i64 (j : Int) ∧ s3 = .int .i64 ((Wl.getL (s.data.toList.take j) : Nat) : Int) ∧ wr = w) (fun _ _ s5 _ => 4 - (intOf s5).toNat)
  case atStart => exact ⟨0, by omega, rfl, rfl, rfl⟩
  case round =>
    obtain ⟨j, hj, rfl, rfl, hwr⟩ := hrel
    subst hwr
    by_cases hjk : j < 4
    · have hsz := HZ.out
      obtain ⟨c, hc⟩ : ∃ c, s.data.toList[j]? = some c := ⟨_, List.getElem?_eq_getElem (by omega)⟩
      have hb : ∀ h, (s[j]'h) = c := fun h => byte_at s j c hc h
      have dj : decide ((j : Int) < 4) = true := decide_eq_true (by omega)
      have j0 : (0 : Int) ≤ (j : Int) := by omega
      have j1 : (j : Int) < (s.size : Int) := by omega
      have hg := Wl.getL_lt (s.data.toList.take j)
      rw [List.length_take, Nat.min_eq_left (by omega)] at hg
      have hsn : Wl.getL (s.data.toList.take (j + 1)) = Wl.getL (s.data.toList.take j) + 256 ^ j * c.toNat := by
        have hjl : j < s.data.toList.length := by omega
        have e := Wl.getL_split (s.data.toList.take (j + 1)) j (by rw [List.length_take]; omega)
        have hc2 := (List.getElem?_eq_some_iff.1 hc).2
        rw [List.take_take, Nat.min_eq_left (by omega), List.take_succ_eq_append_getElem hjl, List.drop_left' (by rw [List.length_take]; omega), hc2] at e
        rw [List.take_succ_eq_append_getElem hjl, hc2, e]
        simp [Wl.getL]
      have hor := or_i64 (Wl.getL (s.data.toList.take j)) c.toNat j hg c.toNat_lt (by omega)
      rw [← hsn] at hor
      have HFN : Hid (∃ j' : Nat, j' ≤ 4 ∧ Value.int .i64 ((j : Int) + 1) = .int .i64 (j' : Int) ∧ Value.int .i64 ((Wl.getL (s.data.toList.take (j + 1)) : Nat) : Int) = .int .i64 ((Wl.getL (s.data.toList.take j') : Nat) : Int)) := ⟨j + 1, by omega, by go_num, rfl⟩
      have hw8 : IntKind.i64.wrap (8 * (j : Int)) = 8 * (j : Int) := by rw [IntKind.wrap_i64]; omega
      have hwc : IntKind.i64.wrap (c.toNat : Int) = (c.toNat : Int) := by rw [IntKind.wrap_i64]; have := c.toNat_lt; omega
      clear hsn hc hsz
      generalize Wl.getL (s.data.toList.take (j + 1)) = z at *
      generalize Wl.getL (s.data.toList.take j) = y at *
      go_wp2
      go_roundw
      case rel =>
        obtain ⟨j', h1, h2, h3⟩ := HFN.out
        exact ⟨j', h1, h2, h3, trivial⟩
      case measure => (simp [intOf]) <;> omega
    · obtain rfl : j = 4 := by omega
      have dj : decide (((4 : Nat) : Int) < 4) = false := decide_eq_false (by omega)
      have HE : Hid (Wl.getL (s.data.toList.take 4) = Pd.numb s) := rfl
      generalize Wl.getL (s.data.toList.take 4) = z at *
      go_wp2
      go_ret
      exact ⟨by rw [HE.out]; rfl, rfl⟩
theorem rsize_any (k : Nat) (w : World) (hk : k ≤ 100000) :
    Calls Tryz.prog 91 #[.int .i64 (k : Int)] w fun e w' => e = .returned (.int .i64 ((4 + 516 * k : Nat) : Int)) ∧ w' = w := by
  have h1 : IntKind.i64.wrap (516 * (k : Int)) = 516 * (k : Int) := by rw [IntKind.wrap_i64]; omega
  have h2 : IntKind.i64.wrap (4 + 516 * (k : Int)) = ((4 + 516 * k : Nat) : Int) := by rw [IntKind.wrap_i64]; omega
  go_enter Tryz.func91, Tryz.ntmps91
  go_wp2
  go_ret
  refine ⟨?_, rfl⟩
  first | rfl | (congr 2; omega)
def isR (i : Int) : Bool := decide (0 ≤ i) && decide (i < 4)
theorem isroot_any (i : Int) (w : World) :
    Calls Tryz.prog 52 #[.int .i64 i] w fun e w' => e = .returned (.bool (isR i)) ∧ w' = w := by
  unfold isR
  by_cases h1 : 0 ≤ i
  · have d1 : decide (0 ≤ i) = true := decide_eq_true h1
    have d1' : decide (i ≥ 0) = true := decide_eq_true h1
    by_cases h2 : i < 4
    · have d2 : decide (i < 4) = true := decide_eq_true h2
      go_enter Tryz.func52, Tryz.ntmps52
      go_wp2
      go_ret
      exact ⟨by first | rfl | (rw [d1, d2]; rfl), rfl⟩
    · have d2 : decide (i < 4) = false := decide_eq_false h2
      go_enter Tryz.func52, Tryz.ntmps52
      go_wp2
      go_ret
      exact ⟨by first | rfl | (rw [d1, d2]; rfl), rfl⟩
  · have d1 : decide (0 ≤ i) = false := decide_eq_false h1
    have d1' : decide (i ≥ 0) = false := decide_eq_false h1
    go_enter Tryz.func52, Tryz.ntmps52
    go_wp2
    go_ret
    exact ⟨by first | rfl | (rw [d1]; rfl), rfl⟩
end Go.Proofs.YtcfninpokngmlaaGreatDoor
/- Proved: what pagedb's sealed, freeSheet, readFree, and its states' sound, sheet and readState answer. -/
namespace Go.Proofs.YtcfninpokngmlaaGreatDoor
open Go.RowKit
def shA (x : Pd.Sheet) : Array Value := #[.int .i64 (x.kind : Int), .string x.body]
def stA (t : Pd.Stt) : Array Value := #[.int .i64 (t.high : Int), .int .i64 (t.free : Int), .int .i64 (t.last : Int), .int .i64 (t.r0 : Int), .int .i64 (t.r1 : Int), .int .i64 (t.r2 : Int), .int .i64 (t.r3 : Int)]
def stV (t : Pd.Stt) : Value := .agg (stA t)
theorem sizeSh : (Tryz.prog.info? 102).map (·.size) = some 2 := by kernel_rfl
theorem sizeSt : (Tryz.prog.info? 58).map (·.size) = some 7 := by kernel_rfl
theorem row2 {w : World} {g t : Nat} {a b : Value} (h : w.heap[g]? = some (.cells #[a, b] t (0, 0))) (x y : Value) : ((w.setCell ⟨g, 0, none⟩ x).setCell ⟨g, 1, none⟩ y).heap[g]? = some (.cells #[x, y] t (0, 0)) := setCells_splice g t [x, y] 0 [a, b] w h (by simp)
theorem row7 {w : World} {g t : Nat} {a0 a1 a2 a3 a4 a5 a6 : Value} (h : w.heap[g]? = some (.cells #[a0, a1, a2, a3, a4, a5, a6] t (0, 0))) (x0 x1 x2 x3 x4 x5 x6 : Value) : (w.setCells g 0 [x0, x1, x2, x3, x4, x5, x6]).heap[g]? = some (.cells #[x0, x1, x2, x3, x4, x5, x6] t (0, 0)) := setCells_splice g t [x0, x1, x2, x3, x4, x5, x6] 0 [a0, a1, a2, a3, a4, a5, a6] w h (by simp)
theorem results_sh {fn : Func} {p : Tmp} (h : fn.results = #[.cell p 102]) (tmps : Array Value) (w : World) (g t : Nat) (x y : Value) (hp : tmps.getD p undef = .pointer (some ⟨g, 0, none⟩)) (hg : w.heap[g]? = some (.cells #[x, y] t (0, 0))) :
    (results fn tmps).run Tryz.prog w = .ok (.agg #[x, y]) w := results_cell_row h tmps w g t #[x, y] (0, 0) _ hp hg Tryz.underlying102 rfl sizeSh
theorem results_she {fn : Func} {p u : Tmp} (h : fn.results = #[.cell p 102, .tmp u]) (tmps : Array Value) (w : World) (g t : Nat) (x y v : Value) (hp : tmps.getD p undef = .pointer (some ⟨g, 0, none⟩)) (hv : tmps.getD u undef = v) (hg : w.heap[g]? = some (.cells #[x, y] t (0, 0))) :
    (results fn tmps).run Tryz.prog w = .ok (.tuple #[.agg #[x, y], v]) w := by
  have hp' : tmps[p]?.getD undef = .pointer (some ⟨g, 0, none⟩) := by simpa using hp
  have hv' : tmps[u]?.getD undef = v := by simpa using hv
  simp [results, h, hp', hv', asAddr, run_loadVar_row w g t 102 #[x, y] (0, 0) _ hg Tryz.underlying102 rfl sizeSh]
theorem results_stb {fn : Func} {p u : Tmp} (h : fn.results = #[.cell p 58, .tmp u]) (tmps : Array Value) (w : World) (g t : Nat) (s : Pd.Stt) (v : Value) (hp : tmps.getD p undef = .pointer (some ⟨g, 0, none⟩)) (hv : tmps.getD u undef = v) (hg : w.heap[g]? = some (.cells (stA s) t (0, 0))) :
    (results fn tmps).run Tryz.prog w = .ok (.tuple #[stV s, v]) w := by
  have hp' : tmps[p]?.getD undef = .pointer (some ⟨g, 0, none⟩) := by simpa using hp
  have hv' : tmps[u]?.getD undef = v := by simpa using hv
  have hl := run_loadVar_row w g t 58 (stA s) (0, 0) _ hg Tryz.underlying58 rfl sizeSt
  unfold stV
  simp [results, h, hp', hv', asAddr, hl]
set_option maxHeartbeats 1000000 in
theorem sealed_any (id : Nat) (x : Pd.Sheet) (w : World) (hT : Tab w) (hx : x.Fine) (hi : id ≤ 2147483647) :
    Calls Tryz.prog 105 #[.int .i64 (id : Int), shV x] w fun e w' => e = .returned (.string (Pd.pageOf id x)) ∧ Below w.heap.size w w' := by
  have HT : Hid (Tab w) := hT
  have HB0 : Hid (Below w.heap.size w (w.alloc (.cells (shA x) 102))) := (Below.refl _ _).alloc (Nat.le_refl _) _
  have HS : Hid (Calls Tryz.prog 117 #[.int .i64 (id : Int), .int .i64 (x.kind : Int), .string x.body] (w.alloc (.cells (shA x) 102)) fun e w' => e = .returned (.tuple #[.string (Pd.pageOf id x), .int .i64 (Pg.sealE (id : Int) (x.kind : Int) x.body)]) ∧ Below (w.alloc (.cells (shA x) 102)).heap.size (w.alloc (.cells (shA x) 102)) w') := by
    have := seal_any (id : Int) (x.kind : Int) x.body (w.alloc (.cells (shA x) 102)) (hT.below HB0.out hT.pos)
    rw [Pd.pageOf_seal hx hi] at this
    exact this
  have h0 : (w.alloc (.cells (shA x) 102)).cell? ⟨w.heap.size, 0, none⟩ = some (.int .i64 (x.kind : Int)) := cell_of_row _ _ _ _ _ (0, 0) (heap_alloc_new w _)
  have h1 : (w.alloc (.cells (shA x) 102)).cell? ⟨w.heap.size, 1, none⟩ = some (.string x.body) := cell_of_row _ _ _ _ _ (0, 0) (heap_alloc_new w _)
  generalize Pg.sealE (id : Int) (x.kind : Int) x.body = e0 at *
  generalize Pd.pageOf id x = pg at *
  clear hT hx
  unfold shV
  change Calls Tryz.prog 105 #[.int .i64 (id : Int), .agg (shA x)] w _
  go_enter Tryz.func105, Tryz.ntmps105
  go_wp2_with (first | (generalize World.alloc w _ = w0 at *; fail) | fail)
  generalize World.alloc w _ = w0 at *
  go_wp2_with fail
  refine HS.out.mono ?_
  rintro e w1 ⟨rfl, hB1⟩
  have HB1 : Hid (Below w.heap.size w w1) := below_next HB0.out hB1 HB0.out.size
  clear hB1 HS
  go_wp2
  go_ret
  exact ⟨rfl, HB1.out⟩
set_option maxHeartbeats 1000000 in
theorem freeSheet_any (n : Nat) (w : World) :
    Calls Tryz.prog 66 #[.int .i64 (n : Int)] w fun e w' => e = .returned (shV (Pd.freeSheet n)) ∧ Below w.heap.size w w' := by
  have hz := zeroSh
  unfold shV sh00 Pd.none0 at hz
  show Calls Tryz.prog 66 #[.int .i64 (n : Int)] w fun e w' => e = .returned (.agg #[.int .i64 255, .string (Wl.put n 4)]) ∧ Below w.heap.size w w'
  have HB0 : Hid (Below w.heap.size w (w.alloc (.cells #[.int .i64 0, .string ⟨#[]⟩] 102))) := (Below.refl _ _).alloc (Nat.le_refl _) _
  have HR0 : Hid ((w.alloc (.cells #[.int .i64 0, .string ⟨#[]⟩] 102)).heap[w.heap.size]? = some (.cells #[.int .i64 0, .string ⟨#[]⟩] 102 (0, 0))) := heap_alloc_new w _
  have HN : Hid (∀ W, Calls Tryz.prog 90 #[.int .i64 (n : Int)] W fun e w' => e = .returned (.string (Wl.put n 4)) ∧ Below W.heap.size W w') := fun W => ntext_any n W
  go_enter Tryz.func66, Tryz.ntmps66
  go_wp2_with fail
  generalize World.alloc w _ = w0 at *
  refine (HN.out w0).mono ?_
  rintro e w1 ⟨rfl, hB1⟩
  have HB1 : Hid (Below w.heap.size w w1) := below_next HB0.out hB1 HB0.out.size
  have HR1 : Hid (w1.heap[w.heap.size]? = some (.cells #[.int .i64 0, .string ⟨#[]⟩] 102 (0, 0))) := heap_next HR0.out hB1
  clear hB1 HN HB0 HR0
  have f0 := frozen_of_row w1 w.heap.size 0 _ _ HR1.out
  have f1 := frozen_of_row w1 w.heap.size 1 _ _ HR1.out
  have c0 : w1.cell? ⟨w.heap.size, 0, none⟩ = some (.int .i64 0) := cell_of_row _ _ _ _ _ (0, 0) HR1.out
  have c1 : w1.cell? ⟨w.heap.size, 1, none⟩ = some (.string ⟨#[]⟩) := cell_of_row _ _ _ _ _ (0, 0) HR1.out
  go_wp2
  exact bodyPost_ret (results_sh Tryz.results66 _ _ w.heap.size 102 _ _ rfl (row2 HR1.out _ _)) rfl ⟨rfl, (HB1.out.setCell (by simp) _).setCell (by simp) _⟩
end Go.Proofs.YtcfninpokngmlaaGreatDoor
/- Proved: what pagedb's readFree, and its states' sound and sheet answer. -/
namespace Go.Proofs.YtcfninpokngmlaaGreatDoor
open Go.RowKit
set_option maxHeartbeats 1000000 in
theorem readFree_any (n : Nat) (w : World) (hn : n < 4294967296) :
    Calls Tryz.prog 86 #[shV (Pd.freeSheet n)] w fun e w' => e = .returned (.tuple #[.int .i64 (n : Int), .bool true]) ∧ Below w.heap.size w w' := by
  have HB0 : Hid (Below w.heap.size w (w.alloc (.cells #[.int .i64 255, .string (Wl.put n 4)] 102))) := (Below.refl _ _).alloc (Nat.le_refl _) _
  have hs := Wl.put_size n 4
  have HN : Hid (∀ W, Calls Tryz.prog 102 #[.string (Wl.put n 4)] W fun e w' => e = .returned (.int .i64 (n : Int)) ∧ w' = W) := fun W => by
    have := dnumber_any (Wl.put n 4) W (by rw [hs]; omega)
    rw [Pd.numb_put0 n hn] at this
    exact this
  show Calls Tryz.prog 86 #[.agg #[.int .i64 255, .string (Wl.put n 4)]] w _
  generalize Wl.put n 4 = p at *
  have c0 : (w.alloc (.cells #[.int .i64 255, .string p] 102)).cell? ⟨w.heap.size, 0, none⟩ = some (.int .i64 255) := cell_of_row _ _ _ _ _ (0, 0) (heap_alloc_new w _)
  have c1 : (w.alloc (.cells #[.int .i64 255, .string p] 102)).cell? ⟨w.heap.size, 1, none⟩ = some (.string p) := cell_of_row _ _ _ _ _ (0, 0) (heap_alloc_new w _)
  go_enter Tryz.func86, Tryz.ntmps86
  go_wp2_with fail
  refine (HN.out _).mono ?_
  rintro e w1 ⟨rfl, rfl⟩
  go_wp2
  go_ret2
  exact ⟨rfl, HB0.out⟩
set_option maxHeartbeats 2000000 in
set_option maxRecDepth 20000 in
theorem sound_yes (t : Pd.Stt) (cnt : Nat) (w : World) (h : t.Small cnt) :
    Calls Tryz.prog 87 #[stV t, .int .i64 (cnt : Int)] w fun e w' => e = .returned (.bool true) ∧ Below w.heap.size w w' := by
  have HB0 : Hid (Below w.heap.size w (w.alloc (.cells (stA t) 58))) := (Below.refl _ _).alloc (Nat.le_refl _) _
  have HR0 : Hid ((w.alloc (.cells (stA t) 58)).heap[w.heap.size]? = some (.cells (stA t) 58 (0, 0))) := heap_alloc_new w _
  show Calls Tryz.prog 87 #[.agg (stA t), .int .i64 (cnt : Int)] w _
  obtain ⟨a0, a1, a2, a3, a4, a5, a6⟩ := t
  obtain ⟨h1, h2, h3, h4, h5, h6, h7, h8⟩ := h
  simp only at h1 h2 h3 h4 h5 h6 h7 h8
  have d0 : decide ((2147483647 : Int) < (a3 : Int)) = false := decide_eq_false (by omega)
  have d1 : decide ((2147483647 : Int) < (a4 : Int)) = false := decide_eq_false (by omega)
  have d2 : decide ((2147483647 : Int) < (a5 : Int)) = false := decide_eq_false (by omega)
  have d3 : decide ((2147483647 : Int) < (a6 : Int)) = false := decide_eq_false (by omega)
  have e0 : decide ((a0 : Int) ≤ (cnt : Int)) = true := decide_eq_true (by omega)
  have e1 : decide ((a1 : Int) < (a0 : Int)) = true := decide_eq_true (by omega)
  have e2 : decide ((a2 : Int) < (a0 : Int)) = true := decide_eq_true (by omega)
  have e3 : (((a1 : Int) == 0) == ((a2 : Int) == 0)) = true := by
    by_cases z : a1 = 0
    · have z2 := h4.1 z
      rw [z, z2]; rfl
    · have z2 : ¬ a2 = 0 := fun e => z (h4.2 e)
      have y1 : ((a1 : Int) == 0) = false := beq_false_of_ne (by omega)
      have y2 : ((a2 : Int) == 0) = false := beq_false_of_ne (by omega)
      rw [y1, y2]; rfl
  clear h4 h5 h6 h7 h8
  unfold stA at *
  simp only at HB0 HR0 ⊢
  have c0 : (w.alloc (.cells #[.int .i64 (a0 : Int), .int .i64 (a1 : Int), .int .i64 (a2 : Int), .int .i64 (a3 : Int), .int .i64 (a4 : Int), .int .i64 (a5 : Int), .int .i64 (a6 : Int)] 58)).cell? ⟨w.heap.size, 0, none⟩ = some (.int .i64 (a0 : Int)) := cell_of_row _ _ _ _ _ (0, 0) HR0.out
  have c1 : (w.alloc (.cells #[.int .i64 (a0 : Int), .int .i64 (a1 : Int), .int .i64 (a2 : Int), .int .i64 (a3 : Int), .int .i64 (a4 : Int), .int .i64 (a5 : Int), .int .i64 (a6 : Int)] 58)).cell? ⟨w.heap.size, 1, none⟩ = some (.int .i64 (a1 : Int)) := cell_of_row _ _ _ _ _ (0, 0) HR0.out
  have c2 : (w.alloc (.cells #[.int .i64 (a0 : Int), .int .i64 (a1 : Int), .int .i64 (a2 : Int), .int .i64 (a3 : Int), .int .i64 (a4 : Int), .int .i64 (a5 : Int), .int .i64 (a6 : Int)] 58)).cell? ⟨w.heap.size, 2, none⟩ = some (.int .i64 (a2 : Int)) := cell_of_row _ _ _ _ _ (0, 0) HR0.out
  have c3 : (w.alloc (.cells #[.int .i64 (a0 : Int), .int .i64 (a1 : Int), .int .i64 (a2 : Int), .int .i64 (a3 : Int), .int .i64 (a4 : Int), .int .i64 (a5 : Int), .int .i64 (a6 : Int)] 58)).cell? ⟨w.heap.size, 3, none⟩ = some (.int .i64 (a3 : Int)) := cell_of_row _ _ _ _ _ (0, 0) HR0.out
  have c4 : (w.alloc (.cells #[.int .i64 (a0 : Int), .int .i64 (a1 : Int), .int .i64 (a2 : Int), .int .i64 (a3 : Int), .int .i64 (a4 : Int), .int .i64 (a5 : Int), .int .i64 (a6 : Int)] 58)).cell? ⟨w.heap.size, 4, none⟩ = some (.int .i64 (a4 : Int)) := cell_of_row _ _ _ _ _ (0, 0) HR0.out
  have c5 : (w.alloc (.cells #[.int .i64 (a0 : Int), .int .i64 (a1 : Int), .int .i64 (a2 : Int), .int .i64 (a3 : Int), .int .i64 (a4 : Int), .int .i64 (a5 : Int), .int .i64 (a6 : Int)] 58)).cell? ⟨w.heap.size, 5, none⟩ = some (.int .i64 (a5 : Int)) := cell_of_row _ _ _ _ _ (0, 0) HR0.out
  have c6 : (w.alloc (.cells #[.int .i64 (a0 : Int), .int .i64 (a1 : Int), .int .i64 (a2 : Int), .int .i64 (a3 : Int), .int .i64 (a4 : Int), .int .i64 (a5 : Int), .int .i64 (a6 : Int)] 58)).cell? ⟨w.heap.size, 6, none⟩ = some (.int .i64 (a6 : Int)) := cell_of_row _ _ _ _ _ (0, 0) HR0.out
  have i0 : ∀ W : World, (Instr.index 56 (.agg #[.int .i64 (a3 : Int), .int .i64 (a4 : Int), .int .i64 (a5 : Int), .int .i64 (a6 : Int)]) (.int .i64 0)).run Tryz.prog W = .ok (.int .i64 (a3 : Int)) W := fun W => by kernel_rfl
  have i1 : ∀ W : World, (Instr.index 56 (.agg #[.int .i64 (a3 : Int), .int .i64 (a4 : Int), .int .i64 (a5 : Int), .int .i64 (a6 : Int)]) (.int .i64 1)).run Tryz.prog W = .ok (.int .i64 (a4 : Int)) W := fun W => by kernel_rfl
  have i2 : ∀ W : World, (Instr.index 56 (.agg #[.int .i64 (a3 : Int), .int .i64 (a4 : Int), .int .i64 (a5 : Int), .int .i64 (a6 : Int)]) (.int .i64 2)).run Tryz.prog W = .ok (.int .i64 (a5 : Int)) W := fun W => by kernel_rfl
  have i3 : ∀ W : World, (Instr.index 56 (.agg #[.int .i64 (a3 : Int), .int .i64 (a4 : Int), .int .i64 (a5 : Int), .int .i64 (a6 : Int)]) (.int .i64 3)).run Tryz.prog W = .ok (.int .i64 (a6 : Int)) W := fun W => by kernel_rfl
  go_enter Tryz.func87, Tryz.ntmps87
  go_wp2_with fail
  generalize World.alloc w _ = w0 at *
  refine wp_loop_rounds 5 ?_
  iterate 5 (rw [rounds_succ]; go_wp2)
  go_ret
  exact ⟨rfl, HB0.out⟩
end Go.Proofs.YtcfninpokngmlaaGreatDoor
/- Proved: what a state's sheet answers. -/
namespace Go.Proofs.YtcfninpokngmlaaGreatDoor
open Go.RowKit
theorem below_drew {w w' : World} (h : Below w.drew.heap.size w.drew w') : Below w.heap.size w w' := (show Below w.heap.size w w.drew from ⟨rfl, rfl, rfl, Nat.le_refl _, fun _ _ => rfl⟩).trans h
set_option maxHeartbeats 4000000 in
set_option maxRecDepth 20000 in
theorem sheet_any (t : Pd.Stt) (w : World) :
    Calls Tryz.prog 88 #[stV t] w fun e w' => e = .returned (shV t.sheet) ∧ Below w.heap.size w w' := by
  obtain ⟨a0, a1, a2, a3, a4, a5, a6⟩ := t
  have hz := zeroSh
  unfold shV sh00 Pd.none0 at hz
  show Calls Tryz.prog 88 #[.agg #[.int .i64 (a0 : Int), .int .i64 (a1 : Int), .int .i64 (a2 : Int), .int .i64 (a3 : Int), .int .i64 (a4 : Int), .int .i64 (a5 : Int), .int .i64 (a6 : Int)]] w fun e w' => e = .returned (.agg #[.int .i64 1, .string ((⟨#[65, 81, 68, 66]⟩ : ByteArray) ++ Wl.put a0 4 ++ Wl.put a1 4 ++ Wl.put a2 4 ++ Wl.put a3 4 ++ Wl.put a4 4 ++ Wl.put a5 4 ++ Wl.put a6 4)]) ∧ Below w.heap.size w w'
  have s0 : (⟨#[65, 81, 68, 66]⟩ : ByteArray).size = 4 := rfl
  have s1 := Wl.put_size a0 4
  have s2 := Wl.put_size a1 4
  have s3 := Wl.put_size a2 4
  have s4 := Wl.put_size a3 4
  have s5 := Wl.put_size a4 4
  have s6 := Wl.put_size a5 4
  have s7 := Wl.put_size a6 4
  have N0 : Hid (∀ W, Calls Tryz.prog 90 #[.int .i64 (a0 : Int)] W fun e w' => e = .returned (.string (Wl.put a0 4)) ∧ Below W.heap.size W w') := fun W => ntext_any a0 W
  have N1 : Hid (∀ W, Calls Tryz.prog 90 #[.int .i64 (a1 : Int)] W fun e w' => e = .returned (.string (Wl.put a1 4)) ∧ Below W.heap.size W w') := fun W => ntext_any a1 W
  have N2 : Hid (∀ W, Calls Tryz.prog 90 #[.int .i64 (a2 : Int)] W fun e w' => e = .returned (.string (Wl.put a2 4)) ∧ Below W.heap.size W w') := fun W => ntext_any a2 W
  have N3 : Hid (∀ W, Calls Tryz.prog 90 #[.int .i64 (a3 : Int)] W fun e w' => e = .returned (.string (Wl.put a3 4)) ∧ Below W.heap.size W w') := fun W => ntext_any a3 W
  have N4 : Hid (∀ W, Calls Tryz.prog 90 #[.int .i64 (a4 : Int)] W fun e w' => e = .returned (.string (Wl.put a4 4)) ∧ Below W.heap.size W w') := fun W => ntext_any a4 W
  have N5 : Hid (∀ W, Calls Tryz.prog 90 #[.int .i64 (a5 : Int)] W fun e w' => e = .returned (.string (Wl.put a5 4)) ∧ Below W.heap.size W w') := fun W => ntext_any a5 W
  have N6 : Hid (∀ W, Calls Tryz.prog 90 #[.int .i64 (a6 : Int)] W fun e w' => e = .returned (.string (Wl.put a6 4)) ∧ Below W.heap.size W w') := fun W => ntext_any a6 W
  generalize Wl.put a0 4 = p0 at *
  generalize Wl.put a1 4 = p1 at *
  generalize Wl.put a2 4 = p2 at *
  generalize Wl.put a3 4 = p3 at *
  generalize Wl.put a4 4 = p4 at *
  generalize Wl.put a5 4 = p5 at *
  generalize Wl.put a6 4 = p6 at *
  have A0 : ∀ W : World, (Op.stringOp .add (⟨#[65, 81, 68, 66]⟩ : ByteArray) p0).run Tryz.prog W = .ok (.string ((⟨#[65, 81, 68, 66]⟩ : ByteArray) ++ p0)) W := fun W => run_string_add_sum W _ _ (by omega)
  have A1 : ∀ W : World, (Op.stringOp .add ((⟨#[65, 81, 68, 66]⟩ : ByteArray) ++ p0) p1).run Tryz.prog W = .ok (.string ((⟨#[65, 81, 68, 66]⟩ : ByteArray) ++ p0 ++ p1)) W := fun W => run_string_add_sum W _ _ (by simp only [ByteArray.size_append]; omega)
  have A2 : ∀ W : World, (Op.stringOp .add ((⟨#[65, 81, 68, 66]⟩ : ByteArray) ++ p0 ++ p1) p2).run Tryz.prog W = .ok (.string ((⟨#[65, 81, 68, 66]⟩ : ByteArray) ++ p0 ++ p1 ++ p2)) W := fun W => run_string_add_sum W _ _ (by simp only [ByteArray.size_append]; omega)
  have A3 : ∀ W : World, (Op.stringOp .add ((⟨#[65, 81, 68, 66]⟩ : ByteArray) ++ p0 ++ p1 ++ p2) p3).run Tryz.prog W = .ok (.string ((⟨#[65, 81, 68, 66]⟩ : ByteArray) ++ p0 ++ p1 ++ p2 ++ p3)) W := fun W => run_string_add_sum W _ _ (by simp only [ByteArray.size_append]; omega)
  have A4 : ∀ W : World, (Op.stringOp .add ((⟨#[65, 81, 68, 66]⟩ : ByteArray) ++ p0 ++ p1 ++ p2 ++ p3) p4).run Tryz.prog W = .ok (.string ((⟨#[65, 81, 68, 66]⟩ : ByteArray) ++ p0 ++ p1 ++ p2 ++ p3 ++ p4)) W := fun W => run_string_add_sum W _ _ (by simp only [ByteArray.size_append]; omega)
  have A5 : ∀ W : World, (Op.stringOp .add ((⟨#[65, 81, 68, 66]⟩ : ByteArray) ++ p0 ++ p1 ++ p2 ++ p3 ++ p4) p5).run Tryz.prog W = .ok (.string ((⟨#[65, 81, 68, 66]⟩ : ByteArray) ++ p0 ++ p1 ++ p2 ++ p3 ++ p4 ++ p5)) W := fun W => run_string_add_sum W _ _ (by simp only [ByteArray.size_append]; omega)
  have A6 : ∀ W : World, (Op.stringOp .add ((⟨#[65, 81, 68, 66]⟩ : ByteArray) ++ p0 ++ p1 ++ p2 ++ p3 ++ p4 ++ p5) p6).run Tryz.prog W = .ok (.string ((⟨#[65, 81, 68, 66]⟩ : ByteArray) ++ p0 ++ p1 ++ p2 ++ p3 ++ p4 ++ p5 ++ p6)) W := fun W => run_string_add_sum W _ _ (by simp only [ByteArray.size_append]; omega)
  have i0 : ∀ W : World, (Instr.index 56 (.agg #[.int .i64 (a3 : Int), .int .i64 (a4 : Int), .int .i64 (a5 : Int), .int .i64 (a6 : Int)]) (.int .i64 0)).run Tryz.prog W = .ok (.int .i64 (a3 : Int)) W := fun W => by kernel_rfl
  have i1 : ∀ W : World, (Instr.index 56 (.agg #[.int .i64 (a3 : Int), .int .i64 (a4 : Int), .int .i64 (a5 : Int), .int .i64 (a6 : Int)]) (.int .i64 1)).run Tryz.prog W = .ok (.int .i64 (a4 : Int)) W := fun W => by kernel_rfl
  have i2 : ∀ W : World, (Instr.index 56 (.agg #[.int .i64 (a3 : Int), .int .i64 (a4 : Int), .int .i64 (a5 : Int), .int .i64 (a6 : Int)]) (.int .i64 2)).run Tryz.prog W = .ok (.int .i64 (a5 : Int)) W := fun W => by kernel_rfl
  have i3 : ∀ W : World, (Instr.index 56 (.agg #[.int .i64 (a3 : Int), .int .i64 (a4 : Int), .int .i64 (a5 : Int), .int .i64 (a6 : Int)]) (.int .i64 3)).run Tryz.prog W = .ok (.int .i64 (a6 : Int)) W := fun W => by kernel_rfl
  clear s0 s1 s2 s3 s4 s5 s6 s7
  have HRA : Hid ((w.alloc (.cells #[.int .i64 (a0 : Int), .int .i64 (a1 : Int), .int .i64 (a2 : Int), .int .i64 (a3 : Int), .int .i64 (a4 : Int), .int .i64 (a5 : Int), .int .i64 (a6 : Int)] 58)).heap[w.heap.size]? = some (.cells #[.int .i64 (a0 : Int), .int .i64 (a1 : Int), .int .i64 (a2 : Int), .int .i64 (a3 : Int), .int .i64 (a4 : Int), .int .i64 (a5 : Int), .int .i64 (a6 : Int)] 58 (0, 0))) := heap_alloc_new w _
  have HBA : Hid (Below w.heap.size w (w.alloc (.cells #[.int .i64 (a0 : Int), .int .i64 (a1 : Int), .int .i64 (a2 : Int), .int .i64 (a3 : Int), .int .i64 (a4 : Int), .int .i64 (a5 : Int), .int .i64 (a6 : Int)] 58))) := (Below.refl _ _).alloc (Nat.le_refl _) _
  have hsz : (w.alloc (.cells #[.int .i64 (a0 : Int), .int .i64 (a1 : Int), .int .i64 (a2 : Int), .int .i64 (a3 : Int), .int .i64 (a4 : Int), .int .i64 (a5 : Int), .int .i64 (a6 : Int)] 58)).heap.size = w.heap.size + 1 := by simp
  go_enter Tryz.func88, Tryz.ntmps88
  go_wp2_with fail
  generalize hwa : World.alloc w _ = wa at *
  clear hwa
  have HRB : Hid ((wa.alloc (.cells #[.int .i64 0, .string ⟨#[]⟩] 102)).heap[w.heap.size + 1]? = some (.cells #[.int .i64 0, .string ⟨#[]⟩] 102 (0, 0))) := by
    have := heap_alloc_new wa (.cells #[.int .i64 0, .string ⟨#[]⟩] 102)
    rw [hsz] at this
    exact this
  have HRA1 : Hid ((wa.alloc (.cells #[.int .i64 0, .string ⟨#[]⟩] 102)).heap[w.heap.size]? = some (.cells #[.int .i64 (a0 : Int), .int .i64 (a1 : Int), .int .i64 (a2 : Int), .int .i64 (a3 : Int), .int .i64 (a4 : Int), .int .i64 (a5 : Int), .int .i64 (a6 : Int)] 58 (0, 0))) := (heap_alloc_old wa _ (by rw [hsz]; omega)).trans HRA.out
  have HBB : Hid (Below w.heap.size w (wa.alloc (.cells #[.int .i64 0, .string ⟨#[]⟩] 102))) := HBA.out.alloc (by rw [hsz]; omega) _
  clear hsz HRA HBA
  generalize hwb : World.alloc wa _ = wb at *
  clear hwb hz
  have HC : Hid (∀ (U : World), U.heap[w.heap.size]? = some (.cells #[.int .i64 (a0 : Int), .int .i64 (a1 : Int), .int .i64 (a2 : Int), .int .i64 (a3 : Int), .int .i64 (a4 : Int), .int .i64 (a5 : Int), .int .i64 (a6 : Int)] 58 (0, 0)) → U.cell? ⟨w.heap.size, 0, none⟩ = some (.int .i64 (a0 : Int)) ∧ U.cell? ⟨w.heap.size, 1, none⟩ = some (.int .i64 (a1 : Int)) ∧ U.cell? ⟨w.heap.size, 2, none⟩ = some (.int .i64 (a2 : Int)) ∧ U.cell? ⟨w.heap.size, 3, none⟩ = some (.int .i64 (a3 : Int)) ∧ U.cell? ⟨w.heap.size, 4, none⟩ = some (.int .i64 (a4 : Int)) ∧ U.cell? ⟨w.heap.size, 5, none⟩ = some (.int .i64 (a5 : Int)) ∧ U.cell? ⟨w.heap.size, 6, none⟩ = some (.int .i64 (a6 : Int))) := fun U h => ⟨cell_of_row _ _ _ _ _ (0, 0) h, cell_of_row _ _ _ _ _ (0, 0) h, cell_of_row _ _ _ _ _ (0, 0) h, cell_of_row _ _ _ _ _ (0, 0) h, cell_of_row _ _ _ _ _ (0, 0) h, cell_of_row _ _ _ _ _ (0, 0) h, cell_of_row _ _ _ _ _ (0, 0) h⟩
  refine wp_region_held_drew (S := fun U => U.heap[w.heap.size]? = some (.cells #[.int .i64 (a0 : Int), .int .i64 (a1 : Int), .int .i64 (a2 : Int), .int .i64 (a3 : Int), .int .i64 (a4 : Int), .int .i64 (a5 : Int), .int .i64 (a6 : Int)] 58 (0, 0))) (by kernel_rfl) HRA1.out (fun _ => ?_)
  refine heldTake 0 (some 6) (.pointer (some ⟨w.heap.size, 0, none⟩)) rfl rfl (by kernel_rfl) (by kernel_rfl) (by kernel_rfl) (fun _ _ _ h => h) (Or.inl ⟨by rfl, fun w hS => ?_⟩) HRA1.out ?_
  · (go_simp)
  simp only [Act.put, List.setIfInBounds_toArray, List.set_cons_zero, List.set_cons_succ]
  refine heldTake 1 (some 7) (.int .i64 (a0 : Int)) rfl rfl (by kernel_rfl) (by kernel_rfl) (by kernel_rfl) (fun _ _ _ h => h) (Or.inl ⟨by rfl, fun w hS => ?_⟩) HRA1.out ?_
  · (obtain ⟨q0, q1, q2, _⟩ := HC.out _ hS; go_simp)
  simp only [Act.put, List.setIfInBounds_toArray, List.set_cons_zero, List.set_cons_succ]
  refine heldTake 4 (some 10) (.pointer (some ⟨w.heap.size, 1, none⟩)) rfl rfl (by kernel_rfl) (by kernel_rfl) (by kernel_rfl) (fun _ _ _ h => h) (Or.inl ⟨by rfl, fun w hS => ?_⟩) HRA1.out ?_
  · (go_simp)
  simp only [Act.put, List.setIfInBounds_toArray, List.set_cons_zero, List.set_cons_succ]
  refine heldTake 5 (some 11) (.int .i64 (a1 : Int)) rfl rfl (by kernel_rfl) (by kernel_rfl) (by kernel_rfl) (fun _ _ _ h => h) (Or.inl ⟨by rfl, fun w hS => ?_⟩) HRA1.out ?_
  · (obtain ⟨q0, q1, q2, _⟩ := HC.out _ hS; go_simp)
  simp only [Act.put, List.setIfInBounds_toArray, List.set_cons_zero, List.set_cons_succ]
  refine heldTake 8 (some 14) (.pointer (some ⟨w.heap.size, 2, none⟩)) rfl rfl (by kernel_rfl) (by kernel_rfl) (by kernel_rfl) (fun _ _ _ h => h) (Or.inl ⟨by rfl, fun w hS => ?_⟩) HRA1.out ?_
  · (go_simp)
  simp only [Act.put, List.setIfInBounds_toArray, List.set_cons_zero, List.set_cons_succ]
  refine heldTake 9 (some 15) (.int .i64 (a2 : Int)) rfl rfl (by kernel_rfl) (by kernel_rfl) (by kernel_rfl) (fun _ _ _ h => h) (Or.inl ⟨by rfl, fun w hS => ?_⟩) HRA1.out ?_
  · (obtain ⟨q0, q1, q2, _⟩ := HC.out _ hS; go_simp)
  simp only [Act.put, List.setIfInBounds_toArray, List.set_cons_zero, List.set_cons_succ]
  refine heldOne 2 (by kernel_rfl) rfl (by rfl) (fun KK hK => ?_)
  go_simp
  go_at_call 90
  refine (N0.out _).mono ?_
  rintro e w1 ⟨rfl, hB1⟩
  have HR1 : Hid (w1.heap[w.heap.size]? = some (.cells #[.int .i64 (a0 : Int), .int .i64 (a1 : Int), .int .i64 (a2 : Int), .int .i64 (a3 : Int), .int .i64 (a4 : Int), .int .i64 (a5 : Int), .int .i64 (a6 : Int)] 58 (0, 0))) := heap_next HRA1.out (below_drew hB1)
  have HQ1 : Hid (w1.heap[w.heap.size + 1]? = some (.cells #[.int .i64 0, .string ⟨#[]⟩] 102 (0, 0))) := heap_next HRB.out (below_drew hB1)
  have HB1 : Hid (Below w.heap.size w w1) := below_next HBB.out (below_drew hB1) HBB.out.size
  clear hB1 HRA1 HRB HBB
  refine hK.out _ _ HR1.out ?_
  clear hK KK
  refine heldTake 3 (some 9) (.string ((⟨#[65, 81, 68, 66]⟩ : ByteArray) ++ p0)) rfl rfl (by kernel_rfl) (by kernel_rfl) (by kernel_rfl) (fun _ _ _ h => h) (Or.inl ⟨by rfl, fun w hS => ?_⟩) HR1.out ?_
  · (go_simp)
  simp only [Act.put, List.setIfInBounds_toArray, List.set_cons_zero, List.set_cons_succ]
  refine heldOne 6 (by kernel_rfl) rfl (by rfl) (fun KK hK => ?_)
  go_simp
  go_at_call 90
  refine (N1.out _).mono ?_
  rintro e w2 ⟨rfl, hB2⟩
  have HR2 : Hid (w2.heap[w.heap.size]? = some (.cells #[.int .i64 (a0 : Int), .int .i64 (a1 : Int), .int .i64 (a2 : Int), .int .i64 (a3 : Int), .int .i64 (a4 : Int), .int .i64 (a5 : Int), .int .i64 (a6 : Int)] 58 (0, 0))) := heap_next HR1.out hB2
  have HQ2 : Hid (w2.heap[w.heap.size + 1]? = some (.cells #[.int .i64 0, .string ⟨#[]⟩] 102 (0, 0))) := heap_next HQ1.out hB2
  have HB2 : Hid (Below w.heap.size w w2) := below_next HB1.out hB2 HB1.out.size
  clear hB2 HR1 HQ1 HB1
  refine hK.out _ _ HR2.out ?_
  clear hK KK
  refine heldTake 7 (some 13) (.string ((⟨#[65, 81, 68, 66]⟩ : ByteArray) ++ p0 ++ p1)) rfl rfl (by kernel_rfl) (by kernel_rfl) (by kernel_rfl) (fun _ _ _ h => h) (Or.inl ⟨by rfl, fun w hS => ?_⟩) HR2.out ?_
  · (go_simp)
  simp only [Act.put, List.setIfInBounds_toArray, List.set_cons_zero, List.set_cons_succ]
  refine heldOne 10 (by kernel_rfl) rfl (by rfl) (fun KK hK => ?_)
  go_simp
  go_at_call 90
  refine (N2.out _).mono ?_
  rintro e w3 ⟨rfl, hB3⟩
  have HR3 : Hid (w3.heap[w.heap.size]? = some (.cells #[.int .i64 (a0 : Int), .int .i64 (a1 : Int), .int .i64 (a2 : Int), .int .i64 (a3 : Int), .int .i64 (a4 : Int), .int .i64 (a5 : Int), .int .i64 (a6 : Int)] 58 (0, 0))) := heap_next HR2.out hB3
  have HQ3 : Hid (w3.heap[w.heap.size + 1]? = some (.cells #[.int .i64 0, .string ⟨#[]⟩] 102 (0, 0))) := heap_next HQ2.out hB3
  have HB3 : Hid (Below w.heap.size w w3) := below_next HB2.out hB3 HB2.out.size
  clear hB3 HR2 HQ2 HB2
  refine hK.out _ _ HR3.out ?_
  clear hK KK
  refine heldTake 11 (some 17) (.string ((⟨#[65, 81, 68, 66]⟩ : ByteArray) ++ p0 ++ p1 ++ p2)) rfl rfl (by kernel_rfl) (by kernel_rfl) (by kernel_rfl) (fun _ _ _ h => h) (Or.inl ⟨by rfl, fun w hS => ?_⟩) HR3.out ?_
  · (go_simp)
  simp only [Act.put, List.setIfInBounds_toArray, List.set_cons_zero, List.set_cons_succ]
  refine heldTake 12 (some 3) (.string ((⟨#[65, 81, 68, 66]⟩ : ByteArray) ++ p0 ++ p1 ++ p2)) rfl rfl (by kernel_rfl) (by kernel_rfl) (by kernel_rfl) (fun _ _ _ h => h) (Or.inl ⟨by rfl, fun w hS => ?_⟩) HR3.out ?_
  · (go_simp)
  simp only [Act.put, List.setIfInBounds_toArray, List.set_cons_zero, List.set_cons_succ]
  refine wpAnyH_done (by kernel_rfl) ?_ _
  obtain ⟨_, _, _, c3, c4, c5, c6⟩ := HC.out _ HR3.out
  clear HC HR3
  go_wp2_with fail
  clear c3 c4 c5 c6
  refine wp_loop_rounds 5 ?_
  rw [rounds_succ]
  go_wp2_with fail
  refine (N3.out _).mono ?_
  rintro e w4 ⟨rfl, hB4⟩
  have HQ4 : Hid (w4.heap[w.heap.size + 1]? = some (.cells #[.int .i64 0, .string ⟨#[]⟩] 102 (0, 0))) := heap_next HQ3.out hB4
  have HB4 : Hid (Below w.heap.size w w4) := below_next HB3.out hB4 HB3.out.size
  clear hB4 HQ3 HB3
  go_wp2_with fail
  rw [rounds_succ]
  go_wp2_with fail
  refine (N4.out _).mono ?_
  rintro e w5 ⟨rfl, hB5⟩
  have HQ5 : Hid (w5.heap[w.heap.size + 1]? = some (.cells #[.int .i64 0, .string ⟨#[]⟩] 102 (0, 0))) := heap_next HQ4.out hB5
  have HB5 : Hid (Below w.heap.size w w5) := below_next HB4.out hB5 HB4.out.size
  clear hB5 HQ4 HB4
  go_wp2_with fail
  rw [rounds_succ]
  go_wp2_with fail
  refine (N5.out _).mono ?_
  rintro e w6 ⟨rfl, hB6⟩
  have HQ6 : Hid (w6.heap[w.heap.size + 1]? = some (.cells #[.int .i64 0, .string ⟨#[]⟩] 102 (0, 0))) := heap_next HQ5.out hB6
  have HB6 : Hid (Below w.heap.size w w6) := below_next HB5.out hB6 HB5.out.size
  clear hB6 HQ5 HB5
  go_wp2_with fail
  rw [rounds_succ]
  go_wp2_with fail
  refine (N6.out _).mono ?_
  rintro e w7 ⟨rfl, hB7⟩
  have HQ7 : Hid (w7.heap[w.heap.size + 1]? = some (.cells #[.int .i64 0, .string ⟨#[]⟩] 102 (0, 0))) := heap_next HQ6.out hB7
  have HB7 : Hid (Below w.heap.size w w7) := below_next HB6.out hB7 HB6.out.size
  clear hB7 HQ6 HB6
  have f0 := frozen_of_row w7 (w.heap.size + 1) 0 _ _ HQ7.out
  have f1 := frozen_of_row w7 (w.heap.size + 1) 1 _ _ HQ7.out
  have c0 : w7.cell? ⟨w.heap.size + 1, 0, none⟩ = some (.int .i64 0) := cell_of_row _ _ _ _ _ (0, 0) HQ7.out
  have c1 : w7.cell? ⟨w.heap.size + 1, 1, none⟩ = some (.string ⟨#[]⟩) := cell_of_row _ _ _ _ _ (0, 0) HQ7.out
  go_wp2_with fail
  rw [rounds_succ]
  go_wp2
  exact bodyPost_ret (results_sh Tryz.results88 _ _ (w.heap.size + 1) 102 _ _ rfl (row2 HQ7.out _ _)) rfl ⟨rfl, (HB7.out.setCell (by simp) _).setCell (by simp) _⟩
end Go.Proofs.YtcfninpokngmlaaGreatDoor
