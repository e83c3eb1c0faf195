/- Proved: what a slice of fields that comes in is read as. Conditions: the row's own. -/
import Derived.Test.YtealbeblkilibaaDoorRows
import Derived.WalkKit
import Derived.ProofKit
import Derived.OpenShut
import Derived.ShutString
import Derived.ChangeOld
import Derived.Below
import Derived.ChangeMaps5
import Derived.Deep.Slices
import Derived.Lib.SmallJoins
import Derived.Maps.AppendAt
import Derived.Deep.MidRow
import Derived.Laws.Rows
import Derived.Lib.AppendStr
import Derived.Deep.RegionHeld3
namespace Go.Proofs.YtealbeblkilibaaDoor.FI
open Go.ChangeShapes Go.WideShapes Go.ChangeAt Go.RowKit
theorem own : ownKnob Tryd.prog.godebug = none := by kernel_rfl
theorem laidOut : laidOutB Tryd.prog = true := by kernel_rfl
/- a field as it lies in memory: its tag, its kind, its number, its text -/
structure Fv where
  tag : Int
  kind : Int
  n : Int
  s : ByteArray
def In64 (z : Int) : Prop := -9223372036854775808 ≤ z ∧ z ≤ 9223372036854775807
structure Fv.Fits (f : Fv) : Prop where
  tag : In64 f.tag
  kind : In64 f.kind
  n : In64 f.n
  s : f.s.size ≤ 9223372036854775807
structure FieldAt (w : World) (b off : Nat) (f : Fv) : Prop where
  tag : w.cell? ⟨b, off, none⟩ = some (.int .i64 f.tag)
  kind : w.cell? ⟨b, off + 1, none⟩ = some (.int .i64 f.kind)
  n : w.cell? ⟨b, off + 2, none⟩ = some (.int .i64 f.n)
  s : w.cell? ⟨b, off + 3, none⟩ = some (.string f.s)
/- What a walk knows of a slice of fields. -/
def Fields (w : World) (a : Option Addr) (len : Nat) : Prop :=
  len = 0 ∨ ∃ b off, a = some ⟨b, off, none⟩ ∧ ∀ i, i < len → ∃ f : Fv, f.Fits ∧ FieldAt w b (off + i * 4) f
set_option maxRecDepth 100000 in
theorem fields_of {H : Type} {enc : TypeId × Value → H} {W : World} {a : Option Addr} {len cap : Nat} {d : DataW H} {p : List MemPlace} (h : DataW.Trod enc Tryd.prog W 0 (fun _ => true) true 40 (.slice a len cap) d p) :
    Fields W a len ∧ len ≤ cap ∧ cap ≤ 9223372036854775807 := by
  have c38 : Tryd.prog.cellsOf 79 = 4 := by kernel_rfl
  have c3 : Tryd.prog.cellsOf 3 = 1 := by kernel_rfl
  have c9 : Tryd.prog.cellsOf 9 = 1 := by kernel_rfl
  obtain ⟨fuel, hf⟩ := h
  rcases Go.Deep.open_slice Tryd.underlying40 hf with ⟨hcs, _⟩ | ⟨x, l, c, m, n, D, Pl, hcs, _, hl, hm, hmm, _, hel⟩
  · simp [Value.cells] at hcs
    obtain ⟨rfl, rfl, rfl⟩ := hcs
    exact ⟨.inl rfl, Nat.le_refl _, by omega⟩
  · simp [Value.cells] at hcs
    obtain ⟨rfl, rfl, rfl⟩ := hcs
    unfold maxLen at hm
    refine ⟨?_, hl, by omega⟩
    simp only [if_true] at hmm
    subst hmm
    rw [c38] at hel
    have each : ∀ i, i < m → ∃ f : Fv, f.Fits ∧ W.cell? (x.add (i * 4)) = some (.int .i64 f.tag) ∧ W.cell? (x.add (i * 4 + 1)) = some (.int .i64 f.kind) ∧ W.cell? (x.add (i * 4 + 2)) = some (.int .i64 f.n) ∧ W.cell? (x.add (i * 4 + 3)) = some (.string f.s) := fun i hi => by
      obtain ⟨cs, hc, ht⟩ := hel i hi
      obtain ⟨_, hlen, hcell⟩ := World.cells?_some hc
      obtain ⟨y0, y1, y2, y3, k, _, _, h0, h1, h2, h3⟩ := Go.Joins.trod_struct4 Tryd.underlying79 ht
      obtain ⟨z0, e0, _, w0⟩ := DataW.trod_int Tryd.underlying3 h0
      obtain ⟨z1, e1, _, w1⟩ := DataW.trod_int Tryd.underlying3 h1
      obtain ⟨z2, e2, _, w2⟩ := DataW.trod_int Tryd.underlying3 h2
      obtain ⟨s3, e3, _, w3⟩ := DataW.trod_string Tryd.underlying9 h3
      unfold maxLen at w3
      match cs, hlen with
      | [q0, q1, q2, q3], _ =>
        change List.take (Tryd.prog.cellsOf 3) (List.drop 0 [q0, q1, q2, q3]) = _ at e0
        change List.take (Tryd.prog.cellsOf 3) (List.drop 1 [q0, q1, q2, q3]) = _ at e1
        change List.take (Tryd.prog.cellsOf 3) (List.drop 2 [q0, q1, q2, q3]) = _ at e2
        change List.take (Tryd.prog.cellsOf 9) (List.drop 3 [q0, q1, q2, q3]) = _ at e3
        rw [c3] at e0 e1 e2
        rw [c9] at e3
        simp at e0 e1 e2 e3
        subst e0
        subst e1
        subst e2
        subst e3
        have a0 := hcell 0 (by omega)
        have a1 := hcell 1 (by omega)
        have a2 := hcell 2 (by omega)
        have a3 := hcell 3 (by omega)
        rw [Go.Deep.add_add] at a0 a1 a2 a3
        exact ⟨⟨z0, z1, z2, s3⟩, ⟨bounds_i64 w0, bounds_i64 w1, bounds_i64 w2, by omega⟩, a0, a1, a2, a3⟩
    by_cases h0 : len = 0
    · exact .inl h0
    · obtain ⟨b, off, spot⟩ := x
      have hspot : spot = none := by
        obtain ⟨f, _, h1, _⟩ := each 0 (by omega)
        simpa [Addr.add] using World.cell?_spot h1
      subst hspot
      refine .inr ⟨b, off, rfl, fun i hi => ?_⟩
      obtain ⟨f, hf, h1, h2, h3, h4⟩ := each i (by omega)
      rw [add_plain] at h1 h2 h3 h4
      exact ⟨f, hf, ⟨h1, by rw [Nat.add_assoc]; exact h2, by rw [Nat.add_assoc]; exact h3, by rw [Nat.add_assoc]; exact h4⟩⟩
/- a field that comes in by itself -/
set_option maxRecDepth 100000 in
theorem field_of {H : Type} {enc : TypeId × Value → H} {W : World} {base : Nat} {v : Value} {d : DataW H} {p : List MemPlace} (hval : Value.okWide Tryd.prog W .any base 79 v) (h : DataW.Trod enc Tryd.prog W 0 (fun _ => true) true 79 v d p) :
    ∃ f : Fv, v = .agg #[.int .i64 f.tag, .int .i64 f.kind, .int .i64 f.n, .string f.s] ∧ f.Fits := by
  have c38 : Tryd.prog.cellsOf 79 = 4 := by kernel_rfl
  have c3 : Tryd.prog.cellsOf 3 = 1 := by kernel_rfl
  have c9 : Tryd.prog.cellsOf 9 = 1 := by kernel_rfl
  obtain ⟨cs, rfl, hsz, _⟩ : ∃ cs, v = .agg cs ∧ cs.size = Tryd.prog.cellsOf 79 ∧ Row.okWide Tryd.prog W .any base 79 cs := by
    simpa [Value.okWide, Tryd.underlying79] using hval
  rw [c38] at hsz
  obtain ⟨fuel, ht⟩ := h
  obtain ⟨y0, y1, y2, y3, k, _, _, h0, h1, h2, h3⟩ := Go.Joins.trod_struct4 Tryd.underlying79 ht
  obtain ⟨z0, e0, _, w0⟩ := DataW.trod_int Tryd.underlying3 h0
  obtain ⟨z1, e1, _, w1⟩ := DataW.trod_int Tryd.underlying3 h1
  obtain ⟨z2, e2, _, w2⟩ := DataW.trod_int Tryd.underlying3 h2
  obtain ⟨s3, e3, _, w3⟩ := DataW.trod_string Tryd.underlying9 h3
  unfold maxLen at w3
  obtain ⟨l⟩ := cs
  match l, hsz with
  | [q0, q1, q2, q3], _ =>
    change List.take (Tryd.prog.cellsOf 3) (List.drop 0 [q0, q1, q2, q3]) = _ at e0
    change List.take (Tryd.prog.cellsOf 3) (List.drop 1 [q0, q1, q2, q3]) = _ at e1
    change List.take (Tryd.prog.cellsOf 3) (List.drop 2 [q0, q1, q2, q3]) = _ at e2
    change List.take (Tryd.prog.cellsOf 9) (List.drop 3 [q0, q1, q2, q3]) = _ at e3
    rw [c3] at e0 e1 e2
    rw [c9] at e3
    simp at e0 e1 e2 e3
    subst e0
    subst e1
    subst e2
    subst e3
    exact ⟨⟨z0, z1, z2, s3⟩, rfl, ⟨bounds_i64 w0, bounds_i64 w1, bounds_i64 w2, by omega⟩⟩
end Go.Proofs.YtealbeblkilibaaDoor.FI
/- Proved: the law's helper few answers a slice of its own with the first 25 fields, their texts cut. -/
namespace Go.Proofs.YtealbeblkilibaaDoor.FI
open Go.RowKit
theorem info38 : Tryd.prog.info? 79 = some Tryd.t79 := by kernel_rfl
def fcells (f : Fv) : List Value := [.int .i64 f.tag, .int .i64 f.kind, .int .i64 f.n, .string f.s]
theorem fcells_one (fs : List Fv) : ∀ v ∈ fs.flatMap fcells, v.oneCell' = true := fun v hv => by
  obtain ⟨f, _, hf⟩ := List.mem_flatMap.1 hv
  simp [fcells] at hf
  rcases hf with rfl | rfl | rfl | rfl <;> rfl
theorem fcells_length (fs : List Fv) : (fs.flatMap fcells).length = fs.length * 4 := by
  induction fs with
  | nil => rfl
  | cons f fs ih => rw [List.flatMap_cons, List.length_append, ih, List.length_cons]; simp [fcells]; omega
/- 'append(x, y)' of one field behind a slice of the call's own -/
theorem append_field {ops : Array Oper} {rest : List Oper} {o : Oper} {a : Act} {Q : Exit → Act → World → Prop} (hgd : o.guard = none) (s x : Operand)
    (ho : o.op = .call { callee := .builtin .append, args := #[s, x], argTypes := #[40, 40] }) (W : World) (N : Nat) (v : Value) (n : Nat) (fs : List Fv) (hs : a.eval s = v) (hown : W.ownsRow N 79 4 v n (fs.flatMap fcells))
    (ad : Addr) (c : Nat) (f : Fv) (hx : a.eval x = .slice (some ad) 1 c) (hnews : ∀ j u, (fcells f)[j]? = some u → W.cell? (ad.add j) = some u) (hb : n + 1 ≤ 40000) (hN : N ≤ W.heap.size)
    (h : ∀ v' w', w'.ownsRow N 79 4 v' (n + 1) ((fs ++ [f]).flatMap fcells) → Below N W w' → wpList Tryd.prog ops Q rest (a.put o.dst v') w') : wpList Tryd.prog ops Q (o :: rest) a W := by
  obtain ⟨v', w', hr, h2, h3, h4, h5⟩ := run_append_own_at (P := Tryd.prog) W N 40 o.type 79 Tryd.t79 (.agg #[.int .i64 0, .int .i64 0, .int .i64 0, .string ByteArray.empty]) 4 40 Tryd.underlying40 info38 rfl rfl rfl rfl (by omega) v n (fs.flatMap fcells) hown ad 1 c (fcells f) (by simp [fcells]) hnews (fun u hu => fcells_one [f] u (by simpa using hu)) (by unfold maxLen; omega) (by omega) hN
  refine wpList_plain hgd fun K hK => ?_
  unfold Oper.wp execOp
  simp only [ho, resolve, invoke, builtin, Sem.run_bind, Sem.run_pure, Result.andThen_ok, List.map_toArray, List.map_cons, List.map_nil, hs, hx, hr]
  refine hK _ _ (h v' w' (by simpa using h2) ((Below.refl _ _).grown h3 hN (fun k hk => ?_)))
  rcases hown.2 with ⟨hv, _⟩ | ⟨g, cap', cur, hv, hNg, _⟩
  · subst hv; cases hk
  · subst hv
    have : g = k := Option.some.inj hk
    omega
/- an equation that is kept from tactics -/
structure Is {α : Type} (a b : α) : Prop where
  eq : a = b
def fv0 : Fv := ⟨0, 0, 0, ByteArray.empty⟩
def FieldsL (w : World) (a : Option Addr) (len : Nat) (fs : List Fv) : Prop :=
  fs.length = len ∧ (∀ f ∈ fs, f.Fits) ∧ (len = 0 ∨ ∃ b off, a = some ⟨b, off, none⟩ ∧ ∀ i, i < len → FieldAt w b (off + i * 4) (fs.getD i fv0))
theorem FieldAt.below {w w' : World} {b off B : Nat} {f : Fv} (h : FieldAt w b off f) (hb : Below B w w') (hl : b < B) : FieldAt w' b off f :=
  ⟨(hb.cell (p := ⟨b, off, none⟩) hl).trans h.tag, (hb.cell (p := ⟨b, off + 1, none⟩) hl).trans h.kind, (hb.cell (p := ⟨b, off + 2, none⟩) hl).trans h.n, (hb.cell (p := ⟨b, off + 3, none⟩) hl).trans h.s⟩
theorem Fields.list {w : World} {a : Option Addr} {len : Nat} (h : Fields w a len) : ∃ fs, FieldsL w a len fs := by
  rcases h with h | ⟨b, off, ha, hc⟩
  · subst h; exact ⟨[], rfl, (fun f hf => by cases hf), .inl rfl⟩
  · haveI : Inhabited Fv := ⟨fv0⟩
    obtain ⟨F, hF⟩ := Go.Deep.choose_lt hc
    refine ⟨(List.range len).map F, by simp, fun f hf => ?_, .inr ⟨b, off, ha, fun i hi => ?_⟩⟩
    · obtain ⟨i, hi, rfl⟩ := List.mem_map.1 hf
      exact (hF i (List.mem_range.1 hi)).1
    · rw [List.getD_eq_getElem?_getD, List.getElem?_map, List.getElem?_range hi]
      exact (hF i hi).2
theorem owns_alloc {w : World} {N n : Nat} {v : Value} {vs : List Value} (h : w.ownsRow N 79 4 v n vs) (o : Obj) : (w.alloc o).ownsRow N 79 4 v n vs := by
  obtain ⟨h0, h1⟩ := h
  refine ⟨h0, ?_⟩
  rcases h1 with h1 | ⟨g, cap', cur, hv, hN, hh, r⟩
  · exact .inl h1
  · exact .inr ⟨g, cap', cur, hv, hN, (Below.heap_alloc w o g (Array.getElem?_eq_some_iff.1 hh).1).trans hh, r⟩
theorem size_alloc1 (w : World) (o : Obj) : (w.alloc o).heap.size = w.heap.size + 1 := by simp
theorem field_new (w : World) (f : Fv) : ∀ j u, (fcells f)[j]? = some u → (w.alloc (.cells #[.int .i64 f.tag, .int .i64 f.kind, .int .i64 f.n, .string f.s] 79)).cell? ((⟨w.heap.size, 0, none⟩ : Addr).add j) = some u := fun j u hj => by
  rw [Go.WideShapes.add_plain, cell_of_row _ _ (0 + j) _ 79 (0, 0) (heap_alloc_new w _), Nat.zero_add]
  show (fcells f).toArray[j]? = some u
  rw [List.getElem?_toArray]; exact hj
/- a field as few leaves it -/
def cut (f : Fv) : Fv := if f.s.size ≤ 4100 then f else { f with s := f.s.extract 0 4100 }
theorem cut_small {f : Fv} (h : f.s.size ≤ 4100) : cut f = f := by unfold cut; rw [if_pos h]
theorem cut_large {f : Fv} (h : ¬ f.s.size ≤ 4100) : cut f = { f with s := f.s.extract 0 4100 } := by unfold cut; rw [if_neg h]
theorem take_cut (fs : List Fv) (k : Nat) (hk : k < fs.length) : ((fs.take (k + 1)).map cut) = ((fs.take k).map cut) ++ [cut (fs.getD k fv0)] := by
  rw [List.take_succ_eq_append_getElem hk, List.map_append, List.getD_eq_getElem?_getD, List.getElem?_eq_getElem hk]; rfl
end Go.Proofs.YtealbeblkilibaaDoor.FI
/- Proved: a slice of fields of the call's own is read as its fields. -/
namespace Go.Proofs.YtealbeblkilibaaDoor.FI
open Go.RowKit
theorem flat_at : ∀ (fs : List Fv) (i j : Nat), i < fs.length → j < 4 → (fs.flatMap fcells)[i * 4 + j]? = (fcells (fs.getD i fv0))[j]?
  | [], i, j, hi, _ => by simp at hi
  | f :: fs, 0, j, _, hj => by
    rw [List.flatMap_cons, Nat.zero_mul, Nat.zero_add, List.getElem?_append_left (by simpa [fcells] using hj)]
    rfl
  | f :: fs, i + 1, j, hi, hj => by
    rw [List.flatMap_cons, List.getElem?_append_right (by simp [fcells]; omega)]
    have e : (i + 1) * 4 + j - (fcells f).length = i * 4 + j := by simp [fcells]; omega
    rw [e, flat_at fs i j (by simpa using hi) hj]
    rfl
theorem fieldsL_block {w : World} {b : Nat} {cs : Array Value} {t : TypeId} {fr : Nat × Nat} {fs : List Fv} (h : w.heap[b]? = some (.cells cs t fr)) (hcs : cs.toList.take (fs.length * 4) = fs.flatMap fcells) (hf : ∀ f ∈ fs, f.Fits) : FieldsL w (some ⟨b, 0, none⟩) fs.length fs := by
  refine ⟨rfl, hf, .inr ⟨b, 0, rfl, fun i hi => ?_⟩⟩
  have at_ : ∀ j, j < 4 → w.cell? ⟨b, 0 + i * 4 + j, none⟩ = (fcells (fs.getD i fv0))[j]? := fun j hj => by
    rw [cell_of_row w b _ cs t fr h, Nat.zero_add, ← Array.getElem?_toList, ← flat_at fs i j hi hj, ← hcs, List.getElem?_take_of_lt (by omega)]
  exact ⟨at_ 0 (by omega), at_ 1 (by omega), at_ 2 (by omega), at_ 3 (by omega)⟩
theorem own_fields {w : World} {N n : Nat} {v : Value} {fs : List Fv} (h : w.ownsRow N 79 4 v n (fs.flatMap fcells)) (hf : ∀ f ∈ fs, f.Fits) : ∃ a cap, v = .slice a n cap ∧ n ≤ cap ∧ FieldsL w a n fs := by
  have hl : fs.length = n := by
    have := h.1
    rw [fcells_length] at this
    omega
  subst hl
  rcases h.2 with ⟨hv, hn⟩ | ⟨g, cap, cur, hv, _, hh, hc, _, _, ht⟩
  · rw [hn]
    exact ⟨none, 0, hv, Nat.le_refl _, by simpa using hn, hf, .inl rfl⟩
  · exact ⟨_, cap, hv, hc, fieldsL_block hh ht hf⟩
theorem FieldsL.below {w w' : World} {a : Option Addr} {len : Nat} {fs : List Fv} (h : FieldsL w a len fs) (hb : Below w.heap.size w w') : FieldsL w' a len fs := by
  refine ⟨h.1, h.2.1, ?_⟩
  rcases h.2.2 with h0 | ⟨b, off, e, hc⟩
  · exact .inl h0
  · exact .inr ⟨b, off, e, fun i hi => (hc i hi).below hb (block_lt_of_cell (hc i hi).tag)⟩
end Go.Proofs.YtealbeblkilibaaDoor.FI
/- Proved: plain arithmetic of records of fields as bytes (stage 4): a number's bytes and a field's are prefix codes; records are read back; cuts; fields put one by one. No program is named. -/
namespace Fi
/- a number's bytes: seven bits a byte, the lowest first -/
def varint (n : Nat) : List Nat := if n < 128 then [n] else (128 + n % 128) :: varint (n / 128)
theorem varint_small {n : Nat} (h : n < 128) : varint n = [n] := by rw [varint, if_pos h]
theorem varint_large {n : Nat} (h : ¬ n < 128) : varint n = (128 + n % 128) :: varint (n / 128) := by rw [varint, if_neg h]
theorem varint_ne (n : Nat) : varint n ≠ [] := by
  by_cases h : n < 128
  · rw [varint_small h]; simp
  · rw [varint_large h]; simp
theorem varint_lt (n : Nat) : ∀ x ∈ varint n, x < 256 := by
  induction n using Nat.strongRecOn with
  | ind n ih =>
    by_cases h : n < 128
    · rw [varint_small h]
      intro x hx
      have := List.mem_singleton.1 hx; omega
    · rw [varint_large h]
      intro x hx
      rcases List.mem_cons.1 hx with rfl | hx
      · omega
      · exact ih (n / 128) (by omega) x hx
theorem varint_length (k n : Nat) (h : n < 128 ^ (k + 1)) : (varint n).length ≤ k + 1 := by
  induction k generalizing n with
  | zero => rw [varint_small (by simpa using h)]; simp
  | succ k ih =>
    by_cases h1 : n < 128
    · rw [varint_small h1]; simp
    · rw [varint_large h1, List.length_cons]
      have : n / 128 < 128 ^ (k + 1) := by
        rw [Nat.div_lt_iff_lt_mul (by omega), ← Nat.pow_succ]; exact h
      have := ih _ this; omega
theorem varint_inj (n : Nat) : ∀ (m : Nat) (r r' : List Nat), varint n ++ r = varint m ++ r' → n = m ∧ r = r' := by
  induction n using Nat.strongRecOn with
  | ind n ih =>
    intro m r r' e
    by_cases h : n < 128
    · by_cases h' : m < 128
      · rw [varint_small h, varint_small h'] at e
        have e := List.cons.inj e
        exact ⟨e.1, by simpa using e.2⟩
      · rw [varint_small h, varint_large h'] at e
        have e := (List.cons.inj e).1
        omega
    · by_cases h' : m < 128
      · rw [varint_large h, varint_small h'] at e
        have e := (List.cons.inj e).1
        omega
      · rw [varint_large h, varint_large h'] at e
        have e := List.cons.inj e
        obtain ⟨h1, h2⟩ := ih (n / 128) (by omega) (m / 128) r r' e.2
        exact ⟨by have := e.1; omega, h2⟩
/- how a number is read -/
def unv : List Nat → Option (Nat × List Nat)
  | [] => none
  | b :: r => if b < 128 then some (b, r) else match unv r with
    | none => none
    | some (q, r') => if q = 0 then none else some (b - 128 + 128 * q, r')
theorem unv_varint (n : Nat) : ∀ r, unv (varint n ++ r) = some (n, r) := by
  induction n using Nat.strongRecOn with
  | ind n ih =>
    intro r
    by_cases h : n < 128
    · rw [varint_small h]; simp [unv, h]
    · rw [varint_large h, List.cons_append, unv, if_neg (by omega), ih (n / 128) (by omega) r]
      have h0 : ¬ n / 128 = 0 := by omega
      simp only [h0, if_false]
      congr 2
      omega
theorem unv_some : ∀ (s : List Nat) (n : Nat) (r : List Nat), (∀ x ∈ s, x < 256) → unv s = some (n, r) → s = varint n ++ r
  | [], _, _, _, h => by cases h
  | b :: t, n, r, h8, h => by
    unfold unv at h
    by_cases hb : b < 128
    · rw [if_pos hb] at h
      cases h
      rw [varint_small hb]; rfl
    · rw [if_neg hb] at h
      cases hu : unv t with
      | none => rw [hu] at h; cases h
      | some p =>
        obtain ⟨q, r'⟩ := p
        rw [hu] at h
        by_cases hq : q = 0
        · simp [hq] at h
        · simp only [hq, if_false] at h
          have hb8 := h8 b List.mem_cons_self
          cases h
          have e := unv_some t q r (fun x hx => h8 x (List.mem_cons_of_mem _ hx)) hu
          rw [varint_large (by omega), List.cons_append, show (b - 128 + 128 * q) / 128 = q by omega, ← e]
          congr 1
          omega
theorem unv_iff {s : List Nat} (h8 : ∀ x ∈ s, x < 256) (n : Nat) (r : List Nat) : unv s = some (n, r) ↔ s = varint n ++ r :=
  ⟨unv_some s n r h8, fun e => by rw [e]; exact unv_varint n r⟩
/- a field -/
structure Fd where
  tag : Nat
  kind : Nat
  n : Nat
  s : List Nat
structure Ok (f : Fd) : Prop where
  tag1 : 1 ≤ f.tag
  tag63 : f.tag ≤ 63
  kind : f.kind ≤ 1
  num : f.n ≤ 4611686018427387904
  text0 : f.kind = 0 → f.s = []
  num0 : f.kind = 1 → f.n = 0
  len : f.s.length ≤ 4096
  byte : ∀ x ∈ f.s, x < 256
def fb (f : Fd) : List Nat := (2 * f.tag + f.kind) :: (if f.kind = 0 then varint f.n else varint f.s.length ++ f.s)
theorem fb_two {f : Fd} : 2 ≤ (fb f).length := by
  unfold fb
  rw [List.length_cons]
  have h : ∀ n, 1 ≤ (varint n).length := fun n => by
    have := varint_ne n
    cases h : varint n with
    | nil => exact absurd h this
    | cons a r => simp
  split
  · have := h f.n; omega
  · have := h f.s.length
    rw [List.length_append]; omega
theorem fb_lt {f : Fd} (h : Ok f) : ∀ x ∈ fb f, x < 256 := by
  intro x hx
  unfold fb at hx
  rcases List.mem_cons.1 hx with rfl | hx
  · have := h.tag63; have := h.kind; omega
  · split at hx
    · exact varint_lt _ x hx
    · rcases List.mem_append.1 hx with hx | hx
      · exact varint_lt _ x hx
      · exact h.byte x hx
theorem fb_inj {f g : Fd} {r r' : List Nat} (hf : Ok f) (hg : Ok g) (e : fb f ++ r = fb g ++ r') : f = g ∧ r = r' := by
  have h1 := hf.kind
  have h2 := hg.kind
  obtain ⟨ft, fk, fn, fs⟩ := f
  obtain ⟨gt, gk, gn, gs⟩ := g
  unfold fb at e
  simp only at h1 h2
  rw [List.cons_append, List.cons_append] at e
  obtain ⟨e1, e2⟩ := List.cons.inj e
  simp only at e1 e2
  have hk : fk = gk := by omega
  have ht : ft = gt := by omega
  subst hk
  subst ht
  by_cases h0 : fk = 0
  · rw [if_pos h0, if_pos h0] at e2
    obtain ⟨e3, e4⟩ := varint_inj _ _ _ _ e2
    have a := hf.text0 h0
    have b := hg.text0 h0
    simp only at a b
    subst a
    subst b
    subst e3
    exact ⟨rfl, e4⟩
  · rw [if_neg h0, if_neg h0, List.append_assoc, List.append_assoc] at e2
    obtain ⟨e3, e4⟩ := varint_inj _ _ _ _ e2
    obtain ⟨e5, e6⟩ := List.append_inj e4 e3
    have a := hf.num0 (show fk = 1 by omega)
    have b := hg.num0 (show fk = 1 by omega)
    simp only at a b
    subst a
    subst b
    subst e5
    exact ⟨rfl, e6⟩
def enc (l : List Fd) : List Nat := l.flatMap fb
theorem enc_cons (f : Fd) (l : List Fd) : enc (f :: l) = fb f ++ enc l := by simp [enc]
theorem enc_append (a b : List Fd) : enc (a ++ b) = enc a ++ enc b := by simp [enc]
theorem enc_nil_iff (l : List Fd) : enc l = [] ↔ l = [] := by
  cases l with
  | nil => simp [enc]
  | cons f l =>
    rw [enc_cons]
    have := @fb_two f
    constructor
    · intro h
      have h1 := congrArg List.length h
      rw [List.length_append, List.length_nil] at h1
      omega
    · intro h; cases h
theorem enc_inj : ∀ (l m : List Fd), (∀ f ∈ l, Ok f) → (∀ f ∈ m, Ok f) → enc l = enc m → l = m
  | [], m, _, _, e => ((enc_nil_iff m).1 e.symm).symm
  | f :: l, [], _, _, e => (enc_nil_iff _).1 e
  | f :: l, g :: m, hl, hm, e => by
    rw [enc_cons, enc_cons] at e
    obtain ⟨e1, e2⟩ := fb_inj (hl f List.mem_cons_self) (hm g List.mem_cons_self) e
    rw [e1, enc_inj l m (fun x hx => hl x (List.mem_cons_of_mem _ hx)) (fun x hx => hm x (List.mem_cons_of_mem _ hx)) e2]
/- cut within the last field: nobody's bytes -/
theorem cut_none {f : Fd} (hf : Ok f) (k : Nat) (h0 : 0 < k) (hk : k < (fb f).length) : ∀ (a m : List Fd), (∀ x ∈ a, Ok x) → (∀ x ∈ m, Ok x) → enc m ≠ enc a ++ (fb f).take k
  | [], [], _, _ => by
    intro e
    have := congrArg List.length e
    simp [enc] at this
    omega
  | [], g :: m, _, hm => by
    intro e
    rw [enc_cons] at e
    have e1 : fb g ++ (enc m ++ (fb f).drop k) = fb f ++ [] := by
      rw [← List.append_assoc, e]; simp [enc]
    obtain ⟨_, e2⟩ := fb_inj (hm g List.mem_cons_self) hf e1
    have := congrArg List.length e2
    simp at this
    omega
  | b :: a, [], ha, _ => by
    intro e
    rw [enc_cons] at e
    have := congrArg List.length e
    have := @fb_two b
    simp [enc] at *
    omega
  | b :: a, g :: m, ha, hm => by
    intro e
    rw [enc_cons, enc_cons, List.append_assoc] at e
    obtain ⟨_, e2⟩ := fb_inj (hm g List.mem_cons_self) (ha b List.mem_cons_self) e
    exact cut_none hf k h0 hk a m (fun x hx => ha x (List.mem_cons_of_mem _ hx)) (fun x hx => hm x (List.mem_cons_of_mem _ hx)) e2
/- tags that do not fall -/
def Up : List Fd → Prop
  | [] => True
  | [_] => True
  | f :: g :: l => f.tag ≤ g.tag ∧ Up (g :: l)
/- a field put behind those whose tags are not above its own -/
def put : List Fd → Fd → List Fd
  | [], f => [f]
  | g :: l, f => if f.tag < g.tag then f :: g :: l else g :: put l f
theorem put_length : ∀ (l : List Fd) (f : Fd), (put l f).length = l.length + 1
  | [], _ => rfl
  | g :: l, f => by
    unfold put
    split
    · simp
    · simp [put_length l f]
theorem put_mem : ∀ (l : List Fd) (f x : Fd), x ∈ put l f ↔ x = f ∨ x ∈ l
  | [], f, x => by simp [put]
  | g :: l, f, x => by
    unfold put
    split
    · simp
    · rw [List.mem_cons, put_mem l f x, List.mem_cons]
      constructor
      · rintro (h | h | h)
        · exact .inr (.inl h)
        · exact .inl h
        · exact .inr (.inr h)
      · rintro (h | h | h)
        · exact .inr (.inl h)
        · exact .inl h
        · exact .inr (.inr h)
theorem put_head (g f : Fd) (l : List Fd) (h : ¬ f.tag < g.tag) : ∃ y t, put l f = y :: t ∧ ((∀ z ∈ l.head?, g.tag ≤ z.tag) → g.tag ≤ y.tag) := by
  cases l with
  | nil => exact ⟨f, [], rfl, fun _ => by omega⟩
  | cons z l =>
    unfold put
    split
    · exact ⟨f, z :: l, rfl, fun _ => by omega⟩
    · exact ⟨z, put l f, rfl, fun hz => hz z (by simp)⟩
theorem put_up : ∀ (l : List Fd) (f : Fd), Up l → Up (put l f)
  | [], _, _ => trivial
  | g :: l, f, h => by
    unfold put
    split
    · rename_i hlt
      exact ⟨by omega, h⟩
    · rename_i hlt
      have hl : Up l := by
        cases l with
        | nil => trivial
        | cons z l => exact h.2
      have ih := put_up l f hl
      obtain ⟨y, t, e, hy⟩ := put_head g f l hlt
      rw [e] at ih ⊢
      refine ⟨hy fun z hz => ?_, ih⟩
      cases l with
      | nil => cases hz
      | cons z' l =>
        have : z' = z := by simpa using hz
        subst this
        exact h.1
/- of the fields of one tag the new one stands last -/
theorem up_le {g : Fd} : ∀ (l : List Fd), Up (g :: l) → ∀ x ∈ l, g.tag ≤ x.tag
  | [], _, x, hx => by cases hx
  | z :: l, h, x, hx => by
    rcases List.mem_cons.1 hx with rfl | hx
    · exact h.1
    · have := up_le (g := z) l h.2 x hx
      have := h.1
      omega
theorem put_texts (p : Fd → Bool) (f : Fd) (hp : ∀ x, p x = true → x.tag = f.tag) : ∀ (l : List Fd), Up l → (put l f).filter p = l.filter p ++ (if p f then [f] else [])
  | [], _ => by
    by_cases h : p f = true <;> simp [put, h]
  | g :: l, h => by
    have hl : Up l := by
      cases l with
      | nil => trivial
      | cons z l => exact h.2
    unfold put
    split
    · rename_i hlt
      have none : (g :: l).filter p = [] := by
        rw [List.filter_eq_nil_iff]
        intro x hx hpx
        have := hp x hpx
        rcases List.mem_cons.1 hx with rfl | hx
        · omega
        · have := up_le l h x hx; omega
      rw [List.filter_cons, none]
      by_cases hf : p f = true <;> simp [hf]
    · rw [List.filter_cons, put_texts p f hp l hl, List.filter_cons]
      by_cases hg : p g = true <;> simp [hg]
/- two records, one behind the other -/
theorem up_append : ∀ (a b : List Fd) (x y : Fd), Up (a ++ [x]) → Up (y :: b) → (Up ((a ++ [x]) ++ (y :: b)) ↔ x.tag ≤ y.tag)
  | [], b, x, y, _, hb => by
    simp only [List.nil_append, List.singleton_append]
    exact ⟨fun h => h.1, fun h => ⟨h, hb⟩⟩
  | [z], b, x, y, ha, hb => by
    show Up (z :: x :: y :: b) ↔ _
    exact ⟨fun h => h.2.1, fun h => ⟨ha.1, h, hb⟩⟩
  | z :: w :: a, b, x, y, ha, hb => by
    have ih := up_append (w :: a) b x y ha.2 hb
    show Up (z :: w :: (a ++ [x] ++ (y :: b))) ↔ _
    exact ⟨fun h => ih.1 h.2, fun h => ⟨ha.1, ih.2 h⟩⟩
end Fi
/- Proved: the document's number answers the bytes of a number, in a slice of the call's own. -/
namespace Go.Proofs.YtealbeblkilibaaDoor.FI
open Go.RowKit
def V8 (n : Nat) : Value := .int .u8 (n : Nat)
theorem info5 : Tryd.prog.info? 5 = some Tryd.t5 := by kernel_rfl
theorem v8_one (l : List Nat) : ∀ v ∈ l.map V8, v.oneCell' = true := fun v hv => by
  obtain ⟨n, _, rfl⟩ := List.mem_map.1 hv
  rfl
theorem append_bytes {ops : Array Oper} {rest : List Oper} {o : Oper} {a : Act} {Q : Exit → Act → World → Prop} (hgd : o.guard = none) (s x : Operand)
    (ho : o.op = .call { callee := .builtin .append, args := #[s, x], argTypes := #[92, 92] }) (W : World) (N : Nat) (v : Value) (n : Nat) (vs : List Nat) (hs : a.eval s = v) (hown : W.ownsRow N 5 1 v n (vs.map V8))
    (ad : Addr) (m c : Nat) (ds : List Nat) (hx : a.eval x = .slice (some ad) m c) (hl : ds.length = m) (hnews : ∀ j u, (ds.map V8)[j]? = some u → W.cell? (ad.add j) = some u) (hb : n + m ≤ 400000) (hN : N ≤ W.heap.size)
    (h : ∀ v' w', w'.ownsRow N 5 1 v' (n + m) ((vs ++ ds).map V8) → Below N W w' → wpList Tryd.prog ops Q rest (a.put o.dst v') w') : wpList Tryd.prog ops Q (o :: rest) a W := by
  obtain ⟨v', w', hr, h2, h3, h4, h5⟩ := run_append_own_at (P := Tryd.prog) W N 92 o.type 5 Tryd.t5 (.int .u8 0) 1 1 Tryd.underlying92 info5 rfl rfl rfl rfl (by omega) v n (vs.map V8) hown ad m c (ds.map V8) (by simpa using hl) hnews (v8_one ds) (by unfold maxLen; omega) (by omega) hN
  refine wpList_plain hgd fun K hK => ?_
  unfold Oper.wp execOp
  simp only [ho, resolve, invoke, builtin, Sem.run_bind, Sem.run_pure, Result.andThen_ok, List.map_toArray, List.map_cons, List.map_nil, hs, hx, hr]
  rw [← List.map_append] at h2
  refine hK _ _ (h v' w' h2 ((Below.refl _ _).grown h3 hN (fun k hk => ?_)))
  rcases hown.2 with ⟨hv, _⟩ | ⟨g, cap', cur, hv, hNg, _⟩
  · subst hv; cases hk
  · subst hv
    have : g = k := Option.some.inj hk
    omega
/- a slice of the call's own that has bytes: where it lies -/
theorem own_at {w : World} {N n : Nat} {v : Value} {vs : List Nat} (h : w.ownsRow N 5 1 v n (vs.map V8)) (hn : 0 < n) : ∃ g cap, v = .slice (some ⟨g, 0, none⟩) n cap ∧ N ≤ g ∧ g < w.heap.size ∧ vs.length = n ∧ ∀ j u, (vs.map V8)[j]? = some u → w.cell? ((⟨g, 0, none⟩ : Addr).add j) = some u := by
  obtain ⟨h0, h1⟩ := h
  rcases h1 with ⟨_, h1⟩ | ⟨g, cap', cur, hv, hN, hh, hc, hm, hsz, ht⟩
  · omega
  · have hl : vs.length = n := by simpa using h0
    refine ⟨g, cap', hv, hN, (Array.getElem?_eq_some_iff.1 hh).1, hl, fun j u hj => ?_⟩
    have hj' : j < n := by
      have := (List.getElem?_eq_some_iff.1 hj).1
      simp at this; omega
    rw [Go.WideShapes.add_plain, cell_of_row w g (0 + j) cur 5 (0, 0) hh, Nat.zero_add, ← Array.getElem?_toList]
    have e : (cur.toList.take (n * 1))[j]? = (vs.map V8)[j]? := by rw [ht]
    rw [Nat.mul_one, List.getElem?_take_of_lt hj'] at e
    rw [e]; exact hj
theorem owns8_below {w w' : World} {N B n : Nat} {v : Value} {vs : List Value} (h : w.ownsRow N 5 1 v n vs) (hb : Below B w w') (hB : B = w.heap.size) : w'.ownsRow N 5 1 v n vs := by
  obtain ⟨h0, h1⟩ := h
  refine ⟨h0, ?_⟩
  rcases h1 with h1 | ⟨g, cap', cur, hv, hN, hh, r⟩
  · exact .inl h1
  · exact .inr ⟨g, cap', cur, hv, hN, (hb.block g (by subst hB; exact (Array.getElem?_eq_some_iff.1 hh).1)).trans hh, r⟩
theorem one_own (w : World) (z : Int) (n : Nat) (hz : z = (n : Int)) : (w.alloc (.cells #[.int .u8 z] 5)).ownsRow w.heap.size 5 1 (.slice (some ⟨w.heap.size, 0, none⟩) 1 1) 1 ([n].map V8) := by
  subst hz
  exact ⟨rfl, .inr ⟨w.heap.size, 1, #[.int .u8 n], rfl, Nat.le_refl _, heap_alloc_new w _, Nat.le_refl _, by unfold maxLen; omega, rfl, rfl⟩⟩
theorem varint_room (n : Nat) (h : n ≤ 9223372036854775807) : (Fi.varint n).length ≤ 9 := by
  refine Fi.varint_length 8 n ?_
  have : (128 : Nat) ^ (8 + 1) = 9223372036854775808 := by decide
  omega
end Go.Proofs.YtealbeblkilibaaDoor.FI
/- Proved: bytes of strings as lists of numbers; 'append' of bytes and of a string's bytes behind a slice of the call's own; 'string(b)'. -/
namespace Go.Proofs.YtealbeblkilibaaDoor.FI
open Go.RowKit
def bl (s : ByteArray) : List Nat := s.data.toList.map UInt8.toNat
def tb (v : List Nat) : ByteArray := ⟨(v.map UInt8.ofNat).toArray⟩
theorem bl_length (s : ByteArray) : (bl s).length = s.size := by
  unfold bl; rw [List.length_map, Array.length_toList]; rfl
theorem bl_lt (s : ByteArray) : ∀ x ∈ bl s, x < 256 := fun x hx => by
  obtain ⟨b, _, rfl⟩ := List.mem_map.1 hx
  exact b.toNat_lt
theorem tb_bl (s : ByteArray) : tb (bl s) = s := by
  unfold tb bl
  obtain ⟨⟨l⟩⟩ := s
  rw [List.map_map]
  have : (UInt8.ofNat ∘ UInt8.toNat) = id := by funext x; simp
  rw [this]; simp
theorem bl_tb {v : List Nat} (h : ∀ x ∈ v, x < 256) : bl (tb v) = v := by
  unfold tb bl
  simp only [List.map_map]
  conv => rhs; rw [← List.map_id v]
  refine List.map_congr_left fun x hx => ?_
  simp [Nat.mod_eq_of_lt (h x hx)]
theorem bl_inj {s t : ByteArray} (h : bl s = bl t) : s = t := by rw [← tb_bl s, h, tb_bl]
theorem tb_size (v : List Nat) : (tb v).size = v.length := by
  show (v.map UInt8.ofNat).toArray.size = _
  simp
theorem tb_nil : tb [] = ByteArray.empty := rfl
theorem bl_empty : bl ByteArray.empty = [] := rfl
theorem bl_nil_iff (s : ByteArray) : bl s = [] ↔ s = ByteArray.empty := ⟨fun h => bl_inj (by rw [h]; rfl), fun h => by rw [h]; rfl⟩
theorem strCells_bl (s : ByteArray) : Lib.strCells s = (bl s).map V8 := by
  unfold Lib.strCells bl V8
  rw [List.map_map]; rfl
/- what an append to a slice of the call's own turns: that slice's block, if any, and new blocks -/
structure Grew (w : World) (v : Value) (w' : World) (v' : Value) : Prop where
  by_ : w.grownBy w' v.ownBlock
  row : v'.ownBlock = v.ownBlock ∨ ∃ g, v'.ownBlock = some g ∧ w.heap.size ≤ g
theorem Grew.refl (w : World) (v : Value) : Grew w v w v := ⟨⟨rfl, rfl, rfl, Nat.le_refl _, fun _ _ _ => rfl⟩, .inl rfl⟩
theorem Grew.trans {w w1 w2 : World} {v v1 v2 : Value} (h : Grew w v w1 v1) (k : Grew w1 v1 w2 v2) : Grew w v w2 v2 := by
  refine ⟨⟨k.by_.os.trans h.by_.os, k.by_.tape.trans h.by_.tape, k.by_.output.trans h.by_.output, Nat.le_trans h.by_.size k.by_.size, fun i hi hne => ?_⟩, ?_⟩
  · refine (k.by_.block i (Nat.lt_of_lt_of_le hi h.by_.size) ?_).trans (h.by_.block i hi hne)
    rcases h.row with e | ⟨g, e, hg⟩
    · rw [e]; exact hne
    · rw [e]; intro he; have := Option.some.inj he; omega
  · rcases k.row with e | ⟨g, e, hg⟩
    · rw [e]; exact h.row
    · exact .inr ⟨g, e, Nat.le_trans h.by_.size hg⟩
theorem Grew.below {w w' : World} {v v' : Value} {N n : Nat} {vs : List Value} {e : TypeId} {k : Nat} (h : Grew w v w' v') (hown : w.ownsRow N e k v n vs) (hN : N ≤ w.heap.size) : Below N w w' := by
  refine (Below.refl _ _).grown h.by_ hN (fun k hk => ?_)
  rcases hown.2 with ⟨hv, _⟩ | ⟨g, cap', cur, hv, hNg, _⟩
  · subst hv; cases hk
  · subst hv
    have : g = k := Option.some.inj hk
    omega
theorem Grew.alloc {w w' : World} {v v' : Value} (h : Grew w v w' v') (o : Obj) : Grew w v (w'.alloc o) v' :=
  ⟨⟨h.by_.os, h.by_.tape, h.by_.output, by have := h.by_.size; simp; omega, fun i hi hne => (Below.heap_alloc _ _ _ (by have := h.by_.size; omega)).trans (h.by_.block i hi hne)⟩, h.row⟩
/- the row of a value that owns one: it lies there already -/
theorem own_row {w : World} {N n : Nat} {v : Value} {vs : List Value} {e : TypeId} {k : Nat} (h : w.ownsRow N e k v n vs) {g : Nat} (hg : v.ownBlock = some g) : N ≤ g ∧ g < w.heap.size := by
  rcases h.2 with ⟨hv, _⟩ | ⟨g', cap', cur, hv, hNg, hh, _⟩
  · subst hv; cases hg
  · subst hv
    have : g' = g := Option.some.inj hg
    subst this
    exact ⟨hNg, (Array.getElem?_eq_some_iff.1 hh).1⟩
/- a cell of another block is as it was -/
theorem Grew.cell {w w' : World} {v v' : Value} (h : Grew w v w' v') {p : Addr} {x : Value} (hp : w.cell? p = some x) (hne : some p.block ≠ v.ownBlock) : w'.cell? p = some x :=
  (World.cell?_of_block (w := w) (h.by_.block p.block (block_lt_of_cell hp) hne)).trans hp
theorem own_ne {w : World} {N n : Nat} {v : Value} {vs : List Value} {e : TypeId} {k : Nat} (h : w.ownsRow N e k v n vs) {b : Nat} (hb : w.heap.size ≤ b) : some b ≠ v.ownBlock := fun e => by
  have := own_row h e.symm
  omega
theorem run_bytes (w : World) (N : Nat) (v : Value) (n : Nat) (vs : List Nat) (ty : TypeId) (hown : w.ownsRow N 5 1 v n (vs.map V8)) (ad : Addr) (m c : Nat) (ds : List Nat) (hl : ds.length = m) (hnews : ∀ j u, (ds.map V8)[j]? = some u → w.cell? (ad.add j) = some u) (hb : n + m ≤ 400000) (hN : N ≤ w.heap.size) :
    ∃ v' w', (Builtin.append_ #[92, 92] ty #[v, .slice (some ad) m c]).run Tryd.prog w = .ok v' w' ∧ w'.ownsRow N 5 1 v' (n + m) ((vs ++ ds).map V8) ∧ Grew w v w' v' := by
  obtain ⟨v', w', hr, h2, h3, h4, h5⟩ := run_append_own_at (P := Tryd.prog) w N 92 ty 5 Tryd.t5 (.int .u8 0) 1 1 Tryd.underlying92 info5 rfl rfl rfl rfl (by omega) v n (vs.map V8) hown ad m c (ds.map V8) (by simpa using hl) hnews (v8_one ds) (by unfold maxLen; omega) (by omega) hN
  rw [← List.map_append] at h2
  exact ⟨v', w', hr, h2, h3, h5.imp id (fun h => ⟨_, h, Nat.le_refl _⟩)⟩
theorem run_text (w : World) (N : Nat) (v : Value) (n : Nat) (vs : List Nat) (ty : TypeId) (hown : w.ownsRow N 5 1 v n (vs.map V8)) (t : ByteArray) (hb : n + t.size ≤ 400000) (hN : N ≤ w.heap.size) :
    ∃ v' w', (Builtin.append_ #[92, 9] ty #[v, .string t]).run Tryd.prog w = .ok v' w' ∧ w'.ownsRow N 5 1 v' (n + t.size) ((vs ++ bl t).map V8) ∧ Grew w v w' v' := by
  obtain ⟨v', w', hr, h2, h3, h4⟩ := Lib.run_append_own_string (P := Tryd.prog) w N 92 9 ty 5 Tryd.t5 Tryd.underlying92 Tryd.underlying9 info5 rfl rfl rfl v n _ hown t (by unfold maxLen; omega) (by omega) hN
  rw [strCells_bl, ← List.map_append] at h2
  refine ⟨v', w', hr, h2, h3, ?_⟩
  have hxl : (vs.map V8).length = n := by simpa using hown.1
  rcases hown.2 with ⟨rfl, rfl⟩ | ⟨g, cap, cur, rfl, hbg, hg, hnc, hcm, hcs, htake⟩
  · by_cases hm : t.size = 0
    · exact .inl (by rw [h4.2 ⟨rfl, hm⟩])
    · have e := run_append_nil_string (P := Tryd.prog) w 92 9 ty 5 Tryd.t5 (.int .u8 0) Tryd.underlying92 Tryd.underlying9 info5 rfl t (by omega) (by omega) (by show _ * 1 ≤ _; omega)
      rw [hr] at e
      cases e
      exact .inr ⟨_, rfl, Nat.le_refl _⟩
  · by_cases hroom : n + t.size ≤ cap
    · have e := Lib.run_append_room_string (P := Tryd.prog) w 92 9 ty 5 Tryd.t5 Tryd.underlying92 Tryd.underlying9 info5 rfl g n cap cur hg t hroom (by omega)
      rw [hr] at e
      cases e
      exact .inl rfl
    · have e := Lib.run_append_grow_string (P := Tryd.prog) w 92 9 ty 5 Tryd.t5 (.int .u8 0) Tryd.underlying92 Tryd.underlying9 info5 rfl ⟨g, 0, none⟩ n cap (vs.map V8) (by rw [show Tryd.t5.size = 1 from rfl]; simpa using hxl) (hown.cells (g := g) rfl) t (by omega) (by omega) (by rw [show Tryd.t5.bytes = 1 from rfl]; exact growslice_fits (by omega) (by omega))
      rw [hr] at e
      cases e
      exact .inr ⟨_, rfl, Nat.le_refl _⟩
/- 'append(b, c...)' of bytes; 'append(b, s...)', s a string: as one operation of a list, and as one step of a statement whose order is drawn -/
theorem step_bytes {o : Oper} {a : Act} {w : World} {K : Act → World → Prop} {Q : Exit → Act → World → Prop} (d : Option Tmp) (hd : o.dst = d) (s x : Operand)
    (ho : o.op = .call { callee := .builtin .append, args := #[s, x], argTypes := #[92, 92] }) (N : Nat) (v : Value) (n : Nat) (vs : List Nat) (hs : a.eval s = v) (hown : w.ownsRow N 5 1 v n (vs.map V8))
    (ad : Addr) (m c : Nat) (ds : List Nat) (hx : a.eval x = .slice (some ad) m c) (hl : ds.length = m) (hnews : ∀ j u, (ds.map V8)[j]? = some u → w.cell? (ad.add j) = some u) (hb : n + m ≤ 400000) (hN : N ≤ w.heap.size)
    (h : ∀ v' w', w'.ownsRow N 5 1 v' (n + m) ((vs ++ ds).map V8) → Grew w v w' v' → K (a.put d v') w') : Oper.wp Tryd.prog o a w K Q := by
  obtain ⟨v', w', hr, h2, h3⟩ := run_bytes w N v n vs o.type hown ad m c ds hl hnews hb hN
  subst hd
  unfold Oper.wp execOp
  simp only [ho, resolve, invoke, builtin, Sem.run_bind, Sem.run_pure, Result.andThen_ok, List.map_toArray, List.map_cons, List.map_nil, hs, hx, hr]
  exact h v' w' h2 h3
theorem step_text {o : Oper} {a : Act} {w : World} {K : Act → World → Prop} {Q : Exit → Act → World → Prop} (d : Option Tmp) (hd : o.dst = d) (s x : Operand)
    (ho : o.op = .call { callee := .builtin .append, args := #[s, x], argTypes := #[92, 9] }) (N : Nat) (v : Value) (n : Nat) (vs : List Nat) (hs : a.eval s = v) (hown : w.ownsRow N 5 1 v n (vs.map V8))
    (t : ByteArray) (hx : a.eval x = .string t) (hb : n + t.size ≤ 400000) (hN : N ≤ w.heap.size)
    (h : ∀ v' w', w'.ownsRow N 5 1 v' (n + t.size) ((vs ++ bl t).map V8) → Grew w v w' v' → K (a.put d v') w') : Oper.wp Tryd.prog o a w K Q := by
  obtain ⟨v', w', hr, h2, h3⟩ := run_text w N v n vs o.type hown t hb hN
  subst hd
  unfold Oper.wp execOp
  simp only [ho, resolve, invoke, builtin, Sem.run_bind, Sem.run_pure, Result.andThen_ok, List.map_toArray, List.map_cons, List.map_nil, hs, hx, hr]
  exact h v' w' h2 h3
theorem app_bytes {ops : Array Oper} {rest : List Oper} {o : Oper} {a : Act} {Q : Exit → Act → World → Prop} (hgd : o.guard = none) (s x : Operand)
    (ho : o.op = .call { callee := .builtin .append, args := #[s, x], argTypes := #[92, 92] }) (W : World) (N : Nat) (v : Value) (n : Nat) (vs : List Nat) (hs : a.eval s = v) (hown : W.ownsRow N 5 1 v n (vs.map V8))
    (ad : Addr) (m c : Nat) (ds : List Nat) (hx : a.eval x = .slice (some ad) m c) (hl : ds.length = m) (hnews : ∀ j u, (ds.map V8)[j]? = some u → W.cell? (ad.add j) = some u) (hb : n + m ≤ 400000) (hN : N ≤ W.heap.size)
    (h : ∀ v' w', w'.ownsRow N 5 1 v' (n + m) ((vs ++ ds).map V8) → Grew W v w' v' → wpList Tryd.prog ops Q rest (a.put o.dst v') w') : wpList Tryd.prog ops Q (o :: rest) a W :=
  wpList_plain hgd fun _ hK => step_bytes _ rfl s x ho N v n vs hs hown ad m c ds hx hl hnews hb hN (fun v' w' h1 h2 => hK _ _ (h v' w' h1 h2))
theorem app_text {ops : Array Oper} {rest : List Oper} {o : Oper} {a : Act} {Q : Exit → Act → World → Prop} (hgd : o.guard = none) (s x : Operand)
    (ho : o.op = .call { callee := .builtin .append, args := #[s, x], argTypes := #[92, 9] }) (W : World) (N : Nat) (v : Value) (n : Nat) (vs : List Nat) (hs : a.eval s = v) (hown : W.ownsRow N 5 1 v n (vs.map V8))
    (t : ByteArray) (hx : a.eval x = .string t) (hb : n + t.size ≤ 400000) (hN : N ≤ W.heap.size)
    (h : ∀ v' w', w'.ownsRow N 5 1 v' (n + t.size) ((vs ++ bl t).map V8) → Grew W v w' v' → wpList Tryd.prog ops Q rest (a.put o.dst v') w') : wpList Tryd.prog ops Q (o :: rest) a W :=
  wpList_plain hgd fun _ hK => step_text _ rfl s x ho N v n vs hs hown t hx hb hN (fun v' w' h1 h2 => hK _ _ (h v' w' h1 h2))
/- 'string(b)' of a slice of the call's own -/
theorem str_of_own {w : World} {N n : Nat} {v : Value} {vs : List Nat} (h : w.ownsRow N 5 1 v n (vs.map V8)) (h8 : ∀ x ∈ vs, x < 256) : (convert 92 9 v).run Tryd.prog w = .ok (.string (tb vs)) w := by
  obtain ⟨h0, h1⟩ := h
  have hl : vs.length = n := by simpa using h0
  rcases h1 with ⟨rfl, hn⟩ | ⟨g, cap', cur, rfl, hN, hh, hc, hm, hsz, ht⟩
  · have : vs = [] := List.eq_nil_of_length_eq_zero (by omega)
    subst this
    have := run_convert_bytes_string (P := Tryd.prog) w 92 9 5 none 0 0 Tryd.underlying92 Tryd.underlying5 Tryd.underlying9
    rw [this]
    simp [Conv.bytesToString]
    rfl
  · have e := run_convert_bytes_back (P := Tryd.prog) w 92 9 5 ⟨g, 0, none⟩ cap' (vs.map UInt8.ofNat) Tryd.underlying92 Tryd.underlying5 Tryd.underlying9 (fun j hj => by
      have hj' : j < vs.length := by simpa using hj
      rw [Go.WideShapes.add_plain, cell_of_row w g (0 + j) cur 5 (0, 0) hh, Nat.zero_add, ← Array.getElem?_toList]
      have e : (cur.toList.take (n * 1))[j]? = (vs.map V8)[j]? := by rw [ht]
      rw [Nat.mul_one, List.getElem?_take_of_lt (by omega)] at e
      rw [e, List.getElem?_map, List.getElem?_eq_getElem hj', List.getElem_map]
      have h1 : vs[j] < 256 := h8 _ (List.getElem_mem hj')
      show some (V8 vs[j]) = _
      rw [V8, UInt8.toNat_ofNat', Nat.mod_eq_of_lt h1])
    rw [List.length_map, hl] at e
    exact e
end Go.Proofs.YtealbeblkilibaaDoor.FI
/- Proved: how a statement whose order is drawn is walked by hand: an operation is taken first, or one or two are carried out. -/
namespace Go.Proofs.YtealbeblkilibaaDoor.FI
open Go.RowKit
section
variable {P : Program} {ops : Array Oper} {Q : Exit → Act → World → Prop} {md : Region.Mode} {S : World → Prop}
theorem heldTake (i : Nat) (d : Option Tmp) {oi : Oper} (v : Value) {fuel : Nat} {listed : Array Bool} {a : Act} {w : World} (hi : ops[i]? = some oi) (hd : oi.dst = d)
    (hs : Region.noSelect ops = true) (hf : Region.free md ops listed i = true) (hr : (Region.ready md ops listed).contains i = true)
    (hQ : ∀ c a w, Q (.panic c) (a.put d v) w → Q (.panic c) a w) (hy : YieldsIf P ops S oi v a) (hS : S w)
    (h : wpAnyH P md ops Q S fuel (listed.setIfInBounds i true) (a.put d v) w) : wpAnyH P md ops Q S (fuel + 1) listed a w := by
  subst hd
  exact wpAnyH_take hi hs hf hr hQ hy hS h
theorem heldOne (i : Nat) {o : Oper} {fuel : Nat} {listed : Array Bool} {a : Act} {w : World} (hr : Region.ready md ops listed = [i]) (ho : ops[i]? = some o) (hw : Region.wanted o (yielded ops a.tmps) = true)
    (h : ∀ K : Act → World → Prop, Shut (∀ a' w', S w' → wpAnyH P md ops Q S fuel (listed.setIfInBounds i true) a' w' → K a' w') → Oper.wp P o a w K Q) : wpAnyH P md ops Q S (fuel + 1) listed a w := by
  refine wpAnyH_ready hr (by simp) (AllReadyH.cons ho (fun K hK => ?_) AllReadyH.nil)
  rw [if_pos hw]
  exact h K (fun a' w' h1 h2 => hK.out a' w' h1 (fun _ => h2))
theorem heldTwo (i j : Nat) {o o' : Oper} {fuel : Nat} {listed : Array Bool} {a : Act} {w : World} (hr : Region.ready md ops listed = [i, j]) (ho : ops[i]? = some o) (ho' : ops[j]? = some o') (hw : Region.wanted o (yielded ops a.tmps) = true) (hw' : Region.wanted o' (yielded ops a.tmps) = true)
    (h : ∀ K : Act → World → Prop, Shut (∀ a' w', S w' → wpAnyH P md ops Q S fuel (listed.setIfInBounds i true) a' w' → K a' w') → Oper.wp P o a w K Q)
    (h' : ∀ K : Act → World → Prop, Shut (∀ a' w', S w' → wpAnyH P md ops Q S fuel (listed.setIfInBounds j true) a' w' → K a' w') → Oper.wp P o' a w K Q) : wpAnyH P md ops Q S (fuel + 1) listed a w := by
  refine wpAnyH_ready hr (by simp) (AllReadyH.cons ho (fun K hK => ?_) (AllReadyH.cons ho' (fun K hK => ?_) AllReadyH.nil))
  · rw [if_pos hw]
    exact h K (fun a' w' h1 h2 => hK.out a' w' h1 (fun _ => h2))
  · rw [if_pos hw']
    exact h' K (fun a' w' h1 h2 => hK.out a' w' h1 (fun _ => h2))
end
end Go.Proofs.YtealbeblkilibaaDoor.FI
/- Proved: plain arithmetic of reading: what seven bits a byte come to. No program is named. -/
namespace Fi
def val : List Nat → Nat
  | [] => 0
  | b :: r => b % 128 + 128 * val r
theorem val_append : ∀ (p q : List Nat), val (p ++ q) = val p + 128 ^ p.length * val q
  | [], q => by simp [val]
  | b :: p, q => by
    rw [List.cons_append, val, val, val_append p q, List.length_cons, Nat.pow_succ]
    rw [Nat.mul_add, Nat.add_assoc, Nat.mul_comm (128 ^ p.length) 128, Nat.mul_assoc]
theorem val_lt : ∀ (p : List Nat), val p < 128 ^ p.length
  | [] => by simp [val]
  | b :: p => by
    have := val_lt p
    rw [val, List.length_cons, Nat.pow_succ]
    have : b % 128 < 128 := Nat.mod_lt _ (by omega)
    omega
/- bytes that go on, then one that does not, and is not needless: just the bytes of what they come to -/
theorem varint_val : ∀ (p : List Nat) (b : Nat), (∀ x ∈ p, 128 ≤ x ∧ x < 256) → b < 128 → (p = [] ∨ b ≠ 0) → varint (val (p ++ [b])) = p ++ [b]
  | [], b, _, hb, _ => by
    rw [List.nil_append, val, val, Nat.mul_zero, Nat.add_zero, Nat.mod_eq_of_lt hb, varint_small hb]
  | c :: p, b, hp, hb, h => by
    have hb0 : b ≠ 0 := by rcases h with h | h; cases h; exact h
    have ih := varint_val p b (fun x hx => hp x (List.mem_cons_of_mem _ hx)) hb (.inr hb0)
    have hc := hp c List.mem_cons_self
    have hpos : 0 < val (p ++ [b]) := by
      rw [val_append]
      have h1 : val [b] = b := by rw [val, val, Nat.mul_zero, Nat.add_zero, Nat.mod_eq_of_lt hb]
      rw [h1]
      have : 0 < 128 ^ p.length * b := Nat.mul_pos (Nat.pow_pos (by omega)) (by omega)
      omega
    rw [List.cons_append, val]
    generalize val (p ++ [b]) = q at *
    rw [varint_large (by omega), show (c % 128 + 128 * q) / 128 = q by omega, ih]
    congr 1
    omega
/- how the bytes of a number end -/
theorem varint_ends (n : Nat) : ∃ p b, varint n = p ++ [b] ∧ (∀ x ∈ p, 128 ≤ x) ∧ b < 128 ∧ (p = [] ∨ b ≠ 0) := by
  induction n using Nat.strongRecOn with
  | ind n ih =>
    by_cases h : n < 128
    · exact ⟨[], n, by rw [varint_small h]; rfl, by simp, h, .inl rfl⟩
    · obtain ⟨p, b, e, h1, h2, h3⟩ := ih (n / 128) (by omega)
      refine ⟨(128 + n % 128) :: p, b, by rw [varint_large h, e]; rfl, ?_, h2, .inr ?_⟩
      · intro x hx
        rcases List.mem_cons.1 hx with rfl | hx
        · omega
        · exact h1 x hx
      · rcases h3 with rfl | h3
        · have : (n / 128) = b := by
            by_cases h4 : n / 128 < 128
            · rw [varint_small h4] at e; simpa using e
            · rw [varint_large h4] at e
              have e2 := congrArg List.length e
              have := varint_ne (n / 128 / 128)
              cases h5 : varint (n / 128 / 128) with
              | nil => exact absurd h5 this
              | cons a r => rw [h5] at e2; simp at e2
          omega
        · exact h3
/- two ways to cut the same bytes at the first one that does not go on -/
theorem cut_same : ∀ (p q : List Nat) (b c : Nat) (r t : List Nat), (∀ x ∈ p, 128 ≤ x) → b < 128 → (∀ x ∈ q, 128 ≤ x) → c < 128 → p ++ b :: r = q ++ c :: t → p = q ∧ b = c ∧ r = t
  | [], [], b, c, r, t, _, _, _, _, e => by
    have e := List.cons.inj e
    exact ⟨rfl, e.1, e.2⟩
  | [], d :: q, b, c, r, t, _, hb, hq, _, e => by
    have e := List.cons.inj e
    have := hq d List.mem_cons_self
    omega
  | a :: p, [], b, c, r, t, hp, _, _, hc, e => by
    have e := List.cons.inj e
    have := hp a List.mem_cons_self
    omega
  | a :: p, d :: q, b, c, r, t, hp, hb, hq, hc, e => by
    have e := List.cons.inj e
    obtain ⟨h1, h2, h3⟩ := cut_same p q b c r t (fun x hx => hp x (List.mem_cons_of_mem _ hx)) hb (fun x hx => hq x (List.mem_cons_of_mem _ hx)) hc e.2
    exact ⟨by rw [e.1, h1], h2, h3⟩
/- what a reader of at most nine bytes finds at the front -/
def Num (bs : List Nat) (n : Nat) (rest : List Nat) : Prop := bs = varint n ++ rest ∧ n ≤ 4611686018427387904
theorem num_yes {p : List Nat} {b : Nat} {r : List Nat} (hp : ∀ x ∈ p, 128 ≤ x ∧ x < 256) (hb : b < 128) (h0 : p = [] ∨ b ≠ 0) (hn : val (p ++ [b]) ≤ 4611686018427387904) : Num (p ++ b :: r) (val (p ++ [b])) r :=
  ⟨by rw [varint_val p b hp hb h0, List.append_assoc]; rfl, hn⟩
theorem num_big {p : List Nat} {b : Nat} {r : List Nat} (hp : ∀ x ∈ p, 128 ≤ x ∧ x < 256) (hb : b < 128) (h0 : p = [] ∨ b ≠ 0) (hn : ¬ val (p ++ [b]) ≤ 4611686018427387904) : ∀ n t, ¬ Num (p ++ b :: r) n t := fun n t h => by
  have e : varint (val (p ++ [b])) ++ r = varint n ++ t := by rw [varint_val p b hp hb h0, List.append_assoc]; exact h.1
  have := (varint_inj _ _ _ _ e).1
  rw [this] at hn
  exact hn h.2
theorem num_needless {p : List Nat} {r : List Nat} (hp : ∀ x ∈ p, 128 ≤ x) (h0 : p ≠ []) : ∀ n t, ¬ Num (p ++ 0 :: r) n t := fun n t h => by
  obtain ⟨q, c, e, h1, h2, h3⟩ := varint_ends n
  have e2 : p ++ 0 :: r = q ++ c :: t := by rw [h.1, e, List.append_assoc]; rfl
  obtain ⟨h4, h5, _⟩ := cut_same p q 0 c r t hp (by omega) h1 h2 e2
  rcases h3 with h3 | h3
  · exact h0 (h4.trans h3)
  · exact h3 h5.symm
theorem num_none {bs : List Nat} (k : Nat) (hk : k = min bs.length 9) (h : ∀ x ∈ bs.take k, 128 ≤ x) : ∀ n t, ¬ Num bs n t := fun n t hN => by
  obtain ⟨q, c, e, h1, h2, h3⟩ := varint_ends n
  have hl : (varint n).length ≤ 9 := varint_length 8 n (by have := hN.2; have : (128 : Nat) ^ (8 + 1) = 9223372036854775808 := by decide
                                                           omega)
  have hbs : bs = q ++ c :: t := by rw [hN.1, e, List.append_assoc]; rfl
  have hq : q.length < 9 := by
    have := congrArg List.length e
    simp at this
    omega
  have hq2 : q.length < bs.length := by rw [hbs]; simp
  have hm : c ∈ bs.take k := by
    rw [List.mem_take_iff_getElem]
    refine ⟨q.length, by omega, ?_⟩
    simp [hbs]
  have := h c hm
  omega
end Fi
/- Proved: appendNumber puts a number's bytes behind a slice of the call's own. -/
namespace Go.Proofs.YtealbeblkilibaaDoor.FI
open Go.RowKit
theorem one_cells (w : World) (z : Int) (b : Nat) (hz : z = (b : Int)) : ∀ j u, ([b].map V8)[j]? = some u → (w.alloc (.cells #[.int .u8 z] 5)).cell? ((⟨w.heap.size, 0, none⟩ : Addr).add j) = some u := by
  obtain ⟨g, cap, hv, _, _, _, h⟩ := own_at (one_own w z b hz) (by omega)
  cases hv
  exact h
theorem own_alloc8 {w : World} {N n : Nat} {v : Value} {vs : List Value} (h : w.ownsRow N 5 1 v n vs) (o : Obj) : (w.alloc o).ownsRow N 5 1 v n vs := owns8_below h ((Below.refl w.heap.size w).alloc (Nat.le_refl _) o) rfl
set_option maxHeartbeats 1000000 in
set_option maxRecDepth 20000 in
theorem anum_any (w : World) (N : Nat) (v : Value) (n : Nat) (vs : List Nat) (m : Nat) (hown : w.ownsRow N 5 1 v n (vs.map V8)) (hN : N ≤ w.heap.size) (hm : m ≤ 9223372036854775807) (hn : n ≤ 300000) :
    Calls Tryd.prog 73 #[v, .int .i64 (m : Int)] w fun e w' => ∃ v', e = .returned v' ∧ w'.ownsRow N 5 1 v' (n + (Fi.varint m).length) ((vs ++ Fi.varint m).map V8) ∧ Grew w v w' v' := by
  have HO : Hid (w.ownsRow N 5 1 v n (vs.map V8)) := hown
  have hl : vs.length = n := by simpa using hown.1
  have HL := varint_room m hm
  clear hown
  go_enter Tryd.func73, Tryd.ntmps73
  go_wp2_with fail
  go_loopw [0, 1] (fun s0 s1 wr => ∃ (k : Nat) (us : List Nat), k ≤ 9223372036854775807 ∧ s1 = .int .i64 k ∧ us ++ Fi.varint k = vs ++ Fi.varint m ∧ wr.ownsRow N 5 1 s0 us.length (us.map V8) ∧ Grew w v wr s0 ∧ N ≤ wr.heap.size) (fun _ s1 _ => (intOf s1).toNat)
  case atStart => exact ⟨m, vs, hm, rfl, rfl, by rw [hl]; exact HO.out, Grew.refl _ _, hN⟩
  case round =>
    obtain ⟨k, us, hk, rfl, hus, hO, hB, hNr⟩ := hrel
    have hlen : us.length + (Fi.varint k).length = n + (Fi.varint m).length := by
      have := congrArg List.length hus
      simp at this
      omega
    have HU : Hid (us ++ Fi.varint k = vs ++ Fi.varint m) := hus
    have HO2 : Hid (wr.ownsRow N 5 1 _ us.length (us.map V8)) := hO
    have HB : Hid (Grew w v wr _) := hB
    clear hus hO hB HO
    by_cases hlt : k < 128
    · have h1 : ¬ (128 : Int) ≤ (k : Int) := by omega
      have HC : Hid (∀ j u, ([k].map V8)[j]? = some u → (wr.alloc (.cells #[.int .u8 (k : Int)] 5)).cell? ((⟨wr.heap.size, 0, none⟩ : Addr).add j) = some u) := one_cells wr _ k rfl
      have HV : Is (Fi.varint k) [k] := ⟨Fi.varint_small hlt⟩
      rw [HV.eq] at HU hlen
      simp only [List.length_singleton] at hlen
      have HLN : Is (us.length + 1) (n + (Fi.varint m).length) := ⟨hlen⟩
      clear hlen
      go_wp2_with (first | (refine app_bytes rfl (.tmp 16) (.tmp 19) rfl _ N _ us.length us rfl (own_alloc8 HO2.out _) ⟨wr.heap.size, 0, none⟩ 1 1 [k] rfl rfl HC.out (by have := HLN.eq; omega) (by simp; omega) ?_; intro v' w' hO4 hB4))
      go_ret
      rw [HLN.eq, HU.out, List.map_append] at hO4
      exact ⟨_, rfl, hO4, HB.out.trans (((Grew.refl wr _).alloc _).trans hB4)⟩
    · have h1 : (128 : Int) ≤ (k : Int) := by omega
      obtain ⟨q, hq⟩ : ∃ q, q = k / 128 := ⟨_, rfl⟩
      obtain ⟨r, hr⟩ : ∃ r, r = k % 128 := ⟨_, rfl⟩
      have eq1 : (k : Int) / 128 = (q : Int) := by omega
      have eq2 : (k : Int).tdiv 128 = (q : Int) := by rw [Int.tdiv_eq_ediv_of_nonneg (by omega)]; omega
      have er1 : (k : Int) % 128 = (r : Int) := by omega
      have er2 : (k : Int).tmod 128 = (r : Int) := by rw [Int.tmod_eq_emod_of_nonneg (by omega)]; omega
      have hr128 : r < 128 := by omega
      have hqk : q < k := by omega
      have HV : Is (Fi.varint k) ((128 + r) :: Fi.varint q) := ⟨by rw [hq, hr]; exact Fi.varint_large hlt⟩
      clear hq hr
      have HC : Hid (∀ j u, ([128 + r].map V8)[j]? = some u → (wr.alloc (.cells #[.int .u8 ((r : Int) + 128)] 5)).cell? ((⟨wr.heap.size, 0, none⟩ : Addr).add j) = some u) := one_cells wr _ (128 + r) (by omega)
      rw [HV.eq] at HU hlen
      simp only [List.length_cons] at hlen
      go_wp2_with (first | (refine app_bytes rfl (.tmp 7) (.tmp 12) rfl _ N _ us.length us rfl (own_alloc8 HO2.out _) ⟨wr.heap.size, 0, none⟩ 1 1 [128 + r] rfl rfl HC.out (by omega) (by simp; omega) ?_; intro v' w' hO4 hB4))
      go_roundw
      case rel =>
        refine ⟨q, us ++ [128 + r], by omega, rfl, ?_, ?_, HB.out.trans (((Grew.refl wr _).alloc _).trans hB4), ?_⟩
        · rw [List.append_assoc]; exact HU.out
        · rw [List.length_append]; exact hO4
        · have := hB4.by_.size
          rw [size_alloc1] at this
          omega
      case measure => (simp [intOf]) <;> omega
end Go.Proofs.YtealbeblkilibaaDoor.FI
