/- Proved: what comes in is read as nodes and cells. Conditions: the row's own. -/
import Derived.Test.YtoinaplmgffkpaaFar
import Derived.OpenShut
import Derived.ShutString
import Derived.ChangeOld
import Derived.Below
import Derived.ChangeMaps5
import Derived.Deep.Slices
import Derived.Lib.SmallJoins
import Derived.SizedLaws
namespace Go.Proofs.Ytoinaplmgffkpaa
open Go.ChangeShapes Go.WideShapes Go.ChangeAt Go.RowKit
open Sl (Cel Nod)
theorem own : ownKnob Try.prog.godebug = none := by kernel_rfl
theorem laidOut : laidOutB Try.prog = true := by kernel_rfl
/- a slice that came in, by its elements' cells -/
theorem slice_rows {H : Type} {enc : TypeId × Value → H} {W : World} {α : Type} (cells : α → List Value) (Fits : α → Prop) (dflt : α) {ts te k : Nat} (hu : Try.prog.underlying ts = some (.slice te)) (hk : Try.prog.cellsOf te = k) (hcl : ∀ y, (cells y).length = k) (hk0 : 0 < k)
    (helem : ∀ (fuel : Nat) (cs : List Value) (x : DataW H × List MemPlace), cs.length = k → DataW.trod enc Try.prog W 0 (fun _ => true) true fuel te cs = some x → ∃ y : α, cs = cells y ∧ Fits y)
    {fuel : Nat} {cs : List Value} {x : DataW H × List MemPlace} (h : DataW.trod enc Try.prog W 0 (fun _ => true) true fuel ts cs = some x) :
    ∃ (a : Option Addr) (len cap : Nat) (l : List α), cs = [.slice a len cap] ∧ len ≤ cap ∧ cap ≤ 9223372036854775807 ∧ l.length = len ∧ (∀ y ∈ l, Fits y) ∧ RowAt W a (l.flatMap cells) := by
  rcases Go.Deep.open_slice hu h with ⟨hcs, _⟩ | ⟨x, len, cap, m, n, D, Pl, hcs, _, hl, hm, hmm, _, hel⟩
  · exact ⟨none, 0, 0, [], hcs, by omega, by omega, rfl, fun y hy => (by cases hy), .inl rfl⟩
  · unfold maxLen at hm
    simp only [if_true] at hmm
    subst hmm
    rw [hk] at hel
    have each : ∀ i, i < m → ∃ y : α, Fits y ∧ ∀ j u, (cells y)[j]? = some u → W.cell? (x.add (i * k + j)) = some u := fun i hi => by
      obtain ⟨cs', hc, ht⟩ := hel i hi
      obtain ⟨_, hlen, hcell⟩ := World.cells?_some hc
      obtain ⟨y, hy, hfit⟩ := helem _ _ _ hlen ht
      refine ⟨y, hfit, fun j u hu' => ?_⟩
      rw [← hy] at hu'
      obtain ⟨hj, hju⟩ := List.getElem?_eq_some_iff.1 hu'
      have := hcell j (by omega)
      rw [Go.Deep.add_add] at this
      rw [this]
      exact hu'
    by_cases h0 : len = 0
    · exact ⟨some x, len, m, [], hcs, hl, by omega, by simp [h0], fun y hy => (by cases hy), .inl rfl⟩
    · obtain ⟨b, off, spot⟩ := x
      have hspot : spot = none := by
        obtain ⟨y, _, h1⟩ := each 0 (by omega)
        obtain ⟨u, hu'⟩ : ∃ u, (cells y)[0]? = some u := ⟨_, List.getElem?_eq_getElem (by rw [hcl]; exact hk0)⟩
        simpa [Addr.add] using World.cell?_spot (h1 0 u hu')
      subst hspot
      haveI : Inhabited α := ⟨dflt⟩
      obtain ⟨F, hF⟩ := Go.Deep.choose_lt (n := len) (p := fun i y => Fits y ∧ ∀ j u, (cells y)[j]? = some u → W.cell? ((⟨b, off, none⟩ : Addr).add (i * k + j)) = some u) (fun i hi => each i (by omega))
      refine ⟨some ⟨b, off, none⟩, len, m, (List.range len).map F, hcs, hl, by omega, by simp, fun y hy => ?_, .inr ⟨b, off, rfl, ?_, fun j u hj => ?_⟩⟩
      · obtain ⟨i, hi, rfl⟩ := List.mem_map.1 hy
        exact (hF i (List.mem_range.1 hi)).1
      · obtain ⟨u, hu'⟩ : ∃ u, (cells (F 0))[0]? = some u := ⟨_, List.getElem?_eq_getElem (by rw [hcl]; exact hk0)⟩
        have := (hF 0 (by omega)).2 0 u hu'
        rw [add_plain] at this
        exact block_lt_of_cell this
      · have hjl : j < len * k := by
          have hfl : ∀ l : List α, (l.flatMap cells).length = l.length * k := fun l => by
            induction l with
            | nil => simp
            | cons y l ih => rw [List.flatMap_cons, List.length_append, ih, hcl, List.length_cons, Nat.add_mul]; omega
          have h9 := (List.getElem?_eq_some_iff.1 hj).1
          rw [hfl] at h9
          simpa using h9
        have hjk : j / k < len := Nat.div_lt_of_lt_mul (by rw [Nat.mul_comm]; exact hjl)
        have hsel : ∀ (l : List α) (i r : Nat), i < l.length → r < k → (l.flatMap cells)[i * k + r]? = (cells (l.getD i dflt))[r]? := fun l => by
          induction l with
          | nil => intro i r hi; cases hi
          | cons y l ih =>
            intro i r hi hr
            rw [List.flatMap_cons]
            cases i with
            | zero =>
              rw [Nat.zero_mul, Nat.zero_add, List.getElem?_append_left (by rw [hcl]; exact hr)]
              rfl
            | succ i =>
              rw [List.getElem?_append_right (by rw [hcl, Nat.add_mul]; omega), hcl]
              have e : (i + 1) * k + r - k = i * k + r := by rw [Nat.add_mul]; omega
              rw [e, ih i r (by simpa using hi) hr]
              rfl
        have hd : j = j / k * k + j % k := by rw [Nat.mul_comm]; exact (Nat.div_add_mod j k).symm
        have hr := Nat.mod_lt j hk0
        have h2 := hsel ((List.range len).map F) (j / k) (j % k) (by simpa using hjk) hr
        rw [← hd, hj] at h2
        have hg : ((List.range len).map F).getD (j / k) dflt = F (j / k) := by
          rw [List.getD_eq_getElem?_getD, List.getElem?_map, List.getElem?_range hjk]; rfl
        rw [hg] at h2
        have h3 := (hF (j / k) hjk).2 (j % k) u h2.symm
        rw [add_plain, ← hd] at h3
        exact h3
/- cells, keys, kids -/
structure CelFit0 (c : Cel) : Prop where
  key : c.key.size ≤ 9223372036854775807
  val : c.val.size ≤ 9223372036854775807
  over : In64 c.over
  len : In64 c.len
set_option maxRecDepth 20000 in
theorem cel_trod {H : Type} {enc : TypeId × Value → H} {W : World} {fuel : Nat} {cs : List Value} {x : DataW H × List MemPlace} (hlen : cs.length = 4) (h : DataW.trod enc Try.prog W 0 (fun _ => true) true fuel 28 cs = some x) :
    ∃ c : Cel, cs = ccells c ∧ CelFit0 c := by
  have c3 : Try.prog.cellsOf 3 = 1 := by kernel_rfl
  have c9 : Try.prog.cellsOf 9 = 1 := by kernel_rfl
  obtain ⟨y0, y1, y2, y3, k, _, _, h0, h1, h2, h3⟩ := Go.Joins.trod_struct4 Try.underlying28 h
  obtain ⟨s0, e0, _, w0⟩ := DataW.trod_string Try.underlying9 h0
  obtain ⟨s1, e1, _, w1⟩ := DataW.trod_string Try.underlying9 h1
  obtain ⟨z2, e2, _, w2⟩ := DataW.trod_int Try.underlying3 h2
  obtain ⟨z3, e3, _, w3⟩ := DataW.trod_int Try.underlying3 h3
  unfold maxLen at w0 w1
  match cs, hlen with
  | [q0, q1, q2, q3], _ =>
    change List.take (Try.prog.cellsOf 9) (List.drop 0 [q0, q1, q2, q3]) = _ at e0
    change List.take (Try.prog.cellsOf 9) (List.drop 1 [q0, q1, q2, q3]) = _ at e1
    change List.take (Try.prog.cellsOf 3) (List.drop 2 [q0, q1, q2, q3]) = _ at e2
    change List.take (Try.prog.cellsOf 3) (List.drop 3 [q0, q1, q2, q3]) = _ at e3
    rw [c9] at e0 e1
    rw [c3] at e2 e3
    simp at e0 e1 e2 e3
    subst e0 e1 e2 e3
    exact ⟨⟨s0, s1, z2, z3⟩, rfl, ⟨by show s0.size ≤ _; omega, by show s1.size ≤ _; omega, bounds_i64 w2, bounds_i64 w3⟩⟩
theorem str_trod {H : Type} {enc : TypeId × Value → H} {W : World} {fuel : Nat} {cs : List Value} {x : DataW H × List MemPlace} (_hlen : cs.length = 1) (h : DataW.trod enc Try.prog W 0 (fun _ => true) true fuel 9 cs = some x) :
    ∃ s : ByteArray, cs = [.string s] ∧ s.size ≤ 9223372036854775807 := by
  obtain ⟨s, e, _, w⟩ := DataW.trod_string Try.underlying9 h
  unfold maxLen at w
  exact ⟨s, e, by omega⟩
theorem int_trod {H : Type} {enc : TypeId × Value → H} {W : World} {fuel : Nat} {cs : List Value} {x : DataW H × List MemPlace} (_hlen : cs.length = 1) (h : DataW.trod enc Try.prog W 0 (fun _ => true) true fuel 3 cs = some x) :
    ∃ z : Int, cs = [.int .i64 z] ∧ In64 z := by
  obtain ⟨z, e, _, w⟩ := DataW.trod_int Try.underlying3 h
  exact ⟨z, e, bounds_i64 w⟩
theorem kcells_flat (l : List ByteArray) : kcells l = l.flatMap (fun s => [Value.string s]) := by
  unfold kcells
  induction l with
  | nil => rfl
  | cons s l ih => rw [List.map_cons, List.flatMap_cons, ih]; rfl
theorem icells_flat (l : List Int) : icells l = l.flatMap (fun z => [Value.int .i64 z]) := by
  unfold icells
  induction l with
  | nil => rfl
  | cons s l ih => rw [List.map_cons, List.flatMap_cons, ih]; rfl
structure In0 (n : Nod) : Prop where
  cells : ∀ c ∈ n.cells, CelFit0 c
  keys : ∀ k ∈ n.keys, k.size ≤ 9223372036854775807
  kids : ∀ i ∈ n.kids, In64 i
/- a node that came in -/
set_option maxRecDepth 20000 in
theorem node_of {H : Type} {enc : TypeId × Value → H} {W : World} {base : Nat} {v : Value} {d : DataW H} {p : List MemPlace} (hval : Value.okWide Try.prog W .any base 26 v) (h : DataW.Trod enc Try.prog W 0 (fun _ => true) true 26 v d p) :
    ∃ (n : Nod) (q : Pt), v = nv n q ∧ Lies W n q ∧ In0 n := by
  have c26 : Try.prog.cellsOf 26 = 4 := by kernel_rfl
  have c4 : Try.prog.cellsOf 4 = 1 := by kernel_rfl
  have c22 : Try.prog.cellsOf 22 = 1 := by kernel_rfl
  have c23 : Try.prog.cellsOf 23 = 1 := by kernel_rfl
  have c24 : Try.prog.cellsOf 24 = 1 := by kernel_rfl
  obtain ⟨cs, rfl, hsz, _⟩ : ∃ cs, v = .agg cs ∧ cs.size = Try.prog.cellsOf 26 ∧ Row.okWide Try.prog W .any base 26 cs := by
    simpa [Value.okWide, Try.underlying26] using hval
  rw [c26] at hsz
  obtain ⟨fuel, ht⟩ := h
  obtain ⟨y0, y1, y2, y3, k, _, _, h0, h1, h2, h3⟩ := Go.Joins.trod_struct4 Try.underlying26 ht
  obtain ⟨b0, e0, _⟩ := DataW.trod_bool Try.underlying4 h0
  obtain ⟨a1, l1, k1, lc, e1, g1, m1, hl1, f1, r1⟩ := slice_rows ccells CelFit0 Sl.cel0 Try.underlying22 (show Try.prog.cellsOf 28 = 4 by kernel_rfl) (fun _ => rfl) (by omega) (fun _ _ _ hl ht => cel_trod hl ht) h1
  obtain ⟨a2, l2, k2, lk, e2, g2, m2, hl2, f2, r2⟩ := slice_rows (fun s => [Value.string s]) (fun s => s.size ≤ 9223372036854775807) ByteArray.empty Try.underlying23 (show Try.prog.cellsOf 9 = 1 by kernel_rfl) (fun _ => rfl) (by omega) (fun _ _ _ hl ht => str_trod hl ht) h2
  obtain ⟨a3, l3, k3, ld, e3, g3, m3, hl3, f3, r3⟩ := slice_rows (fun z => [Value.int .i64 z]) In64 0 Try.underlying24 (show Try.prog.cellsOf 3 = 1 by kernel_rfl) (fun _ => rfl) (by omega) (fun _ _ _ hl ht => int_trod hl ht) h3
  obtain ⟨l⟩ := cs
  match l, hsz with
  | [q0, q1, q2, q3], _ =>
    change List.take (Try.prog.cellsOf 4) (List.drop 0 [q0, q1, q2, q3]) = _ at e0
    change List.take (Try.prog.cellsOf 22) (List.drop 1 [q0, q1, q2, q3]) = _ at e1
    change List.take (Try.prog.cellsOf 23) (List.drop 2 [q0, q1, q2, q3]) = _ at e2
    change List.take (Try.prog.cellsOf 24) (List.drop 3 [q0, q1, q2, q3]) = _ at e3
    rw [c4] at e0
    rw [c22] at e1
    rw [c23] at e2
    rw [c24] at e3
    simp at e0 e1 e2 e3
    subst e0 e1 e2 e3 hl1 hl2 hl3
    exact ⟨⟨b0, lc, lk, ld⟩, ⟨a1, k1, a2, k2, a3, k3⟩, rfl, ⟨r1, by rw [kcells_flat]; exact r2, by rw [icells_flat]; exact r3, g1, g2, g3, m1, m2, m3⟩, ⟨f1, f2, f3⟩⟩
/- a cell that came in -/
theorem cell_of {H : Type} {enc : TypeId × Value → H} {W : World} {base : Nat} {v : Value} {d : DataW H} {p : List MemPlace} (hval : Value.okWide Try.prog W .any base 28 v) (h : DataW.Trod enc Try.prog W 0 (fun _ => true) true 28 v d p) :
    ∃ c : Cel, v = cv c ∧ CelFit0 c := by
  have c28 : Try.prog.cellsOf 28 = 4 := by kernel_rfl
  obtain ⟨cs, rfl, hsz, _⟩ : ∃ cs, v = .agg cs ∧ cs.size = Try.prog.cellsOf 28 ∧ Row.okWide Try.prog W .any base 28 cs := by
    simpa [Value.okWide, Try.underlying28] using hval
  rw [c28] at hsz
  obtain ⟨fuel, ht⟩ := h
  obtain ⟨c, hc, hf⟩ := cel_trod (by simpa [Value.cells] using hsz) ht
  refine ⟨c, ?_, hf⟩
  unfold cv
  congr 1
  apply Array.ext'
  simpa [Value.cells, ccells] using hc
end Go.Proofs.Ytoinaplmgffkpaa
