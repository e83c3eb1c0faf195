/- Proved: the program's start lays the table of sixteen numbers, and what comes in is read as calls, bools, texts and three numbers. What every law's proof of this seat shares; conditions: the row's own. -/
import Derived.Test.YtcfninpokngmlaaGreatDoorRows
import Derived.Test.YtcfninpokngmlaaGreatDoorDWorks
import Derived.ProofKit
import Derived.OpenShut
import Derived.ShutString
import Derived.ChangeOld
import Derived.Below
import Derived.LaidMore
import Derived.Lay
import Derived.HandedShaped
import Derived.Stop.Joined
import Derived.Lib.LaidTab
import Derived.Lib.LaidU8
import Derived.Lib.SmallJoins
import Derived.ChangeMaps5
import Derived.Deep.Slices
import Derived.Deep.Grids
import Derived.SliceStrings
namespace Go.Proofs.YtcfninpokngmlaaGreatDoor
open Go.ChangeShapes Go.WideShapes Go.ChangeAt Go.RowKit
theorem own : ownKnob Tryz.prog.godebug = none := by kernel_rfl
theorem laidOut : laidOutB Tryz.prog = true := by kernel_rfl
def laid1 : List (String × DataW Unit) := [("aquifer/castagnoli.nibbles", Rows.laid_aquifer_castagnoli_nibbles), ("unicode/utf8.acceptRanges", Rows.laid_unicode_utf8_acceptRanges), ("unicode/utf8.first", Rows.laid_unicode_utf8_first)]
theorem gNib : Tryz.prog.globalNamed "aquifer/castagnoli.nibbles" = some 0 := by kernel_rfl
theorem gNibType : (Tryz.prog.globals[0]?).map (·.type) = some 211 := by kernel_rfl
def zs16 : List Int := Crc.tab.map Int.ofNat
theorem laid1_eq : laid1 = [("aquifer/castagnoli.nibbles", Lib.tabData .u32 zs16), ("unicode/utf8.acceptRanges", Rows.laid_unicode_utf8_acceptRanges), ("unicode/utf8.first", Rows.laid_unicode_utf8_first)] := rfl
theorem nib_at : ∀ i, i < 16 → zs16.getD i 0 = (Crc.nib i : Int) := by decide
/- the wrap that hands on both the listed tables and the world's shape -/
theorem wrap_both {H : Type} {enc : TypeId × Value → H} {a : Assume} {C : Checked} {os : Os} {f : FuncId} {fn : Func} {s : ChangeSpec} {conds : List PathCond} {apart fresh handsOn again : Bool} {X : World → Array Value → Prop}
    (hX : ∀ (w w' : World) (args : Array Value), w.heap = w'.heap → X w args → X w' args)
    (own : ownKnob C.prog.godebug = none) (started : os.Started) (noInit : C.prog.inits.idxOf? f = none) (hfn : C.prog.funcs[f]? = some fn)
    (witness : ∃ (w : World) (tape : Tape) (i : Input), w.os = os ∧ (w.forCall tape i).Shaped C.prog ∧ i.vars = [] ∧ Input.okWide C.prog (w.forCall tape i) .any w.heap.size f i ∧
      ((s.pre enc C.prog fn conds apart (w.forCall tape i).memory i.args ∧ X (w.forCall tape i).memory i.args) ∧ sizedMet enc C.prog fn (OpenSpec.ofChange s) apart (w.forCall tape i).memory i.args) ∧ a.holds C.prog (lone (Frame.enter C.prog f i.args .normal) [] (w.forCall tape i)))
    (contract : ∀ (W : World) (base : Nat) (args : Array Value) (ds gs : List (DataW H)) (before : List MemPlace),
      (∀ (j : Nat) t v, fn.params[j]? = some t → args[j]? = some v → Value.okWide C.prog W .any base t v) →
      DataW.Whole enc C.prog fn.params.toList s.vars apart W args.toList ds gs before → X W args → W.ShapedOpen C.prog →
      Calls C.prog f args W fun e W' => ∃ v, e = .returned v ∧ s.post enc C.prog fn apart fresh handsOn again W args v W') :
    ReturnsInHanded a C os f .any (fun w args => (s.pre enc C.prog fn conds apart w args ∧ X w args) ∧ sizedMet enc C.prog fn (OpenSpec.ofChange s) apart w args) (s.post enc C.prog fn apart fresh handsOn again) := by
  refine returnsInHanded_of_calls own started noInit witness ?_
  intro w tape i _ hsh _ hok hpre _
  obtain ⟨_, _, _, fn', hfn', _, _, _, _, hval⟩ := hok
  have e : fn' = fn := Option.some.inj (hfn'.symm.trans hfn)
  subst e
  obtain ⟨⟨⟨ds, gs, before, hw, _⟩, hx⟩, _⟩ := hpre
  have hw' := DataW.Whole.of_heap (w' := w.forCall tape i) (by rfl) hw
  refine (contract (w.forCall tape i) w.heap.size i.args ds gs before hval hw' (hX _ _ _ (by rfl) hx) hsh).mono fun e W' ⟨v, he, hp⟩ => ?_
  subst he
  exact ChangeSpec.post_blind hp
/- What the condition gives the walks: the sixteen numbers. -/
theorem tab_of_laid {W : World} (h : laidMetH Tryz.prog laid1 W) : Tab W := by
  rw [MakeChecks.laidMetH_plain _ _ _ (by kernel_rfl), laid1_eq] at h
  have hT := Lib.tabIs_of_head gNib gNibType Tryz.underlying211 Tryz.underlying159 (by kernel_rfl) (by kernel_rfl) h
  intro i hi
  rw [← nib_at i hi]
  exact hT.cell gNib i hi
set_option maxRecDepth 100000 in
theorem text_of {H : Type} {enc : TypeId × Value → H} {W : World} {base : Nat} {v : Value} {d : DataW H} {p : List MemPlace} (hval : Value.okWide Tryz.prog W .any base 9 v) (h : DataW.Trod enc Tryz.prog W 0 (fun _ => true) true 9 v d p) :
    ∃ s : ByteArray, v = .string s ∧ s.size ≤ 9223372036854775807 := by
  obtain ⟨s, rfl, _, _, hw⟩ := Go.ChangeMaps.open_string Tryz.underlying9 hval h
  unfold maxLen at hw
  exact ⟨s, rfl, by omega⟩
def In64 (z : Int) : Prop := -9223372036854775808 ≤ z ∧ z ≤ 9223372036854775807
/- bools that came in -/
def InB (W : World) (a : Option Addr) (len : Nat) (m : Nat → Bool) : Prop :=
  len = 0 ∨ ∃ b off, a = some ⟨b, off, none⟩ ∧ ∀ i, i < len → W.cell? ⟨b, off + i, none⟩ = some (.bool (m i))
theorem InB.bools {W w : World} {a : Option Addr} {len : Nat} {m : Nat → Bool} {fs : List Nat} (h : InB W a len m) (hb : Below W.heap.size W w) (hf : ∀ k ∈ fs, W.heap.size ≤ k) : Bools fs w a len m := by
  rcases h with h | ⟨b, off, h1, h2⟩
  · exact .inl h
  · by_cases h0 : len = 0
    · exact .inl h0
    · have hl : b < W.heap.size := block_lt_of_cell (h2 0 (by omega))
      exact .inr ⟨b, off, h1, fun hm => by have := hf b hm; omega, fun i hi => (hb.cell (p := ⟨b, off + i, none⟩) hl).trans (h2 i hi)⟩
set_option maxRecDepth 100000 in
theorem inb_of {H : Type} {enc : TypeId × Value → H} {W : World} {fuel : Nat} {cs : List Value} {x : DataW H × List MemPlace} (h : DataW.trod enc Tryz.prog W 0 (fun _ => true) true fuel 26 cs = some x) :
    ∃ a len cap m, cs = [.slice a len cap] ∧ len ≤ cap ∧ cap ≤ 9223372036854775807 ∧ InB W a len m := by
  rcases Go.Deep.open_bools Tryz.underlying26 Tryz.underlying4 (by kernel_rfl) h with ⟨hcs, _⟩ | ⟨a, len, cap, B, hcs, _, hl, hm, _, hc⟩
  · exact ⟨none, 0, 0, fun _ => false, hcs, by omega, by omega, .inl rfl⟩
  · unfold maxLen at hm
    refine ⟨some a, len, cap, B, hcs, hl, by omega, ?_⟩
    by_cases h0 : len = 0
    · exact .inl h0
    · obtain ⟨b, off, spot⟩ := a
      have hspot : spot = none := by simpa [Addr.add] using World.cell?_spot (hc 0 (by omega))
      subst hspot
      refine .inr ⟨b, off, rfl, fun i hi => ?_⟩
      have := hc i (by omega)
      rwa [add_plain] at this
set_option maxRecDepth 100000 in
theorem bools_of {H : Type} {enc : TypeId × Value → H} {W : World} {a : Option Addr} {len cap : Nat} {d : DataW H} {p : List MemPlace} (h : DataW.Trod enc Tryz.prog W 0 (fun _ => true) true 26 (.slice a len cap) d p) :
    ∃ m, InB W a len m ∧ len ≤ cap ∧ cap ≤ 9223372036854775807 := by
  obtain ⟨fuel, hf⟩ := h
  obtain ⟨a', len', cap', m, hcs, h1, h2, h3⟩ := inb_of hf
  simp [Value.cells] at hcs
  obtain ⟨rfl, rfl, rfl⟩ := hcs
  exact ⟨m, h3, h1, h2⟩
/- a struct of five, opened -/
theorem trod5 {H : Type} {enc : TypeId × Value → H} {W : World} {t : TypeId} {f0 f1 f2 f3 f4 : Field} {fuel : Nat} {cs : List Value} {x : DataW H × List MemPlace} (ht : Tryz.prog.underlying t = some (.struct #[f0, f1, f2, f3, f4])) (h : DataW.trod enc Tryz.prog W 0 (fun _ => true) true fuel t cs = some x) :
    ∃ y0 y1 y2 y3 y4 n, DataW.trod enc Tryz.prog W 0 (fun _ => true) true n f0.type ((cs.drop f0.offset).take (Tryz.prog.cellsOf f0.type)) = some y0 ∧ DataW.trod enc Tryz.prog W 0 (fun _ => true) true n f1.type ((cs.drop f1.offset).take (Tryz.prog.cellsOf f1.type)) = some y1 ∧ DataW.trod enc Tryz.prog W 0 (fun _ => true) true n f2.type ((cs.drop f2.offset).take (Tryz.prog.cellsOf f2.type)) = some y2 ∧ DataW.trod enc Tryz.prog W 0 (fun _ => true) true n f3.type ((cs.drop f3.offset).take (Tryz.prog.cellsOf f3.type)) = some y3 ∧ DataW.trod enc Tryz.prog W 0 (fun _ => true) true n f4.type ((cs.drop f4.offset).take (Tryz.prog.cellsOf f4.type)) = some y4 := by
  obtain ⟨xs, n, _, rfl, hl, hlen, hf⟩ := DataW.trod_struct ht h
  match xs, hlen with
  | [y0, y1, y2, y3, y4], _ => exact ⟨y0, y1, y2, y3, y4, n, by simpa using hf 0 f0 rfl, by simpa using hf 1 f1 rfl, by simpa using hf 2 f2 rfl, by simpa using hf 3 f3 rfl, by simpa using hf 4 f4 rfl⟩
/- a call, as it comes in -/
structure Actv where
  kind : Int
  id : Int
  kd : Int
  s : ByteArray
  ka : Option Addr
  kl : Nat
  kc : Nat
  m : Nat → Bool
def Actv.cells (x : Actv) : Array Value := #[.int .i64 x.kind, .int .i64 x.id, .int .i64 x.kd, .string x.s, .slice x.ka x.kl x.kc]
structure Actv.Fits (W : World) (x : Actv) : Prop where
  kind : In64 x.kind
  id : In64 x.id
  kd : In64 x.kd
  s : x.s.size ≤ 9223372036854775807
  kl : x.kl ≤ x.kc
  kc : x.kc ≤ 9223372036854775807
  ks : InB W x.ka x.kl x.m
set_option maxRecDepth 100000 in
theorem act_trod {H : Type} {enc : TypeId × Value → H} {W : World} {fuel : Nat} {cs : List Value} {x : DataW H × List MemPlace} (hlen : cs.length = 5) (h : DataW.trod enc Tryz.prog W 0 (fun _ => true) true fuel 28 cs = some x) :
    ∃ a : Actv, cs = a.cells.toList ∧ a.Fits W := by
  have c3 : Tryz.prog.cellsOf 3 = 1 := by kernel_rfl
  have c9 : Tryz.prog.cellsOf 9 = 1 := by kernel_rfl
  have c31 : Tryz.prog.cellsOf 26 = 1 := by kernel_rfl
  obtain ⟨y0, y1, y1b, y2, y3, k, h0, h1, h1b, h2, h3⟩ := trod5 Tryz.underlying28 h
  obtain ⟨z0, e0, _, w0⟩ := DataW.trod_int Tryz.underlying3 h0
  obtain ⟨z1, e1, _, w1⟩ := DataW.trod_int Tryz.underlying3 h1
  obtain ⟨z1b, e1b, _, w1b⟩ := DataW.trod_int Tryz.underlying3 h1b
  obtain ⟨s2, e2, _, w2⟩ := DataW.trod_string Tryz.underlying9 h2
  obtain ⟨ka, kl, kc, m, e3, g1, g2, g3⟩ := inb_of h3
  unfold maxLen at w2
  match cs, hlen with
  | [q0, q1, q1b, q2, q3], _ =>
    change List.take (Tryz.prog.cellsOf 3) (List.drop 0 [q0, q1, q1b, q2, q3]) = _ at e0
    change List.take (Tryz.prog.cellsOf 3) (List.drop 1 [q0, q1, q1b, q2, q3]) = _ at e1
    change List.take (Tryz.prog.cellsOf 3) (List.drop 2 [q0, q1, q1b, q2, q3]) = _ at e1b
    change List.take (Tryz.prog.cellsOf 9) (List.drop 3 [q0, q1, q1b, q2, q3]) = _ at e2
    change List.take (Tryz.prog.cellsOf 26) (List.drop 4 [q0, q1, q1b, q2, q3]) = _ at e3
    rw [c3] at e0 e1 e1b
    rw [c9] at e2
    rw [c31] at e3
    simp at e0 e1 e1b e2 e3
    subst e0
    subst e1
    subst e1b
    subst e2
    subst e3
    exact ⟨⟨z0, z1, z1b, s2, ka, kl, kc, m⟩, rfl, ⟨bounds_i64 w0, bounds_i64 w1, bounds_i64 w1b, by simp only; omega, g1, g2, g3⟩⟩
set_option maxRecDepth 100000 in
theorem act_of {H : Type} {enc : TypeId × Value → H} {W : World} {base : Nat} {v : Value} {d : DataW H} {p : List MemPlace} (hval : Value.okWide Tryz.prog W .any base 28 v) (h : DataW.Trod enc Tryz.prog W 0 (fun _ => true) true 28 v d p) :
    ∃ a : Actv, v = .agg a.cells ∧ a.Fits W := by
  have c33 : Tryz.prog.cellsOf 28 = 5 := by kernel_rfl
  obtain ⟨cs, rfl, hsz, _⟩ : ∃ cs, v = .agg cs ∧ cs.size = Tryz.prog.cellsOf 28 ∧ Row.okWide Tryz.prog W .any base 28 cs := by
    simpa [Value.okWide, Tryz.underlying28] using hval
  rw [c33] at hsz
  obtain ⟨fuel, ht⟩ := h
  obtain ⟨a, ha, hf⟩ := act_trod (by simpa [Value.cells] using hsz) ht
  refine ⟨a, ?_, hf⟩
  congr 1
  apply Array.ext'
  simpa [Value.cells] using ha
/- calls that came in -/
def Acts (W : World) (a : Option Addr) (len : Nat) : Prop :=
  len = 0 ∨ ∃ b off, a = some ⟨b, off, none⟩ ∧ ∀ i, i < len → ∃ x : Actv, x.Fits W ∧ W.rangeAt b (off + i * 5) x.cells.toList
set_option maxRecDepth 100000 in
theorem acts_of {H : Type} {enc : TypeId × Value → H} {W : World} {a : Option Addr} {len cap : Nat} {d : DataW H} {p : List MemPlace} (h : DataW.Trod enc Tryz.prog W 0 (fun _ => true) true 22 (.slice a len cap) d p) :
    Acts W a len ∧ len ≤ cap ∧ cap ≤ 9223372036854775807 := by
  have c33 : Tryz.prog.cellsOf 28 = 5 := by kernel_rfl
  obtain ⟨fuel, hf⟩ := h
  rcases Go.Deep.open_slice Tryz.underlying22 hf with ⟨hcs, _⟩ | ⟨x, l, c, m, n, D, Pl, hcs, _, hl, hm, hmm, _, hel⟩
  · simp [Value.cells] at hcs
    obtain ⟨rfl, rfl, rfl⟩ := hcs
    exact ⟨.inl rfl, Nat.le_refl _, by omega⟩
  · simp [Value.cells] at hcs
    obtain ⟨rfl, rfl, rfl⟩ := hcs
    unfold maxLen at hm
    refine ⟨?_, hl, by omega⟩
    simp only [if_true] at hmm
    subst hmm
    rw [c33] at hel
    have each : ∀ i, i < m → ∃ y : Actv, y.Fits W ∧ ∀ j u, y.cells.toList[j]? = some u → W.cell? (x.add (i * 5 + j)) = some u := fun i hi => by
      obtain ⟨cs, hc, ht⟩ := hel i hi
      obtain ⟨_, hlen, hcell⟩ := World.cells?_some hc
      obtain ⟨y, hy, hfit⟩ := act_trod hlen ht
      refine ⟨y, hfit, fun j u hu => ?_⟩
      rw [← hy] at hu
      obtain ⟨hj, hju⟩ := List.getElem?_eq_some_iff.1 hu
      have := hcell j (by omega)
      rw [Go.Deep.add_add] at this
      rw [this]
      exact hu
    by_cases h0 : len = 0
    · exact .inl h0
    · obtain ⟨b, off, spot⟩ := x
      have hspot : spot = none := by
        obtain ⟨f, _, h1⟩ := each 0 (by omega)
        simpa [Addr.add] using World.cell?_spot (h1 0 _ rfl)
      subst hspot
      refine .inr ⟨b, off, rfl, fun i hi => ?_⟩
      obtain ⟨y, hy, h1⟩ := each i (by omega)
      refine ⟨y, hy, fun j u hu => ?_⟩
      have := h1 j u hu
      rw [add_plain] at this
      rwa [Nat.add_assoc]
/- a yes or no that came in -/
set_option maxRecDepth 100000 in
theorem bool_of {H : Type} {enc : TypeId × Value → H} {W : World} {base : Nat} {v : Value} {d : DataW H} {p : List MemPlace} (hval : Value.okWide Tryz.prog W .any base 4 v) (h : DataW.Trod enc Tryz.prog W 0 (fun _ => true) true 4 v d p) : ∃ b : Bool, v = .bool b := by
  obtain ⟨b, rfl, _⟩ := open_bool Tryz.underlying4 hval h
  exact ⟨b, rfl⟩
/- three numbers that came in -/
set_option maxRecDepth 100000 in
theorem three_of {H : Type} {enc : TypeId × Value → H} {W : World} {base : Nat} {v : Value} {d : DataW H} {p : List MemPlace} (hval : Value.okWide Tryz.prog W .any base 75 v) (h : DataW.Trod enc Tryz.prog W 0 (fun _ => true) true 75 v d p) :
    ∃ a b c : Int, v = .agg #[.int .i64 a, .int .i64 b, .int .i64 c] ∧ In64 a ∧ In64 b ∧ In64 c := by
  have c46 : Tryz.prog.cellsOf 75 = 3 := by kernel_rfl
  have c3 : Tryz.prog.cellsOf 3 = 1 := by kernel_rfl
  obtain ⟨cs, rfl, hsz, _⟩ : ∃ cs, v = .agg cs ∧ cs.size = Tryz.prog.cellsOf 75 ∧ Row.okWide Tryz.prog W .any base 75 cs := by
    simpa [Value.okWide, Tryz.underlying75] using hval
  rw [c46] at hsz
  obtain ⟨fuel, ht⟩ := h
  obtain ⟨xs, m, _, _, hl, hx, hel⟩ := DataW.trod_array Tryz.underlying75 ht
  rw [c3] at hel
  have each : ∀ i, i < 3 → ∃ z : Int, ((cs.toList).drop i).take 1 = [.int .i64 z] ∧ In64 z := fun i hi => by
    have hE := hel i hi
    obtain ⟨x, hx1⟩ : ∃ x, xs[i]? = some x := ⟨_, List.getElem?_eq_getElem (by omega)⟩
    rw [hx1] at hE
    obtain ⟨z, e, _, hw⟩ := DataW.trod_int Tryz.underlying3 hE
    refine ⟨z, ?_, bounds_i64 hw⟩
    simpa [Value.cells] using e
  obtain ⟨a, ea, ha⟩ := each 0 (by omega)
  obtain ⟨b, eb, hb⟩ := each 1 (by omega)
  obtain ⟨c, ec, hc⟩ := each 2 (by omega)
  refine ⟨a, b, c, ?_, ha, hb, hc⟩
  congr 1
  apply Array.ext'
  have hlen : cs.toList.length = 3 := by rw [Array.length_toList]; exact hsz
  match h3 : cs.toList, hlen with
  | [q0, q1, q2], _ =>
    rw [h3] at ea eb ec
    simp at ea eb ec
    rw [ea, eb, ec]
end Go.Proofs.YtcfninpokngmlaaGreatDoor
