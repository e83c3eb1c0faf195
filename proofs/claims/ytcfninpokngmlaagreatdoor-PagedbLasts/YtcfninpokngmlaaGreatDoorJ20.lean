/- Proved: the program's start lays the table of sixteen numbers, and what comes in is read as calls, bools, texts and three numbers. What every law's proof of this seat shares; conditions: the row's own. -/
import Derived.Test.YtcfninpokngmlaaGreatDoorRows
import Derived.Test.YtcfninpokngmlaaGreatDoorJ19
import Derived.ProofKit
import Derived.OpenShut
import Derived.ShutString
import Derived.ChangeOld
import Derived.Below
import Derived.LaidMore
import Derived.Lay
import Derived.HandedShaped
import Derived.Stop.Joined
import Derived.Lib.LaidTab
import Derived.Lib.LaidU8
import Derived.Lib.SmallJoins
import Derived.ChangeMaps5
import Derived.Deep.Slices
import Derived.Deep.Grids
import Derived.SliceStrings
import Derived.Maps.AppendAt
import Derived.Deep.AppendSrc
namespace Go.Proofs.YtcfninpokngmlaaGreatDoor
open Go.ChangeShapes Go.WideShapes Go.ChangeAt Go.RowKit
theorem own : ownKnob Tryz.prog.godebug = none := by kernel_rfl
theorem laidOut : laidOutB Tryz.prog = true := by kernel_rfl
def laid1 : List (String × DataW Unit) := [("aquifer/castagnoli.nibbles", Rows.laid_aquifer_castagnoli_nibbles), ("unicode/utf8.acceptRanges", Rows.laid_unicode_utf8_acceptRanges), ("unicode/utf8.first", Rows.laid_unicode_utf8_first)]
theorem gNib : Tryz.prog.globalNamed "aquifer/castagnoli.nibbles" = some 0 := by kernel_rfl
theorem gNibType : (Tryz.prog.globals[0]?).map (·.type) = some 211 := by kernel_rfl
def zs16 : List Int := Crc.tab.map Int.ofNat
theorem laid1_eq : laid1 = [("aquifer/castagnoli.nibbles", Lib.tabData .u32 zs16), ("unicode/utf8.acceptRanges", Rows.laid_unicode_utf8_acceptRanges), ("unicode/utf8.first", Rows.laid_unicode_utf8_first)] := rfl
theorem nib_at : ∀ i, i < 16 → zs16.getD i 0 = (Crc.nib i : Int) := by decide
/- the wrap that hands on both the listed tables and the world's shape -/
theorem wrap_both {H : Type} {enc : TypeId × Value → H} {a : Assume} {C : Checked} {os : Os} {f : FuncId} {fn : Func} {s : ChangeSpec} {conds : List PathCond} {apart fresh handsOn again : Bool} {X : World → Array Value → Prop}
    (hX : ∀ (w w' : World) (args : Array Value), w.heap = w'.heap → X w args → X w' args)
    (own : ownKnob C.prog.godebug = none) (started : os.Started) (noInit : C.prog.inits.idxOf? f = none) (hfn : C.prog.funcs[f]? = some fn)
    (witness : ∃ (w : World) (tape : Tape) (i : Input), w.os = os ∧ (w.forCall tape i).Shaped C.prog ∧ i.vars = [] ∧ Input.okWide C.prog (w.forCall tape i) .any w.heap.size f i ∧
      ((s.pre enc C.prog fn conds apart (w.forCall tape i).memory i.args ∧ X (w.forCall tape i).memory i.args) ∧ sizedMet enc C.prog fn (OpenSpec.ofChange s) apart (w.forCall tape i).memory i.args) ∧ a.holds C.prog (lone (Frame.enter C.prog f i.args .normal) [] (w.forCall tape i)))
    (contract : ∀ (W : World) (base : Nat) (args : Array Value) (ds gs : List (DataW H)) (before : List MemPlace),
      (∀ (j : Nat) t v, fn.params[j]? = some t → args[j]? = some v → Value.okWide C.prog W .any base t v) →
      DataW.Whole enc C.prog fn.params.toList s.vars apart W args.toList ds gs before → X W args → W.ShapedOpen C.prog →
      Calls C.prog f args W fun e W' => ∃ v, e = .returned v ∧ s.post enc C.prog fn apart fresh handsOn again W args v W') :
    ReturnsInHanded a C os f .any (fun w args => (s.pre enc C.prog fn conds apart w args ∧ X w args) ∧ sizedMet enc C.prog fn (OpenSpec.ofChange s) apart w args) (s.post enc C.prog fn apart fresh handsOn again) := by
  refine returnsInHanded_of_calls own started noInit witness ?_
  intro w tape i _ hsh _ hok hpre _
  obtain ⟨_, _, _, fn', hfn', _, _, _, _, hval⟩ := hok
  have e : fn' = fn := Option.some.inj (hfn'.symm.trans hfn)
  subst e
  obtain ⟨⟨⟨ds, gs, before, hw, _⟩, hx⟩, _⟩ := hpre
  have hw' := DataW.Whole.of_heap (w' := w.forCall tape i) (by rfl) hw
  refine (contract (w.forCall tape i) w.heap.size i.args ds gs before hval hw' (hX _ _ _ (by rfl) hx) hsh).mono fun e W' ⟨v, he, hp⟩ => ?_
  subst he
  exact ChangeSpec.post_blind hp
/- What the condition gives the walks: the sixteen numbers. -/
theorem tab_of_laid {W : World} (h : laidMetH Tryz.prog laid1 W) : Tab W := by
  rw [MakeChecks.laidMetH_plain _ _ _ (by kernel_rfl), laid1_eq] at h
  have hT := Lib.tabIs_of_head gNib gNibType Tryz.underlying211 Tryz.underlying159 (by kernel_rfl) (by kernel_rfl) h
  intro i hi
  rw [← nib_at i hi]
  exact hT.cell gNib i hi
set_option maxRecDepth 100000 in
theorem text_of {H : Type} {enc : TypeId × Value → H} {W : World} {base : Nat} {v : Value} {d : DataW H} {p : List MemPlace} (hval : Value.okWide Tryz.prog W .any base 9 v) (h : DataW.Trod enc Tryz.prog W 0 (fun _ => true) true 9 v d p) :
    ∃ s : ByteArray, v = .string s ∧ s.size ≤ 9223372036854775807 := by
  obtain ⟨s, rfl, _, _, hw⟩ := Go.ChangeMaps.open_string Tryz.underlying9 hval h
  unfold maxLen at hw
  exact ⟨s, rfl, by omega⟩
def In64 (z : Int) : Prop := -9223372036854775808 ≤ z ∧ z ≤ 9223372036854775807
/- bools that came in -/
def InB (W : World) (a : Option Addr) (len : Nat) (m : Nat → Bool) : Prop :=
  len = 0 ∨ ∃ b off, a = some ⟨b, off, none⟩ ∧ ∀ i, i < len → W.cell? ⟨b, off + i, none⟩ = some (.bool (m i))
theorem InB.bools {W w : World} {a : Option Addr} {len : Nat} {m : Nat → Bool} {fs : List Nat} (h : InB W a len m) (hb : Below W.heap.size W w) (hf : ∀ k ∈ fs, W.heap.size ≤ k) : Bools fs w a len m := by
  rcases h with h | ⟨b, off, h1, h2⟩
  · exact .inl h
  · by_cases h0 : len = 0
    · exact .inl h0
    · have hl : b < W.heap.size := block_lt_of_cell (h2 0 (by omega))
      exact .inr ⟨b, off, h1, fun hm => by have := hf b hm; omega, fun i hi => (hb.cell (p := ⟨b, off + i, none⟩) hl).trans (h2 i hi)⟩
set_option maxRecDepth 100000 in
theorem inb_of {H : Type} {enc : TypeId × Value → H} {W : World} {fuel : Nat} {cs : List Value} {x : DataW H × List MemPlace} (h : DataW.trod enc Tryz.prog W 0 (fun _ => true) true fuel 26 cs = some x) :
    ∃ a len cap m, cs = [.slice a len cap] ∧ len ≤ cap ∧ cap ≤ 9223372036854775807 ∧ InB W a len m := by
  rcases Go.Deep.open_bools Tryz.underlying26 Tryz.underlying4 (by kernel_rfl) h with ⟨hcs, _⟩ | ⟨a, len, cap, B, hcs, _, hl, hm, _, hc⟩
  · exact ⟨none, 0, 0, fun _ => false, hcs, by omega, by omega, .inl rfl⟩
  · unfold maxLen at hm
    refine ⟨some a, len, cap, B, hcs, hl, by omega, ?_⟩
    by_cases h0 : len = 0
    · exact .inl h0
    · obtain ⟨b, off, spot⟩ := a
      have hspot : spot = none := by simpa [Addr.add] using World.cell?_spot (hc 0 (by omega))
      subst hspot
      refine .inr ⟨b, off, rfl, fun i hi => ?_⟩
      have := hc i (by omega)
      rwa [add_plain] at this
set_option maxRecDepth 100000 in
theorem bools_of {H : Type} {enc : TypeId × Value → H} {W : World} {a : Option Addr} {len cap : Nat} {d : DataW H} {p : List MemPlace} (h : DataW.Trod enc Tryz.prog W 0 (fun _ => true) true 26 (.slice a len cap) d p) :
    ∃ m, InB W a len m ∧ len ≤ cap ∧ cap ≤ 9223372036854775807 := by
  obtain ⟨fuel, hf⟩ := h
  obtain ⟨a', len', cap', m, hcs, h1, h2, h3⟩ := inb_of hf
  simp [Value.cells] at hcs
  obtain ⟨rfl, rfl, rfl⟩ := hcs
  exact ⟨m, h3, h1, h2⟩
/- a struct of five, opened -/
theorem trod5 {H : Type} {enc : TypeId × Value → H} {W : World} {t : TypeId} {f0 f1 f2 f3 f4 : Field} {fuel : Nat} {cs : List Value} {x : DataW H × List MemPlace} (ht : Tryz.prog.underlying t = some (.struct #[f0, f1, f2, f3, f4])) (h : DataW.trod enc Tryz.prog W 0 (fun _ => true) true fuel t cs = some x) :
    ∃ y0 y1 y2 y3 y4 n, DataW.trod enc Tryz.prog W 0 (fun _ => true) true n f0.type ((cs.drop f0.offset).take (Tryz.prog.cellsOf f0.type)) = some y0 ∧ DataW.trod enc Tryz.prog W 0 (fun _ => true) true n f1.type ((cs.drop f1.offset).take (Tryz.prog.cellsOf f1.type)) = some y1 ∧ DataW.trod enc Tryz.prog W 0 (fun _ => true) true n f2.type ((cs.drop f2.offset).take (Tryz.prog.cellsOf f2.type)) = some y2 ∧ DataW.trod enc Tryz.prog W 0 (fun _ => true) true n f3.type ((cs.drop f3.offset).take (Tryz.prog.cellsOf f3.type)) = some y3 ∧ DataW.trod enc Tryz.prog W 0 (fun _ => true) true n f4.type ((cs.drop f4.offset).take (Tryz.prog.cellsOf f4.type)) = some y4 := by
  obtain ⟨xs, n, _, rfl, hl, hlen, hf⟩ := DataW.trod_struct ht h
  match xs, hlen with
  | [y0, y1, y2, y3, y4], _ => exact ⟨y0, y1, y2, y3, y4, n, by simpa using hf 0 f0 rfl, by simpa using hf 1 f1 rfl, by simpa using hf 2 f2 rfl, by simpa using hf 3 f3 rfl, by simpa using hf 4 f4 rfl⟩
/- a call, as it comes in -/
structure Actv where
  kind : Int
  id : Int
  kd : Int
  s : ByteArray
  ka : Option Addr
  kl : Nat
  kc : Nat
  m : Nat → Bool
def Actv.cells (x : Actv) : Array Value := #[.int .i64 x.kind, .int .i64 x.id, .int .i64 x.kd, .string x.s, .slice x.ka x.kl x.kc]
structure Actv.Fits (W : World) (x : Actv) : Prop where
  kind : In64 x.kind
  id : In64 x.id
  kd : In64 x.kd
  s : x.s.size ≤ 9223372036854775807
  kl : x.kl ≤ x.kc
  kc : x.kc ≤ 9223372036854775807
  ks : InB W x.ka x.kl x.m
set_option maxRecDepth 100000 in
theorem act_trod {H : Type} {enc : TypeId × Value → H} {W : World} {fuel : Nat} {cs : List Value} {x : DataW H × List MemPlace} (hlen : cs.length = 5) (h : DataW.trod enc Tryz.prog W 0 (fun _ => true) true fuel 28 cs = some x) :
    ∃ a : Actv, cs = a.cells.toList ∧ a.Fits W := by
  have c3 : Tryz.prog.cellsOf 3 = 1 := by kernel_rfl
  have c9 : Tryz.prog.cellsOf 9 = 1 := by kernel_rfl
  have c31 : Tryz.prog.cellsOf 26 = 1 := by kernel_rfl
  obtain ⟨y0, y1, y1b, y2, y3, k, h0, h1, h1b, h2, h3⟩ := trod5 Tryz.underlying28 h
  obtain ⟨z0, e0, _, w0⟩ := DataW.trod_int Tryz.underlying3 h0
  obtain ⟨z1, e1, _, w1⟩ := DataW.trod_int Tryz.underlying3 h1
  obtain ⟨z1b, e1b, _, w1b⟩ := DataW.trod_int Tryz.underlying3 h1b
  obtain ⟨s2, e2, _, w2⟩ := DataW.trod_string Tryz.underlying9 h2
  obtain ⟨ka, kl, kc, m, e3, g1, g2, g3⟩ := inb_of h3
  unfold maxLen at w2
  match cs, hlen with
  | [q0, q1, q1b, q2, q3], _ =>
    change List.take (Tryz.prog.cellsOf 3) (List.drop 0 [q0, q1, q1b, q2, q3]) = _ at e0
    change List.take (Tryz.prog.cellsOf 3) (List.drop 1 [q0, q1, q1b, q2, q3]) = _ at e1
    change List.take (Tryz.prog.cellsOf 3) (List.drop 2 [q0, q1, q1b, q2, q3]) = _ at e1b
    change List.take (Tryz.prog.cellsOf 9) (List.drop 3 [q0, q1, q1b, q2, q3]) = _ at e2
    change List.take (Tryz.prog.cellsOf 26) (List.drop 4 [q0, q1, q1b, q2, q3]) = _ at e3
    rw [c3] at e0 e1 e1b
    rw [c9] at e2
    rw [c31] at e3
    simp at e0 e1 e1b e2 e3
    subst e0
    subst e1
    subst e1b
    subst e2
    subst e3
    exact ⟨⟨z0, z1, z1b, s2, ka, kl, kc, m⟩, rfl, ⟨bounds_i64 w0, bounds_i64 w1, bounds_i64 w1b, by simp only; omega, g1, g2, g3⟩⟩
set_option maxRecDepth 100000 in
theorem act_of {H : Type} {enc : TypeId × Value → H} {W : World} {base : Nat} {v : Value} {d : DataW H} {p : List MemPlace} (hval : Value.okWide Tryz.prog W .any base 28 v) (h : DataW.Trod enc Tryz.prog W 0 (fun _ => true) true 28 v d p) :
    ∃ a : Actv, v = .agg a.cells ∧ a.Fits W := by
  have c33 : Tryz.prog.cellsOf 28 = 5 := by kernel_rfl
  obtain ⟨cs, rfl, hsz, _⟩ : ∃ cs, v = .agg cs ∧ cs.size = Tryz.prog.cellsOf 28 ∧ Row.okWide Tryz.prog W .any base 28 cs := by
    simpa [Value.okWide, Tryz.underlying28] using hval
  rw [c33] at hsz
  obtain ⟨fuel, ht⟩ := h
  obtain ⟨a, ha, hf⟩ := act_trod (by simpa [Value.cells] using hsz) ht
  refine ⟨a, ?_, hf⟩
  congr 1
  apply Array.ext'
  simpa [Value.cells] using ha
/- calls that came in -/
def Acts (W : World) (a : Option Addr) (len : Nat) : Prop :=
  len = 0 ∨ ∃ b off, a = some ⟨b, off, none⟩ ∧ ∀ i, i < len → ∃ x : Actv, x.Fits W ∧ W.rangeAt b (off + i * 5) x.cells.toList
set_option maxRecDepth 100000 in
theorem acts_of {H : Type} {enc : TypeId × Value → H} {W : World} {a : Option Addr} {len cap : Nat} {d : DataW H} {p : List MemPlace} (h : DataW.Trod enc Tryz.prog W 0 (fun _ => true) true 22 (.slice a len cap) d p) :
    Acts W a len ∧ len ≤ cap ∧ cap ≤ 9223372036854775807 := by
  have c33 : Tryz.prog.cellsOf 28 = 5 := by kernel_rfl
  obtain ⟨fuel, hf⟩ := h
  rcases Go.Deep.open_slice Tryz.underlying22 hf with ⟨hcs, _⟩ | ⟨x, l, c, m, n, D, Pl, hcs, _, hl, hm, hmm, _, hel⟩
  · simp [Value.cells] at hcs
    obtain ⟨rfl, rfl, rfl⟩ := hcs
    exact ⟨.inl rfl, Nat.le_refl _, by omega⟩
  · simp [Value.cells] at hcs
    obtain ⟨rfl, rfl, rfl⟩ := hcs
    unfold maxLen at hm
    refine ⟨?_, hl, by omega⟩
    simp only [if_true] at hmm
    subst hmm
    rw [c33] at hel
    have each : ∀ i, i < m → ∃ y : Actv, y.Fits W ∧ ∀ j u, y.cells.toList[j]? = some u → W.cell? (x.add (i * 5 + j)) = some u := fun i hi => by
      obtain ⟨cs, hc, ht⟩ := hel i hi
      obtain ⟨_, hlen, hcell⟩ := World.cells?_some hc
      obtain ⟨y, hy, hfit⟩ := act_trod hlen ht
      refine ⟨y, hfit, fun j u hu => ?_⟩
      rw [← hy] at hu
      obtain ⟨hj, hju⟩ := List.getElem?_eq_some_iff.1 hu
      have := hcell j (by omega)
      rw [Go.Deep.add_add] at this
      rw [this]
      exact hu
    by_cases h0 : len = 0
    · exact .inl h0
    · obtain ⟨b, off, spot⟩ := x
      have hspot : spot = none := by
        obtain ⟨f, _, h1⟩ := each 0 (by omega)
        simpa [Addr.add] using World.cell?_spot (h1 0 _ rfl)
      subst hspot
      refine .inr ⟨b, off, rfl, fun i hi => ?_⟩
      obtain ⟨y, hy, h1⟩ := each i (by omega)
      refine ⟨y, hy, fun j u hu => ?_⟩
      have := h1 j u hu
      rw [add_plain] at this
      rwa [Nat.add_assoc]
/- a yes or no that came in -/
set_option maxRecDepth 100000 in
theorem bool_of {H : Type} {enc : TypeId × Value → H} {W : World} {base : Nat} {v : Value} {d : DataW H} {p : List MemPlace} (hval : Value.okWide Tryz.prog W .any base 4 v) (h : DataW.Trod enc Tryz.prog W 0 (fun _ => true) true 4 v d p) : ∃ b : Bool, v = .bool b := by
  obtain ⟨b, rfl, _⟩ := open_bool Tryz.underlying4 hval h
  exact ⟨b, rfl⟩
/- three numbers that came in -/
set_option maxRecDepth 100000 in
theorem three_of {H : Type} {enc : TypeId × Value → H} {W : World} {base : Nat} {v : Value} {d : DataW H} {p : List MemPlace} (hval : Value.okWide Tryz.prog W .any base 75 v) (h : DataW.Trod enc Tryz.prog W 0 (fun _ => true) true 75 v d p) :
    ∃ a b c : Int, v = .agg #[.int .i64 a, .int .i64 b, .int .i64 c] ∧ In64 a ∧ In64 b ∧ In64 c := by
  have c46 : Tryz.prog.cellsOf 75 = 3 := by kernel_rfl
  have c3 : Tryz.prog.cellsOf 3 = 1 := by kernel_rfl
  obtain ⟨cs, rfl, hsz, _⟩ : ∃ cs, v = .agg cs ∧ cs.size = Tryz.prog.cellsOf 75 ∧ Row.okWide Tryz.prog W .any base 75 cs := by
    simpa [Value.okWide, Tryz.underlying75] using hval
  rw [c46] at hsz
  obtain ⟨fuel, ht⟩ := h
  obtain ⟨xs, m, _, _, hl, hx, hel⟩ := DataW.trod_array Tryz.underlying75 ht
  rw [c3] at hel
  have each : ∀ i, i < 3 → ∃ z : Int, ((cs.toList).drop i).take 1 = [.int .i64 z] ∧ In64 z := fun i hi => by
    have hE := hel i hi
    obtain ⟨x, hx1⟩ : ∃ x, xs[i]? = some x := ⟨_, List.getElem?_eq_getElem (by omega)⟩
    rw [hx1] at hE
    obtain ⟨z, e, _, hw⟩ := DataW.trod_int Tryz.underlying3 hE
    refine ⟨z, ?_, bounds_i64 hw⟩
    simpa [Value.cells] using e
  obtain ⟨a, ea, ha⟩ := each 0 (by omega)
  obtain ⟨b, eb, hb⟩ := each 1 (by omega)
  obtain ⟨c, ec, hc⟩ := each 2 (by omega)
  refine ⟨a, b, c, ?_, ha, hb, hc⟩
  congr 1
  apply Array.ext'
  have hlen : cs.toList.length = 3 := by rw [Array.length_toList]; exact hsz
  match h3 : cs.toList, hlen with
  | [q0, q1, q2], _ =>
    rw [h3] at ea eb ec
    simp at ea eb ec
    rw [ea, eb, ec]
end Go.Proofs.YtcfninpokngmlaaGreatDoor
/- Proved: where Open refuses; PagedbOpens' walk. -/
namespace Go.Proofs.YtcfninpokngmlaaGreatDoor
open Go.RowKit
set_option maxHeartbeats 400000 in
theorem wopen_no (b n : Int) (w : World) : Calls Tryz.prog 54 #[.pointer none, .int .i64 b, .int .i64 n] w fun e w' => e = .returned (.tuple #[.pointer none, .int .i64 1]) ∧ w' = w := by
  have HM := size_no (.pointer none) w (.inl rfl)
  go_enter Tryz.func54, Tryz.ntmps54
  go_wp2_with (go_at_call 55; refine HM.mono ?_; rintro e w' ⟨rfl, rfl⟩)
  go_ret2
  exact ⟨rfl, rfl⟩
set_option maxHeartbeats 400000 in
theorem wopen_down (g kg : Nat) (vp : Value) (s : Sc.St) (b n : Int) (w : World) (hD : Dk w g kg vp s) (hd : s.down = true) : Calls Tryz.prog 54 #[ptr g, .int .i64 b, .int .i64 n] w fun e w' => e = .returned (.tuple #[.pointer none, .int .i64 10]) ∧ w' = w := by
  have HM := size_any g kg vp s w hD
  have HW := down_any g kg vp s w hD
  have h1 := hD.ok.one
  rw [hd] at HW
  have d0 : ¬ ((s.kept.length : Int) = 0) := by omega
  clear hD hd
  unfold ptr at *
  go_enter Tryz.func54, Tryz.ntmps54
  go_wp2_with (first | (go_at_call 55; refine HM.mono ?_; rintro e w' ⟨rfl, rfl⟩) | (go_at_call 37; refine HW.mono ?_; rintro e w' ⟨rfl, rfl⟩))
  go_ret2
  exact ⟨rfl, rfl⟩
set_option maxHeartbeats 400000 in
theorem wopen_arg (g kg : Nat) (vp : Value) (s : Sc.St) (n : Int) (w : World) (hD : Dk w g kg vp s) (hd : s.down = false) (hn : n < 2 ∨ (s.kept.length : Int) < n) : Calls Tryz.prog 54 #[ptr g, .int .i64 0, .int .i64 n] w fun e w' => e = .returned (.tuple #[.pointer none, .int .i64 2]) ∧ w' = w := by
  have HM := size_any g kg vp s w hD
  have HW := down_any g kg vp s w hD
  have h1 := hD.ok.one
  rw [hd] at HW
  have d0 : ¬ ((s.kept.length : Int) = 0) := by omega
  clear hD hd
  unfold ptr at *
  by_cases h2 : n < 2
  · have d1 : decide (n < 2) = true := decide_eq_true h2
    go_enter Tryz.func54, Tryz.ntmps54
    go_wp2_with (first | (go_at_call 55; refine HM.mono ?_; rintro e w' ⟨rfl, rfl⟩) | (go_at_call 37; refine HW.mono ?_; rintro e w' ⟨rfl, rfl⟩))
    go_ret2
    exact ⟨rfl, rfl⟩
  · have d1 : decide (n < 2) = false := decide_eq_false h2
    have d2 : decide ((s.kept.length : Int) < n) = true := decide_eq_true (by omega)
    go_enter Tryz.func54, Tryz.ntmps54
    go_wp2_with (first | (go_at_call 55; refine HM.mono ?_; rintro e w' ⟨rfl, rfl⟩) | (go_at_call 37; refine HW.mono ?_; rintro e w' ⟨rfl, rfl⟩))
    go_ret2
    exact ⟨rfl, rfl⟩
set_option maxHeartbeats 400000 in
theorem dopen_ref (v : Value) (n E : Int) (w : World) (hE : E ≠ 0) (h : Calls Tryz.prog 54 #[v, .int .i64 0, .int .i64 n] w fun e w' => e = .returned (.tuple #[.pointer none, .int .i64 E]) ∧ w' = w) : Calls Tryz.prog 23 #[v, .int .i64 n] w fun e w' => e = .returned (.tuple #[.pointer none, .int .i64 E]) ∧ w' = w := by
  go_enter Tryz.func23, Tryz.ntmps23
  go_wp2_with (go_at_call 54; refine h.mono ?_; rintro e w' ⟨rfl, rfl⟩)
  go_ret2
  exact ⟨rfl, rfl⟩
set_option maxHeartbeats 4000000 in
set_option maxRecDepth 20000 in
theorem dopen_few (g kg N n : Nat) (w : World) (hD : Dk w g kg nil0 (Sc.made N)) (hT : Tab w) (h2 : 2 ≤ n) (hn : n ≤ N) (h4 : (N - n) / 8 < 4) :
    Calls Tryz.prog 23 #[ptr g, .int .i64 (n : Int)] w fun e w' => e = .returned (.tuple #[.pointer none, .int .i64 2]) ∧ Below w.heap.size w w' := by
  have hmo := hD.ok.most
  have hlen : (Sc.made N).kept.length = N := List.length_replicate
  rw [hlen] at hmo
  have HWO : Hid (Calls Tryz.prog 54 #[.pointer (some ⟨g, 0, none⟩), .int .i64 0, .int .i64 (n : Int)] w fun r w' => ∃ q vr, r = .returned (.tuple #[ptr q, .int .i64 0]) ∧ LP w' q g vr nil0 (opened 0 n 0 []) kg nil0 (Sc.made N) ∧ Below w.heap.size w w' ∧ ∀ k ∈ pfoot q vr nil0, w.heap.size ≤ k) := open_any g kg nil0 (Sc.made N) 0 n 0 [] w hD rfl hT (by intro r hr; cases hr) (made_on N 0 n h2 (by omega))
  have hq1 : IntKind.i64.wrap ((N : Int) - (n : Int)) = ((N - n : Nat) : Int) := by rw [IntKind.wrap_i64]; omega
  obtain ⟨cnt, hcn⟩ : ∃ c : Nat, c = (N - n) / 8 := ⟨_, rfl⟩
  have hq2 : ((N - n : Nat) : Int).tdiv 8 = (cnt : Int) := by
    rw [Int.tdiv_eq_ediv_of_nonneg (by omega)]
    omega
  have hq3 : ((N : Int) - (n : Int)).tdiv 8 = (cnt : Int) := by
    rw [Int.tdiv_eq_ediv_of_nonneg (by omega)]
    omega
  have hq4 : ((N - n : Nat) : Int) / 8 = (cnt : Int) := by omega
  have d4 : decide ((cnt : Int) < 4) = true := decide_eq_true (by omega)
  clear hD hT hcn
  unfold ptr
  go_enter Tryz.func23, Tryz.ntmps23
  go_wp2_with fail
  refine HWO.out.mono ?_
  rintro r w1 ⟨q, vr, rfl, hL1, hB1, hab⟩
  have HB1 : Hid (Below w.heap.size w w1) := hB1
  have HSI : Hid (Calls Tryz.prog 55 #[.pointer (some ⟨g, 0, none⟩)] w1 fun e w' => e = .returned (.int .i64 (N : Int)) ∧ w' = w1) := by
    have := size_any g kg nil0 (Sc.made N) w1 hL1.dk
    rw [hlen] at this
    exact this
  clear hL1 hB1 hab HWO
  unfold ptr
  go_wp2_with fail
  refine HSI.out.mono ?_
  rintro r wS ⟨rfl, hwS⟩
  rw [hwS]
  clear hwS wS HSI
  have HB2 : Hid (∀ o, Below w.heap.size w (w1.alloc o)) := fun o => HB1.out.alloc HB1.out.size o
  go_wp2
  go_ret2
  exact ⟨rfl, HB2.out _⟩
theorem mod_pos (n : Int) (m : Nat) (hm : 0 < m) : ∃ K : Nat, K < m ∧ (n.tmod m + m).tmod m = (K : Int) ∧ (n.tmod m + m) % m = (K : Int) ∧ -(m : Int) < n.tmod m ∧ n.tmod m < m := by
  have h1 := Int.tmod_lt_of_pos n (show (0 : Int) < m by omega)
  have h2 : -(m : Int) < n.tmod m := Int.lt_tmod_of_pos n (by omega)
  have h3 : (n.tmod m + m).tmod m = (n.tmod m + m) % m := Int.tmod_eq_emod_of_nonneg (by omega)
  have h4 := Int.emod_nonneg (n.tmod m + m) (show (m : Int) ≠ 0 by omega)
  have h5 := Int.emod_lt_of_pos (n.tmod m + m) (show (0 : Int) < m by omega)
  refine ⟨((n.tmod m + m) % m).toNat, ?_, ?_, ?_, h2, h1⟩
  · omega
  · rw [h3]; omega
  · omega
set_option maxHeartbeats 4000000 in
set_option maxRecDepth 20000 in
theorem opens_walk (sc lg : Int) (off : Bool) (w : World) (_ : In64 sc) (hl : In64 lg) (hT : Tab w) :
    Calls Tryz.prog 4 #[.int .i64 sc, .int .i64 lg, .bool off] w fun e w' => e = .returned (.bool true) ∧ Below w.heap.size w w' := by
  have HT : Hid (Tab w) := hT
  have hpos := hT.pos
  clear hT
  unfold In64 at hl
  obtain ⟨K, hK, e1, e2, b1, b2⟩ := mod_pos sc 100 (by omega)
  have e1 : (sc.tmod 100 + 100).tmod 100 = (K : Int) := e1
  have e2 : (sc.tmod 100 + 100) % 100 = (K : Int) := e2
  have b1 : -100 < sc.tmod 100 := b1
  have b2 : sc.tmod 100 < 100 := b2
  have hwr : IntKind.i64.wrap (sc.tmod 100 + 100) = sc.tmod 100 + 100 := by rw [IntKind.wrap_i64]; omega
  obtain ⟨N, hN⟩ : ∃ N : Nat, N = K + 1 := ⟨_, rfl⟩
  have hq : 1 + (K : Int) = (N : Int) := by omega
  have hN1 : 1 ≤ N := by omega
  have hN2 : N ≤ 100 := by omega
  clear hN hK
  have hlen : (Sc.made N).kept.length = N := List.length_replicate
  have HL : Hid ((Sc.made N).kept.length = N) := hlen
  clear hlen
  cases off with
  | true =>
    go_enter Tryz.func4, Tryz.ntmps4
    go_wp2_with fail
    refine (new_any N w hN1 (by omega)).mono ?_
    rintro e w0 ⟨g, kg, rfl, hD0, hB0, hg, hkg⟩
    have HB0 : Hid (Below w.heap.size w w0) := hB0
    have HF : Hid (∀ k ∈ foot g kg nil0, w.heap.size ≤ k) := fun k hk => by
      simp [foot, Value.ownBlock] at hk
      omega
    have HO := off_any g kg nil0 (Sc.made N) w0 hD0
    clear hD0 hB0 hg hkg
    go_wp2_with fail
    refine HO.mono ?_
    rintro e w1 ⟨vp, rfl, hD1, hT1⟩
    have HB1 : Hid (Below w.heap.size w w1) := HB0.out.trans (hT1.below HF.out HB0.out.size)
    have HP := dopen_ref (ptr g) lg 10 w1 (by decide) (wopen_down g kg vp _ 0 lg w1 hD1 rfl)
    clear hD1 hT1 HO HB0
    go_wp2_with fail
    refine (HP).mono ?_
    rintro e wS ⟨rfl, hwS⟩
    rw [hwS]
    clear hwS wS
    clear HP
    have HN := dopen_ref (.pointer none) lg 1 w1 (by decide) (wopen_no 0 lg w1)
    go_wp2_with fail
    refine (HN).mono ?_
    rintro e wS ⟨rfl, hwS⟩
    rw [hwS]
    clear hwS wS
    clear HN
    have HWK := works_any w1 (HT.out.below HB1.out hpos)
    have HSZ : Hid (w.heap.size ≤ w1.heap.size) := (HB1.out).size
    have HBX : Hid (Below w.heap.size w w1) := HB1.out
    go_wp2_with fail
    refine HWK.mono ?_
    rintro e w9 ⟨rfl, hB9⟩
    have HFN : Hid (Below w.heap.size w w9) := HBX.out.trans (hB9.mono HSZ.out)
    clear hB9 HWK
    go_wp2
    go_ret
    exact ⟨rfl, HFN.out⟩
  | false =>
    have hlg : lg < 2 ∨ (N : Int) < lg ∨ (2 ≤ lg ∧ lg ≤ (N : Int)) := by omega
    rcases hlg with hl2 | hlN | hok
    · have d1 : decide (lg < 2) = true := decide_eq_true hl2
      go_enter Tryz.func4, Tryz.ntmps4
      go_wp2_with fail
      refine (new_any N w hN1 (by omega)).mono ?_
      rintro e w0 ⟨g, kg, rfl, hD0, hB0, hg, hkg⟩
      have HB0 : Hid (Below w.heap.size w w0) := hB0
      have HP := dopen_ref (ptr g) lg 2 w0 (by decide) (wopen_arg g kg nil0 _ lg w0 hD0 rfl (.inl hl2))
      clear hD0 hB0 hg hkg
      go_wp2_with fail
      refine (HP).mono ?_
      rintro e wS ⟨rfl, hwS⟩
      rw [hwS]
      clear hwS wS
      clear HP
      have HN := dopen_ref (.pointer none) lg 1 w0 (by decide) (wopen_no 0 lg w0)
      go_wp2_with fail
      refine (HN).mono ?_
      rintro e wS ⟨rfl, hwS⟩
      rw [hwS]
      clear hwS wS
      clear HN
      have HWK := works_any w0 (HT.out.below HB0.out hpos)
      have HSZ : Hid (w.heap.size ≤ w0.heap.size) := (HB0.out).size
      have HBX : Hid (Below w.heap.size w w0) := HB0.out
      go_wp2_with fail
      refine HWK.mono ?_
      rintro e w9 ⟨rfl, hB9⟩
      have HFN : Hid (Below w.heap.size w w9) := HBX.out.trans (hB9.mono HSZ.out)
      clear hB9 HWK
      go_wp2
      go_ret
      exact ⟨rfl, HFN.out⟩
    · have d1 : decide (lg < 2) = false := decide_eq_false (by omega)
      have d2 : decide ((N : Int) < lg) = true := decide_eq_true hlN
      go_enter Tryz.func4, Tryz.ntmps4
      go_wp2_with fail
      refine (new_any N w hN1 (by omega)).mono ?_
      rintro e w0 ⟨g, kg, rfl, hD0, hB0, hg, hkg⟩
      have HB0 : Hid (Below w.heap.size w w0) := hB0
      have HP := dopen_ref (ptr g) lg 2 w0 (by decide) (wopen_arg g kg nil0 _ lg w0 hD0 rfl (.inr (by rw [HL.out]; exact hlN)))
      clear hD0 hB0 hg hkg
      go_wp2_with fail
      refine (HP).mono ?_
      rintro e wS ⟨rfl, hwS⟩
      rw [hwS]
      clear hwS wS
      clear HP
      have HN := dopen_ref (.pointer none) lg 1 w0 (by decide) (wopen_no 0 lg w0)
      go_wp2_with fail
      refine (HN).mono ?_
      rintro e wS ⟨rfl, hwS⟩
      rw [hwS]
      clear hwS wS
      clear HN
      have HWK := works_any w0 (HT.out.below HB0.out hpos)
      have HSZ : Hid (w.heap.size ≤ w0.heap.size) := (HB0.out).size
      have HBX : Hid (Below w.heap.size w w0) := HB0.out
      go_wp2_with fail
      refine HWK.mono ?_
      rintro e w9 ⟨rfl, hB9⟩
      have HFN : Hid (Below w.heap.size w w9) := HBX.out.trans (hB9.mono HSZ.out)
      clear hB9 HWK
      go_wp2
      go_ret
      exact ⟨rfl, HFN.out⟩
    · obtain ⟨n, rfl⟩ := Int.eq_ofNat_of_zero_le (show 0 ≤ lg by omega)
      have hn2 : 2 ≤ n := by omega
      have hnN : n ≤ N := by omega
      clear hok
      have d1 : decide ((n : Int) < 2) = false := decide_eq_false (by omega)
      have d2 : decide ((N : Int) < (n : Int)) = false := decide_eq_false (by omega)
      have hq1 : IntKind.i64.wrap ((N : Int) - (n : Int)) = ((N - n : Nat) : Int) := by rw [IntKind.wrap_i64]; omega
      obtain ⟨cnt, hcn⟩ : ∃ c : Nat, c = (N - n) / 8 := ⟨_, rfl⟩
      have HCN : Hid (cnt = (N - n) / 8) := hcn
      have hq2 : ((N - n : Nat) : Int).tdiv 8 = (cnt : Int) := by
        rw [Int.tdiv_eq_ediv_of_nonneg (by omega)]
        omega
      have hq3 : ((N : Int) - (n : Int)).tdiv 8 = (cnt : Int) := by
        rw [Int.tdiv_eq_ediv_of_nonneg (by omega)]
        omega
      have hq4 : ((N - n : Nat) : Int) / 8 = (cnt : Int) := by omega
      have hc1 : cnt ≤ 1000 := by omega
      clear hcn
      by_cases h4 : cnt < 4
      · have d4 : decide ((cnt : Int) < 4) = true := decide_eq_true (by omega)
        go_enter Tryz.func4, Tryz.ntmps4
        go_wp2_with fail
        refine (new_any N w hN1 (by omega)).mono ?_
        rintro e w0 ⟨g, kg, rfl, hD0, hB0, hg, hkg⟩
        have HB0 : Hid (Below w.heap.size w w0) := hB0
        have HP := dopen_few g kg N n w0 hD0 (HT.out.below hB0 hpos) hn2 hnN (by rw [← HCN.out]; exact h4)
        clear hD0 hB0 hg hkg
        go_wp2_with fail
        refine HP.mono ?_
        rintro e w1 ⟨rfl, hB1⟩
        have HB1 : Hid (Below w.heap.size w w1) := HB0.out.trans (hB1.mono HB0.out.size)
        clear hB1 HP HB0
        have HN := dopen_ref (.pointer none) (n : Int) 1 w1 (by decide) (wopen_no 0 (n : Int) w1)
        go_wp2_with fail
        refine (HN).mono ?_
        rintro e wS ⟨rfl, hwS⟩
        rw [hwS]
        clear hwS wS
        clear HN
        have HWK := works_any w1 (HT.out.below HB1.out hpos)
        have HSZ : Hid (w.heap.size ≤ w1.heap.size) := (HB1.out).size
        have HBX : Hid (Below w.heap.size w w1) := HB1.out
        go_wp2_with fail
        refine HWK.mono ?_
        rintro e w9 ⟨rfl, hB9⟩
        have HFN : Hid (Below w.heap.size w w9) := HBX.out.trans (hB9.mono HSZ.out)
        clear hB9 HWK
        go_wp2
        go_ret
        exact ⟨rfl, HFN.out⟩
      · have d4 : decide ((cnt : Int) < 4) = false := decide_eq_false (by omega)
        go_enter Tryz.func4, Tryz.ntmps4
        go_wp2_with fail
        refine (new_any N w hN1 (by omega)).mono ?_
        rintro e w0 ⟨g, kg, rfl, hD0, hB0, hg, hkg⟩
        have G0 : Hid (GK w w0 g kg nil0 (Sc.made N) n cnt 0 Pd.Ab.init) := made_gk g kg N n cnt hD0 HT.out hB0 hg hkg hn2 HCN.out hnN (by omega) hc1
        clear hD0 hB0 hg hkg
        go_wp2_with fail
        refine (gopen1 g kg nil0 (Sc.made N) n cnt G0.out (by omega) rfl).mono ?_
        rintro e w1 ⟨A1, d1', rfl, _, _, hG1, _, _, _, _, _⟩
        have HB1 : Hid (Below w.heap.size w w1) := hG1.bel
        clear hG1 G0
        have HN := dopen_ref (.pointer none) (n : Int) 1 w1 (by decide) (wopen_no 0 (n : Int) w1)
        go_wp2_with fail
        refine (HN).mono ?_
        rintro e wS ⟨rfl, hwS⟩
        rw [hwS]
        clear hwS wS
        clear HN
        have HWK := works_any w1 (HT.out.below HB1.out hpos)
        have HSZ : Hid (w.heap.size ≤ w1.heap.size) := (HB1.out).size
        have HBX : Hid (Below w.heap.size w w1) := HB1.out
        go_wp2_with fail
        refine HWK.mono ?_
        rintro e w9 ⟨rfl, hB9⟩
        have HFN : Hid (Below w.heap.size w w9) := HBX.out.trans (hB9.mono HSZ.out)
        clear hB9 HWK
        go_wp2
        go_ret
        exact ⟨rfl, HFN.out⟩
end Go.Proofs.YtcfninpokngmlaaGreatDoor
/- Proved: what the laws' helpers change and build make of a database. -/
namespace Go.Proofs.YtcfninpokngmlaaGreatDoor
open Go.RowKit
def pm (n : Int) (m : Nat) : Nat := ((n.tmod m + m) % m).toNat
theorem pm_spec (n : Int) (m : Nat) (hm : 0 < m) : pm n m < m ∧ (n.tmod m + m).tmod m = (pm n m : Int) ∧ (n.tmod m + m) % m = (pm n m : Int) ∧ -(m : Int) < n.tmod m ∧ n.tmod m < m := by
  obtain ⟨K, h1, h2, h3, h4, h5⟩ := mod_pos n m hm
  have : pm n m = K := by unfold pm; rw [h3]; rfl
  rw [this]
  exact ⟨h1, h2, h3, h4, h5⟩
/- what change does, by one act -/
structure Chp where
  r : Nat
  kd : Nat
  i9 : Nat
  z : Bool
  s : ByteArray
  i4 : Nat
  n : Nat
def chOf (k i n : Int) (s : ByteArray) : Chp := ⟨1 + pm n 3, 1 + pm n 200, pm i 9, k.tmod 3 == 0, s.extract 0 (min s.size 100), pm i 4, pm n 100⟩
def ch1 (T : Pd.Ab) (cnt : Nat) (p : Chp) : Pd.Ab := if alR T cnt = 0 then wrA (alA T cnt) (alI T cnt : Int) (p.kd : Int) p.s else alA T cnt
def ch2 (T : Pd.Ab) (p : Chp) (j : Nat) : Pd.Ab := if p.z = true then frA T ((1 + (p.i9 + j) % 9 : Nat) : Int) else wrA T ((1 + (p.i9 + j) % 9 : Nat) : Int) 7 (p.s ++ ⟨#[120]⟩)
def chN (T : Pd.Ab) (cnt : Nat) (p : Chp) : Nat → Pd.Ab
  | 0 => T
  | j + 1 => ch2 (ch1 (chN T cnt p j) cnt p) p j
def chA (T : Pd.Ab) (cnt : Nat) (p : Chp) : Pd.Ab := srA (chN T cnt p p.r) (p.i4 : Int) (p.n : Int)
structure ChW (W w0 w : World) (A : Ad) (t bt K : Nat) (d : Pd.Db) (S T : Pd.Ab) (sp : Bool) (a0 : Nat) (k i n : Int) (s : ByteArray) (kp : Value) : Prop where
  g : ∃ tm', GT W w A t bt K d S T sp tm'
  act : w.heap[a0]? = some (.cells (actC k i n s kp) 28 (0, 0))
  turn : Turn (tft A t bt) (tft A t bt) w0 w
  ap : a0 ∉ tft A t bt
theorem ChW.next {W w0 w w' : World} {A : Ad} {t bt K : Nat} {d : Pd.Db} {S T T' T'' : Pd.Ab} {sp : Bool} {a0 : Nat} {k i n : Int} {s : ByteArray} {kp : Value} (h : ChW W w0 w A t bt K d S T sp a0 k i n s kp) (e : T' = T'') (hT : Turn (tft A t bt) (tft A t bt) w w') (hG : ∃ tm', GT W w' A t bt K d S T' sp tm') : ChW W w0 w' A t bt K d S T'' sp a0 k i n s kp :=
  ⟨e ▸ hG, (hT.chg.block a0 (Array.getElem?_eq_some_iff.1 h.act).1 h.ap).trans h.act, h.turn.trans hT, h.ap⟩
theorem ChW.cell {W w0 w : World} {A : Ad} {t bt K : Nat} {d : Pd.Db} {S T : Pd.Ab} {sp : Bool} {a0 : Nat} {k i n : Int} {s : ByteArray} {kp : Value} (h : ChW W w0 w A t bt K d S T sp a0 k i n s kp) (j : Nat) (v : Value) (e : (actC k i n s kp)[j]? = some v) : w.cell? ⟨a0, j, none⟩ = some v := (cell_of_row w a0 j _ _ (0, 0) h.act).trans e
section
variable {W w w' : World} {A : Ad} {t bt K : Nat} {d : Pd.Db} {S T : Pd.Ab} {sp : Bool} {tm : Pd.Mp}
set_option maxHeartbeats 8000000 in
set_option maxRecDepth 20000 in
theorem change_any (k i n : Int) (s : ByteArray) (kp : Value) (hs : s.size ≤ 9223372036854775807) (G : GT W w A t bt K d S T sp tm) :
    Calls Tryz.prog 35 #[ptr t, actV k i n s kp] w fun e w' => e = .returned (.tuple #[]) ∧ (∃ tm', GT W w' A t bt K d S (chA T d.cnt (chOf k i n s)) sp tm') ∧ Turn (tft A t bt) (tft A t bt) w w' := by
  have HG : Hid (GT W w A t bt K d S T sp tm) := G
  clear G
  obtain ⟨an3, qn3, un3, vn3, xn3⟩ := pm_spec n 3 (by omega)
  have pn3 : (n.tmod 3 + 3).tmod 3 = (pm n 3 : Int) := qn3
  have rn3 : (n.tmod 3 + 3) % 3 = (pm n 3 : Int) := un3
  have wn3 : IntKind.i64.wrap (n.tmod 3 + 3) = n.tmod 3 + 3 := by have h1 : -3 < n.tmod 3 := vn3; have h2 : n.tmod 3 < 3 := xn3; rw [IntKind.wrap_i64]; omega
  clear qn3 un3 vn3 xn3
  obtain ⟨an200, qn200, un200, vn200, xn200⟩ := pm_spec n 200 (by omega)
  have pn200 : (n.tmod 200 + 200).tmod 200 = (pm n 200 : Int) := qn200
  have rn200 : (n.tmod 200 + 200) % 200 = (pm n 200 : Int) := un200
  have wn200 : IntKind.i64.wrap (n.tmod 200 + 200) = n.tmod 200 + 200 := by have h1 : -200 < n.tmod 200 := vn200; have h2 : n.tmod 200 < 200 := xn200; rw [IntKind.wrap_i64]; omega
  clear qn200 un200 vn200 xn200
  obtain ⟨ai9, qi9, ui9, vi9, xi9⟩ := pm_spec i 9 (by omega)
  have pi9 : (i.tmod 9 + 9).tmod 9 = (pm i 9 : Int) := qi9
  have ri9 : (i.tmod 9 + 9) % 9 = (pm i 9 : Int) := ui9
  have wi9 : IntKind.i64.wrap (i.tmod 9 + 9) = i.tmod 9 + 9 := by have h1 : -9 < i.tmod 9 := vi9; have h2 : i.tmod 9 < 9 := xi9; rw [IntKind.wrap_i64]; omega
  clear qi9 ui9 vi9 xi9
  obtain ⟨ai4, qi4, ui4, vi4, xi4⟩ := pm_spec i 4 (by omega)
  have pi4 : (i.tmod 4 + 4).tmod 4 = (pm i 4 : Int) := qi4
  have ri4 : (i.tmod 4 + 4) % 4 = (pm i 4 : Int) := ui4
  have wi4 : IntKind.i64.wrap (i.tmod 4 + 4) = i.tmod 4 + 4 := by have h1 : -4 < i.tmod 4 := vi4; have h2 : i.tmod 4 < 4 := xi4; rw [IntKind.wrap_i64]; omega
  clear qi4 ui4 vi4 xi4
  obtain ⟨an100, qn100, un100, vn100, xn100⟩ := pm_spec n 100 (by omega)
  have pn100 : (n.tmod 100 + 100).tmod 100 = (pm n 100 : Int) := qn100
  have rn100 : (n.tmod 100 + 100) % 100 = (pm n 100 : Int) := un100
  have wn100 : IntKind.i64.wrap (n.tmod 100 + 100) = n.tmod 100 + 100 := by have h1 : -100 < n.tmod 100 := vn100; have h2 : n.tmod 100 < 100 := xn100; rw [IntKind.wrap_i64]; omega
  clear qn100 un100 vn100 xn100
  have HBB : Hid ((chOf k i n s).s = s.extract 0 (min (s.size : Int) 100).toNat) := by
    show s.extract 0 (min s.size 100) = _
    congr 1
    omega
  have HBS : Hid ((s.extract 0 (min (s.size : Int) 100).toNat).size ≤ 100) := by
    show (s.extract 0 (min (s.size : Int) 100).toNat).size ≤ 100
    rw [ByteArray.size_extract]
    omega
  have HR3 : Hid ((chOf k i n s).r = 1 + pm n 3 ∧ (chOf k i n s).kd = 1 + pm n 200 ∧ (chOf k i n s).i9 = pm i 9 ∧ (chOf k i n s).i4 = pm i 4 ∧ (chOf k i n s).n = pm n 100) := ⟨rfl, rfl, rfl, rfl, rfl⟩
  have HC0 : Hid (ChW W w (w.alloc (.cells #[.int .i64 k, .int .i64 i, .int .i64 n, .string s, kp] 28)) A t bt K d S T sp w.heap.size k i n s kp) := by
    have hB : Below w.heap.size w (w.alloc (.cells #[.int .i64 k, .int .i64 i, .int .i64 n, .string s, kp] 28)) := (Below.refl _ _).alloc (Nat.le_refl _) _
    exact ⟨⟨tm, HG.out.below hB⟩, heap_alloc_new w _, Turn.of_below hB, fun h => by have := HG.out.tx.lt _ h; omega⟩
  clear HG
  unfold actV ptr
  go_enter Tryz.func35, Tryz.ntmps35
  go_wp2_with fail
  generalize World.alloc w _ = w1 at *
  generalize w.heap.size = a0 at *
  generalize s.extract 0 (min (s.size : Int) 100).toNat = b0 at *
  have hbs : b0.size ≤ 100 := HBS.out
  go_loopw [5, 6, 7, 8, 22] (fun _ _ _ _ s22 wr => ∃ j : Nat, j ≤ 1 + pm n 3 ∧ s22 = .int .i64 (j : Int) ∧ ChW W w wr A t bt K d S (chN T d.cnt (chOf k i n s) j) sp a0 k i n s kp) (fun _ _ _ _ s22 _ => 1 + pm n 3 - (intOf s22).toNat)
  case atStart => exact ⟨0, by omega, rfl, HC0.out⟩
  case round =>
    clear HC0
    obtain ⟨j, hj, rfl, hC⟩ := hrel
    have HC1 : Hid (ChW W w wr A t bt K d S (chN T d.cnt (chOf k i n s) j) sp a0 k i n s kp) := hC
    clear hC
    by_cases hjr : j < 1 + pm n 3
    · have dk : decide ((j : Int) < 1 + (pm n 3 : Int)) = true := decide_eq_true (by omega)
      obtain ⟨o, ho⟩ : ∃ o : Nat, o = 1 + (pm i 9 + j) % 9 := ⟨_, rfl⟩
      have HOo : Hid (((1 + ((chOf k i n s).i9 + j) % 9 : Nat) : Int) = (o : Int)) := by show ((1 + (pm i 9 + j) % 9 : Nat) : Int) = _; omega
      have o1 : ((pm i 9 : Int) + (j : Int)).tmod 9 = (o : Int) - 1 := by rw [Int.tmod_eq_emod_of_nonneg (by omega)]; omega
      have o2 : ((pm i 9 : Int) + (j : Int)) % 9 = (o : Int) - 1 := by omega
      have o3 : 1 + ((o : Int) - 1) = (o : Int) := by omega
      have ho9 : 1 ≤ o ∧ o ≤ 9 := by omega
      clear ho
      obtain ⟨tm1, hG1⟩ := HC1.out.g
      have HA := galloc hG1
      clear hG1
      by_cases hR : alR (chN T d.cnt (chOf k i n s) j) d.cnt = 0
      · rw [hR] at HA
        go_wp2_with fail
        refine HA.mono ?_
        rintro e w2 ⟨rfl, hG2, hT2⟩
        have HC2 : Hid (ChW W w w2 A t bt K d S (alA (chN T d.cnt (chOf k i n s) j) d.cnt) sp a0 k i n s kp) := HC1.out.next rfl hT2 ⟨_, hG2⟩
        clear hG2 hT2 HA HC1
        obtain ⟨tm2, hG2⟩ := HC2.out.g
        have c2 := HC2.out.cell 2 (.int .i64 n) rfl
        have HW := gwrite (alI (chN T d.cnt (chOf k i n s) j) d.cnt : Int) (1 + (pm n 200 : Int)) b0 hG2
        clear hG2
        go_wp2_with fail
        refine HW.mono ?_
        rintro e w3 ⟨rfl, hG3, hT3⟩
        have HC3 : Hid (ChW W w w3 A t bt K d S (wrA (alA (chN T d.cnt (chOf k i n s) j) d.cnt) (alI (chN T d.cnt (chOf k i n s) j) d.cnt : Int) (1 + (pm n 200 : Int)) b0) sp a0 k i n s kp) := HC2.out.next rfl hT3 ⟨_, hG3⟩
        clear hG3 hT3 HW HC2 c2
        have c1 := HC3.out.cell 1 (.int .i64 i) rfl
        have c0 := HC3.out.cell 0 (.int .i64 k) rfl
        obtain ⟨tm2, hG2⟩ := HC3.out.g
        have HG2 : Hid (GT W w3 A t bt K d S _ sp tm2) := hG2
        clear hG2
        by_cases hz : k.tmod 3 = 0
        · have hzd : decide (k.tmod 3 = 0) = true := decide_eq_true hz
          have hzb : (k.tmod 3 == 0) = true := by rw [hz]; rfl
          have HC := gfree (o : Int) HG2.out
          go_wp2_with fail
          refine HC.mono ?_
          rintro e w8 ⟨rfl, hG8, hT8⟩
          have HF : Hid (ChW W w w8 A t bt K d S (chN T d.cnt (chOf k i n s) (j + 1)) sp a0 k i n s kp) := by
            refine HC3.out.next ?_ hT8 ⟨_, hG8⟩
            show _ = ch2 (ch1 (chN T d.cnt (chOf k i n s) j) d.cnt (chOf k i n s)) (chOf k i n s) j
            unfold ch2 ch1
            rw [if_pos (show (chOf k i n s).z = true from hzb), HOo.out, if_pos hR, HR3.out.2.1, HBB.out, Int.natCast_add]
            try rfl
          clear hG8 hT8 HC HG2 HC3 c0 c1
          go_wp2_with fail
          go_roundw
          case rel => exact ⟨j + 1, by omega, by go_num, HF.out⟩
          case measure => (simp [intOf]) <;> omega
        · have hzd : decide (k.tmod 3 = 0) = false := decide_eq_false hz
          have hzb : (k.tmod 3 == 0) = false := by simpa using hz
          have HC := gwrite (o : Int) 7 (b0 ++ ⟨#[120]⟩) HG2.out
          go_wp2_with fail
          refine HC.mono ?_
          rintro e w8 ⟨rfl, hG8, hT8⟩
          have HF : Hid (ChW W w w8 A t bt K d S (chN T d.cnt (chOf k i n s) (j + 1)) sp a0 k i n s kp) := by
            refine HC3.out.next ?_ hT8 ⟨_, hG8⟩
            show _ = ch2 (ch1 (chN T d.cnt (chOf k i n s) j) d.cnt (chOf k i n s)) (chOf k i n s) j
            unfold ch2 ch1
            rw [if_neg (show ¬ (chOf k i n s).z = true by show ¬ (k.tmod 3 == 0) = true; rw [hzb]; decide), HOo.out, if_pos hR, HR3.out.2.1, HBB.out, Int.natCast_add]
            try rfl
          clear hG8 hT8 HC HG2 HC3 c0 c1
          go_wp2_with fail
          go_roundw
          case rel => exact ⟨j + 1, by omega, by go_num, HF.out⟩
          case measure => (simp [intOf]) <;> omega
      · have hR7 : alR (chN T d.cnt (chOf k i n s) j) d.cnt = 7 := by
          unfold alR at hR ⊢
          split
          · rfl
          · rename_i h; rw [if_neg h] at hR; exact absurd rfl hR
        rw [hR7] at HA
        go_wp2_with fail
        refine HA.mono ?_
        rintro e w2 ⟨rfl, hG2, hT2⟩
        have HC2 : Hid (ChW W w w2 A t bt K d S (alA (chN T d.cnt (chOf k i n s) j) d.cnt) sp a0 k i n s kp) := HC1.out.next rfl hT2 ⟨_, hG2⟩
        clear hG2 hT2 HA HC1
        have c1 := HC2.out.cell 1 (.int .i64 i) rfl
        have c0 := HC2.out.cell 0 (.int .i64 k) rfl
        obtain ⟨tm2, hG2⟩ := HC2.out.g
        have HG2 : Hid (GT W w2 A t bt K d S _ sp tm2) := hG2
        clear hG2
        by_cases hz : k.tmod 3 = 0
        · have hzd : decide (k.tmod 3 = 0) = true := decide_eq_true hz
          have hzb : (k.tmod 3 == 0) = true := by rw [hz]; rfl
          have HC := gfree (o : Int) HG2.out
          go_wp2_with fail
          refine HC.mono ?_
          rintro e w8 ⟨rfl, hG8, hT8⟩
          have HF : Hid (ChW W w w8 A t bt K d S (chN T d.cnt (chOf k i n s) (j + 1)) sp a0 k i n s kp) := by
            refine HC2.out.next ?_ hT8 ⟨_, hG8⟩
            show _ = ch2 (ch1 (chN T d.cnt (chOf k i n s) j) d.cnt (chOf k i n s)) (chOf k i n s) j
            unfold ch2 ch1
            rw [if_pos (show (chOf k i n s).z = true from hzb), HOo.out, if_neg hR]
            try rfl
          clear hG8 hT8 HC HG2 HC2 c0 c1
          go_wp2_with fail
          go_roundw
          case rel => exact ⟨j + 1, by omega, by go_num, HF.out⟩
          case measure => (simp [intOf]) <;> omega
        · have hzd : decide (k.tmod 3 = 0) = false := decide_eq_false hz
          have hzb : (k.tmod 3 == 0) = false := by simpa using hz
          have HC := gwrite (o : Int) 7 (b0 ++ ⟨#[120]⟩) HG2.out
          go_wp2_with fail
          refine HC.mono ?_
          rintro e w8 ⟨rfl, hG8, hT8⟩
          have HF : Hid (ChW W w w8 A t bt K d S (chN T d.cnt (chOf k i n s) (j + 1)) sp a0 k i n s kp) := by
            refine HC2.out.next ?_ hT8 ⟨_, hG8⟩
            show _ = ch2 (ch1 (chN T d.cnt (chOf k i n s) j) d.cnt (chOf k i n s)) (chOf k i n s) j
            unfold ch2 ch1
            rw [if_neg (show ¬ (chOf k i n s).z = true by show ¬ (k.tmod 3 == 0) = true; rw [hzb]; decide), HOo.out, if_neg hR, HBB.out]
            try rfl
          clear hG8 hT8 HC HG2 HC2 c0 c1
          go_wp2_with fail
          go_roundw
          case rel => exact ⟨j + 1, by omega, by go_num, HF.out⟩
          case measure => (simp [intOf]) <;> omega
    · have dk : decide ((j : Int) < 1 + (pm n 3 : Int)) = false := decide_eq_false (by omega)
      have hjj : j = 1 + pm n 3 := by omega
      subst hjj
      have c1 := HC1.out.cell 1 (.int .i64 i) rfl
      have c2 := HC1.out.cell 2 (.int .i64 n) rfl
      obtain ⟨tm1, hG1⟩ := HC1.out.g
      have HS := gsetroot (pm i 4 : Int) (pm n 100 : Int) hG1
      clear hG1
      go_wp2_with fail
      refine HS.mono ?_
      rintro e w2 ⟨rfl, hG2, hT2⟩
      have HF : Hid ((∃ tm', GT W w2 A t bt K d S (chA T d.cnt (chOf k i n s)) sp tm') ∧ Turn (tft A t bt) (tft A t bt) w w2) := by
        exact And.intro ⟨_, hG2⟩ (HC1.out.turn.trans hT2)
      clear hG2 hT2 HS HC1 c1 c2
      go_wp2
      go_end0
      exact ⟨rfl, HF.out⟩
end
end Go.Proofs.YtcfninpokngmlaaGreatDoor
/- Proved: what the laws' helper build makes of a database. -/
namespace Go.Proofs.YtcfninpokngmlaaGreatDoor
open Go.RowKit
theorem Acts.at {W w : World} {a : Option Addr} {len k : Nat} (h : Acts W a len) (hB : Below W.heap.size W w) (hk : k < len) : ∃ b off, a = some ⟨b, off, none⟩ ∧ ∃ x : Actv, x.Fits W ∧ w.cell? ⟨b, off + k * 5, none⟩ = some (.int .i64 x.kind) ∧ w.cell? ⟨b, off + k * 5 + 1, none⟩ = some (.int .i64 x.id) ∧ w.cell? ⟨b, off + k * 5 + 2, none⟩ = some (.int .i64 x.kd) ∧ w.cell? ⟨b, off + k * 5 + 3, none⟩ = some (.string x.s) ∧ w.cell? ⟨b, off + k * 5 + 4, none⟩ = some (.slice x.ka x.kl x.kc) := by
  rcases h with h | ⟨b, off, rfl, h⟩
  · omega
  · obtain ⟨x, hx, hr⟩ := h k hk
    have hc : ∀ j u, x.cells.toList[j]? = some u → w.cell? ⟨b, off + k * 5 + j, none⟩ = some u := fun j u hu => by
      have h1 := hr j u hu
      exact (hB.cell (p := ⟨b, off + k * 5 + j, none⟩) (block_lt_of_cell h1)).trans h1
    exact ⟨b, off, rfl, x, hx, hc 0 _ rfl, hc 1 _ rfl, hc 2 _ rfl, hc 3 _ rfl, hc 4 _ rfl⟩
theorem Turn.less {fs gs hs : List Nat} {w w' : World} (h : Turn fs gs w w') (hs' : ∀ k ∈ hs, k ∈ gs) : Turn fs hs w w' := ⟨h.chg, fun k hk => h.grow k (hs' k hk)⟩
/- a database on the way, from world w on -/
structure GB (W w wr : World) (A : Ad) (K : Nat) (d : Pd.Db) (A' : Ad) (d' : Pd.Db) (S' : Pd.Ab) : Prop where
  gd : GD W wr A' K d' S'
  kin : Pd.Kin d d'
  turn : Turn A.ft A'.ft w wr
  to : ∃ vr vw vp, A' = A.to vr vw vp
theorem kin_trans {d d' d'' : Pd.Db} (h : Pd.Kin d d') (k : Pd.Kin d' d'') : Pd.Kin d d'' := ⟨k.n.trans h.n, k.cnt.trans h.cnt, k.len.trans h.len, fun e => k.left (h.left e)⟩
section
variable {W w w' : World} {A : Ad} {t bt K : Nat} {d : Pd.Db} {S T : Pd.Ab} {sp : Bool} {tm : Pd.Mp}
set_option maxHeartbeats 8000000 in
set_option maxRecDepth 20000 in
theorem build_any (a : Option Addr) (len cap most : Nat) (hA : Acts W a len) (hlc : len ≤ cap) (hcm : cap ≤ 9223372036854775807) (hm : most ≤ 1000) (G : GD W w A K d S) (hl : d.s.left = -1) (C : Nat) (hC : C = 8 * d.cnt + d.n + 8) (hK : K + most * C ≤ 60000) (hn : d.n ≤ 10000) :
    Calls Tryz.prog 34 #[ptr A.x, .slice a len cap, .int .i64 (most : Int)] w fun e w' => e = .returned (.bool true) ∧ ∃ A' d' S', GB W w w' A (K + most * C) d A' d' S' := by
  have HAC : Hid (Acts W a len) := hA
  have HG0 : Hid (GB W w w A K d A d S) := ⟨G, Pd.Kin.refl d, Turn.refl _ _, A.vr, A.vw, A.vp, rfl⟩
  have HL : Hid (d.s.left = -1) := hl
  have HCC : Hid (C = 8 * d.cnt + d.n + 8) := hC
  have HAX : Hid (∀ A' : Ad, (∃ vr vw vp, A' = A.to vr vw vp) → A'.x = A.x) := by rintro A' ⟨_, _, _, rfl⟩; rfl
  clear hA G hl hC
  unfold ptr
  go_enter Tryz.func34, Tryz.ntmps34
  go_wp2_with fail
  go_loopw [7, 8, 9, 10] (fun s7 _ _ _ wr => ∃ (j : Nat) (A' : Ad) (d' : Pd.Db) (S' : Pd.Ab), j ≤ most ∧ j ≤ len ∧ s7 = .int .i64 (j : Int) ∧ GB W w wr A (K + j * C) d A' d' S') (fun s7 _ _ _ _ => most - (intOf s7).toNat)
  case atStart => exact ⟨0, A, d, S, by omega, by omega, rfl, by rw [Nat.zero_mul]; exact HG0.out⟩
  case round =>
    clear HG0
    obtain ⟨j, A', d', S', hj, hjl, rfl, hB⟩ := hrel
    have HB : Hid (GB W w wr A (K + j * C) d A' d' S') := hB
    have hax : A'.x = A.x := HAX.out A' hB.to
    clear hB
    by_cases hin : j < len ∧ j < most
    · obtain ⟨hl1, hl2⟩ := hin
      have d1 : decide ((j : Int) < (len : Int)) = true := decide_eq_true (by omega)
      have d2 : decide ((j : Int) < (most : Int)) = true := decide_eq_true (by omega)
      have k0 : (0 : Int) ≤ (j : Int) := by omega
      have k1 : (j : Int) < (len : Int) := by omega
      have HBE := gbegin HB.out.gd
      rw [hax] at HBE
      go_wp2_with fail
      refine HBE.mono ?_
      rintro e w1 ⟨t, bt, rfl, hG1, hT1⟩
      have HG1 : Hid (GT W w1 A' t bt (K + j * C) d' S' S' false []) := hG1
      have HT1 : Hid (Turn A.ft (tft A' t bt) w w1) := HB.out.turn.trans hT1
      clear hG1 hT1 HBE
      obtain ⟨b, off, rfl, x, hx, c0, c1, c2, c3, c4⟩ := HAC.out.at HG1.out.bel hl1
      obtain ⟨xk, xi, xd, xs, ka, kl, kc, xm⟩ := x
      have HCH := change_any xk xi xd xs (.slice ka kl kc) hx.s HG1.out
      clear hx
      simp only at c0 c1 c2 c3 c4
      unfold actV at HCH
      go_wp2_with fail
      refine HCH.mono ?_
      rintro e w2 ⟨rfl, ⟨tm2, hG2⟩, hT2⟩
      have HG2 : Hid (GT W w2 A' t bt (K + j * C) d' S' _ false tm2) := hG2
      have HT2 : Hid (Turn A.ft (tft A' t bt) w w2) := HT1.out.trans hT2
      clear hG2 hT2 HCH HG1 HT1 c0 c1 c2 c3 c4
      have hjC : j * C + C ≤ most * C := by
        have := Nat.mul_le_mul_right C (show j + 1 ≤ most by omega)
        rw [Nat.add_mul, Nat.one_mul] at this
        exact this
      have HCO := gcommit1 HG2.out (by omega) (by rw [HB.out.kin.n]; exact hn) (HB.out.kin.left HL.out)
      have HFN : Hid (∀ (E : Int) (S2 : Pd.Ab) (r : Ending) (w3 : World), ComDone W w2 A' t bt (K + j * C) d' S2 E r w3 → r = .returned (.int .i64 E) ∧ ∃ (j' : Nat) (A' : Ad) (d' : Pd.Db) (S' : Pd.Ab), j' ≤ most ∧ j' ≤ len ∧ Value.int .i64 ((j : Int) + 1) = .int .i64 (j' : Int) ∧ GB W w w3 A (K + j' * C) d A' d' S') := by
        rintro E S2 r w3 ⟨rfl, vr, vw, vp, d3, hG3, hk3, _, hT3⟩
        refine ⟨rfl, j + 1, A'.to vr vw vp, d3, S2, by omega, by omega, by go_num, ?_, kin_trans HB.out.kin hk3, (HT2.out.trans hT3).less (fun k hk => tft_a hk), ?_⟩
        · have e : K + (j + 1) * C = K + j * C + 8 * d'.cnt + d'.n + 8 := by rw [HB.out.kin.cnt, HB.out.kin.n, Nat.add_mul, Nat.one_mul, HCC.out]; omega
          rw [e]
          exact hG3
        · obtain ⟨r1, r2, r3, hto⟩ := HB.out.to
          exact ⟨vr, vw, vp, by rw [hto]; rfl⟩
      generalize comA _ _ _ _ _ = S2 at *
      have HE : Hid (comE d'.n false tm2 = 0 ∨ comE d'.n false tm2 = 7) := by
        unfold comE
        rw [if_neg (by decide)]
        split
        · exact .inr rfl
        · exact .inl rfl
      generalize comE d'.n false tm2 = E at *
      clear HB HG2 HT2 hjC
      rcases HE.out with rfl | rfl
      · clear HE
        go_wp2_with fail
        refine HCO.mono ?_
        intro r w3 hD
        obtain ⟨rfl, hF⟩ := HFN.out _ _ _ _ hD
        have HF := (show Hid _ from hF)
        clear hF hD HCO HFN
        go_wp2
        go_roundw
        case rel =>
          obtain ⟨j', A3, d3, S3, h1, h2, h3, h4⟩ := HF.out
          exact ⟨j', A3, d3, S3, h1, h2, h3, h4⟩
        case measure => (simp [intOf]) <;> omega
      · clear HE
        go_wp2_with fail
        refine HCO.mono ?_
        intro r w3 hD
        obtain ⟨rfl, hF⟩ := HFN.out _ _ _ _ hD
        have HF := (show Hid _ from hF)
        clear hF hD HCO HFN
        go_wp2
        go_roundw
        case rel =>
          obtain ⟨j', A3, d3, S3, h1, h2, h3, h4⟩ := HF.out
          exact ⟨j', A3, d3, S3, h1, h2, h3, h4⟩
        case measure => (simp [intOf]) <;> omega
    · have HFN : Hid (∃ A' d' S', GB W w wr A (K + most * C) d A' d' S') := ⟨A', d', S', ⟨HB.out.gd.db, HB.out.gd.inv.up (by have := Nat.mul_le_mul_right C hj; omega), HB.out.gd.bel, HB.out.gd.new⟩, HB.out.kin, HB.out.turn, HB.out.to⟩
      by_cases hl1 : j < len
      · have d1 : decide ((j : Int) < (len : Int)) = true := decide_eq_true (by omega)
        have d2 : decide ((j : Int) < (most : Int)) = false := decide_eq_false (by omega)
        go_wp2
        go_ret
        exact ⟨rfl, HFN.out⟩
      · have d1 : decide ((j : Int) < (len : Int)) = false := decide_eq_false (by omega)
        go_wp2
        go_ret
        exact ⟨rfl, HFN.out⟩
end
end Go.Proofs.YtcfninpokngmlaaGreatDoor
/- Proved: a page put behind pages, a number put ahead of numbers, in memory of the call's own (stage 10). -/
namespace Go.Proofs.YtcfninpokngmlaaGreatDoor
open Go.RowKit
def pgC : Option Pd.Sheet → List Value
  | some x => [.int .i64 (x.kind : Int), .string x.body, .bool false]
  | none => [.int .i64 0, .string ⟨#[]⟩, .bool true]
theorem pgC_length (o : Option Pd.Sheet) : (pgC o).length = 3 := by cases o <;> rfl
theorem pgC_one (o : Option Pd.Sheet) : ∀ u ∈ pgC o, u.oneCell' = true := by
  cases o <;> intro u hu <;> simp [pgC] at hu <;> rcases hu with rfl | rfl | rfl <;> rfl
def intC (l : List Nat) : List Value := l.map fun i : Nat => Value.int .i64 (i : Int)
theorem intC_one (l : List Nat) : ∀ u ∈ intC l, u.oneCell' = true := fun u hu => by
  obtain ⟨i, _, rfl⟩ := List.mem_map.1 hu
  rfl
theorem info_pg : (Tryz.prog.info? 83).map (fun i => (i.zero, i.size, i.bytes)) = some (some (.agg #[.int .i64 0, .string ⟨#[]⟩, .bool false]), 3, 32) := by kernel_rfl
/- 'append', by what it comes to -/
theorem wpList_run_append {P : Program} {w : World} {ops : Array Oper} {rest : List Oper} {o : Oper} {a : Act} {Q : Exit → Act → World → Prop} (hg : o.guard = none) (s x : Operand) (t : TypeId) (hop : o.op = Op.call { callee := Callee.builtin Builtin.append, args := #[s, x], argTypes := #[t, t] })
    (v u v' : Value) (w' : World) (hs : a.eval s = v) (hx : a.eval x = u) (hr : ∀ ty, (Builtin.append_ #[t, t] ty #[v, u]).run P w = .ok v' w') (hK : wpList P ops Q rest (a.put o.dst v') w') : wpList P ops Q (o :: rest) a w := by
  refine wpList_plain hg fun K hK' => ?_
  have hrun := hr o.type
  unfold Oper.wp
  simp [execOp, hop, resolve, invoke, builtin, hs, hx, hrun, Result.andThen]
  exact hK' _ _ hK
theorem app_pg (W : World) (B : Nat) (v : Value) (xs : List (Option Pd.Sheet)) (o : Option Pd.Sheet) (y : Nat) (hown : W.ownsRow B 83 3 v xs.length (xs.flatMap pgC)) (hl : xs.length ≤ 100000) (hB : B ≤ W.heap.size) (hy : W.heap[y]? = some (.cells (pgC o).toArray 83 (0, 0))) :
    ∃ v' w', (∀ ty, (Builtin.append_ #[36, 36] ty #[v, .slice (some ⟨y, 0, none⟩) 1 1]).run Tryz.prog W = .ok v' w') ∧ w'.ownsRow B 83 3 v' (xs ++ [o]).length ((xs ++ [o]).flatMap pgC) ∧ W.grownBy w' v.ownBlock ∧ (v'.ownBlock = v.ownBlock ∨ v'.ownBlock = some W.heap.size) := by
  obtain ⟨i0, hi, hz0, hz1, hz2⟩ := info_parts info_pg
  obtain ⟨v', w', hr, h2, h3, h4, h5⟩ := run_append_own_at (P := Tryz.prog) W B 36 0 83 i0 (.agg #[.int .i64 0, .string ⟨#[]⟩, .bool false]) 3 32 Tryz.underlying36 hi hz0 hz1 hz2 rfl (by omega) v xs.length (xs.flatMap pgC) hown ⟨y, 0, none⟩ 1 1 (pgC o) (by rw [pgC_length]) (fun j u hj => by rw [Addr.add_mid]; exact range_all hy j u hj) (pgC_one o) (by unfold maxLen; omega) (by omega) hB
  exact ⟨v', w', fun _ => hr, by simpa using h2, h3, h5⟩
theorem app_int (W : World) (B : Nat) (v : Value) (fl : List Nat) (id y : Nat) (hown : W.ownsRow B 3 1 v fl.length (intC fl)) (hl : fl.length ≤ 100000) (hBy : B ≤ y) (hB : B ≤ W.heap.size) (hy : W.heap[y]? = some (.cells #[.int .i64 (id : Int)] 3 (0, 0))) :
    ∃ v' w', (∀ ty, (Builtin.append_ #[37, 37] ty #[.slice (some ⟨y, 0, none⟩) 1 1, v]).run Tryz.prog W = .ok v' w') ∧ w'.ownsRow B 3 1 v' (id :: fl).length (intC (id :: fl)) ∧ W.grownBy w' (some y) ∧ (v'.ownBlock = some y ∨ v'.ownBlock = some W.heap.size) := by
  obtain ⟨i0, hi, hz0, hz1, hz2⟩ := info_parts infoInt
  have hrow : W.ownsRow B 3 1 (.slice (some ⟨y, 0, none⟩) 1 1) 1 (intC [id]) := ⟨rfl, .inr ⟨y, 1, _, rfl, hBy, hy, Nat.le_refl _, by unfold maxLen; omega, rfl, rfl⟩⟩
  rcases hown.2 with ⟨rfl, h0⟩ | ⟨g, cap, cur, rfl, hg, hb, h1, h2, h3, h4⟩
  · have hfl : fl = [] := List.length_eq_zero_iff.1 h0
    subst hfl
    have hS := Src.ofNil (P := Tryz.prog) W (size := i0.size) (tx := 37) Tryz.underlying37 0
    have hr := run_append_room_src (P := Tryz.prog) W 37 37 0 3 i0 Tryz.underlying37 hi y 0 1 1 (.slice none 0 0) 0 [] hS (Nat.le_refl _) (fun j hj => by cases hj) (fun j hj => by cases hj)
    refine ⟨_, _, fun _ => hr, ?_, ⟨rfl, rfl, rfl, Nat.le_refl _, fun _ _ _ => rfl⟩, .inl rfl⟩
    exact hrow
  · obtain ⟨v', w', hr, h2', h3', h4', h5'⟩ := run_append_own_at (P := Tryz.prog) W B 37 0 3 i0 (.int .i64 0) 1 8 Tryz.underlying37 hi hz0 hz1 hz2 rfl (by omega) _ 1 (intC [id]) hrow ⟨g, 0, none⟩ fl.length cap (intC fl) (by unfold intC; rw [List.length_map]; omega) (fun j u hj => by
      rw [Addr.add_mid, cell_of_row W g _ _ _ (0, 0) hb]
      have hlt : j < (intC fl).length := (List.getElem?_eq_some_iff.1 hj).1
      rw [← h4] at hj
      rw [Nat.zero_add, ← Array.getElem?_toList]
      rw [List.getElem?_take_of_lt (by unfold intC at hlt; rw [List.length_map] at hlt; omega)] at hj
      exact hj) (intC_one fl) (by unfold maxLen; omega) (by omega) hB
    refine ⟨v', w', fun _ => hr, ?_, h3', h5'⟩
    rw [List.length_cons, Nat.add_comm]
    exact h2'
end Go.Proofs.YtcfninpokngmlaaGreatDoor
