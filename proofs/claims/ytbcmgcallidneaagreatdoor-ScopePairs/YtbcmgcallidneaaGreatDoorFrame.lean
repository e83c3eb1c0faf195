/- Proved: the program's start lays the tables, and a text that comes in is what it is read as. What every law's proof of this seat shares; conditions: the row's own. -/
import Derived.Test.YtbcmgcallidneaaGreatDoorRows
import Derived.Test.YtbcmgcallidneaaGreatDoorPlain
import Derived.ProofKit
import Derived.OpenShut
import Derived.ShutString
import Derived.ChangeOld
import Derived.Below
import Derived.LaidMore
import Derived.Lay
import Derived.HandedShaped
import Derived.Stop.Joined
import Derived.Lib.LaidTab
import Derived.Lib.LaidU8
import Derived.Lib.SmallJoins
import Derived.Shelf.Vars
import Derived.ChangeMaps5
namespace Go.Proofs.YtbcmgcallidneaaGreatDoor
open Go.ChangeShapes Go.WideShapes Go.ChangeAt Go.RowKit
theorem own : ownKnob Tryz.prog.godebug = none := by kernel_rfl
theorem laidOut : laidOutB Tryz.prog = true := by kernel_rfl
def laid1 : List (String × DataW Unit) := [("unicode/utf8.acceptRanges", Rows.laid_unicode_utf8_acceptRanges), ("aquifer/path.signs", Rows.laid_aquifer_path_signs), ("unicode/utf8.first", Rows.laid_unicode_utf8_first)]
theorem gSig : Tryz.prog.globalNamed "aquifer/path.signs" = some 0 := by kernel_rfl
theorem gSigType : (Tryz.prog.globals[0]?).map (·.type) = some 115 := by kernel_rfl
/- the wrap that hands on both the listed tables and the world's shape -/
theorem wrap_both {H : Type} {enc : TypeId × Value → H} {a : Assume} {C : Checked} {os : Os} {f : FuncId} {fn : Func} {s : ChangeSpec} {conds : List PathCond} {apart fresh handsOn again : Bool} {X : World → Array Value → Prop}
    (hX : ∀ (w w' : World) (args : Array Value), w.heap = w'.heap → X w args → X w' args)
    (own : ownKnob C.prog.godebug = none) (started : os.Started) (noInit : C.prog.inits.idxOf? f = none) (hfn : C.prog.funcs[f]? = some fn)
    (witness : ∃ (w : World) (tape : Tape) (i : Input), w.os = os ∧ (w.forCall tape i).Shaped C.prog ∧ i.vars = [] ∧ Input.okWide C.prog (w.forCall tape i) .any w.heap.size f i ∧
      ((s.pre enc C.prog fn conds apart (w.forCall tape i).memory i.args ∧ X (w.forCall tape i).memory i.args) ∧ sizedMet enc C.prog fn (OpenSpec.ofChange s) apart (w.forCall tape i).memory i.args) ∧ a.holds C.prog (lone (Frame.enter C.prog f i.args .normal) [] (w.forCall tape i)))
    (contract : ∀ (W : World) (base : Nat) (args : Array Value) (ds gs : List (DataW H)) (before : List MemPlace),
      (∀ (j : Nat) t v, fn.params[j]? = some t → args[j]? = some v → Value.okWide C.prog W .any base t v) →
      DataW.Whole enc C.prog fn.params.toList s.vars apart W args.toList ds gs before → X W args → W.ShapedOpen C.prog →
      Calls C.prog f args W fun e W' => ∃ v, e = .returned v ∧ s.post enc C.prog fn apart fresh handsOn again W args v W') :
    ReturnsInHanded a C os f .any (fun w args => (s.pre enc C.prog fn conds apart w args ∧ X w args) ∧ sizedMet enc C.prog fn (OpenSpec.ofChange s) apart w args) (s.post enc C.prog fn apart fresh handsOn again) := by
  refine returnsInHanded_of_calls own started noInit witness ?_
  intro w tape i _ hsh _ hok hpre _
  obtain ⟨_, _, _, fn', hfn', _, _, _, _, hval⟩ := hok
  have e : fn' = fn := Option.some.inj (hfn'.symm.trans hfn)
  subst e
  obtain ⟨⟨⟨ds, gs, before, hw, _⟩, hx⟩, _⟩ := hpre
  have hw' := DataW.Whole.of_heap (w' := w.forCall tape i) (by rfl) hw
  refine (contract (w.forCall tape i) w.heap.size i.args ds gs before hval hw' (hX _ _ _ (by rfl) hx) hsh).mono fun e W' ⟨v, he, hp⟩ => ?_
  subst he
  exact ChangeSpec.post_blind hp
theorem pair_of {l : List Value} {x y : Value} (h : l.length = 2) (f0 : (l.drop 0).take 1 = [x]) (f1 : (l.drop 1).take 1 = [y]) : l = [x, y] := by
  match l, h, f0, f1 with
  | [q0, q1], _, f0, f1 =>
    simp at f0 f1
    rw [f0, f1]
theorem ten_of : ∀ (cs : List Value), cs.length = 10 → ∀ (x0 x1 x2 x3 x4 x5 x6 x7 x8 x9 : Value), (cs.drop (0 * 2)).take 2 = [x0, x1] → (cs.drop (1 * 2)).take 2 = [x2, x3] → (cs.drop (2 * 2)).take 2 = [x4, x5] → (cs.drop (3 * 2)).take 2 = [x6, x7] → (cs.drop (4 * 2)).take 2 = [x8, x9] → cs = [x0, x1, x2, x3, x4, x5, x6, x7, x8, x9]
  | [q0, q1, q2, q3, q4, q5, q6, q7, q8, q9], _, x0, x1, x2, x3, x4, x5, x6, x7, x8, x9, a0, a1, a2, a3, a4 => by
    simp at a0 a1 a2 a3 a4
    simp [a0, a1, a2, a3, a4]
/- a row of pairs of bytes, cell for cell -/
theorem pairs_cells {w : World} {fuel : Nat} {cs : List Value} {p : List MemPlace} (h : DataW.trod (fun _ => ()) Tryz.prog w 0 (fun _ => true) false fuel 115 cs = some (Rows.laid_aquifer_path_signs, p)) : cs = sg.map V8 := by
  have c80 : Tryz.prog.cellsOf 114 = 2 := by kernel_rfl
  have c81 : Tryz.prog.cellsOf 115 = 10 := by kernel_rfl
  have c5 : Tryz.prog.cellsOf 5 = 1 := by kernel_rfl
  obtain ⟨xs, m, _, ex, hl, hx, hel⟩ := DataW.trod_array Tryz.underlying115 h
  rw [c81] at hl
  rw [c80] at hel
  have e1 : xs.map (·.1) = [.agg [.lit (.int .u8 97), .lit (.int .u8 122)], .agg [.lit (.int .u8 48), .lit (.int .u8 57)], .agg [.lit (.int .u8 95), .lit (.int .u8 95)], .agg [.lit (.int .u8 45), .lit (.int .u8 45)], .agg [.lit (.int .u8 126), .lit (.int .u8 126)]] := (DataW.agg.inj (Prod.mk.inj ex).1).symm
  have each : ∀ (i : Nat) (a b : Int), i < 5 → (xs.map (·.1))[i]? = some (.agg [.lit (.int .u8 a), .lit (.int .u8 b)]) → (cs.drop (i * 2)).take 2 = [.int .u8 a, .int .u8 b] := by
    intro i a b hi hd
    have hE := hel i hi
    rw [List.getElem?_map] at hd
    obtain ⟨x, hx1, hx2⟩ := Option.map_eq_some_iff.1 hd
    rw [hx1] at hE
    obtain ⟨y0, y1, k, e2, hlen, h0, h1⟩ := trod_struct2 Tryz.underlying114 hE
    obtain ⟨z0, f0, g0, _⟩ := DataW.trod_int Tryz.underlying5 h0
    obtain ⟨z1, f1, g1, _⟩ := DataW.trod_int Tryz.underlying5 h1
    rw [e2, g0, g1] at hx2
    simp only [DataW.agg.injEq, List.cons.injEq, DataW.lit.injEq, Lit.int.injEq, true_and, and_true] at hx2
    obtain ⟨rfl, rfl⟩ := hx2
    rw [c80] at hlen
    have f0' : List.take (Tryz.prog.cellsOf 5) (List.drop 0 ((cs.drop (i * 2)).take 2)) = _ := f0
    have f1' : List.take (Tryz.prog.cellsOf 5) (List.drop 1 ((cs.drop (i * 2)).take 2)) = _ := f1
    rw [c5] at f0' f1'
    exact pair_of hlen f0' f1'
  have a0 := each 0 97 122 (by omega) (by rw [e1]; rfl)
  have a1 := each 1 48 57 (by omega) (by rw [e1]; rfl)
  have a2 := each 2 95 95 (by omega) (by rw [e1]; rfl)
  have a3 := each 3 45 45 (by omega) (by rw [e1]; rfl)
  have a4 := each 4 126 126 (by omega) (by rw [e1]; rfl)
  exact ten_of cs hl _ _ _ _ _ _ _ _ _ _ a0 a1 a2 a3 a4
/- What the condition gives the walks. -/
theorem tab_of_laid {W : World} (h : laidMetH Tryz.prog laid1 W) (hsh : W.ShapedOpen Tryz.prog) : Tab W := by
  rw [MakeChecks.laidMetH_plain _ _ _ (by kernel_rfl)] at h
  refine ⟨?_, ?_⟩
  · exact Go.Proofs.cell_of_shapedOpen_int (zero := #[.int .i64 0]) hsh (of_decide_eq_true (by kernel_rfl)) (by kernel_rfl) rfl (by kernel_rfl) (by kernel_rfl) Tryz.underlying3
  · obtain ⟨g, t, cs, fuel, p, hg, ht, hv, hd⟩ := Lib.laidMet.reads h (n := "aquifer/path.signs") (d := Rows.laid_aquifer_path_signs) (by simp [laid1])
    obtain rfl := Option.some.inj (gSig.symm.trans hg)
    obtain rfl := Option.some.inj (gSigType.symm.trans ht)
    have hc := pairs_cells hd
    intro j v hj
    rw [Nat.zero_add, World.var?_cell gSig hv j, ← Array.getElem?_toList, hc, hj]
set_option maxRecDepth 100000 in
theorem text_of {H : Type} {enc : TypeId × Value → H} {W : World} {base : Nat} {v : Value} {d : DataW H} {p : List MemPlace} (hval : Value.okWide Tryz.prog W .any base 9 v) (h : DataW.Trod enc Tryz.prog W 0 (fun _ => true) true 9 v d p) :
    ∃ s : ByteArray, v = .string s ∧ s.size ≤ 9223372036854775807 := by
  obtain ⟨s, rfl, _, _, hw⟩ := Go.ChangeMaps.open_string Tryz.underlying9 hval h
  unfold maxLen at hw
  exact ⟨s, rfl, by omega⟩
end Go.Proofs.YtbcmgcallidneaaGreatDoor
