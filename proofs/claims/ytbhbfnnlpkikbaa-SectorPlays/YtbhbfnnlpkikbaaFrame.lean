/- Proved: what comes in is read as calls, bools and texts. Conditions: the row's own. -/
import Derived.Test.YtbhbfnnlpkikbaaWorks
import Derived.OpenShut
import Derived.ShutString
import Derived.ChangeOld
import Derived.Below
import Derived.ChangeMaps5
import Derived.Deep.Slices
import Derived.Deep.Grids
import Derived.SliceStrings
import Derived.Lib.SmallJoins
namespace Go.Proofs.Ytbhbfnnlpkikbaa
open Go.ChangeShapes Go.WideShapes Go.ChangeAt Go.RowKit
theorem own : ownKnob Try.prog.godebug = none := by kernel_rfl
theorem laidOut : laidOutB Try.prog = true := by kernel_rfl
def In64 (z : Int) : Prop := -9223372036854775808 ≤ z ∧ z ≤ 9223372036854775807
/- bools that came in -/
def InB (W : World) (a : Option Addr) (len : Nat) (m : Nat → Bool) : Prop :=
  len = 0 ∨ ∃ b off, a = some ⟨b, off, none⟩ ∧ ∀ i, i < len → W.cell? ⟨b, off + i, none⟩ = some (.bool (m i))
theorem InB.bools {W w : World} {a : Option Addr} {len : Nat} {m : Nat → Bool} {fs : List Nat} (h : InB W a len m) (hb : Below W.heap.size W w) (hf : ∀ k ∈ fs, W.heap.size ≤ k) : Bools fs w a len m := by
  rcases h with h | ⟨b, off, h1, h2⟩
  · exact .inl h
  · by_cases h0 : len = 0
    · exact .inl h0
    · have hl : b < W.heap.size := block_lt_of_cell (h2 0 (by omega))
      exact .inr ⟨b, off, h1, fun hm => by have := hf b hm; omega, fun i hi => (hb.cell (p := ⟨b, off + i, none⟩) hl).trans (h2 i hi)⟩
theorem inb_of {H : Type} {enc : TypeId × Value → H} {W : World} {fuel : Nat} {cs : List Value} {x : DataW H × List MemPlace} (h : DataW.trod enc Try.prog W 0 (fun _ => true) true fuel 31 cs = some x) :
    ∃ a len cap m, cs = [.slice a len cap] ∧ len ≤ cap ∧ cap ≤ 9223372036854775807 ∧ InB W a len m := by
  rcases Go.Deep.open_bools Try.underlying31 Try.underlying4 (by kernel_rfl) h with ⟨hcs, _⟩ | ⟨a, len, cap, B, hcs, _, hl, hm, _, hc⟩
  · exact ⟨none, 0, 0, fun _ => false, hcs, by omega, by omega, .inl rfl⟩
  · unfold maxLen at hm
    refine ⟨some a, len, cap, B, hcs, hl, by omega, ?_⟩
    by_cases h0 : len = 0
    · exact .inl h0
    · obtain ⟨b, off, spot⟩ := a
      have hspot : spot = none := by simpa [Addr.add] using World.cell?_spot (hc 0 (by omega))
      subst hspot
      refine .inr ⟨b, off, rfl, fun i hi => ?_⟩
      have := hc i (by omega)
      rwa [add_plain] at this
theorem bools_of {H : Type} {enc : TypeId × Value → H} {W : World} {a : Option Addr} {len cap : Nat} {d : DataW H} {p : List MemPlace} (h : DataW.Trod enc Try.prog W 0 (fun _ => true) true 31 (.slice a len cap) d p) :
    ∃ m, InB W a len m ∧ len ≤ cap ∧ cap ≤ 9223372036854775807 := by
  obtain ⟨fuel, hf⟩ := h
  obtain ⟨a', len', cap', m, hcs, h1, h2, h3⟩ := inb_of hf
  simp [Value.cells] at hcs
  obtain ⟨rfl, rfl, rfl⟩ := hcs
  exact ⟨m, h3, h1, h2⟩
/- a call, as it comes in -/
structure Act where
  kind : Int
  at' : Int
  s : ByteArray
  ka : Option Addr
  kl : Nat
  kc : Nat
  m : Nat → Bool
def Act.cells (x : Act) : Array Value := #[.int .i64 x.kind, .int .i64 x.at', .string x.s, .slice x.ka x.kl x.kc]
structure Act.Fits (W : World) (x : Act) : Prop where
  kind : In64 x.kind
  at' : In64 x.at'
  s : x.s.size ≤ 9223372036854775807
  kl : x.kl ≤ x.kc
  kc : x.kc ≤ 9223372036854775807
  ks : InB W x.ka x.kl x.m
theorem act_trod {H : Type} {enc : TypeId × Value → H} {W : World} {fuel : Nat} {cs : List Value} {x : DataW H × List MemPlace} (hlen : cs.length = 4) (h : DataW.trod enc Try.prog W 0 (fun _ => true) true fuel 33 cs = some x) :
    ∃ a : Act, cs = a.cells.toList ∧ a.Fits W := by
  have c3 : Try.prog.cellsOf 3 = 1 := by kernel_rfl
  have c9 : Try.prog.cellsOf 9 = 1 := by kernel_rfl
  have c31 : Try.prog.cellsOf 31 = 1 := by kernel_rfl
  obtain ⟨y0, y1, y2, y3, k, _, _, h0, h1, h2, h3⟩ := Go.Joins.trod_struct4 Try.underlying33 h
  obtain ⟨z0, e0, _, w0⟩ := DataW.trod_int Try.underlying3 h0
  obtain ⟨z1, e1, _, w1⟩ := DataW.trod_int Try.underlying3 h1
  obtain ⟨s2, e2, _, w2⟩ := DataW.trod_string Try.underlying9 h2
  obtain ⟨ka, kl, kc, m, e3, g1, g2, g3⟩ := inb_of h3
  unfold maxLen at w2
  match cs, hlen with
  | [q0, q1, q2, q3], _ =>
    change List.take (Try.prog.cellsOf 3) (List.drop 0 [q0, q1, q2, q3]) = _ at e0
    change List.take (Try.prog.cellsOf 3) (List.drop 1 [q0, q1, q2, q3]) = _ at e1
    change List.take (Try.prog.cellsOf 9) (List.drop 2 [q0, q1, q2, q3]) = _ at e2
    change List.take (Try.prog.cellsOf 31) (List.drop 3 [q0, q1, q2, q3]) = _ at e3
    rw [c3] at e0 e1
    rw [c9] at e2
    rw [c31] at e3
    simp at e0 e1 e2 e3
    subst e0
    subst e1
    subst e2
    subst e3
    exact ⟨⟨z0, z1, s2, ka, kl, kc, m⟩, rfl, ⟨bounds_i64 w0, bounds_i64 w1, by simp only; omega, g1, g2, g3⟩⟩
theorem act_of {H : Type} {enc : TypeId × Value → H} {W : World} {base : Nat} {v : Value} {d : DataW H} {p : List MemPlace} (hval : Value.okWide Try.prog W .any base 33 v) (h : DataW.Trod enc Try.prog W 0 (fun _ => true) true 33 v d p) :
    ∃ a : Act, v = .agg a.cells ∧ a.Fits W := by
  have c33 : Try.prog.cellsOf 33 = 4 := by kernel_rfl
  obtain ⟨cs, rfl, hsz, _⟩ : ∃ cs, v = .agg cs ∧ cs.size = Try.prog.cellsOf 33 ∧ Row.okWide Try.prog W .any base 33 cs := by
    simpa [Value.okWide, Try.underlying33] using hval
  rw [c33] at hsz
  obtain ⟨fuel, ht⟩ := h
  obtain ⟨a, ha, hf⟩ := act_trod (by simpa [Value.cells] using hsz) ht
  refine ⟨a, ?_, hf⟩
  congr 1
  apply Array.ext'
  simpa [Value.cells] using ha
/- calls that came in -/
def Acts (W : World) (a : Option Addr) (len : Nat) : Prop :=
  len = 0 ∨ ∃ b off, a = some ⟨b, off, none⟩ ∧ ∀ i, i < len → ∃ x : Act, x.Fits W ∧ W.rangeAt b (off + i * 4) x.cells.toList
theorem acts_of {H : Type} {enc : TypeId × Value → H} {W : World} {a : Option Addr} {len cap : Nat} {d : DataW H} {p : List MemPlace} (h : DataW.Trod enc Try.prog W 0 (fun _ => true) true 22 (.slice a len cap) d p) :
    Acts W a len ∧ len ≤ cap ∧ cap ≤ 9223372036854775807 := by
  have c33 : Try.prog.cellsOf 33 = 4 := by kernel_rfl
  obtain ⟨fuel, hf⟩ := h
  rcases Go.Deep.open_slice Try.underlying22 hf with ⟨hcs, _⟩ | ⟨x, l, c, m, n, D, Pl, hcs, _, hl, hm, hmm, _, hel⟩
  · simp [Value.cells] at hcs
    obtain ⟨rfl, rfl, rfl⟩ := hcs
    exact ⟨.inl rfl, Nat.le_refl _, by omega⟩
  · simp [Value.cells] at hcs
    obtain ⟨rfl, rfl, rfl⟩ := hcs
    unfold maxLen at hm
    refine ⟨?_, hl, by omega⟩
    simp only [if_true] at hmm
    subst hmm
    rw [c33] at hel
    have each : ∀ i, i < m → ∃ y : Act, y.Fits W ∧ ∀ j u, y.cells.toList[j]? = some u → W.cell? (x.add (i * 4 + j)) = some u := fun i hi => by
      obtain ⟨cs, hc, ht⟩ := hel i hi
      obtain ⟨_, hlen, hcell⟩ := World.cells?_some hc
      obtain ⟨y, hy, hfit⟩ := act_trod hlen ht
      refine ⟨y, hfit, fun j u hu => ?_⟩
      rw [← hy] at hu
      obtain ⟨hj, hju⟩ := List.getElem?_eq_some_iff.1 hu
      have := hcell j (by omega)
      rw [Go.Deep.add_add] at this
      rw [this]
      exact hu
    by_cases h0 : len = 0
    · exact .inl h0
    · obtain ⟨b, off, spot⟩ := x
      have hspot : spot = none := by
        obtain ⟨f, _, h1⟩ := each 0 (by omega)
        simpa [Addr.add] using World.cell?_spot (h1 0 _ rfl)
      subst hspot
      refine .inr ⟨b, off, rfl, fun i hi => ?_⟩
      obtain ⟨y, hy, h1⟩ := each i (by omega)
      refine ⟨y, hy, fun j u hu => ?_⟩
      have := h1 j u hu
      rw [add_plain] at this
      rwa [Nat.add_assoc]
/- texts that came in -/
def Strs (W : World) (a : Option Addr) (len : Nat) (l : Nat → ByteArray) : Prop :=
  len = 0 ∨ ∃ b off, a = some ⟨b, off, none⟩ ∧ ∀ i, i < len → W.cell? ⟨b, off + i, none⟩ = some (.string (l i)) ∧ (l i).size ≤ 9223372036854775807
theorem strs_of {H : Type} {enc : TypeId × Value → H} {W : World} {a : Option Addr} {len cap : Nat} {d : DataW H} {p : List MemPlace} (h : DataW.Trod enc Try.prog W 0 (fun _ => true) true 35 (.slice a len cap) d p) :
    ∃ l, Strs W a len l ∧ len ≤ cap ∧ cap ≤ 9223372036854775807 := by
  obtain ⟨m, hm⟩ := h
  rcases open_strings Try.underlying35 Try.underlying9 (by kernel_rfl) hm with ⟨hcs, _⟩ | ⟨x, len', cap', ss, hcs, _, hl, hmx, hz, _, hcell, hws⟩
  · simp [Value.cells] at hcs
    obtain ⟨rfl, rfl, rfl⟩ := hcs
    exact ⟨fun _ => ByteArray.empty, .inl rfl, by omega, by omega⟩
  · simp [Value.cells] at hcs
    obtain ⟨rfl, rfl, rfl⟩ := hcs
    simp only [if_true] at hz
    unfold maxLen at hmx
    refine ⟨fun i => ss.getD i ByteArray.empty, ?_, hl, by omega⟩
    by_cases h0 : len = 0
    · exact .inl h0
    · obtain ⟨b, off, spot⟩ := x
      have hspot : spot = none := by simpa [Addr.add] using World.cell?_spot (hcell 0 (by omega))
      subst hspot
      refine .inr ⟨b, off, rfl, fun j hj => ?_⟩
      have h1 := hcell j (by omega)
      rw [Go.WideShapes.add_plain] at h1
      refine ⟨h1, ?_⟩
      have : ss.getD j ByteArray.empty ∈ ss := by
        rw [List.getD_eq_getElem?_getD, List.getElem?_eq_getElem (by omega)]
        exact List.getElem_mem _
      have := hws _ this
      unfold maxLen at this
      omega
end Go.Proofs.Ytbhbfnnlpkikbaa
