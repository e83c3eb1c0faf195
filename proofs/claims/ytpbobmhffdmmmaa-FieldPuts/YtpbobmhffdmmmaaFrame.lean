/- Proved: what a slice of fields that comes in is read as. Conditions: the row's own. -/
import Derived.Test.YtpbobmhffdmmmaaRows
import Derived.WalkKit
import Derived.ProofKit
import Derived.OpenShut
import Derived.ShutString
import Derived.ChangeOld
import Derived.Below
import Derived.ChangeMaps5
import Derived.Deep.Slices
import Derived.Lib.SmallJoins
namespace Go.Proofs.Ytpbobmhffdmmmaa
open Go.ChangeShapes Go.WideShapes Go.ChangeAt Go.RowKit
theorem own : ownKnob Try.prog.godebug = none := by kernel_rfl
theorem laidOut : laidOutB Try.prog = true := by kernel_rfl
/- a field as it lies in memory: its tag, its kind, its number, its text -/
structure Fv where
  tag : Int
  kind : Int
  n : Int
  s : ByteArray
def In64 (z : Int) : Prop := -9223372036854775808 ≤ z ∧ z ≤ 9223372036854775807
structure Fv.Fits (f : Fv) : Prop where
  tag : In64 f.tag
  kind : In64 f.kind
  n : In64 f.n
  s : f.s.size ≤ 9223372036854775807
structure FieldAt (w : World) (b off : Nat) (f : Fv) : Prop where
  tag : w.cell? ⟨b, off, none⟩ = some (.int .i64 f.tag)
  kind : w.cell? ⟨b, off + 1, none⟩ = some (.int .i64 f.kind)
  n : w.cell? ⟨b, off + 2, none⟩ = some (.int .i64 f.n)
  s : w.cell? ⟨b, off + 3, none⟩ = some (.string f.s)
/- What a walk knows of a slice of fields. -/
def Fields (w : World) (a : Option Addr) (len : Nat) : Prop :=
  len = 0 ∨ ∃ b off, a = some ⟨b, off, none⟩ ∧ ∀ i, i < len → ∃ f : Fv, f.Fits ∧ FieldAt w b (off + i * 4) f
theorem fields_of {H : Type} {enc : TypeId × Value → H} {W : World} {a : Option Addr} {len cap : Nat} {d : DataW H} {p : List MemPlace} (h : DataW.Trod enc Try.prog W 0 (fun _ => true) true 22 (.slice a len cap) d p) :
    Fields W a len ∧ len ≤ cap ∧ cap ≤ 9223372036854775807 := by
  have c38 : Try.prog.cellsOf 38 = 4 := by kernel_rfl
  have c3 : Try.prog.cellsOf 3 = 1 := by kernel_rfl
  have c9 : Try.prog.cellsOf 9 = 1 := by kernel_rfl
  obtain ⟨fuel, hf⟩ := h
  rcases Go.Deep.open_slice Try.underlying22 hf with ⟨hcs, _⟩ | ⟨x, l, c, m, n, D, Pl, hcs, _, hl, hm, hmm, _, hel⟩
  · simp [Value.cells] at hcs
    obtain ⟨rfl, rfl, rfl⟩ := hcs
    exact ⟨.inl rfl, Nat.le_refl _, by omega⟩
  · simp [Value.cells] at hcs
    obtain ⟨rfl, rfl, rfl⟩ := hcs
    unfold maxLen at hm
    refine ⟨?_, hl, by omega⟩
    simp only [if_true] at hmm
    subst hmm
    rw [c38] at hel
    have each : ∀ i, i < m → ∃ f : Fv, f.Fits ∧ W.cell? (x.add (i * 4)) = some (.int .i64 f.tag) ∧ W.cell? (x.add (i * 4 + 1)) = some (.int .i64 f.kind) ∧ W.cell? (x.add (i * 4 + 2)) = some (.int .i64 f.n) ∧ W.cell? (x.add (i * 4 + 3)) = some (.string f.s) := fun i hi => by
      obtain ⟨cs, hc, ht⟩ := hel i hi
      obtain ⟨_, hlen, hcell⟩ := World.cells?_some hc
      obtain ⟨y0, y1, y2, y3, k, _, _, h0, h1, h2, h3⟩ := Go.Joins.trod_struct4 Try.underlying38 ht
      obtain ⟨z0, e0, _, w0⟩ := DataW.trod_int Try.underlying3 h0
      obtain ⟨z1, e1, _, w1⟩ := DataW.trod_int Try.underlying3 h1
      obtain ⟨z2, e2, _, w2⟩ := DataW.trod_int Try.underlying3 h2
      obtain ⟨s3, e3, _, w3⟩ := DataW.trod_string Try.underlying9 h3
      unfold maxLen at w3
      match cs, hlen with
      | [q0, q1, q2, q3], _ =>
        change List.take (Try.prog.cellsOf 3) (List.drop 0 [q0, q1, q2, q3]) = _ at e0
        change List.take (Try.prog.cellsOf 3) (List.drop 1 [q0, q1, q2, q3]) = _ at e1
        change List.take (Try.prog.cellsOf 3) (List.drop 2 [q0, q1, q2, q3]) = _ at e2
        change List.take (Try.prog.cellsOf 9) (List.drop 3 [q0, q1, q2, q3]) = _ at e3
        rw [c3] at e0 e1 e2
        rw [c9] at e3
        simp at e0 e1 e2 e3
        subst e0
        subst e1
        subst e2
        subst e3
        have a0 := hcell 0 (by omega)
        have a1 := hcell 1 (by omega)
        have a2 := hcell 2 (by omega)
        have a3 := hcell 3 (by omega)
        rw [Go.Deep.add_add] at a0 a1 a2 a3
        exact ⟨⟨z0, z1, z2, s3⟩, ⟨bounds_i64 w0, bounds_i64 w1, bounds_i64 w2, by omega⟩, a0, a1, a2, a3⟩
    by_cases h0 : len = 0
    · exact .inl h0
    · obtain ⟨b, off, spot⟩ := x
      have hspot : spot = none := by
        obtain ⟨f, _, h1, _⟩ := each 0 (by omega)
        simpa [Addr.add] using World.cell?_spot h1
      subst hspot
      refine .inr ⟨b, off, rfl, fun i hi => ?_⟩
      obtain ⟨f, hf, h1, h2, h3, h4⟩ := each i (by omega)
      rw [add_plain] at h1 h2 h3 h4
      exact ⟨f, hf, ⟨h1, by rw [Nat.add_assoc]; exact h2, by rw [Nat.add_assoc]; exact h3, by rw [Nat.add_assoc]; exact h4⟩⟩
/- a field that comes in by itself -/
theorem field_of {H : Type} {enc : TypeId × Value → H} {W : World} {base : Nat} {v : Value} {d : DataW H} {p : List MemPlace} (hval : Value.okWide Try.prog W .any base 38 v) (h : DataW.Trod enc Try.prog W 0 (fun _ => true) true 38 v d p) :
    ∃ f : Fv, v = .agg #[.int .i64 f.tag, .int .i64 f.kind, .int .i64 f.n, .string f.s] ∧ f.Fits := by
  have c38 : Try.prog.cellsOf 38 = 4 := by kernel_rfl
  have c3 : Try.prog.cellsOf 3 = 1 := by kernel_rfl
  have c9 : Try.prog.cellsOf 9 = 1 := by kernel_rfl
  obtain ⟨cs, rfl, hsz, _⟩ : ∃ cs, v = .agg cs ∧ cs.size = Try.prog.cellsOf 38 ∧ Row.okWide Try.prog W .any base 38 cs := by
    simpa [Value.okWide, Try.underlying38] using hval
  rw [c38] at hsz
  obtain ⟨fuel, ht⟩ := h
  obtain ⟨y0, y1, y2, y3, k, _, _, h0, h1, h2, h3⟩ := Go.Joins.trod_struct4 Try.underlying38 ht
  obtain ⟨z0, e0, _, w0⟩ := DataW.trod_int Try.underlying3 h0
  obtain ⟨z1, e1, _, w1⟩ := DataW.trod_int Try.underlying3 h1
  obtain ⟨z2, e2, _, w2⟩ := DataW.trod_int Try.underlying3 h2
  obtain ⟨s3, e3, _, w3⟩ := DataW.trod_string Try.underlying9 h3
  unfold maxLen at w3
  obtain ⟨l⟩ := cs
  match l, hsz with
  | [q0, q1, q2, q3], _ =>
    change List.take (Try.prog.cellsOf 3) (List.drop 0 [q0, q1, q2, q3]) = _ at e0
    change List.take (Try.prog.cellsOf 3) (List.drop 1 [q0, q1, q2, q3]) = _ at e1
    change List.take (Try.prog.cellsOf 3) (List.drop 2 [q0, q1, q2, q3]) = _ at e2
    change List.take (Try.prog.cellsOf 9) (List.drop 3 [q0, q1, q2, q3]) = _ at e3
    rw [c3] at e0 e1 e2
    rw [c9] at e3
    simp at e0 e1 e2 e3
    subst e0
    subst e1
    subst e2
    subst e3
    exact ⟨⟨z0, z1, z2, s3⟩, rfl, ⟨bounds_i64 w0, bounds_i64 w1, bounds_i64 w2, by omega⟩⟩
end Go.Proofs.Ytpbobmhffdmmmaa
