/- Proved: what comes in is read as texts, lists of texts and numbers. Conditions: the row's own. -/
import Derived.Test.YtefpaebbendnmaaWorks
import Derived.OpenShut
import Derived.ShutString
import Derived.ChangeOld
import Derived.ChangeMaps5
import Derived.SliceStrings
import Derived.Lib.SmallJoins
import Derived.SizedLaws
namespace Go.Proofs.Ytefpaebbendnmaa
open Go.ChangeShapes Go.WideShapes Go.ChangeAt Go.RowKit
open Ck (T)
theorem own : ownKnob Try.prog.godebug = none := by kernel_rfl
theorem laidOut : laidOutB Try.prog = true := by kernel_rfl
theorem wf_u8 {n : Int} (h : (Lit.int .u8 n).wf = true) : 0 ≤ n ∧ n < 256 := by
  have := bounds_u8 h; omega
/- two numbers that came in -/
set_option maxRecDepth 100000 in
theorem two_of {H : Type} {enc : TypeId × Value → H} {W : World} {base : Nat} {v : Value} {d : DataW H} {p : List MemPlace} (hval : Value.okWide Try.prog W .any base 23 v) (h : DataW.Trod enc Try.prog W 0 (fun _ => true) true 23 v d p) :
    ∃ a b : Int, v = .agg #[.int .i64 a, .int .i64 b] ∧ (-9223372036854775808 ≤ a ∧ a ≤ 9223372036854775807) ∧ (-9223372036854775808 ≤ b ∧ b ≤ 9223372036854775807) := by
  obtain ⟨cs, rfl, hsz, _⟩ : ∃ cs, v = .agg cs ∧ cs.size = Try.prog.cellsOf 23 ∧ Row.okWide Try.prog W .any base 23 cs := by
    simpa [Value.okWide, Try.underlying23] using hval
  have h45 : Try.prog.cellsOf 23 = 2 := by kernel_rfl
  have h3 : Try.prog.cellsOf 3 = 1 := by kernel_rfl
  rw [h45] at hsz
  obtain ⟨fuel, hf⟩ := h
  obtain ⟨xs, m, _, _, hl, hx, hel⟩ := DataW.trod_array Try.underlying23 hf
  rw [h3] at hel
  obtain ⟨l⟩ := cs
  match l, hsz with
  | [q0, q1], _ =>
    have each : ∀ i, i < 2 → ∃ n : Int, (([q0, q1].drop (i * 1)).take 1) = [.int .i64 n] ∧ -9223372036854775808 ≤ n ∧ n ≤ 9223372036854775807 := fun i hi => by
      have hE := hel i hi
      rw [List.getElem?_eq_getElem (by omega)] at hE
      obtain ⟨n, e, _, hw⟩ := DataW.trod_int Try.underlying3 hE
      exact ⟨n, e, bounds_i64 hw⟩
    obtain ⟨a, ha, ha2⟩ := each 0 (by omega)
    obtain ⟨b, hb, hb2⟩ := each 1 (by omega)
    refine ⟨a, b, ?_, ha2, hb2⟩
    simp at ha hb
    rw [ha, hb]
/- a list of texts that came in -/
theorem strs_of {H : Type} {enc : TypeId × Value → H} {W : World} {a : Option Addr} {len cap : Nat} {d : DataW H} {p : List MemPlace} (h : DataW.Trod enc Try.prog W 0 (fun _ => true) true 22 (.slice a len cap) d p) :
    ∃ l : List T, l.length = len ∧ Txts W (.slice a len cap) l ∧ ∀ t ∈ l, t.length ≤ 9223372036854775807 := by
  obtain ⟨m, hm⟩ := h
  rcases open_strings Try.underlying22 Try.underlying9 (by kernel_rfl) hm with ⟨hcs, _⟩ | ⟨x, len', cap', ss, hcs, _, hl, hmx, hz, _, hcell, hws⟩
  · simp [Value.cells] at hcs
    obtain ⟨rfl, rfl, rfl⟩ := hcs
    exact ⟨[], rfl, ⟨none, 0, rfl, by simp, by simp, fun h => absurd h (by simp)⟩, fun t ht => by cases ht⟩
  · simp [Value.cells] at hcs
    obtain ⟨rfl, rfl, rfl⟩ := hcs
    simp only [if_true] at hz
    unfold maxLen at hmx
    have hlen : ((ss.take len).map bl).length = len := by rw [List.length_map, List.length_take]; omega
    refine ⟨(ss.take len).map bl, hlen, ⟨some x, cap, by rw [hlen], by rw [hlen]; exact hl, by omega, fun h0 => ?_⟩, fun t ht => ?_⟩
    · obtain ⟨b, off, spot⟩ := x
      rw [hlen] at h0
      have hspot : spot = none := by simpa [Addr.add] using World.cell?_spot (hcell 0 (by omega))
      subst hspot
      refine ⟨b, off, rfl, block_lt_of_cell (hcell 0 (by omega)), fun i r hr => ?_⟩
      have hi := (List.getElem?_eq_some_iff.1 hr).1
      rw [hlen] at hi
      have h1 := hcell i (by omega)
      rw [Go.WideShapes.add_plain] at h1
      rw [h1]
      rw [List.getElem?_map, List.getElem?_take_of_lt hi, List.getElem?_eq_getElem (by omega)] at hr
      rw [List.getD_eq_getElem?_getD, List.getElem?_eq_getElem (by omega), ← Option.some.inj hr]
      rfl
    · obtain ⟨s, hs, rfl⟩ := List.mem_map.1 ht
      have := hws _ (List.mem_of_mem_take hs)
      unfold maxLen at this
      rw [bl_length]
      omega
end Go.Proofs.Ytefpaebbendnmaa
