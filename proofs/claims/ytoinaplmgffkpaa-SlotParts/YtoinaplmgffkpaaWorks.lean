/- Proved: the laws' example holds (stage 11). -/
import Derived.Test.YtoinaplmgffkpaaEncode
import Derived.Test.YtoinaplmgffkpaaSplit
namespace Go.Proofs.Ytoinaplmgffkpaa
open Go.RowKit
open Sl (Cel Nod)
def cA : Cel := ⟨⟨#[97]⟩, ⟨#[120]⟩, 0, 0⟩
def c1_ : Cel := ⟨⟨#[97]⟩, ⟨#[]⟩, 0, 0⟩
def c2_ : Cel := ⟨⟨#[98]⟩, ⟨#[]⟩, 0, 0⟩
def c3_ : Cel := ⟨⟨#[99]⟩, ⟨#[]⟩, 0, 0⟩
theorem enc_ex : encS ⟨true, [cA], [], []⟩ = ⟨#[1, 1, 1, 97, 0, 1, 120]⟩ ∧ encE ⟨true, [cA], [], []⟩ = 0 := by decide
theorem lt_ex1 : Sl.lt ⟨#[97]⟩ ⟨#[98]⟩ = true := by rw [Sl.lt_eq]; decide
theorem lt_ex2 : Sl.lt ⟨#[98]⟩ ⟨#[99]⟩ = true := by rw [Sl.lt_eq]; decide
theorem may_ex : Sl.may ⟨true, [c1_, c2_, c3_], [], []⟩ = true := by
  have h3 : Sl.rise [⟨#[97]⟩, ⟨#[98]⟩, ⟨#[99]⟩] = true := by simp only [Sl.rise, lt_ex1, lt_ex2]; rfl
  change (decide (3 ≤ 255) && (([c1_, c2_, c3_].map Cel.key).all Sl.isKey && (Sl.rise [⟨#[97]⟩, ⟨#[98]⟩, ⟨#[99]⟩] && Sl.leafOk ⟨true, [c1_, c2_, c3_], [], []⟩))) = true
  rw [h3]
  decide
theorem spP_ex : spP ⟨true, [c1_, c2_, c3_], [], []⟩ = 1 := by decide
theorem sp_ex : (spL ⟨true, [c1_, c2_, c3_], [], []⟩).cells.length = 1 ∧ (spR ⟨true, [c1_, c2_, c3_], [], []⟩).cells.length = 2 ∧ spK ⟨true, [c1_, c2_, c3_], [], []⟩ = ⟨#[98]⟩ ∧ spE ⟨true, [c1_, c2_, c3_], [], []⟩ = 0 := by
  unfold spL spR spK spE spOk
  rw [may_ex, spP_ex]
  exact ⟨rfl, rfl, rfl, rfl⟩
theorem fit_one (c : Cel) (h : c = cA ∨ c = c1_ ∨ c = c2_ ∨ c = c3_) : CelFit c := by
  rcases h with rfl | rfl | rfl | rfl <;> exact ⟨by decide, by decide, by unfold In64; decide, by unfold In64; decide⟩
theorem fit_ex (cs : List Cel) (h : cs.length ≤ 10) (h2 : ∀ c ∈ cs, c = cA ∨ c = c1_ ∨ c = c2_ ∨ c = c3_) : Fit ⟨true, cs, [], []⟩ :=
  ⟨fun c hc => fit_one c (h2 c hc), fun k hk => (by cases hk), fun i hi => (by cases hi), (by show cs.length ≤ 1000; omega), (by show 0 ≤ 1000; omega), (by show 0 ≤ 1000; omega)⟩
theorem row_new (w : World) (cs : List Cel) : RowAt (w.alloc (.cells (cvals cs).toArray 28)) (some ⟨w.heap.size, 0, none⟩) (cvals cs) := by
  refine .inr ⟨w.heap.size, 0, rfl, by rw [size_alloc1]; omega, fun j u hj => ?_⟩
  rw [Nat.zero_add]
  exact (Brow.new w (cvals cs) 28).at j u hj
theorem lies_new (w : World) (cs : List Cel) (h : cs.length ≤ 10) : Lies (w.alloc (.cells (cvals cs).toArray 28)) ⟨true, cs, [], []⟩ ⟨some ⟨w.heap.size, 0, none⟩, cs.length, none, 0, none, 0⟩ :=
  ⟨row_new w cs, .inl rfl, .inl rfl, Nat.le_refl _, Nat.le_refl _, Nat.le_refl _, by show cs.length ≤ 9223372036854775807; omega, by show 0 ≤ 9223372036854775807; omega, by show 0 ≤ 9223372036854775807; omega⟩
set_option maxHeartbeats 2000000 in
theorem works_any (w : World) : Calls Try.prog 11 #[] w fun e w' => e = .returned (.bool true) ∧ Below w.heap.size w w' := by
  have HE := encode_any ⟨true, [cA], [], []⟩ ⟨some ⟨w.heap.size, 0, none⟩, 1, none, 0, none, 0⟩ _ (lies_new w [cA] (by decide)) (fit_ex _ (by decide) (by simp))
  have HB0 : Hid (Below w.heap.size w (w.alloc (.cells (cvals [cA]).toArray 28))) := below_alloc _ _
  have hs0 : w.heap.size ≤ (w.alloc (.cells (cvals [cA]).toArray 28)).heap.size := by rw [size_alloc1]; omega
  have HS := fun W : World => split_any ⟨true, [c1_, c2_, c3_], [], []⟩ ⟨some ⟨W.heap.size, 0, none⟩, 3, none, 0, none, 0⟩ _ (lies_new W [c1_, c2_, c3_] (by decide)) (fit_ex _ (by decide) (by simp))
  rw [enc_ex.1, enc_ex.2] at HE
  unfold nv cA cvals ccells at *
  simp only [List.flatMap_cons, List.flatMap_nil, List.append_nil, List.cons_append, List.nil_append, List.length_cons, List.length_nil] at HE HB0 hs0 HS
  go_enter Try.func11, Try.ntmps11
  go_wp2_with fail
  refine HE.mono ?_
  rintro e w1 ⟨rfl, hB1⟩
  have HB1 : Hid (Below w.heap.size w w1) := HB0.out.trans (hB1.mono hs0)
  clear hB1 HE HB0 hs0
  go_wp2_with fail
  refine (HS w1).mono ?_
  rintro e w2 ⟨⟨⟨b1, k1, b2, k2, b3, k3⟩, ⟨d1, m1, d2, m2, d3, m3⟩, rfl, _, _, hB2⟩⟩
  have HB2 : Hid (Below w.heap.size w w2) := HB1.out.trans (((below_alloc _ _).trans (hB2.mono (by rw [size_alloc1]; omega))).mono HB1.out.size)
  have hz := HB2.out.size
  clear hB2 HS
  unfold nv
  rw [sp_ex.1, sp_ex.2.1, sp_ex.2.2.1, sp_ex.2.2.2]
  simp only
  generalize (spL ⟨true, [c1_, c2_, c3_], [], []⟩).leaf = l0
  generalize (spL ⟨true, [c1_, c2_, c3_], [], []⟩).keys.length = l1
  generalize (spL ⟨true, [c1_, c2_, c3_], [], []⟩).kids.length = l2
  generalize (spR ⟨true, [c1_, c2_, c3_], [], []⟩).leaf = r0
  generalize (spR ⟨true, [c1_, c2_, c3_], [], []⟩).keys.length = r1
  generalize (spR ⟨true, [c1_, c2_, c3_], [], []⟩).kids.length = r2
  have HB3 : Hid (Below w.heap.size w ((w2.alloc (.cells #[.bool l0, .slice b1 1 k1, .slice b2 l1 k2, .slice b3 l2 k3] 26)).alloc (.cells #[.bool r0, .slice d1 2 m1, .slice d2 r1 m2, .slice d3 r2 m3] 26))) := (HB2.out.alloc hz _).alloc (by rw [size_alloc1]; omega) _
  go_wp2
  go_ret
  exact ⟨rfl, HB3.out⟩
end Go.Proofs.Ytoinaplmgffkpaa
