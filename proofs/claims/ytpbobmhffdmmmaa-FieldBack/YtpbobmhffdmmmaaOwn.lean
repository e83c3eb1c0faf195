/- Proved: a slice of fields of the call's own is read as its fields. -/
import Derived.Test.YtpbobmhffdmmmaaFew
namespace Go.Proofs.Ytpbobmhffdmmmaa
open Go.RowKit
theorem flat_at : ∀ (fs : List Fv) (i j : Nat), i < fs.length → j < 4 → (fs.flatMap fcells)[i * 4 + j]? = (fcells (fs.getD i fv0))[j]?
  | [], i, j, hi, _ => by simp at hi
  | f :: fs, 0, j, _, hj => by
    rw [List.flatMap_cons, Nat.zero_mul, Nat.zero_add, List.getElem?_append_left (by simpa [fcells] using hj)]
    rfl
  | f :: fs, i + 1, j, hi, hj => by
    rw [List.flatMap_cons, List.getElem?_append_right (by simp [fcells]; omega)]
    have e : (i + 1) * 4 + j - (fcells f).length = i * 4 + j := by simp [fcells]; omega
    rw [e, flat_at fs i j (by simpa using hi) hj]
    rfl
theorem fieldsL_block {w : World} {b : Nat} {cs : Array Value} {t : TypeId} {fr : Nat × Nat} {fs : List Fv} (h : w.heap[b]? = some (.cells cs t fr)) (hcs : cs.toList.take (fs.length * 4) = fs.flatMap fcells) (hf : ∀ f ∈ fs, f.Fits) : FieldsL w (some ⟨b, 0, none⟩) fs.length fs := by
  refine ⟨rfl, hf, .inr ⟨b, 0, rfl, fun i hi => ?_⟩⟩
  have at_ : ∀ j, j < 4 → w.cell? ⟨b, 0 + i * 4 + j, none⟩ = (fcells (fs.getD i fv0))[j]? := fun j hj => by
    rw [cell_of_row w b _ cs t fr h, Nat.zero_add, ← Array.getElem?_toList, ← flat_at fs i j hi hj, ← hcs, List.getElem?_take_of_lt (by omega)]
  exact ⟨at_ 0 (by omega), at_ 1 (by omega), at_ 2 (by omega), at_ 3 (by omega)⟩
theorem own_fields {w : World} {N n : Nat} {v : Value} {fs : List Fv} (h : w.ownsRow N 38 4 v n (fs.flatMap fcells)) (hf : ∀ f ∈ fs, f.Fits) : ∃ a cap, v = .slice a n cap ∧ n ≤ cap ∧ FieldsL w a n fs := by
  have hl : fs.length = n := by
    have := h.1
    rw [fcells_length] at this
    omega
  subst hl
  rcases h.2 with ⟨hv, hn⟩ | ⟨g, cap, cur, hv, _, hh, hc, _, _, ht⟩
  · rw [hn]
    exact ⟨none, 0, hv, Nat.le_refl _, by simpa using hn, hf, .inl rfl⟩
  · exact ⟨_, cap, hv, hc, fieldsL_block hh ht hf⟩
theorem FieldsL.below {w w' : World} {a : Option Addr} {len : Nat} {fs : List Fv} (h : FieldsL w a len fs) (hb : Below w.heap.size w w') : FieldsL w' a len fs := by
  refine ⟨h.1, h.2.1, ?_⟩
  rcases h.2.2 with h0 | ⟨b, off, e, hc⟩
  · exact .inl h0
  · exact .inr ⟨b, off, e, fun i hi => (hc i hi).below hb (block_lt_of_cell (hc i hi).tag)⟩
end Go.Proofs.Ytpbobmhffdmmmaa
