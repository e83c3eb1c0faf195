/- Proved: plain: when a node may be, as the document asks it: shape first, then item by item (stage 11). -/
import Derived.Test.YtoinaplmgffkpaaMathJ
namespace Go.Proofs.Ytoinaplmgffkpaa
open Go.RowKit
open Sl (Cel Nod)
def shape (n : Nod) : Bool := (if n.leaf then decide (n.keys.length = 0) && decide (n.kids.length = 0) else decide (n.cells.length = 0) && decide (n.kids.length = n.keys.length + 1)) && (decide (n.cells.length ≤ 255) && decide (n.keys.length ≤ 255))
structure Good (n : Nod) : Prop where
  c : ∀ c ∈ n.cells, celOk c = true
  cr : Sl.rise (n.cells.map Cel.key) = true
  k : ∀ k ∈ n.keys, Sl.isKey k = true
  kr : Sl.rise n.keys = true
  d : ∀ d ∈ n.kids, Sl.isPage d = true
theorem may_good {n : Nod} (h : Sl.may n = true) : shape n = true ∧ Good n := by
  obtain ⟨lf, cs, ks, ds⟩ := n
  cases lf with
  | true =>
    obtain ⟨h1, h2, h3, h4, h5⟩ := may_leaf h rfl
    simp only at h1 h2 h3 h4 h5
    subst h4 h5
    refine ⟨?_, h1, h3, fun k hk => (by cases hk), rfl, fun d hd => (by cases hd)⟩
    unfold shape
    simpa using h2
  | false =>
    obtain ⟨h1, h2, h3, h4, h5, h6⟩ := may_branch h rfl
    simp only at h1 h2 h3 h4 h5 h6
    subst h4
    refine ⟨?_, fun k hk => (by cases hk), rfl, h1, h3, h6⟩
    unfold shape
    simpa [h5] using h2
theorem good_may {n : Nod} (h : shape n = true) (hg : Good n) : Sl.may n = true := by
  obtain ⟨lf, cs, ks, ds⟩ := n
  unfold shape at h
  cases lf with
  | true =>
    simp only [if_true, Bool.and_eq_true, decide_eq_true_eq] at h
    obtain ⟨⟨h1, h2⟩, h3, h4⟩ := h
    obtain rfl := List.eq_nil_of_length_eq_zero h1
    obtain rfl := List.eq_nil_of_length_eq_zero h2
    exact may_of_leaf hg.c h3 hg.cr
  | false =>
    simp only [Bool.false_eq_true, if_false, Bool.and_eq_true, decide_eq_true_eq] at h
    obtain ⟨⟨h1, h2⟩, h3, h4⟩ := h
    obtain rfl := List.eq_nil_of_length_eq_zero h1
    exact may_of_branch hg.k h4 hg.kr h2 hg.d
theorem may_no {n : Nod} (h : ¬ (shape n = true ∧ Good n)) : checkE n = 2 := by
  unfold checkE
  rw [if_neg fun h' => h (may_good h')]
theorem may_yes {n : Nod} (h : shape n = true) (hg : Good n) : checkE n = 0 := by
  unfold checkE
  rw [if_pos (good_may h hg)]
theorem rise_not {l : List ByteArray} {i : Nat} (hi : i + 1 < l.length) (h : Sl.lt (l.getD i ByteArray.empty) (l.getD (i + 1) ByteArray.empty) = false) : ¬ Sl.rise l = true := fun hr => by
  rw [(Sl.rise_iff l).1 hr i hi] at h
  cases h
theorem all_of {α : Type} {l : List α} {d : α} {P : α → Prop} (h : ∀ i, i < l.length → P (l.getD i d)) : ∀ x ∈ l, P x := fun x hx => by
  obtain ⟨i, hi, rfl⟩ := List.getElem_of_mem hx
  have := h i hi
  rwa [List.getD_eq_getElem?_getD, List.getElem?_eq_getElem hi] at this
theorem wrap_pred {k j : Nat} (h : k = j + 1) (hk : k ≤ 1000) : IntKind.i64.wrap ((k : Int) - 1) = (j : Int) ∧ (k : Int) - 1 = (j : Int) := by
  rw [IntKind.wrap_i64]; omega
end Go.Proofs.Ytoinaplmgffkpaa
