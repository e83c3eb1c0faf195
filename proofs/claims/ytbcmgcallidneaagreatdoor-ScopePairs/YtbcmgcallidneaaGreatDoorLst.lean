/- Proved: how lists of texts lie in memory; slices.Clone and slices.Equal of them. -/
import Derived.Test.YtbcmgcallidneaaGreatDoorOwn
import Derived.Test.YtbcmgcallidneaaGreatDoorMathP
import Derived.Test.YtbcmgcallidneaaGreatDoorShelfB
import Derived.Test.YtbcmgcallidneaaGreatDoorCmpD
import Derived.Lib.OwnBridge
namespace Go.Proofs.YtbcmgcallidneaaGreatDoor
open Go.RowKit
def TxtA (w : World) (ad : Option Addr) (l : List Pm.T) : Prop := 0 < l.length → ∃ g, ad = some ⟨g, 0, none⟩ ∧ g < w.heap.size ∧ TextsAt w g 0 l
theorem TxtA.below {w w' : World} {ad : Option Addr} {l : List Pm.T} (h : TxtA w ad l) (hb : Below w.heap.size w w') : TxtA w' ad l := fun h0 => by
  obtain ⟨g, rfl, hg, ht⟩ := h h0
  exact ⟨g, rfl, Nat.lt_of_lt_of_le hg hb.size, ht.below hb hg⟩
theorem TxtA.nil (w : World) (ad : Option Addr) : TxtA w ad [] := fun h => by cases h
theorem own_txt {w : World} {N : Nat} {v : Value} {l : List Pm.T} (h : w.ownsRow N 9 1 v l.length (scells l)) : ∃ ad c, v = .slice ad l.length c ∧ l.length ≤ c ∧ c ≤ 9223372036854775807 ∧ TxtA w ad l := by
  rcases own_shape h with ⟨rfl, rfl⟩ | ⟨g, cap, rfl, _, hg, hc, hm, ht⟩
  · exact ⟨none, 0, rfl, Nat.le_refl _, by omega, TxtA.nil _ _⟩
  · exact ⟨some ⟨g, 0, none⟩, cap, rfl, hc, hm, fun _ => ⟨g, rfl, hg, ht⟩⟩
theorem own_nil (w : World) (N : Nat) : w.ownsRow N 9 1 (.slice none 0 0) ([] : List Pm.T).length (scells []) := ⟨rfl, .inl ⟨rfl, rfl⟩⟩
theorem mk_getD (l : List Pm.T) (j : Nat) (h : j < l.length) : (l.map mk).getD j ByteArray.empty = mk (l.getD j []) := by
  rw [List.getD_eq_getElem?_getD, List.getD_eq_getElem?_getD, List.getElem?_map, List.getElem?_eq_getElem h]; rfl
theorem TextsAt.get {w : World} {g : Nat} {l : List Pm.T} (h : TextsAt w g 0 l) (j : Nat) (hj : j < l.length) : w.cell? ⟨g, j, none⟩ = some (.string (mk (l.getD j []))) := by
  have := h j _ (getD_some hj)
  rw [Nat.zero_add] at this; exact this
theorem TextsAt.cells {w : World} {g : Nat} {l : List Pm.T} (h : TextsAt w g 0 l) : ∀ j, j < (l.map mk).length → w.cell? ⟨g, 0 + j, none⟩ = some (.string ((l.map mk).getD j ByteArray.empty)) := fun j hj => by
  have hj' : j < l.length := by simpa using hj
  rw [mk_getD l j hj', Nat.zero_add]; exact h.get j hj'
theorem clone_any (ad : Option Addr) (c : Nat) (l : List Pm.T) (w : World) (hA : TxtA w ad l) (hl : l.length ≤ 1000000) :
    Calls Tryz.prog 23 #[.slice ad l.length c] w fun e w' => ∃ v, e = .returned v ∧ w'.ownsRow w.heap.size 9 1 v l.length (scells l) ∧ Below w.heap.size w w' := by
  by_cases h0 : l = []
  · subst h0
    cases ad with
    | none => exact (Tryz.slices_Clone_string_nil 0 c w).mono fun e w' ⟨he, hw⟩ => ⟨_, he, own_nil _ _, hw ▸ Below.refl _ _⟩
    | some a => exact (Tryz.slices_Clone_string_zero a c w).mono fun e w' ⟨v, he, ho, _, hb⟩ => ⟨v, he, ho, hb⟩
  · obtain ⟨g, rfl, hg, ht⟩ := hA (List.length_pos_iff.2 h0)
    refine (Tryz.slices_Clone_string g 0 l.length c (l.map mk) w (by simp) (by omega) ht.cells).mono fun e w' ⟨v, he, ho, _, hb⟩ => ⟨v, he, ?_, hb⟩
    have e1 : ((l.map mk).take l.length).map Value.string = scells l := by
      rw [List.take_of_length_le (by simp), List.map_map]; rfl
    rw [e1] at ho
    exact ho
set_option maxHeartbeats 1000000 in
theorem equal_lens (a1 a2 : Option Addr) (n c m d : Nat) (w : World) (h : n ≠ m) :
    Calls Tryz.prog 26 #[.slice a1 n c, .slice a2 m d] w fun e w' => e = .returned (.bool false) ∧ w' = w := by
  have h' : ¬ ((n : Nat) : Int) = (m : Nat) := by omega
  have h2 : (((n : Nat) : Int) == ((m : Nat) : Int)) = false := by simp only [beq_eq_false_iff_ne, ne_eq]; exact h'
  clear h
  go_enter Tryz.func26, Tryz.ntmps26
  go_wp2
  go_ret
  exact ⟨rfl, rfl⟩
theorem equal_any (a1 a2 : Option Addr) (c1 c2 : Nat) (l1 l2 : List Pm.T) (w : World) (h1 : TxtA w a1 l1) (h2 : TxtA w a2 l2) (hl1 : l1.length ≤ 1000000) (hl2 : l2.length ≤ 1000000) :
    Calls Tryz.prog 26 #[.slice a1 l1.length c1, .slice a2 l2.length c2] w fun e w' => e = .returned (.bool (l1 == l2)) ∧ Below w.heap.size w w' := by
  by_cases hn : l1.length = l2.length
  · by_cases h0 : l1 = []
    · subst h0
      obtain rfl : l2 = [] := List.eq_nil_of_length_eq_zero hn.symm
      exact (Tryz.slices_Equal_string_empty a1 a2 c1 0 c2 w (by omega)).mono fun e w' ⟨he, hw⟩ => ⟨he, hw ▸ Below.refl _ _⟩
    · obtain ⟨g1, rfl, _, t1⟩ := h1 (List.length_pos_iff.2 h0)
      obtain ⟨g2, rfl, _, t2⟩ := h2 (by rw [← hn]; exact List.length_pos_iff.2 h0)
      refine (Tryz.slices_Equal_string g1 0 l1.length c1 g2 0 l2.length c2 (l1.map mk) (l2.map mk) w (by simp) (by simp) (by omega) (by omega) t1.cells t2.cells).mono fun e w' ⟨he, hw⟩ => ⟨?_, Dr.below hw⟩
      rw [he, List.take_of_length_le (by simp), List.take_of_length_le (by simp)]
      congr 2
      rw [Bool.eq_iff_iff, decide_eq_true_iff, beq_iff_eq]
      constructor
      · intro e
        have := congrArg (List.map bl) e
        rw [List.map_map, List.map_map] at this
        have hid : (bl ∘ mk) = id := rfl
        rw [hid, List.map_id, List.map_id] at this
        exact this
      · rintro rfl; rfl
  · refine (equal_lens a1 a2 l1.length c1 l2.length c2 w hn).mono fun e w' ⟨he, hw⟩ => ⟨?_, hw ▸ Below.refl _ _⟩
    rw [he]
    have : (l1 == l2) = false := by simp only [beq_eq_false_iff_ne, ne_eq]; rintro rfl; exact hn rfl
    rw [this]
end Go.Proofs.YtbcmgcallidneaaGreatDoor
