/- Proved: the law ScopeAlgebra, walked. -/
import Derived.Test.YtbcmgcallidneaaGreatDoorWorks
import Derived.Test.YtbcmgcallidneaaGreatDoorFewL
namespace Go.Proofs.YtbcmgcallidneaaGreatDoor
open Go.RowKit
theorem enters15 : ∀ args w, (callFunc 9 args).run Tryz.prog w = .ok (.enter 9 args) w := enters_of Tryz.func9 (by kernel_rfl) rfl
theorem union_mem {a b : List Pm.T} {x : Pm.T} (h : x ∈ (Sm.union a b).1) : x ∈ a ∨ x ∈ b := by
  unfold Sm.union at h
  split at h
  · cases h
  · exact List.mem_append.1 (makes_mem h)
theorem meet_mem {a b : List Pm.T} {x : Pm.T} (h : x ∈ Sm.meet a b) : x ∈ a ∨ x ∈ b := by
  unfold Sm.meet at h
  split at h
  · cases h
  · rcases List.mem_append.1 (Sm.mem_outer.1 h).1 with h | h
    · exact .inr (List.mem_filter.1 h).1
    · exact .inl (List.mem_filter.1 h).1
theorem union_len (a b : List Pm.T) : (Sm.union a b).1.length ≤ 16 := by
  unfold Sm.union
  split
  · simp
  · exact makes_len _
theorem ins_len (x : Pm.T) : ∀ l, (Sm.ins x l).length ≤ l.length + 1
  | [] => by simp [Sm.ins]
  | y :: r => by
    unfold Sm.ins
    split
    · simp
    · split
      · simp
      · have := ins_len x r; simp only [List.length_cons]; omega
theorem outer_len (l : List Pm.T) : (Sm.outer l).length ≤ l.length := by
  unfold Sm.outer
  have h : ∀ k : List Pm.T, (k.foldr Sm.ins []).length ≤ k.length := fun k => by
    induction k with
    | nil => simp
    | cons x k ih => have := ins_len x (k.foldr Sm.ins []); simp only [List.foldr_cons, List.length_cons]; omega
  exact Nat.le_trans (h _) (List.length_filter_le _ _)
theorem meet_len (a b : List Pm.T) : (Sm.meet a b).length ≤ a.length + b.length := by
  unfold Sm.meet
  split
  · simp
  · refine Nat.le_trans (outer_len _) ?_
    rw [List.length_append]
    have h1 := List.length_filter_le (Sm.has a) b
    have h2 := List.length_filter_le (Sm.has b) a
    omega
end Go.Proofs.YtbcmgcallidneaaGreatDoor
