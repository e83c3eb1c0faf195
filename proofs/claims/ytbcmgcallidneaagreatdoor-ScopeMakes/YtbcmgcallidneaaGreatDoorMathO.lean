/- Proved: the order of texts is one; what lies below a directory stands together behind it. No program, no world. -/
import Derived.Test.YtbcmgcallidneaaGreatDoorMathK
namespace Go.Proofs.YtbcmgcallidneaaGreatDoor
theorem path_of_ok {p : Pm.T} (h : Pm.isP p = true) (hne : p ≠ []) : Pm.Path p := by
  rcases (Pm.isP_iff p).1 h with h | h
  · exact absurd h hne
  · exact h
theorem cmpInt_cases (x y : Int) : (Lib.compareInt x y = -1 ∧ x < y) ∨ (Lib.compareInt x y = 0 ∧ x = y) ∨ (Lib.compareInt x y = 1 ∧ y < x) := by
  unfold Lib.compareInt
  by_cases h1 : x < y
  · rw [if_pos h1]; exact .inl ⟨rfl, h1⟩
  · rw [if_neg h1]
    by_cases h2 : x > y
    · rw [if_pos h2]; exact .inr (.inr ⟨rfl, h2⟩)
    · rw [if_neg h2]; exact .inr (.inl ⟨rfl, by omega⟩)
theorem rank_inj {x y : UInt8} (h : Pm.rank x = Pm.rank y) : x = y := by
  unfold Pm.rank at h
  split at h
  · rename_i h1
    split at h
    · rename_i h2; rw [h1, h2]
    · omega
  · split at h
    · omega
    · exact UInt8.toNat.inj (by omega)
theorem rank_ge (x : UInt8) : -1 ≤ Pm.rank x := by unfold Pm.rank; split <;> omega
theorem cmp_range : ∀ (a b : Pm.T), Pm.cmp a b = -1 ∨ Pm.cmp a b = 0 ∨ Pm.cmp a b = 1
  | [], [] => .inr (.inl rfl)
  | [], _ :: _ => .inl rfl
  | _ :: _, [] => .inr (.inr rfl)
  | x :: r, y :: t => by
    rw [Pm.cmp]
    split
    · exact cmp_range r t
    · rcases cmpInt_cases (Pm.rank x) (Pm.rank y) with h | h | h
      · exact .inl h.1
      · exact .inr (.inl h.1)
      · exact .inr (.inr h.1)
theorem cmp_anti : ∀ (a b : Pm.T), Pm.cmp a b = - Pm.cmp b a
  | [], [] => rfl
  | [], _ :: _ => rfl
  | _ :: _, [] => rfl
  | x :: r, y :: t => by
    rw [Pm.cmp, Pm.cmp]
    by_cases h : x = y
    · subst h; rw [if_pos rfl, if_pos rfl]; exact cmp_anti r t
    · rw [if_neg h, if_neg fun e => h e.symm]
      rcases cmpInt_cases (Pm.rank x) (Pm.rank y) with h1 | h1 | h1 <;> rcases cmpInt_cases (Pm.rank y) (Pm.rank x) with h2 | h2 | h2 <;> omega
theorem cmp_zero : ∀ (a b : Pm.T), Pm.cmp a b = 0 ↔ a = b
  | [], [] => by simp [Pm.cmp]
  | [], _ :: _ => by simp [Pm.cmp]
  | _ :: _, [] => by simp [Pm.cmp]
  | x :: r, y :: t => by
    rw [Pm.cmp]
    by_cases h : x = y
    · subst h; rw [if_pos rfl, cmp_zero r t]; simp
    · rw [if_neg h]
      refine ⟨fun e => ?_, fun e => absurd (List.cons.inj e).1 h⟩
      rcases cmpInt_cases (Pm.rank x) (Pm.rank y) with h1 | h1 | h1
      · omega
      · exact absurd (rank_inj h1.2) h
      · omega
theorem cmp_trans : ∀ (a b c : Pm.T), Pm.cmp a b ≤ 0 → Pm.cmp b c ≤ 0 → Pm.cmp a c ≤ 0
  | [], _, [], _, _ => by simp [Pm.cmp]
  | [], _, _ :: _, _, _ => by simp [Pm.cmp]
  | _ :: _, [], _, h, _ => by simp [Pm.cmp] at h
  | _ :: _, _ :: _, [], _, h => by simp [Pm.cmp] at h
  | x :: r, y :: t, z :: v, h1, h2 => by
    rw [Pm.cmp] at h1 h2 ⊢
    by_cases e1 : x = y
    · subst e1
      rw [if_pos rfl] at h1
      by_cases e2 : x = z
      · subst e2
        rw [if_pos rfl] at h2 ⊢
        exact cmp_trans r t v h1 h2
      · rw [if_neg e2] at h2 ⊢; exact h2
    · rw [if_neg e1] at h1
      by_cases e2 : y = z
      · subst e2
        rw [if_neg e1]; exact h1
      · rw [if_neg e2] at h2
        have h3 : Pm.rank x < Pm.rank y := by
          rcases cmpInt_cases (Pm.rank x) (Pm.rank y) with h | h | h
          · exact h.2
          · exact absurd (rank_inj h.2) e1
          · omega
        have h4 : Pm.rank y < Pm.rank z := by
          rcases cmpInt_cases (Pm.rank y) (Pm.rank z) with h | h | h
          · exact h.2
          · exact absurd (rank_inj h.2) e2
          · omega
        have e3 : x ≠ z := by rintro rfl; omega
        rw [if_neg e3]
        rcases cmpInt_cases (Pm.rank x) (Pm.rank z) with h | h | h <;> omega
theorem cmp_longer (a : Pm.T) (x : UInt8) (t : Pm.T) : Pm.cmp a (a ++ x :: t) = -1 := by
  induction a with
  | nil => rfl
  | cons y a ih => rw [List.cons_append, Pm.cmp, if_pos rfl, ih]
theorem mem_upsAt (l : List Pm.T) (x : Pm.T) : ∀ n, x ∈ Pm.upsAt l n ↔ ∃ k, k < n ∧ x = Pm.join (l.take k)
  | 0 => by simp [Pm.upsAt]
  | n + 1 => by
    rw [Pm.upsAt, List.mem_cons, mem_upsAt l x n]
    constructor
    · rintro (h | ⟨k, hk, h⟩)
      · exact ⟨n, by omega, h⟩
      · exact ⟨k, by omega, h⟩
    · rintro ⟨k, hk, h⟩
      by_cases e : k = n
      · subst e; exact .inl h
      · exact .inr ⟨k, by omega, h⟩
theorem below_iff.join_take_drop (l : List Pm.T) {k : Nat} (h0 : k ≠ 0) (hk : k < l.length) : Pm.join l = Pm.join (l.take k) ++ 47 :: Pm.join (l.drop k) := by
  have h1 : l.take k ≠ [] := by intro hh; rw [List.take_eq_nil_iff] at hh; rcases hh with h' | h'; exact h0 h'; subst h'; simp at hk
  have h2 : l.drop k ≠ [] := by intro hh; rw [List.drop_eq_nil_iff] at hh; omega
  rw [← Pm.join_append _ _ h1 h2, List.take_append_drop]
/- what it is to lie below: the directory's path, a /, and what follows -/
theorem below_iff (d p : Pm.T) : Pm.below d p = true ↔ Pm.Path p ∧ (d = [] ∨ ∃ r, p = d ++ 47 :: r) := by
  unfold Pm.below Pm.ups
  rw [List.contains_eq_mem, decide_eq_true_eq, mem_upsAt]
  rcases Pm.cases_isP p with rfl | h | h
  · rw [Pm.split_root]
    exact ⟨fun ⟨k, hk, _⟩ => by simp at hk, fun h => absurd rfl h.1.ne⟩
  · rw [Pm.split_no h]
    refine ⟨fun ⟨k, hk, _⟩ => by simp at hk, fun h' => ?_⟩
    rw [(Pm.isP_iff p).2 (.inr h'.1)] at h; cases h
  · rw [Pm.split_path h]
    have hl : 0 < (Pm.names p).length := List.length_pos_iff.2 (Pm.names_ne p)
    constructor
    · rintro ⟨k, hk, rfl⟩
      refine ⟨h, ?_⟩
      by_cases h0 : k = 0
      · subst h0; exact .inl rfl
      · refine .inr ⟨Pm.join ((Pm.names p).drop k), ?_⟩
        have e := below_iff.join_take_drop (Pm.names p) h0 hk
        rw [Pm.join_names] at e; exact e
    · rintro ⟨_, rfl | ⟨r, rfl⟩⟩
      · exact ⟨0, hl, rfl⟩
      · refine ⟨(Pm.names d).length, ?_, ?_⟩
        · rw [Pm.names_slash, List.length_append]
          have := List.length_pos_iff.2 (Pm.names_ne r)
          omega
        · rw [Pm.names_slash, List.take_left' rfl, Pm.join_names]
theorem below_less {d p : Pm.T} (h : Pm.below d p = true) : Pm.cmp d p = -1 := by
  obtain ⟨hp, rfl | ⟨r, rfl⟩⟩ := (below_iff d p).1 h
  · cases p with
    | nil => exact absurd rfl hp.ne
    | cons x t => rfl
  · exact cmp_longer d 47 r
theorem between : ∀ (a b r : Pm.T), Pm.cmp a b < 0 → Pm.cmp b (a ++ 47 :: r) < 0 → ∃ t, b = a ++ 47 :: t
  | [], [], _, h, _ => by simp [Pm.cmp] at h
  | [], y :: t, r, _, h => by
    by_cases e : y = 47
    · subst e; exact ⟨t, rfl⟩
    · rw [List.nil_append, Pm.cmp, if_neg e] at h
      have h1 := rank_ge y
      have h2 : Pm.rank 47 = -1 := rfl
      rcases cmpInt_cases (Pm.rank y) (Pm.rank 47) with h' | h' | h' <;> omega
  | x :: a, [], _, h, _ => by simp [Pm.cmp] at h
  | x :: a, y :: b, r, h1, h2 => by
    rw [List.cons_append] at h2
    rw [Pm.cmp] at h1 h2
    by_cases e : x = y
    · subst e
      rw [if_pos rfl] at h1 h2
      obtain ⟨t, rfl⟩ := between a b r h1 h2
      exact ⟨t, rfl⟩
    · rw [if_neg e] at h1
      rw [if_neg fun h => e h.symm] at h2
      rcases cmpInt_cases (Pm.rank x) (Pm.rank y) with h' | h' | h' <;> rcases cmpInt_cases (Pm.rank y) (Pm.rank x) with h'' | h'' | h'' <;> omega
theorem below_between {a b c : Pm.T} (h : Pm.below a c = true) (h1 : Pm.cmp a b < 0) (h2 : Pm.cmp b c < 0) (hb : Pm.isP b = true) : Pm.below a b = true := by
  have hne : b ≠ [] := by
    rintro rfl
    cases a with
    | nil => simp [Pm.cmp] at h1
    | cons x a => simp [Pm.cmp] at h1
  have hp := path_of_ok hb hne
  obtain ⟨_, rfl | ⟨r, rfl⟩⟩ := (below_iff a c).1 h
  · exact (below_iff [] b).2 ⟨hp, .inl rfl⟩
  · obtain ⟨t, rfl⟩ := between a b r h1 h2
    exact (below_iff a _).2 ⟨hp, .inr ⟨t, rfl⟩⟩
end Go.Proofs.YtbcmgcallidneaaGreatDoor
