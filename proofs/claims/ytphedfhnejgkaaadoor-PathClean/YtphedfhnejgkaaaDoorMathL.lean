/- Proved: what is cleaned stays as it is, whatever needless signs are put in. No program, no world. -/
import Derived.Test.YtphedfhnejgkaaaDoorClean
namespace Go.Proofs.YtphedfhnejgkaaaDoor
def keepN (n : Pm.T) : Bool := decide (n ≠ []) && decide (n ≠ [46])
theorem walk_append (a b st : List Pm.T) : Pm.walk (a ++ b) st = (Pm.walk a st).bind (Pm.walk b) := by
  induction a generalizing st with
  | nil => rfl
  | cons n a ih =>
    rw [List.cons_append, Pm.walk, Pm.walk]
    split
    · exact ih st
    · split
      · split
        · rfl
        · exact ih _
      · exact ih _
theorem walk_filter (l st : List Pm.T) (h : ∀ n ∈ l, n ≠ [46, 46]) : Pm.walk l st = some (st ++ l.filter keepN) := by
  induction l generalizing st with
  | nil => simp [Pm.walk]
  | cons n l ih =>
    have hl : ∀ m ∈ l, m ≠ [46, 46] := fun m hm => h m (List.mem_cons_of_mem _ hm)
    rw [Pm.walk]
    by_cases h1 : n = [] ∨ n = [46]
    · rw [if_pos h1, ih st hl, List.filter_cons, if_neg]
      rcases h1 with rfl | rfl <;> simp [keepN]
    · rw [if_neg h1, if_neg (h n (List.mem_cons_self ..)), ih _ hl, List.filter_cons, if_pos]
      · simp
      · have : ¬ n = [] ∧ ¬ n = [46] := ⟨fun e => h1 (.inl e), fun e => h1 (.inr e)⟩
        simp [keepN, this]
theorem filter_good {l : List Pm.T} (h : ∀ n ∈ l, Pm.nk n ≠ 0) : l.filter keepN = l := by
  rw [List.filter_eq_self]
  intro n hn
  obtain ⟨h1, h2, _⟩ := Pm.nk_dots (h n hn)
  simp [keepN, h1, h2]
theorem good_nodots {l : List Pm.T} (h : ∀ n ∈ l, Pm.nk n ≠ 0) : ∀ n ∈ l, n ≠ [46, 46] := fun n hn => (Pm.nk_dots (h n hn)).2.2
theorem isP_zero {c : Pm.T} (h : Pm.isP c = true) : Pm.checked c = (c, 0) := by
  unfold Pm.checked
  rw [if_pos (by unfold Pm.isP at h; simpa using h)]
theorem clean_isP {s : Pm.T} (h : (Pm.clean s).2 = 0) : Pm.isP (Pm.clean s).1 = true := by
  unfold Pm.clean at h ⊢
  split
  · rename_i h1; rw [if_pos h1] at h; cases h
  · rename_i h1
    rw [if_neg h1] at h
    split
    · rename_i h2; rw [h2] at h; cases h
    · rename_i l h2
      rw [h2] at h
      unfold Pm.checked at h ⊢
      simp only at h
      split
      · rename_i h0; unfold Pm.isP; rw [h0]; rfl
      · rename_i h0; rw [if_neg h0] at h; exact absurd h h0
theorem clean_err {s : Pm.T} (h : (Pm.clean s).2 ≠ 0) : (Pm.clean s).1 = [] := by
  unfold Pm.clean at h ⊢
  split
  · rfl
  · rename_i h1
    rw [if_neg h1] at h
    split
    · rfl
    · rename_i l h2
      rw [h2] at h
      unfold Pm.checked at h ⊢
      split
      · rename_i h0; simp only at h; rw [if_pos h0] at h; exact absurd rfl h
      · rfl
theorem clean_self {c : Pm.T} (h : Pm.isP c = true) : Pm.clean c = (c, 0) := by
  rcases (Pm.isP_iff c).1 h with rfl | hP
  · decide
  · unfold Pm.clean
    have hl := hP.len
    rw [if_neg (by omega), walk_filter _ _ (good_nodots fun n hn => Pm.good_nk hP.ok hn), filter_good (fun n hn => Pm.good_nk hP.ok hn), List.nil_append]
    show Pm.checked (Pm.join (Pm.names c)) = _
    rw [Pm.join_names, isP_zero h]
/- the text with needless signs in it -/
def noisy (l : List Pm.T) (k : Nat) : Pm.T := [47, 47] ++ Pm.join (l.take k) ++ [47, 46, 47, 120, 47, 46, 46, 47] ++ Lib.join (l.drop k) [47, 47] ++ [47]
theorem names_double : ∀ (l : List Pm.T), (∀ n ∈ l, 47 ∉ n) → (∀ n ∈ l, Pm.nk n ≠ 0) → (Pm.names (Lib.join l [47, 47])).filter keepN = l ∧ ∀ n ∈ Pm.names (Lib.join l [47, 47]), n ≠ [46, 46]
  | [], _, _ => by simp [Lib.join_nil, Pm.names, keepN]
  | [n], h1, h2 => by
    rw [Lib.join_one, Pm.names_free (h1 n (List.mem_cons_self ..))]
    exact ⟨filter_good h2, good_nodots h2⟩
  | n :: m :: r, h1, h2 => by
    obtain ⟨ih1, ih2⟩ := names_double (m :: r) (fun x hx => h1 x (List.mem_cons_of_mem _ hx)) (fun x hx => h2 x (List.mem_cons_of_mem _ hx))
    have e : Lib.join (n :: m :: r) [47, 47] = n ++ 47 :: ([] ++ 47 :: Lib.join (m :: r) [47, 47]) := by
      rw [Lib.join_cons, Lib.join_cons]
      simp [Lib.joinTail]
    rw [e, Pm.names_slash, Pm.names_slash, Pm.names_free (h1 n (List.mem_cons_self ..))]
    have hk : keepN n = true := by
      obtain ⟨q1, q2, _⟩ := Pm.nk_dots (h2 n (List.mem_cons_self ..))
      simp [keepN, q1, q2]
    refine ⟨?_, fun x hx => ?_⟩
    · rw [List.filter_append, List.filter_append, ih1, List.filter_cons, if_pos hk]
      rfl
    · simp only [List.mem_append, List.mem_singleton, Pm.names] at hx
      rcases hx with rfl | rfl | hx
      · exact (Pm.nk_dots (h2 x (List.mem_cons_self ..))).2.2
      · decide
      · exact ih2 x hx
theorem walk_noisy (a b : Pm.T) (F G : List Pm.T) (ha : (Pm.names a).filter keepN = F) (ha' : ∀ n ∈ Pm.names a, n ≠ [46, 46]) (hb : (Pm.names b).filter keepN = G) (hb' : ∀ n ∈ Pm.names b, n ≠ [46, 46]) :
    Pm.walk (Pm.names ([47, 47] ++ a ++ [47, 46, 47, 120, 47, 46, 46, 47] ++ b ++ [47])) [] = some (F ++ G) := by
  have e : [47, 47] ++ a ++ [47, 46, 47, 120, 47, 46, 46, 47] ++ b ++ [47] = ([] : Pm.T) ++ 47 :: ([] ++ 47 :: (a ++ 47 :: ([46] ++ 47 :: ([120] ++ 47 :: ([46, 46] ++ 47 :: (b ++ 47 :: [])))))) := by simp
  rw [e, Pm.names_slash, Pm.names_slash, Pm.names_slash, Pm.names_slash, Pm.names_slash, Pm.names_slash, Pm.names_slash, show Pm.names ([] : Pm.T) = [[]] from rfl, show Pm.names [46] = [[46]] from rfl, show Pm.names [120] = [[120]] from rfl, show Pm.names [46, 46] = [[46, 46]] from rfl]
  have e2 : [[]] ++ ([[]] ++ (Pm.names a ++ ([[46]] ++ ([[120]] ++ ([[46, 46]] ++ (Pm.names b ++ [[]])))))) = ([[], []] ++ Pm.names a ++ [[46], [120]]) ++ ([46, 46] :: (Pm.names b ++ [[]])) := by simp
  rw [e2, walk_append, walk_filter]
  · rw [List.filter_append, List.filter_append, ha, show ([[], []] : List Pm.T).filter keepN = [] from rfl, show ([[46], [120]] : List Pm.T).filter keepN = [[120]] from rfl]
    simp only [List.nil_append, Option.bind_some]
    rw [walk_up (by simp), List.dropLast_concat, walk_filter]
    · rw [List.filter_append, hb, show ([[]] : List Pm.T).filter keepN = [] from rfl, List.append_nil]
    · intro n hn
      rcases List.mem_append.1 hn with h | h
      · exact hb' n h
      · rw [List.mem_singleton.1 h]; decide
  · intro n hn
    simp only [List.mem_append, List.mem_cons, List.not_mem_nil, or_false] at hn
    rcases hn with ((rfl | rfl) | hn) | (rfl | rfl)
    · decide
    · decide
    · exact ha' n hn
    · decide
    · decide
theorem clean_noisy {c : Pm.T} (h : Pm.isP c = true) {k : Nat} (hk : k < (Pm.names c).length) (hlen : (noisy (Pm.names c) k).length ≤ 4096) : Pm.clean (noisy (Pm.names c) k) = (c, 0) := by
  have main : ∃ l, Pm.walk (Pm.names (noisy (Pm.names c) k)) [] = some l ∧ Pm.join l = c := by
    rcases (Pm.isP_iff c).1 h with rfl | hP
    · have hk0 : k = 0 := by simp [Pm.names] at hk; exact hk
      subst hk0
      exact ⟨[], by decide, rfl⟩
    · have hg : ∀ n ∈ Pm.names c, Pm.nk n ≠ 0 := fun n hn => Pm.good_nk hP.ok hn
      obtain ⟨d1, d2⟩ := names_double ((Pm.names c).drop k) (fun n hn => Pm.names_mem_free c n (List.mem_of_mem_drop hn)) (fun n hn => hg n (List.mem_of_mem_drop hn))
      have ha : (Pm.names (Pm.join ((Pm.names c).take k))).filter keepN = (Pm.names c).take k ∧ ∀ n ∈ Pm.names (Pm.join ((Pm.names c).take k)), n ≠ [46, 46] := by
        by_cases h0 : k = 0
        · subst h0
          simp [Pm.join, Pm.names, keepN]
        · have hne : (Pm.names c).take k ≠ [] := by intro hh; rw [List.take_eq_nil_iff] at hh; rcases hh with h' | h'; exact h0 h'; exact Pm.names_ne c h'
          rw [Pm.names_join _ hne (fun n hn => Pm.names_mem_free c n (List.mem_of_mem_take hn))]
          exact ⟨filter_good fun n hn => hg n (List.mem_of_mem_take hn), good_nodots fun n hn => hg n (List.mem_of_mem_take hn)⟩
      exact ⟨_, walk_noisy _ _ _ _ ha.1 ha.2 d1 d2, by rw [List.take_append_drop, Pm.join_names]⟩
  obtain ⟨l, hl, hj⟩ := main
  unfold Pm.clean
  rw [if_neg (by omega), hl]
  show Pm.checked (Pm.join l) = _
  rw [hj, isP_zero h]
end Go.Proofs.YtphedfhnejgkaaaDoor
