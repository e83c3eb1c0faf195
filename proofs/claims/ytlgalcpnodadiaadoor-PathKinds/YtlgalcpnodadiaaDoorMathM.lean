/- Proved: what is moved there and back is as it was. No program, no world. -/
import Derived.Test.YtlgalcpnodadiaaDoorMathO
import Derived.Lib.Strings
namespace Go.Proofs.YtlgalcpnodadiaaDoor
/- what becomes of p where fr becomes to -/
def Pm.moved (p fr tgt : Pm.T) : Pm.T × Nat :=
  if Pm.isP fr = false ∨ Pm.isP tgt = false then ([], 2)
  else if p ≠ fr ∧ Pm.below fr p = false then ([], 18)
  else if fr = [] ∧ tgt ≠ [] then ([], 2)
  else Pm.checked (Pm.chain tgt (Lib.trimPrefix (p.drop fr.length) [47]))
theorem trim_slash (r : Pm.T) : Lib.trimPrefix (47 :: r) [47] = r := by simp [Lib.trimPrefix, Lib.hasPrefix]
theorem trim_nil : Lib.trimPrefix [] [47] = [] := by simp [Lib.trimPrefix, Lib.hasPrefix]
theorem trim_no {c : UInt8} {r : Pm.T} (h : c ≠ 47) : Lib.trimPrefix (c :: r) [47] = c :: r := by
  unfold Lib.trimPrefix Lib.hasPrefix
  rw [if_neg]
  intro hh
  simp at hh
  exact h hh.symm
theorem checked_ok {p : Pm.T} (h : Pm.isP p = true) : Pm.checked p = (p, 0) := by
  unfold Pm.checked
  rw [if_pos (by unfold Pm.isP at h; simpa using h)]
theorem checked_zero {p : Pm.T} (h : (Pm.checked p).2 = 0) : Pm.isP p = true ∧ (Pm.checked p).1 = p := by
  unfold Pm.checked at h ⊢
  split
  · rename_i h0; exact ⟨by unfold Pm.isP; rw [h0]; rfl, rfl⟩
  · rename_i h0; rw [if_neg h0] at h; exact absurd h h0
theorem moved_err {p fr tgt : Pm.T} (h : (Pm.moved p fr tgt).2 ≠ 0) : (Pm.moved p fr tgt).1 = [] := by
  unfold Pm.moved at h ⊢
  split
  · rfl
  · rename_i h1
    rw [if_neg h1] at h
    split
    · rfl
    · rename_i h2
      rw [if_neg h2] at h
      split
      · rfl
      · rename_i h3
        rw [if_neg h3] at h
        exact checked_err h
/- a path does not begin with a / -/
theorem path_head {p : Pm.T} (h : Pm.Path p) : ∃ c r, p = c :: r ∧ c ≠ 47 := by
  cases p with
  | nil => exact absurd rfl h.ne
  | cons c r =>
    refine ⟨c, r, rfl, ?_⟩
    rintro rfl
    have hm : ([] : Pm.T) ∈ Pm.names (47 :: r) := by rw [Pm.names, if_pos rfl]; exact List.mem_cons_self ..
    exact Pm.nk_ne_nil (Pm.good_nk h.ok hm) rfl
theorem path_trim {p : Pm.T} (h : Pm.Path p) : Lib.trimPrefix p [47] = p := by
  obtain ⟨c, r, rfl, hc⟩ := path_head h
  exact trim_no hc
theorem path_rest {a r : Pm.T} (h : Pm.Path (a ++ 47 :: r)) : r ≠ [] := by
  rintro rfl
  have hm : ([] : Pm.T) ∈ Pm.names (a ++ [47]) := by rw [Pm.names_slash]; exact List.mem_append_right _ (by simp [Pm.names])
  exact Pm.nk_ne_nil (Pm.good_nk h.ok hm) rfl
theorem drop_self (p : Pm.T) : p.drop p.length = [] := List.drop_length
/- the four ways in which a move may go through -/
def Goes (p fr tgt m : Pm.T) : Prop := (fr = [] ∧ tgt = [] ∧ m = p ∧ Pm.isP p = true) ∨ (p = fr ∧ m = tgt ∧ fr ≠ []) ∨ ∃ r, p = fr ++ 47 :: r ∧ fr ≠ [] ∧ m = Pm.chain tgt r ∧ Pm.Path p
theorem goes {p fr tgt : Pm.T} (h : (Pm.moved p fr tgt).2 = 0) : Pm.isP fr = true ∧ Pm.isP tgt = true ∧ Pm.isP (Pm.moved p fr tgt).1 = true ∧ Goes p fr tgt (Pm.moved p fr tgt).1 := by
  unfold Pm.moved at h ⊢
  split
  · rename_i h1; rw [if_pos h1] at h; cases h
  · rename_i h1
    rw [if_neg h1] at h
    have hf : Pm.isP fr = true := by cases e : Pm.isP fr; exact absurd (.inl e) h1; rfl
    have ht : Pm.isP tgt = true := by cases e : Pm.isP tgt; exact absurd (.inr e) h1; rfl
    split
    · rename_i h2; rw [if_pos h2] at h; cases h
    · rename_i h2
      rw [if_neg h2] at h
      split
      · rename_i h3; rw [if_pos h3] at h; cases h
      · rename_i h3
        rw [if_neg h3] at h
        obtain ⟨hm, e⟩ := checked_zero h
        rw [e]
        refine ⟨hf, ht, hm, ?_⟩
        by_cases h0 : fr = []
        · subst h0
          have ht0 : tgt = [] := by
            by_cases h' : tgt = []
            · exact h'
            · exact absurd ⟨rfl, h'⟩ h3
          subst ht0
          by_cases hp : p = []
          · subst hp
            exact .inl ⟨rfl, rfl, by simp [Pm.chain, trim_nil], Pm.isP_root⟩
          · have hb : Pm.below [] p = true := by
              cases hb : Pm.below [] p
              · exact absurd ⟨hp, hb⟩ h2
              · rfl
            have hP := ((below_iff [] p).1 hb).1
            refine .inl ⟨rfl, rfl, ?_, (Pm.isP_iff p).2 (.inr hP)⟩
            rw [List.length_nil, List.drop_zero, path_trim hP]
            simp [Pm.chain]
        · by_cases hp : p = fr
          · subst hp
            refine .inr (.inl ⟨rfl, ?_, h0⟩)
            rw [drop_self, trim_nil]
            simp [Pm.chain]
          · have hb : Pm.below fr p = true := by
              cases hb : Pm.below fr p
              · exact absurd ⟨hp, hb⟩ h2
              · rfl
            obtain ⟨hP, e0 | ⟨r, rfl⟩⟩ := (below_iff fr p).1 hb
            · exact absurd e0 h0
            · refine .inr (.inr ⟨r, rfl, h0, ?_, hP⟩)
              rw [List.drop_left' rfl, trim_slash]
theorem moved_of {p fr tgt : Pm.T} (hf : Pm.isP fr = true) (ht : Pm.isP tgt = true) (h2 : p = fr ∨ Pm.below fr p = true) (h3 : fr = [] → tgt = []) : Pm.moved p fr tgt = Pm.checked (Pm.chain tgt (Lib.trimPrefix (p.drop fr.length) [47])) := by
  unfold Pm.moved
  rw [if_neg, if_neg, if_neg]
  · exact fun h => h.2 (h3 h.1)
  · rintro ⟨h, h'⟩
    rcases h2 with h2 | h2
    · exact h h2
    · rw [h2] at h'; cases h'
  · rw [hf, ht]; simp
/- to the root, and back: refused -/
theorem back_root {p fr : Pm.T} (h : (Pm.moved p fr []).2 = 0) (hf : fr ≠ []) : (Pm.moved (Pm.moved p fr []).1 [] fr).2 = 2 := by
  obtain ⟨h1, _, h3, _⟩ := goes h
  generalize (Pm.moved p fr []).1 = m at *
  unfold Pm.moved
  rw [if_neg (by rw [h1, Pm.isP_root]; simp), if_neg, if_pos ⟨rfl, hf⟩]
  rintro ⟨hm, hb⟩
  rw [(below_iff [] m).2 ⟨path_of_ok h3 hm, .inl rfl⟩] at hb
  cases hb
theorem split_len {a r : Pm.T} (h : Pm.Path (a ++ 47 :: r)) : (Pm.split (a ++ 47 :: r)).length = (Pm.names a).length + (Pm.names r).length := by
  rw [Pm.split_path h, Pm.names_slash, List.length_append]
structure Back (p fr tgt m : Pm.T) : Prop where
  back : Pm.moved m tgt fr = (p, 0)
  deep : (Pm.split m).length + (Pm.split fr).length = (Pm.split p).length + (Pm.split tgt).length
  there : m = tgt ∨ Pm.below tgt m = true
theorem there_back {p fr tgt : Pm.T} (h : (Pm.moved p fr tgt).2 = 0) (h0 : tgt = [] → fr = []) : Back p fr tgt (Pm.moved p fr tgt).1 := by
  obtain ⟨hf, ht, hm, hg⟩ := goes h
  generalize (Pm.moved p fr tgt).1 = m at *
  clear h
  rcases hg with ⟨h1, h2, h3, h4⟩ | ⟨h1, h2, h3⟩ | ⟨r, h1, h2, h3, h4⟩
  · subst h1; subst h2; subst h3
    have h5 : m = [] ∨ Pm.below [] m = true := by
      by_cases h : m = []
      · exact .inl h
      · exact .inr ((below_iff [] m).2 ⟨path_of_ok h4 h, .inl rfl⟩)
    refine ⟨?_, rfl, h5⟩
    rw [moved_of Pm.isP_root Pm.isP_root h5 (fun h => h), List.length_nil, List.drop_zero]
    by_cases h : m = []
    · subst h; rw [trim_nil]; exact checked_ok Pm.isP_root
    · rw [path_trim (path_of_ok h4 h), show Pm.chain [] m = m by simp [Pm.chain], checked_ok h4]
  · subst h1; subst h2
    refine ⟨?_, by omega, .inl rfl⟩
    rw [moved_of hm hf (.inl rfl) h0, drop_self, trim_nil, show Pm.chain p [] = p by simp [Pm.chain], checked_ok hf]
  · subst h1
    have hr := path_rest h4
    have ht0 : tgt ≠ [] := fun e => h2 (h0 e)
    have e1 : Pm.chain tgt r = tgt ++ 47 :: r := by simp [Pm.chain, ht0, hr]
    have e2 : Pm.chain fr r = fr ++ 47 :: r := by simp [Pm.chain, h2, hr]
    rw [e1] at h3
    subst h3
    have hP := path_of_ok hm (by simp)
    have hb := (below_iff tgt _).2 ⟨hP, .inr ⟨r, rfl⟩⟩
    refine ⟨?_, ?_, .inr hb⟩
    · rw [moved_of ht hf (.inr hb) (fun e => absurd e ht0), List.drop_left' rfl, trim_slash, e2, checked_ok ((Pm.isP_iff _).2 (.inr h4))]
    · rw [split_len hP, split_len h4, Pm.split_path (path_of_ok hf h2), Pm.split_path (path_of_ok ht ht0)]
      omega
end Go.Proofs.YtlgalcpnodadiaaDoor
