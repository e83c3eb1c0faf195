/- Proved: plain facts of pages by their numbers, in rising order (stage 10). No program is named. -/
import Derived.Test.YtcfninpokngmlaaGreatDoorMathG
namespace Pd
open Wl
/- what a page has -/
structure Sheet where
  kind : Nat
  body : ByteArray
abbrev Mp := List (Nat × Sheet)
def get : Mp → Nat → Option Sheet
  | [], _ => none
  | p :: m, i => if p.1 = i then some p.2 else get m i
def set : Mp → Nat → Sheet → Mp
  | [], i, x => [(i, x)]
  | p :: m, i, x => if i < p.1 then (i, x) :: p :: m else if p.1 = i then (i, x) :: m else p :: set m i x
def Up (m : Mp) : Prop := m.Pairwise (fun p q => p.1 < q.1)
theorem up_nil : Up [] := List.Pairwise.nil
theorem set_keys (x : Sheet) (i : Nat) : ∀ (m : Mp) (p : Nat × Sheet), p ∈ set m i x → p = (i, x) ∨ p ∈ m
  | [], p, h => by
    rcases List.mem_cons.1 h with h | h
    · exact .inl h
    · cases h
  | q :: m, p, h => by
    unfold set at h
    split at h
    · rcases List.mem_cons.1 h with h | h
      · exact .inl h
      · exact .inr h
    · split at h
      · rcases List.mem_cons.1 h with h | h
        · exact .inl h
        · exact .inr (List.mem_cons_of_mem _ h)
      · rcases List.mem_cons.1 h with h | h
        · exact .inr (h ▸ List.mem_cons_self)
        · rcases set_keys x i m p h with h | h
          · exact .inl h
          · exact .inr (List.mem_cons_of_mem _ h)
theorem Up.set (x : Sheet) (i : Nat) : ∀ {m : Mp}, Up m → Up (set m i x)
  | [], _ => by unfold Pd.set; exact List.pairwise_singleton _ _
  | q :: m, h => by
    have h1 := (List.pairwise_cons.1 h).1
    have h2 : Up m := (List.pairwise_cons.1 h).2
    unfold Pd.set
    split
    · rename_i hi
      refine List.pairwise_cons.2 ⟨fun p hp => ?_, h⟩
      rcases List.mem_cons.1 hp with rfl | hp
      · exact hi
      · exact Nat.lt_trans hi (h1 p hp)
    · split
      · rename_i hi
        exact List.pairwise_cons.2 ⟨fun p hp => by rw [← hi]; exact h1 p hp, h2⟩
      · rename_i hi hj
        refine List.pairwise_cons.2 ⟨fun p hp => ?_, Up.set x i h2⟩
        rcases set_keys x i m p hp with rfl | hp
        · show q.1 < i
          omega
        · exact h1 p hp
theorem get_none : ∀ {m : Mp} {i : Nat}, (∀ p ∈ m, p.1 ≠ i) → get m i = none
  | [], _, _ => rfl
  | q :: m, i, h => by
    unfold get
    rw [if_neg (h q List.mem_cons_self)]
    exact get_none (fun p hp => h p (List.mem_cons_of_mem _ hp))
theorem get_mem : ∀ {m : Mp} {i : Nat} {x : Sheet}, get m i = some x → (i, x) ∈ m
  | [], _, _, h => by cases h
  | q :: m, i, x, h => by
    unfold get at h
    split at h
    · rename_i hi
      obtain ⟨a, b⟩ := q
      simp only at hi h
      cases h
      rw [hi]
      exact List.mem_cons_self
    · exact List.mem_cons_of_mem _ (get_mem h)
theorem mem_get : ∀ {m : Mp} {p : Nat × Sheet}, Up m → p ∈ m → get m p.1 = some p.2
  | [], _, _, h => by cases h
  | q :: m, p, hu, h => by
    unfold get
    rcases List.mem_cons.1 h with rfl | h
    · rw [if_pos rfl]
    · have := (List.pairwise_cons.1 hu).1 p h
      rw [if_neg (by omega)]
      exact mem_get (List.pairwise_cons.1 hu).2 h
theorem get_set (x : Sheet) (i j : Nat) : ∀ {m : Mp}, Up m → get (set m i x) j = if i = j then some x else get m j
  | [], _ => by unfold set get; rfl
  | q :: m, h => by
    have h1 := (List.pairwise_cons.1 h).1
    have h2 : Up m := (List.pairwise_cons.1 h).2
    unfold set
    split
    · rename_i hi
      show (if i = j then some x else get (q :: m) j) = _
      rfl
    · split
      · rename_i hi
        show (if i = j then some x else get m j) = if i = j then some x else if q.1 = j then some q.2 else get m j
        by_cases hj : i = j
        · rw [if_pos hj, if_pos hj]
        · rw [if_neg hj, if_neg hj, if_neg (by omega)]
      · rename_i hi hq
        show (if q.1 = j then some q.2 else get (set m i x) j) = if i = j then some x else if q.1 = j then some q.2 else get m j
        rw [get_set x i j h2]
        by_cases hj : q.1 = j
        · rw [if_pos hj, if_pos hj, if_neg (by omega)]
        · rw [if_neg hj, if_neg hj]
theorem set_ne_nil (m : Mp) (i : Nat) (x : Sheet) : set m i x ≠ [] := by
  cases m with
  | nil => intro h; cases h
  | cons q m =>
    unfold set
    split
    · intro h; cases h
    · split
      · intro h; cases h
      · intro h; cases h
theorem set_length (x : Sheet) (i : Nat) : ∀ (m : Mp), (set m i x).length = m.length + 1 ∨ ((set m i x).length = m.length ∧ ∃ p ∈ m, p.1 = i)
  | [] => .inl rfl
  | q :: m => by
    unfold set
    split
    · exact .inl rfl
    · split
      · rename_i h
        exact .inr ⟨rfl, q, List.mem_cons_self, h⟩
      · rcases set_length x i m with h | ⟨h, p, hp, e⟩
        · exact .inl (by rw [List.length_cons, List.length_cons, h])
        · exact .inr ⟨by rw [List.length_cons, List.length_cons, h], p, List.mem_cons_of_mem _ hp, e⟩
theorem set_length_le (x : Sheet) (i : Nat) (m : Mp) : (set m i x).length ≤ m.length + 1 := by
  rcases set_length x i m with h | ⟨h, _⟩ <;> omega
/- two that tell the same are one -/
theorem mp_ext : ∀ {a b : Mp}, Up a → Up b → (∀ i, get a i = get b i) → a = b
  | [], [], _, _, _ => rfl
  | [], q :: b, _, hb, h => by
    have := h q.1
    rw [mem_get hb List.mem_cons_self] at this
    cases this
  | q :: a, [], ha, _, h => by
    have := h q.1
    rw [mem_get ha List.mem_cons_self] at this
    cases this
  | p :: a, q :: b, ha, hb, h => by
    have ha1 := (List.pairwise_cons.1 ha).1
    have hb1 := (List.pairwise_cons.1 hb).1
    have e1 : p.1 = q.1 := by
      rcases Nat.lt_trichotomy p.1 q.1 with hl | hl | hl
      · have h1 := h p.1
        rw [mem_get ha List.mem_cons_self, get_none (m := q :: b) (fun r hr => by
          rcases List.mem_cons.1 hr with rfl | hr
          · omega
          · have := hb1 r hr; omega)] at h1
        cases h1
      · exact hl
      · have h1 := h q.1
        rw [mem_get hb List.mem_cons_self, get_none (m := p :: a) (fun r hr => by
          rcases List.mem_cons.1 hr with rfl | hr
          · omega
          · have := ha1 r hr; omega)] at h1
        cases h1
    have e2 : p.2 = q.2 := by
      have h1 := h p.1
      rw [mem_get ha List.mem_cons_self, e1, mem_get hb List.mem_cons_self] at h1
      exact Option.some.inj h1
    obtain ⟨p1, p2⟩ := p
    obtain ⟨q1, q2⟩ := q
    simp only at e1 e2
    subst e1
    subst e2
    refine congrArg _ (mp_ext (List.pairwise_cons.1 ha).2 (List.pairwise_cons.1 hb).2 fun i => ?_)
    have h1 := h i
    unfold get at h1
    by_cases hi : p1 = i
    · subst hi
      rw [get_none (m := a) (fun r hr => by have := ha1 r hr; omega), get_none (m := b) (fun r hr => by have := hb1 r hr; omega)]
    · simp only at h1
      rw [if_neg hi, if_neg hi] at h1
      exact h1
/- the later ones over those ahead of them -/
def copy (d s : Mp) : Mp := s.foldl (fun m p => set m p.1 p.2) d
theorem Up.copy : ∀ (s : Mp) {d : Mp}, Up d → Up (copy d s)
  | [], _, h => h
  | p :: s, _, h => Up.copy s (h.set p.2 p.1)
theorem get_copy (i : Nat) : ∀ (s : Mp) {d : Mp}, Up d → Up s → get (copy d s) i = (get s i).or (get d i)
  | [], d, _, _ => rfl
  | p :: s, d, hd, hs => by
    have h1 := (List.pairwise_cons.1 hs).1
    show get (copy (set d p.1 p.2) s) i = _
    rw [get_copy i s (hd.set p.2 p.1) (List.pairwise_cons.1 hs).2, get_set p.2 p.1 i hd]
    by_cases hi : p.1 = i
    · rw [if_pos hi]
      have e : get s i = none := get_none (fun r hr => by have := h1 r hr; omega)
      rw [e]
      unfold get
      rw [if_pos hi]
      rfl
    · rw [if_neg hi]
      show _ = (if p.1 = i then some p.2 else get s i).or _
      rw [if_neg hi]
theorem copy_keys : ∀ (s d : Mp) (p : Nat × Sheet), p ∈ copy d s → p ∈ s ∨ p ∈ d
  | [], _, _, h => .inr h
  | q :: s, d, p, h => by
    rcases copy_keys s (set d q.1 q.2) p h with h | h
    · exact .inl (List.mem_cons_of_mem _ h)
    · rcases set_keys q.2 q.1 d p h with rfl | h
      · exact .inl List.mem_cons_self
      · exact .inr h
theorem copy_length : ∀ (s d : Mp), (copy d s).length ≤ d.length + s.length
  | [], d => by show d.length ≤ _; simp
  | q :: s, d => by
    have h1 := copy_length s (set d q.1 q.2)
    have h2 := set_length_le q.2 q.1 d
    show (copy (set d q.1 q.2) s).length ≤ _
    rw [List.length_cons]
    omega
theorem copy_nil {s : Mp} (h : Up s) : copy [] s = s := mp_ext (Up.copy s up_nil) h (fun i => by rw [get_copy i s up_nil h]; cases get s i <;> rfl)
/- how many there can be below a bound -/
theorem up_bound : ∀ {m : Mp} {a b : Nat}, Up m → (∀ p ∈ m, a ≤ p.1 ∧ p.1 < b) → m.length ≤ b - a
  | [], _, _, _, _ => by simp
  | q :: m, a, b, h, hb => by
    have h1 := (List.pairwise_cons.1 h).1
    have h2 := hb q List.mem_cons_self
    have := up_bound (a := q.1 + 1) (b := b) (List.pairwise_cons.1 h).2 (fun p hp => ⟨h1 p hp, (hb p (List.mem_cons_of_mem _ hp)).2⟩)
    rw [List.length_cons]
    omega
end Pd
