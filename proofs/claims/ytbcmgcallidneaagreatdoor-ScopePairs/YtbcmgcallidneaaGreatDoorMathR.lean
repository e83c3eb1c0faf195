/- Proved: lying below and standing ahead, name by name. No program, no world. -/
import Derived.Test.YtbcmgcallidneaaGreatDoorMathO
import Derived.Test.YtbcmgcallidneaaGreatDoorKind
namespace Go.Proofs.YtbcmgcallidneaaGreatDoor
/- lying below, name by name -/
theorem below_parts {d p : Pm.T} (h : Pm.below d p = true) : Pm.kind d = (1, 0) ∧ Pm.isP p = true ∧ ∃ t, t ≠ [] ∧ Pm.split p = Pm.split d ++ t := by
  obtain ⟨hp, hd⟩ := (below_iff d p).1 h
  refine ⟨?_, (Pm.isP_iff p).2 (.inr hp), ?_⟩
  · by_cases h0 : d = []
    · subst h0; exact Pm.kind_root
    · rcases hd with hd | ⟨r, rfl⟩
      · exact absurd hd h0
      · have hl : 0 < (Pm.names r).length := List.length_pos_iff.2 (Pm.names_ne r)
        have hl2 : 0 < (Pm.names d).length := List.length_pos_iff.2 (Pm.names_ne d)
        have ht := Pm.path_take hp (k := (Pm.names d).length) hl2 (by rw [Pm.names_slash, List.length_append]; omega)
        rw [Pm.names_slash, List.take_left' rfl, Pm.join_names] at ht
        exact Pm.kind_dir ht.1 ht.2.2
  · by_cases h0 : d = []
    · subst h0
      exact ⟨Pm.split p, by rw [Pm.split_path hp]; exact Pm.names_ne p, by rw [Pm.split_root]; rfl⟩
    · rcases hd with hd | ⟨r, rfl⟩
      · exact absurd hd h0
      · have hl : 0 < (Pm.names r).length := List.length_pos_iff.2 (Pm.names_ne r)
        have hl2 : 0 < (Pm.names d).length := List.length_pos_iff.2 (Pm.names_ne d)
        have ht := Pm.path_take hp (k := (Pm.names d).length) hl2 (by rw [Pm.names_slash, List.length_append]; omega)
        rw [Pm.names_slash, List.take_left' rfl, Pm.join_names] at ht
        exact ⟨Pm.names r, Pm.names_ne r, by rw [Pm.split_path hp, Pm.split_path ht.1, Pm.names_slash]⟩
theorem below_no {d p : Pm.T} (h : Pm.kind d = (1, 0) → Pm.isP p = true → ∀ t, t ≠ [] → Pm.split p = Pm.split d ++ t → False) : Pm.below d p = false := by
  cases hb : Pm.below d p with
  | false => rfl
  | true =>
    obtain ⟨h1, h2, t, h3, h4⟩ := below_parts hb
    exact (h h1 h2 t h3 h4).elim
theorem below_no_len {d p : Pm.T} (h : (Pm.split p).length ≤ (Pm.split d).length) : Pm.below d p = false := below_no fun _ _ t ht e => by
  rw [e, List.length_append] at h
  have := List.length_pos_iff.2 ht
  omega
theorem below_no_at {d p : Pm.T} {k : Nat} (hk : k < (Pm.split d).length) (h : (Pm.split d).getD k [] ≠ (Pm.split p).getD k []) : Pm.below d p = false := below_no fun _ _ t _ e => by
  apply h
  rw [e, List.getD_eq_getElem?_getD, List.getD_eq_getElem?_getD, List.getElem?_append_left hk]
theorem prefix_of {a b : List Pm.T} (hl : a.length < b.length) (h : ∀ j, j < a.length → a.getD j [] = b.getD j []) : ∃ t, t ≠ [] ∧ b = a ++ t := by
  refine ⟨b.drop a.length, by intro e; rw [List.drop_eq_nil_iff] at e; omega, ?_⟩
  refine List.ext_getElem? fun i => ?_
  by_cases hi : i < a.length
  · have e := h i hi
    rw [List.getD_eq_getElem?_getD, List.getD_eq_getElem?_getD, List.getElem?_eq_getElem hi, List.getElem?_eq_getElem (by omega)] at e
    rw [List.getElem?_append_left hi, List.getElem?_eq_getElem hi, List.getElem?_eq_getElem (by omega)]
    exact congrArg some e.symm
  · rw [List.getElem?_append_right (by omega), List.getElem?_drop]
    congr 1; omega
theorem below_yes {d p : Pm.T} (hd : Pm.isP d = true) (hp : Pm.isP p = true) (hl : (Pm.split d).length < (Pm.split p).length) (h : ∀ j, j < (Pm.split d).length → (Pm.split d).getD j [] = (Pm.split p).getD j []) : Pm.below d p = true := by
  have hpp : Pm.Path p := by
    rcases (Pm.isP_iff p).1 hp with rfl | h
    · rw [Pm.split_root] at hl; simp at hl
    · exact h
  refine (below_iff d p).2 ⟨hpp, ?_⟩
  rcases (Pm.isP_iff d).1 hd with rfl | hdd
  · exact .inl rfl
  · obtain ⟨t, ht, e⟩ := prefix_of hl h
    rw [Pm.split_path hpp, Pm.split_path hdd] at e
    refine .inr ⟨Pm.join t, ?_⟩
    rw [← Pm.join_names p, e, Pm.join_append _ _ (Pm.names_ne d) ht, Pm.join_names]
/- standing ahead, name by name -/
theorem cmp_same (c a b : Pm.T) : Pm.cmp (c ++ a) (c ++ b) = Pm.cmp a b := by
  induction c with
  | nil => rfl
  | cons x c ih => rw [List.cons_append, List.cons_append, Pm.cmp, if_pos rfl, ih]
def Ends (t : Pm.T) : Prop := t = [] ∨ ∃ r, t = 47 :: r
theorem cmp_names : ∀ (x y t1 t2 : Pm.T), 47 ∉ x → 47 ∉ y → Ends t1 → Ends t2 → Op.bytesLess x y = true → Pm.cmp (x ++ t1) (y ++ t2) = -1
  | _, [], _, _, _, _, _, _, h => by rw [Op.bytesLess] at h; cases h
  | [], b :: y, t1, t2, _, hy, h1, _, _ => by
    rcases h1 with rfl | ⟨r, rfl⟩
    · rfl
    · have hb : b ≠ 47 := fun e => hy (by rw [e]; exact List.mem_cons_self ..)
      rw [List.nil_append, List.cons_append, Pm.cmp, if_neg fun e => hb e.symm]
      have h47 : Pm.rank 47 = -1 := rfl
      have hr : Pm.rank b = (b.toNat : Int) := by rw [Pm.rank, if_neg hb]
      rcases cmpInt_cases (Pm.rank 47) (Pm.rank b) with h | h | h <;> omega
  | a :: x, b :: y, t1, t2, hx, hy, h1, h2, h => by
    have ha : a ≠ 47 := fun e => hx (by rw [e]; exact List.mem_cons_self ..)
    have hb : b ≠ 47 := fun e => hy (by rw [e]; exact List.mem_cons_self ..)
    rw [List.cons_append, List.cons_append, Pm.cmp]
    rw [Op.bytesLess, Bool.or_eq_true, Bool.and_eq_true, beq_iff_eq, decide_eq_true_eq] at h
    by_cases e : a = b
    · subst e
      rw [if_pos rfl]
      rcases h with h | h
      · exact absurd h (UInt8.lt_irrefl a)
      · exact cmp_names x y t1 t2 (fun hm => hx (List.mem_cons_of_mem _ hm)) (fun hm => hy (List.mem_cons_of_mem _ hm)) h1 h2 h.2
    · rw [if_neg e]
      rcases h with h | h
      · have hr1 : Pm.rank a = (a.toNat : Int) := by rw [Pm.rank, if_neg ha]
        have hr2 : Pm.rank b = (b.toNat : Int) := by rw [Pm.rank, if_neg hb]
        have : a.toNat < b.toNat := UInt8.lt_iff_toNat_lt.1 h
        rcases cmpInt_cases (Pm.rank a) (Pm.rank b) with h | h | h <;> omega
      · exact absurd h.1 e
theorem bytes_total : ∀ (x y : Pm.T), Op.bytesLess x y = false → x ≠ y → Op.bytesLess y x = true
  | [], [], _, h => absurd rfl h
  | a :: x, [], _, _ => rfl
  | [], b :: y, h, _ => by rw [Op.bytesLess] at h; cases h
  | a :: x, b :: y, h, hn => by
    rw [Op.bytesLess, Bool.or_eq_false_iff, Bool.and_eq_false_iff, decide_eq_false_iff_not, beq_eq_false_iff_ne] at h
    rw [Op.bytesLess, Bool.or_eq_true, Bool.and_eq_true, beq_iff_eq, decide_eq_true_eq]
    by_cases e : a = b
    · subst e
      refine .inr ⟨rfl, bytes_total x y ?_ fun e => hn (by rw [e])⟩
      rcases h.2 with h | h
      · exact absurd rfl h
      · exact h
    · refine .inl ?_
      have h1 : ¬ a.toNat < b.toNat := fun hh => h.1 (UInt8.lt_iff_toNat_lt.2 hh)
      have h2 : a.toNat ≠ b.toNat := fun hh => e (UInt8.toNat.inj hh)
      exact UInt8.lt_iff_toNat_lt.2 (by omega)
theorem join_ends (x : Pm.T) (X : List Pm.T) : ∃ t, Ends t ∧ Pm.join (x :: X) = x ++ t := by
  cases X with
  | nil => exact ⟨[], .inl rfl, by rw [Pm.join, List.append_nil]⟩
  | cons y X => exact ⟨_, .inr ⟨_, rfl⟩, by rw [Pm.join]⟩
theorem cmp_at {a b : Pm.T} {k : Nat} (hx : k < (Pm.names a).length) (hy : k < (Pm.names b).length) (hp : ∀ j, j < k → (Pm.names a).getD j [] = (Pm.names b).getD j []) (h : Op.bytesLess ((Pm.names a).getD k []) ((Pm.names b).getD k []) = true) : Pm.cmp a b = -1 := by
  have hta : (Pm.names b).take k = (Pm.names a).take k := by
    refine List.ext_getElem? fun i => ?_
    by_cases hi : i < k
    · have e := hp i hi
      rw [List.getD_eq_getElem?_getD, List.getD_eq_getElem?_getD, List.getElem?_eq_getElem (by omega), List.getElem?_eq_getElem (by omega)] at e
      rw [List.getElem?_take_of_lt hi, List.getElem?_take_of_lt hi, List.getElem?_eq_getElem (by omega), List.getElem?_eq_getElem (by omega)]
      exact congrArg some e.symm
    · rw [List.getElem?_take_eq_none (by omega), List.getElem?_take_eq_none (by omega)]
  have hfa : 47 ∉ (Pm.names a).getD k [] := Pm.names_mem_free a _ (getD_mem hx)
  have hfb : 47 ∉ (Pm.names b).getD k [] := Pm.names_mem_free b _ (getD_mem hy)
  have da : (Pm.names a).drop k = (Pm.names a).getD k [] :: (Pm.names a).drop (k + 1) := by
    rw [List.drop_eq_getElem_cons hx, List.getD_eq_getElem?_getD, List.getElem?_eq_getElem hx]; rfl
  have db : (Pm.names b).drop k = (Pm.names b).getD k [] :: (Pm.names b).drop (k + 1) := by
    rw [List.drop_eq_getElem_cons hy, List.getD_eq_getElem?_getD, List.getElem?_eq_getElem hy]; rfl
  obtain ⟨t1, h1, e1⟩ := join_ends ((Pm.names a).getD k []) ((Pm.names a).drop (k + 1))
  obtain ⟨t2, h2, e2⟩ := join_ends ((Pm.names b).getD k []) ((Pm.names b).drop (k + 1))
  have hc := cmp_names _ _ t1 t2 hfa hfb h1 h2 h
  rw [← e1, ← e2, ← da, ← db] at hc
  by_cases h0 : k = 0
  · subst h0
    rw [List.drop_zero, List.drop_zero, Pm.join_names, Pm.join_names] at hc
    exact hc
  · have ja := below_iff.join_take_drop (Pm.names a) h0 hx
    have jb := below_iff.join_take_drop (Pm.names b) h0 hy
    rw [Pm.join_names] at ja jb
    rw [ja, jb, hta, cmp_same, Pm.cmp, if_pos rfl]
    exact hc
theorem cmp_past {a b : Pm.T} {k : Nat} (hx : k < (Pm.names a).length) (hy : k < (Pm.names b).length) (hp : ∀ j, j < k → (Pm.names a).getD j [] = (Pm.names b).getD j []) (h : Op.bytesLess ((Pm.names a).getD k []) ((Pm.names b).getD k []) = false) (hn : (Pm.names a).getD k [] ≠ (Pm.names b).getD k []) : Pm.cmp a b = 1 := by
  have := cmp_at hy hx (fun j hj => (hp j hj).symm) (bytes_total _ _ h hn)
  rw [cmp_anti, this]; rfl
theorem cmp_shorter {a b : Pm.T} (hl : (Pm.names a).length < (Pm.names b).length) (h : ∀ j, j < (Pm.names a).length → (Pm.names a).getD j [] = (Pm.names b).getD j []) : Pm.cmp a b = -1 := by
  obtain ⟨t, ht, e⟩ := prefix_of hl h
  rw [← Pm.join_names b, e, Pm.join_append _ _ (Pm.names_ne a) ht, Pm.join_names]
  exact cmp_longer a 47 _
theorem cmp_alike {a b : Pm.T} (hl : (Pm.names a).length = (Pm.names b).length) (h : ∀ j, j < (Pm.names a).length → (Pm.names a).getD j [] = (Pm.names b).getD j []) : Pm.cmp a b = 0 := by
  refine (cmp_zero a b).2 (Pm.names_inj (List.ext_getElem? fun i => ?_))
  by_cases hi : i < (Pm.names a).length
  · have e := h i hi
    rw [List.getD_eq_getElem?_getD, List.getD_eq_getElem?_getD, List.getElem?_eq_getElem hi, List.getElem?_eq_getElem (by omega)] at e
    rw [List.getElem?_eq_getElem hi, List.getElem?_eq_getElem (by omega)]
    exact congrArg some e
  · rw [List.getElem?_eq_none (by omega), List.getElem?_eq_none (by omega)]
end Go.Proofs.YtbcmgcallidneaaGreatDoor
