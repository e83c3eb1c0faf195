/- Proved: copies of files by unlike numbers, and of unlike files, are unlike, and lie beside the file. No program, no world. -/
import Derived.Test.YtlgalcpnodadiaaDoorCopy
namespace Go.Proofs.YtlgalcpnodadiaaDoor
def dv (l : List UInt8) : Nat := l.foldl (fun a c => a * 10 + (c.toNat - 48)) 0
theorem dv_digits : ∀ (k n : Nat), n < k → dv (Lib.decDigits n) = n ∧ ∀ c ∈ Lib.decDigits n, 48 ≤ c.toNat ∧ c.toNat ≤ 57
  | 0, _, h => by omega
  | k + 1, n, h => by
    have e : ∀ d, d < 10 → (UInt8.ofNat (48 + d)).toNat = 48 + d := fun d hd => by rw [UInt8.toNat_ofNat']; omega
    rw [Lib.decDigits]
    split
    · rename_i h10
      refine ⟨?_, fun c hc => ?_⟩
      · simp only [dv, List.foldl_cons, List.foldl_nil]; rw [e n h10]; omega
      · rw [List.mem_singleton.1 hc, e n h10]; omega
    · rename_i h10
      obtain ⟨h1, h2⟩ := dv_digits k (n / 10) (by omega)
      refine ⟨?_, fun c hc => ?_⟩
      · unfold dv at h1 ⊢
        rw [List.foldl_append, h1]
        simp only [List.foldl_cons, List.foldl_nil]; rw [e _ (by omega)]; omega
      · rcases List.mem_append.1 hc with hc | hc
        · exact h2 c hc
        · rw [List.mem_singleton.1 hc, e _ (by omega)]; omega
theorem digits_inj {n m : Nat} (h : Lib.decDigits n = Lib.decDigits m) : n = m := by
  rw [← (dv_digits _ n (Nat.lt_succ_self n)).1, h, (dv_digits _ m (Nat.lt_succ_self m)).1]
theorem digits_not {n : Nat} {b : UInt8} (hb : b.toNat < 48 ∨ 57 < b.toNat) : b ∉ Lib.decDigits n := fun h => by
  have := (dv_digits _ n (Nat.lt_succ_self n)).2 b h
  omega
theorem join_mem {b : UInt8} : ∀ {l : List Pm.T}, b ∈ Pm.join l → b = 47 ∨ ∃ n ∈ l, b ∈ n
  | [], h => by simp [Pm.join] at h
  | [m], h => .inr ⟨m, List.mem_cons_self .., h⟩
  | m :: k :: r, h => by
    rw [Pm.join, List.mem_append, List.mem_cons] at h
    rcases h with h | h | h
    · exact .inr ⟨m, List.mem_cons_self .., h⟩
    · exact .inl h
    · rcases join_mem h with h | ⟨n, h1, h2⟩
      · exact .inl h
      · exact .inr ⟨n, List.mem_cons_of_mem _ h1, h2⟩
/- a copy that may be -/
structure Copied (p : Pm.T) (n : Int) (a : Pm.T) : Prop where
  two : (Pm.kind p).1 = 2
  lo : 1 ≤ n
  hi : n ≤ 999
  is : a = Pm.copyOf p n.toNat
  ok : Pm.isP a = true
theorem copy_ok {p : Pm.T} {n : Int} (h : (Pm.copy p n).2 = 0) : Copied p n (Pm.copy p n).1 := by
  unfold Pm.copy at h ⊢
  split
  · rename_i hc
    rw [if_pos hc] at h
    unfold Pm.checked at h ⊢
    split
    · rename_i h0
      exact ⟨hc.1, hc.2.1, hc.2.2, rfl, by unfold Pm.isP; rw [h0]; rfl⟩
    · rename_i h0
      rw [if_neg h0] at h
      exact absurd h h0
  · rename_i hc
    rw [if_neg hc] at h; cases h
theorem checked_err {p : Pm.T} (h : (Pm.checked p).2 ≠ 0) : (Pm.checked p).1 = [] := by
  unfold Pm.checked at h ⊢
  split
  · rename_i h0; rw [if_pos h0] at h; exact absurd rfl h
  · rfl
theorem copy_err {p : Pm.T} {n : Int} (h : (Pm.copy p n).2 ≠ 0) : (Pm.copy p n).1 = [] := by
  unfold Pm.copy at h ⊢
  split
  · rename_i hc; rw [if_pos hc] at h; exact checked_err h
  · rfl
theorem copyOf_cut {p a b : Pm.T} (n : Nat) (e : p = a ++ 46 :: b) (ha : 46 ∉ a) : Pm.copyOf p n = a ++ 126 :: Lib.decDigits n ++ 46 :: b ∧ Pm.head (Pm.copyOf p n) = a ++ 126 :: Lib.decDigits n ∧ Pm.tail (Pm.copyOf p n) = b := by
  have h1 : Pm.copyOf p n = a ++ 126 :: Lib.decDigits n ++ 46 :: b := by rw [Pm.copyOf, Pm.head, Pm.tail, e, Pm.cut_at ha]
  have h2 : 46 ∉ a ++ 126 :: Lib.decDigits n := by
    simp only [List.mem_append, List.mem_cons, not_or]
    exact ⟨ha, by decide, digits_not (.inl (by decide))⟩
  exact ⟨h1, by rw [h1, Pm.head, Pm.cut_at h2], by rw [h1, Pm.tail, Pm.cut_at h2]⟩
theorem copied_ne {p a : Pm.T} {n : Int} (h : Copied p n a) : a ≠ p := by
  obtain ⟨x, y, e, hx, _, _⟩ := two_dot h.two
  intro he
  have := congrArg List.length (h.is.symm.trans he)
  rw [(copyOf_cut n.toNat e hx).1, e] at this
  simp at this
  omega
theorem copied_num {p a b : Pm.T} {n m : Int} (h : Copied p n a) (k : Copied p m b) : a = b ↔ n = m := by
  obtain ⟨x, y, e, hx, _, _⟩ := two_dot h.two
  constructor
  · intro he
    rw [h.is, k.is] at he
    have := congrArg Pm.head he
    rw [(copyOf_cut n.toNat e hx).2.1, (copyOf_cut m.toNat e hx).2.1] at this
    have := digits_inj (List.cons.inj (List.append_cancel_left this)).2
    have := h.lo; have := k.lo
    omega
  · rintro rfl
    rw [h.is, k.is]
theorem copied_file {p q a b : Pm.T} {n : Int} (h : Copied p n a) (k : Copied q n b) : a = b ↔ p = q := by
  obtain ⟨x, y, e, hx, _, _⟩ := two_dot h.two
  obtain ⟨x', y', e', hx', _, _⟩ := two_dot k.two
  constructor
  · intro he
    rw [h.is, k.is] at he
    have h1 := congrArg Pm.head he
    have h2 := congrArg Pm.tail he
    rw [(copyOf_cut n.toNat e hx).2.1, (copyOf_cut n.toNat e' hx').2.1] at h1
    rw [(copyOf_cut n.toNat e hx).2.2, (copyOf_cut n.toNat e' hx').2.2] at h2
    rw [e, e', h2, List.append_cancel_right h1]
  · rintro rfl
    rw [h.is, k.is]
theorem path_of_ok {p : Pm.T} (h : Pm.isP p = true) (hne : p ≠ []) : Pm.Path p := by
  rcases (Pm.isP_iff p).1 h with h | h
  · exact absurd h hne
  · exact h
theorem parent_at {a b : Pm.T} (h : Pm.Path (a ++ 47 :: b)) (hb : 47 ∉ b) : Pm.parent (a ++ 47 :: b) = some a := by
  rw [Pm.parent_path h, Pm.names_slash, Pm.names_free hb, List.dropLast_concat, Pm.join_names]
theorem parent_top {b : Pm.T} (h : Pm.Path b) (hb : 47 ∉ b) : Pm.parent b = some [] := by
  rw [Pm.parent_path h, Pm.names_free hb]; rfl
/- a directory has no . in it -/
theorem dir_nodot {a b : Pm.T} (h : Pm.Path (a ++ 47 :: b)) : 46 ∉ a := fun hm => by
  rw [← Pm.join_names a] at hm
  rcases join_mem hm with h' | ⟨n, hn, h2⟩
  · revert h'; decide
  · have : n ∈ (Pm.names (a ++ 47 :: b)).dropLast := by
      rw [Pm.names_slash, List.dropLast_append_of_ne_nil (Pm.names_ne b)]
      exact List.mem_append_left _ hn
    exact Pm.plain_free (Pm.nk_one (Pm.good_dir h.ok this)).2 h2
theorem copied_parent {p a : Pm.T} {n : Int} (h : Copied p n a) : Pm.parent a = Pm.parent p := by
  obtain ⟨hp, _⟩ := kind_two h.two
  obtain ⟨x, y, e, hx, _, _⟩ := two_dot h.two
  have hc := (copyOf_cut n.toNat e hx).1
  have hne : a ≠ [] := by rw [h.is, hc]; simp
  have ha := path_of_ok h.ok hne
  rw [h.is] at ha ⊢
  rcases Pm.last_slash p with hn | ⟨A, B, hAB, hn⟩
  · have h1 : 47 ∉ Pm.copyOf p n.toNat := by
      rw [hc]
      rw [e] at hn
      simp only [List.mem_append, List.mem_cons, not_or] at hn ⊢
      exact ⟨⟨hn.1, by decide, digits_not (.inl (by decide))⟩, by decide, hn.2.2⟩
    rw [parent_top ha h1, parent_top hp hn]
  · subst hAB
    have hd := dir_nodot hp
    obtain ⟨B1, hB1⟩ : ∃ B1, x = A ++ 47 :: B1 := by
      have h46 : (46 : UInt8) ∉ A ++ [47] := by
        simp only [List.mem_append, List.mem_cons, List.not_mem_nil, or_false, not_or]; exact ⟨hd, by decide⟩
      have e2 : (A ++ [47]) ++ B = x ++ 46 :: y := by rw [List.append_assoc]; exact e
      rcases List.append_eq_append_iff.1 e2 with ⟨z, h1, h2⟩ | ⟨z, h1, h2⟩
      · exact ⟨z, by rw [h1]; simp⟩
      · cases z with
        | nil => exact ⟨[], by rw [List.append_nil] at h1; rw [← h1]⟩
        | cons c z =>
          rw [List.cons_append, List.cons.injEq] at h2
          exact absurd (by rw [h1, ← h2.1]; simp) h46
    have e3 : B = B1 ++ 46 :: y := by
      rw [hB1, List.append_assoc] at e
      have := List.append_cancel_left e
      exact (List.cons.inj this).2
    have h1 : Pm.copyOf (A ++ 47 :: B) n.toNat = A ++ 47 :: (B1 ++ 126 :: Lib.decDigits n.toNat ++ 46 :: y) := by rw [hc, hB1]; simp
    have h2 : 47 ∉ B1 ++ 126 :: Lib.decDigits n.toNat ++ 46 :: y := by
      rw [e3] at hn
      simp only [List.mem_append, List.mem_cons, not_or] at hn ⊢
      exact ⟨⟨hn.1, by decide, digits_not (.inl (by decide))⟩, by decide, hn.2.2⟩
    rw [h1] at ha ⊢
    rw [parent_at ha h2, parent_at hp hn]
end Go.Proofs.YtlgalcpnodadiaaDoor
