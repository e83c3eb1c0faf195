/- Proved: what the names of a text are, joined and parted, by plain lists of bytes. No program, no world. -/
import Derived.Lib.Split
import Derived.Lib.SplitLaws
import Derived.Lib.Join
import Derived.Lib.LastIndexByte
import Derived.Lib.Small
import Derived.Lib.ItoaNum
namespace Go.Proofs.YtbcmgcallidneaaGreatDoor
namespace Pm
abbrev T := List UInt8
/- what a text is, parted at each / -/
def names : T → List T
  | [] => [[]]
  | c :: r => if c = 47 then [] :: names r else (c :: (names r).headD []) :: (names r).tail
def join : List T → T
  | [] => []
  | [n] => n
  | n :: m :: r => n ++ 47 :: join (m :: r)
theorem names_ne (s : T) : names s ≠ [] := by
  cases s with
  | nil => simp [names]
  | cons c r => unfold names; split <;> simp
theorem names_cons (c : UInt8) (r : T) (h : c ≠ 47) : ∃ n l, names r = n :: l ∧ names (c :: r) = (c :: n) :: l := by
  cases hr : names r with
  | nil => exact absurd hr (names_ne r)
  | cons n l => exact ⟨n, l, rfl, by rw [names, if_neg h, hr]; rfl⟩
theorem names_slash (a b : T) : names (a ++ 47 :: b) = names a ++ names b := by
  induction a with
  | nil => simp [names]
  | cons c a ih =>
    by_cases h : c = 47
    · subst h; rw [List.cons_append, names, if_pos rfl, ih, names, if_pos rfl]; rfl
    · obtain ⟨n, l, e1, e2⟩ := names_cons c a h
      rw [List.cons_append, names, if_neg h, ih, e2, e1]; rfl
theorem names_free {n : T} (h : 47 ∉ n) : names n = [n] := by
  induction n with
  | nil => rfl
  | cons c r ih =>
    have hc : c ≠ 47 := fun e => h (by rw [e]; exact List.mem_cons_self ..)
    rw [names, if_neg hc, ih fun hm => h (List.mem_cons_of_mem _ hm)]; rfl
theorem names_mem_free : ∀ (s n : T), n ∈ names s → 47 ∉ n
  | [], n, h => by simp [names] at h; subst h; simp
  | c :: r, n, h => by
    by_cases hc : c = 47
    · rw [names, if_pos hc] at h
      rcases List.mem_cons.1 h with rfl | h
      · simp
      · exact names_mem_free r n h
    · obtain ⟨m, l, e1, e2⟩ := names_cons c r hc
      rw [e2] at h
      rcases List.mem_cons.1 h with rfl | h
      · have := names_mem_free r m (by rw [e1]; exact List.mem_cons_self ..)
        simp only [List.mem_cons, not_or]
        exact ⟨fun e => hc e.symm, this⟩
      · exact names_mem_free r n (by rw [e1]; exact List.mem_cons_of_mem _ h)
theorem join_cons (n : T) {r : List T} (h : r ≠ []) : join (n :: r) = n ++ 47 :: join r := by
  cases r with
  | nil => exact absurd rfl h
  | cons m r => rfl
theorem join_names (s : T) : join (names s) = s := by
  induction s with
  | nil => rfl
  | cons c r ih =>
    by_cases hc : c = 47
    · rw [names, if_pos hc, join_cons _ (names_ne r), ih, hc]; rfl
    · obtain ⟨m, l, e1, e2⟩ := names_cons c r hc
      rw [e2]
      rw [e1] at ih
      cases l with
      | nil => simp only [join] at ih ⊢; rw [ih]
      | cons k l => simp only [join] at ih ⊢; rw [List.cons_append, ih]
theorem names_join : ∀ (l : List T), l ≠ [] → (∀ n ∈ l, 47 ∉ n) → names (join l) = l
  | [], h, _ => absurd rfl h
  | [n], _, h => by rw [join]; exact names_free (h n (List.mem_cons_self ..))
  | n :: m :: r, _, h => by
    rw [join, names_slash, names_free (h n (List.mem_cons_self ..)), names_join (m :: r) (by simp) fun x hx => h x (List.mem_cons_of_mem _ hx)]; rfl
theorem join_append (a b : List T) (ha : a ≠ []) (hb : b ≠ []) : join (a ++ b) = join a ++ 47 :: join b := by
  induction a with
  | nil => exact absurd rfl ha
  | cons n a ih =>
    cases a with
    | nil => rw [List.cons_append, List.nil_append, join_cons n hb]; rfl
    | cons m a =>
      rw [List.cons_append, join_cons n (by simp), ih (by simp), join_cons n (by simp), List.append_assoc, List.cons_append]
theorem join_lib (xs : List T) : Lib.join xs [47] = join xs := by
  induction xs with
  | nil => rfl
  | cons n r ih =>
    cases r with
    | nil => rw [Lib.join_one]; rfl
    | cons m r =>
      rw [join, ← ih, Lib.join_cons, Lib.join_cons]
      simp [Lib.joinTail]
theorem names_inj {a b : T} (h : names a = names b) : a = b := by rw [← join_names a, h, join_names]
theorem names_one {s n : T} (h : names s = [n]) : s = n := by have := join_names s; rw [h] at this; exact this.symm
theorem names_length (s : T) : (names s).length = s.count 47 + 1 := by
  induction s with
  | nil => rfl
  | cons c r ih =>
    by_cases hc : c = 47
    · subst hc; rw [names, if_pos rfl, List.length_cons, ih, List.count_cons_self]
    · obtain ⟨m, l, e1, e2⟩ := names_cons c r hc
      rw [e2, List.length_cons, List.count_cons_of_ne hc, ← ih, e1, List.length_cons]
/- the first place of a byte -/
theorem index_one (s : T) (c : UInt8) : (Lib.index s [c] = -1 ∧ c ∉ s) ∨ (∃ a b, Lib.index s [c] = (a.length : Int) ∧ s = a ++ c :: b ∧ c ∉ a) := by
  induction s with
  | nil => exact .inl ⟨rfl, by simp⟩
  | cons d r ih =>
    by_cases h : c = d
    · subst h
      refine .inr ⟨[], r, ?_, rfl, by simp⟩
      rw [Lib.index, if_pos (by simp)]; rfl
    · have hp : ¬ ([c].isPrefixOf (d :: r) = true) := by simp [h]
      rcases ih with ⟨e, hn⟩ | ⟨a, b, e, rfl, hn⟩
      · refine .inl ⟨?_, by simp only [List.mem_cons, not_or]; exact ⟨h, hn⟩⟩
        rw [Lib.index, if_neg hp, e]; rfl
      · refine .inr ⟨d :: a, b, ?_, rfl, by simp only [List.mem_cons, not_or]; exact ⟨h, hn⟩⟩
        rw [Lib.index, if_neg hp, e, if_neg (by simp only [beq_iff_eq]; omega), List.length_cons]; omega
theorem indexByte_one (s : T) (c : UInt8) : (Lib.indexByte s c = -1 ∧ c ∉ s) ∨ (∃ a b, Lib.indexByte s c = (a.length : Int) ∧ s = a ++ c :: b ∧ c ∉ a) := by
  induction s with
  | nil => exact .inl ⟨rfl, by simp⟩
  | cons d r ih =>
    by_cases h : c = d
    · subst h
      refine .inr ⟨[], r, ?_, rfl, by simp⟩
      rw [Lib.indexByte, if_pos (by simp)]; rfl
    · have hp : ¬ ((d == c) = true) := by simp only [beq_iff_eq]; exact fun e => h e.symm
      rcases ih with ⟨e, hn⟩ | ⟨a, b, e, rfl, hn⟩
      · refine .inl ⟨?_, by simp only [List.mem_cons, not_or]; exact ⟨h, hn⟩⟩
        rw [Lib.indexByte, if_neg hp, e]; rfl
      · refine .inr ⟨d :: a, b, ?_, rfl, by simp only [List.mem_cons, not_or]; exact ⟨h, hn⟩⟩
        rw [Lib.indexByte, if_neg hp, e, if_neg (by simp only [beq_iff_eq]; omega), List.length_cons]; omega
theorem split_names : ∀ (k : Nat) (s : T), s.length ≤ k → Lib.split s [47] = names s
  | k, s, hk => by
    unfold Lib.split
    rcases index_one s 47 with ⟨e, hn⟩ | ⟨a, b, e, rfl, hn⟩
    · rw [Lib.count_miss e, names_free hn]; rfl
    · have hl : (a ++ 47 :: b).length = a.length + (b.length + 1) := by simp
      match k with
      | 0 => omega
      | k + 1 =>
        have ih := split_names k b (by omega)
        unfold Lib.split at ih
        rw [Lib.count_hit (by simp) e, show (a ++ 47 :: b).drop (a.length + [(47 : UInt8)].length) = b by rw [List.drop_append]; simp, Nat.add_comm, Lib.splitK, e, if_neg (by simp only [beq_iff_eq]; omega), names_slash, names_free hn]
        rw [show ((a.length : Int).toNat + 0) = a.length by omega, show (a ++ 47 :: b).take a.length = a by simp, show (a ++ 47 :: b).drop ((a.length : Int).toNat + [(47 : UInt8)].length) = b by rw [List.drop_append]; simp, ih]
        rfl
theorem data_toList_get (s : ByteArray) (j : Nat) (h : j < s.size) : ((s.data[j]!).toNat : Int) = ((s.data.toList[j]'(by simpa using h)).toNat : Int) := by
  have : j < s.data.size := h
  rw [getElem!_pos s.data j this]; simp
/- the last place of a byte -/
theorem lastIdx_free (s : ByteArray) (c : UInt8) (hn : c ∉ s.data.toList) : Lib.lastIndexByte s (c.toNat : Int) = -1 := by
  rcases Lib.lastIndexByte_spec s (c.toNat : Int) with ⟨e, _⟩ | ⟨i, hi, _, h2, _⟩
  · exact e
  · exfalso
    rw [data_toList_get s i hi] at h2
    refine hn ?_
    have : s.data.toList[i]'(by simpa using hi) = c := UInt8.toNat.inj (by omega)
    rw [← this]; exact List.getElem_mem _
theorem lastIdx_at (s : ByteArray) (c : UInt8) (a b : T) (hs : s.data.toList = a ++ c :: b) (hn : c ∉ b) : Lib.lastIndexByte s (c.toNat : Int) = (a.length : Int) := by
  have hsz : s.size = a.length + (b.length + 1) := by
    have : s.size = s.data.toList.length := (Array.length_toList ..).symm
    rw [this, hs]; simp
  rcases Lib.lastIndexByte_spec s (c.toNat : Int) with ⟨_, h⟩ | ⟨i, hi, e, h2, h3⟩
  · exfalso
    have := h a.length (by omega)
    rw [data_toList_get s _ (by omega)] at this
    refine this ?_
    congr 2
    simp [hs]
  · rw [e]
    rw [data_toList_get s i hi] at h2
    have h2' : s.data.toList[i]'(by simpa using hi) = c := UInt8.toNat.inj (by omega)
    by_cases h : i < a.length
    · exfalso
      have := h3 a.length h (by omega)
      rw [data_toList_get s _ (by omega)] at this
      refine this ?_
      congr 2
      simp [hs]
    · by_cases h' : i = a.length
      · rw [h']
      · exfalso
        refine hn ?_
        have : s.data.toList[i]? = some c := by rw [List.getElem?_eq_getElem (by simpa using hi), h2']
        rw [hs, List.getElem?_append_right (by omega)] at this
        have hj : i - a.length = (i - a.length - 1) + 1 := by omega
        rw [hj, List.getElem?_cons_succ] at this
        exact List.mem_of_getElem? this
/- parted at the last / -/
theorem last_slash (s : T) : (47 ∉ s) ∨ (∃ a b, s = a ++ 47 :: b ∧ 47 ∉ b) := by
  induction s with
  | nil => exact .inl (by simp)
  | cons c r ih =>
    rcases ih with h | ⟨a, b, rfl, h⟩
    · by_cases hc : c = 47
      · subst hc; exact .inr ⟨[], r, rfl, h⟩
      · exact .inl (by simp only [List.mem_cons, not_or]; exact ⟨fun e => hc e.symm, h⟩)
    · exact .inr ⟨c :: a, b, rfl, h⟩
end Pm
end Go.Proofs.YtbcmgcallidneaaGreatDoor
