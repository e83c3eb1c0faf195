/- Proved: the mathematics of scopes' texts, and of unions and meets; no program in it. -/
import Derived.Test.YtbcmgcallidneaaGreatDoorMathS
namespace Go.Proofs.YtbcmgcallidneaaGreatDoor
namespace Sm
theorem fault_zero {l : List T} : fault l = 0 ↔ ∀ x ∈ l, dirErr x = 0 := by
  induction l with
  | nil => simp [fault]
  | cons p r ih =>
    unfold fault
    split
    · rename_i h
      exact ⟨fun e => absurd e h, fun e => e p (List.mem_cons_self ..)⟩
    · rename_i h
      have h0 : dirErr p = 0 := by omega
      rw [ih]
      simp [h0]
theorem dir_kind {x : T} (h : dirErr x = 0) : (Pm.kind x).2 = 0 ∧ (Pm.kind x).1 ≠ 2 := by
  unfold dirErr at h
  split at h
  · rename_i hk; exact absurd h hk
  · rename_i hk
    split at h
    · cases h
    · rename_i h2; exact ⟨by omega, h2⟩
theorem dir_isP {x : T} (h : dirErr x = 0) : Pm.isP x = true := by unfold Pm.isP; rw [(dir_kind h).1]; rfl
theorem fault_isP {l : List T} (h : fault l = 0) : ∀ x ∈ l, Pm.isP x = true := fun x hx => dir_isP (fault_zero.1 h x hx)
theorem fault_sub {a b : List T} (h : fault b = 0) (hs : ∀ x ∈ a, x ∈ b) : fault a = 0 := fault_zero.2 fun x hx => fault_zero.1 h x (hs x hx)
theorem fault_outer {l : List T} (h : fault l = 0) : fault (outer l) = 0 := fault_sub h fun _ hx => (mem_outer.1 hx).1
theorem makes_ok {l : List T} (h : (makes l).2 = 0) : fault l = 0 ∧ (makes l).1 = outer l ∧ (outer l).length ≤ 16 := by
  unfold makes at h ⊢
  split
  · rename_i hf; rw [if_pos hf] at h; exact absurd h hf
  · rename_i hf
    rw [if_neg hf] at h
    split
    · rename_i hl; rw [if_pos hl] at h; cases h
    · rename_i hl; exact ⟨by omega, rfl, by omega⟩
theorem makes_no {l : List T} (h : (makes l).2 ≠ 0) : (makes l).1 = [] := by
  unfold makes at h ⊢
  split
  · rfl
  · rename_i hf
    rw [if_neg hf] at h
    split
    · rfl
    · rename_i hl; rw [if_neg hl] at h; exact absurd rfl h
theorem makes_of {l : List T} (hf : fault l = 0) (hl : (outer l).length ≤ 16) : makes l = (outer l, 0) := by
  unfold makes
  rw [if_neg (by omega), if_neg (by omega)]
theorem may_iff {l : List T} : may l = true ↔ fault l = 0 ∧ outer l = l ∧ l.length ≤ 16 := by
  unfold may
  rw [Bool.and_eq_true, beq_iff_eq, beq_iff_eq]
  constructor
  · rintro ⟨h, e⟩
    obtain ⟨h1, h2, h3⟩ := makes_ok h
    rw [h2] at e
    rw [e] at h3
    exact ⟨h1, e, h3⟩
  · rintro ⟨h1, h2, h3⟩
    rw [makes_of h1 (by rw [h2]; exact h3)]
    exact ⟨rfl, h2⟩
theorem makes_may {l : List T} (h : may l = true) : makes l = (l, 0) := by
  obtain ⟨h1, h2, h3⟩ := may_iff.1 h
  rw [makes_of h1 (by rw [h2]; exact h3), h2]
theorem may_outer {l : List T} (h : fault l = 0) (hl : (outer l).length ≤ 16) : may (outer l) = true := may_iff.2 ⟨fault_outer h, outer_outer l, hl⟩
theorem may_made {l : List T} (h : (makes l).2 = 0) : may (makes l).1 = true := by
  obtain ⟨h1, h2, h3⟩ := makes_ok h
  rw [h2]; exact may_outer h1 h3
theorem may_len {l : List T} (h : may l = true) : l.length ≤ 16 := (may_iff.1 h).2.2
theorem may_nil : may [] = true := by decide +kernel
theorem may_root : may [[]] = true := by decide +kernel
theorem fault_append {a b : List T} (ha : fault a = 0) (hb : fault b = 0) : fault (a ++ b) = 0 := fault_zero.2 fun x hx => by
  rcases List.mem_append.1 hx with h | h
  · exact fault_zero.1 ha x h
  · exact fault_zero.1 hb x h
theorem makes_congr {a b : List T} (ha : fault a = 0) (h : ∀ x, x ∈ a ↔ x ∈ b) : makes a = makes b := by
  unfold makes
  rw [fault_sub ha fun x hx => (h x).2 hx, ha, outer_congr h]
theorem union_of {a b : List T} (ha : may a = true) (hb : may b = true) : union a b = makes (a ++ b) := by
  unfold union; rw [if_neg (by rw [ha, hb]; simp)]
theorem meet_of {a b : List T} (ha : may a = true) (hb : may b = true) : meet a b = outer (b.filter (has a) ++ a.filter (has b)) := by
  unfold meet; rw [if_neg (by rw [ha, hb]; simp)]
theorem union_comm {a b : List T} (ha : may a = true) (hb : may b = true) : union a b = union b a := by
  rw [union_of ha hb, union_of hb ha]
  exact makes_congr (fault_append (may_iff.1 ha).1 (may_iff.1 hb).1) fun x => by simp [or_comm]
theorem union_self {a : List T} (ha : may a = true) : union a a = (a, 0) := by
  rw [union_of ha ha, makes_congr (b := a) (fault_append (may_iff.1 ha).1 (may_iff.1 ha).1) fun x => by simp]
  exact makes_may ha
theorem below_root {z : T} (h : Pm.isP z = true) (hz : z ≠ []) : Pm.below [] z = true := (below_iff [] z).2 ⟨path_of_ok h hz, .inl rfl⟩
theorem lies_root {z : T} (h : Pm.isP z = true) : lies [] z = true := by
  by_cases hz : z = []
  · rw [hz]; exact lies_refl []
  · exact lies_iff.2 (.inr (below_root h hz))
theorem below_nil (y : T) : Pm.below y [] = false := by
  cases h : Pm.below y [] with
  | false => rfl
  | true => have := below_shorter h; simp at this
theorem union_root {a : List T} (ha : may a = true) : union a [[]] = ([[]], 0) := by
  have e : outer (a ++ [[]]) = [[]] := by
    refine (eq_outer (List.pairwise_singleton ..) fun x => ?_).symm
    rw [List.mem_singleton, List.mem_append, List.mem_singleton]
    constructor
    · rintro rfl
      exact ⟨.inr rfl, fun y _ => below_nil y⟩
    · rintro ⟨h, hf⟩
      apply Classical.byContradiction
      intro hx
      have := below_root (fault_isP (may_iff.1 ha).1 x (h.resolve_right hx)) hx
      rw [hf [] (by simp)] at this
      cases this
  rw [union_of ha may_root, makes_of (fault_append (may_iff.1 ha).1 (by decide +kernel)) (by rw [e]; decide), e]
theorem meet_comm {a b : List T} (ha : may a = true) (hb : may b = true) : meet a b = meet b a := by
  rw [meet_of ha hb, meet_of hb ha]
  exact outer_congr fun x => by rw [List.mem_append, List.mem_append, or_comm]
theorem has_mem {a : List T} (h : ∀ x ∈ a, Pm.isP x = true) {x : T} (hx : x ∈ a) : has a x = true := has_iff.2 ⟨h x hx, x, hx, lies_refl x⟩
theorem meet_self {a : List T} (ha : may a = true) : meet a a = a := by
  rw [meet_of ha ha]
  have hP := fault_isP (may_iff.1 ha).1
  have e : a.filter (has a) = a := List.filter_eq_self.2 fun x hx => has_mem hP hx
  rw [e, outer_congr (b := a) fun x => by simp]
  exact (may_iff.1 ha).2.1
theorem meet_root {a : List T} (ha : may a = true) : meet a [[]] = a := by
  rw [meet_of ha may_root]
  have hP := fault_isP (may_iff.1 ha).1
  have e : a.filter (has [[]]) = a := List.filter_eq_self.2 fun x hx => has_iff.2 ⟨hP x hx, [], by simp, lies_root (hP x hx)⟩
  rw [e, outer_congr (b := a) fun x => ?_]
  · exact (may_iff.1 ha).2.1
  · rw [List.mem_append, List.mem_filter, List.mem_singleton]
    constructor
    · rintro (⟨rfl, h⟩ | h)
      · obtain ⟨_, d, hd, hl⟩ := has_iff.1 h
        rcases lies_iff.1 hl with e | hb
        · rw [e]; exact hd
        · rw [below_nil] at hb; cases hb
      · exact h
    · exact .inr
theorem meet_nil {a : List T} (ha : may a = true) : meet a [] = [] := by
  rw [meet_of ha may_nil]
  have e : a.filter (has []) = [] := List.filter_eq_nil_iff.2 fun x _ h => by
    obtain ⟨_, d, hd, _⟩ := has_iff.1 h
    cases hd
  rw [e]
  rfl

/- texts -/
def rl (out : List T) (line : T) : T → List T × T
  | [] => (out, line)
  | c :: t => if c = 10 then rl (out ++ [line]) [] t else rl out (line ++ [c]) t
def parse (t : T) : List T × Nat := if (rl [] [] t).2 ≠ [] ∨ may (rl [] [] t).1 = false then ([], 5) else ((rl [] [] t).1, 0)
def texts (s : List T) : T × Nat := if may s = false then ([], 2) else (text s, 0)
theorem rl_free : ∀ (t : T) (out : List T) (line : T), 10 ∉ t → rl out line t = (out, line ++ t)
  | [], out, line, _ => by simp [rl]
  | c :: t, out, line, h => by
    rw [List.mem_cons, not_or] at h
    rw [rl, if_neg fun e => h.1 e.symm, rl_free t out _ h.2]
    simp
theorem rl_at : ∀ (a b : T) (out : List T) (line : T), 10 ∉ a → rl out line (a ++ 10 :: b) = rl (out ++ [line ++ a]) [] b
  | [], b, out, line, _ => by simp [rl]
  | c :: a, b, out, line, h => by
    rw [List.mem_cons, not_or] at h
    rw [List.cons_append, rl, if_neg fun e => h.1 e.symm, rl_at a b out _ h.2]
    simp
theorem rl_out : ∀ (t : T) (out : List T) (line : T), rl out line t = (out ++ (rl [] line t).1, (rl [] line t).2)
  | [], out, line => by simp [rl]
  | c :: t, out, line => by
    unfold rl
    split
    · rw [rl_out t (out ++ [line]), rl_out t ([] ++ [line])]; simp
    · exact rl_out t out _
theorem rl_count : ∀ (t : T) (out : List T) (line : T), (rl out line t).1.length = out.length + t.count 10
  | [], out, line => by simp [rl]
  | c :: t, out, line => by
    unfold rl
    split
    · rename_i h; subst h; rw [rl_count t]; simp; omega
    · rename_i h; rw [rl_count t, List.count_cons_of_ne (by simpa using h)]
theorem splitK_lines : ∀ (k : Nat) (t : T), t.count 10 ≤ k → Lib.splitK [10] 0 k t = (rl [] [] t).1 ++ [(rl [] [] t).2]
  | 0, t, h => by
    have hn : (10 : UInt8) ∉ t := fun hm => by have := List.count_pos_iff.2 hm; omega
    rw [rl_free t _ _ hn]; rfl
  | k + 1, t, h => by
    unfold Lib.splitK
    rcases Pm.index_one t 10 with ⟨e, hn⟩ | ⟨a, b, e, hs, hn⟩
    · rw [if_pos (by rw [e]; rfl), rl_free t _ _ hn]; rfl
    · subst hs
      have hc : b.count 10 ≤ k := by
        rw [List.count_append, List.count_cons_self] at h; omega
      rw [if_neg (by rw [e]; simp), e, rl_at a b _ _ hn, rl_out b]
      have h2 : (a ++ 10 :: b).drop ((a.length : Int).toNat + [(10 : UInt8)].length) = b := by simp
      rw [h2, splitK_lines k b hc]
      simp
theorem splitK_more : ∀ (k : Nat) (t : T), k < t.count 10 → 10 ∈ (Lib.splitK [10] 0 k t).getLastD []
  | 0, t, h => by
    unfold Lib.splitK
    exact List.count_pos_iff.1 h
  | k + 1, t, h => by
    unfold Lib.splitK
    rcases Pm.index_one t 10 with ⟨e, hn⟩ | ⟨a, b, e, hs, hn⟩
    · rw [List.count_eq_zero_of_not_mem hn] at h; omega
    · subst hs
      have hc : k < b.count 10 := by
        rw [List.count_append, List.count_cons_self, List.count_eq_zero_of_not_mem hn] at h; omega
      rw [if_neg (by rw [e]; simp), e]
      have h2 : (a ++ 10 :: b).drop ((a.length : Int).toNat + [(10 : UInt8)].length) = b := by simp
      rw [h2]
      have ih := splitK_more k b hc
      have hne : Lib.splitK [10] 0 k b ≠ [] := by intro e'; rw [e'] at ih; cases ih
      rw [List.getLastD_eq_getLast?] at ih ⊢
      rw [List.getLast?_cons, List.getLast?_eq_some_getLast hne] at *
      exact ih
def pieces (t : T) : List T := Lib.splitK [10] 0 (min 17 (t.length + 1) - 1) t
theorem pieces_ne (t : T) : pieces t ≠ [] := by
  unfold pieces
  generalize min 17 (t.length + 1) - 1 = k
  cases k with
  | zero => simp [Lib.splitK]
  | succ k => unfold Lib.splitK; split <;> simp
theorem pieces_parse (t : T) : (if (pieces t).getLastD [] ≠ [] ∨ may (pieces t).dropLast = false then ([], 5) else ((pieces t).dropLast, 0)) = parse t := by
  unfold parse
  by_cases h : t.count 10 ≤ min 17 (t.length + 1) - 1
  · have e := splitK_lines _ t h
    have e2 : pieces t = (rl [] [] t).1 ++ [(rl [] [] t).2] := e
    rw [e2, List.dropLast_concat]
    have e3 : ((rl [] [] t).1 ++ [(rl [] [] t).2]).getLastD [] = (rl [] [] t).2 := by rw [List.getLastD_eq_getLast?]; simp
    rw [e3]
  · have hl : (pieces t).getLastD [] ≠ [] := fun e => by
      have := splitK_more _ t (Nat.lt_of_not_le h)
      unfold pieces at e
      rw [e] at this; cases this
    have hcount : t.count 10 ≤ t.length := List.count_le_length
    have hm : may (rl [] [] t).1 = false := by
      cases hm : may (rl [] [] t).1 with
      | false => rfl
      | true =>
        have := may_len hm
        rw [rl_count] at this
        simp at this
        omega
    rw [if_pos (.inl hl), if_pos (.inr hm)]
theorem rl_text : ∀ (s : List T), (∀ x ∈ s, 10 ∉ x) → rl [] [] (text s) = (s, [])
  | [], _ => rfl
  | x :: s, h => by
    have e : text (x :: s) = x ++ 10 :: text s := by simp [text]
    rw [e, rl_at x _ _ _ (h x (List.mem_cons_self ..)), rl_out, rl_text s fun y hy => h y (List.mem_cons_of_mem _ hy)]
    simp
theorem mem_join : ∀ (l : List T) (c : UInt8), c ∈ Pm.join l → c = 47 ∨ ∃ n ∈ l, c ∈ n
  | [], c, h => by simp [Pm.join] at h
  | [n], c, h => .inr ⟨n, by simp, by simpa [Pm.join] using h⟩
  | n :: k :: r, c, h => by
    rw [Pm.join_cons n (by simp), List.mem_append, List.mem_cons] at h
    rcases h with h | h | h
    · exact .inr ⟨n, by simp, h⟩
    · exact .inl h
    · rcases mem_join (k :: r) c h with h' | ⟨m, hm, hc⟩
      · exact .inl h'
      · exact .inr ⟨m, List.mem_cons_of_mem _ hm, hc⟩
theorem isP_line {x : T} (h : Pm.isP x = true) : 10 ∉ x := fun hm => by
  have hne : x ≠ [] := by intro e; rw [e] at hm; cases hm
  have hp := path_of_ok h hne
  rw [← Pm.join_names x] at hm
  rcases mem_join _ _ hm with e | ⟨n, hn, hc⟩
  · exact absurd e (by decide)
  · have hk := Pm.good_nk hp.ok hn
    rcases Pm.nk_cases n with e | e | e
    · exact hk e
    · exact absurd (Pm.plain_mem (Pm.nk_one e).2 hc) (by decide)
    · obtain ⟨_, a, b, rfl, ha, hb⟩ := Pm.nk_two e
      rcases List.mem_append.1 hc with hc | hc
      · exact absurd (Pm.plain_mem ha hc) (by decide)
      · rcases List.mem_cons.1 hc with hc | hc
        · exact absurd hc (by decide)
        · exact absurd (Pm.plain_mem hb hc) (by decide)
theorem parse_text {s : List T} (h : may s = true) : parse (text s) = (s, 0) := by
  unfold parse
  rw [rl_text s fun x hx => isP_line (fault_isP (may_iff.1 h).1 x hx), if_neg (by rw [h]; simp)]
theorem texts_may {s : List T} (h : may s = true) : texts s = (text s, 0) := by unfold texts; rw [if_neg (by rw [h]; simp)]
end Sm
end Go.Proofs.YtbcmgcallidneaaGreatDoor
