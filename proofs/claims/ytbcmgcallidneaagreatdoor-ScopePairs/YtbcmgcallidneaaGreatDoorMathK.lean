/- Proved: paths, their kinds, directories and order, by plain lists of bytes. No program, no world. -/
import Derived.Test.YtbcmgcallidneaaGreatDoorMath
namespace Go.Proofs.YtbcmgcallidneaaGreatDoor
namespace Pm
def sign (b : UInt8) : Bool := (decide (97 ≤ b.toNat) && decide (b.toNat ≤ 122)) || (decide (48 ≤ b.toNat) && decide (b.toNat ≤ 57)) || decide (b.toNat = 95) || decide (b.toNat = 45) || decide (b.toNat = 126)
def plain (l : T) : Bool := l.all sign && !l.isEmpty
def head (l : T) : T := (Lib.cut l [46]).1
def tail (l : T) : T := (Lib.cut l [46]).2.1
def parted (l : T) : Bool := (Lib.cut l [46]).2.2
def nk (l : T) : Nat := if 24 < l.length then 0 else if plain (head l) = false then 0 else if parted l = false then 1 else if plain (tail l) = false then 0 else 2
/- its directories' names, and its last one -/
def good (l : List T) : Bool := l.dropLast.all (nk · == 1) && nk (l.getLastD []) != 0
def kind (p : T) : Nat × Nat :=
  if 96 < p.length then (0, 3) else if p = [] then (1, 0) else if good (names p) = false then (0, 18) else if 8 < (names p).length then (0, 7) else (nk ((names p).getLastD []), 0)
def isP (p : T) : Bool := (kind p).2 == 0
def checked (p : T) : T × Nat := if (kind p).2 = 0 then (p, 0) else ([], (kind p).2)
/- names, the ones that are . and .. taken away -/
def walk : List T → List T → Option (List T)
  | [], st => some st
  | n :: r, st => if n = [] ∨ n = [46] then walk r st else if n = [46, 46] then (if st = [] then none else walk r st.dropLast) else walk r (st ++ [n])
def clean (s : T) : T × Nat := if 4096 < s.length then ([], 3) else match walk (names s) [] with
  | none => ([], 18)
  | some l => checked (join l)
def parent (p : T) : Option T := if p = [] ∨ isP p = false then none else some (join (names p).dropLast)
def last (p : T) : T := if isP p then (names p).getLastD [] else []
def split (p : T) : List T := if p = [] ∨ isP p = false then [] else names p
def upsAt (l : List T) : Nat → List T
  | 0 => []
  | k + 1 => join (l.take k) :: upsAt l k
def ups (p : T) : List T := upsAt (split p) (split p).length
def below (dir p : T) : Bool := (ups p).contains dir
def rank (b : UInt8) : Int := if b = 47 then -1 else (b.toNat : Int)
def cmp : T → T → Int
  | [], [] => 0
  | [], _ :: _ => -1
  | _ :: _, [] => 1
  | a :: r, b :: t => if a = b then cmp r t else Lib.compareInt (rank a) (rank b)
def chain (p n : T) : T := if p = [] ∨ n = [] then p ++ n else p ++ 47 :: n
def joined (dir n : T) : T × Nat := if (kind dir).2 ≠ 0 then ([], (kind dir).2) else if (kind dir).1 = 2 then ([], 13) else if n = [] ∨ 47 ∈ n then ([], 18) else checked (chain dir n)
def copyOf (p : T) (n : Nat) : T := head p ++ 126 :: Lib.decDigits n ++ 46 :: tail p
def copy (p : T) (n : Int) : T × Nat := if (kind p).1 = 2 ∧ 1 ≤ n ∧ n ≤ 999 then checked (copyOf p n.toNat) else ([], 2)
/- ---- parted at the first . ---- -/
theorem cut_free {l : T} (h : 46 ∉ l) : Lib.cut l [46] = (l, [], false) := by
  rcases index_one l 46 with ⟨e, _⟩ | ⟨a, b, _, rfl, _⟩
  · rw [Lib.cut, e]; rfl
  · exact absurd (by simp) h
theorem cut_at {a b : T} (h : 46 ∉ a) : Lib.cut (a ++ 46 :: b) [46] = (a, b, true) := by
  rcases index_one (a ++ 46 :: b) 46 with ⟨_, hn⟩ | ⟨a', b', e, he, hn⟩
  · exact absurd (by simp) hn
  · have hl : a.length = a'.length := by
      have h1 : ∀ {x y : T} {u v : T}, x ++ (46 : UInt8) :: u = y ++ 46 :: v → (46 : UInt8) ∉ x → (46 : UInt8) ∉ y → x.length = y.length := by
        intro x
        induction x with
        | nil =>
          intro y u v hxy _ hy
          cases y with
          | nil => rfl
          | cons c y => simp at hxy; exact absurd (by rw [← hxy.1]; simp) hy
        | cons c x ih =>
          intro y u v hxy hx hy
          cases y with
          | nil => simp at hxy; exact absurd (by rw [hxy.1]; simp) hx
          | cons d y =>
            simp only [List.cons_append, List.cons.injEq] at hxy
            simp only [List.length_cons, Nat.add_right_cancel_iff]
            exact ih hxy.2 (fun h => hx (List.mem_cons_of_mem _ h)) (fun h => hy (List.mem_cons_of_mem _ h))
      exact h1 he h hn
    have h2 : Lib.index (a ++ 46 :: b) [46] = (a.length : Int) := by rw [e, hl]
    rw [Lib.cut, h2, if_pos (by omega)]
    simp [List.drop_append]
theorem cut_cases (l : T) : (46 ∉ l ∧ head l = l ∧ tail l = [] ∧ parted l = false) ∨ (∃ a b, l = a ++ 46 :: b ∧ 46 ∉ a ∧ head l = a ∧ tail l = b ∧ parted l = true) := by
  rcases index_one l 46 with ⟨_, hn⟩ | ⟨a, b, _, rfl, hn⟩
  · exact .inl ⟨hn, by rw [head, cut_free hn], by rw [tail, cut_free hn], by rw [parted, cut_free hn]⟩
  · exact .inr ⟨a, b, rfl, hn, by rw [head, cut_at hn], by rw [tail, cut_at hn], by rw [parted, cut_at hn]⟩
theorem sign_dot : sign 46 = false := by decide
theorem sign_slash : sign 47 = false := by decide
theorem plain_mem {l : T} (h : plain l = true) {b : UInt8} (hb : b ∈ l) : sign b = true := by
  simp only [plain, Bool.and_eq_true, List.all_eq_true] at h
  exact h.1 b hb
theorem plain_ne {l : T} (h : plain l = true) : l ≠ [] := by
  rintro rfl
  simp [plain] at h
theorem plain_free {l : T} (h : plain l = true) : 46 ∉ l := fun hm => by
  have := plain_mem h hm
  rw [sign_dot] at this; cases this
theorem plain_noslash {l : T} (h : plain l = true) : 47 ∉ l := fun hm => by
  have := plain_mem h hm
  rw [sign_slash] at this; cases this
/- a directory's name, a file's name -/
theorem nk_one {l : T} (h : nk l = 1) : l.length ≤ 24 ∧ plain l = true := by
  unfold nk at h
  split at h
  · cases h
  · split at h
    · cases h
    · rename_i h1 h2
      rcases cut_cases l with ⟨_, e, _, _⟩ | ⟨a, b, rfl, _, _, _, hp⟩
      · rw [e] at h2; exact ⟨by omega, by simpa using h2⟩
      · rw [hp] at h
        split at h
        · rename_i h3; cases h3
        · split at h <;> cases h
theorem nk_two {l : T} (h : nk l = 2) : l.length ≤ 24 ∧ ∃ a b, l = a ++ 46 :: b ∧ plain a = true ∧ plain b = true := by
  unfold nk at h
  split at h
  · cases h
  · split at h
    · cases h
    · split at h
      · cases h
      · split at h
        · cases h
        · rename_i h1 h2 h3 h4
          rcases cut_cases l with ⟨_, _, _, e⟩ | ⟨a, b, rfl, _, ea, eb, hp⟩
          · exact absurd e h3
          · rw [ea] at h2; rw [eb] at h4
            exact ⟨by omega, a, b, rfl, by simpa using h2, by simpa using h4⟩
theorem nk_of_plain {l : T} (h : plain l = true) (hl : l.length ≤ 24) : nk l = 1 := by
  rcases cut_cases l with ⟨_, e, _, e'⟩ | ⟨a, b, rfl, _, _, _, _⟩
  · unfold nk; rw [if_neg (by omega), e, if_neg (by simp [h]), if_pos e']
  · exact absurd (by simp) (plain_free h)
theorem nk_of_two {a b : T} (ha : plain a = true) (hb : plain b = true) (hl : (a ++ 46 :: b).length ≤ 24) : nk (a ++ 46 :: b) = 2 := by
  unfold nk head parted tail
  rw [cut_at (plain_free ha), if_neg (by omega), if_neg (by simp [ha]), if_neg (by simp), if_neg (by simp [hb])]
theorem nk_cases (l : T) : nk l = 0 ∨ nk l = 1 ∨ nk l = 2 := by
  unfold nk
  (repeat' split) <;> simp
theorem nk_ne_nil {l : T} (h : nk l ≠ 0) : l ≠ [] := by
  rintro rfl
  exact h (by decide)
theorem nk_free {l : T} (h : nk l ≠ 0) : 47 ∉ l := by
  rcases nk_cases l with e | e | e
  · exact absurd e h
  · exact plain_noslash (nk_one e).2
  · obtain ⟨_, a, b, rfl, ha, hb⟩ := nk_two e
    simp only [List.mem_append, List.mem_cons, not_or]
    exact ⟨plain_noslash ha, by decide, plain_noslash hb⟩
theorem nk_dots {l : T} (h : nk l ≠ 0) : l ≠ [] ∧ l ≠ [46] ∧ l ≠ [46, 46] := by
  refine ⟨nk_ne_nil h, ?_, ?_⟩
  · rintro rfl; exact h (by decide)
  · rintro rfl; exact h (by decide)
/- ---- paths ---- -/
theorem kind_root : kind [] = (1, 0) := by decide
theorem isP_root : isP [] = true := by decide
theorem kind_le (p : T) : (kind p).1 ≤ 2 := by
  unfold kind
  have := nk_cases ((names p).getLastD [])
  (repeat' split) <;> first | decide | (show nk _ ≤ 2; omega)
structure Path (p : T) : Prop where
  ne : p ≠ []
  len : p.length ≤ 96
  deep : (names p).length ≤ 8
  ok : good (names p) = true
theorem isP_iff (p : T) : isP p = true ↔ p = [] ∨ Path p := by
  unfold isP
  constructor
  · intro h
    by_cases hp : p = []
    · exact .inl hp
    · unfold kind at h
      split at h
      · simp at h
      · split at h
        · simp at h
        · split at h
          · simp at h
          · exact .inr ⟨hp, by omega, by omega, by simp_all⟩
  · rintro (rfl | h)
    · decide
    · unfold kind
      rw [if_neg (by have := h.len; omega), if_neg h.ne, if_neg (by rw [h.ok]; decide), if_neg (by have := h.deep; omega)]
      rfl
theorem kind_of_path {p : T} (h : Path p) : kind p = (nk ((names p).getLastD []), 0) := by
  unfold kind
  rw [if_neg (by have := h.len; omega), if_neg h.ne, if_neg (by rw [h.ok]; decide), if_neg (by have := h.deep; omega)]
theorem not_isP {p : T} (h : isP p = false) : (kind p).1 = 0 ∧ (kind p).2 ≠ 0 := by
  have h2 : (kind p).2 ≠ 0 := by unfold isP at h; simpa using h
  refine ⟨?_, h2⟩
  unfold kind at h2 ⊢
  (repeat' split) <;> simp_all
theorem good_last {l : List T} (h : good l = true) : nk (l.getLastD []) ≠ 0 := by
  simp only [good, Bool.and_eq_true, bne_iff_ne] at h
  exact h.2
theorem good_dir {l : List T} (h : good l = true) {n : T} (hn : n ∈ l.dropLast) : nk n = 1 := by
  simp only [good, Bool.and_eq_true, List.all_eq_true, beq_iff_eq] at h
  exact h.1 n hn
theorem mem_last {l : List T} {n : T} (hn : n ∈ l) : n ∈ l.dropLast ∨ n = l.getLastD [] := by
  have hne : l ≠ [] := List.ne_nil_of_mem hn
  rw [← List.dropLast_concat_getLast hne] at hn
  rcases List.mem_append.1 hn with h | h
  · exact .inl h
  · rw [List.mem_singleton] at h
    refine .inr ?_
    rw [h, List.getLastD_eq_getLast?, List.getLast?_eq_some_getLast hne]; rfl
theorem good_nk {l : List T} (h : good l = true) {n : T} (hn : n ∈ l) : nk n ≠ 0 := by
  rcases mem_last hn with h' | h'
  · rw [good_dir h h']; decide
  · rw [h']; exact good_last h
theorem good_dirs {l : List T} (hne : l ≠ []) (h : ∀ n ∈ l, nk n = 1) : good l = true := by
  simp only [good, Bool.and_eq_true, List.all_eq_true, beq_iff_eq, bne_iff_ne]
  refine ⟨fun n hn => h n (List.dropLast_subset l hn), ?_⟩
  rw [List.getLastD_eq_getLast?, List.getLast?_eq_some_getLast hne, Option.getD_some, h _ (List.getLast_mem hne)]
  decide
/- a beginning of a path's names -/
theorem join_take_length (l : List T) (k : Nat) : (join (l.take k)).length ≤ (join l).length := by
  by_cases h : k < l.length
  · by_cases hk : k = 0
    · subst hk; simp [join]
    · have e : l = l.take k ++ l.drop k := (List.take_append_drop k l).symm
      have h1 : l.take k ≠ [] := by intro hh; rw [List.take_eq_nil_iff] at hh; rcases hh with h' | h'; exact hk h'; subst h'; simp at h
      have h2 : l.drop k ≠ [] := by intro hh; rw [List.drop_eq_nil_iff] at hh; omega
      have e2 : (join l).length = (join (l.take k ++ l.drop k)).length := by rw [← e]
      rw [e2, join_append _ _ h1 h2]; simp
  · rw [List.take_of_length_le (by omega)]; omega
theorem path_take {p : T} (h : Path p) {k : Nat} (h0 : 0 < k) (hk : k < (names p).length) : Path (join ((names p).take k)) ∧ names (join ((names p).take k)) = (names p).take k ∧ ∀ n ∈ (names p).take k, nk n = 1 := by
  have hd : ∀ n ∈ (names p).take k, nk n = 1 := fun n hn => good_dir h.ok (by
    rw [List.dropLast_eq_take]
    have : (names p).take k = ((names p).take ((names p).length - 1)).take k := by rw [List.take_take, Nat.min_eq_left (by omega)]
    rw [this] at hn
    exact List.mem_of_mem_take hn)
  have hne : (names p).take k ≠ [] := by intro hh; rw [List.take_eq_nil_iff] at hh; rcases hh with h' | h'; omega; exact names_ne p h'
  have hnm : names (join ((names p).take k)) = (names p).take k := names_join _ hne fun n hn => nk_free (by rw [hd n hn]; decide)
  have hdp := h.deep
  refine ⟨⟨?_, ?_, ?_, ?_⟩, hnm, hd⟩
  · intro hh
    rw [hh] at hnm
    have := hd [] (by rw [← hnm]; simp [names])
    revert this; decide
  · have := join_take_length (names p) k
    rw [join_names] at this
    have := h.len; omega
  · rw [hnm, List.length_take]; omega
  · rw [hnm]; exact good_dirs hne hd
theorem kind_dir {p : T} (h : Path p) (hd : ∀ n ∈ names p, nk n = 1) : kind p = (1, 0) := by
  rw [kind_of_path h, List.getLastD_eq_getLast?, List.getLast?_eq_some_getLast (names_ne p), Option.getD_some, hd _ (List.getLast_mem _)]
theorem split_root : split [] = [] := by simp [split]
theorem split_no {p : T} (h : isP p = false) : split p = [] := by simp [split, h]
theorem split_path {p : T} (h : Path p) : split p = names p := by
  unfold split
  rw [if_neg]
  rintro (h' | h')
  · exact h.ne h'
  · rw [(isP_iff p).2 (.inr h)] at h'; cases h'
theorem parent_root : parent [] = none := by simp [parent]
theorem parent_no {p : T} (h : isP p = false) : parent p = none := by simp [parent, h]
theorem parent_path {p : T} (h : Path p) : parent p = some (join (names p).dropLast) := by
  unfold parent
  rw [if_neg]
  rintro (h' | h')
  · exact h.ne h'
  · rw [(isP_iff p).2 (.inr h)] at h'; cases h'
theorem cases_isP (p : T) : p = [] ∨ isP p = false ∨ Path p := by
  cases h : isP p with
  | false => exact .inr (.inl rfl)
  | true => rcases (isP_iff p).1 h with h' | h'; exact .inl h'; exact .inr (.inr h')
theorem upsAt_take (l : List T) : ∀ (k m : Nat), k ≤ m → upsAt (l.take m) k = upsAt l k
  | 0, _, _ => rfl
  | k + 1, m, h => by
    rw [upsAt, upsAt, upsAt_take l k m (by omega), List.take_take, Nat.min_eq_left (by omega)]
/- the directories: the parent first, then its own -/
theorem ups_none {p : T} (h : parent p = none) : ups p = [] := by
  rcases cases_isP p with rfl | h' | h'
  · simp [ups, split_root, upsAt]
  · simp [ups, split_no h', upsAt]
  · rw [parent_path h'] at h; cases h
theorem ups_some {p q : T} (h : parent p = some q) : ups p = q :: ups q := by
  rcases cases_isP p with rfl | h' | h'
  · rw [parent_root] at h; cases h
  · rw [parent_no h'] at h; cases h
  · rw [parent_path h', Option.some.injEq] at h
    have hl : 0 < (names p).length := List.length_pos_iff.2 (names_ne p)
    unfold ups
    rw [split_path h']
    obtain ⟨m, hm⟩ : ∃ m, (names p).length = m + 1 := ⟨_, (Nat.succ_pred_eq_of_pos hl).symm⟩
    rw [hm, upsAt, ← h, List.dropLast_eq_take, hm, Nat.add_sub_cancel]
    congr 1
    by_cases h0 : m = 0
    · subst h0
      rw [List.take_zero]
      simp [join, split_root, upsAt]
    · obtain ⟨hp, hn, _⟩ := path_take h' (k := m) (by omega) (by omega)
      rw [split_path hp, hn, List.length_take, Nat.min_eq_left (by omega), upsAt_take _ _ _ (Nat.le_refl _)]
theorem parent_shorter {p q : T} (h : parent p = some q) : q.length < p.length := by
  rcases cases_isP p with rfl | h' | h'
  · rw [parent_root] at h; cases h
  · rw [parent_no h'] at h; cases h
  · rw [parent_path h', Option.some.injEq] at h
    subst h
    rcases last_slash p with hn | ⟨a, b, rfl, hn⟩
    · rw [names_free hn]
      have := List.length_pos_iff.2 h'.ne
      simpa [join] using this
    · rw [names_slash, names_free hn, List.dropLast_concat, join_names]; simp
/- as the program finds it: up to the last / -/
theorem parent_cut {p : T} (h : Path p) : (47 ∉ p ∧ parent p = some [] ∧ last p = p) ∨ (∃ a b, p = a ++ 47 :: b ∧ 47 ∉ b ∧ parent p = some a ∧ last p = b) := by
  have hi : isP p = true := (isP_iff p).2 (.inr h)
  rcases last_slash p with hn | ⟨a, b, rfl, hn⟩
  · refine .inl ⟨hn, ?_, ?_⟩
    · rw [parent_path h, names_free hn]; rfl
    · rw [last, if_pos hi, names_free hn]; rfl
  · refine .inr ⟨a, b, rfl, hn, ?_, ?_⟩
    · rw [parent_path h, names_slash, names_free hn, List.dropLast_concat, join_names]
    · rw [last, if_pos hi, names_slash, names_free hn, List.getLastD_concat]
end Pm
end Go.Proofs.YtbcmgcallidneaaGreatDoor
