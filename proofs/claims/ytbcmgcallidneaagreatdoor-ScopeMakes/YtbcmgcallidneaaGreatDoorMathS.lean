/- Proved: the mathematics of scopes: what lies in a list of directories, which of a list lie in no other one, in their order; no program in it. -/
import Derived.Test.YtbcmgcallidneaaGreatDoorMathO
namespace Go.Proofs.YtbcmgcallidneaaGreatDoor
namespace Sm
abbrev T := Pm.T
def lies (d p : T) : Bool := p == d || Pm.below d p
def has (s : List T) (p : T) : Bool := Pm.isP p && s.any (lies · p)
def covers (a b : List T) : Bool := b.all (has a)
def dirErr (p : T) : Nat := if (Pm.kind p).2 ≠ 0 then (Pm.kind p).2 else if (Pm.kind p).1 = 2 then 13 else 0
def fault : List T → Nat
  | [] => 0
  | p :: r => if dirErr p ≠ 0 then dirErr p else fault r
def ins (x : T) : List T → List T
  | [] => [x]
  | y :: r => if Pm.cmp x y < 0 then x :: y :: r else if x = y then y :: r else y :: ins x r
def outer (l : List T) : List T := (l.filter fun x => l.all fun y => !Pm.below y x).foldr ins []
def makes (l : List T) : List T × Nat := if fault l ≠ 0 then ([], fault l) else if 16 < (outer l).length then ([], 7) else (outer l, 0)
def may (l : List T) : Bool := (makes l).2 == 0 && (makes l).1 == l
def union (a b : List T) : List T × Nat := if may a = false ∨ may b = false then ([], 2) else makes (a ++ b)
def meet (a b : List T) : List T := if may a = false ∨ may b = false then [] else outer (b.filter (has a) ++ a.filter (has b))
def text (s : List T) : T := s.flatMap (· ++ [10])
def Rising (l : List T) : Prop := l.Pairwise fun a b => Pm.cmp a b < 0
def Free (l : List T) (x : T) : Prop := ∀ y ∈ l, Pm.below y x = false

theorem cmp_lt_of_le_ne {a b : T} (h : Pm.cmp a b ≤ 0) (hn : a ≠ b) : Pm.cmp a b < 0 := by
  rcases cmp_range a b with e | e | e
  · omega
  · exact absurd ((cmp_zero a b).1 e) hn
  · omega
theorem cmp_self (a : T) : Pm.cmp a a = 0 := (cmp_zero a a).2 rfl
theorem lt_le {a b c : T} (h : Pm.cmp a b < 0) (k : Pm.cmp b c ≤ 0) : Pm.cmp a c < 0 := by
  refine cmp_lt_of_le_ne (cmp_trans a b c (by omega) k) fun e => ?_
  subst e
  rw [cmp_anti] at k
  omega
theorem le_lt {a b c : T} (h : Pm.cmp a b ≤ 0) (k : Pm.cmp b c < 0) : Pm.cmp a c < 0 := by
  refine cmp_lt_of_le_ne (cmp_trans a b c h (by omega)) fun e => ?_
  subst e
  rw [cmp_anti] at k
  omega
theorem lt_trans' {a b c : T} (h : Pm.cmp a b < 0) (k : Pm.cmp b c < 0) : Pm.cmp a c < 0 := lt_le h (by omega)
theorem lt_irrefl {a : T} (h : Pm.cmp a a < 0) : False := by rw [cmp_self] at h; omega
theorem lt_asymm {a b : T} (h : Pm.cmp a b < 0) (k : Pm.cmp b a < 0) : False := lt_irrefl (lt_trans' h k)
theorem below_irrefl (a : T) : Pm.below a a = false := by
  cases h : Pm.below a a with
  | false => rfl
  | true => have := below_less h; rw [cmp_self] at this; omega
theorem below_trans {a b c : T} (h : Pm.below a b = true) (k : Pm.below b c = true) : Pm.below a c = true := by
  rw [below_iff] at h k ⊢
  refine ⟨k.1, ?_⟩
  rcases h.2 with h0 | ⟨r, hr⟩
  · exact .inl h0
  · rcases k.2 with k0 | ⟨q, hq⟩
    · subst k0; cases a <;> simp at hr
    · exact .inr ⟨r ++ 47 :: q, by rw [hq, hr]; simp⟩
theorem below_isP {a b : T} (h : Pm.below a b = true) : Pm.isP b = true := (Pm.isP_iff b).2 (.inr ((below_iff a b).1 h).1)
theorem below_shorter {a b : T} (h : Pm.below a b = true) : a.length < b.length := by
  obtain ⟨hp, h0 | ⟨r, hr⟩⟩ := (below_iff a b).1 h
  · subst h0
    cases b with
    | nil => rw [below_irrefl] at h; cases h
    | cons c b => simp
  · rw [hr]; simp

theorem mem_ins {x z : T} : ∀ {l : List T}, z ∈ ins x l ↔ z = x ∨ z ∈ l
  | [] => by simp [ins]
  | y :: r => by
    unfold ins
    split
    · simp
    · split
      · rename_i h; subst h; simp
      · rw [List.mem_cons, mem_ins (l := r), List.mem_cons]
        constructor
        · rintro (h | h | h)
          · exact .inr (.inl h)
          · exact .inl h
          · exact .inr (.inr h)
        · rintro (h | h | h)
          · exact .inr (.inl h)
          · exact .inl h
          · exact .inr (.inr h)
theorem rising_ins {x : T} : ∀ {l : List T}, Rising l → Rising (ins x l)
  | [], _ => by unfold ins; exact List.pairwise_singleton ..
  | y :: r, h => by
    obtain ⟨h1, h2⟩ := List.pairwise_cons.1 h
    unfold ins
    split
    · rename_i hx
      refine List.pairwise_cons.2 ⟨fun z hz => ?_, h⟩
      rcases List.mem_cons.1 hz with e | hz
      · subst e; exact hx
      · exact lt_trans' hx (h1 z hz)
    · split
      · exact h
      · rename_i hx hn
        refine List.pairwise_cons.2 ⟨fun z hz => ?_, rising_ins h2⟩
        rcases mem_ins.1 hz with e | hz
        · subst e
          have : Pm.cmp y z ≤ 0 := by rw [cmp_anti]; omega
          exact cmp_lt_of_le_ne this fun e => hn e.symm
        · exact h1 z hz
theorem rising_ext : ∀ {a b : List T}, Rising a → Rising b → (∀ x, x ∈ a ↔ x ∈ b) → a = b
  | [], [], _, _, _ => rfl
  | [], y :: b, _, _, h => by have := (h y).2 (List.mem_cons_self ..); cases this
  | x :: a, [], _, _, h => by have := (h x).1 (List.mem_cons_self ..); cases this
  | x :: a, y :: b, ha, hb, h => by
    obtain ⟨a1, a2⟩ := List.pairwise_cons.1 ha
    obtain ⟨b1, b2⟩ := List.pairwise_cons.1 hb
    have e : x = y := by
      rcases List.mem_cons.1 ((h x).1 (List.mem_cons_self ..)) with e | hx
      · exact e
      · rcases List.mem_cons.1 ((h y).2 (List.mem_cons_self ..)) with e | hy
        · exact e.symm
        · exact (lt_asymm (b1 x hx) (a1 y hy)).elim
    subst e
    rw [rising_ext a2 b2 fun z => ⟨fun hz => ?_, fun hz => ?_⟩]
    · rcases List.mem_cons.1 ((h z).1 (List.mem_cons_of_mem _ hz)) with e | hz'
      · subst e; exact (lt_irrefl (a1 z hz)).elim
      · exact hz'
    · rcases List.mem_cons.1 ((h z).2 (List.mem_cons_of_mem _ hz)) with e | hz'
      · subst e; exact (lt_irrefl (b1 z hz)).elim
      · exact hz'
theorem foldr_ins (l : List T) : Rising (l.foldr ins []) ∧ ∀ x, x ∈ l.foldr ins [] ↔ x ∈ l := by
  induction l with
  | nil => exact ⟨List.Pairwise.nil, fun x => Iff.rfl⟩
  | cons y l ih => exact ⟨rising_ins ih.1, fun x => by rw [List.foldr_cons, mem_ins, ih.2, List.mem_cons]⟩
theorem outer_rising (l : List T) : Rising (outer l) := (foldr_ins _).1
theorem mem_outer {l : List T} {x : T} : x ∈ outer l ↔ x ∈ l ∧ Free l x := by
  unfold outer
  rw [(foldr_ins _).2, List.mem_filter, List.all_eq_true]
  simp [Free]
theorem eq_outer {l s : List T} (h : Rising s) (hm : ∀ x, x ∈ s ↔ x ∈ l ∧ Free l x) : s = outer l :=
  rising_ext h (outer_rising l) fun x => by rw [hm, mem_outer]
theorem outer_congr {a b : List T} (h : ∀ x, x ∈ a ↔ x ∈ b) : outer a = outer b :=
  eq_outer (outer_rising a) fun x => by rw [mem_outer, h]; exact and_congr_right fun _ => ⟨fun k y hy => k y ((h y).2 hy), fun k y hy => k y ((h y).1 hy)⟩
theorem lies_iff {d p : T} : lies d p = true ↔ p = d ∨ Pm.below d p = true := by simp [lies]
theorem lies_refl (p : T) : lies p p = true := lies_iff.2 (.inl rfl)
theorem lies_trans {a b c : T} (h : lies a b = true) (k : lies b c = true) : lies a c = true := by
  rw [lies_iff] at *
  rcases h with rfl | h
  · exact k
  · rcases k with rfl | k
    · exact .inr h
    · exact .inr (below_trans h k)
theorem lies_le {d p : T} (h : lies d p = true) : Pm.cmp d p ≤ 0 := by
  rcases lies_iff.1 h with rfl | h
  · rw [cmp_self]; omega
  · rw [below_less h]; omega
/- what is in a list lies in one that lies in no other one -/
theorem outer_cover {l : List T} : ∀ (n : Nat) {x : T}, x.length ≤ n → x ∈ l → ∃ k ∈ outer l, lies k x = true
  | n, x, hn, hx => by
    by_cases hf : Free l x
    · exact ⟨x, mem_outer.2 ⟨hx, hf⟩, lies_refl x⟩
    · have : ∃ y ∈ l, Pm.below y x = true := by
        apply Classical.byContradiction
        intro hh
        refine hf fun y hy => ?_
        cases hb : Pm.below y x with
        | false => rfl
        | true => exact (hh ⟨y, hy, hb⟩).elim
      obtain ⟨y, hy, hb⟩ := this
      have hs := below_shorter hb
      cases n with
      | zero => omega
      | succ n =>
        obtain ⟨k, hk, hl⟩ := outer_cover n (x := y) (by omega) hy
        exact ⟨k, hk, lies_trans hl (lies_iff.2 (.inr hb))⟩
theorem cover {l : List T} {x : T} (hx : x ∈ l) : ∃ k ∈ outer l, lies k x = true := outer_cover _ (Nat.le_refl _) hx
theorem has_iff {s : List T} {p : T} : has s p = true ↔ Pm.isP p = true ∧ ∃ d ∈ s, lies d p = true := by simp [has]
theorem has_congr {a b : List T} {p : T} (h : (∃ d ∈ a, lies d p = true) ↔ ∃ d ∈ b, lies d p = true) : has a p = has b p := by
  rw [Bool.eq_iff_iff, has_iff, has_iff, h]
theorem has_outer (l : List T) (p : T) : has (outer l) p = has l p := has_congr
  ⟨fun ⟨d, hd, h⟩ => ⟨d, (mem_outer.1 hd).1, h⟩, fun ⟨d, hd, h⟩ => by
    obtain ⟨k, hk, hl⟩ := cover hd
    exact ⟨k, hk, lies_trans hl h⟩⟩
theorem outer_outer (l : List T) : outer (outer l) = outer l := (eq_outer (outer_rising l) fun _ => ⟨fun h => ⟨h, fun y hy => (mem_outer.1 h).2 y (mem_outer.1 hy).1⟩, fun h => h.1⟩).symm

/- the program's way: of a sorted list each that does not lie in the last one left -/
def keep (kp : List T) : List T → List T
  | [] => kp
  | p :: r => keep (if kp = [] ∨ lies (kp.getLastD []) p = false then kp ++ [p] else kp) r
theorem last_mem {k : List T} (h : k ≠ []) : k.getLastD [] ∈ k := by
  rw [List.getLastD_eq_getLast?, List.getLast?_eq_some_getLast h]; exact List.getLast_mem h
theorem rising_last {k : List T} (h : Rising k) {x : T} (hx : x ∈ k) : x = k.getLastD [] ∨ Pm.cmp x (k.getLastD []) < 0 := by
  induction k with
  | nil => cases hx
  | cons y k ih =>
    obtain ⟨h1, h2⟩ := List.pairwise_cons.1 h
    cases k with
    | nil => left; simpa using hx
    | cons z k =>
      have e : (y :: z :: k).getLastD [] = (z :: k).getLastD [] := rfl
      rw [e]
      rcases List.mem_cons.1 hx with e' | hx
      · subst e'; right; exact h1 _ (last_mem (by simp))
      · exact ih h2 hx
theorem outer_snoc {pre : List T} {p : T} (hP : ∀ x ∈ pre, Pm.isP x = true) (hle : ∀ x ∈ pre, Pm.cmp x p ≤ 0) :
    outer (pre ++ [p]) = if outer pre = [] ∨ lies ((outer pre).getLastD []) p = false then outer pre ++ [p] else outer pre := by
  have old : ∀ x ∈ pre, Pm.below p x = false := fun x hx => by
    cases hb : Pm.below p x with
    | false => rfl
    | true => have := below_less hb; have := hle x hx; rw [cmp_anti] at this; omega
  have cond : ∀ x, Free (pre ++ [p]) x ↔ Free pre x ∧ Pm.below p x = false := fun x =>
    ⟨fun h => ⟨fun y hy => h y (by simp [hy]), h p (by simp)⟩, fun h y hy => by
      rcases List.mem_append.1 hy with hy | hy
      · exact h.1 y hy
      · rw [List.mem_singleton] at hy; subst hy; exact h.2⟩
  split
  · rename_i hc
    have free : Free pre p := fun y hy => by
      cases hb : Pm.below y p with
      | false => rfl
      | true =>
        obtain ⟨k, hk, hl⟩ := cover hy
        have hne : outer pre ≠ [] := by intro e; rw [e] at hk; cases hk
        have hnl : lies ((outer pre).getLastD []) p = false := hc.resolve_left hne
        have hkp : Pm.below k p = true := by
          rcases lies_iff.1 hl with rfl | hb'
          · exact hb
          · exact below_trans hb' hb
        have hm := last_mem hne
        rcases rising_last (outer_rising pre) hk with e | hlt
        · rw [← e, lies_iff.2 (.inr hkp)] at hnl; cases hnl
        · have hlp : Pm.cmp ((outer pre).getLastD []) p < 0 := by
            refine cmp_lt_of_le_ne (hle _ (mem_outer.1 hm).1) fun e => ?_
            rw [e, lies_refl] at hnl; cases hnl
          have := below_between hkp hlt hlp (hP _ (mem_outer.1 hm).1)
          rw [(mem_outer.1 hm).2 k (mem_outer.1 hk).1] at this; cases this
    refine (eq_outer ?_ fun x => ?_).symm
    · refine List.pairwise_append.2 ⟨outer_rising pre, List.pairwise_singleton .., fun a ha b hb => ?_⟩
      rw [List.mem_singleton] at hb; subst hb
      have hne : outer pre ≠ [] := by intro e; rw [e] at ha; cases ha
      have hnl := hc.resolve_left hne
      have hlp : Pm.cmp ((outer pre).getLastD []) b < 0 := by
        refine cmp_lt_of_le_ne (hle _ (mem_outer.1 (last_mem hne)).1) fun e => ?_
        rw [e, lies_refl] at hnl; cases hnl
      rcases rising_last (outer_rising pre) ha with e | hlt
      · rw [e]; exact hlp
      · exact lt_trans' hlt hlp
    · rw [List.mem_append, List.mem_singleton, mem_outer, List.mem_append, List.mem_singleton, cond]
      constructor
      · rintro (⟨h1, h2⟩ | rfl)
        · exact ⟨.inl h1, h2, old x h1⟩
        · exact ⟨.inr rfl, free, below_irrefl _⟩
      · rintro ⟨h1 | rfl, h2, h3⟩
        · exact .inl ⟨h1, h2⟩
        · exact .inr rfl
  · rename_i hc
    rw [not_or] at hc
    have hl : lies ((outer pre).getLastD []) p = true := by simpa using hc.2
    have hm := last_mem hc.1
    refine (eq_outer (outer_rising pre) fun x => ?_).symm
    rw [mem_outer, List.mem_append, List.mem_singleton, cond]
    constructor
    · rintro ⟨h1, h2⟩
      exact ⟨.inl h1, h2, old x h1⟩
    · rintro ⟨h1 | rfl, h2, h3⟩
      · exact ⟨h1, h2⟩
      · rcases lies_iff.1 hl with e | hb
        · rw [e]; exact mem_outer.1 hm
        · rw [h2 _ (mem_outer.1 hm).1] at hb; cases hb
theorem keep_outer : ∀ (r pre : List T), (∀ x ∈ pre ++ r, Pm.isP x = true) → (pre ++ r).Pairwise (fun a b => Pm.cmp a b ≤ 0) → keep (outer pre) r = outer (pre ++ r)
  | [], pre, _, _ => by simp [keep]
  | p :: r, pre, hP, hs => by
    rw [keep, ← outer_snoc (fun x hx => hP x (by simp [hx])) (fun x hx => (List.pairwise_append.1 hs).2.2 x hx p (List.mem_cons_self ..))]
    have e : pre ++ p :: r = (pre ++ [p]) ++ r := by simp
    rw [e] at hP hs ⊢
    exact keep_outer r (pre ++ [p]) hP hs
theorem keep_nil (l : List T) (hP : ∀ x ∈ l, Pm.isP x = true) (hs : l.Pairwise fun a b => Pm.cmp a b ≤ 0) : keep [] l = outer l := keep_outer l [] hP hs

/- the document's way: the least one that is left, again and again -/
def pickStep (out : List T) (b : Option T) (x : T) : Option T := if has out x then b else match b with
  | none => some x
  | some y => if Pm.cmp x y < 0 then some x else some y
def pick (out l : List T) : Option T := l.foldl (pickStep out) none
theorem pick_spec (out : List T) (l : List T) : (pick out l = none → ∀ x ∈ l, has out x = true) ∧ (∀ y, pick out l = some y → y ∈ l ∧ has out y = false ∧ ∀ x ∈ l, has out x = false → Pm.cmp y x ≤ 0) := by
  suffices h : ∀ (r pre : List T) (b : Option T), ((b = none → ∀ x ∈ pre, has out x = true) ∧ (∀ y, b = some y → y ∈ pre ∧ has out y = false ∧ ∀ x ∈ pre, has out x = false → Pm.cmp y x ≤ 0)) →
      ((r.foldl (pickStep out) b = none → ∀ x ∈ pre ++ r, has out x = true) ∧ (∀ y, r.foldl (pickStep out) b = some y → y ∈ pre ++ r ∧ has out y = false ∧ ∀ x ∈ pre ++ r, has out x = false → Pm.cmp y x ≤ 0)) by
    have := h l [] none ⟨fun _ x hx => (by cases hx), fun y hy => (by cases hy)⟩
    exact this
  intro r
  induction r with
  | nil => intro pre b h; simpa using h
  | cons p r ih =>
    intro pre b h
    have e : pre ++ p :: r = (pre ++ [p]) ++ r := by simp
    rw [e, List.foldl_cons]
    apply ih
    unfold pickStep
    by_cases hp : has out p = true
    · rw [if_pos hp]
      refine ⟨fun hb x hx => ?_, fun y hy => ⟨by simp [(h.2 y hy).1], (h.2 y hy).2.1, fun x hx hx' => ?_⟩⟩
      · rcases List.mem_append.1 hx with hx | hx
        · exact h.1 hb x hx
        · rw [List.mem_singleton] at hx; subst hx; exact hp
      · rcases List.mem_append.1 hx with hx | hx
        · exact (h.2 y hy).2.2 x hx hx'
        · rw [List.mem_singleton] at hx; subst hx; rw [hp] at hx'; cases hx'
    · rw [if_neg hp]
      have hp' : has out p = false := by simpa using hp
      cases b with
      | none =>
        refine ⟨fun hb => (by cases hb), fun y hy => ?_⟩
        cases hy
        refine ⟨by simp, hp', fun x hx hx' => ?_⟩
        rcases List.mem_append.1 hx with hx | hx
        · rw [h.1 rfl x hx] at hx'; cases hx'
        · rw [List.mem_singleton] at hx; subst hx; rw [cmp_self]; omega
      | some z =>
        obtain ⟨hz, hzf, hzl⟩ := h.2 z rfl
        show ((if Pm.cmp p z < 0 then some p else some z) = none → _) ∧ _
        by_cases hc : Pm.cmp p z < 0
        · simp only [if_pos hc]
          refine ⟨fun hb => (by cases hb), fun y hy => ?_⟩
          cases hy
          refine ⟨by simp, hp', fun x hx hx' => ?_⟩
          rcases List.mem_append.1 hx with hx | hx
          · exact cmp_trans _ _ _ (by omega) (hzl x hx hx')
          · rw [List.mem_singleton] at hx; subst hx; rw [cmp_self]; omega
        · simp only [if_neg hc]
          refine ⟨fun hb => (by cases hb), fun y hy => ?_⟩
          cases hy
          refine ⟨by simp [hz], hzf, fun x hx hx' => ?_⟩
          rcases List.mem_append.1 hx with hx | hx
          · exact hzl x hx hx'
          · rw [List.mem_singleton] at hx; subst hx; rw [cmp_anti]; omega
theorem pick_outer {l : List T} (hP : ∀ x ∈ l, Pm.isP x = true) (k : Nat) : pick ((outer l).take k) l = (outer l)[k]? := by
  obtain ⟨h1, h2⟩ := pick_spec ((outer l).take k) l
  have hR := outer_rising l
  by_cases hk : k < (outer l).length
  · rw [List.getElem?_eq_getElem hk]
    have hmem : (outer l)[k] ∈ outer l := List.getElem_mem hk
    have hnot : has ((outer l).take k) (outer l)[k] = false := by
      cases hh : has ((outer l).take k) (outer l)[k] with
      | false => rfl
      | true =>
        obtain ⟨_, d, hd, hl⟩ := has_iff.1 hh
        obtain ⟨j, hj, rfl⟩ := List.mem_iff_getElem.1 hd
        rw [List.getElem_take] at hl
        have hj' : j < k := by rw [List.length_take] at hj; omega
        have hlt := List.pairwise_iff_getElem.1 hR j k (by omega) hk hj'
        rcases lies_iff.1 hl with e | hb
        · rw [e] at hlt; exact (lt_irrefl hlt).elim
        · rw [(mem_outer.1 hmem).2 _ (mem_outer.1 (List.getElem_mem (by omega))).1] at hb; cases hb
    cases hp : pick ((outer l).take k) l with
    | none => rw [h1 hp _ (mem_outer.1 hmem).1] at hnot; cases hnot
    | some y =>
      obtain ⟨hy, hyn, hyl⟩ := h2 y hp
      have a1 := hyl _ (mem_outer.1 hmem).1 hnot
      obtain ⟨m, hm, hml⟩ := cover hy
      obtain ⟨i, hi, rfl⟩ := List.mem_iff_getElem.1 hm
      have hik : ¬ i < k := fun hlt => by
        have : has ((outer l).take k) y = true := has_iff.2 ⟨hP y hy, (outer l)[i], List.mem_iff_getElem.2 ⟨i, by rw [List.length_take]; omega, List.getElem_take ..⟩, hml⟩
        rw [hyn] at this; cases this
      have a2 : Pm.cmp (outer l)[k] (outer l)[i] ≤ 0 := by
        by_cases e : k = i
        · subst e; rw [cmp_self]; omega
        · have := List.pairwise_iff_getElem.1 hR k i hk hi (by omega); omega
      have a3 := cmp_trans _ _ _ a2 (lies_le hml)
      have : Pm.cmp y (outer l)[k] = 0 := by rw [cmp_anti] at a3; omega
      rw [(cmp_zero _ _).1 this]
  · rw [List.getElem?_eq_none (by omega)]
    cases hp : pick ((outer l).take k) l with
    | none => rfl
    | some y =>
      obtain ⟨hy, hyn, _⟩ := h2 y hp
      rw [List.take_of_length_le (by omega)] at hyn
      obtain ⟨m, hm, hml⟩ := cover hy
      have : has (outer l) y = true := has_iff.2 ⟨hP y hy, m, hm, hml⟩
      rw [hyn] at this; cases this
end Sm
end Go.Proofs.YtbcmgcallidneaaGreatDoor
