/- Proved: plain arithmetic of records of fields as bytes (stage 4): a number's bytes and a field's are prefix codes; records are read back; cuts; fields put one by one. No program is named. -/
import Derived.WalkKit
namespace Fi
/- a number's bytes: seven bits a byte, the lowest first -/
def varint (n : Nat) : List Nat := if n < 128 then [n] else (128 + n % 128) :: varint (n / 128)
theorem varint_small {n : Nat} (h : n < 128) : varint n = [n] := by rw [varint, if_pos h]
theorem varint_large {n : Nat} (h : ¬ n < 128) : varint n = (128 + n % 128) :: varint (n / 128) := by rw [varint, if_neg h]
theorem varint_ne (n : Nat) : varint n ≠ [] := by
  by_cases h : n < 128
  · rw [varint_small h]; simp
  · rw [varint_large h]; simp
theorem varint_lt (n : Nat) : ∀ x ∈ varint n, x < 256 := by
  induction n using Nat.strongRecOn with
  | ind n ih =>
    by_cases h : n < 128
    · rw [varint_small h]
      intro x hx
      have := List.mem_singleton.1 hx; omega
    · rw [varint_large h]
      intro x hx
      rcases List.mem_cons.1 hx with rfl | hx
      · omega
      · exact ih (n / 128) (by omega) x hx
theorem varint_length (k n : Nat) (h : n < 128 ^ (k + 1)) : (varint n).length ≤ k + 1 := by
  induction k generalizing n with
  | zero => rw [varint_small (by simpa using h)]; simp
  | succ k ih =>
    by_cases h1 : n < 128
    · rw [varint_small h1]; simp
    · rw [varint_large h1, List.length_cons]
      have : n / 128 < 128 ^ (k + 1) := by
        rw [Nat.div_lt_iff_lt_mul (by omega), ← Nat.pow_succ]; exact h
      have := ih _ this; omega
theorem varint_inj (n : Nat) : ∀ (m : Nat) (r r' : List Nat), varint n ++ r = varint m ++ r' → n = m ∧ r = r' := by
  induction n using Nat.strongRecOn with
  | ind n ih =>
    intro m r r' e
    by_cases h : n < 128
    · by_cases h' : m < 128
      · rw [varint_small h, varint_small h'] at e
        have e := List.cons.inj e
        exact ⟨e.1, by simpa using e.2⟩
      · rw [varint_small h, varint_large h'] at e
        have e := (List.cons.inj e).1
        omega
    · by_cases h' : m < 128
      · rw [varint_large h, varint_small h'] at e
        have e := (List.cons.inj e).1
        omega
      · rw [varint_large h, varint_large h'] at e
        have e := List.cons.inj e
        obtain ⟨h1, h2⟩ := ih (n / 128) (by omega) (m / 128) r r' e.2
        exact ⟨by have := e.1; omega, h2⟩
/- how a number is read -/
def unv : List Nat → Option (Nat × List Nat)
  | [] => none
  | b :: r => if b < 128 then some (b, r) else match unv r with
    | none => none
    | some (q, r') => if q = 0 then none else some (b - 128 + 128 * q, r')
theorem unv_varint (n : Nat) : ∀ r, unv (varint n ++ r) = some (n, r) := by
  induction n using Nat.strongRecOn with
  | ind n ih =>
    intro r
    by_cases h : n < 128
    · rw [varint_small h]; simp [unv, h]
    · rw [varint_large h, List.cons_append, unv, if_neg (by omega), ih (n / 128) (by omega) r]
      have h0 : ¬ n / 128 = 0 := by omega
      simp only [h0, if_false]
      congr 2
      omega
theorem unv_some : ∀ (s : List Nat) (n : Nat) (r : List Nat), (∀ x ∈ s, x < 256) → unv s = some (n, r) → s = varint n ++ r
  | [], _, _, _, h => by cases h
  | b :: t, n, r, h8, h => by
    unfold unv at h
    by_cases hb : b < 128
    · rw [if_pos hb] at h
      cases h
      rw [varint_small hb]; rfl
    · rw [if_neg hb] at h
      cases hu : unv t with
      | none => rw [hu] at h; cases h
      | some p =>
        obtain ⟨q, r'⟩ := p
        rw [hu] at h
        by_cases hq : q = 0
        · simp [hq] at h
        · simp only [hq, if_false] at h
          have hb8 := h8 b List.mem_cons_self
          cases h
          have e := unv_some t q r (fun x hx => h8 x (List.mem_cons_of_mem _ hx)) hu
          rw [varint_large (by omega), List.cons_append, show (b - 128 + 128 * q) / 128 = q by omega, ← e]
          congr 1
          omega
theorem unv_iff {s : List Nat} (h8 : ∀ x ∈ s, x < 256) (n : Nat) (r : List Nat) : unv s = some (n, r) ↔ s = varint n ++ r :=
  ⟨unv_some s n r h8, fun e => by rw [e]; exact unv_varint n r⟩
/- a field -/
structure Fd where
  tag : Nat
  kind : Nat
  n : Nat
  s : List Nat
structure Ok (f : Fd) : Prop where
  tag1 : 1 ≤ f.tag
  tag63 : f.tag ≤ 63
  kind : f.kind ≤ 1
  num : f.n ≤ 4611686018427387904
  text0 : f.kind = 0 → f.s = []
  num0 : f.kind = 1 → f.n = 0
  len : f.s.length ≤ 4096
  byte : ∀ x ∈ f.s, x < 256
def fb (f : Fd) : List Nat := (2 * f.tag + f.kind) :: (if f.kind = 0 then varint f.n else varint f.s.length ++ f.s)
theorem fb_two {f : Fd} : 2 ≤ (fb f).length := by
  unfold fb
  rw [List.length_cons]
  have h : ∀ n, 1 ≤ (varint n).length := fun n => by
    have := varint_ne n
    cases h : varint n with
    | nil => exact absurd h this
    | cons a r => simp
  split
  · have := h f.n; omega
  · have := h f.s.length
    rw [List.length_append]; omega
theorem fb_lt {f : Fd} (h : Ok f) : ∀ x ∈ fb f, x < 256 := by
  intro x hx
  unfold fb at hx
  rcases List.mem_cons.1 hx with rfl | hx
  · have := h.tag63; have := h.kind; omega
  · split at hx
    · exact varint_lt _ x hx
    · rcases List.mem_append.1 hx with hx | hx
      · exact varint_lt _ x hx
      · exact h.byte x hx
theorem fb_inj {f g : Fd} {r r' : List Nat} (hf : Ok f) (hg : Ok g) (e : fb f ++ r = fb g ++ r') : f = g ∧ r = r' := by
  have h1 := hf.kind
  have h2 := hg.kind
  obtain ⟨ft, fk, fn, fs⟩ := f
  obtain ⟨gt, gk, gn, gs⟩ := g
  unfold fb at e
  simp only at h1 h2
  rw [List.cons_append, List.cons_append] at e
  obtain ⟨e1, e2⟩ := List.cons.inj e
  simp only at e1 e2
  have hk : fk = gk := by omega
  have ht : ft = gt := by omega
  subst hk
  subst ht
  by_cases h0 : fk = 0
  · rw [if_pos h0, if_pos h0] at e2
    obtain ⟨e3, e4⟩ := varint_inj _ _ _ _ e2
    have a := hf.text0 h0
    have b := hg.text0 h0
    simp only at a b
    subst a
    subst b
    subst e3
    exact ⟨rfl, e4⟩
  · rw [if_neg h0, if_neg h0, List.append_assoc, List.append_assoc] at e2
    obtain ⟨e3, e4⟩ := varint_inj _ _ _ _ e2
    obtain ⟨e5, e6⟩ := List.append_inj e4 e3
    have a := hf.num0 (show fk = 1 by omega)
    have b := hg.num0 (show fk = 1 by omega)
    simp only at a b
    subst a
    subst b
    subst e5
    exact ⟨rfl, e6⟩
def enc (l : List Fd) : List Nat := l.flatMap fb
theorem enc_cons (f : Fd) (l : List Fd) : enc (f :: l) = fb f ++ enc l := by simp [enc]
theorem enc_append (a b : List Fd) : enc (a ++ b) = enc a ++ enc b := by simp [enc]
theorem enc_nil_iff (l : List Fd) : enc l = [] ↔ l = [] := by
  cases l with
  | nil => simp [enc]
  | cons f l =>
    rw [enc_cons]
    have := @fb_two f
    constructor
    · intro h
      have h1 := congrArg List.length h
      rw [List.length_append, List.length_nil] at h1
      omega
    · intro h; cases h
theorem enc_inj : ∀ (l m : List Fd), (∀ f ∈ l, Ok f) → (∀ f ∈ m, Ok f) → enc l = enc m → l = m
  | [], m, _, _, e => ((enc_nil_iff m).1 e.symm).symm
  | f :: l, [], _, _, e => (enc_nil_iff _).1 e
  | f :: l, g :: m, hl, hm, e => by
    rw [enc_cons, enc_cons] at e
    obtain ⟨e1, e2⟩ := fb_inj (hl f List.mem_cons_self) (hm g List.mem_cons_self) e
    rw [e1, enc_inj l m (fun x hx => hl x (List.mem_cons_of_mem _ hx)) (fun x hx => hm x (List.mem_cons_of_mem _ hx)) e2]
/- cut within the last field: nobody's bytes -/
theorem cut_none {f : Fd} (hf : Ok f) (k : Nat) (h0 : 0 < k) (hk : k < (fb f).length) : ∀ (a m : List Fd), (∀ x ∈ a, Ok x) → (∀ x ∈ m, Ok x) → enc m ≠ enc a ++ (fb f).take k
  | [], [], _, _ => by
    intro e
    have := congrArg List.length e
    simp [enc] at this
    omega
  | [], g :: m, _, hm => by
    intro e
    rw [enc_cons] at e
    have e1 : fb g ++ (enc m ++ (fb f).drop k) = fb f ++ [] := by
      rw [← List.append_assoc, e]; simp [enc]
    obtain ⟨_, e2⟩ := fb_inj (hm g List.mem_cons_self) hf e1
    have := congrArg List.length e2
    simp at this
    omega
  | b :: a, [], ha, _ => by
    intro e
    rw [enc_cons] at e
    have := congrArg List.length e
    have := @fb_two b
    simp [enc] at *
    omega
  | b :: a, g :: m, ha, hm => by
    intro e
    rw [enc_cons, enc_cons, List.append_assoc] at e
    obtain ⟨_, e2⟩ := fb_inj (hm g List.mem_cons_self) (ha b List.mem_cons_self) e
    exact cut_none hf k h0 hk a m (fun x hx => ha x (List.mem_cons_of_mem _ hx)) (fun x hx => hm x (List.mem_cons_of_mem _ hx)) e2
/- tags that do not fall -/
def Up : List Fd → Prop
  | [] => True
  | [_] => True
  | f :: g :: l => f.tag ≤ g.tag ∧ Up (g :: l)
/- a field put behind those whose tags are not above its own -/
def put : List Fd → Fd → List Fd
  | [], f => [f]
  | g :: l, f => if f.tag < g.tag then f :: g :: l else g :: put l f
theorem put_length : ∀ (l : List Fd) (f : Fd), (put l f).length = l.length + 1
  | [], _ => rfl
  | g :: l, f => by
    unfold put
    split
    · simp
    · simp [put_length l f]
theorem put_mem : ∀ (l : List Fd) (f x : Fd), x ∈ put l f ↔ x = f ∨ x ∈ l
  | [], f, x => by simp [put]
  | g :: l, f, x => by
    unfold put
    split
    · simp
    · rw [List.mem_cons, put_mem l f x, List.mem_cons]
      constructor
      · rintro (h | h | h)
        · exact .inr (.inl h)
        · exact .inl h
        · exact .inr (.inr h)
      · rintro (h | h | h)
        · exact .inr (.inl h)
        · exact .inl h
        · exact .inr (.inr h)
theorem put_head (g f : Fd) (l : List Fd) (h : ¬ f.tag < g.tag) : ∃ y t, put l f = y :: t ∧ ((∀ z ∈ l.head?, g.tag ≤ z.tag) → g.tag ≤ y.tag) := by
  cases l with
  | nil => exact ⟨f, [], rfl, fun _ => by omega⟩
  | cons z l =>
    unfold put
    split
    · exact ⟨f, z :: l, rfl, fun _ => by omega⟩
    · exact ⟨z, put l f, rfl, fun hz => hz z (by simp)⟩
theorem put_up : ∀ (l : List Fd) (f : Fd), Up l → Up (put l f)
  | [], _, _ => trivial
  | g :: l, f, h => by
    unfold put
    split
    · rename_i hlt
      exact ⟨by omega, h⟩
    · rename_i hlt
      have hl : Up l := by
        cases l with
        | nil => trivial
        | cons z l => exact h.2
      have ih := put_up l f hl
      obtain ⟨y, t, e, hy⟩ := put_head g f l hlt
      rw [e] at ih ⊢
      refine ⟨hy fun z hz => ?_, ih⟩
      cases l with
      | nil => cases hz
      | cons z' l =>
        have : z' = z := by simpa using hz
        subst this
        exact h.1
/- of the fields of one tag the new one stands last -/
theorem up_le {g : Fd} : ∀ (l : List Fd), Up (g :: l) → ∀ x ∈ l, g.tag ≤ x.tag
  | [], _, x, hx => by cases hx
  | z :: l, h, x, hx => by
    rcases List.mem_cons.1 hx with rfl | hx
    · exact h.1
    · have := up_le (g := z) l h.2 x hx
      have := h.1
      omega
theorem put_texts (p : Fd → Bool) (f : Fd) (hp : ∀ x, p x = true → x.tag = f.tag) : ∀ (l : List Fd), Up l → (put l f).filter p = l.filter p ++ (if p f then [f] else [])
  | [], _ => by
    by_cases h : p f = true <;> simp [put, h]
  | g :: l, h => by
    have hl : Up l := by
      cases l with
      | nil => trivial
      | cons z l => exact h.2
    unfold put
    split
    · rename_i hlt
      have none : (g :: l).filter p = [] := by
        rw [List.filter_eq_nil_iff]
        intro x hx hpx
        have := hp x hpx
        rcases List.mem_cons.1 hx with rfl | hx
        · omega
        · have := up_le l h x hx; omega
      rw [List.filter_cons, none]
      by_cases hf : p f = true <;> simp [hf]
    · rw [List.filter_cons, put_texts p f hp l hl, List.filter_cons]
      by_cases hg : p g = true <;> simp [hg]
/- two records, one behind the other -/
theorem up_append : ∀ (a b : List Fd) (x y : Fd), Up (a ++ [x]) → Up (y :: b) → (Up ((a ++ [x]) ++ (y :: b)) ↔ x.tag ≤ y.tag)
  | [], b, x, y, _, hb => by
    simp only [List.nil_append, List.singleton_append]
    exact ⟨fun h => h.1, fun h => ⟨h, hb⟩⟩
  | [z], b, x, y, ha, hb => by
    show Up (z :: x :: y :: b) ↔ _
    exact ⟨fun h => h.2.1, fun h => ⟨ha.1, h, hb⟩⟩
  | z :: w :: a, b, x, y, ha, hb => by
    have ih := up_append (w :: a) b x y ha.2 hb
    show Up (z :: w :: (a ++ [x] ++ (y :: b))) ↔ _
    exact ⟨fun h => ih.1 h.2, fun h => ⟨ha.1, ih.2 h⟩⟩
end Fi
