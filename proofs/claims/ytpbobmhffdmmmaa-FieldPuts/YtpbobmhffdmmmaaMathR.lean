/- Proved: plain arithmetic of reading: what seven bits a byte come to. No program is named. -/
import Derived.Test.YtpbobmhffdmmmaaMath
namespace Fi
def val : List Nat → Nat
  | [] => 0
  | b :: r => b % 128 + 128 * val r
theorem val_append : ∀ (p q : List Nat), val (p ++ q) = val p + 128 ^ p.length * val q
  | [], q => by simp [val]
  | b :: p, q => by
    rw [List.cons_append, val, val, val_append p q, List.length_cons, Nat.pow_succ]
    rw [Nat.mul_add, Nat.add_assoc, Nat.mul_comm (128 ^ p.length) 128, Nat.mul_assoc]
theorem val_lt : ∀ (p : List Nat), val p < 128 ^ p.length
  | [] => by simp [val]
  | b :: p => by
    have := val_lt p
    rw [val, List.length_cons, Nat.pow_succ]
    have : b % 128 < 128 := Nat.mod_lt _ (by omega)
    omega
/- bytes that go on, then one that does not, and is not needless: just the bytes of what they come to -/
theorem varint_val : ∀ (p : List Nat) (b : Nat), (∀ x ∈ p, 128 ≤ x ∧ x < 256) → b < 128 → (p = [] ∨ b ≠ 0) → varint (val (p ++ [b])) = p ++ [b]
  | [], b, _, hb, _ => by
    rw [List.nil_append, val, val, Nat.mul_zero, Nat.add_zero, Nat.mod_eq_of_lt hb, varint_small hb]
  | c :: p, b, hp, hb, h => by
    have hb0 : b ≠ 0 := by rcases h with h | h; cases h; exact h
    have ih := varint_val p b (fun x hx => hp x (List.mem_cons_of_mem _ hx)) hb (.inr hb0)
    have hc := hp c List.mem_cons_self
    have hpos : 0 < val (p ++ [b]) := by
      rw [val_append]
      have h1 : val [b] = b := by rw [val, val, Nat.mul_zero, Nat.add_zero, Nat.mod_eq_of_lt hb]
      rw [h1]
      have : 0 < 128 ^ p.length * b := Nat.mul_pos (Nat.pow_pos (by omega)) (by omega)
      omega
    rw [List.cons_append, val]
    generalize val (p ++ [b]) = q at *
    rw [varint_large (by omega), show (c % 128 + 128 * q) / 128 = q by omega, ih]
    congr 1
    omega
/- how the bytes of a number end -/
theorem varint_ends (n : Nat) : ∃ p b, varint n = p ++ [b] ∧ (∀ x ∈ p, 128 ≤ x) ∧ b < 128 ∧ (p = [] ∨ b ≠ 0) := by
  induction n using Nat.strongRecOn with
  | ind n ih =>
    by_cases h : n < 128
    · exact ⟨[], n, by rw [varint_small h]; rfl, by simp, h, .inl rfl⟩
    · obtain ⟨p, b, e, h1, h2, h3⟩ := ih (n / 128) (by omega)
      refine ⟨(128 + n % 128) :: p, b, by rw [varint_large h, e]; rfl, ?_, h2, .inr ?_⟩
      · intro x hx
        rcases List.mem_cons.1 hx with rfl | hx
        · omega
        · exact h1 x hx
      · rcases h3 with rfl | h3
        · have : (n / 128) = b := by
            by_cases h4 : n / 128 < 128
            · rw [varint_small h4] at e; simpa using e
            · rw [varint_large h4] at e
              have e2 := congrArg List.length e
              have := varint_ne (n / 128 / 128)
              cases h5 : varint (n / 128 / 128) with
              | nil => exact absurd h5 this
              | cons a r => rw [h5] at e2; simp at e2
          omega
        · exact h3
/- two ways to cut the same bytes at the first one that does not go on -/
theorem cut_same : ∀ (p q : List Nat) (b c : Nat) (r t : List Nat), (∀ x ∈ p, 128 ≤ x) → b < 128 → (∀ x ∈ q, 128 ≤ x) → c < 128 → p ++ b :: r = q ++ c :: t → p = q ∧ b = c ∧ r = t
  | [], [], b, c, r, t, _, _, _, _, e => by
    have e := List.cons.inj e
    exact ⟨rfl, e.1, e.2⟩
  | [], d :: q, b, c, r, t, _, hb, hq, _, e => by
    have e := List.cons.inj e
    have := hq d List.mem_cons_self
    omega
  | a :: p, [], b, c, r, t, hp, _, _, hc, e => by
    have e := List.cons.inj e
    have := hp a List.mem_cons_self
    omega
  | a :: p, d :: q, b, c, r, t, hp, hb, hq, hc, e => by
    have e := List.cons.inj e
    obtain ⟨h1, h2, h3⟩ := cut_same p q b c r t (fun x hx => hp x (List.mem_cons_of_mem _ hx)) hb (fun x hx => hq x (List.mem_cons_of_mem _ hx)) hc e.2
    exact ⟨by rw [e.1, h1], h2, h3⟩
/- what a reader of at most nine bytes finds at the front -/
def Num (bs : List Nat) (n : Nat) (rest : List Nat) : Prop := bs = varint n ++ rest ∧ n ≤ 4611686018427387904
theorem num_yes {p : List Nat} {b : Nat} {r : List Nat} (hp : ∀ x ∈ p, 128 ≤ x ∧ x < 256) (hb : b < 128) (h0 : p = [] ∨ b ≠ 0) (hn : val (p ++ [b]) ≤ 4611686018427387904) : Num (p ++ b :: r) (val (p ++ [b])) r :=
  ⟨by rw [varint_val p b hp hb h0, List.append_assoc]; rfl, hn⟩
theorem num_big {p : List Nat} {b : Nat} {r : List Nat} (hp : ∀ x ∈ p, 128 ≤ x ∧ x < 256) (hb : b < 128) (h0 : p = [] ∨ b ≠ 0) (hn : ¬ val (p ++ [b]) ≤ 4611686018427387904) : ∀ n t, ¬ Num (p ++ b :: r) n t := fun n t h => by
  have e : varint (val (p ++ [b])) ++ r = varint n ++ t := by rw [varint_val p b hp hb h0, List.append_assoc]; exact h.1
  have := (varint_inj _ _ _ _ e).1
  rw [this] at hn
  exact hn h.2
theorem num_needless {p : List Nat} {r : List Nat} (hp : ∀ x ∈ p, 128 ≤ x) (h0 : p ≠ []) : ∀ n t, ¬ Num (p ++ 0 :: r) n t := fun n t h => by
  obtain ⟨q, c, e, h1, h2, h3⟩ := varint_ends n
  have e2 : p ++ 0 :: r = q ++ c :: t := by rw [h.1, e, List.append_assoc]; rfl
  obtain ⟨h4, h5, _⟩ := cut_same p q 0 c r t hp (by omega) h1 h2 e2
  rcases h3 with h3 | h3
  · exact h0 (h4.trans h3)
  · exact h3 h5.symm
theorem num_none {bs : List Nat} (k : Nat) (hk : k = min bs.length 9) (h : ∀ x ∈ bs.take k, 128 ≤ x) : ∀ n t, ¬ Num bs n t := fun n t hN => by
  obtain ⟨q, c, e, h1, h2, h3⟩ := varint_ends n
  have hl : (varint n).length ≤ 9 := varint_length 8 n (by have := hN.2; have : (128 : Nat) ^ (8 + 1) = 9223372036854775808 := by decide
                                                           omega)
  have hbs : bs = q ++ c :: t := by rw [hN.1, e, List.append_assoc]; rfl
  have hq : q.length < 9 := by
    have := congrArg List.length e
    simp at this
    omega
  have hq2 : q.length < bs.length := by rw [hbs]; simp
  have hm : c ∈ bs.take k := by
    rw [List.mem_take_iff_getElem]
    refine ⟨q.length, by omega, ?_⟩
    simp [hbs]
  have := h c hm
  omega
end Fi
