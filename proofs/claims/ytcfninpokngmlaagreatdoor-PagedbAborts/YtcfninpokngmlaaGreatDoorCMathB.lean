/- Proved: plain facts on changed bits: one bit turned turns the sum by a shift of 1, up to 32 bits side by side turn it by a shift of these bits, and no shift of anything but 0 is 0. No program in it. -/
import Derived.Test.YtcfninpokngmlaaGreatDoorCMath
namespace Crc
def flip (bs : List Nat) (p : Nat) : List Nat := bs.set (p / 8) (bs.getD (p / 8) 0 ^^^ 2 ^ (p % 8))
def burst (bs : List Nat) (k c : Nat) : Nat → List Nat
  | 0 => bs
  | i + 1 => if c / 2 ^ i % 2 = 1 then flip (burst bs k c i) (k + i) else burst bs k c i
def chg (c i : Nat) : Bool := c % 2 ^ i != 0
theorem flip_length (bs : List Nat) (p : Nat) : (flip bs p).length = bs.length := by simp [flip]
theorem burst_length (bs : List Nat) (k c i : Nat) : (burst bs k c i).length = bs.length := by
  induction i with
  | zero => rfl
  | succ i ih => unfold burst; split <;> simp [flip_length, ih]
theorem xor_lt8 {a b : Nat} (ha : a < 256) (hb : b < 256) : a ^^^ b < 256 := Nat.xor_lt_two_pow (n := 8) ha hb
theorem bit8 (p : Nat) : 2 ^ (p % 8) < 256 := by
  have : p % 8 < 8 := by omega
  exact Nat.pow_lt_pow_right (a := 2) (n := 8) (by omega) this
theorem getD_lt8 {bs : List Nat} (h : ∀ x ∈ bs, x < 256) (i : Nat) : bs.getD i 0 < 256 := by
  rw [List.getD_eq_getElem?_getD]
  by_cases hi : i < bs.length
  · rw [List.getElem?_eq_getElem hi]; exact h _ (List.getElem_mem hi)
  · rw [List.getElem?_eq_none (by omega)]; decide
theorem flip_lt {bs : List Nat} (h : ∀ x ∈ bs, x < 256) (p : Nat) : ∀ x ∈ flip bs p, x < 256 := by
  intro x hx
  rcases List.mem_or_eq_of_mem_set hx with h' | h'
  · exact h x h'
  · rw [h']; exact xor_lt8 (getD_lt8 h _) (bit8 p)
theorem burst_lt {bs : List Nat} (h : ∀ x ∈ bs, x < 256) (k c i : Nat) : ∀ x ∈ burst bs k c i, x < 256 := by
  induction i with
  | zero => exact h
  | succ i ih =>
    unfold burst; split
    · exact flip_lt ih _
    · exact ih
theorem steps_one (b n : Nat) (h : b ≤ n) : steps n (2 ^ b) = steps (n - b) 1 := by
  have e : n = b + (n - b) := by omega
  conv => lhs; rw [e]
  rw [steps_add]
  have := steps_pow b 1
  rw [Nat.mul_one] at this
  rw [this]
theorem fold_set (r : Nat) (bs : List Nat) (q d : Nat) (hq : q < bs.length) : fold r (bs.set q (bs.getD q 0 ^^^ d)) = fold r bs ^^^ pw (bs.length - q - 1) (tk 0 d) := by
  induction bs generalizing r q with
  | nil => simp at hq
  | cons y ys ih =>
    have e : ∀ s z (zs : List Nat), fold s (z :: zs) = fold (tk s z) zs := fun _ _ _ => rfl
    cases q with
    | zero =>
      have g : (y :: ys).getD 0 0 = y := rfl
      rw [g, List.set_cons_zero, e, e, fold_lin (tk r (y ^^^ d)), fold_lin (tk r y)]
      have l : tk r (y ^^^ d) = tk r y ^^^ tk 0 d := by
        rw [tk_eq, tk_eq, tk_eq]; unfold rtk; rw [← Nat.xor_assoc, steps_xor, Nat.zero_xor]
      rw [l, pw_xor]
      have z : (y :: ys).length - 0 - 1 = ys.length := by simp
      rw [z, Nat.xor_assoc, Nat.xor_assoc, Nat.xor_comm (fold 0 ys)]
    | succ q =>
      have g : (y :: ys).getD (q + 1) 0 = ys.getD q 0 := by simp [List.getD]
      rw [g, List.set_cons_succ, e, e, ih _ q (by simpa using hq)]
      have z : (y :: ys).length - (q + 1) - 1 = ys.length - q - 1 := by simp
      rw [z]
theorem fold_flip (r : Nat) (bs : List Nat) (p : Nat) (hp : p < 8 * bs.length) : fold r (flip bs p) = fold r bs ^^^ steps (8 * bs.length - p) 1 := by
  unfold flip
  rw [fold_set r bs (p / 8) _ (by omega), pw_eq]
  have t : tk 0 (2 ^ (p % 8)) = steps 8 (2 ^ (p % 8)) := by rw [tk_eq]; unfold rtk; rw [Nat.zero_xor]
  rw [t, ← steps_add, steps_one (p % 8) _ (by omega)]
  have z : 8 + 8 * (bs.length - p / 8 - 1) - p % 8 = 8 * bs.length - p := by omega
  rw [z]
theorem mod_step (c i : Nat) : c % 2 ^ (i + 1) = if c / 2 ^ i % 2 = 1 then c % 2 ^ i ^^^ 2 ^ i else c % 2 ^ i := by
  rw [Nat.mod_pow_succ]
  rcases Nat.mod_two_eq_zero_or_one (c / 2 ^ i) with h | h <;> rw [h]
  · simp
  · have hl : c % 2 ^ i < 2 ^ i := Nat.mod_lt _ (Nat.two_pow_pos i)
    have e := xor_add i 1 (c % 2 ^ i) hl
    rw [Nat.mul_one] at e
    rw [if_pos rfl, Nat.mul_one, Nat.add_comm, ← e, Nat.xor_comm]
theorem fold_burst (r : Nat) (bs : List Nat) (k c i : Nat) (h : k + i ≤ 8 * bs.length) : fold r (burst bs k c i) = fold r bs ^^^ steps (8 * bs.length - k) (c % 2 ^ i) := by
  induction i with
  | zero => simp [burst, Nat.mod_one, steps_zero]
  | succ i ih =>
    unfold burst
    rw [mod_step]
    split
    · rw [fold_flip _ _ _ (by rw [burst_length]; omega), ih (by omega), burst_length, steps_xor, steps_one i _ (by omega), Nat.xor_assoc]
      have z : 8 * bs.length - (k + i) = 8 * bs.length - k - i := by omega
      rw [z]
    · exact ih (by omega)
theorem bit_inj {x : Nat} (h : x < 4294967296) (e : bit x = 0) : x = 0 := by
  unfold bit at e
  split at e
  · have : x / 2 = 2197175160 := by
      have h1 : (x / 2 ^^^ 2197175160) ^^^ 2197175160 = 0 ^^^ 2197175160 := by rw [e]
      rwa [xor_cancel, Nat.zero_xor] at h1
    omega
  · omega
theorem steps_inj (n : Nat) {x : Nat} (h : x < 4294967296) (e : steps n x = 0) : x = 0 := by
  induction n generalizing x with
  | zero => exact e
  | succ n ih => exact bit_inj h (ih (bit_lt h) e)
theorem xor_eq_self (a b : Nat) (h : a ^^^ b = a) : b = 0 := by
  have : a ^^^ (a ^^^ b) = a ^^^ a := by rw [h]
  rwa [← Nat.xor_assoc, Nat.xor_self, Nat.zero_xor] at this
theorem sum_burst (bs : List Nat) (k c i : Nat) (h : k + i ≤ 8 * bs.length) (hc : c < 4294967296) : (sum (burst bs k c i) != sum bs) = chg c i := by
  unfold sum upd chg
  rw [fold_burst _ _ _ _ _ h]
  generalize hn : 8 * bs.length - k = n
  have hm : c % 2 ^ i < 4294967296 := Nat.lt_of_le_of_lt (Nat.mod_le _ _) hc
  generalize c % 2 ^ i = x at *
  generalize fold (turn 0) bs = f
  by_cases hx : x = 0
  · subst hx; simp [steps_zero]
  · have hs : steps n x ≠ 0 := fun e => hx (steps_inj n hm e)
    have h1 : (turn (f ^^^ steps n x) != turn f) = true := by
      rw [bne_iff_ne]
      intro e
      have e2 : turn (turn (f ^^^ steps n x)) = turn (turn f) := by rw [e]
      unfold turn at e2
      rw [xor_cancel, xor_cancel] at e2
      exact hs (xor_eq_self _ _ e2)
    rw [h1]; simp [hx]
theorem chg_succ (c i : Nat) : chg c (i + 1) = if c / 2 ^ i % 2 = 1 then true else chg c i := by
  unfold chg
  rw [mod_step]
  split
  · have hl : c % 2 ^ i < 2 ^ i := Nat.mod_lt _ (Nat.two_pow_pos i)
    rw [bne_iff_ne]
    intro e
    have e2 : (c % 2 ^ i ^^^ 2 ^ i) ^^^ 2 ^ i = 0 ^^^ 2 ^ i := by rw [e]
    rw [xor_cancel, Nat.zero_xor] at e2
    omega
  · rfl
end Crc
