/- Proved: plain facts on CRC-32C over numbers: four bits by the table are four bits one by one, every step goes bit by bit under exclusive or, and a row of 32 numbers stands for a shift by noughts. No program in it; no condition but ranges below 2^32 where a row says so. -/
namespace Crc
def tab : List Nat := [0, 274646895, 549293790, 820201905, 1098587580, 1361435347, 1640403810, 1905808397, 2197175160, 2460548119, 2722870694, 2987750089, 3280807620, 3553878443, 3811616794, 4084100981]
def nib (i : Nat) : Nat := tab.getD i 0
def half (r : Nat) : Nat := (r / 16) ^^^ nib (r % 16)
def tk (r x : Nat) : Nat := half (half (r ^^^ x))
theorem nib_lt (i : Nat) : nib i < 4294967296 := by
  unfold nib
  by_cases h : i < 16
  · have : ∀ j, j < 16 → tab.getD j 0 < 4294967296 := by decide
    exact this i h
  · have : tab.getD i 0 = 0 := by
      simp [tab, List.getD]
      rw [List.getElem?_eq_none (by simp; omega)]; rfl
    omega
theorem xor_lt {a b : Nat} (ha : a < 4294967296) (hb : b < 4294967296) : a ^^^ b < 4294967296 := Nat.xor_lt_two_pow (n := 32) ha hb
theorem half_lt {r : Nat} (h : r < 4294967296) : half r < 4294967296 := xor_lt (by omega) (nib_lt _)
theorem tk_lt {r x : Nat} (h : r < 4294967296) (hx : x < 256) : tk r x < 4294967296 := half_lt (half_lt (xor_lt h (by omega)))
/- the document's: bit by bit -/
def bit (r : Nat) : Nat := if r % 2 = 1 then r / 2 ^^^ 2197175160 else r / 2
def steps : Nat → Nat → Nat
  | 0, r => r
  | k + 1, r => steps k (bit r)
def rtk (r x : Nat) : Nat := steps 8 (r ^^^ x)
theorem bit_lt {r : Nat} (h : r < 4294967296) : bit r < 4294967296 := by
  unfold bit; split
  · exact xor_lt (by omega) (by omega)
  · omega
theorem steps_succ (k r : Nat) : steps (k + 1) r = bit (steps k r) := by
  induction k generalizing r with
  | zero => rfl
  | succ k ih => rw [steps, ih]; rfl
theorem steps_lt (k : Nat) {r : Nat} (h : r < 4294967296) : steps k r < 4294967296 := by
  induction k generalizing r with
  | zero => exact h
  | succ k ih => exact ih (bit_lt h)
def turn (r : Nat) : Nat := r ^^^ 4294967295
theorem turn_lt {r : Nat} (h : r < 4294967296) : turn r < 4294967296 := xor_lt h (by omega)
def rfold (r : Nat) (bs : List Nat) : Nat := bs.foldl rtk r
def fold (r : Nat) (bs : List Nat) : Nat := bs.foldl tk r
theorem rtk_lt {r x : Nat} (h : r < 4294967296) (hx : x < 256) : rtk r x < 4294967296 := steps_lt 8 (xor_lt h (by omega))
theorem rfold_lt (bs : List Nat) {r : Nat} (h : r < 4294967296) (hb : ∀ x ∈ bs, x < 256) : rfold r bs < 4294967296 := by
  induction bs generalizing r with
  | nil => exact h
  | cons x bs ih => exact ih (rtk_lt h (hb x (by simp))) (fun y hy => hb y (by simp [hy]))
theorem fold_lt (bs : List Nat) {r : Nat} (h : r < 4294967296) (hb : ∀ x ∈ bs, x < 256) : fold r bs < 4294967296 := by
  induction bs generalizing r with
  | nil => exact h
  | cons x bs ih => exact ih (tk_lt h (hb x (by simp))) (fun y hy => hb y (by simp [hy]))
theorem foldl_take {f : Nat → Nat → Nat} (r : Nat) (bs : List Nat) (k : Nat) (h : k < bs.length) : (bs.take (k + 1)).foldl f r = f ((bs.take k).foldl f r) (bs.getD k 0) := by
  rw [List.take_succ_eq_append_getElem h, List.foldl_append, List.getD_eq_getElem?_getD, List.getElem?_eq_getElem h]; rfl
theorem rfold_take (r : Nat) (bs : List Nat) (k : Nat) (h : k < bs.length) : rfold r (bs.take (k + 1)) = rtk (rfold r (bs.take k)) (bs.getD k 0) := foldl_take r bs k h
theorem fold_take (r : Nat) (bs : List Nat) (k : Nat) (h : k < bs.length) : fold r (bs.take (k + 1)) = tk (fold r (bs.take k)) (bs.getD k 0) := foldl_take r bs k h
def upd (s : Nat) (bs : List Nat) : Nat := turn (fold (turn s) bs)
def rupd (s : Nat) (bs : List Nat) : Nat := turn (rfold (turn s) bs)
def sum (bs : List Nat) : Nat := upd 0 bs
def rsum (bs : List Nat) : Nat := rupd 0 bs
/- a change that goes bit by bit: the first k bits of r, each by its row -/
def changeTo (m : Nat → Nat) (r : Nat) : Nat → Nat
  | 0 => 0
  | k + 1 => if r / 2 ^ k % 2 = 1 then changeTo m r k ^^^ m k else changeTo m r k
def change (m : Nat → Nat) (r : Nat) : Nat := changeTo m r 32
theorem changeTo_lt (m : Nat → Nat) (r k : Nat) (hm : ∀ i, i < k → m i < 4294967296) : changeTo m r k < 4294967296 := by
  induction k with
  | zero => exact Nat.zero_lt_succ _
  | succ k ih =>
    unfold changeTo; split
    · exact xor_lt (ih fun i hi => hm i (by omega)) (hm k (by omega))
    · exact ih fun i hi => hm i (by omega)
/- p noughts taken in -/
def pw : Nat → Nat → Nat
  | 0, r => r
  | p + 1, r => pw p (tk r 0)
theorem pw_lt (p : Nat) {r : Nat} (h : r < 4294967296) : pw p r < 4294967296 := by
  induction p generalizing r with
  | zero => exact h
  | succ p ih => exact ih (tk_lt h (by omega))
theorem pw_add (p q r : Nat) : pw (p + q) r = pw q (pw p r) := by
  induction p generalizing r with
  | zero => simp [pw]
  | succ p ih => rw [show p + 1 + q = (p + q) + 1 by omega, pw, ih]; rfl
/- every step goes bit by bit -/
theorem xor_half (a b : Nat) : (a ^^^ b) / 2 = a / 2 ^^^ b / 2 := Nat.xor_div_two_pow (n := 1) ..
theorem xor_add (i a b : Nat) (h : b < 2 ^ i) : 2 ^ i * a ^^^ b = 2 ^ i * a + b := by
  apply Nat.eq_of_testBit_eq
  intro j
  rw [Nat.testBit_xor, Nat.testBit_two_pow_mul_add a h j]
  have e := Nat.testBit_two_pow_mul_add a (b := 0) (Nat.two_pow_pos i) j
  rw [Nat.add_zero] at e
  rw [e]
  split
  · simp
  · rw [Nat.testBit_lt_two_pow (Nat.lt_of_lt_of_le h (Nat.pow_le_pow_right (by omega) (by omega)))]; simp
theorem xor_odd (a b : Nat) : (a ^^^ b) % 2 = (a % 2 + b % 2) % 2 := by
  have := @Nat.xor_mod_two_pow a b 1
  simp only [Nat.pow_one] at this
  rw [this]
  rcases Nat.mod_two_eq_zero_or_one a with h | h <;> rcases Nat.mod_two_eq_zero_or_one b with g | g <;> rw [h, g] <;> rfl
theorem bit_xor (a b : Nat) : bit (a ^^^ b) = bit a ^^^ bit b := by
  unfold bit
  rw [xor_half, xor_odd]
  have comm4 : ∀ x y p : Nat, (x ^^^ p) ^^^ y = (x ^^^ y) ^^^ p := fun x y p => by rw [Nat.xor_assoc, Nat.xor_comm p y, ← Nat.xor_assoc]
  rcases Nat.mod_two_eq_zero_or_one a with h | h <;> rcases Nat.mod_two_eq_zero_or_one b with g | g <;> rw [h, g] <;> simp
  · rw [Nat.xor_assoc]
  · rw [comm4]
  · rw [comm4, Nat.xor_assoc, Nat.xor_assoc, Nat.xor_self, Nat.xor_zero]
theorem steps_xor (k a b : Nat) : steps k (a ^^^ b) = steps k a ^^^ steps k b := by
  induction k generalizing a b with
  | zero => rfl
  | succ k ih => rw [steps, bit_xor, ih]; rfl
theorem steps_add (j k r : Nat) : steps (j + k) r = steps k (steps j r) := by
  induction j generalizing r with
  | zero => simp [steps]
  | succ j ih => rw [show j + 1 + k = (j + k) + 1 by omega, steps, ih]; rfl
theorem bit_two (x : Nat) : bit (2 * x) = x := by unfold bit; rw [if_neg (by omega)]; omega
theorem bit_zero : bit 0 = 0 := rfl
theorem steps_zero (k : Nat) : steps k 0 = 0 := by
  induction k with
  | zero => rfl
  | succ k ih => rw [steps, bit_zero, ih]
theorem steps_pow (k x : Nat) : steps k (2 ^ k * x) = x := by
  induction k generalizing x with
  | zero => simp [steps]
  | succ k ih => rw [steps, show 2 ^ (k + 1) * x = 2 * (2 ^ k * x) by rw [Nat.pow_succ, Nat.mul_comm (2 ^ k) 2, Nat.mul_assoc], bit_two, ih]
theorem nib_eq : ∀ i, i < 16 → nib i = steps 4 i := by decide
theorem half_eq (r : Nat) : half r = steps 4 r := by
  have h : r % 16 < 2 ^ 4 := by omega
  have e : r = 2 ^ 4 * (r / 16) ^^^ r % 16 := by rw [xor_add 4 (r / 16) (r % 16) h]; omega
  unfold half
  rw [nib_eq _ (by omega)]
  conv => rhs; rw [e]
  rw [steps_xor, steps_pow]
theorem tk_eq (r x : Nat) : tk r x = rtk r x := by
  unfold tk rtk; rw [half_eq, half_eq, ← steps_add]
theorem tk0 (r : Nat) : tk r 0 = steps 8 r := by rw [tk_eq]; unfold rtk; rw [Nat.xor_zero]
theorem pw_eq (p r : Nat) : pw p r = steps (8 * p) r := by
  induction p generalizing r with
  | zero => rfl
  | succ p ih => rw [pw, ih, tk0, ← steps_add, show 8 + 8 * p = 8 * (p + 1) by omega]
theorem pw_xor (p a b : Nat) : pw p (a ^^^ b) = pw p a ^^^ pw p b := by rw [pw_eq, pw_eq, pw_eq, steps_xor]
theorem pw_zero (p : Nat) : pw p 0 = 0 := by rw [pw_eq, steps_zero]
theorem changeTo_lin (f : Nat → Nat) (h0 : f 0 = 0) (hx : ∀ a b, f (a ^^^ b) = f a ^^^ f b) (r k : Nat) : changeTo (fun i => f (2 ^ i)) r k = f (r % 2 ^ k) := by
  induction k with
  | zero => simp [changeTo, Nat.mod_one, h0]
  | succ k ih =>
    unfold changeTo
    rw [ih, Nat.mod_pow_succ]
    rcases Nat.mod_two_eq_zero_or_one (r / 2 ^ k) with h | h <;> rw [h]
    · simp
    · have hl : r % 2 ^ k < 2 ^ k := Nat.mod_lt _ (Nat.two_pow_pos k)
      have e := xor_add k 1 (r % 2 ^ k) hl
      rw [Nat.mul_one] at e
      rw [if_pos rfl, Nat.mul_one, Nat.add_comm, ← e, hx, Nat.xor_comm]
theorem change_pw (p r : Nat) (h : r < 4294967296) : change (fun i => pw p (2 ^ i)) r = pw p r := by
  unfold change
  rw [changeTo_lin (pw p) (pw_zero p) (pw_xor p), Nat.mod_eq_of_lt h]
/- the sum of what lies one behind the other -/
theorem tk_lin (r x : Nat) : tk r x = tk r 0 ^^^ tk 0 x := by
  rw [tk_eq, tk_eq, tk_eq]; unfold rtk; rw [Nat.xor_zero, Nat.zero_xor, steps_xor]
theorem fold_lin (r : Nat) (ys : List Nat) : fold r ys = pw ys.length r ^^^ fold 0 ys := by
  induction ys generalizing r with
  | nil => simp [fold, pw]
  | cons y ys ih =>
    have e : ∀ q, fold q (y :: ys) = fold (tk q y) ys := fun _ => rfl
    rw [e, e, ih (tk r y), ih (tk 0 y), tk_lin r y, pw_xor, Nat.xor_assoc]
    have z : pw (y :: ys).length r = pw ys.length (tk r 0) := rfl
    rw [z]
theorem fold_append (r : Nat) (xs ys : List Nat) : fold r (xs ++ ys) = fold (fold r xs) ys := List.foldl_append ..
theorem xor_cancel (a b : Nat) : a ^^^ b ^^^ b = a := by rw [Nat.xor_assoc, Nat.xor_self, Nat.xor_zero]
theorem upd_sum (xs ys : List Nat) : turn (fold (turn (sum xs)) ys) = sum (xs ++ ys) := by
  unfold sum upd
  rw [fold_append]
  have e : ∀ x, turn (turn x) = x := fun x => xor_cancel x _
  rw [e]
theorem comb_sum (xs ys : List Nat) : pw ys.length (sum xs) ^^^ sum ys = sum (xs ++ ys) := by
  unfold sum upd
  rw [fold_append, fold_lin (fold (turn 0) xs) ys, fold_lin (turn 0) ys]
  have e : ∀ x, turn x = x ^^^ turn 0 := fun x => by unfold turn; rw [Nat.zero_xor]
  rw [e (fold (turn 0) xs), pw_xor, e (_ ^^^ fold 0 ys), e (_ ^^^ fold 0 ys)]
  generalize pw ys.length (fold (turn 0) xs) = a
  generalize pw ys.length (turn 0) = b
  generalize fold 0 ys = c
  rw [Nat.xor_assoc b c, Nat.xor_assoc a b, ← Nat.xor_assoc b b, Nat.xor_self, Nat.zero_xor, Nat.xor_assoc a c]
end Crc
