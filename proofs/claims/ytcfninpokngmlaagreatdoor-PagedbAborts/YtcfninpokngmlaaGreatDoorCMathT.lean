/- Proved: plain facts on a list of bytes that ends in its own sum, four bytes, the lowest first: its whole sum is one fixed number, and up to 32 bits side by side changed anywhere in it are told, also over the place where the sum begins. No program in it. -/
import Derived.Test.YtcfninpokngmlaaGreatDoorCMathB
namespace Crc
def num4 (l : List Nat) : Nat := l.getD 0 0 + 256 * l.getD 1 0 + 65536 * l.getD 2 0 + 16777216 * l.getD 3 0
theorem steps_put (j : Nat) (r x y : Nat) (hx : x < 2 ^ j) : steps j (r ^^^ x) ^^^ y = steps j (r ^^^ (x + 2 ^ j * y)) := by
  have e := xor_add j y x hx
  rw [Nat.add_comm x, ← e, Nat.xor_comm (2 ^ j * y) x, ← Nat.xor_assoc, steps_xor j (r ^^^ x), steps_pow]
theorem fold_four (r a b c d : Nat) (ha : a < 256) (hb : b < 256) (hc : c < 256) : fold r [a, b, c, d] = steps 32 (r ^^^ (a + 256 * b + 65536 * c + 16777216 * d)) := by
  show tk (tk (tk (tk r a) b) c) d = _
  rw [tk_eq, tk_eq, tk_eq, tk_eq]
  unfold rtk
  rw [steps_put 8 r a b (by omega), ← steps_add, steps_put 16 r _ c (by omega), ← steps_add, steps_put 24 r _ d (by omega), ← steps_add]
theorem turn0_lt : turn 0 < 4294967296 := by decide
theorem xor_zero_iff (a b : Nat) : a ^^^ b = 0 ↔ a = b := by
  constructor
  · intro h
    have e : (a ^^^ b) ^^^ b = 0 ^^^ b := by rw [h]
    rwa [xor_cancel, Nat.zero_xor] at e
  · intro h; rw [h, Nat.xor_self]
theorem steps_eq (n : Nat) {x y : Nat} (hx : x < 4294967296) (hy : y < 4294967296) (h : steps n x = steps n y) : x = y := by
  have e : steps n (x ^^^ y) = 0 := by rw [steps_xor, h, Nat.xor_self]
  exact (xor_zero_iff x y).1 (steps_inj n (xor_lt hx hy) e)
theorem take_four {P : List Nat} {m : Nat} (hl : P.length = m + 4) : ∃ a b c d, P = P.take m ++ [a, b, c, d] ∧ P.drop m = [a, b, c, d] := by
  have e : (P.drop m).length = 4 := by rw [List.length_drop]; omega
  match h : P.drop m, e with
  | [a, b, c, d], _ => exact ⟨a, b, c, d, by rw [← h, List.take_append_drop], rfl⟩
/- the whole list's sum is the fixed number just where its last four bytes are the sum of the rest -/
theorem whole_iff {P : List Nat} {m : Nat} (hl : P.length = m + 4) (h8 : ∀ x ∈ P, x < 256) : fold (turn 0) P = steps 32 4294967295 ↔ sum (P.take m) = num4 (P.drop m) := by
  obtain ⟨a, b, c, d, h, hd⟩ := take_four hl
  have hm : ∀ x ∈ [a, b, c, d], x < 256 := fun x hx => h8 x (by rw [h]; exact List.mem_append.2 (.inr hx))
  have ha := hm a (by simp)
  have hb := hm b (by simp)
  have hc := hm c (by simp)
  have hdd := hm d (by simp)
  have hf : fold (turn 0) (P.take m) < 4294967296 := fold_lt _ turn0_lt (fun x hx => h8 x (List.mem_of_mem_take hx))
  have e : fold (turn 0) P = steps 32 (fold (turn 0) (P.take m) ^^^ num4 (P.drop m)) := by
    rw [hd]
    conv => lhs; rw [h, fold_append, fold_four _ _ _ _ _ ha hb hc]
    rfl
  have hn : num4 (P.drop m) < 4294967296 := by
    rw [hd]
    show a + 256 * b + 65536 * c + 16777216 * d < _
    omega
  have es : sum (P.take m) = fold (turn 0) (P.take m) ^^^ 4294967295 := rfl
  rw [e, es]
  generalize fold (turn 0) (P.take m) = f at *
  generalize num4 (P.drop m) = n at *
  constructor
  · intro h1
    have h2 := steps_eq 32 (xor_lt hf hn) (by omega) h1
    rw [← h2, ← Nat.xor_assoc, Nat.xor_self, Nat.zero_xor]
  · intro h1
    rw [← h1, ← Nat.xor_assoc, Nat.xor_self, Nat.zero_xor]
theorem burst_same (bs : List Nat) (k c i : Nat) (h : chg c i = false) : burst bs k c i = bs := by
  induction i with
  | zero => rfl
  | succ i ih =>
    rw [chg_succ] at h
    unfold burst
    split
    · rename_i hb; rw [if_pos hb] at h; exact absurd h (by decide)
    · rename_i hb; rw [if_neg hb] at h; exact ih h
/- what is changed is told -/
theorem told_burst {P : List Nat} {m : Nat} (hl : P.length = m + 4) (h8 : ∀ x ∈ P, x < 256) (hv : sum (P.take m) = num4 (P.drop m)) (k c i : Nat) (hk : k + i ≤ 8 * (m + 4)) (hc : c < 4294967296) :
    (sum ((burst P k c i).take m) != num4 ((burst P k c i).drop m)) = chg c i := by
  have hw := (whole_iff hl h8).2 hv
  have hq := whole_iff (P := burst P k c i) (m := m) (by rw [burst_length]; exact hl) (burst_lt h8 k c i)
  rw [fold_burst _ _ _ _ _ (by rw [hl]; exact hk), hw] at hq
  have hm : c % 2 ^ i < 4294967296 := Nat.lt_of_le_of_lt (Nat.mod_le _ _) hc
  unfold chg
  by_cases hx : c % 2 ^ i = 0
  · rw [hx, steps_zero, Nat.xor_zero] at hq
    rw [hx, hq.1 rfl]
    simp
  · have hn : sum ((burst P k c i).take m) ≠ num4 ((burst P k c i).drop m) := fun e => hx (steps_inj _ hm (xor_eq_self _ _ (hq.2 e)))
    rw [bne_iff_ne.2 hn, bne_iff_ne.2 hx]
end Crc
