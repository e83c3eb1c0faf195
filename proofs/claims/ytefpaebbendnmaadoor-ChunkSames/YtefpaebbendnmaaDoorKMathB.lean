/- Proved: plain arithmetic of words as bytes, and of lists that are filled step by step. No program is named. -/
import Derived.Test.YtefpaebbendnmaaDoorKMath
namespace Bl
/- the first k of one list, then what the other has from there on -/
def part (new old : List Nat) (k : Nat) : List Nat := new.take k ++ old.drop k
theorem part_zero (new old : List Nat) : part new old 0 = old := by simp [part]
theorem part_all {new old : List Nat} {n : Nat} (h : new.length = n) (h' : old.length = n) : part new old n = new := by
  unfold part
  rw [List.take_of_length_le (by omega), List.drop_eq_nil_of_le (by omega), List.append_nil]
theorem part_length {new old : List Nat} {n k : Nat} (h : new.length = n) (h' : old.length = n) (hk : k ≤ n) : (part new old k).length = n := by
  simp [part, h, h']; omega
theorem part_at {new old : List Nat} {n k : Nat} (h : new.length = n) (_h' : old.length = n) (hk : k < n) : (part new old k).getD k 0 = old.getD k 0 := by
  unfold part
  rw [List.getD_eq_getElem?_getD, List.getD_eq_getElem?_getD, List.getElem?_append_right (by simp; omega), List.length_take, List.getElem?_drop]
  congr 2
  omega
theorem part_set {new old : List Nat} {n k : Nat} (h : new.length = n) (h' : old.length = n) (hk : k < n) : (part new old k).set k (new.getD k 0) = part new old (k + 1) := by
  unfold part
  rw [List.set_append_right _ _ (by simp; omega), List.length_take, show k - min k new.length = 0 by omega, List.drop_eq_getElem_cons (by omega : k < old.length), List.set_cons_zero, List.take_succ_eq_append_getElem (by omega : k < new.length), List.append_assoc, List.getD_eq_getElem?_getD, List.getElem?_eq_getElem (by omega : k < new.length)]
  rfl
theorem part_words {new old : List Nat} {n k : Nat} (h : Words n new) (h' : Words n old) (hk : k ≤ n) : Words n (part new old k) := by
  refine ⟨part_length h.1 h'.1 hk, fun x hx => ?_⟩
  rcases List.mem_append.1 hx with hx | hx
  · exact h.2 x (List.mem_of_mem_take hx)
  · exact h'.2 x (List.mem_of_mem_drop hx)
theorem part_bytes {new old : List Nat} {n k : Nat} (h : Bytes8 n new) (h' : Bytes8 n old) (hk : k ≤ n) : Bytes8 n (part new old k) := by
  refine ⟨part_length h.1 h'.1 hk, fun x hx => ?_⟩
  rcases List.mem_append.1 hx with hx | hx
  · exact h.2 x (List.mem_of_mem_take hx)
  · exact h'.2 x (List.mem_of_mem_drop hx)
def zeros (n : Nat) : List Nat := List.replicate n 0
theorem zeros_words (n : Nat) : Words n (zeros n) := ⟨by simp [zeros], fun x hx => by rw [List.eq_of_mem_replicate hx]; omega⟩
theorem zeros_bytes (n : Nat) : Bytes8 n (zeros n) := ⟨by simp [zeros], fun x hx => by rw [List.eq_of_mem_replicate hx]; omega⟩
/- the bytes of eight words -/
def byteAt (h : List Nat) (i : Nat) : Nat := h.getD (i / 4) 0 / 2 ^ (i % 4 * 8) % 256
def bytes (h : List Nat) : List Nat := (List.range 32).map (byteAt h)
theorem bytes_at (h : List Nat) (i : Nat) (hi : i < 32) : (bytes h).getD i 0 = byteAt h i := by
  unfold bytes
  rw [List.getD_eq_getElem?_getD, List.getElem?_map, List.getElem?_range hi, Option.map_some, Option.getD_some]
theorem bytes_bytes (h : List Nat) : Bytes8 32 (bytes h) := by
  refine ⟨by simp [bytes], fun x hx => ?_⟩
  obtain ⟨i, _, rfl⟩ := List.mem_map.1 hx
  exact Nat.mod_lt _ (by omega)
theorem taken_at (h b : List Nat) (n : Nat) (last : Bool) (i : Nat) (hi : i < 8) : (taken h b n last).getD i 0 = out h (mixed h b n last) i := by
  unfold taken
  rw [List.getD_eq_getElem?_getD, List.getElem?_map, List.getElem?_range hi, Option.map_some, Option.getD_some]
/- the words of a block that is read byte by byte -/
theorem getD_take (b : List Nat) (k i : Nat) : (b.take k).getD i 0 = if i < k then b.getD i 0 else 0 := by
  rw [List.getD_eq_getElem?_getD]
  split
  · rename_i h; rw [List.getElem?_take_of_lt h, List.getD_eq_getElem?_getD]
  · rename_i h; rw [List.getElem?_take_eq_none (by omega)]; rfl
theorem or_add (a q s : Nat) (h : a < 2 ^ s) : a ||| q * 2 ^ s = a + q * 2 ^ s := by
  rw [Nat.or_comm, Nat.mul_comm q, ← Nat.two_pow_add_eq_or_of_lt h, Nat.add_comm]
theorem word_step {n : Nat} {b : List Nat} (hb : Bytes8 n b) (k j : Nat) : word (b.take (k + 1)) j = if k / 4 = j then word (b.take k) j ||| b.getD k 0 * 2 ^ (k % 4 * 8) else word (b.take k) j := by
  have h0 := hb.at (4 * j)
  have h1 := hb.at (4 * j + 1)
  have h2 := hb.at (4 * j + 2)
  have h3 := hb.at (4 * j + 3)
  unfold word
  simp only [getD_take]
  by_cases hj : k / 4 = j
  · rw [if_pos hj]
    have hk : k = 4 * j ∨ k = 4 * j + 1 ∨ k = 4 * j + 2 ∨ k = 4 * j + 3 := by omega
    generalize hx0 : b.getD (4 * j) 0 = x0 at *
    generalize hx1 : b.getD (4 * j + 1) 0 = x1 at *
    generalize hx2 : b.getD (4 * j + 2) 0 = x2 at *
    generalize hx3 : b.getD (4 * j + 3) 0 = x3 at *
    rcases hk with rfl | rfl | rfl | rfl
    · simp only [if_neg (show ¬ 4 * j < 4 * j by omega), if_pos (show 4 * j < 4 * j + 1 by omega), if_neg (show ¬ 4 * j + 1 < 4 * j by omega), if_neg (show ¬ 4 * j + 1 < 4 * j + 1 by omega), if_neg (show ¬ 4 * j + 2 < 4 * j by omega), if_neg (show ¬ 4 * j + 2 < 4 * j + 1 by omega), if_neg (show ¬ 4 * j + 3 < 4 * j by omega), if_neg (show ¬ 4 * j + 3 < 4 * j + 1 by omega), hx0]
      rw [show (4 * j) % 4 * 8 = 0 by omega, or_add _ _ _ (by simp only [Nat.reducePow]; omega)]
      simp only [Nat.reducePow]
      omega
    · simp only [if_pos (show 4 * j < 4 * j + 1 by omega), if_pos (show 4 * j < 4 * j + 1 + 1 by omega), if_neg (show ¬ 4 * j + 1 < 4 * j + 1 by omega), if_pos (show 4 * j + 1 < 4 * j + 1 + 1 by omega), if_neg (show ¬ 4 * j + 2 < 4 * j + 1 by omega), if_neg (show ¬ 4 * j + 2 < 4 * j + 1 + 1 by omega), if_neg (show ¬ 4 * j + 3 < 4 * j + 1 by omega), if_neg (show ¬ 4 * j + 3 < 4 * j + 1 + 1 by omega), hx1]
      rw [show (4 * j + 1) % 4 * 8 = 8 by omega, or_add _ _ _ (by simp only [Nat.reducePow]; omega)]
      simp only [Nat.reducePow]
      omega
    · simp only [if_pos (show 4 * j < 4 * j + 2 by omega), if_pos (show 4 * j < 4 * j + 2 + 1 by omega), if_pos (show 4 * j + 1 < 4 * j + 2 by omega), if_pos (show 4 * j + 1 < 4 * j + 2 + 1 by omega), if_neg (show ¬ 4 * j + 2 < 4 * j + 2 by omega), if_pos (show 4 * j + 2 < 4 * j + 2 + 1 by omega), if_neg (show ¬ 4 * j + 3 < 4 * j + 2 by omega), if_neg (show ¬ 4 * j + 3 < 4 * j + 2 + 1 by omega), hx2]
      rw [show (4 * j + 2) % 4 * 8 = 16 by omega, or_add _ _ _ (by simp only [Nat.reducePow]; omega)]
      simp only [Nat.reducePow]
      omega
    · simp only [if_pos (show 4 * j < 4 * j + 3 by omega), if_pos (show 4 * j < 4 * j + 3 + 1 by omega), if_pos (show 4 * j + 1 < 4 * j + 3 by omega), if_pos (show 4 * j + 1 < 4 * j + 3 + 1 by omega), if_pos (show 4 * j + 2 < 4 * j + 3 by omega), if_pos (show 4 * j + 2 < 4 * j + 3 + 1 by omega), if_neg (show ¬ 4 * j + 3 < 4 * j + 3 by omega), if_pos (show 4 * j + 3 < 4 * j + 3 + 1 by omega), hx3]
      rw [show (4 * j + 3) % 4 * 8 = 24 by omega, or_add _ _ _ (by simp only [Nat.reducePow]; omega)]
      simp only [Nat.reducePow]
      omega
  · rw [if_neg hj]
    have e : ∀ i, i < 4 → (4 * j + i < k + 1 ↔ 4 * j + i < k) := fun i hi => by omega
    have e0 : (4 * j < k + 1 ↔ 4 * j < k) := by omega
    simp only [e0, e 1 (by omega), e 2 (by omega), e 3 (by omega)]
theorem words_step {n : Nat} {b : List Nat} (hb : Bytes8 n b) (k : Nat) (_hk : k < 64) : words (b.take (k + 1)) = (words (b.take k)).set (k / 4) ((words (b.take k)).getD (k / 4) 0 ||| b.getD k 0 * 2 ^ (k % 4 * 8)) := by
  rw [words_at _ _ (by omega)]
  unfold words
  refine List.ext_getElem? fun j => ?_
  rw [List.getElem?_set]
  by_cases hj : j < 16
  · rw [List.getElem?_map, List.getElem?_map, List.getElem?_range hj, Option.map_some, Option.map_some, word_step hb]
    split
    · rename_i e; subst e; simp [hj]
    · rfl
  · rw [List.getElem?_eq_none (by simp; omega), List.getElem?_eq_none (by simp; omega)]
    rw [if_neg (by omega)]
theorem words_none : words [] = zeros 16 := by decide
end Bl
