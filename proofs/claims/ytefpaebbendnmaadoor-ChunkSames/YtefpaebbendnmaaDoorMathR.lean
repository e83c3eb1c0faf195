/- Proved: plain facts of chunks that grow byte by byte. No program is named. -/
import Derived.Test.YtefpaebbendnmaaDoorMath
namespace Ck
/- one byte more -/
theorem pc_take (s : T) (k j : Nat) : pc (s.take k) j = (s.drop (64 * j)).take (min 64 (k - 64 * j)) := by
  unfold pc
  rw [List.drop_take, List.take_take]
def grow (s : T) (k : Nat) : List T := if k % 64 = 0 then chunks (s.take k) ++ [[]] else chunks (s.take k)
theorem take_length_lt {s : T} {k : Nat} (h : k ≤ s.length) : (s.take k).length = k := by rw [List.length_take]; omega
theorem grow_length {s : T} {k : Nat} (h : k < s.length) : (grow s k).length = k / 64 + 1 := by
  unfold grow
  split
  · rw [List.length_append, chunks_length, take_length_lt (by omega)]
    unfold cnt
    simp only [List.length_cons, List.length_nil]
    omega
  · rw [chunks_length, take_length_lt (by omega)]
    unfold cnt
    omega
theorem grow_get {s : T} {k j : Nat} (h : k < s.length) (hj : j < k / 64 + 1) : (grow s k)[j]? = some (pc (s.take k) j) := by
  unfold grow
  split
  · by_cases h2 : j = k / 64
    · rw [List.getElem?_append_right (by rw [chunks_length, take_length_lt (by omega)]; unfold cnt; omega), chunks_length, take_length_lt (by omega)]
      rw [show j - cnt k = 0 by unfold cnt; omega, pc_take, show min 64 (k - 64 * j) = 0 by omega, List.take_zero]
      rfl
    · rw [List.getElem?_append_left (by rw [chunks_length, take_length_lt (by omega)]; unfold cnt; omega), chunks_get _ (by rw [take_length_lt (by omega)]; unfold cnt; omega)]
  · rw [chunks_get _ (by rw [take_length_lt (by omega)]; unfold cnt; omega)]
theorem chunks_grow {s : T} {k : Nat} (h : k < s.length) : chunks (s.take (k + 1)) = (grow s k).set (k / 64) (pc (s.take k) (k / 64) ++ [s[k]'h]) := by
  apply List.ext_getElem?
  intro j
  by_cases hj : j < k / 64 + 1
  · rw [chunks_get _ (by rw [take_length_lt (by omega)]; unfold cnt; omega)]
    by_cases h2 : j = k / 64
    · subst h2
      rw [List.getElem?_set_self (by rw [grow_length h]; omega), pc_take, pc_take]
      congr 1
      rw [show min 64 (k + 1 - 64 * (k / 64)) = k % 64 + 1 by omega, show min 64 (k - 64 * (k / 64)) = k % 64 by omega, List.take_succ_eq_append_getElem (by rw [List.length_drop]; omega), List.getElem_drop]
      congr 2
      congr 1
      omega
    · rw [List.getElem?_set_ne (fun e => h2 e.symm), grow_get h hj, pc_take, pc_take, show min 64 (k + 1 - 64 * j) = 64 by omega, show min 64 (k - 64 * j) = 64 by omega]
  · rw [List.getElem?_eq_none (by rw [chunks_length, take_length_lt (by omega)]; unfold cnt; omega), List.getElem?_eq_none (by rw [List.length_set, grow_length h]; omega)]
end Ck
