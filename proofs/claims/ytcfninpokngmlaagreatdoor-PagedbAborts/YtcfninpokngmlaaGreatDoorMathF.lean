/- Proved: how frames are read one by one (stage 8). No program is named. -/
import Derived.Test.YtcfninpokngmlaaGreatDoorMathW
namespace Wl
theorem ext_ext {x : ByteArray} {a b : Nat} : (x.extract a b).data.toList = (x.data.toList.take b).drop a := by
  rw [ByteArray.data_extract, Array.toList_extract]
  simp [List.extract, List.drop_take]
theorem Is.rest : ∀ {a : List ByteArray} {b : ByteArray} {rs : List ByteArray}, Fit a → Is (frames a ++ b) rs → ∃ rs', rs = a ++ rs' ∧ Is b rs'
  | [], b, rs, _, h => by
    refine ⟨rs, rfl, ?_⟩
    have e : frames [] ++ b = b := by
      apply ext_list
      rw [app_list]
      rfl
    rwa [e] at h
  | r :: a, b, rs, hf, h => by
    have h1 : (frame r).data.toList ++ ((frames a).data.toList ++ b.data.toList) = (frames rs).data.toList := by
      rw [← h.1, app_list, frames, app_list, List.append_assoc]
    cases rs with
    | nil =>
      have := congrArg List.length h1
      rw [List.length_append, ← Sc.size_eq, frame_size] at this
      have e0 : (frames []).data.toList.length = 0 := rfl
      omega
    | cons r' t =>
      rw [frames, app_list] at h1
      obtain ⟨e1, e2⟩ := frame_head (hf r List.mem_cons_self) (h.2 r' List.mem_cons_self) h1
      have h2 : Is (frames a ++ b) t := ⟨ext_list (by rw [app_list]; exact e2), fun y hy => h.2 y (List.mem_cons_of_mem _ hy)⟩
      obtain ⟨rs', e3, h3⟩ := Is.rest (fun y hy => hf y (List.mem_cons_of_mem _ hy)) h2
      exact ⟨rs', by rw [← e1, e3]; rfl, h3⟩
structure First (b r : ByteArray) : Prop where
  size : 8 + r.size ≤ b.size
  len : getL (b.data.toList.take 4) = r.size
  rec_ : b.extract 8 (8 + r.size) = r
  all : b.extract 0 (8 + r.size) = frame r
theorem first_of {r : ByteArray} {b rest : ByteArray} (hr : r.size ≤ 65536) (h : b = frame r ++ rest) : First b r := by
  have hl : b.data.toList = putL r.size 4 ++ ((sum4 (put r.size 4 ++ r)).data.toList ++ (r.data.toList ++ rest.data.toList)) := by
    rw [h, app_list]
    unfold frame
    rw [app_list, app_list, put_list, List.append_assoc, List.append_assoc]
  have h4 : (sum4 (put r.size 4 ++ r)).data.toList.length = 4 := by rw [← Sc.size_eq]; exact sum4_size _
  have hrl : r.data.toList.length = r.size := (Sc.size_eq r).symm
  refine ⟨by rw [h, ByteArray.size_append, frame_size]; omega, ?_, ?_, ?_⟩
  · rw [hl, List.take_left' (putL_length 4 _), getL_putL 4 _ (by omega)]
  · apply ext_list
    rw [ext_ext, hl, ← List.append_assoc, List.take_append, List.drop_append]
    have hp : (putL r.size 4 ++ (sum4 (put r.size 4 ++ r)).data.toList).length = 8 := by rw [List.length_append, putL_length, h4]
    rw [List.take_of_length_le (by omega), hp, List.drop_eq_nil_of_le (by omega), List.nil_append, show 8 + r.size - 8 = r.size by omega, Nat.sub_self, List.drop_zero, List.take_left' hrl]
  · apply ext_list
    rw [ext_ext, List.drop_zero, h, app_list, List.take_left' (by rw [← Sc.size_eq, frame_size])]
theorem Is.first {b r : ByteArray} {t : List ByteArray} (h : Is b (r :: t)) : First b r ∧ r.size ≤ 65536 := by
  have hr := h.2 r List.mem_cons_self
  exact ⟨first_of hr h.1, hr⟩
theorem Is.empty {rs : List ByteArray} (h : Is (ob []) rs) : rs = [] := by
  cases rs with
  | nil => rfl
  | cons r t =>
    have := h.first.1.size
    rw [ob_size] at this
    simp at this
theorem cut_back (b : ByteArray) (n : Nat) : b = b.extract 0 n ++ b.extract n b.size := by
  apply ext_list
  rw [app_list, ext_ext, ext_ext, List.drop_zero, Sc.size_eq, List.take_length, List.take_append_drop]
/- one more frame is taken off -/
theorem frames_step {a : List ByteArray} {b b' r : ByteArray} {n : Nat} (h : b = frames a ++ b') (hf : b'.extract 0 n = frame r) : b = frames (a ++ [r]) ++ b'.extract n b'.size := by
  have e1 := cut_back b' n
  rw [hf] at e1
  rw [h, frames_append]
  apply ext_list
  rw [app_list, app_list, app_list]
  have e2 : b'.data.toList = (frame r).data.toList ++ (b'.extract n b'.size).data.toList := by rw [← app_list, ← e1]
  have e3 : (frames [r]).data.toList = (frame r).data.toList := by
    rw [frames, app_list]
    simp [frames, ob]
  rw [e2, e3, List.append_assoc]
/- a number read from its end -/
def getI (l : List UInt8) : Int := if getL l ≤ 4611686018427387904 then (getL l : Int) else -1
theorem getL_split : ∀ (l : List UInt8) (j : Nat), j ≤ l.length → getL l = getL (l.take j) + 256 ^ j * getL (l.drop j)
  | l, 0, _ => by simp [getL]
  | [], j + 1, h => by simp at h
  | b :: l, j + 1, h => by
    rw [List.take_succ_cons, List.drop_succ_cons, getL, getL, getL_split l j (by simpa using h), Nat.pow_succ, Nat.mul_add]
    rw [show 256 ^ j * 256 * getL (l.drop j) = 256 * (256 ^ j * getL (l.drop j)) by rw [Nat.mul_comm (256 ^ j) 256, Nat.mul_assoc]]
    omega
theorem getL_drop {l : List UInt8} {m : Nat} {c : UInt8} (h : l[m]? = some c) : getL (l.drop m) = c.toNat + 256 * getL (l.drop (m + 1)) := by
  obtain ⟨h1, h2⟩ := List.getElem?_eq_some_iff.1 h
  rw [List.drop_eq_getElem_cons h1, h2]
  rfl
theorem getI_big {l : List UInt8} {j : Nat} (hj : 0 < j) (hl : j ≤ l.length) (h : 18014398509481984 < getL (l.drop j)) : getI l = -1 := by
  have e := getL_split l j hl
  have h1 : 256 ^ 1 ≤ 256 ^ j := Nat.pow_le_pow_right (by omega) hj
  have h2 : 256 * getL (l.drop j) ≤ 256 ^ j * getL (l.drop j) := Nat.mul_le_mul_right _ (by simpa using h1)
  unfold getI
  rw [if_neg (by omega)]
end Wl
