/- Proved: plain facts of the writes of a sync (stage 8), on any disk. No program is named. -/
import Derived.Test.YtcfninpokngmlaaGreatDoorMathS
import Derived.Test.YtcfninpokngmlaaGreatDoorMathF
namespace Wl
open Sc (St)
/- one write behind the other, up to the first that is refused: what the disk is then, and what the last write told -/
def puts (base : Nat) (all : List UInt8) : Nat → Nat → St → St × Int
  | 0, _, s => (s, 0)
  | m + 1, k, s => if Sc.writeE s ((base : Int) + 1 + (k : Int)) (ob (sec all k)) = 0 then puts base all m (k + 1) (Sc.writeS s ((base : Int) + 1 + (k : Int)) (ob (sec all k))) else (Sc.writeS s ((base : Int) + 1 + (k : Int)) (ob (sec all k)), Sc.writeE s ((base : Int) + 1 + (k : Int)) (ob (sec all k)))
theorem puts_yes {base : Nat} {all : List UInt8} {m k : Nat} {s : St} (h : Sc.writeE s ((base : Int) + 1 + (k : Int)) (ob (sec all k)) = 0) : puts base all (m + 1) k s = puts base all m (k + 1) (Sc.writeS s ((base : Int) + 1 + (k : Int)) (ob (sec all k))) := by rw [puts, if_pos h]
theorem puts_no {base : Nat} {all : List UInt8} {m k : Nat} {s : St} (h : Sc.writeE s ((base : Int) + 1 + (k : Int)) (ob (sec all k)) ≠ 0) : puts base all (m + 1) k s = (Sc.writeS s ((base : Int) + 1 + (k : Int)) (ob (sec all k)), Sc.writeE s ((base : Int) + 1 + (k : Int)) (ob (sec all k))) := by rw [puts, if_neg h]
/- the k-th sector of these bytes, as a part of them -/
theorem sec_ext (all : ByteArray) (k t : Nat) (h : t = min (64 * k + 64) all.size) : all.extract (64 * k) t = ob (sec all.data.toList k) := by
  apply ext_list
  rw [ext_ext, ob_list, List.drop_take]
  unfold sec
  have hs := Sc.size_eq all
  by_cases h1 : 64 * k + 64 ≤ all.size
  · rw [show t - 64 * k = 64 by omega]
  · rw [List.take_of_length_le (by rw [List.length_drop]; omega), List.take_of_length_le (by rw [List.length_drop]; omega)]
theorem frames_take (l : List ByteArray) (k : Nat) (r : ByteArray) (h : l[k]? = some r) : frames (l.take (k + 1)) = frames (l.take k) ++ frame r := by
  obtain ⟨h1, h2⟩ := List.getElem?_eq_some_iff.1 h
  rw [List.take_succ_eq_append_getElem h1, h2, frames_append]
  apply ext_list
  rw [app_list, app_list, frames, app_list]
  simp [frames, ob]
theorem app_assoc (a b c : ByteArray) : a ++ b ++ c = a ++ (b ++ c) := by
  apply ext_list
  rw [app_list, app_list, app_list, app_list, List.append_assoc]
theorem app_none (a : ByteArray) : a ++ frames [] = a := by
  apply ext_list
  rw [app_list]
  simp [frames, ob]
end Wl
