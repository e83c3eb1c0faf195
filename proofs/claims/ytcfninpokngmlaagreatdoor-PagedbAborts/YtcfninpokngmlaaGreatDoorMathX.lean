/- Proved: plain facts of the bytes that a sync writes (stage 8). No program is named. -/
import Derived.Test.YtcfninpokngmlaaGreatDoorMathV
namespace Wl
open Sc (St)
/- what writeWaiting does: the writes, then a flush -/
def wwT (l : Lg) (s : St) : St × Int := if (writes l s).2 = 0 then (Sc.flushS (writes l s).1, Sc.flushE (writes l s).1) else writes l s
theorem syncT_ww (l : Lg) (s : St) : syncT l s = if (wwT l s).2 = 0 then (hdS (wwT l s).1 l.base l.epoch (all l).size, hdE (wwT l s).1 l.base l.epoch (all l).size) else wwT l s := by
  unfold syncT wwT
  by_cases h1 : (writes l s).2 = 0
  · rw [if_pos h1, if_pos h1]
  · rw [if_neg h1, if_neg h1, if_neg h1]
/- what is left to write from the sector kk on -/
def left (al : List UInt8) (kk : Nat) : ByteArray := ob (al.drop (64 * kk))
theorem left_size (al : List UInt8) (kk : Nat) : (left al kk).size = al.length - 64 * kk := by unfold left; rw [ob_size, List.length_drop]
theorem left_split (al : List UInt8) (kk : Nat) : left al kk = ob (sec al kk) ++ left al (kk + 1) := by
  apply ext_list
  unfold left sec
  rw [app_list, ob_list, ob_list, ob_list, show 64 * (kk + 1) = 64 * kk + 64 by omega, ← List.drop_drop, List.take_append_drop]
theorem sec_size (al : List UInt8) (kk : Nat) : (ob (sec al kk)).size = min (al.length - 64 * kk) 64 := by
  unfold sec
  rw [ob_size, List.length_take, List.length_drop]
  omega
/- the bytes of the sector in which the length ends, and the frames behind them -/
def tail (b : ByteArray) : ByteArray := b.extract (64 * (b.size / 64)) b.size
theorem tail_size (b : ByteArray) : (tail b).size = b.size % 64 := by unfold tail; simp; omega
theorem tail_list (b : ByteArray) : (tail b).data.toList = b.data.toList.drop (64 * (b.size / 64)) := by
  unfold tail
  rw [ext_ext, Sc.size_eq, List.take_length]
theorem tail_at (b : ByteArray) (j : Nat) : (tail b).data.toList[j]? = b.data.toList[64 * (b.size / 64) + j]? := by rw [tail_list, List.getElem?_drop]
theorem tail_all (l : Lg) : tail l.bytes ++ frames l.wait = left (all l).data.toList (l.bytes.size / 64) := by
  apply ext_list
  unfold left all
  have h : 64 * (l.bytes.size / 64) ≤ l.bytes.data.toList.length := by rw [← Sc.size_eq]; omega
  rw [app_list, tail_list, ob_list, app_list, List.drop_append, show 64 * (l.bytes.size / 64) - l.bytes.data.toList.length = 0 by omega, List.drop_zero]
end Wl
