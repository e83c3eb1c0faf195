/- Proved: the chapter's example holds (the law's helper works answers true). Condition: the table holds its sixteen numbers. -/
import Derived.Test.YtojgjgldheenkaaDoorComb
import Derived.Lib.SlBytesConst
namespace Go.Proofs.YtojgjgldheenkaaDoor
open Go.RowKit
theorem ex1 : Crc.sum [49, 50, 51, 52, 53, 54, 55, 56, 57] = 3808858755 := by decide +kernel
theorem ex2 : Crc.pw 5 (Crc.sum [49, 50, 51, 52]) ^^^ Crc.sum [53, 54, 55, 56, 57] = 3808858755 := by decide +kernel
theorem ex3 : Crc.sum [] = 0 := by decide +kernel
theorem sum_lt {bs : List Nat} (h : ∀ x ∈ bs, x < 256) : Crc.sum bs < 4294967296 := Crc.turn_lt (Crc.fold_lt bs (Crc.turn_lt (by omega)) h)
theorem Bytes.new (w : World) (cs : Array Value) (fr : Nat × Nat) (bs : List Nat) (h : cs = (bs.map fun n => Value.int .u8 (n : Nat)).toArray) (hb : ∀ x ∈ bs, x < 256) (hl : bs.length ≤ 9223372036854775807) : Bytes (w.alloc (.cells cs 5 fr)) (some ⟨w.heap.size, 0, none⟩) bs.length bs := by
  subst h
  refine ⟨rfl, hb, hl, .inr ⟨_, _, rfl, fun i hi => ?_⟩⟩
  rw [cell_of_row _ _ _ _ 5 fr (heap_alloc_new w _)]
  simp [hi]
theorem Tab.alloc {w : World} (hT : Tab w) (h0 : 0 < w.heap.size) (o : Obj) : Tab (w.alloc o) := hT.below h0 ((Below.refl _ _).alloc (Nat.le_refl _) o)
theorem Bytes.nil (w : World) (a : Option Addr) : Bytes w a 0 [] := ⟨rfl, (fun x hx => by cases hx), by omega, .inl rfl⟩
set_option maxHeartbeats 400000 in
theorem works_any (w : World) (hT : Tab w) (h0 : 0 < w.heap.size) :
    Calls Tryd.prog 14 #[] w fun e w' => e = .returned (.bool true) ∧ Below w.heap.size w w' := by
  have hcv := fun (w : World) C n c => Lib.run_convert_bytes_const (P := Tryd.prog) w 23 5 C n c Tryd.underlying23 Tryd.underlying5
  go_enter Tryd.func14, Tryd.ntmps14
  go_wp2_with fail
  refine (sum_any _ 4 4 [49, 50, 51, 52] _ (Bytes.new w _ _ _ rfl (by decide) (by decide)) (hT.alloc h0 _)).mono ?_
  rintro e w1 ⟨rfl, hw1⟩
  have hT1 : Tab w1 := by rw [hw1]; exact hT.alloc h0 _
  have hb1 : Below w.heap.size w w1 := by rw [hw1]; exact (Below.refl _ _).alloc (Nat.le_refl _) _
  have h01 : 0 < w1.heap.size := by have := hb1.size; omega
  clear hw1
  go_wp2_with fail
  refine (sum_any _ 5 5 [53, 54, 55, 56, 57] _ (Bytes.new w1 _ _ _ rfl (by decide) (by decide)) (hT1.alloc h01 _)).mono ?_
  rintro e w2 ⟨rfl, hw2⟩
  have hT2 : Tab w2 := by rw [hw2]; exact hT1.alloc h01 _
  have hb2 : Below w.heap.size w w2 := by rw [hw2]; exact hb1.alloc hb1.size _
  have h02 : 0 < w2.heap.size := by have := hb2.size; omega
  clear hw2
  go_wp2_with fail
  refine (combine_yes _ _ 5 _ (sum_lt (by decide)) (sum_lt (by decide)) (by omega) hT2 h02).mono ?_
  rintro e w3 ⟨rfl, hw3⟩
  rw [ex2]
  have hb3 := hb2.trans (hw3.mono hb2.size)
  have hT3 := hT.below h0 hb3
  have h03 : 0 < w3.heap.size := by have := hb3.size; omega
  clear hw3
  go_wp2_with fail
  refine (sum_any _ 9 9 [49, 50, 51, 52, 53, 54, 55, 56, 57] _ (Bytes.new w3 _ _ _ rfl (by decide) (by decide)) (hT3.alloc h03 _)).mono ?_
  rintro e w4 ⟨rfl, hw4⟩
  rw [ex1]
  have hT4 : Tab w4 := by rw [hw4]; exact hT3.alloc h03 _
  have hb4 : Below w.heap.size w w4 := by rw [hw4]; exact hb3.alloc hb3.size _
  clear hw4
  go_wp2_with fail
  refine (sum_any none 0 0 [] _ (Bytes.nil _ _) hT4).mono ?_
  rintro e w5 ⟨rfl, hw5⟩
  rw [ex3]
  subst hw5
  go_wp2
  go_ret
  exact ⟨rfl, hb4⟩
end Go.Proofs.YtojgjgldheenkaaDoor
