/- Proved: what page's Sectors and Blank answer. -/
import Derived.Test.YtcfninpokngmlaaGreatDoorOpen
namespace Go.Proofs.YtcfninpokngmlaaGreatDoor
open Go.RowKit
set_option maxHeartbeats 1000000 in
theorem sectors_any (s : ByteArray) (w : World) (hs : s.size ≤ 100000) :
    Calls Tryz.prog 104 #[.string s] w fun e w' => ∃ v, e = .returned v ∧ OwnS w' w.heap.size v (Pg.cut s 64 []) ∧ Below w.heap.size w w' := by
  have H := cut_any s 64 [] none 0 w hs (by omega) (by omega) (by simp) (by simp) (.inl rfl) (by simp) (by omega)
  go_enter Tryz.func104, Tryz.ntmps104
  go_wp2_with fail
  refine H.mono ?_
  rintro e w1 ⟨v, rfl, hO, hB⟩
  have HO : Hid (OwnS w1 w.heap.size v (Pg.cut s 64 []) ∧ Below w.heap.size w w1) := ⟨hO, hB⟩
  clear hO hB H
  go_wp2
  go_ret
  exact ⟨_, rfl, HO.out⟩
set_option maxHeartbeats 1000000 in
theorem blank_any (s : ByteArray) (w : World) : Calls Tryz.prog 82 #[.string s] w fun e w' => e = .returned (.bool (decide (s = Pg.blank))) ∧ Below w.heap.size w w' := by
  have hz := zeroPg
  have HR0 : Hid ((w.alloc (.cells zpg 157)).heap[w.heap.size]? = some (.cells (bc Pg.blank).toArray 157 (0, 0))) := heap_alloc_new w _
  have HB0 : Hid (Below w.heap.size w (w.alloc (.cells zpg 157))) := (Below.refl _ _).alloc (Nat.le_refl _) _
  have hcv := str_of (x := Pg.blank) (range_all HR0.out) 512
  rw [Pg.blank_size] at hcv
  have he : (s.toList == Pg.blank.toList) = decide (s = Pg.blank) := by
    by_cases h : s = Pg.blank
    · rw [toList_beq h, decide_eq_true h]
    · rw [toList_ne h, decide_eq_false h]
  generalize decide (s = Pg.blank) = r at *
  generalize Pg.blank = bl at *
  go_enter Tryz.func82, Tryz.ntmps82
  go_wp2
  go_ret
  exact ⟨rfl, HB0.out⟩
end Go.Proofs.YtcfninpokngmlaaGreatDoor
