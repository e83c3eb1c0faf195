/- Proved: the walk of the law PageOpens answers true. Condition: the table of the sums holds its sixteen numbers. -/
import Derived.Test.YtlcbkockmhfllaaDoorROpen
namespace Go.Proofs.YtlcbkockmhfllaaDoor
open Go.RowKit
set_option maxHeartbeats 2000000 in
set_option maxRecDepth 20000 in
theorem opens_walk (z : Int) (s : ByteArray) (w : World) (_hz : In64 z) (_hs : s.size ≤ 9223372036854775807) (hT : Tab w) :
    Calls Tryd.prog 4 #[.int .i64 z, .string s] w fun e w' => e = .returned (.bool true) ∧ Below w.heap.size w w' := by
  have hpos := hT.pos
  have HT : Hid (Tab w) := hT
  have hmin : min (s.size : Int) 600 = ((min s.size 600 : Nat) : Int) := by omega
  have hn1 : min s.size 600 ≤ s.size := by omega
  generalize min s.size 600 = n at *
  have n0 : (0 : Int) ≤ (n : Int) := by omega
  have n1 : (n : Int) ≤ (s.size : Int) := by omega
  generalize hb : s.extract 0 n = b at *
  have H1 := open_any z b w hT
  have H2 : Hid (∀ W, Calls Tryd.prog 13 #[.int .i64 z, .string b] W fun e w' => e = .returned (.tuple #[.int .i64 (Pg.openK z b), .string (Pg.openB z b), .int .i64 (Pg.openE z b)]) ∧ Below W.heap.size W w') := fun W => ropen_any z b W
  clear hT
  generalize Pg.openK z b = pk at *
  generalize Pg.openB z b = ps at *
  generalize Pg.openE z b = pe at *
  go_enter Tryd.func4, Tryd.ntmps4
  go_wp2_with fail
  refine H1.mono ?_
  rintro e w1 ⟨rfl, hB1⟩
  have HB1 : Hid (Below w.heap.size w w1) := hB1
  clear hB1 H1
  go_wp2_with fail
  refine (H2.out w1).mono ?_
  rintro e w2 ⟨rfl, hB2⟩
  have HB2 : Hid (Below w.heap.size w w2) := below_next HB1.out hB2 HB1.out.size
  clear hB2 HB1 H2
  have hsame := toList_beq (rfl : ps = ps)
  have HW := works_any w2 (HT.out.below HB2.out hpos)
  go_wp2_with fail
  refine HW.mono ?_
  rintro e w7 ⟨rfl, hB7⟩
  have HB7 : Hid (Below w.heap.size w w7) := below_next HB2.out hB7 HB2.out.size
  clear hB7 HB2 HW
  go_wp2
  go_ret
  exact ⟨rfl, HB7.out⟩
end Go.Proofs.YtlcbkockmhfllaaDoor
