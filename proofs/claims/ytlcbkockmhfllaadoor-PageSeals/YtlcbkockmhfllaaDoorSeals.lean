/- Proved: the walk of the law PageSeals answers true. Condition: the table of the sums holds its sixteen numbers. -/
import Derived.Test.YtlcbkockmhfllaaDoorRSeal
namespace Go.Proofs.YtlcbkockmhfllaaDoor
open Go.RowKit
set_option maxHeartbeats 2000000 in
set_option maxRecDepth 20000 in
theorem seals_walk (z z2 : Int) (s : ByteArray) (w : World) (_hz : In64 z) (_hz2 : In64 z2) (_hs : s.size ≤ 9223372036854775807) (hT : Tab w) :
    Calls Tryd.prog 3 #[.int .i64 z, .int .i64 z2, .string s] w fun e w' => e = .returned (.bool true) ∧ Below w.heap.size w w' := by
  have hpos := hT.pos
  have HT : Hid (Tab w) := hT
  have hmin : min (s.size : Int) 510 = ((min s.size 510 : Nat) : Int) := by omega
  have hn1 : min s.size 510 ≤ s.size := by omega
  generalize min s.size 510 = n at *
  have n0 : (0 : Int) ≤ (n : Int) := by omega
  have n1 : (n : Int) ≤ (s.size : Int) := by omega
  generalize hb : s.extract 0 n = b at *
  have H1 := seal_any z z2 b w hT
  have H2 : Hid (∀ W, Calls Tryd.prog 10 #[.int .i64 z, .int .i64 z2, .string b] W fun e w' => e = .returned (.tuple #[.string (Pg.sealS z z2 b), .int .i64 (Pg.sealE z z2 b)]) ∧ Below W.heap.size W w') := fun W => rseal_any z z2 b W
  clear hT
  generalize Pg.sealS z z2 b = ps at *
  generalize Pg.sealE z z2 b = pe at *
  go_enter Tryd.func3, Tryd.ntmps3
  go_wp2_with fail
  refine H1.mono ?_
  rintro e w1 ⟨rfl, hB1⟩
  have HB1 : Hid (Below w.heap.size w w1) := hB1
  clear hB1 H1
  go_wp2_with fail
  refine (H2.out w1).mono ?_
  rintro e w2 ⟨rfl, hB2⟩
  have HB2 : Hid (Below w.heap.size w w2) := below_next HB1.out hB2 HB1.out.size
  clear hB2 HB1 H2
  have hsame := toList_beq (rfl : ps = ps)
  have HW := works_any w2 (HT.out.below HB2.out hpos)
  go_wp2_with fail
  refine HW.mono ?_
  rintro e w7 ⟨rfl, hB7⟩
  have HB7 : Hid (Below w.heap.size w w7) := below_next HB2.out hB7 HB2.out.size
  clear hB7 HB2 HW
  go_wp2
  go_ret
  exact ⟨rfl, HB7.out⟩
end Go.Proofs.YtlcbkockmhfllaaDoor
