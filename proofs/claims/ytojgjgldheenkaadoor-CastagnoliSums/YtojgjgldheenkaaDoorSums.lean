/- Proved: the walk of the law CastagnoliSums answers true for any sum and any bytes. Condition: the table holds its sixteen numbers. -/
import Derived.Test.YtojgjgldheenkaaDoorFew
namespace Go.Proofs.YtojgjgldheenkaaDoor
open Go.RowKit
theorem rfold_eq (r : Nat) (bs : List Nat) : Crc.rfold r bs = Crc.fold r bs := by
  have : Crc.rtk = Crc.tk := by funext r x; exact (Crc.tk_eq r x).symm
  unfold Crc.rfold Crc.fold; rw [this]
theorem rupd_eq (s : Nat) (bs : List Nat) : Crc.turn (Crc.rfold (Crc.turn s) bs) = Crc.turn (Crc.fold (Crc.turn s) bs) := by rw [rfold_eq]
theorem rsum_eq (bs : List Nat) : Crc.rsum bs = Crc.sum bs := rupd_eq 0 bs
/- THE WALK of CastagnoliSums. -/
set_option maxHeartbeats 400000 in
theorem sums_walk (s : Nat) (a : Option Addr) (len cap : Nat) (bs : List Nat) (w : World) (hs : s < 4294967296) (hB : Bytes w a len bs) (hc : len ≤ cap) (hc' : cap ≤ 9223372036854775807) (hT : Tab w) (h0 : 0 < w.heap.size) :
    Calls Tryd.prog 3 #[.int .u32 (s : Int), .slice a len cap] w fun e w' => e = .returned (.bool true) ∧ Below w.heap.size w w' := by
  go_enter Tryd.func3, Tryd.ntmps3
  go_wp2_with fail
  refine (few_any a len cap bs w hB hc hc').mono ?_
  rintro e w1 ⟨g, cap', rfl, hM, hb⟩
  have hT1 := hT.below h0 hb
  have h01 : 0 < w1.heap.size := by have := hb.size; omega
  have hB1 : Bytes w1 (some ⟨g, 0, none⟩) (min len 2000) (bs.take 2000) := hM.bytes (by omega)
  clear hB hM
  generalize min len 2000 = m at *
  generalize bs.take 2000 = cs at *
  go_wp2_with fail
  refine (sum_any _ m cap' cs w1 hB1 hT1).mono ?_
  rintro e w2 ⟨rfl, rfl⟩
  go_wp2_with fail
  refine (rsum_any _ m cap' cs w2 hB1).mono ?_
  rintro e w3 ⟨rfl, rfl⟩
  rw [rsum_eq]
  go_wp2_with fail
  refine (upd_any s _ m cap' cs w3 hs hB1 hT1).mono ?_
  rintro e w4 ⟨rfl, rfl⟩
  go_wp2_with fail
  refine (rupd_any s _ m cap' cs w4 hs hB1).mono ?_
  rintro e w5 ⟨rfl, rfl⟩
  rw [rupd_eq]
  go_wp2_with fail
  refine (works_any w5 hT1 h01).mono ?_
  rintro e w6 ⟨rfl, hb6⟩
  go_wp2
  go_ret
  exact ⟨rfl, hb.trans (hb6.mono hb.size)⟩
end Go.Proofs.YtojgjgldheenkaaDoor
