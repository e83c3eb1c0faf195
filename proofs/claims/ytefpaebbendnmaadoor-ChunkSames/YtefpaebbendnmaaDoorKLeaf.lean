/- Proved: what one turn by bits answers, the program's and the document's. Conditions: the word is below 2^32; the turns are by 16, 12, 8 and 7. -/
import Derived.Test.YtefpaebbendnmaaDoorRows
import Derived.Test.YtefpaebbendnmaaDoorKMath
import Derived.WalkKit
import Derived.WalkSpells
import Derived.WalkLawsBesides
import Derived.Laws.BitsAllLaws
namespace Go.Proofs.YtefpaebbendnmaaDoor.BK
open Go.RowKit
theorem rot_bits (x k : Nat) (hx : x < 4294967296) : bits .or .u32 ((x : Int) / 2 ^ k) ((x : Int) * 2 ^ (32 - k) % 4294967296) = ((Bl.rot x k : Nat) : Int) := by
  rw [show ((x : Int) / 2 ^ k) = ((x / 2 ^ k : Nat) : Int) by simp, show ((x : Int) * 2 ^ (32 - k) % 4294967296) = ((x * 2 ^ (32 - k) % 4294967296 : Nat) : Int) by simp, u32_or_nat _ _ (Nat.lt_of_le_of_lt (Nat.div_le_self _ _) hx) (Nat.mod_lt _ (by omega))]
  rfl
theorem rot_bits' (x k : Nat) (hx : x < 4294967296) : bits .or .u32 ((x : Int) * 2 ^ (32 - k) % 4294967296) ((x : Int) / 2 ^ k) = ((Bl.rot x k : Nat) : Int) := by
  rw [show ((x : Int) / 2 ^ k) = ((x / 2 ^ k : Nat) : Int) by simp, show ((x : Int) * 2 ^ (32 - k) % 4294967296) = ((x * 2 ^ (32 - k) % 4294967296 : Nat) : Int) by simp, u32_or_nat _ _ (Nat.mod_lt _ (by omega)) (Nat.lt_of_le_of_lt (Nat.div_le_self _ _) hx), Nat.or_comm]
  rfl
set_option maxHeartbeats 400000 in
theorem right_any (x k : Nat) (w : World) (hx : x < 4294967296) (hk : 0 < k) (hk' : k < 32) :
    Calls Tryd.prog 50 #[.int .u32 (x : Int), .int .u64 (k : Int)] w fun e w' => e = .returned (.int .u32 (Bl.rot x k : Nat)) ∧ w' = w := by
  have h := rot_bits x k hx
  go_enter Tryd.func50, Tryd.ntmps50
  go_wp2
  go_ret
  exact ⟨rfl, rfl⟩
set_option maxHeartbeats 400000 in
theorem rotl_16 (x : Nat) (w : World) (hx : x < 4294967296) :
    Calls Tryd.prog 57 #[.int .u32 (x : Int), .int .i64 (-16)] w fun e w' => e = .returned (.int .u32 (Bl.rot x 16 : Nat)) ∧ w' = w := by
  have h : bits .or .u32 ((x : Int) * 65536 % 4294967296) ((x : Int) / 65536) = ((Bl.rot x 16 : Nat) : Int) := rot_bits' x 16 hx
  have ha : bits .and .u64 (IntKind.u64.wrap (-16)) 31 = 16 := by kernel_rfl
  go_enter Tryd.func57, Tryd.ntmps57
  go_wp2
  go_ret
  exact ⟨rfl, rfl⟩
set_option maxHeartbeats 400000 in
theorem rotl_12 (x : Nat) (w : World) (hx : x < 4294967296) :
    Calls Tryd.prog 57 #[.int .u32 (x : Int), .int .i64 (-12)] w fun e w' => e = .returned (.int .u32 (Bl.rot x 12 : Nat)) ∧ w' = w := by
  have h : bits .or .u32 ((x : Int) * 1048576 % 4294967296) ((x : Int) / 4096) = ((Bl.rot x 12 : Nat) : Int) := rot_bits' x 12 hx
  have ha : bits .and .u64 (IntKind.u64.wrap (-12)) 31 = 20 := by kernel_rfl
  go_enter Tryd.func57, Tryd.ntmps57
  go_wp2
  go_ret
  exact ⟨rfl, rfl⟩
set_option maxHeartbeats 400000 in
theorem rotl_8 (x : Nat) (w : World) (hx : x < 4294967296) :
    Calls Tryd.prog 57 #[.int .u32 (x : Int), .int .i64 (-8)] w fun e w' => e = .returned (.int .u32 (Bl.rot x 8 : Nat)) ∧ w' = w := by
  have h : bits .or .u32 ((x : Int) * 16777216 % 4294967296) ((x : Int) / 256) = ((Bl.rot x 8 : Nat) : Int) := rot_bits' x 8 hx
  have ha : bits .and .u64 (IntKind.u64.wrap (-8)) 31 = 24 := by kernel_rfl
  go_enter Tryd.func57, Tryd.ntmps57
  go_wp2
  go_ret
  exact ⟨rfl, rfl⟩
set_option maxHeartbeats 400000 in
theorem rotl_7 (x : Nat) (w : World) (hx : x < 4294967296) :
    Calls Tryd.prog 57 #[.int .u32 (x : Int), .int .i64 (-7)] w fun e w' => e = .returned (.int .u32 (Bl.rot x 7 : Nat)) ∧ w' = w := by
  have h : bits .or .u32 ((x : Int) * 33554432 % 4294967296) ((x : Int) / 128) = ((Bl.rot x 7 : Nat) : Int) := rot_bits' x 7 hx
  have ha : bits .and .u64 (IntKind.u64.wrap (-7)) 31 = 25 := by kernel_rfl
  go_enter Tryd.func57, Tryd.ntmps57
  go_wp2
  go_ret
  exact ⟨rfl, rfl⟩
end Go.Proofs.YtefpaebbendnmaaDoor.BK
