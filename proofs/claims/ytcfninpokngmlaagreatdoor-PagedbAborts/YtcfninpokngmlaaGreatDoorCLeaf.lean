/- Proved: what one call of take does, the program's by its table and the document's bit by bit. Conditions: the register is below 2^32, the byte below 256, and the table holds its sixteen numbers. -/
import Derived.Test.YtcfninpokngmlaaGreatDoorRows
import Derived.Test.YtcfninpokngmlaaGreatDoorCMath
import Derived.WalkKit
import Derived.WalkSpells
import Derived.WalkLawsBesides
import Derived.Laws.BitsAllLaws
namespace Go.Proofs.YtcfninpokngmlaaGreatDoor
open Go.RowKit
def Tab (w : World) : Prop := ∀ i, i < 16 → w.cell? ⟨0, i, none⟩ = some (.int .u32 (Crc.nib i : Int))
theorem and15 (a : Nat) (h : a < 4294967296) : bits .and .u32 (a : Int) 15 = ((a % 16 : Nat) : Int) := by
  rw [show (15 : Int) = ((15 : Nat) : Int) from rfl, u32_and_nat a 15 h (by omega), nat_mask4]
theorem and1 (a : Nat) (h : a < 4294967296) : bits .and .u32 (a : Int) 1 = ((a % 2 : Nat) : Int) := by
  rw [show (1 : Int) = ((1 : Nat) : Int) from rfl, u32_and_nat a 1 h (by omega), nat_mask1]
theorem half_bits (a : Nat) (h : a < 4294967296) : bits .xor .u32 ((a : Int) / 16) (Crc.nib (a % 16) : Int) = (Crc.half a : Int) := by
  rw [show ((a : Int) / 16) = ((a / 16 : Nat) : Int) by omega, u32_xor_nat _ _ (by omega) (Crc.nib_lt _)]; rfl
set_option maxHeartbeats 400000 in
theorem take_any (r x : Nat) (w : World) (hr : r < 4294967296) (hx : x < 256) (hT : Tab w) :
    Calls Tryz.prog 153 #[.int .u32 (r : Int), .int .u8 (x : Int)] w fun e w' => e = .returned (.int .u32 (Crc.tk r x : Nat)) ∧ w' = w := by
  have h1 := u32_xor_nat r x hr (by omega)
  unfold Crc.tk
  have ha := Crc.xor_lt hr (show x < 4294967296 by omega)
  generalize r ^^^ x = a at *
  have h2 := and15 a ha
  have c1 := hT (a % 16) (by omega)
  have h3 := half_bits a ha
  have hb := Crc.half_lt ha
  generalize Crc.half a = b at *
  have h4 := and15 b hb
  have c2 := hT (b % 16) (by omega)
  have h5 := half_bits b hb
  go_enter Tryz.func153, Tryz.ntmps153
  go_wp2
  go_ret
  exact ⟨rfl, rfl⟩

/- the document's step, bit by bit -/
theorem bit_yes (a : Nat) (h : a < 4294967296) : bits .xor .u32 ((a : Int) / 2) 2197175160 = ((a / 2 ^^^ 2197175160 : Nat) : Int) := by
  rw [show ((a : Int) / 2) = ((a / 2 : Nat) : Int) by omega, show (2197175160 : Int) = ((2197175160 : Nat) : Int) from rfl, u32_xor_nat _ _ (by omega) (by omega)]
end Go.Proofs.YtcfninpokngmlaaGreatDoor
