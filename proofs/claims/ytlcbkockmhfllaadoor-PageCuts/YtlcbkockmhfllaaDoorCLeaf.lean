/- Proved: what one call of take does, the program's by its table and the document's bit by bit. Conditions: the register is below 2^32, the byte below 256, and the table holds its sixteen numbers. -/
import Derived.Test.YtlcbkockmhfllaaDoorRows
import Derived.Test.YtlcbkockmhfllaaDoorCMath
import Derived.WalkKit
import Derived.WalkSpells
import Derived.WalkLawsBesides
import Derived.Laws.BitsAllLaws
namespace Go.Proofs.YtlcbkockmhfllaaDoor
open Go.RowKit
def Tab (w : World) : Prop := ∀ i, i < 16 → w.cell? ⟨0, i, none⟩ = some (.int .u32 (Crc.nib i : Int))
theorem and15 (a : Nat) (h : a < 4294967296) : bits .and .u32 (a : Int) 15 = ((a % 16 : Nat) : Int) := by
  rw [show (15 : Int) = ((15 : Nat) : Int) from rfl, u32_and_nat a 15 h (by omega), nat_mask4]
theorem and1 (a : Nat) (h : a < 4294967296) : bits .and .u32 (a : Int) 1 = ((a % 2 : Nat) : Int) := by
  rw [show (1 : Int) = ((1 : Nat) : Int) from rfl, u32_and_nat a 1 h (by omega), nat_mask1]
theorem half_bits (a : Nat) (h : a < 4294967296) : bits .xor .u32 ((a : Int) / 16) (Crc.nib (a % 16) : Int) = (Crc.half a : Int) := by
  rw [show ((a : Int) / 16) = ((a / 16 : Nat) : Int) by omega, u32_xor_nat _ _ (by omega) (Crc.nib_lt _)]; rfl
set_option maxHeartbeats 400000 in
theorem take_any (r x : Nat) (w : World) (hr : r < 4294967296) (hx : x < 256) (hT : Tab w) :
    Calls Tryd.prog 28 #[.int .u32 (r : Int), .int .u8 (x : Int)] w fun e w' => e = .returned (.int .u32 (Crc.tk r x : Nat)) ∧ w' = w := by
  have h1 := u32_xor_nat r x hr (by omega)
  unfold Crc.tk
  have ha := Crc.xor_lt hr (show x < 4294967296 by omega)
  generalize r ^^^ x = a at *
  have h2 := and15 a ha
  have c1 := hT (a % 16) (by omega)
  have h3 := half_bits a ha
  have hb := Crc.half_lt ha
  generalize Crc.half a = b at *
  have h4 := and15 b hb
  have c2 := hT (b % 16) (by omega)
  have h5 := half_bits b hb
  go_enter Tryd.func28, Tryd.ntmps28
  go_wp2
  go_ret
  exact ⟨rfl, rfl⟩

/- the document's step, bit by bit -/
theorem bit_yes (a : Nat) (h : a < 4294967296) : bits .xor .u32 ((a : Int) / 2) 2197175160 = ((a / 2 ^^^ 2197175160 : Nat) : Int) := by
  rw [show ((a : Int) / 2) = ((a / 2 : Nat) : Int) by omega, show (2197175160 : Int) = ((2197175160 : Nat) : Int) from rfl, u32_xor_nat _ _ (by omega) (by omega)]
set_option maxHeartbeats 400000 in
theorem rtake_any (r x : Nat) (w : World) (hr : r < 4294967296) (hx : x < 256) :
    Calls Tryd.prog 29 #[.int .u32 (r : Int), .int .u8 (x : Int)] w fun e w' => e = .returned (.int .u32 (Crc.rtk r x : Nat)) ∧ w' = w := by
  have h1 := u32_xor_nat r x hr (by omega)
  unfold Crc.rtk
  have ha := Crc.xor_lt hr (show x < 4294967296 by omega)
  generalize r ^^^ x = a at *
  go_enter Tryd.func29, Tryd.ntmps29
  go_wp2
  go_loop [0, 5] (fun t i => ∃ k : Nat, k ≤ 8 ∧ i = .int .i64 k ∧ t = .int .u32 (Crc.steps k a : Nat)) (fun _ i => 8 - (intOf i).toNat)
  case atStart => exact ⟨0, Nat.zero_le _, rfl, rfl⟩
  case round =>
    obtain ⟨k, hk, rfl, rfl⟩ := hrel
    by_cases hlt : k < 8
    · have hs : Hid (Crc.steps (k + 1) a = Crc.bit (Crc.steps k a)) := Crc.steps_succ k a
      have hb := Crc.steps_lt k ha
      generalize Crc.steps k a = b at *
      by_cases hp : b % 2 = 1
      · have hy := bit_yes b hb
        have hyy : Hid (Crc.bit b = b / 2 ^^^ 2197175160) := by unfold Crc.bit; exact if_pos hp
        have ht : ((b : Int) % 2 == 1) = true := by rw [beq_iff_eq]; omega
        clear hp
        go_wp2
        go_round
        case rel => exact ⟨k + 1, by omega, by go_num, by rw [hs.out, hyy.out]⟩
        case measure => simp [intOf]; omega
      · have hyy : Hid (Crc.bit b = b / 2) := by unfold Crc.bit; exact if_neg hp
        have ht : ((b : Int) % 2 == 1) = false := by rw [beq_eq_false_iff_ne]; omega
        clear hp
        go_wp2
        go_round
        case rel => exact ⟨k + 1, by omega, by go_num, by rw [hs.out, hyy.out]; go_num⟩
        case measure => simp [intOf]; omega
    · have hk8 : k = 8 := by omega
      subst hk8
      go_wp2
      go_ret
      exact ⟨rfl, rfl⟩
end Go.Proofs.YtlcbkockmhfllaaDoor
