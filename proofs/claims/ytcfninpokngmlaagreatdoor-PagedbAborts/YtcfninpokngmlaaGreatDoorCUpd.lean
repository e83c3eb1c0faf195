/- Proved: what Update and Sum answer for any bytes, the program's and the document's. Conditions: the slice has just these bytes, and the table its sixteen numbers. -/
import Derived.Test.YtcfninpokngmlaaGreatDoorCLeaf
namespace Go.Proofs.YtcfninpokngmlaaGreatDoor
open Go.RowKit
/- What a walk knows of a slice of bytes: its elements. -/
def Bytes (w : World) (a : Option Addr) (len : Nat) (bs : List Nat) : Prop :=
  bs.length = len ∧ (∀ x ∈ bs, x < 256) ∧ len ≤ 9223372036854775807 ∧ (len = 0 ∨ ∃ b off, a = some ⟨b, off, none⟩ ∧ ∀ i, i < len → w.cell? ⟨b, off + i, none⟩ = some (.int .u8 (bs.getD i 0 : Nat)))
theorem not32 (a : Nat) (h : a < 4294967296) : bits .xor .u32 (a : Int) 4294967295 = ((Crc.turn a : Nat) : Int) := by
  rw [show (4294967295 : Int) = ((4294967295 : Nat) : Int) from rfl, u32_xor_nat a _ h (by omega)]; rfl
theorem getD_lt {bs : List Nat} (h : ∀ x ∈ bs, x < 256) (i : Nat) (hi : i < bs.length) : bs.getD i 0 < 256 := by
  rw [List.getD_eq_getElem?_getD, List.getElem?_eq_getElem hi]; exact h _ (List.getElem_mem hi)
theorem not32' (a : Nat) (h : a < 4294967296) : bits .xor .u32 IntKind.u32.max (a : Int) = ((Crc.turn a : Nat) : Int) := by
  rw [show IntKind.u32.max = ((4294967295 : Nat) : Int) from rfl, u32_xor_nat _ a (by omega) h, Nat.xor_comm]; rfl
set_option maxHeartbeats 400000 in
theorem upd_any (s : Nat) (a : Option Addr) (len cap : Nat) (bs : List Nat) (w : World) (hs : s < 4294967296) (hB : Bytes w a len bs) (hT : Tab w) :
    Calls Tryz.prog 132 #[.int .u32 (s : Int), .slice a len cap] w fun e w' => e = .returned (.int .u32 (Crc.turn (Crc.fold (Crc.turn s) bs) : Nat)) ∧ w' = w := by
  obtain ⟨hl, hlt, hmax, hc⟩ := hB
  have h1 := not32' s hs
  have ha := Crc.turn_lt hs
  generalize Crc.turn s = t at *
  go_enter Tryz.func132, Tryz.ntmps132
  go_wp2
  go_loop [5, 7, 12] (fun t' _ i => ∃ k : Nat, k ≤ len ∧ i = .int .i64 k ∧ t' = .int .u32 (Crc.fold t (bs.take k) : Nat)) (fun _ _ i => len - (intOf i).toNat)
  case atStart => exact ⟨0, Nat.zero_le _, rfl, rfl⟩
  case round =>
    obtain ⟨k, hk, rfl, rfl⟩ := hrel
    by_cases hlt' : k < len
    · have hs : Hid (Crc.fold t (bs.take (k + 1)) = Crc.tk (Crc.fold t (bs.take k)) (bs.getD k 0)) := Crc.fold_take t bs k (by omega)
      have hb := Crc.fold_lt (bs.take k) ha (fun x hx => hlt x (List.mem_of_mem_take hx))
      have hx := getD_lt hlt k (by omega)
      rcases hc with h0 | ⟨b, off, rfl, hc⟩
      · omega
      have hcell := hc k hlt'
      clear hc
      generalize Crc.fold t (bs.take k) = r at *
      generalize bs.getD k 0 = x at *
      go_wp2_with (go_at_call 153; refine (take_any _ _ _ (by assumption) (by assumption) (by assumption)).mono ?_; rintro e w' ⟨rfl, rfl⟩)
      go_round
      case rel => exact ⟨k + 1, by omega, by go_num, by rw [hs.out]⟩
      case measure => simp [intOf]; omega
    · have hk8 : k = len := by omega
      subst hk8
      rw [List.take_of_length_le (by omega)]
      have hb := Crc.fold_lt bs ha hlt
      have h2 := not32' _ hb
      go_wp2
      go_ret
      exact ⟨rfl, rfl⟩
/- The sum of bytes, the program's and the document's. -/
set_option maxHeartbeats 400000 in
theorem sum_any (a : Option Addr) (len cap : Nat) (bs : List Nat) (w : World) (hB : Bytes w a len bs) (hT : Tab w) :
    Calls Tryz.prog 116 #[.slice a len cap] w fun e w' => e = .returned (.int .u32 (Crc.sum bs : Nat)) ∧ w' = w := by
  have h := upd_any 0 a len cap bs w (by omega) hB hT
  go_enter Tryz.func116, Tryz.ntmps116
  go_wp2_with (go_at_call 132; refine h.mono ?_; rintro e w' ⟨rfl, rfl⟩)
  go_ret
  exact ⟨rfl, rfl⟩
end Go.Proofs.YtcfninpokngmlaaGreatDoor
