/- Proved: what change answers for any row of 32 numbers. Condition: the register and the numbers are below 2^32. -/
import Derived.Test.YtojgjgldheenkaaDoorUpd
namespace Go.Proofs.YtojgjgldheenkaaDoor
open Go.RowKit
/- An array of 32 numbers, as a value. -/
def Rows32 (cs : Array Value) (m : Nat → Nat) : Prop := cs.size = 32 ∧ (∀ i, i < 32 → cs[i]? = some (.int .u32 (m i : Nat))) ∧ ∀ i, i < 32 → m i < 4294967296
theorem bit_at (r k : Nat) (h : r < 4294967296) : bits .and .u32 ((r : Int) / 2 ^ k) 1 = ((r / 2 ^ k % 2 : Nat) : Int) := by
  rw [show ((r : Int) / 2 ^ k) = ((r / 2 ^ k : Nat) : Int) by simp]
  exact and1 _ (Nat.lt_of_le_of_lt (Nat.div_le_self _ _) h)
theorem bit_test {x : Int} {n : Nat} (h : x = (n : Int)) : (x == 1) = decide (n = 1) := by
  subst h
  by_cases e : n = 1
  · subst e; rfl
  · rw [decide_eq_false e, beq_eq_false_iff_ne]; omega
set_option maxHeartbeats 400000 in
theorem change_any (cs : Array Value) (m : Nat → Nat) (r : Nat) (w : World) (hr : r < 4294967296) (hR : Rows32 cs m) :
    Calls Tryd.prog 24 #[.agg cs, .int .u32 (r : Int)] w fun e w' => e = .returned (.int .u32 (Crc.change m r : Nat)) ∧ Below w.heap.size w w' := by
  obtain ⟨hsz, hat, hm⟩ := hR
  go_enter Tryd.func24, Tryd.ntmps24
  go_wp2
  go_loop [5, 6, 7] (fun t _ i => ∃ k : Nat, k ≤ 32 ∧ i = .int .i64 k ∧ t = .int .u32 (Crc.changeTo m r k : Nat)) (fun _ _ i => 32 - (intOf i).toNat)
  case atStart => exact ⟨0, Nat.zero_le _, rfl, rfl⟩
  case round =>
    obtain ⟨k, hk, rfl, rfl⟩ := hrel
    by_cases hlt : k < 32
    · have hs : Hid (Crc.changeTo m r (k + 1) = if r / 2 ^ k % 2 = 1 then Crc.changeTo m r k ^^^ m k else Crc.changeTo m r k) := rfl
      have hb := Crc.changeTo_lt m r k (fun i hi => hm i (by omega))
      generalize Crc.changeTo m r k = b at *
      have hc : cs[k]? = some (.int .u32 (m k : Nat)) := hat k hlt
      have hc' : cs[k]'(by omega) = .int .u32 (m k : Nat) := Option.some.inj ((Array.getElem?_eq_getElem (by omega)).symm.trans hc)
      have hx := u32_xor_nat b (m k) hb (hm k hlt)
      have ht := bit_test (bit_at r k hr)
      clear hat
      by_cases hp : r / 2 ^ k % 2 = 1
      · rw [decide_eq_true hp] at ht
        have hs' : Hid (Crc.changeTo m r (k + 1) = b ^^^ m k) := hs.out.trans (if_pos hp)
        clear hs hp
        go_wp2
        go_round
        case rel => exact ⟨k + 1, by omega, by go_num, by rw [hs'.out]⟩
        case measure => simp [intOf]; omega
      · rw [decide_eq_false hp] at ht
        have hs' : Hid (Crc.changeTo m r (k + 1) = b) := hs.out.trans (if_neg hp)
        clear hs hp
        go_wp2
        go_round
        case rel => exact ⟨k + 1, by omega, by go_num, by rw [hs'.out]⟩
        case measure => simp [intOf]; omega
    · have hk8 : k = 32 := by omega
      subst hk8
      go_wp2
      go_ret
      exact ⟨rfl, (Below.refl _ _).alloc (Nat.le_refl _) _⟩
end Go.Proofs.YtojgjgldheenkaaDoor
