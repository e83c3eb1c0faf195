/- Proved: digit tells a small digit of base 16, or that there is none; the document's Hex answers the same digits as the program's. -/
import Derived.Test.YtaeeibllmpaebaaDoorSame
import Derived.BigQuiet
import Derived.Laws.Concat
namespace Go.Proofs.YtaeeibllmpaebaaDoor
open Go.RowKit
/- the value of a digit, or 16 -/
def dval (x : Nat) : Nat := if 48 ≤ x ∧ x ≤ 57 then x - 48 else if 97 ≤ x ∧ x ≤ 102 then x - 87 else 16
set_option maxHeartbeats 400000 in
theorem digit_yes (x : Nat) (w : World) (hx : x < 256) (h : dval x < 16) :
    Calls Tryd.prog 27 #[.int .u8 (x : Int)] w fun e w' => e = .returned (.tuple #[.int .u8 (dval x : Nat), .bool true]) ∧ w' = w := by
  unfold dval at *
  by_cases h1 : 48 ≤ x ∧ x ≤ 57
  · rw [if_pos h1]
    obtain ⟨h2, h3⟩ := h1
    have e2 : decide ((48 : Int) ≤ (x : Int)) = true := by simp; omega
    have e3 : decide ((x : Int) ≤ 57) = true := by simp; omega
    go_enter Tryd.func27, Tryd.ntmps27
    go_wp2
    go_ret2
    exact ⟨by rw [show ((x - 48 : Nat) : Int) = (x : Int) - 48 by omega]; rfl, rfl⟩
  · rw [if_neg h1] at h ⊢
    by_cases h4 : 97 ≤ x ∧ x ≤ 102
    · rw [if_pos h4]
      obtain ⟨h5, h6⟩ := h4
      have e2 : decide ((48 : Int) ≤ (x : Int)) = true := by simp; omega
      have e3 : decide ((x : Int) ≤ 57) = false := by simp; omega
      have e4 : decide ((97 : Int) ≤ (x : Int)) = true := by simp; omega
      have e5 : decide ((x : Int) ≤ 102) = true := by simp; omega
      clear h1
      go_enter Tryd.func27, Tryd.ntmps27
      go_wp2
      go_ret2
      exact ⟨by rw [show ((x - 87 : Nat) : Int) = (x : Int) - 97 + 10 by omega]; rfl, rfl⟩
    · rw [if_neg h4] at h; omega
set_option maxHeartbeats 400000 in
theorem digit_no (x : Nat) (w : World) (hx : x < 256) (h : dval x = 16) :
    Calls Tryd.prog 27 #[.int .u8 (x : Int)] w fun e w' => e = .returned (.tuple #[.int .u8 0, .bool false]) ∧ w' = w := by
  unfold dval at h
  by_cases h1 : 48 ≤ x ∧ x ≤ 57
  · rw [if_pos h1] at h; omega
  · rw [if_neg h1] at h
    by_cases h4 : 97 ≤ x ∧ x ≤ 102
    · rw [if_pos h4] at h; omega
    · clear h
      by_cases h48 : 48 ≤ x
      · have e2 : decide ((48 : Int) ≤ (x : Int)) = true := by simp; omega
        have e3 : decide ((x : Int) ≤ 57) = false := by simp; omega
        by_cases h97 : 97 ≤ x
        · have e4 : decide ((97 : Int) ≤ (x : Int)) = true := by simp; omega
          have e5 : decide ((x : Int) ≤ 102) = false := by simp; omega
          clear h1 h4
          go_enter Tryd.func27, Tryd.ntmps27
          go_wp2
          go_ret2
          exact ⟨rfl, rfl⟩
        · have e4 : decide ((97 : Int) ≤ (x : Int)) = false := by simp; omega
          clear h1 h4
          go_enter Tryd.func27, Tryd.ntmps27
          go_wp2
          go_ret2
          exact ⟨rfl, rfl⟩
      · have e2 : decide ((48 : Int) ≤ (x : Int)) = false := by simp; omega
        have e4 : decide ((97 : Int) ≤ (x : Int)) = false := by simp; omega
        clear h1 h4
        go_enter Tryd.func27, Tryd.ntmps27
        go_wp2
        go_ret2
        exact ⟨rfl, rfl⟩
/- the document's Hex, over any bytes -/
def hexes : List Nat → List Nat
  | [] => []
  | x :: r => Bl.dig (x / 16) :: Bl.dig (x % 16) :: hexes r
theorem hexes_append : ∀ (a b : List Nat), hexes (a ++ b) = hexes a ++ hexes b
  | [], _ => rfl
  | x :: r, b => by simp [hexes, hexes_append r b]
theorem hexes_hex {d : List Nat} (h : d.length = 32) : hexes d = Bl.hex d := by
  match d, h with
  | [d0, d1, d2, d3, d4, d5, d6, d7, d8, d9, d10, d11, d12, d13, d14, d15, d16, d17, d18, d19, d20, d21, d22, d23, d24, d25, d26, d27, d28, d29, d30, d31], _ => rfl
theorem digs_cut : ∀ p, p < 16 → (⟨#[48, 49, 50, 51, 52, 53, 54, 55, 56, 57, 97, 98, 99, 100, 101, 102]⟩ : ByteArray).extract p (p + 1) = Bl.toBytes [Bl.dig p] := by
  intro p hp
  have h' : p = 0 ∨ p = 1 ∨ p = 2 ∨ p = 3 ∨ p = 4 ∨ p = 5 ∨ p = 6 ∨ p = 7 ∨ p = 8 ∨ p = 9 ∨ p = 10 ∨ p = 11 ∨ p = 12 ∨ p = 13 ∨ p = 14 ∨ p = 15 := by omega
  rcases h' with rfl | rfl | rfl | rfl | rfl | rfl | rfl | rfl | rfl | rfl | rfl | rfl | rfl | rfl | rfl | rfl <;> rfl
theorem hexes_length : ∀ l : List Nat, (hexes l).length = 2 * l.length
  | [] => rfl
  | x :: r => by simp [hexes, hexes_length r]; omega
theorem bytes_size (l : List Nat) : (Bl.toBytes l).size = l.length := by simp [Bl.toBytes, ByteArray.size]
theorem bytes_app (a b : List Nat) : Bl.toBytes a ++ Bl.toBytes b = Bl.toBytes (a ++ b) := by
  apply ByteArray.ext
  simp [Bl.toBytes]
theorem str_add (a b : List Nat) (h : a.length + b.length ≤ 9223372036854775807) (W : World) : (Op.stringOp .add (Bl.toBytes a) (Bl.toBytes b)).run Tryd.prog W = .ok (.string (Bl.toBytes (a ++ b))) W := by
  rw [run_string_add_sum W (Bl.toBytes a) (Bl.toBytes b) (by rw [bytes_size, bytes_size]; exact h), bytes_app]
set_option maxHeartbeats 1000000 in
set_option maxRecDepth 20000 in
theorem rhex_any (a : Option Addr) (len cap : Nat) (bs : List Nat) (w : World) (hB : Bytes w a len bs) (h4 : len ≤ 4096) :
    Calls Tryd.prog 13 #[.slice a len cap] w fun e w' => e = .returned (.string (Bl.toBytes (hexes bs))) ∧ ∃ n, w' = w.drewN n := by
  obtain ⟨hl, hlt, hmax, hc⟩ := hB
  go_enter Tryd.func13, Tryd.ntmps13
  go_wp2
  go_loopw [3, 4, 5, 6] (fun s3 i _ _ wr => ∃ k : Nat, k ≤ len ∧ i = .int .i64 k ∧ s3 = .string (Bl.toBytes (hexes (bs.take k))) ∧ ∃ n, wr = w.drewN n) (fun _ i _ _ _ => len - (intOf i).toNat)
  case atStart => exact ⟨0, by omega, rfl, rfl, 0, rfl⟩
  case round =>
    obtain ⟨k, hk, rfl, rfl, n, rfl⟩ := hrel
    by_cases hlt' : k < len
    · rcases hc with h0 | ⟨b, off, rfl, hc⟩
      · omega
      have hcell := hc k hlt'
      have hx : bs.getD k 0 < 256 := by rw [List.getD_eq_getElem?_getD, List.getElem?_eq_getElem (by omega)]; exact hlt _ (List.getElem_mem _)
      have hs : Is (hexes (bs.take (k + 1))) (hexes (bs.take k) ++ [Bl.dig (bs.getD k 0 / 16), Bl.dig (bs.getD k 0 % 16)]) := ⟨by
        rw [List.take_succ_eq_append_getElem (by omega), hexes_append, List.getD_eq_getElem?_getD, List.getElem?_eq_getElem (by omega)]; rfl⟩
      clear hc
      generalize bs.getD k 0 = x at *
      have hHl : (hexes (bs.take k)).length ≤ 8192 := by rw [hexes_length, List.length_take]; omega
      generalize hexes (bs.take k) = H at *
      obtain ⟨p, hp⟩ : ∃ p, p = x / 16 := ⟨_, rfl⟩
      obtain ⟨q, hq⟩ : ∃ q, q = x % 16 := ⟨_, rfl⟩
      rw [← hp, ← hq] at hs
      have ep : (x : Int) / 16 = (p : Int) := by omega
      have eq' : (x : Int) % 16 = (q : Int) := by omega
      have p16 : (p : Int) < 16 := by omega
      have q16 : (q : Int) < 16 := by omega
      have p0 : (0 : Int) ≤ (p : Int) := Int.natCast_nonneg _
      have q0 : (0 : Int) ≤ (q : Int) := Int.natCast_nonneg _
      have cp := digs_cut p (by omega)
      have cq := digs_cut q (by omega)
      obtain ⟨p1, hp1⟩ : ∃ p1, p1 = p + 1 := ⟨_, rfl⟩
      obtain ⟨q1, hq1⟩ : ∃ q1, q1 = q + 1 := ⟨_, rfl⟩
      rw [← hp1] at cp
      rw [← hq1] at cq
      have ep1 : (p : Int) + 1 = (p1 : Int) := by omega
      have eq1 : (q : Int) + 1 = (q1 : Int) := by omega
      have wp1 := wrap64 p1 (by omega)
      have wq1 := wrap64 q1 (by omega)
      have bp1 : (p1 : Int) ≤ 16 := by omega
      have bq1 : (q1 : Int) ≤ 16 := by omega
      have lp1 : (p : Int) ≤ (p1 : Int) := by omega
      have lq1 : (q : Int) ≤ (q1 : Int) := by omega
      have ad1 := str_add H [Bl.dig p] (by simp; omega)
      have ad2 := str_add (H ++ [Bl.dig p]) [Bl.dig q] (by simp; omega)
      clear hp hq hp1 hq1
      go_wp2_with fail
      go_quiet (fail)
      go_wp2
      go_roundw
      case rel => exact ⟨k + 1, by omega, by go_num, by rw [hs.eq], _, rfl⟩
      case measure => (simp [intOf]) <;> omega
    · have hkl : k = len := by omega
      subst hkl
      rw [List.take_of_length_le (by omega)]
      go_wp2
      go_ret
      exact ⟨rfl, n, rfl⟩
end Go.Proofs.YtaeeibllmpaebaaDoor
