/- Proved: what wal's putNumber and number do: a number as bytes, the lowest first, and back. -/
import Derived.Test.YtcfninpokngmlaaGreatDoorWrite
import Derived.Test.YtcfninpokngmlaaGreatDoorCUpd
import Derived.Test.YtcfninpokngmlaaGreatDoorMathF
import Derived.Laws.BytesString
namespace Go.Proofs.YtcfninpokngmlaaGreatDoor
open Go.RowKit
theorem setCells_snoc (g : Nat) (v : Value) : ∀ (l : List Value) (o : Nat) (w : World), (w.setCells g o l).setCell ⟨g, o + l.length, none⟩ v = w.setCells g o (l ++ [v])
  | [], o, w => rfl
  | x :: l, o, w => by
    have := setCells_snoc g v l (o + 1) (w.setCell ⟨g, o, none⟩ x)
    rw [List.length_cons, show o + (l.length + 1) = o + 1 + l.length by omega]
    exact this
/- the cells of a number's bytes -/
def nc (n k : Nat) : List Value := (Wl.putL n k).map fun b => Value.int .u8 (b.toNat : Int)
theorem nc_length (n k : Nat) : (nc n k).length = k := by rw [nc, List.length_map, Wl.putL_length]
theorem nc_succ (n j : Nat) : nc n (j + 1) = nc n j ++ [.int .u8 ((n / 256 ^ j % 256 : Nat) : Int)] := by
  unfold nc
  rw [Wl.putL_snoc, List.map_append]
  simp [UInt8.toNat_ofNat']
theorem nc_bc (n k : Nat) : nc n k = bc (Wl.put n k) := by unfold nc bc; rw [Wl.put_list]
theorem pow256 (j : Nat) : (256 : Nat) ^ j = 2 ^ (8 * j) := by rw [Nat.pow_mul]
theorem shr_num (n j : Nat) : (n : Int) / 2 ^ (8 * j) % 256 = ((n / 256 ^ j % 256 : Nat) : Int) := by
  rw [pow256]
  rw [show ((2 : Int) ^ (8 * j)) = ((2 ^ (8 * j) : Nat) : Int) by push_cast; rfl]
  omega
set_option maxHeartbeats 1000000 in
theorem putn_any (g off k cap n t : Nat) (cur : List Value) (w : World) (hg : w.heap[g]? = some (.cells cur.toArray t (0, 0))) (hl : off + k ≤ cur.length) (hk : k ≤ 8) :
    Calls Tryz.prog 140 #[.slice (some ⟨g, off, none⟩) k cap, .int .u64 (n : Int)] w fun e w' => e = .returned (.tuple #[]) ∧ w' = w.setCells g off (nc n k) := by
  have HG : Hid (w.heap[g]? = some (.cells cur.toArray t (0, 0))) := hg
  clear hg
  go_enter Tryz.func140, Tryz.ntmps140
  go_wp2_with fail
  go_loopw [4, 7] (fun _ s7 wr => ∃ j : Nat, j ≤ k ∧ s7 = .int .i64 (j : Int) ∧ wr = w.setCells g off (nc n j)) (fun _ s7 _ => k - (intOf s7).toNat)
  case atStart => exact ⟨0, by omega, rfl, rfl⟩
  case round =>
    obtain ⟨j, hj, rfl, hwr⟩ := hrel
    by_cases hjk : j < k
    · have HR : Hid ((w.setCells g off (nc n j)).heap[g]? = some (.cells (splice cur off (nc n j)).toArray t (0, 0))) := setCells_splice g t _ off cur w HG.out (by rw [nc_length]; omega)
      have hsl : (splice cur off (nc n j)).length = cur.length := by unfold splice; rw [List.length_append, List.length_append, List.length_take, List.length_drop, nc_length]; omega
      rw [← hwr] at HR
      have HFN : Hid (∃ j' : Nat, j' ≤ k ∧ Value.int .i64 ((j : Int) + 1) = .int .i64 (j' : Int) ∧ wr.setCell ⟨g, off + j, none⟩ (.int .u8 ((n : Int) / 2 ^ (8 * j) % 256)) = w.setCells g off (nc n j')) := ⟨j + 1, by omega, by go_num, by
        rw [hwr, nc_succ, shr_num]
        have := setCells_snoc g (.int .u8 ((n / 256 ^ j % 256 : Nat) : Int)) (nc n j) off w
        rw [nc_length] at this
        exact this⟩
      obtain ⟨u, hu⟩ : ∃ u, wr.cell? ⟨g, off + j, none⟩ = some u := ⟨_, by rw [cell_of_row wr g _ _ _ (0, 0) HR.out, Array.getElem?_eq_getElem (by rw [List.size_toArray]; omega)]⟩
      have hf : wr.frozen? ⟨g, off + j, none⟩ = false := frozen_of_row wr g _ _ _ HR.out
      have dj : decide ((j : Int) < (k : Int)) = true := decide_eq_true (by omega)
      have j0 : (0 : Int) ≤ (j : Int) := by omega
      have j1 : (j : Int) < (k : Int) := by omega
      have hw8 : IntKind.i64.wrap (8 * (j : Int)) = 8 * (j : Int) := by rw [IntKind.wrap_i64]; omega
      clear hwr HR hsl
      go_wp2
      go_roundw
      case rel => first | exact HFN.out | ((repeat apply Exists.intro); exact ⟨HFN.out, rfl⟩)
      case measure => (simp [intOf]) <;> omega
    · obtain rfl : j = k := by omega
      have dj : decide ((j : Int) < (j : Int)) = false := decide_eq_false (by omega)
      go_wp2
      go_end0
      exact ⟨rfl, by first | rfl | exact hwr⟩
theorem or_num (a x j : Nat) (ha : a < 256 ^ j) (hx : x < 256) (hj : j < 8) : bits .or .u64 (a : Int) (IntKind.u64.wrap ((x : Int) * 2 ^ (8 * j))) = ((a + 256 ^ j * x : Nat) : Int) := by
  rw [pow256] at ha ⊢
  have hp : 2 ^ (8 * j) * 256 ≤ 18446744073709551616 := by
    have h1 : 2 ^ (8 * j) * 256 = 2 ^ (8 * j + 8) := by rw [Nat.pow_add]
    have h2 : 2 ^ (8 * j + 8) ≤ 2 ^ 64 := Nat.pow_le_pow_right (by omega) (by omega)
    rw [h1]
    exact h2
  have hx2 : 2 ^ (8 * j) * x < 18446744073709551616 := by
    have h1 : 2 ^ (8 * j) * (x + 1) ≤ 2 ^ (8 * j) * 256 := Nat.mul_le_mul_left _ (by omega)
    have h2 := Nat.two_pow_pos (8 * j)
    rw [Nat.mul_add] at h1
    omega
  have e1 : (x : Int) * 2 ^ (8 * j) = ((2 ^ (8 * j) * x : Nat) : Int) := by push_cast; rw [Int.mul_comm]
  have e2 : IntKind.u64.wrap ((2 ^ (8 * j) * x : Nat) : Int) = ((2 ^ (8 * j) * x : Nat) : Int) := by rw [IntKind.wrap_u64]; omega
  have h3 : 2 ^ (8 * j) ≤ 18446744073709551616 := by omega
  rw [e1, e2, u64_or_nat _ _ (by omega) hx2, Nat.or_comm, ← Nat.two_pow_add_eq_or_of_lt ha, Nat.add_comm]
set_option maxHeartbeats 1000000 in
theorem number_any (a : Option Addr) (k cap : Nat) (l : List UInt8) (w : World) (hB : Bytes w a k (l.map UInt8.toNat)) (hk : k ≤ 8) :
    Calls Tryz.prog 125 #[.slice a k cap] w fun e w' => e = .returned (.int .u64 (Wl.getL l : Nat)) ∧ w' = w := by
  obtain ⟨hl, hlt, hmax, hc⟩ := hB
  rw [List.length_map] at hl
  go_enter Tryz.func125, Tryz.ntmps125
  go_wp2_with fail
  go_loopw [3, 4, 5, 8] (fun s3 _ _ s8 wr => ∃ j : Nat, j ≤ k ∧ s8 = .int .i64 (j : Int) ∧ s3 = .int .u64 ((Wl.getL (l.take j) : Nat) : Int) ∧ wr = w) (fun _ _ _ s8 _ => k - (intOf s8).toNat)
  case atStart => exact ⟨0, by omega, rfl, rfl, rfl⟩
  case round =>
    obtain ⟨j, hj, rfl, rfl, hwr⟩ := hrel
    subst hwr
    by_cases hjk : j < k
    · rcases hc with h0 | ⟨b, off, rfl, hc⟩
      · omega
      have hcell := hc j hjk
      have dj : decide ((j : Int) < (k : Int)) = true := decide_eq_true (by omega)
      have j0 : (0 : Int) ≤ (j : Int) := by omega
      have j1 : (j : Int) < (k : Int) := by omega
      have hx := getD_lt hlt j (by rw [List.length_map]; omega)
      have hg := Wl.getL_lt (l.take j)
      rw [List.length_take, Nat.min_eq_left (by omega)] at hg
      have hsn : Wl.getL (l.take (j + 1)) = Wl.getL (l.take j) + 256 ^ j * (l.map UInt8.toNat).getD j 0 := by
        have hjl : j < l.length := by omega
        have e := Wl.getL_split (l.take (j + 1)) j (by rw [List.length_take]; omega)
        rw [List.take_take, Nat.min_eq_left (by omega), List.take_succ_eq_append_getElem hjl, List.drop_left' (by rw [List.length_take]; omega)] at e
        rw [List.take_succ_eq_append_getElem hjl, e, List.getD_eq_getElem?_getD, List.getElem?_map, List.getElem?_eq_getElem hjl]
        simp [Wl.getL]
      have hor := or_num (Wl.getL (l.take j)) ((l.map UInt8.toNat).getD j 0) j hg hx (by omega)
      rw [← hsn] at hor
      have HFN : Hid (∃ j' : Nat, j' ≤ k ∧ Value.int .i64 ((j : Int) + 1) = .int .i64 (j' : Int) ∧ Value.int .u64 ((Wl.getL (l.take (j + 1)) : Nat) : Int) = .int .u64 ((Wl.getL (l.take j') : Nat) : Int)) := ⟨j + 1, by omega, by go_num, rfl⟩
      clear hc hlt hl hsn
      generalize Wl.getL (l.take (j + 1)) = z at *
      generalize Wl.getL (l.take j) = y at *
      generalize (l.map UInt8.toNat).getD j 0 = x at *
      go_wp2
      go_roundw
      case rel =>
        obtain ⟨j', h1, h2, h3⟩ := HFN.out
        exact ⟨j', h1, h2, h3, trivial⟩
      case measure => (simp [intOf]) <;> omega
    · obtain rfl : j = k := by omega
      have dj : decide ((j : Int) < (j : Int)) = false := decide_eq_false (by omega)
      have HE : Hid (Wl.getL (l.take j) = Wl.getL l) := by rw [List.take_of_length_le (by omega)]; trivial
      generalize Wl.getL (l.take j) = z at *
      go_wp2
      go_ret
      exact ⟨by rw [HE.out]; rfl, rfl⟩
end Go.Proofs.YtcfninpokngmlaaGreatDoor
