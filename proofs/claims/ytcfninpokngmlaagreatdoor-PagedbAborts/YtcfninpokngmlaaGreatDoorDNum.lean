/- Proved: what pagedb's numberText, number, recordSize, isRoot and at answer. -/
import Derived.Test.YtcfninpokngmlaaGreatDoorPgSec
import Derived.Test.YtcfninpokngmlaaGreatDoorDRec
namespace Go.Proofs.YtcfninpokngmlaaGreatDoor
open Go.RowKit
def zq4 : Array Value := (List.replicate 4 zv).toArray
theorem zero4 (W : World) : (zeroValue 167).run Tryz.prog W = .ok (.agg zq4) W := by kernel_rfl
theorem shr_i64 (n j : Nat) (hj : j ≤ 4) : (n : Int).fdiv (2 ^ min (8 * (j : Int)).toNat IntKind.i64.bits) = (n : Int) / 2 ^ (8 * j) := by
  have e : min (8 * (j : Int)).toNat IntKind.i64.bits = 8 * j := by
    show min (8 * (j : Int)).toNat 64 = 8 * j
    omega
  rw [e]
  exact Int.fdiv_eq_ediv_of_nonneg _ (Int.le_of_lt (Int.pow_pos (by omega)))
set_option maxHeartbeats 1000000 in
theorem ntext_any (n : Nat) (w : World) :
    Calls Tryz.prog 90 #[.int .i64 (n : Int)] w fun e w' => e = .returned (.string (Wl.put n 4)) ∧ Below w.heap.size w w' := by
  have HB0 : Hid (Below w.heap.size w (w.alloc (.cells zq4 167))) := (Below.refl _ _).alloc (Nat.le_refl _) _
  have HG : Hid ((w.alloc (.cells zq4 167)).heap[w.heap.size]? = some (.cells (List.replicate 4 zv).toArray 167 (0, 0))) := heap_alloc_new w _
  have hz := zero4
  go_enter Tryz.func90, Tryz.ntmps90
  go_wp2_with fail
  generalize World.alloc w _ = w0 at *
  go_loopw [4, 5] (fun _ s5 wr => ∃ j : Nat, j ≤ 4 ∧ s5 = .int .i64 (j : Int) ∧ wr = w0.setCells w.heap.size 0 (nc n j)) (fun _ s5 _ => 4 - (intOf s5).toNat)
  case atStart => exact ⟨0, by omega, rfl, rfl⟩
  case round =>
    obtain ⟨j, hj, rfl, hwr⟩ := hrel
    have HR : Hid ((w0.setCells w.heap.size 0 (nc n j)).heap[w.heap.size]? = some (.cells (splice (List.replicate 4 zv) 0 (nc n j)).toArray 167 (0, 0))) := setCells_splice w.heap.size 167 _ 0 _ w0 HG.out (by rw [nc_length, List.length_replicate]; omega)
    rw [← hwr] at HR
    by_cases hjk : j < 4
    · have hsl : (splice (List.replicate 4 zv) 0 (nc n j)).length = 4 := by unfold splice; rw [List.length_append, List.length_append, List.length_take, List.length_drop, nc_length, List.length_replicate]; omega
      have HFN : Hid (∃ j' : Nat, j' ≤ 4 ∧ Value.int .i64 ((j : Int) + 1) = .int .i64 (j' : Int) ∧ wr.setCell ⟨w.heap.size, j, none⟩ (.int .u8 ((n : Int) / 2 ^ (8 * j) % 256)) = w0.setCells w.heap.size 0 (nc n j')) := ⟨j + 1, by omega, by go_num, by
        rw [hwr, nc_succ, shr_num]
        have := setCells_snoc w.heap.size (.int .u8 ((n / 256 ^ j % 256 : Nat) : Int)) (nc n j) 0 w0
        rw [nc_length, Nat.zero_add] at this
        exact this⟩
      obtain ⟨u, hu⟩ : ∃ u, wr.cell? ⟨w.heap.size, j, none⟩ = some u := ⟨_, by rw [cell_of_row wr _ _ _ _ (0, 0) HR.out, Array.getElem?_eq_getElem (by rw [List.size_toArray]; omega)]⟩
      have hf : wr.frozen? ⟨w.heap.size, j, none⟩ = false := frozen_of_row wr _ _ _ _ HR.out
      have dj : decide ((j : Int) < 4) = true := decide_eq_true (by omega)
      have j0 : (0 : Int) ≤ (j : Int) := by omega
      have j1 : (j : Int) < 4 := by omega
      have hw8 : IntKind.i64.wrap (8 * (j : Int)) = 8 * (j : Int) := by rw [IntKind.wrap_i64]; omega
      have hsh := shr_i64 n j (by omega)
      clear hwr HR hsl
      go_wp2
      go_roundw
      case rel => first | exact HFN.out | ((repeat apply Exists.intro); exact ⟨HFN.out, rfl⟩)
      case measure => (simp [intOf]) <;> omega
    · obtain rfl : j = 4 := by omega
      have dj : decide (((4 : Nat) : Int) < 4) = false := decide_eq_false (by omega)
      rw [splice_all _ _ (by rw [nc_length, List.length_replicate]), nc_bc] at HR
      have hcv := str_of (x := Wl.put n 4) (range_all HR.out) 4
      rw [Wl.put_size] at hcv
      have HB1 : Hid (Below w.heap.size w wr) := by
        rw [hwr]; exact below_setCells (Nat.le_refl _) _ _ _ HB0.out
      clear hwr HR
      go_wp2
      go_ret
      exact ⟨rfl, HB1.out⟩
theorem i64_or_nat (a b : Nat) (ha : a < 4294967296) (hb : b < 4294967296) : bits .or .i64 (a : Int) (b : Int) = ((a ||| b : Nat) : Int) := by
  have hx : a ||| b < 2 ^ 32 := Nat.or_lt_two_pow (by omega) (by omega)
  show IntKind.i64.wrap ((BitVec.ofInt 64 (a : Int) ||| BitVec.ofInt 64 (b : Int)).toNat : Int) = _
  rw [BitVec.toNat_or, ofInt_u64 a (by omega), ofInt_u64 b (by omega), IntKind.wrap_i64]
  omega
theorem or_i64 (a x j : Nat) (ha : a < 256 ^ j) (hx : x < 256) (hj : j < 4) : bits .or .i64 (a : Int) (wrap64 ((x : Int) * 2 ^ (8 * j))) = ((a + 256 ^ j * x : Nat) : Int) := by
  rw [pow256] at ha ⊢
  have hp : 2 ^ (8 * j) * 256 ≤ 4294967296 := by
    have h1 : 2 ^ (8 * j) * 256 = 2 ^ (8 * j + 8) := by rw [Nat.pow_add]
    have h2 : 2 ^ (8 * j + 8) ≤ 2 ^ 32 := Nat.pow_le_pow_right (by omega) (by omega)
    rw [h1]
    exact h2
  have hx2 : 2 ^ (8 * j) * x < 4294967296 := by
    have h1 : 2 ^ (8 * j) * (x + 1) ≤ 2 ^ (8 * j) * 256 := Nat.mul_le_mul_left _ (by omega)
    have h2 := Nat.two_pow_pos (8 * j)
    rw [Nat.mul_add] at h1
    omega
  have e1 : (x : Int) * 2 ^ (8 * j) = ((2 ^ (8 * j) * x : Nat) : Int) := by push_cast; rw [Int.mul_comm]
  have e2 : wrap64 ((2 ^ (8 * j) * x : Nat) : Int) = ((2 ^ (8 * j) * x : Nat) : Int) := by unfold wrap64; omega
  have h3 : 2 ^ (8 * j) ≤ 4294967296 := by omega
  rw [e1, e2, i64_or_nat _ _ (by omega) (by omega), Nat.or_comm, ← Nat.two_pow_add_eq_or_of_lt ha, Nat.add_comm]
set_option maxHeartbeats 1000000 in
theorem dnumber_any (s : ByteArray) (w : World) (hs : 4 ≤ s.size) :
    Calls Tryz.prog 102 #[.string s] w fun e w' => e = .returned (.int .i64 (Pd.numb s : Nat)) ∧ w' = w := by
  have HZ : Hid (s.size = s.data.toList.length) := Sc.size_eq s
  go_enter Tryz.func102, Tryz.ntmps102
  go_wp2_with fail
  go_loopw [3, 4, 5] (fun s3 _ s5 wr => ∃ j : Nat, j ≤ 4 ∧ s5 = .int .i64 (j : Int) ∧ s3 = .int .i64 ((Wl.getL (s.data.toList.take j) : Nat) : Int) ∧ wr = w) (fun _ _ s5 _ => 4 - (intOf s5).toNat)
  case atStart => exact ⟨0, by omega, rfl, rfl, rfl⟩
  case round =>
    obtain ⟨j, hj, rfl, rfl, hwr⟩ := hrel
    subst hwr
    by_cases hjk : j < 4
    · have hsz := HZ.out
      obtain ⟨c, hc⟩ : ∃ c, s.data.toList[j]? = some c := ⟨_, List.getElem?_eq_getElem (by omega)⟩
      have hb : ∀ h, (s[j]'h) = c := fun h => byte_at s j c hc h
      have dj : decide ((j : Int) < 4) = true := decide_eq_true (by omega)
      have j0 : (0 : Int) ≤ (j : Int) := by omega
      have j1 : (j : Int) < (s.size : Int) := by omega
      have hg := Wl.getL_lt (s.data.toList.take j)
      rw [List.length_take, Nat.min_eq_left (by omega)] at hg
      have hsn : Wl.getL (s.data.toList.take (j + 1)) = Wl.getL (s.data.toList.take j) + 256 ^ j * c.toNat := by
        have hjl : j < s.data.toList.length := by omega
        have e := Wl.getL_split (s.data.toList.take (j + 1)) j (by rw [List.length_take]; omega)
        have hc2 := (List.getElem?_eq_some_iff.1 hc).2
        rw [List.take_take, Nat.min_eq_left (by omega), List.take_succ_eq_append_getElem hjl, List.drop_left' (by rw [List.length_take]; omega), hc2] at e
        rw [List.take_succ_eq_append_getElem hjl, hc2, e]
        simp [Wl.getL]
      have hor := or_i64 (Wl.getL (s.data.toList.take j)) c.toNat j hg c.toNat_lt (by omega)
      rw [← hsn] at hor
      have HFN : Hid (∃ j' : Nat, j' ≤ 4 ∧ Value.int .i64 ((j : Int) + 1) = .int .i64 (j' : Int) ∧ Value.int .i64 ((Wl.getL (s.data.toList.take (j + 1)) : Nat) : Int) = .int .i64 ((Wl.getL (s.data.toList.take j') : Nat) : Int)) := ⟨j + 1, by omega, by go_num, rfl⟩
      have hw8 : IntKind.i64.wrap (8 * (j : Int)) = 8 * (j : Int) := by rw [IntKind.wrap_i64]; omega
      have hwc : IntKind.i64.wrap (c.toNat : Int) = (c.toNat : Int) := by rw [IntKind.wrap_i64]; have := c.toNat_lt; omega
      clear hsn hc hsz
      generalize Wl.getL (s.data.toList.take (j + 1)) = z at *
      generalize Wl.getL (s.data.toList.take j) = y at *
      go_wp2
      go_roundw
      case rel =>
        obtain ⟨j', h1, h2, h3⟩ := HFN.out
        exact ⟨j', h1, h2, h3, trivial⟩
      case measure => (simp [intOf]) <;> omega
    · obtain rfl : j = 4 := by omega
      have dj : decide (((4 : Nat) : Int) < 4) = false := decide_eq_false (by omega)
      have HE : Hid (Wl.getL (s.data.toList.take 4) = Pd.numb s) := rfl
      generalize Wl.getL (s.data.toList.take 4) = z at *
      go_wp2
      go_ret
      exact ⟨by rw [HE.out]; rfl, rfl⟩
theorem rsize_any (k : Nat) (w : World) (hk : k ≤ 100000) :
    Calls Tryz.prog 91 #[.int .i64 (k : Int)] w fun e w' => e = .returned (.int .i64 ((4 + 516 * k : Nat) : Int)) ∧ w' = w := by
  have h1 : IntKind.i64.wrap (516 * (k : Int)) = 516 * (k : Int) := by rw [IntKind.wrap_i64]; omega
  have h2 : IntKind.i64.wrap (4 + 516 * (k : Int)) = ((4 + 516 * k : Nat) : Int) := by rw [IntKind.wrap_i64]; omega
  go_enter Tryz.func91, Tryz.ntmps91
  go_wp2
  go_ret
  refine ⟨?_, rfl⟩
  first | rfl | (congr 2; omega)
def isR (i : Int) : Bool := decide (0 ≤ i) && decide (i < 4)
theorem isroot_any (i : Int) (w : World) :
    Calls Tryz.prog 52 #[.int .i64 i] w fun e w' => e = .returned (.bool (isR i)) ∧ w' = w := by
  unfold isR
  by_cases h1 : 0 ≤ i
  · have d1 : decide (0 ≤ i) = true := decide_eq_true h1
    have d1' : decide (i ≥ 0) = true := decide_eq_true h1
    by_cases h2 : i < 4
    · have d2 : decide (i < 4) = true := decide_eq_true h2
      go_enter Tryz.func52, Tryz.ntmps52
      go_wp2
      go_ret
      exact ⟨by first | rfl | (rw [d1, d2]; rfl), rfl⟩
    · have d2 : decide (i < 4) = false := decide_eq_false h2
      go_enter Tryz.func52, Tryz.ntmps52
      go_wp2
      go_ret
      exact ⟨by first | rfl | (rw [d1, d2]; rfl), rfl⟩
  · have d1 : decide (0 ≤ i) = false := decide_eq_false h1
    have d1' : decide (i ≥ 0) = false := decide_eq_false h1
    go_enter Tryz.func52, Tryz.ntmps52
    go_wp2
    go_ret
    exact ⟨by first | rfl | (rw [d1]; rfl), rfl⟩
end Go.Proofs.YtcfninpokngmlaaGreatDoor
