/- Proved: what page's low and number answer: a number as bytes, the lowest first, and back. -/
import Derived.Test.YtcfninpokngmlaaGreatDoorLGood
import Derived.Test.YtcfninpokngmlaaGreatDoorMathG
import Derived.Deep.OwnRows
namespace Go.Proofs.YtcfninpokngmlaaGreatDoor
open Go.RowKit
theorem pg_info_u8 : Tryz.prog.info? 5 = some Tryz.t5 := by kernel_rfl
def zv : Value := .int .u8 0
theorem made_list (n : Nat) : madeCells #[zv] n = (List.replicate n zv).toArray := by
  apply Array.ext
  · simp [madeCells]
  · intro i h1 h2
    simp [madeCells]
    simp [Nat.mod_one]
theorem shr_u32 (n j : Nat) (hj : j ≤ 4) : (n : Int).fdiv (2 ^ min (8 * (j : Int)).toNat IntKind.u32.bits) = (n : Int) / 2 ^ (8 * j) := by
  have e : min (8 * (j : Int)).toNat IntKind.u32.bits = 8 * j := by
    show min (8 * (j : Int)).toNat 32 = 8 * j
    omega
  rw [e]
  exact Int.fdiv_eq_ediv_of_nonneg _ (Int.le_of_lt (Int.pow_pos (by omega)))
theorem splice_all {α : Type} (a b : List α) (h : b.length = a.length) : splice a 0 b = b := by
  unfold splice
  rw [List.take_zero, List.nil_append, Nat.zero_add, h, List.drop_length, List.append_nil]
set_option maxHeartbeats 1000000 in
theorem low_any (n k : Nat) (w : World) (hk : k ≤ 4) :
    Calls Tryz.prog 133 #[.int .u32 (n : Int), .int .i64 (k : Int)] w fun e w' => e = .returned (.string (Wl.put n k)) ∧ Below w.heap.size w w' := by
  have HB0 : Hid (Below w.heap.size w (w.alloc (.cells (madeCells #[zv] k) 5))) := (Below.refl _ _).alloc (Nat.le_refl _) _
  have HG : Hid ((w.alloc (.cells (madeCells #[zv] k) 5)).heap[w.heap.size]? = some (.cells (List.replicate k zv).toArray 5 (0, 0))) := by
    rw [← made_list]; exact heap_alloc_new w _
  go_enter Tryz.func133, Tryz.ntmps133
  go_wp2_with (at_make; refine wpList_make_row _ rfl _ _ 138 rfl 5 Tryz.t5 zv Tryz.underlying138 pg_info_u8 rfl rfl rfl .i64 .i64 k rfl rfl (by simp [Tryz.t5]; omega) (by omega) ?_; generalize World.alloc w _ = w0 at *)
  go_loopw [6, 11] (fun _ s11 wr => ∃ j : Nat, j ≤ k ∧ s11 = .int .i64 (j : Int) ∧ wr = w0.setCells w.heap.size 0 (nc n j)) (fun _ s11 _ => k - (intOf s11).toNat)
  case atStart => exact ⟨0, by omega, rfl, rfl⟩
  case round =>
    obtain ⟨j, hj, rfl, hwr⟩ := hrel
    have HR : Hid ((w0.setCells w.heap.size 0 (nc n j)).heap[w.heap.size]? = some (.cells (splice (List.replicate k zv) 0 (nc n j)).toArray 5 (0, 0))) := setCells_splice w.heap.size 5 _ 0 _ w0 HG.out (by rw [nc_length, List.length_replicate]; omega)
    rw [← hwr] at HR
    by_cases hjk : j < k
    · have hsl : (splice (List.replicate k zv) 0 (nc n j)).length = k := by unfold splice; rw [List.length_append, List.length_append, List.length_take, List.length_drop, nc_length, List.length_replicate]; omega
      have HFN : Hid (∃ j' : Nat, j' ≤ k ∧ Value.int .i64 ((j : Int) + 1) = .int .i64 (j' : Int) ∧ wr.setCell ⟨w.heap.size, j, none⟩ (.int .u8 ((n : Int) / 2 ^ (8 * j) % 256)) = w0.setCells w.heap.size 0 (nc n j')) := ⟨j + 1, by omega, by go_num, by
        rw [hwr, nc_succ, shr_num]
        have := setCells_snoc w.heap.size (.int .u8 ((n / 256 ^ j % 256 : Nat) : Int)) (nc n j) 0 w0
        rw [nc_length, Nat.zero_add] at this
        exact this⟩
      obtain ⟨u, hu⟩ : ∃ u, wr.cell? ⟨w.heap.size, j, none⟩ = some u := ⟨_, by rw [cell_of_row wr _ _ _ _ (0, 0) HR.out, Array.getElem?_eq_getElem (by rw [List.size_toArray]; omega)]⟩
      have hf : wr.frozen? ⟨w.heap.size, j, none⟩ = false := frozen_of_row wr _ _ _ _ HR.out
      have dj : decide ((j : Int) < (k : Int)) = true := decide_eq_true (by omega)
      have j0 : (0 : Int) ≤ (j : Int) := by omega
      have j1 : (j : Int) < (k : Int) := by omega
      have hw8 : IntKind.i64.wrap (8 * (j : Int)) = 8 * (j : Int) := by rw [IntKind.wrap_i64]; omega
      have hsh := shr_u32 n j (by omega)
      clear hwr HR hsl
      go_wp2
      go_roundw
      case rel => first | exact HFN.out | ((repeat apply Exists.intro); exact ⟨HFN.out, rfl⟩)
      case measure => (simp [intOf]) <;> omega
    · obtain rfl : j = k := by omega
      have dj : decide ((j : Int) < (j : Int)) = false := decide_eq_false (by omega)
      rw [splice_all _ _ (by rw [nc_length, List.length_replicate]), nc_bc] at HR
      have hcv := str_of (x := Wl.put n j) (range_all HR.out) j
      rw [Wl.put_size] at hcv
      have HB1 : Hid (Below w.heap.size w wr) := by
        rw [hwr]; exact below_setCells (Nat.le_refl _) _ _ _ HB0.out
      clear hwr HR
      go_wp2
      go_ret
      exact ⟨rfl, HB1.out⟩
theorem pg_or_num (a x j : Nat) (ha : a < 256 ^ j) (hx : x < 256) (hj : j < 4) : bits .or .u32 (a : Int) (IntKind.u32.wrap ((x : Int) * 2 ^ (8 * j))) = ((a + 256 ^ j * x : Nat) : Int) := by
  rw [pow256] at ha ⊢
  have hp : 2 ^ (8 * j) * 256 ≤ 4294967296 := by
    have h1 : 2 ^ (8 * j) * 256 = 2 ^ (8 * j + 8) := by rw [Nat.pow_add]
    have h2 : 2 ^ (8 * j + 8) ≤ 2 ^ 32 := Nat.pow_le_pow_right (by omega) (by omega)
    rw [h1]
    exact h2
  have hx2 : 2 ^ (8 * j) * x < 4294967296 := by
    have h1 : 2 ^ (8 * j) * (x + 1) ≤ 2 ^ (8 * j) * 256 := Nat.mul_le_mul_left _ (by omega)
    have h2 := Nat.two_pow_pos (8 * j)
    rw [Nat.mul_add] at h1
    omega
  have e1 : (x : Int) * 2 ^ (8 * j) = ((2 ^ (8 * j) * x : Nat) : Int) := by push_cast; rw [Int.mul_comm]
  have e2 : IntKind.u32.wrap ((2 ^ (8 * j) * x : Nat) : Int) = ((2 ^ (8 * j) * x : Nat) : Int) := by rw [IntKind.wrap_u32]; omega
  have h3 : 2 ^ (8 * j) ≤ 4294967296 := by omega
  rw [e1, e2, u32_or_nat _ _ (by omega) hx2, Nat.or_comm, ← Nat.two_pow_add_eq_or_of_lt ha, Nat.add_comm]
theorem or_num2 (a x j : Nat) (ha : a < 256 ^ j) (hx : x < 256) (hj : j < 4) : bits .or .u32 (a : Int) ((x : Int) % 4294967296 * 2 ^ (8 * j) % 4294967296) = ((a + 256 ^ j * x : Nat) : Int) := by
  have h := pg_or_num a x j ha hx hj
  rw [IntKind.wrap_u32] at h
  rw [show (x : Int) % 4294967296 = (x : Int) by omega]
  exact h
set_option maxHeartbeats 1000000 in
theorem pg_number_any (s : ByteArray) (w : World) (hs : s.size ≤ 4) :
    Calls Tryz.prog 115 #[.string s] w fun e w' => e = .returned (.int .u32 (Wl.getL s.data.toList : Nat)) ∧ w' = w := by
  have HZ : Hid (s.size = s.data.toList.length) := Sc.size_eq s
  go_enter Tryz.func115, Tryz.ntmps115
  go_wp2_with fail
  go_loopw [3, 4, 7] (fun s3 _ s7 wr => ∃ j : Nat, j ≤ s.size ∧ s7 = .int .i64 (j : Int) ∧ s3 = .int .u32 ((Wl.getL (s.data.toList.take j) : Nat) : Int) ∧ wr = w) (fun _ _ s7 _ => s.size - (intOf s7).toNat)
  case atStart => exact ⟨0, by omega, rfl, rfl, rfl⟩
  case round =>
    obtain ⟨j, hj, rfl, rfl, hwr⟩ := hrel
    subst hwr
    by_cases hjk : j < s.size
    · have hsz := HZ.out
      obtain ⟨c, hc⟩ : ∃ c, s.data.toList[j]? = some c := ⟨_, List.getElem?_eq_getElem (by omega)⟩
      have hb : ∀ h, (s[j]'h) = c := fun h => byte_at s j c hc h
      have dj : decide ((j : Int) < (s.size : Int)) = true := decide_eq_true (by omega)
      have j0 : (0 : Int) ≤ (j : Int) := by omega
      have j1 : (j : Int) < (s.size : Int) := by omega
      have hg := Wl.getL_lt (s.data.toList.take j)
      rw [List.length_take, Nat.min_eq_left (by omega)] at hg
      have hsn : Wl.getL (s.data.toList.take (j + 1)) = Wl.getL (s.data.toList.take j) + 256 ^ j * c.toNat := by
        have hjl : j < s.data.toList.length := by omega
        have e := Wl.getL_split (s.data.toList.take (j + 1)) j (by rw [List.length_take]; omega)
        have hc2 := (List.getElem?_eq_some_iff.1 hc).2
        rw [List.take_take, Nat.min_eq_left (by omega), List.take_succ_eq_append_getElem hjl, List.drop_left' (by rw [List.length_take]; omega), hc2] at e
        rw [List.take_succ_eq_append_getElem hjl, hc2, e]
        simp [Wl.getL]
      have hor := or_num2 (Wl.getL (s.data.toList.take j)) c.toNat j hg c.toNat_lt (by omega)
      rw [← hsn] at hor
      have HFN : Hid (∃ j' : Nat, j' ≤ s.size ∧ Value.int .i64 ((j : Int) + 1) = .int .i64 (j' : Int) ∧ Value.int .u32 ((Wl.getL (s.data.toList.take (j + 1)) : Nat) : Int) = .int .u32 ((Wl.getL (s.data.toList.take j') : Nat) : Int)) := ⟨j + 1, by omega, by go_num, rfl⟩
      have hw8 : IntKind.i64.wrap (8 * (j : Int)) = 8 * (j : Int) := by rw [IntKind.wrap_i64]; omega
      clear hsn hc hsz
      generalize Wl.getL (s.data.toList.take (j + 1)) = z at *
      generalize Wl.getL (s.data.toList.take j) = y at *
      go_wp2
      go_roundw
      case rel =>
        obtain ⟨j', h1, h2, h3⟩ := HFN.out
        exact ⟨j', h1, h2, h3, trivial⟩
      case measure => (simp [intOf]) <;> omega
    · have hsz := HZ.out
      obtain rfl : j = s.size := by omega
      have dj : decide ((s.size : Int) < (s.size : Int)) = false := decide_eq_false (by omega)
      have HE : Hid (Wl.getL (s.data.toList.take s.size) = Wl.getL s.data.toList) := by rw [List.take_of_length_le (by omega)]; trivial
      clear hsz
      generalize Wl.getL (s.data.toList.take s.size) = z at *
      go_wp2
      go_ret
      exact ⟨by rw [HE.out]; rfl, rfl⟩
end Go.Proofs.YtcfninpokngmlaaGreatDoor
