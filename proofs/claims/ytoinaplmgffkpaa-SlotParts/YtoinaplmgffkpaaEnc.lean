/- Proved: what slot's appendText and appendFour answer (stage 11). -/
import Derived.Test.YtoinaplmgffkpaaBts
namespace Go.Proofs.Ytoinaplmgffkpaa
open Go.RowKit
open Sl (Cel Nod)
def four : Nat → Nat → List Nat
  | _, 0 => []
  | x, k + 1 => four x k ++ [x / 256 ^ k % 256]
theorem four_length (x k : Nat) : (four x k).length = k := by
  induction k with
  | zero => rfl
  | succ k ih => rw [four, List.length_append, ih]; rfl
theorem pow256 (j : Nat) : (256 : Nat) ^ j = 2 ^ (8 * j) := by rw [Nat.pow_mul]
theorem shr_num (n j : Nat) : (n : Int) / 2 ^ (8 * j) % 256 = ((n / 256 ^ j % 256 : Nat) : Int) := by
  rw [pow256]
  rw [show ((2 : Int) ^ (8 * j)) = ((2 ^ (8 * j) : Nat) : Int) by push_cast; rfl]
  omega
def tx (s : ByteArray) : List Nat := s.size :: bl s
set_option maxHeartbeats 1000000 in
theorem atext_any (w : World) (N : Nat) (v : Value) (n : Nat) (vs : List Nat) (s : ByteArray) (hown : w.ownsRow N 5 1 v n (vs.map V8)) (hN : N ≤ w.heap.size) (hs : s.size ≤ 255) (hn : n ≤ 300000) :
    Calls Try.prog 69 #[v, .string s] w fun e w' => ∃ v', e = .returned v' ∧ w'.ownsRow N 5 1 v' (n + (tx s).length) ((vs ++ tx s).map V8) ∧ Grew w v w' v' := by
  have HO : Hid (w.ownsRow N 5 1 v n (vs.map V8)) := hown
  clear hown
  have i0 : (s.size : Int) ≤ 255 := by omega
  have i1 : (s.size : Int) % 256 = (s.size : Int) := by omega
  have HC : Hid (∀ j u, ([s.size].map V8)[j]? = some u → (w.alloc (.cells #[.int .u8 (s.size : Int)] 5)).cell? ((⟨w.heap.size, 0, none⟩ : Addr).add j) = some u) := one_cells w _ s.size rfl
  have HLN : Is (n + 1 + s.size) (n + (tx s).length) := ⟨by unfold tx; rw [List.length_cons, bl_length]; omega⟩
  have HTX : Is (vs ++ [s.size] ++ bl s) (vs ++ tx s) := ⟨by unfold tx; simp⟩
  go_enter Try.func69, Try.ntmps69
  go_wp2_with (first
    | (refine app_bytes rfl (.tmp 5) (.tmp 9) rfl _ N _ n vs rfl (own_alloc8 HO.out _) ⟨w.heap.size, 0, none⟩ 1 1 [s.size] rfl rfl HC.out (by omega) (by simp; omega) ?_; intro v1 w1 hO1 hG1; have HO1 : Hid (w1.ownsRow N 5 1 v1 (n + 1) ((vs ++ [s.size]).map V8)) := hO1; have HG1 : Hid (Grew w v w1 v1) := ((Grew.refl w v).alloc _).trans hG1; clear hO1 hG1; have hz1 := HG1.out.by_.size)
    | (refine app_text rfl (.tmp 10) (.tmp 11) rfl _ N _ (n + 1) (vs ++ [s.size]) rfl HO1.out s rfl (by omega) (by omega) ?_; intro v2 w2 hO2 hG2; have HO2 : Hid (w2.ownsRow N 5 1 v2 (n + 1 + s.size) ((vs ++ [s.size] ++ bl s).map V8)) := hO2; have HG2 : Hid (Grew w v w2 v2) := HG1.out.trans hG2; clear hO2 hG2))
  go_ret
  refine ⟨v2, rfl, ?_, HG2.out⟩
  have h := HO2.out
  rw [HTX.eq, HLN.eq] at h
  exact h
theorem min_bits (j : Nat) (hj : j ≤ 4) : (2 : Int) ^ min (8 * (j : Int)).toNat IntKind.i64.bits = 2 ^ (8 * j) := by
  congr 1
  have : IntKind.i64.bits = 64 := rfl
  rw [this]
  omega
set_option maxHeartbeats 1000000 in
theorem afour_any (w : World) (N : Nat) (v : Value) (n : Nat) (vs : List Nat) (x : Nat) (hown : w.ownsRow N 5 1 v n (vs.map V8)) (hN : N ≤ w.heap.size) (_hx : x ≤ 4294967295) (hn : n ≤ 300000) :
    Calls Try.prog 70 #[v, .int .i64 (x : Int)] w fun e w' => ∃ v', e = .returned v' ∧ w'.ownsRow N 5 1 v' (n + 4) ((vs ++ four x 4).map V8) ∧ Grew w v w' v' := by
  have HO : Hid (w.ownsRow N 5 1 v n (vs.map V8)) := hown
  clear hown
  go_enter Try.func70, Try.ntmps70
  go_wp2_with fail
  go_loopw [0, 6] (fun s0 s6 wr => ∃ k : Nat, k ≤ 4 ∧ s6 = .int .i64 k ∧ wr.ownsRow N 5 1 s0 (n + k) ((vs ++ four x k).map V8) ∧ Grew w v wr s0) (fun _ s6 _ => 4 - (intOf s6).toNat)
  case atStart => exact ⟨0, by omega, rfl, by unfold four; rw [List.append_nil]; exact HO.out, Grew.refl _ _⟩
  case round =>
    obtain ⟨k, hk, rfl, hO, hG⟩ := hrel
    have HO1 := (show Hid (wr.ownsRow N 5 1 _ (n + k) ((vs ++ four x k).map V8)) from hO)
    have HG1 := (show Hid (Grew w v wr _) from hG)
    have hz := hG.by_.size
    clear hO hG HO
    by_cases hlt : k < 4
    · have i0 : decide ((k : Int) < 4) = true := decide_eq_true (by omega)
      have hw8 : IntKind.i64.wrap (8 * (k : Int)) = 8 * (k : Int) := by rw [IntKind.wrap_i64]; omega
      have hmb := min_bits k hk
      have hsh : (x : Int) / 2 ^ (8 * k) % 256 = ((x / 256 ^ k % 256 : Nat) : Int) := shr_num x k
      have hfd : (x : Int).fdiv (2 ^ (8 * k)) = (x : Int) / 2 ^ (8 * k) := by
        rw [Int.fdiv_eq_ediv_of_nonneg]
        exact Int.pow_nonneg (by omega)
      have HF4 : Is (vs ++ four x k ++ [x / 256 ^ k % 256]) (vs ++ four x (k + 1)) := ⟨by rw [four]; simp⟩
      generalize x / 256 ^ k % 256 = y at *
      have HC : Hid (∀ j u, ([y].map V8)[j]? = some u → (wr.alloc (.cells #[.int .u8 (y : Int)] 5)).cell? ((⟨wr.heap.size, 0, none⟩ : Addr).add j) = some u) := one_cells wr _ y rfl
      go_wp2_with (first | (refine app_bytes rfl (.tmp 9) (.tmp 15) rfl _ N _ (n + k) (vs ++ four x k) rfl (own_alloc8 HO1.out _) ⟨wr.heap.size, 0, none⟩ 1 1 [y] rfl rfl HC.out (by omega) (by simp; omega) ?_; intro v1 w1 hO1 hG2; have HO2 : Hid (w1.ownsRow N 5 1 v1 (n + k + 1) ((vs ++ four x k ++ [y]).map V8)) := hO1; have HG2 : Hid (Grew w v w1 v1) := HG1.out.trans (((Grew.refl wr _).alloc _).trans hG2); clear hO1 hG2))
      rw [HF4.eq] at HO2
      go_roundw
      case rel => first | exact ⟨k + 1, by omega, by go_num, HO2.out, HG2.out⟩ | ((repeat apply Exists.intro); exact ⟨⟨k + 1, by omega, by go_num, HO2.out, HG2.out⟩, rfl⟩)
      case measure => (simp [intOf]) <;> omega
    · obtain rfl : k = 4 := by omega
      go_wp2
      go_ret
      exact ⟨_, rfl, HO1.out, HG1.out⟩
end Go.Proofs.Ytoinaplmgffkpaa
