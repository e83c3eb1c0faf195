/- Proved: the law of disks that New did not make. -/
import Derived.Test.YtbhbfnnlpkikbaaFrame
namespace Go.Proofs.Ytbhbfnnlpkikbaa
open Go.RowKit
set_option maxHeartbeats 4000000 in
set_option maxRecDepth 20000 in
theorem nobody_walk (x : Act) (w : World) (_hx : x.Fits w) :
    Calls Try.prog 4 #[.agg x.cells] w fun e w' => e = .returned (.bool true) ∧ Below w.heap.size w w' := by
  obtain ⟨kind, at', sx, ka, kl, kc, m⟩ := x
  clear _hx
  unfold Act.cells
  simp only
  have HN : Hid (∀ W : World, Calls Try.prog 8 #[.int .i64 0] W fun e w' => e = .returned (.tuple #[.pointer none, .int .i64 2]) ∧ w' = W) := fun W => new_bad 0 W (by omega)
  go_enter Try.func4, Try.ntmps4
  go_wp2_with (go_at_call 8; refine (HN.out _).mono ?_; rintro e w' ⟨rfl, rfl⟩)
  have HB : Hid (Below w.heap.size w (((w.alloc (.cells #[.int .i64 kind, .int .i64 at', .string sx, .slice ka kl kc] 33)).alloc (.cells #[.slice none 0 0, .slice none 0 0, .bool false, .int .i64 0, .int .i64 0] 48)).alloc (.cells #[.pointer none, .pointer (some ⟨w.heap.size + 1, 0, none⟩), .pointer none] 23))) := (((Below.refl _ _).alloc (Nat.le_refl _) _).alloc (by simp) _).alloc (by simp; omega) _
  have h0 : (((w.alloc (.cells #[.int .i64 kind, .int .i64 at', .string sx, .slice ka kl kc] 33)).alloc (.cells #[.slice none 0 0, .slice none 0 0, .bool false, .int .i64 0, .int .i64 0] 48)).alloc (.cells #[.pointer none, .pointer (some ⟨w.heap.size + 1, 0, none⟩), .pointer none] 23)).heap[w.heap.size]? = some (.cells #[.int .i64 kind, .int .i64 at', .string sx, .slice ka kl kc] 33 (0, 0)) := by
    rw [Below.heap_alloc _ _ _ (by simp; omega), Below.heap_alloc _ _ _ (by simp)]; exact heap_alloc_new w _
  have h1 : (((w.alloc (.cells #[.int .i64 kind, .int .i64 at', .string sx, .slice ka kl kc] 33)).alloc (.cells #[.slice none 0 0, .slice none 0 0, .bool false, .int .i64 0, .int .i64 0] 48)).alloc (.cells #[.pointer none, .pointer (some ⟨w.heap.size + 1, 0, none⟩), .pointer none] 23)).heap[w.heap.size + 1]? = some (.cells #[.slice none 0 0, .slice none 0 0, .bool false, .int .i64 0, .int .i64 0] 48 (0, 0)) := by
    rw [Below.heap_alloc _ _ _ (by simp)]
    have := heap_alloc_new (w.alloc (.cells #[.int .i64 kind, .int .i64 at', .string sx, .slice ka kl kc] 33)) (.cells #[.slice none 0 0, .slice none 0 0, .bool false, .int .i64 0, .int .i64 0] 48)
    simpa using this
  have h2 : (((w.alloc (.cells #[.int .i64 kind, .int .i64 at', .string sx, .slice ka kl kc] 33)).alloc (.cells #[.slice none 0 0, .slice none 0 0, .bool false, .int .i64 0, .int .i64 0] 48)).alloc (.cells #[.pointer none, .pointer (some ⟨w.heap.size + 1, 0, none⟩), .pointer none] 23)).heap[w.heap.size + 2]? = some (.cells #[.pointer none, .pointer (some ⟨w.heap.size + 1, 0, none⟩), .pointer none] 23 (0, 0)) := by
    have := heap_alloc_new ((w.alloc (.cells #[.int .i64 kind, .int .i64 at', .string sx, .slice ka kl kc] 33)).alloc (.cells #[.slice none 0 0, .slice none 0 0, .bool false, .int .i64 0, .int .i64 0] 48)) (.cells #[.pointer none, .pointer (some ⟨w.heap.size + 1, 0, none⟩), .pointer none] 23)
    simpa using this
  generalize World.alloc _ _ = w3 at *
  have c1 : w3.cell? ⟨w.heap.size, 1, none⟩ = some (.int .i64 at') := by rw [cell_of_row _ _ _ _ _ (0, 0) h0]; rfl
  have c2 : w3.cell? ⟨w.heap.size, 2, none⟩ = some (.string sx) := by rw [cell_of_row _ _ _ _ _ (0, 0) h0]; rfl
  have c3 : w3.cell? ⟨w.heap.size, 3, none⟩ = some (.slice ka kl kc) := by rw [cell_of_row _ _ _ _ _ (0, 0) h0]; rfl
  have HE : Hid (∀ k, k < 3 → ∃ d, w3.cell? ⟨w.heap.size + 2, k, none⟩ = some d ∧ Nobody w3 d) := fun k hk => by
    match k, hk with
    | 0, _ => exact ⟨.pointer none, by rw [cell_of_row _ _ _ _ _ (0, 0) h2]; rfl, .inl rfl⟩
    | 1, _ => exact ⟨ptr (w.heap.size + 1), by rw [cell_of_row _ _ _ _ _ (0, 0) h2]; rfl, .inr ⟨_, rfl, by rw [cell_of_row _ _ _ _ _ (0, 0) h1]; rfl⟩⟩
    | 2, _ => exact ⟨.pointer none, by rw [cell_of_row _ _ _ _ _ (0, 0) h2]; rfl, .inl rfl⟩
  clear h0 h1 h2
  go_loopw [18] (fun s18 wr => ∃ k : Nat, k ≤ 3 ∧ s18 = .int .i64 (k : Int) ∧ wr = w3) (fun s18 _ => 3 - (intOf s18).toNat)
  case atStart => exact ⟨0, by omega, rfl, rfl⟩
  case round =>
    obtain ⟨k, hk, rfl, rfl⟩ := hrel
    by_cases hk3 : k < 3
    · obtain ⟨d, hd, hNo⟩ := HE.out k hk3
      have HNo : Hid (Nobody wr d) := hNo
      clear hNo
      have dk : decide ((k : Int) < 3) = true := by simp; omega
      have k0 : (0 : Int) ≤ (k : Int) := by omega
      have k1 : (k : Int) < 3 := by omega
      have HFN : ∃ k' : Nat, k' ≤ 3 ∧ Value.int .i64 ((k : Int) + 1) = .int .i64 (k' : Int) := ⟨k + 1, by omega, by go_num⟩
      go_wp2_with (first | (go_at_call 15; refine (read_no d _ wr HNo.out).mono ?_; rintro e w' ⟨rfl, rfl⟩) | (go_at_call 18; refine (write_no d _ _ _ HNo.out).mono ?_; rintro e w' ⟨rfl, rfl⟩) | (go_at_call 19; refine (flush_no d _ HNo.out).mono ?_; rintro e w' ⟨rfl, rfl⟩) | (go_at_call 20; refine (arm_no d _ _ HNo.out).mono ?_; rintro e w' ⟨rfl, rfl⟩) | (go_at_call 21; refine (off_no d _ HNo.out).mono ?_; rintro e w' ⟨rfl, rfl⟩) | (go_at_call 22; refine (on_no d _ _ HNo.out).mono ?_; rintro e w' ⟨rfl, rfl⟩) | (go_at_call 14; refine (size_no d _ HNo.out).mono ?_; rintro e w' ⟨rfl, rfl⟩) | (go_at_call 11; refine (pending_no d _ HNo.out).mono ?_; rintro e w' ⟨rfl, rfl⟩) | (go_at_call 12; refine (down_no d _ HNo.out).mono ?_; rintro e w' ⟨rfl, rfl⟩) | (go_at_call 13; refine (done_no d _ HNo.out).mono ?_; rintro e w' ⟨rfl, rfl⟩))
      go_roundw
      case rel =>
        obtain ⟨k', h1, h2⟩ := HFN
        exact ⟨k', h1, h2, trivial⟩
      case measure => (simp [intOf]) <;> omega
    · obtain rfl : k = 3 := by omega
      have dk : decide (((3 : Nat) : Int) < 3) = false := by decide
      go_wp2_with (go_at_call 17; refine (works_any _).mono ?_; rintro e w5 ⟨rfl, hB5⟩)
      go_ret
      exact ⟨rfl, HB.out.trans (hB5.mono HB.out.size)⟩
end Go.Proofs.Ytbhbfnnlpkikbaa
