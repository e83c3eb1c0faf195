/- Proved: Compare answers the order of two texts, and does nothing to the world but draw. -/
import Derived.Test.YtbcmgcallidneaaGreatDoorSmall
namespace Go.Proofs.YtbcmgcallidneaaGreatDoor
open Go.RowKit
/- a world that is as it was but for draws -/
def Dr (w w' : World) : Prop := ∃ q, w' = w.drewN q
theorem Dr.refl (w : World) : Dr w w := ⟨0, rfl⟩
theorem Dr.on {w w' : World} (h : Dr w w') (n : Nat) : Dr w (w'.drewN n) := by
  obtain ⟨q, rfl⟩ := h
  exact ⟨q + n, by rw [World.drewN_drewN]⟩
theorem Dr.below {w w' : World} (h : Dr w w') : Below w.heap.size w w' := by
  obtain ⟨q, rfl⟩ := h
  exact below_drewN (Below.refl _ _) q
set_option maxHeartbeats 1000000 in
set_option maxRecDepth 20000 in
theorem compare_dr (a b : ByteArray) (w : World) (ha : a.size ≤ 9223372036854775807) :
    Calls Tryz.prog 39 #[.string a, .string b] w fun e w' => e = .returned (.int .i64 (Pm.cmp (bl a) (bl b))) ∧ Dr w w' := by
  obtain ⟨m, hm⟩ : ∃ m : Nat, m = min a.size b.size := ⟨_, rfl⟩
  have em : min (a.size : Int) (b.size : Int) = (m : Int) := by omega
  have hma : m ≤ a.size := by omega
  have hmb : m ≤ b.size := by omega
  have HM : Hid (m = a.size ∨ m = b.size) := by show _ ∨ _; omega
  clear hm
  go_enter Tryz.func39, Tryz.ntmps39
  go_wp2_with fail
  go_loopw [5, 11] (fun _ i wr => ∃ k : Nat, k ≤ m ∧ i = .int .i64 k ∧ Pm.cmp (bl a) (bl b) = Pm.cmp ((bl a).drop k) ((bl b).drop k) ∧ Dr w wr) (fun _ i _ => m - (intOf i).toNat)
  case atStart => exact ⟨0, by omega, rfl, rfl, Dr.refl _⟩
  case round =>
    obtain ⟨k, hk, rfl, hc, hB⟩ := hrel
    have HB : Hid (Dr w wr) := hB
    have HC : Is (Pm.cmp (bl a) (bl b)) (Pm.cmp ((bl a).drop k) ((bl b).drop k)) := ⟨hc⟩
    clear hB hc
    by_cases hlt : k < m
    · have la : k < a.size := by omega
      have lb : k < b.size := by omega
      have i0 : (k : Int) < (m : Int) := by omega
      have i1 : (k : Int) < (a.size : Int) := by omega
      have i2 : (k : Int) < (b.size : Int) := by omega
      have j0 : (0 : Int) ≤ (k : Int) := Int.natCast_nonneg _
      have HA : Is ((bl a)[k]?) (some (a[k]'la)) := ⟨bl_get a k la⟩
      have HBb : Is ((bl b)[k]?) (some (b[k]'lb)) := ⟨bl_get b k lb⟩
      obtain ⟨x, hx⟩ : ∃ x, a[k]'la = x := ⟨_, rfl⟩
      obtain ⟨y, hy⟩ : ∃ y, b[k]'lb = y := ⟨_, rfl⟩
      have gx : (a[k]'la).toNat = x.toNat := by rw [hx]
      have gy : (b[k]'lb).toNat = y.toNat := by rw [hy]
      rw [hx] at HA
      rw [hy] at HBb
      clear hx hy
      by_cases hxy : x = y
      · subst hxy
        rw [cmp_step HA.eq HBb.eq] at HC
        go_wp2_with fail
        go_quiet (fail)
        go_wp2_with fail
        go_roundw
        case rel => exact ⟨k + 1, by omega, by go_num, HC.eq, HB.out.on _⟩
        case measure => (simp [intOf]) <;> omega
      · rw [cmp_stop HA.eq HBb.eq hxy] at HC
        have hn : ¬ ((x.toNat : Int) = (y.toNat : Int)) := fun e => hxy (UInt8.toNat.inj (by omega))
        have hn' : (((x.toNat : Int)) == (y.toNat : Int)) = false := by simp only [beq_eq_false_iff_ne, ne_eq]; exact hn
        clear hxy
        have RX : Hid (∀ W : World, Calls Tryz.prog 57 #[.int .u8 (x.toNat : Int)] W fun e w' => e = .returned (.int .i64 (Pm.rank x)) ∧ w' = W) := fun W => rank_any x W
        have RY : Hid (∀ W : World, Calls Tryz.prog 57 #[.int .u8 (y.toNat : Int)] W fun e w' => e = .returned (.int .i64 (Pm.rank y)) ∧ w' = W) := fun W => rank_any y W
        generalize x.toNat = nx at *
        generalize y.toNat = ny at *
        generalize Pm.rank x = rx at *
        generalize Pm.rank y = ry at *
        go_wp2_with fail
        go_quiet (fail)
        have HB2 : Hid (Dr w (wr.drewN nq)) := HB.out.on _
        generalize wr.drewN nq = wq at *
        go_wp2_with fail
        go_quiet (first
          | (go_at_call_of 57 (Value.int .u8 (nx : Int)); refine Calls.quiet_of_same (RX.out _))
          | (go_at_call_of 57 (Value.int .u8 (ny : Int)); refine Calls.quiet_of_same (RY.out _))
          | (go_at_call 56; refine Calls.quiet_of_same (Tryz.cmp_Compare_int _ _ _)))
        go_wp2_with fail
        go_ret
        exact ⟨by rw [HC.eq]; rfl, HB2.out.on _⟩
    · obtain rfl : k = m := by omega
      have i0 : ¬ (k : Int) < (k : Int) := by omega
      rw [cmp_end (a := bl a) (b := bl b) (by rw [bl_length, bl_length]; exact HM.out) (by rw [bl_length]; exact hma) (by rw [bl_length]; exact hmb), bl_length, bl_length] at HC
      go_wp2_with (first | (go_at_call 56; refine (Tryz.cmp_Compare_int _ _ _).mono ?_; rintro e w1 ⟨rfl, rfl⟩))
      go_ret
      exact ⟨by rw [HC.eq]; rfl, HB.out⟩
end Go.Proofs.YtbcmgcallidneaaGreatDoor
