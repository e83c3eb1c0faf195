/- Proved: checked and isPath, the order of two texts, and the law's own cut. -/
import Derived.Test.YtbcmgcallidneaaGreatDoorKind
import Derived.BigQuiet
namespace Go.Proofs.YtbcmgcallidneaaGreatDoor
open Go.RowKit
theorem below_drewN {B : Nat} {w W : World} (h : Below B w W) (n : Nat) : Below B w (W.drewN n) := ⟨h.os, h.tape, h.output, h.size, h.block⟩
theorem kind_lt (p : Pm.T) : (Pm.kind p).2 < 4294967296 := by
  unfold Pm.kind
  (repeat' split) <;> simp
set_option maxHeartbeats 1000000 in
set_option maxRecDepth 20000 in
theorem isPath_any (s : ByteArray) (w : World) (hs : s.size < 4294967281) (hT : Tab w) :
    Calls Tryz.prog 110 #[.string s] w fun e w' => e = .returned (.bool (Pm.isP (bl s))) ∧ Below w.heap.size w w' := by
  have HC : Is (Pm.isP (bl s)) ((Pm.kind (bl s)).2 == 0) := ⟨rfl⟩
  have HKN : Hid (∀ W : World, Tab W → Calls Tryz.prog 21 #[.string s] W fun e w' => e = .returned (.tuple #[.int .i64 ((Pm.kind (bl s)).1 : Nat), .int .i64 ((Pm.kind (bl s)).2 : Nat)]) ∧ Below W.heap.size W w') := fun W hW => kind_any s W hs hW
  have HT : Hid (Tab w) := hT
  clear hT
  generalize (Pm.kind (bl s)).1 = k1 at *
  generalize (Pm.kind (bl s)).2 = k2 at *
  go_enter Tryz.func110, Tryz.ntmps110
  by_cases h0 : k2 = 0
  · subst h0
    go_wp2_with (first | (go_at_call 21; refine (HKN.out _ HT.out).mono ?_; rintro e w1 ⟨rfl, hB1⟩))
    go_ret
    exact ⟨by rw [HC.eq]; rfl, hB1⟩
  · have h0' : ¬ ((k2 : Nat) : Int) = 0 := by omega
    have h0'' : (((k2 : Nat) : Int) == 0) = false := by simpa using h0
    go_wp2_with (first | (go_at_call 21; refine (HKN.out _ HT.out).mono ?_; rintro e w1 ⟨rfl, hB1⟩))
    go_ret
    exact ⟨by rw [HC.eq, show (k2 == 0) = false by simpa using h0]; rfl, hB1⟩
set_option maxHeartbeats 1000000 in
theorem rank_any (b : UInt8) (w : World) :
    Calls Tryz.prog 57 #[.int .u8 (b.toNat : Int)] w fun e w' => e = .returned (.int .i64 (Pm.rank b)) ∧ w' = w := by
  have hb := b.toNat_lt
  by_cases h : b = 47
  · subst h
    go_enter Tryz.func57, Tryz.ntmps57
    go_wp2
    go_ret
    exact ⟨rfl, rfl⟩
  · have hn : ¬ b.toNat = 47 := fun e => h (UInt8.toNat.inj e)
    have HR : Is (Pm.rank b) (b.toNat : Int) := ⟨by rw [Pm.rank, if_neg h]⟩
    clear h
    generalize b.toNat = n at *
    have hn' : ¬ ((n : Nat) : Int) = 47 := by omega
    have hn'' : (((n : Nat) : Int) == 47) = false := by simp only [beq_eq_false_iff_ne, ne_eq]; exact hn'
    go_enter Tryz.func57, Tryz.ntmps57
    go_wp2
    go_ret
    exact ⟨by rw [HR.eq]; rfl, rfl⟩
theorem cmp_step {a b : Pm.T} {k : Nat} {x : UInt8} (ha : a[k]? = some x) (hb : b[k]? = some x) : Pm.cmp (a.drop k) (b.drop k) = Pm.cmp (a.drop (k + 1)) (b.drop (k + 1)) := by
  obtain ⟨h1, e1⟩ := List.getElem?_eq_some_iff.1 ha
  obtain ⟨h2, e2⟩ := List.getElem?_eq_some_iff.1 hb
  rw [List.drop_eq_getElem_cons h1, List.drop_eq_getElem_cons h2, e1, e2, Pm.cmp, if_pos rfl]
theorem cmp_stop {a b : Pm.T} {k : Nat} {x y : UInt8} (ha : a[k]? = some x) (hb : b[k]? = some y) (h : x ≠ y) : Pm.cmp (a.drop k) (b.drop k) = Lib.compareInt (Pm.rank x) (Pm.rank y) := by
  obtain ⟨h1, e1⟩ := List.getElem?_eq_some_iff.1 ha
  obtain ⟨h2, e2⟩ := List.getElem?_eq_some_iff.1 hb
  rw [List.drop_eq_getElem_cons h1, List.drop_eq_getElem_cons h2, e1, e2, Pm.cmp, if_neg h]
theorem cmp_end {a b : Pm.T} {k : Nat} (h : k = a.length ∨ k = b.length) (ha : k ≤ a.length) (hb : k ≤ b.length) : Pm.cmp (a.drop k) (b.drop k) = Lib.compareInt (a.length : Int) (b.length : Int) := by
  unfold Lib.compareInt
  by_cases h1 : a.length = k
  · rw [List.drop_of_length_le (by omega)]
    by_cases h2 : b.length = k
    · rw [List.drop_of_length_le (by omega), if_neg (by omega), if_neg (by omega)]; rfl
    · rw [List.drop_eq_getElem_cons (show k < b.length by omega), if_pos (by omega)]; rfl
  · rw [List.drop_eq_getElem_cons (show k < a.length by omega), List.drop_of_length_le (show b.length ≤ k by omega), if_neg (by omega), if_pos (by omega)]; rfl
set_option maxHeartbeats 1000000 in
set_option maxRecDepth 20000 in
theorem compare_any (a b : ByteArray) (w : World) (ha : a.size ≤ 9223372036854775807) :
    Calls Tryz.prog 39 #[.string a, .string b] w fun e w' => e = .returned (.int .i64 (Pm.cmp (bl a) (bl b))) ∧ Below w.heap.size w w' := by
  obtain ⟨m, hm⟩ : ∃ m : Nat, m = min a.size b.size := ⟨_, rfl⟩
  have em : min (a.size : Int) (b.size : Int) = (m : Int) := by omega
  have hma : m ≤ a.size := by omega
  have hmb : m ≤ b.size := by omega
  have HM : Hid (m = a.size ∨ m = b.size) := by show _ ∨ _; omega
  clear hm
  go_enter Tryz.func39, Tryz.ntmps39
  go_wp2_with fail
  go_loopw [5, 11] (fun _ i wr => ∃ k : Nat, k ≤ m ∧ i = .int .i64 k ∧ Pm.cmp (bl a) (bl b) = Pm.cmp ((bl a).drop k) ((bl b).drop k) ∧ Below w.heap.size w wr) (fun _ i _ => m - (intOf i).toNat)
  case atStart => exact ⟨0, by omega, rfl, rfl, Below.refl _ _⟩
  case round =>
    obtain ⟨k, hk, rfl, hc, hB⟩ := hrel
    have HB : Hid (Below w.heap.size w wr) := hB
    have HC : Is (Pm.cmp (bl a) (bl b)) (Pm.cmp ((bl a).drop k) ((bl b).drop k)) := ⟨hc⟩
    clear hB hc
    by_cases hlt : k < m
    · have la : k < a.size := by omega
      have lb : k < b.size := by omega
      have i0 : (k : Int) < (m : Int) := by omega
      have i1 : (k : Int) < (a.size : Int) := by omega
      have i2 : (k : Int) < (b.size : Int) := by omega
      have j0 : (0 : Int) ≤ (k : Int) := Int.natCast_nonneg _
      have HA : Is ((bl a)[k]?) (some (a[k]'la)) := ⟨bl_get a k la⟩
      have HBb : Is ((bl b)[k]?) (some (b[k]'lb)) := ⟨bl_get b k lb⟩
      obtain ⟨x, hx⟩ : ∃ x, a[k]'la = x := ⟨_, rfl⟩
      obtain ⟨y, hy⟩ : ∃ y, b[k]'lb = y := ⟨_, rfl⟩
      have gx : (a[k]'la).toNat = x.toNat := by rw [hx]
      have gy : (b[k]'lb).toNat = y.toNat := by rw [hy]
      rw [hx] at HA
      rw [hy] at HBb
      clear hx hy
      by_cases hxy : x = y
      · subst hxy
        rw [cmp_step HA.eq HBb.eq] at HC
        go_wp2_with fail
        go_quiet (fail)
        go_wp2_with fail
        go_roundw
        case rel => exact ⟨k + 1, by omega, by go_num, HC.eq, below_drewN HB.out _⟩
        case measure => (simp [intOf]) <;> omega
      · rw [cmp_stop HA.eq HBb.eq hxy] at HC
        have hn : ¬ ((x.toNat : Int) = (y.toNat : Int)) := fun e => hxy (UInt8.toNat.inj (by omega))
        have hn' : (((x.toNat : Int)) == (y.toNat : Int)) = false := by simp only [beq_eq_false_iff_ne, ne_eq]; exact hn
        clear hxy
        have RX : Hid (∀ W : World, Calls Tryz.prog 57 #[.int .u8 (x.toNat : Int)] W fun e w' => e = .returned (.int .i64 (Pm.rank x)) ∧ w' = W) := fun W => rank_any x W
        have RY : Hid (∀ W : World, Calls Tryz.prog 57 #[.int .u8 (y.toNat : Int)] W fun e w' => e = .returned (.int .i64 (Pm.rank y)) ∧ w' = W) := fun W => rank_any y W
        generalize x.toNat = nx at *
        generalize y.toNat = ny at *
        generalize Pm.rank x = rx at *
        generalize Pm.rank y = ry at *
        go_wp2_with fail
        go_quiet (fail)
        have HB2 : Hid (Below w.heap.size w (wr.drewN nq)) := below_drewN HB.out _
        generalize wr.drewN nq = wq at *
        go_wp2_with fail
        go_quiet (first
          | (go_at_call_of 57 (Value.int .u8 (nx : Int)); refine Calls.quiet_of_same (RX.out _))
          | (go_at_call_of 57 (Value.int .u8 (ny : Int)); refine Calls.quiet_of_same (RY.out _))
          | (go_at_call 56; refine Calls.quiet_of_same (Tryz.cmp_Compare_int _ _ _)))
        go_wp2_with fail
        go_ret
        exact ⟨by rw [HC.eq]; rfl, below_drewN HB2.out _⟩
    · obtain rfl : k = m := by omega
      have i0 : ¬ (k : Int) < (k : Int) := by omega
      rw [cmp_end (a := bl a) (b := bl b) (by rw [bl_length, bl_length]; exact HM.out) (by rw [bl_length]; exact hma) (by rw [bl_length]; exact hmb), bl_length, bl_length] at HC
      go_wp2_with (first | (go_at_call 56; refine (Tryz.cmp_Compare_int _ _ _).mono ?_; rintro e w1 ⟨rfl, rfl⟩))
      go_ret
      exact ⟨by rw [HC.eq]; rfl, HB.out⟩
end Go.Proofs.YtbcmgcallidneaaGreatDoor
