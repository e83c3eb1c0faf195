/- Proved: what chunk's Truncate, Read and Write answer for all texts and numbers. -/
import Derived.Test.YtefpaebbendnmaaDoorCut
namespace Go.Proofs.YtefpaebbendnmaaDoor
open Go.RowKit
open Ck (T cnt cntZ zs tr trE trT rd rdE rdT wr wrE wrT)
theorem splice_front (s : T) (n : Nat) : splice (zs n) 0 (s.take (min s.length n)) = tr s n := by
  unfold splice tr
  rw [List.take_zero, List.nil_append, List.length_take, Ck.zs_drop]
  by_cases h : s.length ≤ n
  · rw [Nat.min_eq_left h, List.take_length, List.take_of_length_le (by rw [List.length_append, Ck.zs_length]; omega), show n - (0 + min s.length s.length) = n - s.length by omega]
  · rw [Nat.min_eq_right (by omega), List.take_append_of_le_length (by omega), show n - (0 + min n s.length) = 0 by omega]
    simp [zs]
theorem splice_wr (s : T) (o : Nat) (d : T) : splice (splice (zs (max s.length (o + d.length))) 0 s) o d = wr s o d := by
  have e : splice (zs (max s.length (o + d.length))) 0 s = s ++ zs (max s.length (o + d.length) - s.length) := by
    unfold splice
    rw [List.take_zero, List.nil_append, Ck.zs_drop, Nat.zero_add]
  rw [e]
  unfold splice wr
  rw [List.append_assoc]
  congr 1
  · by_cases h : o ≤ s.length
    · rw [List.take_append_of_le_length h, List.take_append_of_le_length h]
    · rw [List.take_append, List.take_append, Ck.zs_take, Ck.zs_take]
      congr 2
      omega
  · congr 1
    by_cases h : o + d.length ≤ s.length
    · rw [show max s.length (o + d.length) - s.length = 0 by omega]
      simp [zs]
    · rw [List.drop_eq_nil_of_le (by rw [List.length_append, Ck.zs_length]; omega), List.drop_eq_nil_of_le (by omega)]
theorem bl_take_all (s : ByteArray) : (bl s).take s.size = bl s := by rw [← bl_length, List.take_length]
set_option maxHeartbeats 1000000 in
theorem trunc_yes (s : ByteArray) (n : Nat) (w : World) (hs : s.size ≤ 4096) (hn : n ≤ 4096) :
    Calls Tryd.prog 12 #[.string s, .int .i64 (n : Int)] w fun e w' => e = .returned (.tuple #[.string (mk (tr (bl s) n)), .int .i64 0]) ∧ Below w.heap.size w w' := by
  have a1 : decide ((4096 : Int) < (s.size : Int)) = false := decide_eq_false (by omega)
  have a2 : decide ((n : Int) < 0) = false := decide_eq_false (by omega)
  have a3 : decide ((4096 : Int) < (n : Int)) = false := decide_eq_false (by omega)
  have HX : Hid (splice (zs n) 0 ((bl s).take (min s.size n)) = tr (bl s) n ∧ (tr (bl s) n).length = n ∧ ((bl s).take (min s.size n)).length = min s.size n) := ⟨by rw [← bl_length]; exact splice_front _ _, Ck.tr_length _ _, by rw [List.length_take, bl_length]; omega⟩
  go_enter Tryd.func12, Tryd.ntmps12
  go_wp2_with (first
    | (refine make_bytes rfl _ _ rfl n rfl rfl (by omega) ?_
       intro w1 hR1 hB1 hz1
       have HR1 : Hid (Brow w1 w.heap.size (zs n)) := hR1
       have HB1 : Hid (Below w.heap.size w w1) := hB1
       clear hR1 hB1 hz1)
    | (refine copy_str rfl _ _ 28 9 rfl 5 Tryd.underlying28 size_u8 w.heap.size 0 n n rfl s rfl (min s.size n) rfl (HR1.out.there (by rw [Ck.zs_length]; omega)) ?_
       have HR2 : Hid (Brow (w1.setCells w.heap.size 0 (bc ((bl s).take (min s.size n)))) w.heap.size (tr (bl s) n)) := by
         have h := HR1.out.set (o := 0) (x := (bl s).take (min s.size n)) (by rw [HX.out.2.2, Ck.zs_length]; omega)
         rwa [HX.out.1] at h
       have HB2 : Hid (Below w.heap.size w (w1.setCells w.heap.size 0 (bc ((bl s).take (min s.size n))))) := below_setCells (Nat.le_refl _) _ _ _ HB1.out
       generalize World.setCells w1 _ _ _ = w2 at *
       have hcv := str_all HR2.out.rd n HX.out.2.1.symm n))
  go_ret2
  exact ⟨rfl, HB2.out⟩
theorem trE_nat {s : T} {n : Nat} (h1 : s.length ≤ 4096) (h2 : n ≤ 4096) : trE s n = 0 := by
  unfold trE
  rw [if_neg (by omega), if_neg (by omega), if_neg (by omega)]
set_option maxHeartbeats 1000000 in
theorem trunc_any (s : ByteArray) (n : Int) (w : World) (hs : s.size ≤ 9223372036854775807) :
    Calls Tryd.prog 12 #[.string s, .int .i64 n] w fun e w' => e = .returned (.tuple #[.string (mk (trT (bl s) n)), .int .i64 (trE (bl s) n : Nat)]) ∧ Below w.heap.size w w' := by
  by_cases h1 : 4096 < s.size
  · have e : trE (bl s) n = 3 := by unfold trE; rw [bl_length, if_pos h1]
    have e2 : trT (bl s) n = [] := by unfold trT; rw [e]; rfl
    rw [e, e2]
    clear e e2
    have a1 : decide ((4096 : Int) < (s.size : Int)) = true := decide_eq_true (by omega)
    go_enter Tryd.func12, Tryd.ntmps12
    go_wp2
    go_ret2
    exact ⟨rfl, Below.refl _ _⟩
  · have a1 : decide ((4096 : Int) < (s.size : Int)) = false := decide_eq_false (by omega)
    by_cases h2 : n < 0
    · have e : trE (bl s) n = 2 := by unfold trE; rw [bl_length, if_neg h1, if_pos h2]
      have e2 : trT (bl s) n = [] := by unfold trT; rw [e]; rfl
      rw [e, e2]
      clear e e2
      go_enter Tryd.func12, Tryd.ntmps12
      go_wp2
      go_ret2
      exact ⟨rfl, Below.refl _ _⟩
    · by_cases h3 : 4096 < n
      · have e : trE (bl s) n = 3 := by unfold trE; rw [bl_length, if_neg h1, if_neg h2, if_pos h3]
        have e2 : trT (bl s) n = [] := by unfold trT; rw [e]; rfl
        rw [e, e2]
        clear e e2
        go_enter Tryd.func12, Tryd.ntmps12
        go_wp2
        go_ret2
        exact ⟨rfl, Below.refl _ _⟩
      · obtain ⟨k, rfl⟩ : ∃ k : Nat, n = (k : Int) := ⟨n.toNat, by omega⟩
        have e : trE (bl s) k = 0 := trE_nat (by rw [bl_length]; omega) (by omega)
        have e2 : trT (bl s) k = tr (bl s) k := by unfold trT; rw [e]; rfl
        rw [e, e2]
        exact trunc_yes s k w (by omega) (by omega)
theorem rdE_nat {s : T} {o n : Nat} (h1 : s.length ≤ 4096) (h2 : o ≤ s.length) : rdE s o n = 0 := by
  unfold rdE
  rw [if_neg (by omega), if_neg (by omega)]
end Go.Proofs.YtefpaebbendnmaaDoor
