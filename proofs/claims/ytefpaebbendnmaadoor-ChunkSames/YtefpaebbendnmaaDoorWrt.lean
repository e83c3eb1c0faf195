/- Proved: what chunk's Write answers for all texts and numbers. -/
import Derived.Test.YtefpaebbendnmaaDoorChg
namespace Go.Proofs.YtefpaebbendnmaaDoor
open Go.RowKit
open Ck (T cnt cntZ zs wr wrE wrT)
set_option maxHeartbeats 2000000 in
theorem write_yes (s d : ByteArray) (o : Nat) (w : World) (hs : s.size ≤ 4096) (ho : o + d.size ≤ 4096) :
    Calls Tryd.prog 19 #[.string s, .int .i64 (o : Int), .string d] w fun e w' => e = .returned (.tuple #[.string (mk (wr (bl s) o (bl d))), .int .i64 0]) ∧ Below w.heap.size w w' := by
  have a1 : decide ((4096 : Int) < (s.size : Int)) = false := decide_eq_false (by omega)
  have a2 : decide ((o : Int) < 0) = false := decide_eq_false (by omega)
  have a3 : decide ((4096 : Int) - (d.size : Int) < (o : Int)) = false := decide_eq_false (by omega)
  obtain ⟨m, hm⟩ : ∃ m, m = max s.size (o + d.size) := ⟨_, rfl⟩
  have HX : Hid (splice (splice (zs m) 0 (bl s)) o (bl d) = wr (bl s) o (bl d) ∧ (wr (bl s) o (bl d)).length = m) := ⟨by rw [hm, ← bl_length, ← bl_length]; exact splice_wr _ _ _, by rw [Ck.wr_length, bl_length, bl_length]; exact hm.symm⟩
  have hms : s.size ≤ m := by omega
  have hmo : o + d.size ≤ m := by omega
  have hm9 : m ≤ 4096 := by omega
  have o0 : (0 : Int) ≤ (o : Int) := by omega
  have o1 : (o : Int) ≤ (m : Int) := by omega
  have HS1 : Hid ((splice (zs m) 0 (bl s)).length = m) := by
    show (splice (zs m) 0 (bl s)).length = m
    rw [splice_length _ _ _ (by rw [bl_length, Ck.zs_length]; omega), Ck.zs_length]
  have HZ : Hid (o = m → d.size = 0) := by intro h; omega
  have hcase : ((s.size : Int) < (o : Int) + (d.size : Int) ∧ m = o + d.size) ∨ ((o : Int) + (d.size : Int) ≤ (s.size : Int) ∧ m = s.size) := by omega
  clear hm
  rcases hcase with ⟨hlt, hme⟩ | ⟨hge, hme⟩
  · have hsum : (o : Int) + (d.size : Int) = (m : Int) := by omega
    have hlt2 : (s.size : Int) < (m : Int) := by omega
    have hnl : ¬ (m : Int) ≤ (s.size : Int) := by omega
    clear hme hlt
    by_cases hom : o = m
    · subst hom
      go_enter Tryd.func19, Tryd.ntmps19
      go_wp2_with (first
        | (refine make_bytes rfl _ _ rfl o rfl rfl (by omega) ?_
           intro w1 hR1 hB1 hz1
           have HR1 : Hid (Brow w1 w.heap.size (zs o)) := hR1
           have HB1 : Hid (Below w.heap.size w w1) := hB1
           clear hR1 hB1 hz1)
        | (refine copy_str rfl _ _ 28 9 rfl 5 Tryd.underlying28 size_u8 w.heap.size 0 o o rfl s rfl s.size (by omega) (HR1.out.there (by rw [Ck.zs_length]; omega)) ?_
           rw [bl_take_all]
           have HR2 : Hid (Brow (w1.setCells w.heap.size 0 (bc (bl s))) w.heap.size (splice (zs o) 0 (bl s))) := HR1.out.set (by rw [bl_length, Ck.zs_length]; omega)
           have HB2 : Hid (Below w.heap.size w (w1.setCells w.heap.size 0 (bc (bl s)))) := below_setCells (Nat.le_refl _) _ _ _ HB1.out
           generalize World.setCells w1 _ _ _ = w2 at *)
        | (refine copy_str rfl _ _ 28 9 rfl 5 Tryd.underlying28 size_u8 w.heap.size 0 0 0 rfl d rfl 0 (by omega) (fun j hj => absurd hj (by omega)) ?_
           have HR3 : Hid (Brow w2 w.heap.size (wr (bl s) o (bl d))) := by
             have e : bl d = [] := List.eq_nil_of_length_eq_zero (by rw [bl_length]; exact HZ.out rfl)
             have h := HR2.out
             rw [← HX.out.1]
             have e2 : splice (splice (zs o) 0 (bl s)) o (bl d) = splice (zs o) 0 (bl s) := by rw [e]; simp [splice]
             rw [e2]
             exact h
           have hcv := str_all HR3.out.rd o HX.out.2.symm o
           rw [List.take_zero, show w2.setCells w.heap.size 0 (bc []) = w2 from rfl]))
      go_ret2
      exact ⟨rfl, HB2.out⟩
    · have hom2 : ¬ m = o := fun h => hom h.symm
      go_enter Tryd.func19, Tryd.ntmps19
      go_wp2_with (first
        | (refine make_bytes rfl _ _ rfl m rfl rfl (by omega) ?_
           intro w1 hR1 hB1 hz1
           have HR1 : Hid (Brow w1 w.heap.size (zs m)) := hR1
           have HB1 : Hid (Below w.heap.size w w1) := hB1
           clear hR1 hB1 hz1)
        | (refine copy_str rfl _ _ 28 9 rfl 5 Tryd.underlying28 size_u8 w.heap.size 0 m m rfl s rfl s.size (by omega) (HR1.out.there (by rw [Ck.zs_length]; omega)) ?_
           rw [bl_take_all]
           have HR2 : Hid (Brow (w1.setCells w.heap.size 0 (bc (bl s))) w.heap.size (splice (zs m) 0 (bl s))) := HR1.out.set (by rw [bl_length, Ck.zs_length]; omega)
           have HB2 : Hid (Below w.heap.size w (w1.setCells w.heap.size 0 (bc (bl s)))) := below_setCells (Nat.le_refl _) _ _ _ HB1.out
           generalize World.setCells w1 _ _ _ = w2 at *)
        | (refine copy_str rfl _ _ 28 9 rfl 5 Tryd.underlying28 size_u8 w.heap.size o (m - o) (m - o) rfl d rfl d.size (by omega) (HR2.out.there (by rw [HS1.out]; omega)) ?_
           rw [bl_take_all]
           have HR3 : Hid (Brow (w2.setCells w.heap.size o (bc (bl d))) w.heap.size (wr (bl s) o (bl d))) := by
             have h := HR2.out.set (o := o) (x := bl d) (by rw [bl_length, HS1.out]; omega)
             rwa [HX.out.1] at h
           have HB3 : Hid (Below w.heap.size w (w2.setCells w.heap.size o (bc (bl d)))) := below_setCells (Nat.le_refl _) _ _ _ HB2.out
           generalize World.setCells w2 _ _ _ = w3 at *
           have hcv := str_all HR3.out.rd m HX.out.2.symm m))
      go_ret2
      exact ⟨rfl, HB3.out⟩
  · subst hme
    by_cases hom : o = s.size
    · subst hom
      go_enter Tryd.func19, Tryd.ntmps19
      go_wp2_with (first
        | (refine make_bytes rfl _ _ rfl s.size rfl rfl (by omega) ?_
           intro w1 hR1 hB1 hz1
           have HR1 : Hid (Brow w1 w.heap.size (zs s.size)) := hR1
           have HB1 : Hid (Below w.heap.size w w1) := hB1
           clear hR1 hB1 hz1)
        | (refine copy_str rfl _ _ 28 9 rfl 5 Tryd.underlying28 size_u8 w.heap.size 0 s.size s.size rfl s rfl s.size (by omega) (HR1.out.there (by rw [Ck.zs_length]; omega)) ?_
           rw [bl_take_all]
           have HR2 : Hid (Brow (w1.setCells w.heap.size 0 (bc (bl s))) w.heap.size (splice (zs s.size) 0 (bl s))) := HR1.out.set (by rw [bl_length, Ck.zs_length]; omega)
           have HB2 : Hid (Below w.heap.size w (w1.setCells w.heap.size 0 (bc (bl s)))) := below_setCells (Nat.le_refl _) _ _ _ HB1.out
           generalize World.setCells w1 _ _ _ = w2 at *)
        | (refine copy_str rfl _ _ 28 9 rfl 5 Tryd.underlying28 size_u8 w.heap.size 0 0 0 rfl d rfl 0 (by omega) (fun j hj => absurd hj (by omega)) ?_
           have HR3 : Hid (Brow w2 w.heap.size (wr (bl s) s.size (bl d))) := by
             have e : bl d = [] := List.eq_nil_of_length_eq_zero (by rw [bl_length]; exact HZ.out rfl)
             have h := HR2.out
             rw [← HX.out.1]
             have e2 : splice (splice (zs s.size) 0 (bl s)) s.size (bl d) = splice (zs s.size) 0 (bl s) := by rw [e]; simp [splice]
             rw [e2]
             exact h
           have hcv := str_all HR3.out.rd s.size HX.out.2.symm s.size
           rw [List.take_zero, show w2.setCells w.heap.size 0 (bc []) = w2 from rfl]))
      go_ret2
      exact ⟨rfl, HB2.out⟩
    · have hom2 : ¬ s.size = o := fun h => hom h.symm
      go_enter Tryd.func19, Tryd.ntmps19
      go_wp2_with (first
        | (refine make_bytes rfl _ _ rfl s.size rfl rfl (by omega) ?_
           intro w1 hR1 hB1 hz1
           have HR1 : Hid (Brow w1 w.heap.size (zs s.size)) := hR1
           have HB1 : Hid (Below w.heap.size w w1) := hB1
           clear hR1 hB1 hz1)
        | (refine copy_str rfl _ _ 28 9 rfl 5 Tryd.underlying28 size_u8 w.heap.size 0 s.size s.size rfl s rfl s.size (by omega) (HR1.out.there (by rw [Ck.zs_length]; omega)) ?_
           rw [bl_take_all]
           have HR2 : Hid (Brow (w1.setCells w.heap.size 0 (bc (bl s))) w.heap.size (splice (zs s.size) 0 (bl s))) := HR1.out.set (by rw [bl_length, Ck.zs_length]; omega)
           have HB2 : Hid (Below w.heap.size w (w1.setCells w.heap.size 0 (bc (bl s)))) := below_setCells (Nat.le_refl _) _ _ _ HB1.out
           generalize World.setCells w1 _ _ _ = w2 at *)
        | (refine copy_str rfl _ _ 28 9 rfl 5 Tryd.underlying28 size_u8 w.heap.size o (s.size - o) (s.size - o) rfl d rfl d.size (by omega) (HR2.out.there (by rw [HS1.out]; omega)) ?_
           rw [bl_take_all]
           have HR3 : Hid (Brow (w2.setCells w.heap.size o (bc (bl d))) w.heap.size (wr (bl s) o (bl d))) := by
             have h := HR2.out.set (o := o) (x := bl d) (by rw [bl_length, HS1.out]; omega)
             rwa [HX.out.1] at h
           have HB3 : Hid (Below w.heap.size w (w2.setCells w.heap.size o (bc (bl d)))) := below_setCells (Nat.le_refl _) _ _ _ HB2.out
           generalize World.setCells w2 _ _ _ = w3 at *
           have hcv := str_all HR3.out.rd s.size HX.out.2.symm s.size))
      go_ret2
      exact ⟨rfl, HB3.out⟩
theorem wrE_nat {s d : T} {o : Nat} (h1 : s.length ≤ 4096) (h2 : o + d.length ≤ 4096) : wrE s o d = 0 := by
  unfold wrE
  rw [if_neg (by omega), if_neg (by omega), if_neg (by omega)]
set_option maxHeartbeats 1000000 in
theorem write_any (s d : ByteArray) (o : Int) (w : World) (hs : s.size ≤ 9223372036854775807) (hd : d.size ≤ 9223372036854775807) :
    Calls Tryd.prog 19 #[.string s, .int .i64 o, .string d] w fun e w' => e = .returned (.tuple #[.string (mk (wrT (bl s) o (bl d))), .int .i64 (wrE (bl s) o (bl d) : Nat)]) ∧ Below w.heap.size w w' := by
  by_cases h1 : 4096 < s.size
  · have e : wrE (bl s) o (bl d) = 3 := by unfold wrE; rw [bl_length, if_pos h1]
    have e2 : wrT (bl s) o (bl d) = [] := by unfold wrT; rw [e]; rfl
    rw [e, e2]
    clear e e2
    have a1 : decide ((4096 : Int) < (s.size : Int)) = true := decide_eq_true (by omega)
    go_enter Tryd.func19, Tryd.ntmps19
    go_wp2
    go_ret2
    exact ⟨rfl, Below.refl _ _⟩
  · have a1 : decide ((4096 : Int) < (s.size : Int)) = false := decide_eq_false (by omega)
    by_cases h2 : o < 0
    · have e : wrE (bl s) o (bl d) = 2 := by unfold wrE; rw [bl_length, if_neg h1, if_pos h2]
      have e2 : wrT (bl s) o (bl d) = [] := by unfold wrT; rw [e]; rfl
      rw [e, e2]
      clear e e2
      go_enter Tryd.func19, Tryd.ntmps19
      go_wp2
      go_ret2
      exact ⟨rfl, Below.refl _ _⟩
    · by_cases h3 : 4096 - (d.size : Int) < o
      · have e : wrE (bl s) o (bl d) = 3 := by unfold wrE; rw [bl_length, bl_length, if_neg h1, if_neg h2, if_pos h3]
        have e2 : wrT (bl s) o (bl d) = [] := by unfold wrT; rw [e]; rfl
        rw [e, e2]
        clear e e2
        go_enter Tryd.func19, Tryd.ntmps19
        go_wp2
        go_ret2
        exact ⟨rfl, Below.refl _ _⟩
      · obtain ⟨k, rfl⟩ : ∃ k : Nat, o = (k : Int) := ⟨o.toNat, by omega⟩
        have e : wrE (bl s) k (bl d) = 0 := wrE_nat (by rw [bl_length]; omega) (by rw [bl_length]; omega)
        have e2 : wrT (bl s) k (bl d) = wr (bl s) k (bl d) := by unfold wrT; rw [e]; rfl
        rw [e, e2]
        exact write_yes s d k w (by omega) (by omega)
end Go.Proofs.YtefpaebbendnmaaDoor
