/- Proved: outermost, walked. -/
import Derived.Test.YtbcmgcallidneaaGreatDoorOuter
namespace Go.Proofs.YtbcmgcallidneaaGreatDoor
open Go.RowKit
set_option maxHeartbeats 4000000 in
set_option maxRecDepth 20000 in
theorem outer_row (w : World) (N g cap : Nat) (l : List Pm.T) (ho : w.ownsRow N 9 1 (.slice (some ⟨g, 0, none⟩) l.length cap) l.length (scells l)) (hN : N ≤ w.heap.size) (hl : l.length ≤ 1000) (hx : ∀ x ∈ l, x.length ≤ 1000000) (hP : ∀ x ∈ l, Pm.isP x = true)
    (hT : Tab w) (hM : 1 < N) (hS : 0 < N) :
    Calls Tryz.prog 22 #[.slice (some ⟨g, 0, none⟩) l.length cap] w fun e w' => ∃ ad c, e = .returned (.slice ad (Sm.outer l).length c) ∧ TxtA w' ad (Sm.outer l) ∧ Below N w w' := by
  have hmf : ∀ (fn : Fn) (first cap : Array Value) (w : World), (Instr.makeFunc fn first cap).run Tryz.prog w = .ok (.func fn first cap) w := fun _ _ _ _ => rfl
  obtain ⟨g0, cap0, hv0, hNg, hgl, hcap, hcm, _⟩ := (own_shape ho).resolve_left (by rintro ⟨h, _⟩; cases h)
  cases hv0
  obtain ⟨W0, hW0⟩ : ∃ W0, w.alloc (.cells #[.slice (some ⟨g, 0, none⟩) l.length cap] 22) = W0 := ⟨_, rfl⟩
  have HB0 : Hid (Below N w W0) := by rw [← hW0]; exact (Below.refl _ w).alloc hN _
  have hcell : W0.cell? ⟨w.heap.size, 0, none⟩ = some (.slice (some ⟨g, 0, none⟩) l.length cap) := by rw [← hW0]; simp
  have HZ0 : Is W0.heap.size (w.heap.size + 1) := ⟨by rw [← hW0]; simp⟩
  have HO0 : Hid (W0.ownsRow N 9 1 (.slice (some ⟨g, 0, none⟩) l.length cap) l.length (scells l)) := by rw [← hW0]; exact own_alloc1 ho _
  have HS0 : Hid (Calls Tryz.prog 37 #[.iface 22 (.slice (some ⟨g, 0, none⟩) l.length cap), .func (.func 38) #[] #[.pointer (some ⟨w.heap.size, 0, none⟩)]] W0 fun e w' => e = .returned (.tuple #[]) ∧
      ∃ s : List Pm.T, s.Perm l ∧ s.Pairwise (fun a b => Pm.cmp a b ≤ 0) ∧ w'.ownsRow N 9 1 (.slice (some ⟨g, 0, none⟩) s.length cap) s.length (scells s) ∧ Below N W0 w' ∧ w'.cell? ⟨w.heap.size, 0, none⟩ = some (.slice (some ⟨g, 0, none⟩) l.length cap)) :=
    sort_any W0 N g cap w.heap.size l HO0.out hcell (by omega) (by rw [HZ0.eq]; omega) (by omega) hx
  have HT0 : Hid (Tab w) := hT
  have HX : Hid (∀ x ∈ l, x.length ≤ 1000000) := hx
  have HP : Hid (∀ x ∈ l, Pm.isP x = true) := hP
  have HM : Hid (1 < N) := hM
  have HSg : Hid (0 < N) := hS
  obtain ⟨n, hn⟩ : ∃ n, l.length = n := ⟨_, rfl⟩
  have HN : Is l.length n := ⟨hn⟩
  rw [hn] at hl hcap hcell HS0 hW0 ⊢
  clear hT hx hP ho HO0 hn hM hS
  go_enter Tryz.func22, Tryz.ntmps22
  go_wp2_with (first | (go_at_call 37; refine (show Calls _ _ _ _ _ from HS0.out).mono ?_; rintro e W1 ⟨rfl, s, hperm, hsort, ho1, hB1, hc1⟩; have HB1 : Hid (Below N w W1) := HB0.out.trans hB1; have HO1 := (show Hid _ from ho1); have HPe : Hid (s.Perm l) := hperm; have HSo : Hid (s.Pairwise (fun a b => Pm.cmp a b ≤ 0)) := hsort; have HZ1 : Hid (W0.heap.size ≤ W1.heap.size) := hB1.size; clear hperm hsort ho1 hB1))
  have HSn : Is s.length n := ⟨by rw [HPe.out.length_eq, HN.eq]⟩
  have HK : Is (Sm.keep [] s) (Sm.outer l) := ⟨by
    rw [Sm.keep_nil s (fun x hx => HP.out x (HPe.out.mem_iff.1 hx)) HSo.out]
    exact Sm.outer_congr fun x => HPe.out.mem_iff⟩
  clear hW0 HS0 hcell
  go_loopw [3, 5, 12] (fun m _ i wr => ∃ (k : Nat) (kp : List Pm.T), k ≤ n ∧ i = .int .i64 k ∧ m = .int .i64 (kp.length : Nat) ∧ kp = Sm.keep [] (s.take k) ∧ kp.length ≤ k ∧ wr.ownsRow N 9 1 (.slice (some ⟨g, 0, none⟩) (rowL kp s).length cap) (rowL kp s).length (scells (rowL kp s)) ∧ wr.cell? ⟨w.heap.size, 0, none⟩ = some (.slice (some ⟨g, 0, none⟩) n cap) ∧ Below N w wr ∧ w.heap.size < wr.heap.size) (fun _ _ i _ => n - (intOf i).toNat)
  case atStart => exact ⟨0, [], by omega, rfl, rfl, rfl, Nat.le_refl _, by rw [show rowL [] s = s from rfl]; exact HO1.out, hc1, HB1.out, by have := HZ1.out; have := HZ0.eq; omega⟩
  case round =>
    obtain ⟨k, kp, hk, rfl, rfl, hkp, hkl, ho, hbx, hB, hsz⟩ := hrel
    have HKp : Is kp (Sm.keep [] (s.take k)) := ⟨hkp⟩
    have HO := (show Hid _ from ho)
    have HB : Hid (Below N w wr) := hB
    obtain ⟨g1, cap1, hv1, _, hgw, hc1', _, ht⟩ := (own_shape ho).resolve_left (by rintro ⟨h, _⟩; cases h)
    cases hv1
    have hfz := own_frozen ho
    by_cases hlt : k < n
    · have i0 : (k : Int) < (n : Int) := by omega
      have j0 : (0 : Int) ≤ (k : Int) := Int.natCast_nonneg _
      have hks : k < s.length := by rw [HSn.eq]; exact hlt
      have HRL : Is (rowL kp s).length n := ⟨by rw [rowL_length (by omega), HSn.eq]⟩
      have c0 := ht.get k (by rw [HRL.eq]; exact hlt)
      rw [rowL_at hkl] at c0
      have hps : (s.getD k []).length ≤ 1000000 := HX.out _ (HPe.out.mem_iff.1 (getD_mem hks))
      have HStep := (show Is _ _ from ⟨keep_take_succ hks⟩)
      rw [← HKp.eq] at HStep
      have HTw : Hid (Tab wr) := HT0.out.upon HM.out HSg.out hB
      generalize hsx : s.getD k [] = x at *
      clear hsx
      obtain ⟨m, hm⟩ : ∃ m, kp.length = m := ⟨_, rfl⟩
      have HSet : Hid (kp.length < s.length → (rowL kp s).set kp.length x = rowL (kp ++ [x]) s) := fun h => rowL_set h
      by_cases h0 : kp = []
      · subst h0
        rw [if_pos (.inl rfl)] at HStep
        obtain rfl : 0 = m := hm
        have HOS := (show Hid _ from own_set (m := 0) (y := x) ho)
        have HEq : Is ((rowL [] s).set 0 x) (rowL ([] ++ [x]) s) := ⟨HSet.out (by rw [HSn.eq]; exact Nat.lt_of_le_of_lt (Nat.zero_le _) hlt)⟩
        rw [HEq.eq] at HOS
        have HRL2 : Is (rowL ([] ++ [x]) s).length (rowL [] s).length := ⟨by rw [rowL_length (by show 1 ≤ s.length; omega), rowL_length (by simp)]⟩
        have hi0 : (0 : Int) < (n : Int) := by omega
        have hf0 := hfz 0
        have cS := ht.get 0 (by rw [HRL.eq]; omega)
        clear ho hkp ht hB hfz HSet HEq
        generalize mk ((rowL [] s).getD 0 []) = sz at *
        generalize mk x = sx at *
        go_wp2_with fail
        go_roundw
        case rel => exact ⟨k + 1, [] ++ [x], by omega, by go_num, by go_num, HStep.eq.symm, by simp, by rw [HRL2.eq]; exact HOS.out, by rw [World.cell?_setCell_other _ _ _ _ (by first | (simp; done) | (simp; omega))]; exact hbx, HB.out.setCell (p := ⟨g, 0, none⟩) hNg _, by rw [size_set]; exact hsz⟩
        case measure => (simp [intOf]) <;> omega
      · obtain ⟨m, hm⟩ : ∃ m, kp.length = m + 1 := ⟨kp.length - 1, by have := List.length_pos_iff.2 h0; omega⟩
        have hmn : m < n := by omega
        have HMK : Hid (m + 1 + 1 ≤ k + 1) := by show m + 1 + 1 ≤ k + 1; omega
        have cl := ht.get m (by rw [HRL.eq]; exact hmn)
        rw [rowL_last hm] at cl
        have HHo : Hid (Calls Tryz.prog 40 #[.string (mk (kp.getLastD [])), .string (mk x)] wr fun e w' => e = .returned (.bool (Sm.lies (kp.getLastD []) x)) ∧ Below wr.heap.size wr w') := holds_any (mk (kp.getLastD [])) (mk x) wr (by rw [mk_size]; omega) HTw.out
        have HSet : Hid ((rowL kp s).set (m + 1) x = rowL (kp ++ [x]) s) := by rw [← hm]; exact rowL_set (by rw [HSn.eq]; omega)
        have HRL2 : Is (rowL (kp ++ [x]) s).length (rowL kp s).length := ⟨by rw [rowL_length (by rw [List.length_append, List.length_singleton, HSn.eq]; omega), rowL_length (by rw [HSn.eq]; omega)]⟩
        have HKL : Is kp.length (m + 1) := ⟨hm⟩
        rw [hm]
        have n0 : ¬ (((m + 1 : Nat) : Int) = 0) := by omega
        have n0b : ((((m + 1 : Nat) : Int)) == 0) = false := by simp only [beq_eq_false_iff_ne, ne_eq]; exact n0
        have n1 : wrap64 (((m + 1 : Nat) : Int) - 1) = (m : Int) := by unfold wrap64; omega
        have i1 : (m : Int) < (n : Int) := by omega
        have j1 : (0 : Int) ≤ (m : Int) := Int.natCast_nonneg _
        have i2 : ((m + 1 : Nat) : Int) < (n : Int) := by omega
        cases hr : Sm.lies (kp.getLastD []) x with
        | true =>
          rw [hr] at HHo HStep
          rw [if_neg (by rintro (h | h); exact h0 h; cases h)] at HStep
          clear ho hkp ht hB hfz HSet hm hr h0
          generalize mk x = sx at *
          generalize mk (kp.getLastD []) = sy at *
          go_wp2_with (first | (go_at_call 40; refine (show Calls _ _ _ _ _ from HHo.out).mono ?_; rintro e w1 ⟨rfl, hB1⟩; have HO2 := (show Hid _ from own_below HO.out hB1); have hbx1 := (hB1.cell (p := ⟨w.heap.size, 0, none⟩) hsz).trans hbx; have HB2 : Hid (Below N w w1) := HB.out.trans (hB1.mono (by omega)); have hsz1 : w.heap.size < w1.heap.size := Nat.lt_of_lt_of_le hsz hB1.size; clear hB1 hbx))
          go_roundw
          case rel => exact ⟨k + 1, kp, by omega, by go_num, by rw [HKL.eq]; go_num, HStep.eq.symm, by omega, HO2.out, hbx1, HB2.out, hsz1⟩
          case measure => (simp [intOf]) <;> omega
        | false =>
          rw [hr] at HHo HStep
          rw [if_pos (.inr rfl)] at HStep
          have cS := ht.get (m + 1) (by rw [HRL.eq]; omega)
          have HOS := (show Hid (∀ W : World, W.ownsRow N 9 1 (.slice (some ⟨g, 0, none⟩) (rowL kp s).length cap) (rowL kp s).length (scells (rowL kp s)) → (W.setCell ⟨g, m + 1, none⟩ (.string (mk x))).ownsRow N 9 1 (.slice (some ⟨g, 0, none⟩) (rowL (kp ++ [x]) s).length cap) (rowL (kp ++ [x]) s).length (scells (rowL (kp ++ [x]) s))) from fun W h => by
            rw [← HSet.out, List.length_set]; exact own_set h)
          clear ho hkp ht hB hfz hm hr h0 HSet
          generalize mk ((rowL kp s).getD (m + 1) []) = sz at *
          generalize mk x = sx at *
          generalize mk (kp.getLastD []) = sy at *
          go_wp2_with (first | (go_at_call 40; refine (show Calls _ _ _ _ _ from HHo.out).mono ?_; rintro e w1 ⟨rfl, hB1⟩; have HO2 := (show Hid _ from own_below HO.out hB1); have hbx1 := (hB1.cell (p := ⟨w.heap.size, 0, none⟩) hsz).trans hbx; have cS1 := (hB1.cell (p := ⟨g, m + 1, none⟩) hgw).trans cS; have hf1 := own_frozen HO2.out (m + 1); have HB2 : Hid (Below N w w1) := HB.out.trans (hB1.mono (by omega)); have hsz1 : w.heap.size < w1.heap.size := Nat.lt_of_lt_of_le hsz hB1.size; clear hB1 hbx cS))
          go_roundw
          case rel => exact ⟨k + 1, kp ++ [x], by omega, by go_num, by rw [List.length_append, HKL.eq]; go_num, HStep.eq.symm, by rw [List.length_append, HKL.eq, List.length_singleton]; exact HMK.out, HOS.out _ HO2.out, by rw [World.cell?_setCell_other _ _ _ _ (by first | (simp; done) | (simp; omega))]; exact hbx1, HB2.out.setCell (p := ⟨g, m + 1, none⟩) hNg _, by rw [size_set]; exact hsz1⟩
          case measure => (simp [intOf]) <;> omega
    · obtain rfl : k = n := by omega
      have i0 : ¬ (k : Int) < (k : Int) := by omega
      have HKo : Is kp (Sm.outer l) := ⟨by rw [HKp.eq, List.take_of_length_le (by rw [HSn.eq]; exact Nat.le_refl _)]; exact HK.eq⟩
      obtain ⟨m, hm⟩ : ∃ m, kp.length = m := ⟨_, rfl⟩
      have HKL : Is kp.length m := ⟨hm⟩
      have HTX : Hid (TextsAt wr g 0 kp) := by have := ht.upto (n := kp.length); rw [rowL_take] at this; exact this
      rw [hm] at hkl ⊢
      have i1 : (m : Int) ≤ (cap : Int) := by omega
      have j1 : (0 : Int) ≤ (m : Int) := Int.natCast_nonneg _
      clear ho hkp ht hB hfz hm
      go_wp2_with fail
      go_ret
      rw [← HKo.eq, HKL.eq]
      exact ⟨_, ⟨_, rfl⟩, fun _ => ⟨g, rfl, hgw, HTX.out⟩, HB.out⟩
end Go.Proofs.YtbcmgcallidneaaGreatDoor
