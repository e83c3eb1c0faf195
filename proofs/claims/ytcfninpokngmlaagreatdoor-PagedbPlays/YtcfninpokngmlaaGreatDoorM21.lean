/- Proved: one kind of call of the law's helper does (stage 10). -/
import Derived.Test.YtcfninpokngmlaaGreatDoorM20
import Derived.Deep.CutBlock
namespace Go.Proofs.YtcfninpokngmlaaGreatDoor
open Go.RowKit
section
variable {W w w' : World} {q h : Nat} {A : Ad} {tv : Value} {t bt : Nat} {v : Rv} {K K' : Nat} {d : Pd.Db} {S T : Pd.Ab} {sp mk : Bool} {tm : Pd.Mp} {tb : List Bool} {cnt n : Nat} {E : List Nat}
set_option maxHeartbeats 8000000 in
set_option maxRecDepth 20000 in
theorem does_c0 (xi xd : Int) (xs : ByteArray) (ka : Option Addr) (kl kc : Nat) (hxs : xs.size ≤ 9223372036854775807) (H : PC W w q h A tv v K d S mk sp cnt n E) (L : Lim W K cnt n) :
    Calls Tryz.prog 10 #[ptr q, .agg (acA 0 xi xd xs (.slice ka kl kc))] w (DoPost W q h K cnt n) := by
  obtain ⟨hpw, hKL, hc4, hcn, hn2, hn⟩ := L
  have HH := (show Hid _ from do_c H (acA 0 xi xd xs (.slice ka kl kc)))
  have HS0 := (show Hid (DoR q w.heap.size A.g A.x h tv (acA 0 xi xd xs (.slice ka kl kc)) (w.alloc (.cells (acA 0 xi xd xs (.slice ka kl kc)) 28))) from ⟨HH.out.1.row, HH.out.2⟩)
  obtain ⟨ns, hns1, hns2, hmin⟩ : ∃ ns : Nat, ns ≤ xs.size ∧ ns ≤ 510 ∧ min (xs.size : Int) 510 = (ns : Int) := ⟨min xs.size 510, by omega, by omega, by omega⟩
  have n0 : (0 : Int) ≤ (ns : Int) := by omega
  have n1 : (ns : Int) ≤ (xs.size : Int) := by omega
  have hcs : (xs.extract 0 ns).size = ns := cut_size xs ns hns1
  obtain ⟨q0, q1, q2, q3, qz⟩ := HS0.out.cq
  obtain ⟨a0, a1, a2, a3, a4⟩ := HS0.out.ca
  clear H
  unfold acA at *
  unfold ptr at *
  have HEN := HH.out.1.en
  have HBE := gbegin HH.out.1.g
  unfold ptr at HBE
  go_enter Tryz.func10, Tryz.ntmps10
  go_wp2_with fail
  generalize World.alloc w _ = w1 at *
  generalize w.heap.size = a at *
  generalize xs.extract 0 ns = sy at *
  clear q0 q1 q2 q3 qz a0 a1 a2 a3 a4
  refine HBE.mono ?_
  rintro e w2 ⟨t, bt, rfl, hG2, hT2⟩
  have HN : Hid (PN W w2 q h A tv t bt v K d S mk sp cnt n (a :: E)) := HH.out.1.begP hG2 hT2
  have hok := hG2.inv.fnd.ok
  have hRB := rbegin_any HN.out.rc hcn hok.pos (Nat.le_trans hok.most hok.small) (by have := hok.free_lt; have := Nat.le_trans hok.most hok.small; omega)
  have r3 : w2.cell? ⟨q, 3, none⟩ = some (ptr h) := (cell_of_row w2 q 3 _ _ (0, 0) HN.out.row).trans rfl
  unfold ptr at r3 hRB
  clear hG2 hT2 HBE hok HS0 HH HEN
  go_wp2_with fail
  refine hRB.mono ?_
  rintro e w3 ⟨rfl, v', hR3, hT3⟩
  have HN2 : Hid (PN2 W w3 q h A tv t bt v' K d S cnt n (a :: E)) := HN.out.doc hR3 hT3 hpw
  have HF := (show Hid _ from HN2.out.put hpw)
  have r2 : w3.cell? ⟨q, 2, none⟩ = some tv := (cell_of_row w3 q 2 _ _ (0, 0) HN2.out.row).trans rfl
  have rz : ∀ i, w3.frozen? ⟨q, i, none⟩ = false := fun i => frozen_of_row w3 q i _ _ HN2.out.row
  clear hR3 hT3 hRB HN r3
  unfold ptr at HF
  go_wp2
  go_ret
  exact ⟨rfl, HF.out.ps (by omega)⟩
end
end Go.Proofs.YtcfninpokngmlaaGreatDoor
/- Proved: one kind of call of the law's helper does (stage 10). -/
namespace Go.Proofs.YtcfninpokngmlaaGreatDoor
open Go.RowKit
section
variable {W w w' : World} {q h : Nat} {A : Ad} {tv : Value} {t bt : Nat} {v : Rv} {K K' : Nat} {d : Pd.Db} {S T : Pd.Ab} {sp mk : Bool} {tm : Pd.Mp} {tb : List Bool} {cnt n : Nat} {E : List Nat}
set_option maxHeartbeats 8000000 in
set_option maxRecDepth 20000 in
theorem does_c1 (xi xd : Int) (xs : ByteArray) (ka : Option Addr) (kl kc : Nat) (hxs : xs.size ≤ 9223372036854775807) (H : PC W w q h A tv v K d S mk sp cnt n E) (L : Lim W K cnt n) :
    Calls Tryz.prog 10 #[ptr q, .agg (acA 1 xi xd xs (.slice ka kl kc))] w (DoPost W q h K cnt n) := by
  obtain ⟨hpw, hKL, hc4, hcn, hn2, hn⟩ := L
  have HH := (show Hid _ from do_c H (acA 1 xi xd xs (.slice ka kl kc)))
  have HS0 := (show Hid (DoR q w.heap.size A.g A.x h tv (acA 1 xi xd xs (.slice ka kl kc)) (w.alloc (.cells (acA 1 xi xd xs (.slice ka kl kc)) 28))) from ⟨HH.out.1.row, HH.out.2⟩)
  obtain ⟨ns, hns1, hns2, hmin⟩ : ∃ ns : Nat, ns ≤ xs.size ∧ ns ≤ 510 ∧ min (xs.size : Int) 510 = (ns : Int) := ⟨min xs.size 510, by omega, by omega, by omega⟩
  have n0 : (0 : Int) ≤ (ns : Int) := by omega
  have n1 : (ns : Int) ≤ (xs.size : Int) := by omega
  have hcs : (xs.extract 0 ns).size = ns := cut_size xs ns hns1
  obtain ⟨q0, q1, q2, q3, qz⟩ := HS0.out.cq
  obtain ⟨a0, a1, a2, a3, a4⟩ := HS0.out.ca
  clear H
  unfold acA at *
  unfold ptr at *
  have HEN := HH.out.1.en
  go_enter Tryz.func10, Tryz.ntmps10
  go_upto_region 10 with fail
  generalize World.alloc w _ = w1 at *
  generalize w.heap.size = a at *
  generalize xs.extract 0 ns = sy at *
  clear q0 q1 q2 q3 qz a0 a1 a2 a3 a4
  have HS1 := (show Hid _ from HS0.out.drew)
  have HD : Hid (Below w1.heap.size w1 w1.drew) := ⟨rfl, rfl, rfl, Nat.le_refl _, fun _ _ => rfl⟩
  refine wp_region_held_drew (S := DoR q a A.g A.x h tv #[.int .i64 1, .int .i64 xi, .int .i64 xd, .string xs, .slice ka kl kc]) (by kernel_rfl) HS1.out (fun _ => ?_)
  refine heldTake 0 (some 56) (.pointer (some ⟨q, 0, none⟩)) rfl rfl (by kernel_rfl) (by kernel_rfl) (by kernel_rfl) (fun _ _ _ h => h) (Or.inl ⟨by rfl, fun w hS => ?_⟩) HS1.out ?_
  · (go_simp)
  simp only [Act.put, List.setIfInBounds_toArray, List.set_cons_zero, List.set_cons_succ]
  refine heldTake 1 (some 57) (.pointer (some ⟨q, 0, none⟩)) rfl rfl (by kernel_rfl) (by kernel_rfl) (by kernel_rfl) (fun _ _ _ h => h) (Or.inl ⟨by rfl, fun w hS => ?_⟩) HS1.out ?_
  · (go_simp)
  simp only [Act.put, List.setIfInBounds_toArray, List.set_cons_zero, List.set_cons_succ]
  refine heldTake 2 (some 58) (.pointer (some ⟨q, 2, none⟩)) rfl rfl (by kernel_rfl) (by kernel_rfl) (by kernel_rfl) (fun _ _ _ h => h) (Or.inl ⟨by rfl, fun w hS => ?_⟩) HS1.out ?_
  · (go_simp)
  simp only [Act.put, List.setIfInBounds_toArray, List.set_cons_zero, List.set_cons_succ]
  refine heldTake 3 (some 59) (tv) rfl rfl (by kernel_rfl) (by kernel_rfl) (by kernel_rfl) (fun _ _ _ h => h) (Or.inl ⟨by rfl, fun w hS => ?_⟩) HS1.out ?_
  · (have p0 := hS.cq.2.2.1; clear hS; go_simp)
  simp only [Act.put, List.setIfInBounds_toArray, List.set_cons_zero, List.set_cons_succ]
  refine heldTake 4 (some 60) (.pointer (some ⟨a, 1, none⟩)) rfl rfl (by kernel_rfl) (by kernel_rfl) (by kernel_rfl) (fun _ _ _ h => h) (Or.inl ⟨by rfl, fun w hS => ?_⟩) HS1.out ?_
  · (go_simp)
  simp only [Act.put, List.setIfInBounds_toArray, List.set_cons_zero, List.set_cons_succ]
  refine heldTake 5 (some 61) (.int .i64 xi) rfl rfl (by kernel_rfl) (by kernel_rfl) (by kernel_rfl) (fun _ _ _ h => h) (Or.inl ⟨by rfl, fun w hS => ?_⟩) HS1.out ?_
  · (have p0 : _ = some _ := (cell_of_row w a 1 _ _ (0, 0) hS.ra); clear hS; go_simp)
  simp only [Act.put, List.setIfInBounds_toArray, List.set_cons_zero, List.set_cons_succ]
  refine heldOne 6 (by kernel_rfl) rfl (by rfl) (fun KK hK => ?_)
  go_simp
  have hC1 := read_nob _ _ xi (HEN.shut.below HD.out)
  unfold ptr at hC1
  refine hC1.mono ?_
  rintro e w2 ⟨rfl, hB2⟩
  have hB2' : Below w1.heap.size w1 w2 := HD.out.trans hB2
  have HP := (show Hid _ from HH.out.1.below hB2')
  have HS2 := (show Hid (DoR q a A.g A.x h tv #[.int .i64 1, .int .i64 xi, .int .i64 xd, .string xs, .slice ka kl kc] w2) from ⟨HP.out.row, (hB2'.block a (heap_lt HS0.out.ra)).trans HS0.out.ra⟩)
  clear hB2 hB2' HH hC1 HEN
  refine hK.out _ _ HS2.out ?_
  clear hK KK HS1 HS0 HD
  refine heldTake 7 (some 55) (.tuple #[.int .i64 0, .string ⟨#[]⟩, .int .i64 1]) rfl rfl (by kernel_rfl) (by kernel_rfl) (by kernel_rfl) (fun _ _ _ h => h) (Or.inl ⟨by rfl, fun w hS => ?_⟩) HS2.out ?_
  · (go_simp)
  simp only [Act.put, List.setIfInBounds_toArray, List.set_cons_zero, List.set_cons_succ]
  refine heldTake 8 (some 63) (.int .i64 0) rfl rfl (by kernel_rfl) (by kernel_rfl) (by kernel_rfl) (fun _ _ _ h => h) (Or.inl ⟨by rfl, fun w hS => ?_⟩) HS2.out ?_
  · (go_simp)
  simp only [Act.put, List.setIfInBounds_toArray, List.set_cons_zero, List.set_cons_succ]
  refine heldTake 9 (some 64) (.string ⟨#[]⟩) rfl rfl (by kernel_rfl) (by kernel_rfl) (by kernel_rfl) (fun _ _ _ h => h) (Or.inl ⟨by rfl, fun w hS => ?_⟩) HS2.out ?_
  · (go_simp)
  simp only [Act.put, List.setIfInBounds_toArray, List.set_cons_zero, List.set_cons_succ]
  refine heldTake 10 (some 65) (.int .i64 1) rfl rfl (by kernel_rfl) (by kernel_rfl) (by kernel_rfl) (fun _ _ _ h => h) (Or.inl ⟨by rfl, fun w hS => ?_⟩) HS2.out ?_
  · (go_simp)
  simp only [Act.put, List.setIfInBounds_toArray, List.set_cons_zero, List.set_cons_succ]
  refine heldTake 11 (some 9) (.int .i64 0) rfl rfl (by kernel_rfl) (by kernel_rfl) (by kernel_rfl) (fun _ _ _ h => h) (Or.inl ⟨by rfl, fun w hS => ?_⟩) HS2.out ?_
  · (go_simp)
  simp only [Act.put, List.setIfInBounds_toArray, List.set_cons_zero, List.set_cons_succ]
  refine heldTake 12 (some 10) (.string ⟨#[]⟩) rfl rfl (by kernel_rfl) (by kernel_rfl) (by kernel_rfl) (fun _ _ _ h => h) (Or.inl ⟨by rfl, fun w hS => ?_⟩) HS2.out ?_
  · (go_simp)
  simp only [Act.put, List.setIfInBounds_toArray, List.set_cons_zero, List.set_cons_succ]
  refine heldTake 13 (some 11) (.int .i64 1) rfl rfl (by kernel_rfl) (by kernel_rfl) (by kernel_rfl) (fun _ _ _ h => h) (Or.inl ⟨by rfl, fun w hS => ?_⟩) HS2.out ?_
  · (go_simp)
  simp only [Act.put, List.setIfInBounds_toArray, List.set_cons_zero, List.set_cons_succ]
  refine wpAnyH_done (by kernel_rfl) ?_ _
  have HS3 := (show Hid _ from HS2.out.drew)
  have HD : Hid (Below w2.heap.size w2 w2.drew) := ⟨rfl, rfl, rfl, Nat.le_refl _, fun _ _ => rfl⟩
  go_upto_region 11 with fail
  refine wp_region_held_drew (S := DoR q a A.g A.x h tv #[.int .i64 1, .int .i64 xi, .int .i64 xd, .string xs, .slice ka kl kc]) (by kernel_rfl) HS3.out (fun _ => ?_)
  refine heldTake 0 (some 67) (.pointer (some ⟨q, 0, none⟩)) rfl rfl (by kernel_rfl) (by kernel_rfl) (by kernel_rfl) (fun _ _ _ h => h) (Or.inl ⟨by rfl, fun w hS => ?_⟩) HS3.out ?_
  · (go_simp)
  simp only [Act.put, List.setIfInBounds_toArray, List.set_cons_zero, List.set_cons_succ]
  refine heldTake 1 (some 68) (.pointer (some ⟨q, 0, none⟩)) rfl rfl (by kernel_rfl) (by kernel_rfl) (by kernel_rfl) (fun _ _ _ h => h) (Or.inl ⟨by rfl, fun w hS => ?_⟩) HS3.out ?_
  · (go_simp)
  simp only [Act.put, List.setIfInBounds_toArray, List.set_cons_zero, List.set_cons_succ]
  refine heldTake 2 (some 69) (.pointer (some ⟨q, 3, none⟩)) rfl rfl (by kernel_rfl) (by kernel_rfl) (by kernel_rfl) (fun _ _ _ h => h) (Or.inl ⟨by rfl, fun w hS => ?_⟩) HS3.out ?_
  · (go_simp)
  simp only [Act.put, List.setIfInBounds_toArray, List.set_cons_zero, List.set_cons_succ]
  refine heldTake 3 (some 70) (.pointer (some ⟨h, 0, none⟩)) rfl rfl (by kernel_rfl) (by kernel_rfl) (by kernel_rfl) (fun _ _ _ h => h) (Or.inl ⟨by rfl, fun w hS => ?_⟩) HS3.out ?_
  · (have p0 := hS.cq.2.2.2.1; unfold ptr at p0; clear hS; go_simp)
  simp only [Act.put, List.setIfInBounds_toArray, List.set_cons_zero, List.set_cons_succ]
  refine heldTake 4 (some 71) (.pointer (some ⟨a, 1, none⟩)) rfl rfl (by kernel_rfl) (by kernel_rfl) (by kernel_rfl) (fun _ _ _ h => h) (Or.inl ⟨by rfl, fun w hS => ?_⟩) HS3.out ?_
  · (go_simp)
  simp only [Act.put, List.setIfInBounds_toArray, List.set_cons_zero, List.set_cons_succ]
  refine heldTake 5 (some 72) (.int .i64 xi) rfl rfl (by kernel_rfl) (by kernel_rfl) (by kernel_rfl) (fun _ _ _ h => h) (Or.inl ⟨by rfl, fun w hS => ?_⟩) HS3.out ?_
  · (have p0 : _ = some _ := (cell_of_row w a 1 _ _ (0, 0) hS.ra); clear hS; go_simp)
  simp only [Act.put, List.setIfInBounds_toArray, List.set_cons_zero, List.set_cons_succ]
  refine heldOne 6 (by kernel_rfl) rfl (by rfl) (fun KK hK => ?_)
  go_simp
  have hC2 := rread_no (HP.out.rc.below HD.out) xi
  unfold ptr at hC2
  refine hC2.mono ?_
  rintro e w3 ⟨rfl, hw3⟩
  have hB3' : Below w2.heap.size w2 w3 := by rw [hw3]; exact HD.out
  clear hw3
  have HF := (show Hid _ from HP.out.below hB3')
  have HS4 := (show Hid (DoR q a A.g A.x h tv #[.int .i64 1, .int .i64 xi, .int .i64 xd, .string xs, .slice ka kl kc] w3) from ⟨HF.out.row, (hB3'.block a (heap_lt HS2.out.ra)).trans HS2.out.ra⟩)
  clear hB3' HP hC2
  refine hK.out _ _ HS4.out ?_
  clear hK KK HS3 HS2 HD
  refine heldTake 7 (some 66) (.tuple #[.int .i64 0, .string ⟨#[]⟩, .int .i64 1]) rfl rfl (by kernel_rfl) (by kernel_rfl) (by kernel_rfl) (fun _ _ _ h => h) (Or.inl ⟨by rfl, fun w hS => ?_⟩) HS4.out ?_
  · (go_simp)
  simp only [Act.put, List.setIfInBounds_toArray, List.set_cons_zero, List.set_cons_succ]
  refine heldTake 8 (some 74) (.int .i64 0) rfl rfl (by kernel_rfl) (by kernel_rfl) (by kernel_rfl) (fun _ _ _ h => h) (Or.inl ⟨by rfl, fun w hS => ?_⟩) HS4.out ?_
  · (go_simp)
  simp only [Act.put, List.setIfInBounds_toArray, List.set_cons_zero, List.set_cons_succ]
  refine heldTake 9 (some 75) (.string ⟨#[]⟩) rfl rfl (by kernel_rfl) (by kernel_rfl) (by kernel_rfl) (fun _ _ _ h => h) (Or.inl ⟨by rfl, fun w hS => ?_⟩) HS4.out ?_
  · (go_simp)
  simp only [Act.put, List.setIfInBounds_toArray, List.set_cons_zero, List.set_cons_succ]
  refine heldTake 10 (some 76) (.int .i64 1) rfl rfl (by kernel_rfl) (by kernel_rfl) (by kernel_rfl) (fun _ _ _ h => h) (Or.inl ⟨by rfl, fun w hS => ?_⟩) HS4.out ?_
  · (go_simp)
  simp only [Act.put, List.setIfInBounds_toArray, List.set_cons_zero, List.set_cons_succ]
  refine heldTake 11 (some 12) (.int .i64 0) rfl rfl (by kernel_rfl) (by kernel_rfl) (by kernel_rfl) (fun _ _ _ h => h) (Or.inl ⟨by rfl, fun w hS => ?_⟩) HS4.out ?_
  · (go_simp)
  simp only [Act.put, List.setIfInBounds_toArray, List.set_cons_zero, List.set_cons_succ]
  refine heldTake 12 (some 13) (.string ⟨#[]⟩) rfl rfl (by kernel_rfl) (by kernel_rfl) (by kernel_rfl) (fun _ _ _ h => h) (Or.inl ⟨by rfl, fun w hS => ?_⟩) HS4.out ?_
  · (go_simp)
  simp only [Act.put, List.setIfInBounds_toArray, List.set_cons_zero, List.set_cons_succ]
  refine heldTake 13 (some 14) (.int .i64 1) rfl rfl (by kernel_rfl) (by kernel_rfl) (by kernel_rfl) (fun _ _ _ h => h) (Or.inl ⟨by rfl, fun w hS => ?_⟩) HS4.out ?_
  · (go_simp)
  simp only [Act.put, List.setIfInBounds_toArray, List.set_cons_zero, List.set_cons_succ]
  refine wpAnyH_done (by kernel_rfl) ?_ _
  go_wp2
  go_ret
  exact ⟨rfl, HF.out.ps (by omega)⟩
end
end Go.Proofs.YtcfninpokngmlaaGreatDoor
/- Proved: one kind of call of the law's helper does (stage 10). -/
namespace Go.Proofs.YtcfninpokngmlaaGreatDoor
open Go.RowKit
section
variable {W w w' : World} {q h : Nat} {A : Ad} {tv : Value} {t bt : Nat} {v : Rv} {K K' : Nat} {d : Pd.Db} {S T : Pd.Ab} {sp mk : Bool} {tm : Pd.Mp} {tb : List Bool} {cnt n : Nat} {E : List Nat}
set_option maxHeartbeats 8000000 in
set_option maxRecDepth 20000 in
theorem does_c2 (xi xd : Int) (xs : ByteArray) (ka : Option Addr) (kl kc : Nat) (hxs : xs.size ≤ 9223372036854775807) (H : PC W w q h A tv v K d S mk sp cnt n E) (L : Lim W K cnt n) :
    Calls Tryz.prog 10 #[ptr q, .agg (acA 2 xi xd xs (.slice ka kl kc))] w (DoPost W q h K cnt n) := by
  obtain ⟨hpw, hKL, hc4, hcn, hn2, hn⟩ := L
  have HH := (show Hid _ from do_c H (acA 2 xi xd xs (.slice ka kl kc)))
  have HS0 := (show Hid (DoR q w.heap.size A.g A.x h tv (acA 2 xi xd xs (.slice ka kl kc)) (w.alloc (.cells (acA 2 xi xd xs (.slice ka kl kc)) 28))) from ⟨HH.out.1.row, HH.out.2⟩)
  obtain ⟨ns, hns1, hns2, hmin⟩ : ∃ ns : Nat, ns ≤ xs.size ∧ ns ≤ 510 ∧ min (xs.size : Int) 510 = (ns : Int) := ⟨min xs.size 510, by omega, by omega, by omega⟩
  have n0 : (0 : Int) ≤ (ns : Int) := by omega
  have n1 : (ns : Int) ≤ (xs.size : Int) := by omega
  have hcs : (xs.extract 0 ns).size = ns := cut_size xs ns hns1
  obtain ⟨q0, q1, q2, q3, qz⟩ := HS0.out.cq
  obtain ⟨a0, a1, a2, a3, a4⟩ := HS0.out.ca
  clear H
  unfold acA at *
  unfold ptr at *
  have HEN := HH.out.1.en
  go_enter Tryz.func10, Tryz.ntmps10
  go_upto_region 14 with fail
  generalize World.alloc w _ = w1 at *
  generalize w.heap.size = a at *
  generalize xs.extract 0 ns = sy at *
  clear q0 q1 q2 q3 qz a0 a1 a2 a3 a4
  have HS1 := (show Hid _ from HS0.out.drew)
  have HD : Hid (Below w1.heap.size w1 w1.drew) := ⟨rfl, rfl, rfl, Nat.le_refl _, fun _ _ => rfl⟩
  refine wp_region_held_drew (S := DoR q a A.g A.x h tv #[.int .i64 2, .int .i64 xi, .int .i64 xd, .string xs, .slice ka kl kc]) (by kernel_rfl) HS1.out (fun _ => ?_)
  refine heldTake 0 (some 92) (.pointer (some ⟨q, 0, none⟩)) rfl rfl (by kernel_rfl) (by kernel_rfl) (by kernel_rfl) (fun _ _ _ h => h) (Or.inl ⟨by rfl, fun w hS => ?_⟩) HS1.out ?_
  · (go_simp)
  simp only [Act.put, List.setIfInBounds_toArray, List.set_cons_zero, List.set_cons_succ]
  refine heldTake 1 (some 93) (.pointer (some ⟨q, 0, none⟩)) rfl rfl (by kernel_rfl) (by kernel_rfl) (by kernel_rfl) (fun _ _ _ h => h) (Or.inl ⟨by rfl, fun w hS => ?_⟩) HS1.out ?_
  · (go_simp)
  simp only [Act.put, List.setIfInBounds_toArray, List.set_cons_zero, List.set_cons_succ]
  refine heldTake 2 (some 94) (.pointer (some ⟨q, 2, none⟩)) rfl rfl (by kernel_rfl) (by kernel_rfl) (by kernel_rfl) (fun _ _ _ h => h) (Or.inl ⟨by rfl, fun w hS => ?_⟩) HS1.out ?_
  · (go_simp)
  simp only [Act.put, List.setIfInBounds_toArray, List.set_cons_zero, List.set_cons_succ]
  refine heldTake 3 (some 95) (tv) rfl rfl (by kernel_rfl) (by kernel_rfl) (by kernel_rfl) (fun _ _ _ h => h) (Or.inl ⟨by rfl, fun w hS => ?_⟩) HS1.out ?_
  · (have p0 := hS.cq.2.2.1; clear hS; go_simp)
  simp only [Act.put, List.setIfInBounds_toArray, List.set_cons_zero, List.set_cons_succ]
  refine heldTake 4 (some 96) (.pointer (some ⟨a, 1, none⟩)) rfl rfl (by kernel_rfl) (by kernel_rfl) (by kernel_rfl) (fun _ _ _ h => h) (Or.inl ⟨by rfl, fun w hS => ?_⟩) HS1.out ?_
  · (go_simp)
  simp only [Act.put, List.setIfInBounds_toArray, List.set_cons_zero, List.set_cons_succ]
  refine heldTake 5 (some 97) (.int .i64 xi) rfl rfl (by kernel_rfl) (by kernel_rfl) (by kernel_rfl) (fun _ _ _ h => h) (Or.inl ⟨by rfl, fun w hS => ?_⟩) HS1.out ?_
  · (have p0 : _ = some _ := (cell_of_row w a 1 _ _ (0, 0) hS.ra); clear hS; go_simp)
  simp only [Act.put, List.setIfInBounds_toArray, List.set_cons_zero, List.set_cons_succ]
  refine heldTake 6 (some 98) (.pointer (some ⟨a, 2, none⟩)) rfl rfl (by kernel_rfl) (by kernel_rfl) (by kernel_rfl) (fun _ _ _ h => h) (Or.inl ⟨by rfl, fun w hS => ?_⟩) HS1.out ?_
  · (go_simp)
  simp only [Act.put, List.setIfInBounds_toArray, List.set_cons_zero, List.set_cons_succ]
  refine heldTake 7 (some 99) (.int .i64 xd) rfl rfl (by kernel_rfl) (by kernel_rfl) (by kernel_rfl) (fun _ _ _ h => h) (Or.inl ⟨by rfl, fun w hS => ?_⟩) HS1.out ?_
  · (have p0 : _ = some _ := (cell_of_row w a 2 _ _ (0, 0) hS.ra); clear hS; go_simp)
  simp only [Act.put, List.setIfInBounds_toArray, List.set_cons_zero, List.set_cons_succ]
  refine heldTake 8 (some 100) (.string sy) rfl rfl (by kernel_rfl) (by kernel_rfl) (by kernel_rfl) (fun _ _ _ h => h) (Or.inl ⟨by rfl, fun w hS => ?_⟩) HS1.out ?_
  · (go_simp)
  simp only [Act.put, List.setIfInBounds_toArray, List.set_cons_zero, List.set_cons_succ]
  refine heldTake 10 (some 102) (.pointer (some ⟨q, 0, none⟩)) rfl rfl (by kernel_rfl) (by kernel_rfl) (by kernel_rfl) (fun _ _ _ h => h) (Or.inl ⟨by rfl, fun w hS => ?_⟩) HS1.out ?_
  · (go_simp)
  simp only [Act.put, List.setIfInBounds_toArray, List.set_cons_zero, List.set_cons_succ]
  refine heldTake 11 (some 103) (.pointer (some ⟨q, 0, none⟩)) rfl rfl (by kernel_rfl) (by kernel_rfl) (by kernel_rfl) (fun _ _ _ h => h) (Or.inl ⟨by rfl, fun w hS => ?_⟩) HS1.out ?_
  · (go_simp)
  simp only [Act.put, List.setIfInBounds_toArray, List.set_cons_zero, List.set_cons_succ]
  refine heldTake 12 (some 104) (.pointer (some ⟨q, 3, none⟩)) rfl rfl (by kernel_rfl) (by kernel_rfl) (by kernel_rfl) (fun _ _ _ h => h) (Or.inl ⟨by rfl, fun w hS => ?_⟩) HS1.out ?_
  · (go_simp)
  simp only [Act.put, List.setIfInBounds_toArray, List.set_cons_zero, List.set_cons_succ]
  refine heldTake 13 (some 105) (.pointer (some ⟨h, 0, none⟩)) rfl rfl (by kernel_rfl) (by kernel_rfl) (by kernel_rfl) (fun _ _ _ h => h) (Or.inl ⟨by rfl, fun w hS => ?_⟩) HS1.out ?_
  · (have p0 := hS.cq.2.2.2.1; unfold ptr at p0; clear hS; go_simp)
  simp only [Act.put, List.setIfInBounds_toArray, List.set_cons_zero, List.set_cons_succ]
  refine heldTake 14 (some 106) (.pointer (some ⟨a, 1, none⟩)) rfl rfl (by kernel_rfl) (by kernel_rfl) (by kernel_rfl) (fun _ _ _ h => h) (Or.inl ⟨by rfl, fun w hS => ?_⟩) HS1.out ?_
  · (go_simp)
  simp only [Act.put, List.setIfInBounds_toArray, List.set_cons_zero, List.set_cons_succ]
  refine heldTake 15 (some 107) (.int .i64 xi) rfl rfl (by kernel_rfl) (by kernel_rfl) (by kernel_rfl) (fun _ _ _ h => h) (Or.inl ⟨by rfl, fun w hS => ?_⟩) HS1.out ?_
  · (have p0 : _ = some _ := (cell_of_row w a 1 _ _ (0, 0) hS.ra); clear hS; go_simp)
  simp only [Act.put, List.setIfInBounds_toArray, List.set_cons_zero, List.set_cons_succ]
  refine heldTake 16 (some 108) (.pointer (some ⟨a, 2, none⟩)) rfl rfl (by kernel_rfl) (by kernel_rfl) (by kernel_rfl) (fun _ _ _ h => h) (Or.inl ⟨by rfl, fun w hS => ?_⟩) HS1.out ?_
  · (go_simp)
  simp only [Act.put, List.setIfInBounds_toArray, List.set_cons_zero, List.set_cons_succ]
  refine heldTake 17 (some 109) (.int .i64 xd) rfl rfl (by kernel_rfl) (by kernel_rfl) (by kernel_rfl) (fun _ _ _ h => h) (Or.inl ⟨by rfl, fun w hS => ?_⟩) HS1.out ?_
  · (have p0 : _ = some _ := (cell_of_row w a 2 _ _ (0, 0) hS.ra); clear hS; go_simp)
  simp only [Act.put, List.setIfInBounds_toArray, List.set_cons_zero, List.set_cons_succ]
  refine heldTake 18 (some 110) (.string sy) rfl rfl (by kernel_rfl) (by kernel_rfl) (by kernel_rfl) (fun _ _ _ h => h) (Or.inl ⟨by rfl, fun w hS => ?_⟩) HS1.out ?_
  · (go_simp)
  simp only [Act.put, List.setIfInBounds_toArray, List.set_cons_zero, List.set_cons_succ]
  refine heldOne 9 (by kernel_rfl) rfl (by rfl) (fun KK hK => ?_)
  go_simp
  refine (write_nob _ _ xi xd sy (HEN.shut.below HD.out)).mono ?_
  rintro e w2 ⟨rfl, hB2⟩
  have hB2' : Below w1.heap.size w1 w2 := HD.out.trans hB2
  have HP := (show Hid _ from HH.out.1.below hB2')
  have HS2 := (show Hid (DoR q a A.g A.x h tv #[.int .i64 2, .int .i64 xi, .int .i64 xd, .string xs, .slice ka kl kc] w2) from ⟨HP.out.row, (hB2'.block a (heap_lt HS0.out.ra)).trans HS0.out.ra⟩)
  clear hB2 hB2' HH HEN
  refine hK.out _ _ HS2.out ?_
  clear hK KK HS1
  refine heldOne 19 (by kernel_rfl) rfl (by rfl) (fun KK hK => ?_)
  go_simp
  have hC2 := rwrite_no HP.out.rc xi xd sy
  unfold ptr at hC2
  refine hC2.mono ?_
  rintro e w3 ⟨rfl, hw3⟩
  have HS3 := (show Hid (DoR q a A.g A.x h tv #[.int .i64 2, .int .i64 xi, .int .i64 xd, .string xs, .slice ka kl kc] w3) from by rw [hw3]; exact HS2.out)
  have HF := (show Hid (PC W w3 q h A tv v K d S mk sp cnt n (a :: E)) from by rw [hw3]; exact HP.out)
  clear hw3 hC2 HP HS2
  refine hK.out _ _ HS3.out ?_
  clear hK KK
  refine heldTake 20 (some 112) (.bool true) rfl rfl (by kernel_rfl) (by kernel_rfl) (by kernel_rfl) (fun _ _ _ h => h) (Or.inl ⟨by rfl, fun w hS => ?_⟩) HS3.out ?_
  · (go_simp)
  simp only [Act.put, List.setIfInBounds_toArray, List.set_cons_zero, List.set_cons_succ]
  refine heldTake 21 (some 4) (.bool true) rfl rfl (by kernel_rfl) (by kernel_rfl) (by kernel_rfl) (fun _ _ _ h => h) (Or.inl ⟨by rfl, fun w hS => ?_⟩) HS3.out ?_
  · (go_simp)
  simp only [Act.put, List.setIfInBounds_toArray, List.set_cons_zero, List.set_cons_succ]
  refine wpAnyH_done (by kernel_rfl) ?_ _
  go_wp2
  go_ret
  exact ⟨rfl, HF.out.ps (by omega)⟩
end
end Go.Proofs.YtcfninpokngmlaaGreatDoor
/- Proved: one kind of call of the law's helper does (stage 10). -/
namespace Go.Proofs.YtcfninpokngmlaaGreatDoor
open Go.RowKit
section
variable {W w w' : World} {q h : Nat} {A : Ad} {tv : Value} {t bt : Nat} {v : Rv} {K K' : Nat} {d : Pd.Db} {S T : Pd.Ab} {sp mk : Bool} {tm : Pd.Mp} {tb : List Bool} {cnt n : Nat} {E : List Nat}
set_option maxHeartbeats 8000000 in
set_option maxRecDepth 20000 in
theorem does_c3 (xi xd : Int) (xs : ByteArray) (ka : Option Addr) (kl kc : Nat) (hxs : xs.size ≤ 9223372036854775807) (H : PC W w q h A tv v K d S mk sp cnt n E) (L : Lim W K cnt n) :
    Calls Tryz.prog 10 #[ptr q, .agg (acA 3 xi xd xs (.slice ka kl kc))] w (DoPost W q h K cnt n) := by
  obtain ⟨hpw, hKL, hc4, hcn, hn2, hn⟩ := L
  have HH := (show Hid _ from do_c H (acA 3 xi xd xs (.slice ka kl kc)))
  have HS0 := (show Hid (DoR q w.heap.size A.g A.x h tv (acA 3 xi xd xs (.slice ka kl kc)) (w.alloc (.cells (acA 3 xi xd xs (.slice ka kl kc)) 28))) from ⟨HH.out.1.row, HH.out.2⟩)
  obtain ⟨ns, hns1, hns2, hmin⟩ : ∃ ns : Nat, ns ≤ xs.size ∧ ns ≤ 510 ∧ min (xs.size : Int) 510 = (ns : Int) := ⟨min xs.size 510, by omega, by omega, by omega⟩
  have n0 : (0 : Int) ≤ (ns : Int) := by omega
  have n1 : (ns : Int) ≤ (xs.size : Int) := by omega
  have hcs : (xs.extract 0 ns).size = ns := cut_size xs ns hns1
  obtain ⟨q0, q1, q2, q3, qz⟩ := HS0.out.cq
  obtain ⟨a0, a1, a2, a3, a4⟩ := HS0.out.ca
  clear H
  unfold acA at *
  unfold ptr at *
  have HEN := HH.out.1.en
  have HA := alloc_no _ _ HEN.shut
  have HB := ralloc_no HH.out.1.rc
  have HF := (show Hid _ from HH.out.1)
  unfold ptr at HB
  go_enter Tryz.func10, Tryz.ntmps10
  go_wp2_with (first | (go_at_call 27; refine HA.mono ?_; rintro e wS ⟨rfl, hwS⟩; rw [hwS]; clear hwS wS) | (go_at_call 44; refine HB.mono ?_; rintro e wS ⟨rfl, hwS⟩; rw [hwS]; clear hwS wS))
  go_ret
  exact ⟨rfl, HF.out.ps (by omega)⟩
end
end Go.Proofs.YtcfninpokngmlaaGreatDoor
/- Proved: one kind of call of the law's helper does (stage 10). -/
namespace Go.Proofs.YtcfninpokngmlaaGreatDoor
open Go.RowKit
section
variable {W w w' : World} {q h : Nat} {A : Ad} {tv : Value} {t bt : Nat} {v : Rv} {K K' : Nat} {d : Pd.Db} {S T : Pd.Ab} {sp mk : Bool} {tm : Pd.Mp} {tb : List Bool} {cnt n : Nat} {E : List Nat}
set_option maxHeartbeats 8000000 in
set_option maxRecDepth 20000 in
theorem does_c4 (xi xd : Int) (xs : ByteArray) (ka : Option Addr) (kl kc : Nat) (hxs : xs.size ≤ 9223372036854775807) (H : PC W w q h A tv v K d S mk sp cnt n E) (L : Lim W K cnt n) :
    Calls Tryz.prog 10 #[ptr q, .agg (acA 4 xi xd xs (.slice ka kl kc))] w (DoPost W q h K cnt n) := by
  obtain ⟨hpw, hKL, hc4, hcn, hn2, hn⟩ := L
  have HH := (show Hid _ from do_c H (acA 4 xi xd xs (.slice ka kl kc)))
  have HS0 := (show Hid (DoR q w.heap.size A.g A.x h tv (acA 4 xi xd xs (.slice ka kl kc)) (w.alloc (.cells (acA 4 xi xd xs (.slice ka kl kc)) 28))) from ⟨HH.out.1.row, HH.out.2⟩)
  obtain ⟨ns, hns1, hns2, hmin⟩ : ∃ ns : Nat, ns ≤ xs.size ∧ ns ≤ 510 ∧ min (xs.size : Int) 510 = (ns : Int) := ⟨min xs.size 510, by omega, by omega, by omega⟩
  have n0 : (0 : Int) ≤ (ns : Int) := by omega
  have n1 : (ns : Int) ≤ (xs.size : Int) := by omega
  have hcs : (xs.extract 0 ns).size = ns := cut_size xs ns hns1
  obtain ⟨q0, q1, q2, q3, qz⟩ := HS0.out.cq
  obtain ⟨a0, a1, a2, a3, a4⟩ := HS0.out.ca
  clear H
  unfold acA at *
  unfold ptr at *
  have HEN := HH.out.1.en
  go_enter Tryz.func10, Tryz.ntmps10
  go_upto_region 20 with fail
  generalize World.alloc w _ = w1 at *
  generalize w.heap.size = a at *
  generalize xs.extract 0 ns = sy at *
  clear q0 q1 q2 q3 qz a0 a1 a2 a3 a4
  have HS1 := (show Hid _ from HS0.out.drew)
  have HD : Hid (Below w1.heap.size w1 w1.drew) := ⟨rfl, rfl, rfl, Nat.le_refl _, fun _ _ => rfl⟩
  refine wp_region_held_drew (S := DoR q a A.g A.x h tv #[.int .i64 4, .int .i64 xi, .int .i64 xd, .string xs, .slice ka kl kc]) (by kernel_rfl) HS1.out (fun _ => ?_)
  refine heldTake 0 (some 141) (.pointer (some ⟨q, 0, none⟩)) rfl rfl (by kernel_rfl) (by kernel_rfl) (by kernel_rfl) (fun _ _ _ h => h) (Or.inl ⟨by rfl, fun w hS => ?_⟩) HS1.out ?_
  · (go_simp)
  simp only [Act.put, List.setIfInBounds_toArray, List.set_cons_zero, List.set_cons_succ]
  refine heldTake 1 (some 142) (.pointer (some ⟨q, 0, none⟩)) rfl rfl (by kernel_rfl) (by kernel_rfl) (by kernel_rfl) (fun _ _ _ h => h) (Or.inl ⟨by rfl, fun w hS => ?_⟩) HS1.out ?_
  · (go_simp)
  simp only [Act.put, List.setIfInBounds_toArray, List.set_cons_zero, List.set_cons_succ]
  refine heldTake 2 (some 143) (.pointer (some ⟨q, 2, none⟩)) rfl rfl (by kernel_rfl) (by kernel_rfl) (by kernel_rfl) (fun _ _ _ h => h) (Or.inl ⟨by rfl, fun w hS => ?_⟩) HS1.out ?_
  · (go_simp)
  simp only [Act.put, List.setIfInBounds_toArray, List.set_cons_zero, List.set_cons_succ]
  refine heldTake 3 (some 144) (tv) rfl rfl (by kernel_rfl) (by kernel_rfl) (by kernel_rfl) (fun _ _ _ h => h) (Or.inl ⟨by rfl, fun w hS => ?_⟩) HS1.out ?_
  · (have p0 := hS.cq.2.2.1; clear hS; go_simp)
  simp only [Act.put, List.setIfInBounds_toArray, List.set_cons_zero, List.set_cons_succ]
  refine heldTake 4 (some 145) (.pointer (some ⟨a, 1, none⟩)) rfl rfl (by kernel_rfl) (by kernel_rfl) (by kernel_rfl) (fun _ _ _ h => h) (Or.inl ⟨by rfl, fun w hS => ?_⟩) HS1.out ?_
  · (go_simp)
  simp only [Act.put, List.setIfInBounds_toArray, List.set_cons_zero, List.set_cons_succ]
  refine heldTake 5 (some 146) (.int .i64 xi) rfl rfl (by kernel_rfl) (by kernel_rfl) (by kernel_rfl) (fun _ _ _ h => h) (Or.inl ⟨by rfl, fun w hS => ?_⟩) HS1.out ?_
  · (have p0 : _ = some _ := (cell_of_row w a 1 _ _ (0, 0) hS.ra); clear hS; go_simp)
  simp only [Act.put, List.setIfInBounds_toArray, List.set_cons_zero, List.set_cons_succ]
  refine heldTake 7 (some 148) (.pointer (some ⟨q, 0, none⟩)) rfl rfl (by kernel_rfl) (by kernel_rfl) (by kernel_rfl) (fun _ _ _ h => h) (Or.inl ⟨by rfl, fun w hS => ?_⟩) HS1.out ?_
  · (go_simp)
  simp only [Act.put, List.setIfInBounds_toArray, List.set_cons_zero, List.set_cons_succ]
  refine heldTake 8 (some 149) (.pointer (some ⟨q, 0, none⟩)) rfl rfl (by kernel_rfl) (by kernel_rfl) (by kernel_rfl) (fun _ _ _ h => h) (Or.inl ⟨by rfl, fun w hS => ?_⟩) HS1.out ?_
  · (go_simp)
  simp only [Act.put, List.setIfInBounds_toArray, List.set_cons_zero, List.set_cons_succ]
  refine heldTake 9 (some 150) (.pointer (some ⟨q, 3, none⟩)) rfl rfl (by kernel_rfl) (by kernel_rfl) (by kernel_rfl) (fun _ _ _ h => h) (Or.inl ⟨by rfl, fun w hS => ?_⟩) HS1.out ?_
  · (go_simp)
  simp only [Act.put, List.setIfInBounds_toArray, List.set_cons_zero, List.set_cons_succ]
  refine heldTake 10 (some 151) (.pointer (some ⟨h, 0, none⟩)) rfl rfl (by kernel_rfl) (by kernel_rfl) (by kernel_rfl) (fun _ _ _ h => h) (Or.inl ⟨by rfl, fun w hS => ?_⟩) HS1.out ?_
  · (have p0 := hS.cq.2.2.2.1; unfold ptr at p0; clear hS; go_simp)
  simp only [Act.put, List.setIfInBounds_toArray, List.set_cons_zero, List.set_cons_succ]
  refine heldTake 11 (some 152) (.pointer (some ⟨a, 1, none⟩)) rfl rfl (by kernel_rfl) (by kernel_rfl) (by kernel_rfl) (fun _ _ _ h => h) (Or.inl ⟨by rfl, fun w hS => ?_⟩) HS1.out ?_
  · (go_simp)
  simp only [Act.put, List.setIfInBounds_toArray, List.set_cons_zero, List.set_cons_succ]
  refine heldTake 12 (some 153) (.int .i64 xi) rfl rfl (by kernel_rfl) (by kernel_rfl) (by kernel_rfl) (fun _ _ _ h => h) (Or.inl ⟨by rfl, fun w hS => ?_⟩) HS1.out ?_
  · (have p0 : _ = some _ := (cell_of_row w a 1 _ _ (0, 0) hS.ra); clear hS; go_simp)
  simp only [Act.put, List.setIfInBounds_toArray, List.set_cons_zero, List.set_cons_succ]
  refine heldOne 6 (by kernel_rfl) rfl (by rfl) (fun KK hK => ?_)
  go_simp
  refine (free_nob _ _ xi (HEN.shut.below HD.out)).mono ?_
  rintro e w2 ⟨rfl, hB2⟩
  have hB2' : Below w1.heap.size w1 w2 := HD.out.trans hB2
  have HP := (show Hid _ from HH.out.1.below hB2')
  have HS2 := (show Hid (DoR q a A.g A.x h tv #[.int .i64 4, .int .i64 xi, .int .i64 xd, .string xs, .slice ka kl kc] w2) from ⟨HP.out.row, (hB2'.block a (heap_lt HS0.out.ra)).trans HS0.out.ra⟩)
  clear hB2 hB2' HH HEN
  refine hK.out _ _ HS2.out ?_
  clear hK KK HS1
  refine heldOne 13 (by kernel_rfl) rfl (by rfl) (fun KK hK => ?_)
  go_simp
  have hC2 := rfree_no HP.out.rc xi
  unfold ptr at hC2
  refine hC2.mono ?_
  rintro e w3 ⟨rfl, hw3⟩
  have HS3 := (show Hid (DoR q a A.g A.x h tv #[.int .i64 4, .int .i64 xi, .int .i64 xd, .string xs, .slice ka kl kc] w3) from by rw [hw3]; exact HS2.out)
  have HF := (show Hid (PC W w3 q h A tv v K d S mk sp cnt n (a :: E)) from by rw [hw3]; exact HP.out)
  clear hw3 hC2 HP HS2
  refine hK.out _ _ HS3.out ?_
  clear hK KK
  refine heldTake 14 (some 155) (.bool true) rfl rfl (by kernel_rfl) (by kernel_rfl) (by kernel_rfl) (fun _ _ _ h => h) (Or.inl ⟨by rfl, fun w hS => ?_⟩) HS3.out ?_
  · (go_simp)
  simp only [Act.put, List.setIfInBounds_toArray, List.set_cons_zero, List.set_cons_succ]
  refine heldTake 15 (some 4) (.bool true) rfl rfl (by kernel_rfl) (by kernel_rfl) (by kernel_rfl) (fun _ _ _ h => h) (Or.inl ⟨by rfl, fun w hS => ?_⟩) HS3.out ?_
  · (go_simp)
  simp only [Act.put, List.setIfInBounds_toArray, List.set_cons_zero, List.set_cons_succ]
  refine wpAnyH_done (by kernel_rfl) ?_ _
  go_wp2
  go_ret
  exact ⟨rfl, HF.out.ps (by omega)⟩
end
end Go.Proofs.YtcfninpokngmlaaGreatDoor
/- Proved: one kind of call of the law's helper does (stage 10). -/
namespace Go.Proofs.YtcfninpokngmlaaGreatDoor
open Go.RowKit
section
variable {W w w' : World} {q h : Nat} {A : Ad} {tv : Value} {t bt : Nat} {v : Rv} {K K' : Nat} {d : Pd.Db} {S T : Pd.Ab} {sp mk : Bool} {tm : Pd.Mp} {tb : List Bool} {cnt n : Nat} {E : List Nat}
set_option maxHeartbeats 8000000 in
set_option maxRecDepth 20000 in
theorem does_c5 (xi xd : Int) (xs : ByteArray) (ka : Option Addr) (kl kc : Nat) (hxs : xs.size ≤ 9223372036854775807) (H : PC W w q h A tv v K d S mk sp cnt n E) (L : Lim W K cnt n) :
    Calls Tryz.prog 10 #[ptr q, .agg (acA 5 xi xd xs (.slice ka kl kc))] w (DoPost W q h K cnt n) := by
  obtain ⟨hpw, hKL, hc4, hcn, hn2, hn⟩ := L
  have HH := (show Hid _ from do_c H (acA 5 xi xd xs (.slice ka kl kc)))
  have HS0 := (show Hid (DoR q w.heap.size A.g A.x h tv (acA 5 xi xd xs (.slice ka kl kc)) (w.alloc (.cells (acA 5 xi xd xs (.slice ka kl kc)) 28))) from ⟨HH.out.1.row, HH.out.2⟩)
  obtain ⟨ns, hns1, hns2, hmin⟩ : ∃ ns : Nat, ns ≤ xs.size ∧ ns ≤ 510 ∧ min (xs.size : Int) 510 = (ns : Int) := ⟨min xs.size 510, by omega, by omega, by omega⟩
  have n0 : (0 : Int) ≤ (ns : Int) := by omega
  have n1 : (ns : Int) ≤ (xs.size : Int) := by omega
  have hcs : (xs.extract 0 ns).size = ns := cut_size xs ns hns1
  obtain ⟨q0, q1, q2, q3, qz⟩ := HS0.out.cq
  obtain ⟨a0, a1, a2, a3, a4⟩ := HS0.out.ca
  clear H
  unfold acA at *
  unfold ptr at *
  have HEN := HH.out.1.en
  go_enter Tryz.func10, Tryz.ntmps10
  go_upto_region 22 with fail
  generalize World.alloc w _ = w1 at *
  generalize w.heap.size = a at *
  generalize xs.extract 0 ns = sy at *
  clear q0 q1 q2 q3 qz a0 a1 a2 a3 a4
  have HS1 := (show Hid _ from HS0.out.drew)
  have HD : Hid (Below w1.heap.size w1 w1.drew) := ⟨rfl, rfl, rfl, Nat.le_refl _, fun _ _ => rfl⟩
  refine wp_region_held_drew (S := DoR q a A.g A.x h tv #[.int .i64 5, .int .i64 xi, .int .i64 xd, .string xs, .slice ka kl kc]) (by kernel_rfl) HS1.out (fun _ => ?_)
  refine heldTake 0 (some 158) (.pointer (some ⟨q, 0, none⟩)) rfl rfl (by kernel_rfl) (by kernel_rfl) (by kernel_rfl) (fun _ _ _ h => h) (Or.inl ⟨by rfl, fun w hS => ?_⟩) HS1.out ?_
  · (go_simp)
  simp only [Act.put, List.setIfInBounds_toArray, List.set_cons_zero, List.set_cons_succ]
  refine heldTake 1 (some 159) (.pointer (some ⟨q, 0, none⟩)) rfl rfl (by kernel_rfl) (by kernel_rfl) (by kernel_rfl) (fun _ _ _ h => h) (Or.inl ⟨by rfl, fun w hS => ?_⟩) HS1.out ?_
  · (go_simp)
  simp only [Act.put, List.setIfInBounds_toArray, List.set_cons_zero, List.set_cons_succ]
  refine heldTake 2 (some 160) (.pointer (some ⟨q, 2, none⟩)) rfl rfl (by kernel_rfl) (by kernel_rfl) (by kernel_rfl) (fun _ _ _ h => h) (Or.inl ⟨by rfl, fun w hS => ?_⟩) HS1.out ?_
  · (go_simp)
  simp only [Act.put, List.setIfInBounds_toArray, List.set_cons_zero, List.set_cons_succ]
  refine heldTake 3 (some 161) (tv) rfl rfl (by kernel_rfl) (by kernel_rfl) (by kernel_rfl) (fun _ _ _ h => h) (Or.inl ⟨by rfl, fun w hS => ?_⟩) HS1.out ?_
  · (have p0 := hS.cq.2.2.1; clear hS; go_simp)
  simp only [Act.put, List.setIfInBounds_toArray, List.set_cons_zero, List.set_cons_succ]
  refine heldTake 4 (some 162) (.pointer (some ⟨a, 1, none⟩)) rfl rfl (by kernel_rfl) (by kernel_rfl) (by kernel_rfl) (fun _ _ _ h => h) (Or.inl ⟨by rfl, fun w hS => ?_⟩) HS1.out ?_
  · (go_simp)
  simp only [Act.put, List.setIfInBounds_toArray, List.set_cons_zero, List.set_cons_succ]
  refine heldTake 5 (some 163) (.int .i64 xi) rfl rfl (by kernel_rfl) (by kernel_rfl) (by kernel_rfl) (fun _ _ _ h => h) (Or.inl ⟨by rfl, fun w hS => ?_⟩) HS1.out ?_
  · (have p0 : _ = some _ := (cell_of_row w a 1 _ _ (0, 0) hS.ra); clear hS; go_simp)
  simp only [Act.put, List.setIfInBounds_toArray, List.set_cons_zero, List.set_cons_succ]
  refine heldTake 6 (some 164) (.pointer (some ⟨a, 2, none⟩)) rfl rfl (by kernel_rfl) (by kernel_rfl) (by kernel_rfl) (fun _ _ _ h => h) (Or.inl ⟨by rfl, fun w hS => ?_⟩) HS1.out ?_
  · (go_simp)
  simp only [Act.put, List.setIfInBounds_toArray, List.set_cons_zero, List.set_cons_succ]
  refine heldTake 7 (some 165) (.int .i64 xd) rfl rfl (by kernel_rfl) (by kernel_rfl) (by kernel_rfl) (fun _ _ _ h => h) (Or.inl ⟨by rfl, fun w hS => ?_⟩) HS1.out ?_
  · (have p0 : _ = some _ := (cell_of_row w a 2 _ _ (0, 0) hS.ra); clear hS; go_simp)
  simp only [Act.put, List.setIfInBounds_toArray, List.set_cons_zero, List.set_cons_succ]
  refine heldTake 9 (some 167) (.pointer (some ⟨q, 0, none⟩)) rfl rfl (by kernel_rfl) (by kernel_rfl) (by kernel_rfl) (fun _ _ _ h => h) (Or.inl ⟨by rfl, fun w hS => ?_⟩) HS1.out ?_
  · (go_simp)
  simp only [Act.put, List.setIfInBounds_toArray, List.set_cons_zero, List.set_cons_succ]
  refine heldTake 10 (some 168) (.pointer (some ⟨q, 0, none⟩)) rfl rfl (by kernel_rfl) (by kernel_rfl) (by kernel_rfl) (fun _ _ _ h => h) (Or.inl ⟨by rfl, fun w hS => ?_⟩) HS1.out ?_
  · (go_simp)
  simp only [Act.put, List.setIfInBounds_toArray, List.set_cons_zero, List.set_cons_succ]
  refine heldTake 11 (some 169) (.pointer (some ⟨q, 3, none⟩)) rfl rfl (by kernel_rfl) (by kernel_rfl) (by kernel_rfl) (fun _ _ _ h => h) (Or.inl ⟨by rfl, fun w hS => ?_⟩) HS1.out ?_
  · (go_simp)
  simp only [Act.put, List.setIfInBounds_toArray, List.set_cons_zero, List.set_cons_succ]
  refine heldTake 12 (some 170) (.pointer (some ⟨h, 0, none⟩)) rfl rfl (by kernel_rfl) (by kernel_rfl) (by kernel_rfl) (fun _ _ _ h => h) (Or.inl ⟨by rfl, fun w hS => ?_⟩) HS1.out ?_
  · (have p0 := hS.cq.2.2.2.1; unfold ptr at p0; clear hS; go_simp)
  simp only [Act.put, List.setIfInBounds_toArray, List.set_cons_zero, List.set_cons_succ]
  refine heldTake 13 (some 171) (.pointer (some ⟨a, 1, none⟩)) rfl rfl (by kernel_rfl) (by kernel_rfl) (by kernel_rfl) (fun _ _ _ h => h) (Or.inl ⟨by rfl, fun w hS => ?_⟩) HS1.out ?_
  · (go_simp)
  simp only [Act.put, List.setIfInBounds_toArray, List.set_cons_zero, List.set_cons_succ]
  refine heldTake 14 (some 172) (.int .i64 xi) rfl rfl (by kernel_rfl) (by kernel_rfl) (by kernel_rfl) (fun _ _ _ h => h) (Or.inl ⟨by rfl, fun w hS => ?_⟩) HS1.out ?_
  · (have p0 : _ = some _ := (cell_of_row w a 1 _ _ (0, 0) hS.ra); clear hS; go_simp)
  simp only [Act.put, List.setIfInBounds_toArray, List.set_cons_zero, List.set_cons_succ]
  refine heldTake 15 (some 173) (.pointer (some ⟨a, 2, none⟩)) rfl rfl (by kernel_rfl) (by kernel_rfl) (by kernel_rfl) (fun _ _ _ h => h) (Or.inl ⟨by rfl, fun w hS => ?_⟩) HS1.out ?_
  · (go_simp)
  simp only [Act.put, List.setIfInBounds_toArray, List.set_cons_zero, List.set_cons_succ]
  refine heldTake 16 (some 174) (.int .i64 xd) rfl rfl (by kernel_rfl) (by kernel_rfl) (by kernel_rfl) (fun _ _ _ h => h) (Or.inl ⟨by rfl, fun w hS => ?_⟩) HS1.out ?_
  · (have p0 : _ = some _ := (cell_of_row w a 2 _ _ (0, 0) hS.ra); clear hS; go_simp)
  simp only [Act.put, List.setIfInBounds_toArray, List.set_cons_zero, List.set_cons_succ]
  refine heldOne 8 (by kernel_rfl) rfl (by rfl) (fun KK hK => ?_)
  go_simp
  refine (setroot_no _ _ xi xd (HEN.shut.below HD.out)).mono ?_
  rintro e w2 ⟨rfl, hw2⟩
  have hB2' : Below w1.heap.size w1 w2 := by rw [hw2]; exact HD.out
  have HP := (show Hid _ from HH.out.1.below hB2')
  have HS2 := (show Hid (DoR q a A.g A.x h tv #[.int .i64 5, .int .i64 xi, .int .i64 xd, .string xs, .slice ka kl kc] w2) from ⟨HP.out.row, (hB2'.block a (heap_lt HS0.out.ra)).trans HS0.out.ra⟩)
  clear hw2 hB2' HH HEN
  refine hK.out _ _ HS2.out ?_
  clear hK KK HS1
  refine heldOne 17 (by kernel_rfl) rfl (by rfl) (fun KK hK => ?_)
  go_simp
  have hC2 := rsetroot_no HP.out.rc xi xd
  unfold ptr at hC2
  refine hC2.mono ?_
  rintro e w3 ⟨rfl, hw3⟩
  have HS3 := (show Hid (DoR q a A.g A.x h tv #[.int .i64 5, .int .i64 xi, .int .i64 xd, .string xs, .slice ka kl kc] w3) from by rw [hw3]; exact HS2.out)
  have HF := (show Hid (PC W w3 q h A tv v K d S mk sp cnt n (a :: E)) from by rw [hw3]; exact HP.out)
  clear hw3 hC2 HP HS2
  refine hK.out _ _ HS3.out ?_
  clear hK KK
  refine heldTake 18 (some 176) (.bool true) rfl rfl (by kernel_rfl) (by kernel_rfl) (by kernel_rfl) (fun _ _ _ h => h) (Or.inl ⟨by rfl, fun w hS => ?_⟩) HS3.out ?_
  · (go_simp)
  simp only [Act.put, List.setIfInBounds_toArray, List.set_cons_zero, List.set_cons_succ]
  refine heldTake 19 (some 4) (.bool true) rfl rfl (by kernel_rfl) (by kernel_rfl) (by kernel_rfl) (fun _ _ _ h => h) (Or.inl ⟨by rfl, fun w hS => ?_⟩) HS3.out ?_
  · (go_simp)
  simp only [Act.put, List.setIfInBounds_toArray, List.set_cons_zero, List.set_cons_succ]
  refine wpAnyH_done (by kernel_rfl) ?_ _
  go_wp2
  go_ret
  exact ⟨rfl, HF.out.ps (by omega)⟩
end
end Go.Proofs.YtcfninpokngmlaaGreatDoor
