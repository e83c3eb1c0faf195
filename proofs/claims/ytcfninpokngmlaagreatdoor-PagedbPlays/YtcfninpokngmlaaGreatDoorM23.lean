/- Proved: one kind of call of the law's helper does (stage 10). -/
import Derived.Test.YtcfninpokngmlaaGreatDoorM20
import Derived.Deep.CutBlock
namespace Go.Proofs.YtcfninpokngmlaaGreatDoor
open Go.RowKit
section
variable {W w w' : World} {q h : Nat} {A : Ad} {tv : Value} {t bt : Nat} {v : Rv} {K K' : Nat} {d : Pd.Db} {S T : Pd.Ab} {sp mk : Bool} {tm : Pd.Mp} {tb : List Bool} {cnt n : Nat} {E : List Nat}
set_option maxHeartbeats 8000000 in
set_option maxRecDepth 20000 in
theorem does_o2 (xi xd : Int) (xs : ByteArray) (ka : Option Addr) (kl kc : Nat) (hxs : xs.size ≤ 9223372036854775807) (H : PO W w q h A t bt v K d S T sp tm tb mk cnt n E) (L : Lim W K cnt n) :
    Calls Tryz.prog 10 #[ptr q, .agg (acA 2 xi xd xs (.slice ka kl kc))] w (DoPost W q h K cnt n) := by
  obtain ⟨hpw, hKL, hc4, hcn, hn2, hn⟩ := L
  have HH := (show Hid _ from do_o H (acA 2 xi xd xs (.slice ka kl kc)))
  have HS0 := (show Hid (DoR q w.heap.size A.g A.x h (ptr t) (acA 2 xi xd xs (.slice ka kl kc)) (w.alloc (.cells (acA 2 xi xd xs (.slice ka kl kc)) 28))) from ⟨HH.out.1.row, HH.out.2⟩)
  obtain ⟨ns, hns1, hns2, hmin⟩ : ∃ ns : Nat, ns ≤ xs.size ∧ ns ≤ 510 ∧ min (xs.size : Int) 510 = (ns : Int) := ⟨min xs.size 510, by omega, by omega, by omega⟩
  have n0 : (0 : Int) ≤ (ns : Int) := by omega
  have n1 : (ns : Int) ≤ (xs.size : Int) := by omega
  have hcs : (xs.extract 0 ns).size = ns := cut_size xs ns hns1
  obtain ⟨q0, q1, q2, q3, qz⟩ := HS0.out.cq
  obtain ⟨a0, a1, a2, a3, a4⟩ := HS0.out.ca
  clear H
  unfold acA at *
  unfold ptr at *
  go_enter Tryz.func10, Tryz.ntmps10
  go_upto_region 14 with fail
  generalize World.alloc w _ = w1 at *
  generalize w.heap.size = a at *
  generalize xs.extract 0 ns = sy at *
  clear q0 q1 q2 q3 qz a0 a1 a2 a3 a4
  have HS1 := (show Hid _ from HS0.out.drew)
  have HD : Hid (Below w1.heap.size w1 w1.drew) := ⟨rfl, rfl, rfl, Nat.le_refl _, fun _ _ => rfl⟩
  refine wp_region_held_drew (S := DoR q a A.g A.x h (.pointer (some ⟨t, 0, none⟩)) #[.int .i64 2, .int .i64 xi, .int .i64 xd, .string xs, .slice ka kl kc]) (by kernel_rfl) HS1.out (fun _ => ?_)
  refine heldTake 0 (some 92) (.pointer (some ⟨q, 0, none⟩)) rfl rfl (by kernel_rfl) (by kernel_rfl) (by kernel_rfl) (fun _ _ _ h => h) (Or.inl ⟨by rfl, fun w hS => ?_⟩) HS1.out ?_
  · (go_simp)
  simp only [Act.put, List.setIfInBounds_toArray, List.set_cons_zero, List.set_cons_succ]
  refine heldTake 1 (some 93) (.pointer (some ⟨q, 0, none⟩)) rfl rfl (by kernel_rfl) (by kernel_rfl) (by kernel_rfl) (fun _ _ _ h => h) (Or.inl ⟨by rfl, fun w hS => ?_⟩) HS1.out ?_
  · (go_simp)
  simp only [Act.put, List.setIfInBounds_toArray, List.set_cons_zero, List.set_cons_succ]
  refine heldTake 2 (some 94) (.pointer (some ⟨q, 2, none⟩)) rfl rfl (by kernel_rfl) (by kernel_rfl) (by kernel_rfl) (fun _ _ _ h => h) (Or.inl ⟨by rfl, fun w hS => ?_⟩) HS1.out ?_
  · (go_simp)
  simp only [Act.put, List.setIfInBounds_toArray, List.set_cons_zero, List.set_cons_succ]
  refine heldTake 3 (some 95) (.pointer (some ⟨t, 0, none⟩)) rfl rfl (by kernel_rfl) (by kernel_rfl) (by kernel_rfl) (fun _ _ _ h => h) (Or.inl ⟨by rfl, fun w hS => ?_⟩) HS1.out ?_
  · (have p0 := hS.cq.2.2.1; unfold ptr at p0; clear hS; go_simp)
  simp only [Act.put, List.setIfInBounds_toArray, List.set_cons_zero, List.set_cons_succ]
  refine heldTake 4 (some 96) (.pointer (some ⟨a, 1, none⟩)) rfl rfl (by kernel_rfl) (by kernel_rfl) (by kernel_rfl) (fun _ _ _ h => h) (Or.inl ⟨by rfl, fun w hS => ?_⟩) HS1.out ?_
  · (go_simp)
  simp only [Act.put, List.setIfInBounds_toArray, List.set_cons_zero, List.set_cons_succ]
  refine heldTake 5 (some 97) (.int .i64 xi) rfl rfl (by kernel_rfl) (by kernel_rfl) (by kernel_rfl) (fun _ _ _ h => h) (Or.inl ⟨by rfl, fun w hS => ?_⟩) HS1.out ?_
  · (have p0 : _ = some _ := (cell_of_row w a 1 _ _ (0, 0) hS.ra); clear hS; go_simp)
  simp only [Act.put, List.setIfInBounds_toArray, List.set_cons_zero, List.set_cons_succ]
  refine heldTake 6 (some 98) (.pointer (some ⟨a, 2, none⟩)) rfl rfl (by kernel_rfl) (by kernel_rfl) (by kernel_rfl) (fun _ _ _ h => h) (Or.inl ⟨by rfl, fun w hS => ?_⟩) HS1.out ?_
  · (go_simp)
  simp only [Act.put, List.setIfInBounds_toArray, List.set_cons_zero, List.set_cons_succ]
  refine heldTake 7 (some 99) (.int .i64 xd) rfl rfl (by kernel_rfl) (by kernel_rfl) (by kernel_rfl) (fun _ _ _ h => h) (Or.inl ⟨by rfl, fun w hS => ?_⟩) HS1.out ?_
  · (have p0 : _ = some _ := (cell_of_row w a 2 _ _ (0, 0) hS.ra); clear hS; go_simp)
  simp only [Act.put, List.setIfInBounds_toArray, List.set_cons_zero, List.set_cons_succ]
  refine heldTake 8 (some 100) (.string sy) rfl rfl (by kernel_rfl) (by kernel_rfl) (by kernel_rfl) (fun _ _ _ h => h) (Or.inl ⟨by rfl, fun w hS => ?_⟩) HS1.out ?_
  · (go_simp)
  simp only [Act.put, List.setIfInBounds_toArray, List.set_cons_zero, List.set_cons_succ]
  refine heldTake 10 (some 102) (.pointer (some ⟨q, 0, none⟩)) rfl rfl (by kernel_rfl) (by kernel_rfl) (by kernel_rfl) (fun _ _ _ h => h) (Or.inl ⟨by rfl, fun w hS => ?_⟩) HS1.out ?_
  · (go_simp)
  simp only [Act.put, List.setIfInBounds_toArray, List.set_cons_zero, List.set_cons_succ]
  refine heldTake 11 (some 103) (.pointer (some ⟨q, 0, none⟩)) rfl rfl (by kernel_rfl) (by kernel_rfl) (by kernel_rfl) (fun _ _ _ h => h) (Or.inl ⟨by rfl, fun w hS => ?_⟩) HS1.out ?_
  · (go_simp)
  simp only [Act.put, List.setIfInBounds_toArray, List.set_cons_zero, List.set_cons_succ]
  refine heldTake 12 (some 104) (.pointer (some ⟨q, 3, none⟩)) rfl rfl (by kernel_rfl) (by kernel_rfl) (by kernel_rfl) (fun _ _ _ h => h) (Or.inl ⟨by rfl, fun w hS => ?_⟩) HS1.out ?_
  · (go_simp)
  simp only [Act.put, List.setIfInBounds_toArray, List.set_cons_zero, List.set_cons_succ]
  refine heldTake 13 (some 105) (.pointer (some ⟨h, 0, none⟩)) rfl rfl (by kernel_rfl) (by kernel_rfl) (by kernel_rfl) (fun _ _ _ h => h) (Or.inl ⟨by rfl, fun w hS => ?_⟩) HS1.out ?_
  · (have p0 := hS.cq.2.2.2.1; unfold ptr at p0; clear hS; go_simp)
  simp only [Act.put, List.setIfInBounds_toArray, List.set_cons_zero, List.set_cons_succ]
  refine heldTake 14 (some 106) (.pointer (some ⟨a, 1, none⟩)) rfl rfl (by kernel_rfl) (by kernel_rfl) (by kernel_rfl) (fun _ _ _ h => h) (Or.inl ⟨by rfl, fun w hS => ?_⟩) HS1.out ?_
  · (go_simp)
  simp only [Act.put, List.setIfInBounds_toArray, List.set_cons_zero, List.set_cons_succ]
  refine heldTake 15 (some 107) (.int .i64 xi) rfl rfl (by kernel_rfl) (by kernel_rfl) (by kernel_rfl) (fun _ _ _ h => h) (Or.inl ⟨by rfl, fun w hS => ?_⟩) HS1.out ?_
  · (have p0 : _ = some _ := (cell_of_row w a 1 _ _ (0, 0) hS.ra); clear hS; go_simp)
  simp only [Act.put, List.setIfInBounds_toArray, List.set_cons_zero, List.set_cons_succ]
  refine heldTake 16 (some 108) (.pointer (some ⟨a, 2, none⟩)) rfl rfl (by kernel_rfl) (by kernel_rfl) (by kernel_rfl) (fun _ _ _ h => h) (Or.inl ⟨by rfl, fun w hS => ?_⟩) HS1.out ?_
  · (go_simp)
  simp only [Act.put, List.setIfInBounds_toArray, List.set_cons_zero, List.set_cons_succ]
  refine heldTake 17 (some 109) (.int .i64 xd) rfl rfl (by kernel_rfl) (by kernel_rfl) (by kernel_rfl) (fun _ _ _ h => h) (Or.inl ⟨by rfl, fun w hS => ?_⟩) HS1.out ?_
  · (have p0 : _ = some _ := (cell_of_row w a 2 _ _ (0, 0) hS.ra); clear hS; go_simp)
  simp only [Act.put, List.setIfInBounds_toArray, List.set_cons_zero, List.set_cons_succ]
  refine heldTake 18 (some 110) (.string sy) rfl rfl (by kernel_rfl) (by kernel_rfl) (by kernel_rfl) (fun _ _ _ h => h) (Or.inl ⟨by rfl, fun w hS => ?_⟩) HS1.out ?_
  · (go_simp)
  simp only [Act.put, List.setIfInBounds_toArray, List.set_cons_zero, List.set_cons_succ]
  refine heldOne 9 (by kernel_rfl) rfl (by rfl) (fun KK hK => ?_)
  go_simp
  have hC1 := gwrite xi xd sy (HH.out.1.g.below HD.out)
  unfold ptr at hC1
  refine hC1.mono ?_
  rintro e w2 ⟨rfl, hG2, hT2⟩
  have hT2' : Turn (tft A t bt) (tft A t bt) w1 w2 := (Turn.of_below HD.out).trans hT2
  have HP := (show Hid _ from HH.out.1.prog hG2 hT2')
  have HS2 := (show Hid (DoR q a A.g A.x h (.pointer (some ⟨t, 0, none⟩)) #[.int .i64 2, .int .i64 xi, .int .i64 xd, .string xs, .slice ka kl kc] w2) from ⟨HP.out.row, (hT2'.chg.block a (heap_lt HS0.out.ra) (HH.out.1.ap.fe a List.mem_cons_self)).trans HS0.out.ra⟩)
  have hcd := HH.out.1.geo.cnt
  have HTI : Hid (Pd.TxI cnt S T tm ∧ Trk cnt tb mk tm) := ⟨by rw [← hcd]; exact HH.out.1.g.txi, HH.out.1.trk⟩
  clear hG2 hT2 hT2' hC1 HH hcd
  refine hK.out _ _ HS2.out ?_
  clear hK KK HS1
  refine heldOne 19 (by kernel_rfl) rfl (by rfl) (fun KK hK => ?_)
  go_simp
  have hC2 := rwrite_any HP.out.ro HTI.out.1.ok xi xd sy (by omega)
  unfold ptr at hC2
  refine hC2.mono ?_
  rintro e w3 ⟨rfl, hR3, hT3⟩
  have HF := (show Hid _ from HP.out.doc hR3 hT3 hpw (HTI.out.2.write HTI.out.1 xi xd sy))
  have HS3 := (show Hid (DoR q a A.g A.x h (.pointer (some ⟨t, 0, none⟩)) #[.int .i64 2, .int .i64 xi, .int .i64 xd, .string xs, .slice ka kl kc] w3) from ⟨HF.out.row, (hT3.chg.block a (heap_lt HS2.out.ra) (HP.out.ap.re a List.mem_cons_self)).trans HS2.out.ra⟩)
  clear hR3 hT3 hC2 HP HS2 HTI
  refine hK.out _ _ HS3.out ?_
  clear hK KK
  refine heldTake 20 (some 112) (.bool true) rfl rfl (by kernel_rfl) (by kernel_rfl) (by kernel_rfl) (fun _ _ _ h => h) (Or.inl ⟨by rfl, fun w hS => ?_⟩) HS3.out ?_
  · (go_simp)
  simp only [Act.put, List.setIfInBounds_toArray, List.set_cons_zero, List.set_cons_succ]
  refine heldTake 21 (some 4) (.bool true) rfl rfl (by kernel_rfl) (by kernel_rfl) (by kernel_rfl) (fun _ _ _ h => h) (Or.inl ⟨by rfl, fun w hS => ?_⟩) HS3.out ?_
  · (go_simp)
  simp only [Act.put, List.setIfInBounds_toArray, List.set_cons_zero, List.set_cons_succ]
  refine wpAnyH_done (by kernel_rfl) ?_ _
  go_wp2
  go_ret
  exact ⟨rfl, HF.out.ps (by omega)⟩
end
end Go.Proofs.YtcfninpokngmlaaGreatDoor
/- Proved: one kind of call of the law's helper does (stage 10). -/
namespace Go.Proofs.YtcfninpokngmlaaGreatDoor
open Go.RowKit
section
variable {W w w' : World} {q h : Nat} {A : Ad} {tv : Value} {t bt : Nat} {v : Rv} {K K' : Nat} {d : Pd.Db} {S T : Pd.Ab} {sp mk : Bool} {tm : Pd.Mp} {tb : List Bool} {cnt n : Nat} {E : List Nat}
set_option maxHeartbeats 8000000 in
set_option maxRecDepth 20000 in
theorem does_o3 (xi xd : Int) (xs : ByteArray) (ka : Option Addr) (kl kc : Nat) (hxs : xs.size ≤ 9223372036854775807) (H : PO W w q h A t bt v K d S T sp tm tb mk cnt n E) (L : Lim W K cnt n) :
    Calls Tryz.prog 10 #[ptr q, .agg (acA 3 xi xd xs (.slice ka kl kc))] w (DoPost W q h K cnt n) := by
  obtain ⟨hpw, hKL, hc4, hcn, hn2, hn⟩ := L
  have HH := (show Hid _ from do_o H (acA 3 xi xd xs (.slice ka kl kc)))
  have HS0 := (show Hid (DoR q w.heap.size A.g A.x h (ptr t) (acA 3 xi xd xs (.slice ka kl kc)) (w.alloc (.cells (acA 3 xi xd xs (.slice ka kl kc)) 28))) from ⟨HH.out.1.row, HH.out.2⟩)
  obtain ⟨ns, hns1, hns2, hmin⟩ : ∃ ns : Nat, ns ≤ xs.size ∧ ns ≤ 510 ∧ min (xs.size : Int) 510 = (ns : Int) := ⟨min xs.size 510, by omega, by omega, by omega⟩
  have n0 : (0 : Int) ≤ (ns : Int) := by omega
  have n1 : (ns : Int) ≤ (xs.size : Int) := by omega
  have hcs : (xs.extract 0 ns).size = ns := cut_size xs ns hns1
  obtain ⟨q0, q1, q2, q3, qz⟩ := HS0.out.cq
  obtain ⟨a0, a1, a2, a3, a4⟩ := HS0.out.ca
  clear H
  unfold acA at *
  unfold ptr at *
  have HA := galloc HH.out.1.g
  unfold ptr at HA
  go_enter Tryz.func10, Tryz.ntmps10
  go_wp2_with fail
  generalize World.alloc w _ = w1 at *
  generalize w.heap.size = a at *
  generalize xs.extract 0 ns = sy at *
  clear q0 q1 q2 q3 qz a0 a1 a2 a3 a4
  refine HA.mono ?_
  rintro e w2 ⟨rfl, hG2, hT2⟩
  have hcd := HH.out.1.geo.cnt
  rw [hcd] at hG2
  have HP := (show Hid _ from HH.out.1.prog hG2 hT2)
  have HTI : Hid (Pd.TxI cnt S T tm ∧ Trk cnt tb mk tm) := ⟨by rw [← hcd]; exact HH.out.1.g.txi, HH.out.1.trk⟩
  have hRB := ralloc_any HP.out.ro HTI.out.1.ok
  have r3 : w2.cell? ⟨q, 3, none⟩ = some (ptr h) := (cell_of_row w2 q 3 _ _ (0, 0) HP.out.row).trans rfl
  rw [hcd]
  unfold ptr at r3 hRB
  clear hG2 hT2 HA HH HS0 hcd
  go_wp2_with fail
  refine hRB.mono ?_
  rintro e w3 ⟨rfl, v', hR3, hT3⟩
  have HF := (show Hid _ from HP.out.doc hR3 hT3 hpw (HTI.out.2.alloc HTI.out.1))
  clear hR3 hT3 hRB HP HTI r3
  go_wp2
  go_ret
  exact ⟨rfl, HF.out.ps (by omega)⟩
end
end Go.Proofs.YtcfninpokngmlaaGreatDoor
/- Proved: one kind of call of the law's helper does (stage 10). -/
namespace Go.Proofs.YtcfninpokngmlaaGreatDoor
open Go.RowKit
section
variable {W w w' : World} {q h : Nat} {A : Ad} {tv : Value} {t bt : Nat} {v : Rv} {K K' : Nat} {d : Pd.Db} {S T : Pd.Ab} {sp mk : Bool} {tm : Pd.Mp} {tb : List Bool} {cnt n : Nat} {E : List Nat}
set_option maxHeartbeats 8000000 in
set_option maxRecDepth 20000 in
theorem does_o4 (xi xd : Int) (xs : ByteArray) (ka : Option Addr) (kl kc : Nat) (hxs : xs.size ≤ 9223372036854775807) (H : PO W w q h A t bt v K d S T sp tm tb mk cnt n E) (L : Lim W K cnt n) :
    Calls Tryz.prog 10 #[ptr q, .agg (acA 4 xi xd xs (.slice ka kl kc))] w (DoPost W q h K cnt n) := by
  obtain ⟨hpw, hKL, hc4, hcn, hn2, hn⟩ := L
  have HH := (show Hid _ from do_o H (acA 4 xi xd xs (.slice ka kl kc)))
  have HS0 := (show Hid (DoR q w.heap.size A.g A.x h (ptr t) (acA 4 xi xd xs (.slice ka kl kc)) (w.alloc (.cells (acA 4 xi xd xs (.slice ka kl kc)) 28))) from ⟨HH.out.1.row, HH.out.2⟩)
  obtain ⟨ns, hns1, hns2, hmin⟩ : ∃ ns : Nat, ns ≤ xs.size ∧ ns ≤ 510 ∧ min (xs.size : Int) 510 = (ns : Int) := ⟨min xs.size 510, by omega, by omega, by omega⟩
  have n0 : (0 : Int) ≤ (ns : Int) := by omega
  have n1 : (ns : Int) ≤ (xs.size : Int) := by omega
  have hcs : (xs.extract 0 ns).size = ns := cut_size xs ns hns1
  obtain ⟨q0, q1, q2, q3, qz⟩ := HS0.out.cq
  obtain ⟨a0, a1, a2, a3, a4⟩ := HS0.out.ca
  clear H
  unfold acA at *
  unfold ptr at *
  go_enter Tryz.func10, Tryz.ntmps10
  go_upto_region 20 with fail
  generalize World.alloc w _ = w1 at *
  generalize w.heap.size = a at *
  generalize xs.extract 0 ns = sy at *
  clear q0 q1 q2 q3 qz a0 a1 a2 a3 a4
  have HS1 := (show Hid _ from HS0.out.drew)
  have HD : Hid (Below w1.heap.size w1 w1.drew) := ⟨rfl, rfl, rfl, Nat.le_refl _, fun _ _ => rfl⟩
  refine wp_region_held_drew (S := DoR q a A.g A.x h (.pointer (some ⟨t, 0, none⟩)) #[.int .i64 4, .int .i64 xi, .int .i64 xd, .string xs, .slice ka kl kc]) (by kernel_rfl) HS1.out (fun _ => ?_)
  refine heldTake 0 (some 141) (.pointer (some ⟨q, 0, none⟩)) rfl rfl (by kernel_rfl) (by kernel_rfl) (by kernel_rfl) (fun _ _ _ h => h) (Or.inl ⟨by rfl, fun w hS => ?_⟩) HS1.out ?_
  · (go_simp)
  simp only [Act.put, List.setIfInBounds_toArray, List.set_cons_zero, List.set_cons_succ]
  refine heldTake 1 (some 142) (.pointer (some ⟨q, 0, none⟩)) rfl rfl (by kernel_rfl) (by kernel_rfl) (by kernel_rfl) (fun _ _ _ h => h) (Or.inl ⟨by rfl, fun w hS => ?_⟩) HS1.out ?_
  · (go_simp)
  simp only [Act.put, List.setIfInBounds_toArray, List.set_cons_zero, List.set_cons_succ]
  refine heldTake 2 (some 143) (.pointer (some ⟨q, 2, none⟩)) rfl rfl (by kernel_rfl) (by kernel_rfl) (by kernel_rfl) (fun _ _ _ h => h) (Or.inl ⟨by rfl, fun w hS => ?_⟩) HS1.out ?_
  · (go_simp)
  simp only [Act.put, List.setIfInBounds_toArray, List.set_cons_zero, List.set_cons_succ]
  refine heldTake 3 (some 144) (.pointer (some ⟨t, 0, none⟩)) rfl rfl (by kernel_rfl) (by kernel_rfl) (by kernel_rfl) (fun _ _ _ h => h) (Or.inl ⟨by rfl, fun w hS => ?_⟩) HS1.out ?_
  · (have p0 := hS.cq.2.2.1; unfold ptr at p0; clear hS; go_simp)
  simp only [Act.put, List.setIfInBounds_toArray, List.set_cons_zero, List.set_cons_succ]
  refine heldTake 4 (some 145) (.pointer (some ⟨a, 1, none⟩)) rfl rfl (by kernel_rfl) (by kernel_rfl) (by kernel_rfl) (fun _ _ _ h => h) (Or.inl ⟨by rfl, fun w hS => ?_⟩) HS1.out ?_
  · (go_simp)
  simp only [Act.put, List.setIfInBounds_toArray, List.set_cons_zero, List.set_cons_succ]
  refine heldTake 5 (some 146) (.int .i64 xi) rfl rfl (by kernel_rfl) (by kernel_rfl) (by kernel_rfl) (fun _ _ _ h => h) (Or.inl ⟨by rfl, fun w hS => ?_⟩) HS1.out ?_
  · (have p0 : _ = some _ := (cell_of_row w a 1 _ _ (0, 0) hS.ra); clear hS; go_simp)
  simp only [Act.put, List.setIfInBounds_toArray, List.set_cons_zero, List.set_cons_succ]
  refine heldTake 7 (some 148) (.pointer (some ⟨q, 0, none⟩)) rfl rfl (by kernel_rfl) (by kernel_rfl) (by kernel_rfl) (fun _ _ _ h => h) (Or.inl ⟨by rfl, fun w hS => ?_⟩) HS1.out ?_
  · (go_simp)
  simp only [Act.put, List.setIfInBounds_toArray, List.set_cons_zero, List.set_cons_succ]
  refine heldTake 8 (some 149) (.pointer (some ⟨q, 0, none⟩)) rfl rfl (by kernel_rfl) (by kernel_rfl) (by kernel_rfl) (fun _ _ _ h => h) (Or.inl ⟨by rfl, fun w hS => ?_⟩) HS1.out ?_
  · (go_simp)
  simp only [Act.put, List.setIfInBounds_toArray, List.set_cons_zero, List.set_cons_succ]
  refine heldTake 9 (some 150) (.pointer (some ⟨q, 3, none⟩)) rfl rfl (by kernel_rfl) (by kernel_rfl) (by kernel_rfl) (fun _ _ _ h => h) (Or.inl ⟨by rfl, fun w hS => ?_⟩) HS1.out ?_
  · (go_simp)
  simp only [Act.put, List.setIfInBounds_toArray, List.set_cons_zero, List.set_cons_succ]
  refine heldTake 10 (some 151) (.pointer (some ⟨h, 0, none⟩)) rfl rfl (by kernel_rfl) (by kernel_rfl) (by kernel_rfl) (fun _ _ _ h => h) (Or.inl ⟨by rfl, fun w hS => ?_⟩) HS1.out ?_
  · (have p0 := hS.cq.2.2.2.1; unfold ptr at p0; clear hS; go_simp)
  simp only [Act.put, List.setIfInBounds_toArray, List.set_cons_zero, List.set_cons_succ]
  refine heldTake 11 (some 152) (.pointer (some ⟨a, 1, none⟩)) rfl rfl (by kernel_rfl) (by kernel_rfl) (by kernel_rfl) (fun _ _ _ h => h) (Or.inl ⟨by rfl, fun w hS => ?_⟩) HS1.out ?_
  · (go_simp)
  simp only [Act.put, List.setIfInBounds_toArray, List.set_cons_zero, List.set_cons_succ]
  refine heldTake 12 (some 153) (.int .i64 xi) rfl rfl (by kernel_rfl) (by kernel_rfl) (by kernel_rfl) (fun _ _ _ h => h) (Or.inl ⟨by rfl, fun w hS => ?_⟩) HS1.out ?_
  · (have p0 : _ = some _ := (cell_of_row w a 1 _ _ (0, 0) hS.ra); clear hS; go_simp)
  simp only [Act.put, List.setIfInBounds_toArray, List.set_cons_zero, List.set_cons_succ]
  refine heldOne 6 (by kernel_rfl) rfl (by rfl) (fun KK hK => ?_)
  go_simp
  have hC1 := gfree xi (HH.out.1.g.below HD.out)
  unfold ptr at hC1
  refine hC1.mono ?_
  rintro e w2 ⟨rfl, hG2, hT2⟩
  have hT2' : Turn (tft A t bt) (tft A t bt) w1 w2 := (Turn.of_below HD.out).trans hT2
  have HP := (show Hid _ from HH.out.1.prog hG2 hT2')
  have HS2 := (show Hid (DoR q a A.g A.x h (.pointer (some ⟨t, 0, none⟩)) #[.int .i64 4, .int .i64 xi, .int .i64 xd, .string xs, .slice ka kl kc] w2) from ⟨HP.out.row, (hT2'.chg.block a (heap_lt HS0.out.ra) (HH.out.1.ap.fe a List.mem_cons_self)).trans HS0.out.ra⟩)
  have hcd := HH.out.1.geo.cnt
  have HTI : Hid (Pd.TxI cnt S T tm ∧ Trk cnt tb mk tm) := ⟨by rw [← hcd]; exact HH.out.1.g.txi, HH.out.1.trk⟩
  clear hG2 hT2 hT2' hC1 HH hcd
  refine hK.out _ _ HS2.out ?_
  clear hK KK HS1
  refine heldOne 13 (by kernel_rfl) rfl (by rfl) (fun KK hK => ?_)
  go_simp
  have hC2 := rfree_any HP.out.ro HTI.out.1.ok xi
  unfold ptr at hC2
  refine hC2.mono ?_
  rintro e w3 ⟨rfl, v', hR3, hT3⟩
  have HF := (show Hid _ from HP.out.doc hR3 hT3 hpw (HTI.out.2.free HTI.out.1 xi))
  have HS3 := (show Hid (DoR q a A.g A.x h (.pointer (some ⟨t, 0, none⟩)) #[.int .i64 4, .int .i64 xi, .int .i64 xd, .string xs, .slice ka kl kc] w3) from ⟨HF.out.row, (hT3.chg.block a (heap_lt HS2.out.ra) (HP.out.ap.re a List.mem_cons_self)).trans HS2.out.ra⟩)
  clear hR3 hT3 hC2 HP HS2 HTI
  refine hK.out _ _ HS3.out ?_
  clear hK KK
  refine heldTake 14 (some 155) (.bool true) rfl rfl (by kernel_rfl) (by kernel_rfl) (by kernel_rfl) (fun _ _ _ h => h) (Or.inl ⟨by rfl, fun w hS => ?_⟩) HS3.out ?_
  · (go_simp)
  simp only [Act.put, List.setIfInBounds_toArray, List.set_cons_zero, List.set_cons_succ]
  refine heldTake 15 (some 4) (.bool true) rfl rfl (by kernel_rfl) (by kernel_rfl) (by kernel_rfl) (fun _ _ _ h => h) (Or.inl ⟨by rfl, fun w hS => ?_⟩) HS3.out ?_
  · (go_simp)
  simp only [Act.put, List.setIfInBounds_toArray, List.set_cons_zero, List.set_cons_succ]
  refine wpAnyH_done (by kernel_rfl) ?_ _
  go_wp2
  go_ret
  exact ⟨rfl, HF.out.ps (by omega)⟩
end
end Go.Proofs.YtcfninpokngmlaaGreatDoor
/- Proved: one kind of call of the law's helper does (stage 10). -/
namespace Go.Proofs.YtcfninpokngmlaaGreatDoor
open Go.RowKit
section
variable {W w w' : World} {q h : Nat} {A : Ad} {tv : Value} {t bt : Nat} {v : Rv} {K K' : Nat} {d : Pd.Db} {S T : Pd.Ab} {sp mk : Bool} {tm : Pd.Mp} {tb : List Bool} {cnt n : Nat} {E : List Nat}
set_option maxHeartbeats 8000000 in
set_option maxRecDepth 20000 in
theorem does_o5 (xi xd : Int) (xs : ByteArray) (ka : Option Addr) (kl kc : Nat) (hxs : xs.size ≤ 9223372036854775807) (H : PO W w q h A t bt v K d S T sp tm tb mk cnt n E) (L : Lim W K cnt n) :
    Calls Tryz.prog 10 #[ptr q, .agg (acA 5 xi xd xs (.slice ka kl kc))] w (DoPost W q h K cnt n) := by
  obtain ⟨hpw, hKL, hc4, hcn, hn2, hn⟩ := L
  have HH := (show Hid _ from do_o H (acA 5 xi xd xs (.slice ka kl kc)))
  have HS0 := (show Hid (DoR q w.heap.size A.g A.x h (ptr t) (acA 5 xi xd xs (.slice ka kl kc)) (w.alloc (.cells (acA 5 xi xd xs (.slice ka kl kc)) 28))) from ⟨HH.out.1.row, HH.out.2⟩)
  obtain ⟨ns, hns1, hns2, hmin⟩ : ∃ ns : Nat, ns ≤ xs.size ∧ ns ≤ 510 ∧ min (xs.size : Int) 510 = (ns : Int) := ⟨min xs.size 510, by omega, by omega, by omega⟩
  have n0 : (0 : Int) ≤ (ns : Int) := by omega
  have n1 : (ns : Int) ≤ (xs.size : Int) := by omega
  have hcs : (xs.extract 0 ns).size = ns := cut_size xs ns hns1
  obtain ⟨q0, q1, q2, q3, qz⟩ := HS0.out.cq
  obtain ⟨a0, a1, a2, a3, a4⟩ := HS0.out.ca
  clear H
  unfold acA at *
  unfold ptr at *
  go_enter Tryz.func10, Tryz.ntmps10
  go_upto_region 22 with fail
  generalize World.alloc w _ = w1 at *
  generalize w.heap.size = a at *
  generalize xs.extract 0 ns = sy at *
  clear q0 q1 q2 q3 qz a0 a1 a2 a3 a4
  have HS1 := (show Hid _ from HS0.out.drew)
  have HD : Hid (Below w1.heap.size w1 w1.drew) := ⟨rfl, rfl, rfl, Nat.le_refl _, fun _ _ => rfl⟩
  refine wp_region_held_drew (S := DoR q a A.g A.x h (.pointer (some ⟨t, 0, none⟩)) #[.int .i64 5, .int .i64 xi, .int .i64 xd, .string xs, .slice ka kl kc]) (by kernel_rfl) HS1.out (fun _ => ?_)
  refine heldTake 0 (some 158) (.pointer (some ⟨q, 0, none⟩)) rfl rfl (by kernel_rfl) (by kernel_rfl) (by kernel_rfl) (fun _ _ _ h => h) (Or.inl ⟨by rfl, fun w hS => ?_⟩) HS1.out ?_
  · (go_simp)
  simp only [Act.put, List.setIfInBounds_toArray, List.set_cons_zero, List.set_cons_succ]
  refine heldTake 1 (some 159) (.pointer (some ⟨q, 0, none⟩)) rfl rfl (by kernel_rfl) (by kernel_rfl) (by kernel_rfl) (fun _ _ _ h => h) (Or.inl ⟨by rfl, fun w hS => ?_⟩) HS1.out ?_
  · (go_simp)
  simp only [Act.put, List.setIfInBounds_toArray, List.set_cons_zero, List.set_cons_succ]
  refine heldTake 2 (some 160) (.pointer (some ⟨q, 2, none⟩)) rfl rfl (by kernel_rfl) (by kernel_rfl) (by kernel_rfl) (fun _ _ _ h => h) (Or.inl ⟨by rfl, fun w hS => ?_⟩) HS1.out ?_
  · (go_simp)
  simp only [Act.put, List.setIfInBounds_toArray, List.set_cons_zero, List.set_cons_succ]
  refine heldTake 3 (some 161) (.pointer (some ⟨t, 0, none⟩)) rfl rfl (by kernel_rfl) (by kernel_rfl) (by kernel_rfl) (fun _ _ _ h => h) (Or.inl ⟨by rfl, fun w hS => ?_⟩) HS1.out ?_
  · (have p0 := hS.cq.2.2.1; unfold ptr at p0; clear hS; go_simp)
  simp only [Act.put, List.setIfInBounds_toArray, List.set_cons_zero, List.set_cons_succ]
  refine heldTake 4 (some 162) (.pointer (some ⟨a, 1, none⟩)) rfl rfl (by kernel_rfl) (by kernel_rfl) (by kernel_rfl) (fun _ _ _ h => h) (Or.inl ⟨by rfl, fun w hS => ?_⟩) HS1.out ?_
  · (go_simp)
  simp only [Act.put, List.setIfInBounds_toArray, List.set_cons_zero, List.set_cons_succ]
  refine heldTake 5 (some 163) (.int .i64 xi) rfl rfl (by kernel_rfl) (by kernel_rfl) (by kernel_rfl) (fun _ _ _ h => h) (Or.inl ⟨by rfl, fun w hS => ?_⟩) HS1.out ?_
  · (have p0 : _ = some _ := (cell_of_row w a 1 _ _ (0, 0) hS.ra); clear hS; go_simp)
  simp only [Act.put, List.setIfInBounds_toArray, List.set_cons_zero, List.set_cons_succ]
  refine heldTake 6 (some 164) (.pointer (some ⟨a, 2, none⟩)) rfl rfl (by kernel_rfl) (by kernel_rfl) (by kernel_rfl) (fun _ _ _ h => h) (Or.inl ⟨by rfl, fun w hS => ?_⟩) HS1.out ?_
  · (go_simp)
  simp only [Act.put, List.setIfInBounds_toArray, List.set_cons_zero, List.set_cons_succ]
  refine heldTake 7 (some 165) (.int .i64 xd) rfl rfl (by kernel_rfl) (by kernel_rfl) (by kernel_rfl) (fun _ _ _ h => h) (Or.inl ⟨by rfl, fun w hS => ?_⟩) HS1.out ?_
  · (have p0 : _ = some _ := (cell_of_row w a 2 _ _ (0, 0) hS.ra); clear hS; go_simp)
  simp only [Act.put, List.setIfInBounds_toArray, List.set_cons_zero, List.set_cons_succ]
  refine heldTake 9 (some 167) (.pointer (some ⟨q, 0, none⟩)) rfl rfl (by kernel_rfl) (by kernel_rfl) (by kernel_rfl) (fun _ _ _ h => h) (Or.inl ⟨by rfl, fun w hS => ?_⟩) HS1.out ?_
  · (go_simp)
  simp only [Act.put, List.setIfInBounds_toArray, List.set_cons_zero, List.set_cons_succ]
  refine heldTake 10 (some 168) (.pointer (some ⟨q, 0, none⟩)) rfl rfl (by kernel_rfl) (by kernel_rfl) (by kernel_rfl) (fun _ _ _ h => h) (Or.inl ⟨by rfl, fun w hS => ?_⟩) HS1.out ?_
  · (go_simp)
  simp only [Act.put, List.setIfInBounds_toArray, List.set_cons_zero, List.set_cons_succ]
  refine heldTake 11 (some 169) (.pointer (some ⟨q, 3, none⟩)) rfl rfl (by kernel_rfl) (by kernel_rfl) (by kernel_rfl) (fun _ _ _ h => h) (Or.inl ⟨by rfl, fun w hS => ?_⟩) HS1.out ?_
  · (go_simp)
  simp only [Act.put, List.setIfInBounds_toArray, List.set_cons_zero, List.set_cons_succ]
  refine heldTake 12 (some 170) (.pointer (some ⟨h, 0, none⟩)) rfl rfl (by kernel_rfl) (by kernel_rfl) (by kernel_rfl) (fun _ _ _ h => h) (Or.inl ⟨by rfl, fun w hS => ?_⟩) HS1.out ?_
  · (have p0 := hS.cq.2.2.2.1; unfold ptr at p0; clear hS; go_simp)
  simp only [Act.put, List.setIfInBounds_toArray, List.set_cons_zero, List.set_cons_succ]
  refine heldTake 13 (some 171) (.pointer (some ⟨a, 1, none⟩)) rfl rfl (by kernel_rfl) (by kernel_rfl) (by kernel_rfl) (fun _ _ _ h => h) (Or.inl ⟨by rfl, fun w hS => ?_⟩) HS1.out ?_
  · (go_simp)
  simp only [Act.put, List.setIfInBounds_toArray, List.set_cons_zero, List.set_cons_succ]
  refine heldTake 14 (some 172) (.int .i64 xi) rfl rfl (by kernel_rfl) (by kernel_rfl) (by kernel_rfl) (fun _ _ _ h => h) (Or.inl ⟨by rfl, fun w hS => ?_⟩) HS1.out ?_
  · (have p0 : _ = some _ := (cell_of_row w a 1 _ _ (0, 0) hS.ra); clear hS; go_simp)
  simp only [Act.put, List.setIfInBounds_toArray, List.set_cons_zero, List.set_cons_succ]
  refine heldTake 15 (some 173) (.pointer (some ⟨a, 2, none⟩)) rfl rfl (by kernel_rfl) (by kernel_rfl) (by kernel_rfl) (fun _ _ _ h => h) (Or.inl ⟨by rfl, fun w hS => ?_⟩) HS1.out ?_
  · (go_simp)
  simp only [Act.put, List.setIfInBounds_toArray, List.set_cons_zero, List.set_cons_succ]
  refine heldTake 16 (some 174) (.int .i64 xd) rfl rfl (by kernel_rfl) (by kernel_rfl) (by kernel_rfl) (fun _ _ _ h => h) (Or.inl ⟨by rfl, fun w hS => ?_⟩) HS1.out ?_
  · (have p0 : _ = some _ := (cell_of_row w a 2 _ _ (0, 0) hS.ra); clear hS; go_simp)
  simp only [Act.put, List.setIfInBounds_toArray, List.set_cons_zero, List.set_cons_succ]
  refine heldOne 8 (by kernel_rfl) rfl (by rfl) (fun KK hK => ?_)
  go_simp
  have hC1 := gsetroot xi xd (HH.out.1.g.below HD.out)
  unfold ptr at hC1
  refine hC1.mono ?_
  rintro e w2 ⟨rfl, hG2, hT2⟩
  have hT2' : Turn (tft A t bt) (tft A t bt) w1 w2 := (Turn.of_below HD.out).trans hT2
  have HP := (show Hid _ from HH.out.1.prog hG2 hT2')
  have HS2 := (show Hid (DoR q a A.g A.x h (.pointer (some ⟨t, 0, none⟩)) #[.int .i64 5, .int .i64 xi, .int .i64 xd, .string xs, .slice ka kl kc] w2) from ⟨HP.out.row, (hT2'.chg.block a (heap_lt HS0.out.ra) (HH.out.1.ap.fe a List.mem_cons_self)).trans HS0.out.ra⟩)
  have hcd := HH.out.1.geo.cnt
  have HTI : Hid (Pd.TxI cnt S T tm ∧ Trk cnt tb mk tm) := ⟨by rw [← hcd]; exact HH.out.1.g.txi, HH.out.1.trk⟩
  clear hG2 hT2 hT2' hC1 HH hcd
  refine hK.out _ _ HS2.out ?_
  clear hK KK HS1
  refine heldOne 17 (by kernel_rfl) rfl (by rfl) (fun KK hK => ?_)
  go_simp
  have hC2 := rsetroot_any HP.out.ro xi xd
  unfold ptr at hC2
  refine hC2.mono ?_
  rintro e w3 ⟨rfl, hR3, hT3⟩
  have HF := (show Hid _ from HP.out.doc hR3 hT3 hpw (HTI.out.2.setroot HTI.out.1 xi xd))
  have HS3 := (show Hid (DoR q a A.g A.x h (.pointer (some ⟨t, 0, none⟩)) #[.int .i64 5, .int .i64 xi, .int .i64 xd, .string xs, .slice ka kl kc] w3) from ⟨HF.out.row, (hT3.chg.block a (heap_lt HS2.out.ra) (HP.out.ap.re a List.mem_cons_self)).trans HS2.out.ra⟩)
  clear hR3 hT3 hC2 HP HS2 HTI
  refine hK.out _ _ HS3.out ?_
  clear hK KK
  refine heldTake 18 (some 176) (.bool true) rfl rfl (by kernel_rfl) (by kernel_rfl) (by kernel_rfl) (fun _ _ _ h => h) (Or.inl ⟨by rfl, fun w hS => ?_⟩) HS3.out ?_
  · (go_simp)
  simp only [Act.put, List.setIfInBounds_toArray, List.set_cons_zero, List.set_cons_succ]
  refine heldTake 19 (some 4) (.bool true) rfl rfl (by kernel_rfl) (by kernel_rfl) (by kernel_rfl) (fun _ _ _ h => h) (Or.inl ⟨by rfl, fun w hS => ?_⟩) HS3.out ?_
  · (go_simp)
  simp only [Act.put, List.setIfInBounds_toArray, List.set_cons_zero, List.set_cons_succ]
  refine wpAnyH_done (by kernel_rfl) ?_ _
  go_wp2
  go_ret
  exact ⟨rfl, HF.out.ps (by omega)⟩
end
end Go.Proofs.YtcfninpokngmlaaGreatDoor
/- Proved: one kind of call of the law's helper does (stage 10). -/
namespace Go.Proofs.YtcfninpokngmlaaGreatDoor
open Go.RowKit
section
variable {W w w' : World} {q h : Nat} {A : Ad} {tv : Value} {t bt : Nat} {v : Rv} {K K' : Nat} {d : Pd.Db} {S T : Pd.Ab} {sp mk : Bool} {tm : Pd.Mp} {tb : List Bool} {cnt n : Nat} {E : List Nat}
set_option maxHeartbeats 8000000 in
set_option maxRecDepth 20000 in
theorem does_o6 (xi xd : Int) (xs : ByteArray) (ka : Option Addr) (kl kc : Nat) (hxs : xs.size ≤ 9223372036854775807) (H : PO W w q h A t bt v K d S T sp tm tb mk cnt n E) (L : Lim W K cnt n) :
    Calls Tryz.prog 10 #[ptr q, .agg (acA 6 xi xd xs (.slice ka kl kc))] w (DoPost W q h K cnt n) := by
  obtain ⟨hpw, hKL, hc4, hcn, hn2, hn⟩ := L
  have HH := (show Hid _ from do_o H (acA 6 xi xd xs (.slice ka kl kc)))
  have HS0 := (show Hid (DoR q w.heap.size A.g A.x h (ptr t) (acA 6 xi xd xs (.slice ka kl kc)) (w.alloc (.cells (acA 6 xi xd xs (.slice ka kl kc)) 28))) from ⟨HH.out.1.row, HH.out.2⟩)
  obtain ⟨ns, hns1, hns2, hmin⟩ : ∃ ns : Nat, ns ≤ xs.size ∧ ns ≤ 510 ∧ min (xs.size : Int) 510 = (ns : Int) := ⟨min xs.size 510, by omega, by omega, by omega⟩
  have n0 : (0 : Int) ≤ (ns : Int) := by omega
  have n1 : (ns : Int) ≤ (xs.size : Int) := by omega
  have hcs : (xs.extract 0 ns).size = ns := cut_size xs ns hns1
  obtain ⟨q0, q1, q2, q3, qz⟩ := HS0.out.cq
  obtain ⟨a0, a1, a2, a3, a4⟩ := HS0.out.ca
  clear H
  unfold acA at *
  unfold ptr at *
  go_enter Tryz.func10, Tryz.ntmps10
  go_upto_region 24 with fail
  generalize World.alloc w _ = w1 at *
  generalize w.heap.size = a at *
  generalize xs.extract 0 ns = sy at *
  clear q0 q1 q2 q3 qz a0 a1 a2 a3 a4
  have HS1 := (show Hid _ from HS0.out.drew)
  have HD : Hid (Below w1.heap.size w1 w1.drew) := ⟨rfl, rfl, rfl, Nat.le_refl _, fun _ _ => rfl⟩
  refine wp_region_held_drew (S := DoR q a A.g A.x h (.pointer (some ⟨t, 0, none⟩)) #[.int .i64 6, .int .i64 xi, .int .i64 xd, .string xs, .slice ka kl kc]) (by kernel_rfl) HS1.out (fun _ => ?_)
  refine heldTake 0 (some 179) (.pointer (some ⟨q, 0, none⟩)) rfl rfl (by kernel_rfl) (by kernel_rfl) (by kernel_rfl) (fun _ _ _ h => h) (Or.inl ⟨by rfl, fun w hS => ?_⟩) HS1.out ?_
  · (go_simp)
  simp only [Act.put, List.setIfInBounds_toArray, List.set_cons_zero, List.set_cons_succ]
  refine heldTake 1 (some 180) (.pointer (some ⟨q, 0, none⟩)) rfl rfl (by kernel_rfl) (by kernel_rfl) (by kernel_rfl) (fun _ _ _ h => h) (Or.inl ⟨by rfl, fun w hS => ?_⟩) HS1.out ?_
  · (go_simp)
  simp only [Act.put, List.setIfInBounds_toArray, List.set_cons_zero, List.set_cons_succ]
  refine heldTake 2 (some 181) (.pointer (some ⟨q, 2, none⟩)) rfl rfl (by kernel_rfl) (by kernel_rfl) (by kernel_rfl) (fun _ _ _ h => h) (Or.inl ⟨by rfl, fun w hS => ?_⟩) HS1.out ?_
  · (go_simp)
  simp only [Act.put, List.setIfInBounds_toArray, List.set_cons_zero, List.set_cons_succ]
  refine heldTake 3 (some 182) (.pointer (some ⟨t, 0, none⟩)) rfl rfl (by kernel_rfl) (by kernel_rfl) (by kernel_rfl) (fun _ _ _ h => h) (Or.inl ⟨by rfl, fun w hS => ?_⟩) HS1.out ?_
  · (have p0 := hS.cq.2.2.1; unfold ptr at p0; clear hS; go_simp)
  simp only [Act.put, List.setIfInBounds_toArray, List.set_cons_zero, List.set_cons_succ]
  refine heldTake 5 (some 184) (.pointer (some ⟨q, 0, none⟩)) rfl rfl (by kernel_rfl) (by kernel_rfl) (by kernel_rfl) (fun _ _ _ h => h) (Or.inl ⟨by rfl, fun w hS => ?_⟩) HS1.out ?_
  · (go_simp)
  simp only [Act.put, List.setIfInBounds_toArray, List.set_cons_zero, List.set_cons_succ]
  refine heldTake 6 (some 185) (.pointer (some ⟨q, 0, none⟩)) rfl rfl (by kernel_rfl) (by kernel_rfl) (by kernel_rfl) (fun _ _ _ h => h) (Or.inl ⟨by rfl, fun w hS => ?_⟩) HS1.out ?_
  · (go_simp)
  simp only [Act.put, List.setIfInBounds_toArray, List.set_cons_zero, List.set_cons_succ]
  refine heldTake 7 (some 186) (.pointer (some ⟨q, 3, none⟩)) rfl rfl (by kernel_rfl) (by kernel_rfl) (by kernel_rfl) (fun _ _ _ h => h) (Or.inl ⟨by rfl, fun w hS => ?_⟩) HS1.out ?_
  · (go_simp)
  simp only [Act.put, List.setIfInBounds_toArray, List.set_cons_zero, List.set_cons_succ]
  refine heldTake 8 (some 187) (.pointer (some ⟨h, 0, none⟩)) rfl rfl (by kernel_rfl) (by kernel_rfl) (by kernel_rfl) (fun _ _ _ h => h) (Or.inl ⟨by rfl, fun w hS => ?_⟩) HS1.out ?_
  · (have p0 := hS.cq.2.2.2.1; unfold ptr at p0; clear hS; go_simp)
  simp only [Act.put, List.setIfInBounds_toArray, List.set_cons_zero, List.set_cons_succ]
  refine heldOne 4 (by kernel_rfl) rfl (by rfl) (fun KK hK => ?_)
  go_simp
  have hC1 := gcommit1 (HH.out.1.g.below HD.out) hKL (by rw [HH.out.1.geo.n]; exact hn) HH.out.1.geo.left
  unfold ptr at hC1
  have hgn := HH.out.1.geo.n
  have hgc := HH.out.1.geo.cnt
  refine hC1.mono ?_
  rintro e w2 ⟨rfl, vr, vw, vp, d2, hG2, hk2, hE2, hT2⟩
  have hT2' : Turn (tft A t bt) (tft (A.to vr vw vp) t bt) w1 w2 := (Turn.of_below HD.out).trans hT2
  have HP := (show Hid _ from HH.out.1.endP hG2 hE2 hT2' (fun k hk => tft_a hk) ⟨rfl, rfl⟩ (HH.out.1.geo.kin hk2))
  have HS2 := (show Hid (DoR q a A.g A.x h (.pointer (some ⟨t, 0, none⟩)) #[.int .i64 6, .int .i64 xi, .int .i64 xd, .string xs, .slice ka kl kc] w2) from ⟨HP.out.row, (hT2'.chg.block a (heap_lt HS0.out.ra) (HH.out.1.ap.fe a List.mem_cons_self)).trans HS0.out.ra⟩)
  have HM : Hid (chC tb mk = tm.length ∧ tm.length ≤ 1000 ∧ d.n = n ∧ d.cnt = cnt) := ⟨HH.out.1.trk.count HH.out.1.g.txi.up, HH.out.1.g.ml, hgn, hgc⟩
  clear hG2 hk2 hE2 hT2 hT2' hC1 HH hgn hgc
  refine hK.out _ _ HS2.out ?_
  clear hK KK HS1
  refine heldOne 9 (by kernel_rfl) rfl (by rfl) (fun KK hK => ?_)
  go_simp
  have hC2 := rcommit_any HP.out.ro hcn hn2 hn tm.length HM.out.1 (by have := HM.out.2.1; omega)
  unfold ptr at hC2
  have HEQ : Hid (comE d.n sp tm = cmE n sp tm.length) := by show _ = _; rw [HM.out.2.2.1]; rfl
  have HAQ : Hid (comA d.n sp tm S T = cmS S T (cmE n sp tm.length)) := by show _ = _; unfold comA cmS; rw [HEQ.out]
  rw [HEQ.out]
  refine hC2.mono ?_
  rintro e w3 ⟨rfl, hR3, hT3⟩
  rw [← HAQ.out] at hR3
  have HF := (show Hid _ from HP.out.doc hR3 hT3 hpw)
  have HS3 := (show Hid (DoR q a A.g A.x h (.pointer (some ⟨t, 0, none⟩)) #[.int .i64 6, .int .i64 xi, .int .i64 xd, .string xs, .slice ka kl kc] w3) from ⟨HF.out.row, (hT3.chg.block a (heap_lt HS2.out.ra) (HP.out.ap.re a (List.mem_cons_of_mem _ List.mem_cons_self))).trans HS2.out.ra⟩)
  clear hR3 hT3 hC2 HP HS2
  refine hK.out _ _ HS3.out ?_
  clear hK KK
  refine heldTake 10 (some 189) (.bool true) rfl rfl (by kernel_rfl) (by kernel_rfl) (by kernel_rfl) (fun _ _ _ h => h) (Or.inl ⟨by rfl, fun w hS => ?_⟩) HS3.out ?_
  · (go_simp)
  simp only [Act.put, List.setIfInBounds_toArray, List.set_cons_zero, List.set_cons_succ]
  refine heldTake 11 (some 4) (.bool true) rfl rfl (by kernel_rfl) (by kernel_rfl) (by kernel_rfl) (fun _ _ _ h => h) (Or.inl ⟨by rfl, fun w hS => ?_⟩) HS3.out ?_
  · (go_simp)
  simp only [Act.put, List.setIfInBounds_toArray, List.set_cons_zero, List.set_cons_succ]
  refine wpAnyH_done (by kernel_rfl) ?_ _
  go_wp2
  go_ret
  exact ⟨rfl, HF.out.ps (by rw [HM.out.2.2.1, HM.out.2.2.2]; omega)⟩
end
end Go.Proofs.YtcfninpokngmlaaGreatDoor
/- Proved: one kind of call of the law's helper does (stage 10). -/
namespace Go.Proofs.YtcfninpokngmlaaGreatDoor
open Go.RowKit
section
variable {W w w' : World} {q h : Nat} {A : Ad} {tv : Value} {t bt : Nat} {v : Rv} {K K' : Nat} {d : Pd.Db} {S T : Pd.Ab} {sp mk : Bool} {tm : Pd.Mp} {tb : List Bool} {cnt n : Nat} {E : List Nat}
set_option maxHeartbeats 8000000 in
set_option maxRecDepth 20000 in
theorem does_o7 (xi xd : Int) (xs : ByteArray) (ka : Option Addr) (kl kc : Nat) (hxs : xs.size ≤ 9223372036854775807) (H : PO W w q h A t bt v K d S T sp tm tb mk cnt n E) (L : Lim W K cnt n) :
    Calls Tryz.prog 10 #[ptr q, .agg (acA 7 xi xd xs (.slice ka kl kc))] w (DoPost W q h K cnt n) := by
  obtain ⟨hpw, hKL, hc4, hcn, hn2, hn⟩ := L
  have HH := (show Hid _ from do_o H (acA 7 xi xd xs (.slice ka kl kc)))
  have HS0 := (show Hid (DoR q w.heap.size A.g A.x h (ptr t) (acA 7 xi xd xs (.slice ka kl kc)) (w.alloc (.cells (acA 7 xi xd xs (.slice ka kl kc)) 28))) from ⟨HH.out.1.row, HH.out.2⟩)
  obtain ⟨ns, hns1, hns2, hmin⟩ : ∃ ns : Nat, ns ≤ xs.size ∧ ns ≤ 510 ∧ min (xs.size : Int) 510 = (ns : Int) := ⟨min xs.size 510, by omega, by omega, by omega⟩
  have n0 : (0 : Int) ≤ (ns : Int) := by omega
  have n1 : (ns : Int) ≤ (xs.size : Int) := by omega
  have hcs : (xs.extract 0 ns).size = ns := cut_size xs ns hns1
  obtain ⟨q0, q1, q2, q3, qz⟩ := HS0.out.cq
  obtain ⟨a0, a1, a2, a3, a4⟩ := HS0.out.ca
  clear H
  unfold acA at *
  unfold ptr at *
  have HA := gabort HH.out.1.g
  unfold ptr at HA
  go_enter Tryz.func10, Tryz.ntmps10
  go_wp2_with fail
  generalize World.alloc w _ = w1 at *
  generalize w.heap.size = a at *
  generalize xs.extract 0 ns = sy at *
  clear q0 q1 q2 q3 qz a0 a1 a2 a3 a4
  refine HA.mono ?_
  rintro e w2 ⟨rfl, hG2, hE2, hT2⟩
  have HP := (show Hid _ from HH.out.1.endP hG2 hE2 hT2 (fun k hk => hk) ⟨rfl, rfl⟩ HH.out.1.geo)
  have hRB := rabort_any HP.out.ro hcn
  have r3 : w2.cell? ⟨q, 3, none⟩ = some (ptr h) := (cell_of_row w2 q 3 _ _ (0, 0) HP.out.row).trans rfl
  unfold ptr at r3 hRB
  clear hG2 hE2 hT2 HA HH HS0
  go_wp2_with fail
  refine hRB.mono ?_
  rintro e w3 ⟨rfl, hR3, hT3⟩
  have HF := (show Hid _ from HP.out.doc hR3 hT3 hpw)
  clear hR3 hT3 hRB HP r3
  go_wp2
  go_ret
  exact ⟨rfl, HF.out.ps (by omega)⟩
end
end Go.Proofs.YtcfninpokngmlaaGreatDoor
/- Proved: one kind of call of the law's helper does (stage 10). -/
namespace Go.Proofs.YtcfninpokngmlaaGreatDoor
open Go.RowKit
section
variable {W w w' : World} {q h : Nat} {A : Ad} {tv : Value} {t bt : Nat} {v : Rv} {K K' : Nat} {d : Pd.Db} {S T : Pd.Ab} {sp mk : Bool} {tm : Pd.Mp} {tb : List Bool} {cnt n : Nat} {E : List Nat}
set_option maxHeartbeats 8000000 in
set_option maxRecDepth 20000 in
theorem does_o8 (xi xd : Int) (xs : ByteArray) (ka : Option Addr) (kl kc : Nat) (hxs : xs.size ≤ 9223372036854775807) (H : PO W w q h A t bt v K d S T sp tm tb mk cnt n E) (L : Lim W K cnt n) :
    Calls Tryz.prog 10 #[ptr q, .agg (acA 8 xi xd xs (.slice ka kl kc))] w (DoPost W q h K cnt n) := by
  obtain ⟨hpw, hKL, hc4, hcn, hn2, hn⟩ := L
  have HH := (show Hid _ from do_o H (acA 8 xi xd xs (.slice ka kl kc)))
  have HS0 := (show Hid (DoR q w.heap.size A.g A.x h (ptr t) (acA 8 xi xd xs (.slice ka kl kc)) (w.alloc (.cells (acA 8 xi xd xs (.slice ka kl kc)) 28))) from ⟨HH.out.1.row, HH.out.2⟩)
  obtain ⟨ns, hns1, hns2, hmin⟩ : ∃ ns : Nat, ns ≤ xs.size ∧ ns ≤ 510 ∧ min (xs.size : Int) 510 = (ns : Int) := ⟨min xs.size 510, by omega, by omega, by omega⟩
  have n0 : (0 : Int) ≤ (ns : Int) := by omega
  have n1 : (ns : Int) ≤ (xs.size : Int) := by omega
  have hcs : (xs.extract 0 ns).size = ns := cut_size xs ns hns1
  obtain ⟨q0, q1, q2, q3, qz⟩ := HS0.out.cq
  obtain ⟨a0, a1, a2, a3, a4⟩ := HS0.out.ca
  clear H
  unfold acA at *
  unfold ptr at *
  have HA := ckpt_busy HH.out.1.g
  have HF := (show Hid _ from HH.out.1)
  have r5 := HH.out.1.ro.c5
  unfold ptr at HA
  go_enter Tryz.func10, Tryz.ntmps10
  go_wp2_with (go_at_call 25; refine HA.mono ?_; rintro e wS ⟨rfl, hwS⟩; rw [hwS]; clear hwS wS)
  go_ret
  exact ⟨rfl, HF.out.ps (by omega)⟩
end
end Go.Proofs.YtcfninpokngmlaaGreatDoor
/- Proved: one kind of call of the law's helper does (stage 10). -/
namespace Go.Proofs.YtcfninpokngmlaaGreatDoor
open Go.RowKit
section
variable {W w w' : World} {q h : Nat} {A : Ad} {tv : Value} {t bt : Nat} {v : Rv} {K K' : Nat} {d : Pd.Db} {S T : Pd.Ab} {sp mk : Bool} {tm : Pd.Mp} {tb : List Bool} {cnt n : Nat} {E : List Nat}
set_option maxHeartbeats 8000000 in
set_option maxRecDepth 20000 in
theorem does_o9 (xk : Int) (xi xd : Int) (xs : ByteArray) (ka : Option Addr) (kl kc : Nat) (hxs : xs.size ≤ 9223372036854775807) (m : Nat → Bool) (hkl : kl ≤ kc) (hkc : kc ≤ 9223372036854775807) (hks : InB W ka kl m) (h0 : ¬ xk = 0) (h1 : ¬ xk = 1) (h2 : ¬ xk = 2) (h3 : ¬ xk = 3) (h4 : ¬ xk = 4) (h5 : ¬ xk = 5) (h6 : ¬ xk = 6) (h7 : ¬ xk = 7) (h10 : ¬ xk = 10) (h8 : ¬ xk = 8) (H : PO W w q h A t bt v K d S T sp tm tb mk cnt n E) (L : Lim W K cnt n) :
    Calls Tryz.prog 10 #[ptr q, .agg (acA xk xi xd xs (.slice ka kl kc))] w (DoPost W q h K cnt n) := by
  obtain ⟨hpw, hKL, hc4, hcn, hn2, hn⟩ := L
  have HH := (show Hid _ from do_o H (acA xk xi xd xs (.slice ka kl kc)))
  have HS0 := (show Hid (DoR q w.heap.size A.g A.x h (ptr t) (acA xk xi xd xs (.slice ka kl kc)) (w.alloc (.cells (acA xk xi xd xs (.slice ka kl kc)) 28))) from ⟨HH.out.1.row, HH.out.2⟩)
  obtain ⟨ns, hns1, hns2, hmin⟩ : ∃ ns : Nat, ns ≤ xs.size ∧ ns ≤ 510 ∧ min (xs.size : Int) 510 = (ns : Int) := ⟨min xs.size 510, by omega, by omega, by omega⟩
  have n0 : (0 : Int) ≤ (ns : Int) := by omega
  have n1 : (ns : Int) ≤ (xs.size : Int) := by omega
  have hcs : (xs.extract 0 ns).size = ns := cut_size xs ns hns1
  obtain ⟨q0, q1, q2, q3, qz⟩ := HS0.out.cq
  obtain ⟨a0, a1, a2, a3, a4⟩ := HS0.out.ca
  clear H
  unfold acA at *
  unfold ptr at *
  have e0 : (xk == 0) = false := by simp [h0]
  have f0 : decide (xk = 0) = false := decide_eq_false h0
  have e1 : (xk == 1) = false := by simp [h1]
  have f1 : decide (xk = 1) = false := decide_eq_false h1
  have e2 : (xk == 2) = false := by simp [h2]
  have f2 : decide (xk = 2) = false := decide_eq_false h2
  have e3 : (xk == 3) = false := by simp [h3]
  have f3 : decide (xk = 3) = false := decide_eq_false h3
  have e4 : (xk == 4) = false := by simp [h4]
  have f4 : decide (xk = 4) = false := decide_eq_false h4
  have e5 : (xk == 5) = false := by simp [h5]
  have f5 : decide (xk = 5) = false := decide_eq_false h5
  have e6 : (xk == 6) = false := by simp [h6]
  have f6 : decide (xk = 6) = false := decide_eq_false h6
  have e7 : (xk == 7) = false := by simp [h7]
  have f7 : decide (xk = 7) = false := decide_eq_false h7
  have e10 : (xk == 10) = false := by simp [h10]
  have f10 : decide (xk = 10) = false := decide_eq_false h10
  have e8 : (xk == 8) = false := by simp [h8]
  have f8 : decide (xk = 8) = false := decide_eq_false h8
  have hGK := HH.out.1.g.disk HH.out.1.geo.len (by rw [HH.out.1.geo.cnt]; exact hc4) hpw
  have HPA := (show PA W _ q h A.g _ _ (foot A.g A.kg A.vp) v S (rT h v) (w.heap.size :: E) cnt n from ⟨HH.out.1.row, .inr ⟨T, tb, mk, sp, HH.out.1.ro, rfl⟩, HH.out.1.ap.less (fun k hk => tft_a (foot_ft A k hk)) (fun k hk => hk) (fun k hk => hk), HH.out.1.g.bel.size⟩)
  rw [HH.out.1.geo.n, HH.out.1.geo.cnt] at hGK
  have hBL := hks.bools (fs := foot A.g A.kg A.vp) HH.out.1.g.bel hGK.new
  have HAG := again_any ka kl kc m hGK HPA hKL hcn hBL hkl hkc
  unfold ptr at HAG
  clear hGK HPA hBL
  go_enter Tryz.func10, Tryz.ntmps10
  go_wp2_with fail
  refine HAG.mono ?_
  rintro e w2 ⟨rfl, A2, d2, mk2, sp2, hP2⟩
  have HF := (show Hid _ from hP2)
  clear hP2 HAG HH HS0
  go_wp2
  go_ret
  exact ⟨rfl, HF.out.ps (by omega)⟩
end
end Go.Proofs.YtcfninpokngmlaaGreatDoor
