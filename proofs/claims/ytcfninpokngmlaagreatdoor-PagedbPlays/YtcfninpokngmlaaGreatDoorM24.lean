/- Proved: one kind of call of the law's helper does (stage 10). -/
import Derived.Test.YtcfninpokngmlaaGreatDoorM20
import Derived.Deep.CutBlock
namespace Go.Proofs.YtcfninpokngmlaaGreatDoor
open Go.RowKit
section
variable {W w w' : World} {q h : Nat} {A : Ad} {tv : Value} {t bt : Nat} {v : Rv} {K K' : Nat} {d : Pd.Db} {S T : Pd.Ab} {sp mk : Bool} {tm : Pd.Mp} {tb : List Bool} {cnt n : Nat} {E : List Nat}
set_option maxHeartbeats 8000000 in
set_option maxRecDepth 20000 in
theorem does_o10 (xi xd : Int) (xs : ByteArray) (ka : Option Addr) (kl kc : Nat) (hxs : xs.size ≤ 9223372036854775807) (H : PO W w q h A t bt v K d S T sp tm tb mk cnt n E) (L : Lim W K cnt n) :
    Calls Tryz.prog 10 #[ptr q, .agg (acA 10 xi xd xs (.slice ka kl kc))] w (DoPost W q h K cnt n) := by
  obtain ⟨hpw, hKL, hc4, hcn, hn2, hn⟩ := L
  have HH := (show Hid _ from do_o H (acA 10 xi xd xs (.slice ka kl kc)))
  have HS0 := (show Hid (DoR q w.heap.size A.g A.x h (ptr t) (acA 10 xi xd xs (.slice ka kl kc)) (w.alloc (.cells (acA 10 xi xd xs (.slice ka kl kc)) 28))) from ⟨HH.out.1.row, HH.out.2⟩)
  obtain ⟨ns, hns1, hns2, hmin⟩ : ∃ ns : Nat, ns ≤ xs.size ∧ ns ≤ 510 ∧ min (xs.size : Int) 510 = (ns : Int) := ⟨min xs.size 510, by omega, by omega, by omega⟩
  have n0 : (0 : Int) ≤ (ns : Int) := by omega
  have n1 : (ns : Int) ≤ (xs.size : Int) := by omega
  have hcs : (xs.extract 0 ns).size = ns := cut_size xs ns hns1
  obtain ⟨q0, q1, q2, q3, qz⟩ := HS0.out.cq
  obtain ⟨a0, a1, a2, a3, a4⟩ := HS0.out.ca
  clear H
  unfold acA at *
  unfold ptr at *
  have HA := spoil_any (A := A) (t := t) (bt := bt) (d := d) (w := (w.alloc (.cells (acA 10 xi xd xs (.slice ka kl kc)) 28))) (u := ⟨T.stt, tm, sp⟩) HH.out.1.g.tx
  unfold ptr acA at HA
  go_enter Tryz.func10, Tryz.ntmps10
  go_wp2_with fail
  generalize World.alloc w _ = w1 at *
  generalize w.heap.size = a at *
  generalize xs.extract 0 ns = sy at *
  clear q0 q1 q2 q3 qz a0 a1 a2 a3 a4
  refine HA.mono ?_
  rintro e w2 ⟨rfl, hX2, hT2⟩
  have HP := (show Hid _ from HH.out.1.prog (HH.out.1.g.turned (T' := T) (sp' := true) (tm' := tm) hX2 hT2 HH.out.1.g.txi) hT2)
  have HS2 := (show Hid (DoR q a A.g A.x h (.pointer (some ⟨t, 0, none⟩)) #[.int .i64 10, .int .i64 xi, .int .i64 xd, .string xs, .slice ka kl kc] w2) from ⟨HP.out.row, (hT2.chg.block a (heap_lt HS0.out.ra) (HH.out.1.ap.fe a List.mem_cons_self)).trans HS0.out.ra⟩)
  have HTK : Hid (Trk cnt tb mk tm) := HH.out.1.trk
  clear hX2 hT2 HA HH HS0
  have HS3 : Hid (DoR q a A.g A.x h (.pointer (some ⟨t, 0, none⟩)) #[.int .i64 10, .int .i64 xi, .int .i64 xd, .string xs, .slice ka kl kc] w2.drew ∧ w2.drew.cell? ⟨h, 5, none⟩ = some (.bool true)) := ⟨HS2.out.drew, HP.out.ro.c5⟩
  go_upto_region 31 with fail
  refine wp_region_held_drew (S := fun wz => DoR q a A.g A.x h (.pointer (some ⟨t, 0, none⟩)) #[.int .i64 10, .int .i64 xi, .int .i64 xd, .string xs, .slice ka kl kc] wz ∧ wz.cell? ⟨h, 5, none⟩ = some (.bool true)) (by kernel_rfl) HS3.out (fun _ => ?_)
  refine heldTake 0 (some 209) (.pointer (some ⟨q, 0, none⟩)) rfl rfl (by kernel_rfl) (by kernel_rfl) (by kernel_rfl) (fun _ _ _ h => h) (Or.inl ⟨by rfl, fun w hS => ?_⟩) HS3.out ?_
  · (go_simp)
  simp only [Act.put, List.setIfInBounds_toArray, List.set_cons_zero, List.set_cons_succ]
  refine heldTake 1 (some 210) (.pointer (some ⟨q, 0, none⟩)) rfl rfl (by kernel_rfl) (by kernel_rfl) (by kernel_rfl) (fun _ _ _ h => h) (Or.inl ⟨by rfl, fun w hS => ?_⟩) HS3.out ?_
  · (go_simp)
  simp only [Act.put, List.setIfInBounds_toArray, List.set_cons_zero, List.set_cons_succ]
  refine heldTake 2 (some 211) (.pointer (some ⟨q, 3, none⟩)) rfl rfl (by kernel_rfl) (by kernel_rfl) (by kernel_rfl) (fun _ _ _ h => h) (Or.inl ⟨by rfl, fun w hS => ?_⟩) HS3.out ?_
  · (go_simp)
  simp only [Act.put, List.setIfInBounds_toArray, List.set_cons_zero, List.set_cons_succ]
  refine heldTake 3 (some 212) (.pointer (some ⟨h, 0, none⟩)) rfl rfl (by kernel_rfl) (by kernel_rfl) (by kernel_rfl) (fun _ _ _ h => h) (Or.inl ⟨by rfl, fun w hS => ?_⟩) HS3.out ?_
  · (have p0 := hS.1.cq.2.2.2.1; unfold ptr at p0; clear hS; go_simp)
  simp only [Act.put, List.setIfInBounds_toArray, List.set_cons_zero, List.set_cons_succ]
  refine heldTake 4 (some 213) (.pointer (some ⟨q, 0, none⟩)) rfl rfl (by kernel_rfl) (by kernel_rfl) (by kernel_rfl) (fun _ _ _ h => h) (Or.inl ⟨by rfl, fun w hS => ?_⟩) HS3.out ?_
  · (go_simp)
  simp only [Act.put, List.setIfInBounds_toArray, List.set_cons_zero, List.set_cons_succ]
  refine heldTake 5 (some 214) (.pointer (some ⟨q, 0, none⟩)) rfl rfl (by kernel_rfl) (by kernel_rfl) (by kernel_rfl) (fun _ _ _ h => h) (Or.inl ⟨by rfl, fun w hS => ?_⟩) HS3.out ?_
  · (go_simp)
  simp only [Act.put, List.setIfInBounds_toArray, List.set_cons_zero, List.set_cons_succ]
  refine heldTake 6 (some 215) (.pointer (some ⟨q, 3, none⟩)) rfl rfl (by kernel_rfl) (by kernel_rfl) (by kernel_rfl) (fun _ _ _ h => h) (Or.inl ⟨by rfl, fun w hS => ?_⟩) HS3.out ?_
  · (go_simp)
  simp only [Act.put, List.setIfInBounds_toArray, List.set_cons_zero, List.set_cons_succ]
  refine heldTake 7 (some 216) (.pointer (some ⟨h, 0, none⟩)) rfl rfl (by kernel_rfl) (by kernel_rfl) (by kernel_rfl) (fun _ _ _ h => h) (Or.inl ⟨by rfl, fun w hS => ?_⟩) HS3.out ?_
  · (have p0 := hS.1.cq.2.2.2.1; unfold ptr at p0; clear hS; go_simp)
  simp only [Act.put, List.setIfInBounds_toArray, List.set_cons_zero, List.set_cons_succ]
  refine heldTake 8 (some 217) (.pointer (some ⟨h, 0, none⟩)) rfl rfl (by kernel_rfl) (by kernel_rfl) (by kernel_rfl) (fun _ _ _ h => h) (Or.inl ⟨by rfl, fun w hS => ?_⟩) HS3.out ?_
  · (go_simp)
  simp only [Act.put, List.setIfInBounds_toArray, List.set_cons_zero, List.set_cons_succ]
  refine heldTake 9 (some 218) (.pointer (some ⟨h, 5, none⟩)) rfl rfl (by kernel_rfl) (by kernel_rfl) (by kernel_rfl) (fun _ _ _ h => h) (Or.inl ⟨by rfl, fun w hS => ?_⟩) HS3.out ?_
  · (go_simp)
  simp only [Act.put, List.setIfInBounds_toArray, List.set_cons_zero, List.set_cons_succ]
  refine heldTake 10 (some 219) (.bool true) rfl rfl (by kernel_rfl) (by kernel_rfl) (by kernel_rfl) (fun _ _ _ h => h) (Or.inl ⟨by rfl, fun w hS => ?_⟩) HS3.out ?_
  · (have p0 := hS.2; clear hS; go_simp)
  simp only [Act.put, List.setIfInBounds_toArray, List.set_cons_zero, List.set_cons_succ]
  refine heldTake 11 (some 220) (.pointer (some ⟨h, 0, none⟩)) rfl rfl (by kernel_rfl) (by kernel_rfl) (by kernel_rfl) (fun _ _ _ h => h) (Or.inl ⟨by rfl, fun w hS => ?_⟩) HS3.out ?_
  · (go_simp)
  simp only [Act.put, List.setIfInBounds_toArray, List.set_cons_zero, List.set_cons_succ]
  refine heldTake 12 (some 221) (.pointer (some ⟨h, 11, none⟩)) rfl rfl (by kernel_rfl) (by kernel_rfl) (by kernel_rfl) (fun _ _ _ h => h) (Or.inl ⟨by rfl, fun w hS => ?_⟩) HS3.out ?_
  · (go_simp)
  simp only [Act.put, List.setIfInBounds_toArray, List.set_cons_zero, List.set_cons_succ]
  have HR := (show Hid _ from (HP.out.ro.below (w' := w2.drew) ⟨rfl, rfl, rfl, Nat.le_refl _, fun _ _ => rfl⟩).spoil)
  have HPD := (show Hid (PH W w2.drew q h A t bt v K d S T true tm T tb mk sp cnt n (a :: E)) from ⟨HP.out.g.below ⟨rfl, rfl, rfl, Nat.le_refl _, fun _ _ => rfl⟩, HP.out.row, HP.out.ro.below ⟨rfl, rfl, rfl, Nat.le_refl _, fun _ _ => rfl⟩, HP.out.ap.below ⟨rfl, rfl, rfl, Nat.le_refl _, fun _ _ => rfl⟩, HP.out.geo⟩)
  have HF := (show Hid _ from HPD.out.doc HR.out.1 HR.out.2 hpw HTK.out)
  have k11 := HPD.out.ro.c11
  have z11 := HPD.out.ro.fz 11
  have HS4 : Hid (DoR q a A.g A.x h (.pointer (some ⟨t, 0, none⟩)) #[.int .i64 10, .int .i64 xi, .int .i64 xd, .string xs, .slice ka kl kc] (w2.drew.setCell ⟨h, 11, none⟩ (.bool true)) ∧ (w2.drew.setCell ⟨h, 11, none⟩ (.bool true)).cell? ⟨h, 5, none⟩ = some (.bool true)) := ⟨⟨HF.out.row, (HR.out.2.chg.block a (heap_lt HS3.out.1.ra) (HPD.out.ap.re a List.mem_cons_self)).trans HS3.out.1.ra⟩, HF.out.ro.c5⟩
  clear HP HPD HR HS2
  refine heldOne 13 (by kernel_rfl) rfl (by rfl) (fun KK hK => ?_)
  go_simp
  refine hK.out _ _ HS4.out ?_
  clear hK KK HS3 HS4
  refine wpAnyH_done (by kernel_rfl) ?_ _
  go_wp2
  go_ret
  exact ⟨rfl, HF.out.ps (by omega)⟩
end
end Go.Proofs.YtcfninpokngmlaaGreatDoor
