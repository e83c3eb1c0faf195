/- Proved: one kind of call of the law's helper does (stage 10). -/
import Derived.Test.YtcfninpokngmlaaGreatDoorM20
import Derived.Deep.CutBlock
namespace Go.Proofs.YtcfninpokngmlaaGreatDoor
open Go.RowKit
section
variable {W w w' : World} {q h : Nat} {A : Ad} {tv : Value} {t bt : Nat} {v : Rv} {K K' : Nat} {d : Pd.Db} {S T : Pd.Ab} {sp mk : Bool} {tm : Pd.Mp} {tb : List Bool} {cnt n : Nat} {E : List Nat}
set_option maxHeartbeats 8000000 in
set_option maxRecDepth 20000 in
theorem does_c6 (xi xd : Int) (xs : ByteArray) (ka : Option Addr) (kl kc : Nat) (hxs : xs.size ≤ 9223372036854775807) (H : PC W w q h A tv v K d S mk sp cnt n E) (L : Lim W K cnt n) :
    Calls Tryz.prog 10 #[ptr q, .agg (acA 6 xi xd xs (.slice ka kl kc))] w (DoPost W q h K cnt n) := by
  obtain ⟨hpw, hKL, hc4, hcn, hn2, hn⟩ := L
  have HH := (show Hid _ from do_c H (acA 6 xi xd xs (.slice ka kl kc)))
  have HS0 := (show Hid (DoR q w.heap.size A.g A.x h tv (acA 6 xi xd xs (.slice ka kl kc)) (w.alloc (.cells (acA 6 xi xd xs (.slice ka kl kc)) 28))) from ⟨HH.out.1.row, HH.out.2⟩)
  obtain ⟨ns, hns1, hns2, hmin⟩ : ∃ ns : Nat, ns ≤ xs.size ∧ ns ≤ 510 ∧ min (xs.size : Int) 510 = (ns : Int) := ⟨min xs.size 510, by omega, by omega, by omega⟩
  have n0 : (0 : Int) ≤ (ns : Int) := by omega
  have n1 : (ns : Int) ≤ (xs.size : Int) := by omega
  have hcs : (xs.extract 0 ns).size = ns := cut_size xs ns hns1
  obtain ⟨q0, q1, q2, q3, qz⟩ := HS0.out.cq
  obtain ⟨a0, a1, a2, a3, a4⟩ := HS0.out.ca
  clear H
  unfold acA at *
  unfold ptr at *
  have HEN := HH.out.1.en
  go_enter Tryz.func10, Tryz.ntmps10
  go_upto_region 24 with fail
  generalize World.alloc w _ = w1 at *
  generalize w.heap.size = a at *
  generalize xs.extract 0 ns = sy at *
  clear q0 q1 q2 q3 qz a0 a1 a2 a3 a4
  have HS1 := (show Hid _ from HS0.out.drew)
  have HD : Hid (Below w1.heap.size w1 w1.drew) := ⟨rfl, rfl, rfl, Nat.le_refl _, fun _ _ => rfl⟩
  refine wp_region_held_drew (S := DoR q a A.g A.x h tv #[.int .i64 6, .int .i64 xi, .int .i64 xd, .string xs, .slice ka kl kc]) (by kernel_rfl) HS1.out (fun _ => ?_)
  refine heldTake 0 (some 179) (.pointer (some ⟨q, 0, none⟩)) rfl rfl (by kernel_rfl) (by kernel_rfl) (by kernel_rfl) (fun _ _ _ h => h) (Or.inl ⟨by rfl, fun w hS => ?_⟩) HS1.out ?_
  · (go_simp)
  simp only [Act.put, List.setIfInBounds_toArray, List.set_cons_zero, List.set_cons_succ]
  refine heldTake 1 (some 180) (.pointer (some ⟨q, 0, none⟩)) rfl rfl (by kernel_rfl) (by kernel_rfl) (by kernel_rfl) (fun _ _ _ h => h) (Or.inl ⟨by rfl, fun w hS => ?_⟩) HS1.out ?_
  · (go_simp)
  simp only [Act.put, List.setIfInBounds_toArray, List.set_cons_zero, List.set_cons_succ]
  refine heldTake 2 (some 181) (.pointer (some ⟨q, 2, none⟩)) rfl rfl (by kernel_rfl) (by kernel_rfl) (by kernel_rfl) (fun _ _ _ h => h) (Or.inl ⟨by rfl, fun w hS => ?_⟩) HS1.out ?_
  · (go_simp)
  simp only [Act.put, List.setIfInBounds_toArray, List.set_cons_zero, List.set_cons_succ]
  refine heldTake 3 (some 182) (tv) rfl rfl (by kernel_rfl) (by kernel_rfl) (by kernel_rfl) (fun _ _ _ h => h) (Or.inl ⟨by rfl, fun w hS => ?_⟩) HS1.out ?_
  · (have p0 := hS.cq.2.2.1; clear hS; go_simp)
  simp only [Act.put, List.setIfInBounds_toArray, List.set_cons_zero, List.set_cons_succ]
  refine heldTake 5 (some 184) (.pointer (some ⟨q, 0, none⟩)) rfl rfl (by kernel_rfl) (by kernel_rfl) (by kernel_rfl) (fun _ _ _ h => h) (Or.inl ⟨by rfl, fun w hS => ?_⟩) HS1.out ?_
  · (go_simp)
  simp only [Act.put, List.setIfInBounds_toArray, List.set_cons_zero, List.set_cons_succ]
  refine heldTake 6 (some 185) (.pointer (some ⟨q, 0, none⟩)) rfl rfl (by kernel_rfl) (by kernel_rfl) (by kernel_rfl) (fun _ _ _ h => h) (Or.inl ⟨by rfl, fun w hS => ?_⟩) HS1.out ?_
  · (go_simp)
  simp only [Act.put, List.setIfInBounds_toArray, List.set_cons_zero, List.set_cons_succ]
  refine heldTake 7 (some 186) (.pointer (some ⟨q, 3, none⟩)) rfl rfl (by kernel_rfl) (by kernel_rfl) (by kernel_rfl) (fun _ _ _ h => h) (Or.inl ⟨by rfl, fun w hS => ?_⟩) HS1.out ?_
  · (go_simp)
  simp only [Act.put, List.setIfInBounds_toArray, List.set_cons_zero, List.set_cons_succ]
  refine heldTake 8 (some 187) (.pointer (some ⟨h, 0, none⟩)) rfl rfl (by kernel_rfl) (by kernel_rfl) (by kernel_rfl) (fun _ _ _ h => h) (Or.inl ⟨by rfl, fun w hS => ?_⟩) HS1.out ?_
  · (have p0 := hS.cq.2.2.2.1; unfold ptr at p0; clear hS; go_simp)
  simp only [Act.put, List.setIfInBounds_toArray, List.set_cons_zero, List.set_cons_succ]
  refine heldOne 4 (by kernel_rfl) rfl (by rfl) (fun KK hK => ?_)
  go_simp
  refine (commit_nob _ _ (HEN.shut.below HD.out)).mono ?_
  rintro e w2 ⟨rfl, hw2⟩
  have hB2' : Below w1.heap.size w1 w2 := by rw [hw2]; exact HD.out
  have HP := (show Hid _ from HH.out.1.below hB2')
  have HS2 := (show Hid (DoR q a A.g A.x h tv #[.int .i64 6, .int .i64 xi, .int .i64 xd, .string xs, .slice ka kl kc] w2) from ⟨HP.out.row, (hB2'.block a (heap_lt HS0.out.ra)).trans HS0.out.ra⟩)
  clear hw2 hB2' HH HEN
  refine hK.out _ _ HS2.out ?_
  clear hK KK HS1
  refine heldOne 9 (by kernel_rfl) rfl (by rfl) (fun KK hK => ?_)
  go_simp
  have hC2 := rcommit_no HP.out.rc
  unfold ptr at hC2
  refine hC2.mono ?_
  rintro e w3 ⟨rfl, hw3⟩
  have HS3 := (show Hid (DoR q a A.g A.x h tv #[.int .i64 6, .int .i64 xi, .int .i64 xd, .string xs, .slice ka kl kc] w3) from by rw [hw3]; exact HS2.out)
  have HF := (show Hid (PC W w3 q h A tv v K d S mk sp cnt n (a :: E)) from by rw [hw3]; exact HP.out)
  clear hw3 hC2 HP HS2
  refine hK.out _ _ HS3.out ?_
  clear hK KK
  refine heldTake 10 (some 189) (.bool true) rfl rfl (by kernel_rfl) (by kernel_rfl) (by kernel_rfl) (fun _ _ _ h => h) (Or.inl ⟨by rfl, fun w hS => ?_⟩) HS3.out ?_
  · (go_simp)
  simp only [Act.put, List.setIfInBounds_toArray, List.set_cons_zero, List.set_cons_succ]
  refine heldTake 11 (some 4) (.bool true) rfl rfl (by kernel_rfl) (by kernel_rfl) (by kernel_rfl) (fun _ _ _ h => h) (Or.inl ⟨by rfl, fun w hS => ?_⟩) HS3.out ?_
  · (go_simp)
  simp only [Act.put, List.setIfInBounds_toArray, List.set_cons_zero, List.set_cons_succ]
  refine wpAnyH_done (by kernel_rfl) ?_ _
  go_wp2
  go_ret
  exact ⟨rfl, HF.out.ps (by omega)⟩
end
end Go.Proofs.YtcfninpokngmlaaGreatDoor
/- Proved: one kind of call of the law's helper does (stage 10). -/
namespace Go.Proofs.YtcfninpokngmlaaGreatDoor
open Go.RowKit
section
variable {W w w' : World} {q h : Nat} {A : Ad} {tv : Value} {t bt : Nat} {v : Rv} {K K' : Nat} {d : Pd.Db} {S T : Pd.Ab} {sp mk : Bool} {tm : Pd.Mp} {tb : List Bool} {cnt n : Nat} {E : List Nat}
set_option maxHeartbeats 8000000 in
set_option maxRecDepth 20000 in
theorem does_c7 (xi xd : Int) (xs : ByteArray) (ka : Option Addr) (kl kc : Nat) (hxs : xs.size ≤ 9223372036854775807) (H : PC W w q h A tv v K d S mk sp cnt n E) (L : Lim W K cnt n) :
    Calls Tryz.prog 10 #[ptr q, .agg (acA 7 xi xd xs (.slice ka kl kc))] w (DoPost W q h K cnt n) := by
  obtain ⟨hpw, hKL, hc4, hcn, hn2, hn⟩ := L
  have HH := (show Hid _ from do_c H (acA 7 xi xd xs (.slice ka kl kc)))
  have HS0 := (show Hid (DoR q w.heap.size A.g A.x h tv (acA 7 xi xd xs (.slice ka kl kc)) (w.alloc (.cells (acA 7 xi xd xs (.slice ka kl kc)) 28))) from ⟨HH.out.1.row, HH.out.2⟩)
  obtain ⟨ns, hns1, hns2, hmin⟩ : ∃ ns : Nat, ns ≤ xs.size ∧ ns ≤ 510 ∧ min (xs.size : Int) 510 = (ns : Int) := ⟨min xs.size 510, by omega, by omega, by omega⟩
  have n0 : (0 : Int) ≤ (ns : Int) := by omega
  have n1 : (ns : Int) ≤ (xs.size : Int) := by omega
  have hcs : (xs.extract 0 ns).size = ns := cut_size xs ns hns1
  obtain ⟨q0, q1, q2, q3, qz⟩ := HS0.out.cq
  obtain ⟨a0, a1, a2, a3, a4⟩ := HS0.out.ca
  clear H
  unfold acA at *
  unfold ptr at *
  have HEN := HH.out.1.en
  have HA := abort_no _ _ HEN.shut
  have HB := rabort_no HH.out.1.rc
  unfold ptr at HB
  go_enter Tryz.func10, Tryz.ntmps10
  go_wp2_with (go_at_call 28; refine HA.mono ?_; rintro e wS ⟨rfl, hwS⟩; rw [hwS]; clear hwS wS)
  generalize World.alloc w _ = w1 at *
  generalize w.heap.size = a at *
  generalize xs.extract 0 ns = sy at *
  clear q0 q1 q2 q3 qz a0 a1 a2 a3 a4
  refine HB.mono ?_
  rintro e w2 ⟨rfl, hR2, hT2⟩
  have HF := (show Hid _ from HH.out.1.doc hR2 hT2 hpw)
  clear hR2 hT2 HB HA HH HS0 HEN
  go_wp2
  go_ret
  exact ⟨rfl, HF.out.ps (by omega)⟩
end
end Go.Proofs.YtcfninpokngmlaaGreatDoor
/- Proved: one kind of call of the law's helper does (stage 10). -/
namespace Go.Proofs.YtcfninpokngmlaaGreatDoor
open Go.RowKit
section
variable {W w w' : World} {q h : Nat} {A : Ad} {tv : Value} {t bt : Nat} {v : Rv} {K K' : Nat} {d : Pd.Db} {S T : Pd.Ab} {sp mk : Bool} {tm : Pd.Mp} {tb : List Bool} {cnt n : Nat} {E : List Nat}
set_option maxHeartbeats 8000000 in
set_option maxRecDepth 20000 in
theorem does_c8 (xi xd : Int) (xs : ByteArray) (ka : Option Addr) (kl kc : Nat) (hxs : xs.size ≤ 9223372036854775807) (H : PC W w q h A tv v K d S mk sp cnt n E) (L : Lim W K cnt n) :
    Calls Tryz.prog 10 #[ptr q, .agg (acA 8 xi xd xs (.slice ka kl kc))] w (DoPost W q h K cnt n) := by
  obtain ⟨hpw, hKL, hc4, hcn, hn2, hn⟩ := L
  have HH := (show Hid _ from do_c H (acA 8 xi xd xs (.slice ka kl kc)))
  have HS0 := (show Hid (DoR q w.heap.size A.g A.x h tv (acA 8 xi xd xs (.slice ka kl kc)) (w.alloc (.cells (acA 8 xi xd xs (.slice ka kl kc)) 28))) from ⟨HH.out.1.row, HH.out.2⟩)
  obtain ⟨ns, hns1, hns2, hmin⟩ : ∃ ns : Nat, ns ≤ xs.size ∧ ns ≤ 510 ∧ min (xs.size : Int) 510 = (ns : Int) := ⟨min xs.size 510, by omega, by omega, by omega⟩
  have n0 : (0 : Int) ≤ (ns : Int) := by omega
  have n1 : (ns : Int) ≤ (xs.size : Int) := by omega
  have hcs : (xs.extract 0 ns).size = ns := cut_size xs ns hns1
  obtain ⟨q0, q1, q2, q3, qz⟩ := HS0.out.cq
  obtain ⟨a0, a1, a2, a3, a4⟩ := HS0.out.ca
  clear H
  unfold acA at *
  unfold ptr at *
  have HEN := HH.out.1.en
  have HA := gckpt1 HH.out.1.g hKL HH.out.1.geo.left
  unfold ptr at HA
  go_enter Tryz.func10, Tryz.ntmps10
  go_wp2_with fail
  generalize World.alloc w _ = w1 at *
  generalize w.heap.size = a at *
  generalize xs.extract 0 ns = sy at *
  clear q0 q1 q2 q3 qz a0 a1 a2 a3 a4
  refine HA.mono ?_
  rintro e w2 ⟨rfl, vr, vw, vp, d', hG2, hk2, hT2⟩
  have HF := (show Hid _ from HH.out.1.prog hG2 hT2 ⟨rfl, rfl⟩ rfl (HH.out.1.geo.kin hk2))
  have HC : Hid (d.cnt = cnt) := HH.out.1.geo.cnt
  have r3 : w2.cell? ⟨q, 3, none⟩ = some (ptr h) := (cell_of_row w2 q 3 _ _ (0, 0) HF.out.row).trans rfl
  have r5 := HF.out.rc.c5
  unfold ptr at r3
  clear hG2 hk2 hT2 HA HH HS0 HEN
  go_wp2
  go_ret
  exact ⟨rfl, HF.out.ps (by rw [HC.out]; omega)⟩
end
end Go.Proofs.YtcfninpokngmlaaGreatDoor
/- Proved: one kind of call of the law's helper does (stage 10). -/
namespace Go.Proofs.YtcfninpokngmlaaGreatDoor
open Go.RowKit
section
variable {W w w' : World} {q h : Nat} {A : Ad} {tv : Value} {t bt : Nat} {v : Rv} {K K' : Nat} {d : Pd.Db} {S T : Pd.Ab} {sp mk : Bool} {tm : Pd.Mp} {tb : List Bool} {cnt n : Nat} {E : List Nat}
set_option maxHeartbeats 8000000 in
set_option maxRecDepth 20000 in
theorem does_c9 (xk : Int) (xi xd : Int) (xs : ByteArray) (ka : Option Addr) (kl kc : Nat) (hxs : xs.size ≤ 9223372036854775807) (m : Nat → Bool) (hkl : kl ≤ kc) (hkc : kc ≤ 9223372036854775807) (hks : InB W ka kl m) (h0 : ¬ xk = 0) (h1 : ¬ xk = 1) (h2 : ¬ xk = 2) (h3 : ¬ xk = 3) (h4 : ¬ xk = 4) (h5 : ¬ xk = 5) (h6 : ¬ xk = 6) (h7 : ¬ xk = 7) (h10 : ¬ xk = 10) (h8 : ¬ xk = 8) (H : PC W w q h A tv v K d S mk sp cnt n E) (L : Lim W K cnt n) :
    Calls Tryz.prog 10 #[ptr q, .agg (acA xk xi xd xs (.slice ka kl kc))] w (DoPost W q h K cnt n) := by
  obtain ⟨hpw, hKL, hc4, hcn, hn2, hn⟩ := L
  have HH := (show Hid _ from do_c H (acA xk xi xd xs (.slice ka kl kc)))
  have HS0 := (show Hid (DoR q w.heap.size A.g A.x h tv (acA xk xi xd xs (.slice ka kl kc)) (w.alloc (.cells (acA xk xi xd xs (.slice ka kl kc)) 28))) from ⟨HH.out.1.row, HH.out.2⟩)
  obtain ⟨ns, hns1, hns2, hmin⟩ : ∃ ns : Nat, ns ≤ xs.size ∧ ns ≤ 510 ∧ min (xs.size : Int) 510 = (ns : Int) := ⟨min xs.size 510, by omega, by omega, by omega⟩
  have n0 : (0 : Int) ≤ (ns : Int) := by omega
  have n1 : (ns : Int) ≤ (xs.size : Int) := by omega
  have hcs : (xs.extract 0 ns).size = ns := cut_size xs ns hns1
  obtain ⟨q0, q1, q2, q3, qz⟩ := HS0.out.cq
  obtain ⟨a0, a1, a2, a3, a4⟩ := HS0.out.ca
  clear H
  unfold acA at *
  unfold ptr at *
  have HEN := HH.out.1.en
  have e0 : (xk == 0) = false := by simp [h0]
  have f0 : decide (xk = 0) = false := decide_eq_false h0
  have e1 : (xk == 1) = false := by simp [h1]
  have f1 : decide (xk = 1) = false := decide_eq_false h1
  have e2 : (xk == 2) = false := by simp [h2]
  have f2 : decide (xk = 2) = false := decide_eq_false h2
  have e3 : (xk == 3) = false := by simp [h3]
  have f3 : decide (xk = 3) = false := decide_eq_false h3
  have e4 : (xk == 4) = false := by simp [h4]
  have f4 : decide (xk = 4) = false := decide_eq_false h4
  have e5 : (xk == 5) = false := by simp [h5]
  have f5 : decide (xk = 5) = false := decide_eq_false h5
  have e6 : (xk == 6) = false := by simp [h6]
  have f6 : decide (xk = 6) = false := decide_eq_false h6
  have e7 : (xk == 7) = false := by simp [h7]
  have f7 : decide (xk = 7) = false := decide_eq_false h7
  have e10 : (xk == 10) = false := by simp [h10]
  have f10 : decide (xk = 10) = false := decide_eq_false h10
  have e8 : (xk == 8) = false := by simp [h8]
  have f8 : decide (xk = 8) = false := decide_eq_false h8
  have hGK := HH.out.1.g.disk HH.out.1.geo.len (by rw [HH.out.1.geo.cnt]; exact hc4) hpw
  have HPA := (show PA W _ q h A.g _ tv (foot A.g A.kg A.vp) v S (rS h v) (w.heap.size :: E) cnt n from ⟨HH.out.1.row, .inl ⟨mk, sp, HH.out.1.rc, rfl⟩, HH.out.1.ap.less (foot_ft A) (fun k hk => hk) (fun k hk => hk), HH.out.1.g.bel.size⟩)
  rw [HH.out.1.geo.n, HH.out.1.geo.cnt] at hGK
  have hBL := hks.bools (fs := foot A.g A.kg A.vp) HH.out.1.g.bel hGK.new
  have HAG := again_any ka kl kc m hGK HPA hKL hcn hBL hkl hkc
  unfold ptr at HAG
  clear hGK HPA hBL
  clear HEN
  go_enter Tryz.func10, Tryz.ntmps10
  go_wp2_with fail
  refine HAG.mono ?_
  rintro e w2 ⟨rfl, A2, d2, mk2, sp2, hP2⟩
  have HF := (show Hid _ from hP2)
  clear hP2 HAG HH HS0
  go_wp2
  go_ret
  exact ⟨rfl, HF.out.ps (by omega)⟩
end
end Go.Proofs.YtcfninpokngmlaaGreatDoor
/- Proved: one kind of call of the law's helper does (stage 10). -/
namespace Go.Proofs.YtcfninpokngmlaaGreatDoor
open Go.RowKit
section
variable {W w w' : World} {q h : Nat} {A : Ad} {tv : Value} {t bt : Nat} {v : Rv} {K K' : Nat} {d : Pd.Db} {S T : Pd.Ab} {sp mk : Bool} {tm : Pd.Mp} {tb : List Bool} {cnt n : Nat} {E : List Nat}
set_option maxHeartbeats 8000000 in
set_option maxRecDepth 20000 in
theorem does_c10 (xi xd : Int) (xs : ByteArray) (ka : Option Addr) (kl kc : Nat) (hxs : xs.size ≤ 9223372036854775807) (H : PC W w q h A tv v K d S mk sp cnt n E) (L : Lim W K cnt n) :
    Calls Tryz.prog 10 #[ptr q, .agg (acA 10 xi xd xs (.slice ka kl kc))] w (DoPost W q h K cnt n) := by
  obtain ⟨hpw, hKL, hc4, hcn, hn2, hn⟩ := L
  have HH := (show Hid _ from do_c H (acA 10 xi xd xs (.slice ka kl kc)))
  have HS0 := (show Hid (DoR q w.heap.size A.g A.x h tv (acA 10 xi xd xs (.slice ka kl kc)) (w.alloc (.cells (acA 10 xi xd xs (.slice ka kl kc)) 28))) from ⟨HH.out.1.row, HH.out.2⟩)
  obtain ⟨ns, hns1, hns2, hmin⟩ : ∃ ns : Nat, ns ≤ xs.size ∧ ns ≤ 510 ∧ min (xs.size : Int) 510 = (ns : Int) := ⟨min xs.size 510, by omega, by omega, by omega⟩
  have n0 : (0 : Int) ≤ (ns : Int) := by omega
  have n1 : (ns : Int) ≤ (xs.size : Int) := by omega
  have hcs : (xs.extract 0 ns).size = ns := cut_size xs ns hns1
  obtain ⟨q0, q1, q2, q3, qz⟩ := HS0.out.cq
  obtain ⟨a0, a1, a2, a3, a4⟩ := HS0.out.ca
  clear H
  unfold acA at *
  unfold ptr at *
  have HEN := HH.out.1.en
  have HA := spoil_no _ _ HEN.shut
  go_enter Tryz.func10, Tryz.ntmps10
  go_wp2_with (go_at_call 29; refine HA.mono ?_; rintro e wS ⟨rfl, hwS⟩; rw [hwS]; clear hwS wS)
  generalize World.alloc w _ = w1 at *
  generalize w.heap.size = a at *
  generalize xs.extract 0 ns = sy at *
  clear q0 q1 q2 q3 qz a0 a1 a2 a3 a4
  have HP := (show Hid _ from HH.out.1)
  have HS2 := (show Hid (DoR q a A.g A.x h tv #[.int .i64 10, .int .i64 xi, .int .i64 xd, .string xs, .slice ka kl kc] w1) from HS0.out)
  clear HA HH HEN HS0
  generalize w1 = w2 at *
  have HS3 : Hid (DoR q a A.g A.x h tv #[.int .i64 10, .int .i64 xi, .int .i64 xd, .string xs, .slice ka kl kc] w2.drew ∧ w2.drew.cell? ⟨h, 5, none⟩ = some (.bool false)) := ⟨HS2.out.drew, HP.out.rc.c5⟩
  go_upto_region 31 with fail
  refine wp_region_held_drew (S := fun wz => DoR q a A.g A.x h tv #[.int .i64 10, .int .i64 xi, .int .i64 xd, .string xs, .slice ka kl kc] wz ∧ wz.cell? ⟨h, 5, none⟩ = some (.bool false)) (by kernel_rfl) HS3.out (fun _ => ?_)
  refine heldTake 0 (some 209) (.pointer (some ⟨q, 0, none⟩)) rfl rfl (by kernel_rfl) (by kernel_rfl) (by kernel_rfl) (fun _ _ _ h => h) (Or.inl ⟨by rfl, fun w hS => ?_⟩) HS3.out ?_
  · (go_simp)
  simp only [Act.put, List.setIfInBounds_toArray, List.set_cons_zero, List.set_cons_succ]
  refine heldTake 1 (some 210) (.pointer (some ⟨q, 0, none⟩)) rfl rfl (by kernel_rfl) (by kernel_rfl) (by kernel_rfl) (fun _ _ _ h => h) (Or.inl ⟨by rfl, fun w hS => ?_⟩) HS3.out ?_
  · (go_simp)
  simp only [Act.put, List.setIfInBounds_toArray, List.set_cons_zero, List.set_cons_succ]
  refine heldTake 2 (some 211) (.pointer (some ⟨q, 3, none⟩)) rfl rfl (by kernel_rfl) (by kernel_rfl) (by kernel_rfl) (fun _ _ _ h => h) (Or.inl ⟨by rfl, fun w hS => ?_⟩) HS3.out ?_
  · (go_simp)
  simp only [Act.put, List.setIfInBounds_toArray, List.set_cons_zero, List.set_cons_succ]
  refine heldTake 3 (some 212) (.pointer (some ⟨h, 0, none⟩)) rfl rfl (by kernel_rfl) (by kernel_rfl) (by kernel_rfl) (fun _ _ _ h => h) (Or.inl ⟨by rfl, fun w hS => ?_⟩) HS3.out ?_
  · (have p0 := hS.1.cq.2.2.2.1; unfold ptr at p0; clear hS; go_simp)
  simp only [Act.put, List.setIfInBounds_toArray, List.set_cons_zero, List.set_cons_succ]
  refine heldTake 4 (some 213) (.pointer (some ⟨q, 0, none⟩)) rfl rfl (by kernel_rfl) (by kernel_rfl) (by kernel_rfl) (fun _ _ _ h => h) (Or.inl ⟨by rfl, fun w hS => ?_⟩) HS3.out ?_
  · (go_simp)
  simp only [Act.put, List.setIfInBounds_toArray, List.set_cons_zero, List.set_cons_succ]
  refine heldTake 5 (some 214) (.pointer (some ⟨q, 0, none⟩)) rfl rfl (by kernel_rfl) (by kernel_rfl) (by kernel_rfl) (fun _ _ _ h => h) (Or.inl ⟨by rfl, fun w hS => ?_⟩) HS3.out ?_
  · (go_simp)
  simp only [Act.put, List.setIfInBounds_toArray, List.set_cons_zero, List.set_cons_succ]
  refine heldTake 6 (some 215) (.pointer (some ⟨q, 3, none⟩)) rfl rfl (by kernel_rfl) (by kernel_rfl) (by kernel_rfl) (fun _ _ _ h => h) (Or.inl ⟨by rfl, fun w hS => ?_⟩) HS3.out ?_
  · (go_simp)
  simp only [Act.put, List.setIfInBounds_toArray, List.set_cons_zero, List.set_cons_succ]
  refine heldTake 7 (some 216) (.pointer (some ⟨h, 0, none⟩)) rfl rfl (by kernel_rfl) (by kernel_rfl) (by kernel_rfl) (fun _ _ _ h => h) (Or.inl ⟨by rfl, fun w hS => ?_⟩) HS3.out ?_
  · (have p0 := hS.1.cq.2.2.2.1; unfold ptr at p0; clear hS; go_simp)
  simp only [Act.put, List.setIfInBounds_toArray, List.set_cons_zero, List.set_cons_succ]
  refine heldTake 8 (some 217) (.pointer (some ⟨h, 0, none⟩)) rfl rfl (by kernel_rfl) (by kernel_rfl) (by kernel_rfl) (fun _ _ _ h => h) (Or.inl ⟨by rfl, fun w hS => ?_⟩) HS3.out ?_
  · (go_simp)
  simp only [Act.put, List.setIfInBounds_toArray, List.set_cons_zero, List.set_cons_succ]
  refine heldTake 9 (some 218) (.pointer (some ⟨h, 5, none⟩)) rfl rfl (by kernel_rfl) (by kernel_rfl) (by kernel_rfl) (fun _ _ _ h => h) (Or.inl ⟨by rfl, fun w hS => ?_⟩) HS3.out ?_
  · (go_simp)
  simp only [Act.put, List.setIfInBounds_toArray, List.set_cons_zero, List.set_cons_succ]
  refine heldTake 10 (some 219) (.bool false) rfl rfl (by kernel_rfl) (by kernel_rfl) (by kernel_rfl) (fun _ _ _ h => h) (Or.inl ⟨by rfl, fun w hS => ?_⟩) HS3.out ?_
  · (have p0 := hS.2; clear hS; go_simp)
  simp only [Act.put, List.setIfInBounds_toArray, List.set_cons_zero, List.set_cons_succ]
  refine heldTake 11 (some 220) (.pointer (some ⟨h, 0, none⟩)) rfl rfl (by kernel_rfl) (by kernel_rfl) (by kernel_rfl) (fun _ _ _ h => h) (Or.inl ⟨by rfl, fun w hS => ?_⟩) HS3.out ?_
  · (go_simp)
  simp only [Act.put, List.setIfInBounds_toArray, List.set_cons_zero, List.set_cons_succ]
  refine heldTake 12 (some 221) (.pointer (some ⟨h, 11, none⟩)) rfl rfl (by kernel_rfl) (by kernel_rfl) (by kernel_rfl) (fun _ _ _ h => h) (Or.inl ⟨by rfl, fun w hS => ?_⟩) HS3.out ?_
  · (go_simp)
  simp only [Act.put, List.setIfInBounds_toArray, List.set_cons_zero, List.set_cons_succ]
  have HR := (show Hid _ from (HP.out.rc.below (w' := w2.drew) ⟨rfl, rfl, rfl, Nat.le_refl _, fun _ _ => rfl⟩).spoil)
  have HPD := (show Hid _ from HP.out.below (w' := w2.drew) ⟨rfl, rfl, rfl, Nat.le_refl _, fun _ _ => rfl⟩)
  have HF := (show Hid _ from HPD.out.doc HR.out.1 HR.out.2 hpw)
  have k11 : w2.drew.cell? ⟨h, 11, none⟩ = some (.bool sp) := by rw [HPD.out.rc.cell]; rfl
  have z11 := HPD.out.rc.fz 11
  have HS4 : Hid (DoR q a A.g A.x h tv #[.int .i64 10, .int .i64 xi, .int .i64 xd, .string xs, .slice ka kl kc] (w2.drew.setCell ⟨h, 11, none⟩ (.bool false)) ∧ (w2.drew.setCell ⟨h, 11, none⟩ (.bool false)).cell? ⟨h, 5, none⟩ = some (.bool false)) := ⟨⟨HF.out.row, (HR.out.2.chg.block a (heap_lt HS3.out.1.ra) (HPD.out.ap.re a List.mem_cons_self)).trans HS3.out.1.ra⟩, HF.out.rc.c5⟩
  clear HP HPD HR HS2
  refine heldOne 13 (by kernel_rfl) rfl (by rfl) (fun KK hK => ?_)
  go_simp
  refine hK.out _ _ HS4.out ?_
  clear hK KK HS3 HS4
  refine wpAnyH_done (by kernel_rfl) ?_ _
  go_wp2
  go_ret
  exact ⟨rfl, HF.out.ps (by omega)⟩
end
end Go.Proofs.YtcfninpokngmlaaGreatDoor
/- Proved: one kind of call of the law's helper does (stage 10). -/
namespace Go.Proofs.YtcfninpokngmlaaGreatDoor
open Go.RowKit
section
variable {W w w' : World} {q h : Nat} {A : Ad} {tv : Value} {t bt : Nat} {v : Rv} {K K' : Nat} {d : Pd.Db} {S T : Pd.Ab} {sp mk : Bool} {tm : Pd.Mp} {tb : List Bool} {cnt n : Nat} {E : List Nat}
set_option maxHeartbeats 8000000 in
set_option maxRecDepth 20000 in
theorem does_o0 (xi xd : Int) (xs : ByteArray) (ka : Option Addr) (kl kc : Nat) (hxs : xs.size ≤ 9223372036854775807) (H : PO W w q h A t bt v K d S T sp tm tb mk cnt n E) (L : Lim W K cnt n) :
    Calls Tryz.prog 10 #[ptr q, .agg (acA 0 xi xd xs (.slice ka kl kc))] w (DoPost W q h K cnt n) := by
  obtain ⟨hpw, hKL, hc4, hcn, hn2, hn⟩ := L
  have HH := (show Hid _ from do_o H (acA 0 xi xd xs (.slice ka kl kc)))
  have HS0 := (show Hid (DoR q w.heap.size A.g A.x h (ptr t) (acA 0 xi xd xs (.slice ka kl kc)) (w.alloc (.cells (acA 0 xi xd xs (.slice ka kl kc)) 28))) from ⟨HH.out.1.row, HH.out.2⟩)
  obtain ⟨ns, hns1, hns2, hmin⟩ : ∃ ns : Nat, ns ≤ xs.size ∧ ns ≤ 510 ∧ min (xs.size : Int) 510 = (ns : Int) := ⟨min xs.size 510, by omega, by omega, by omega⟩
  have n0 : (0 : Int) ≤ (ns : Int) := by omega
  have n1 : (ns : Int) ≤ (xs.size : Int) := by omega
  have hcs : (xs.extract 0 ns).size = ns := cut_size xs ns hns1
  obtain ⟨q0, q1, q2, q3, qz⟩ := HS0.out.cq
  obtain ⟨a0, a1, a2, a3, a4⟩ := HS0.out.ca
  clear H
  unfold acA at *
  unfold ptr at *
  have HA := begin_busy HH.out.1.g
  have HB := rbegin_no HH.out.1.ro
  have HF := (show Hid _ from HH.out.1)
  unfold ptr at HA HB
  go_enter Tryz.func10, Tryz.ntmps10
  go_wp2_with (first | (go_at_call 24; refine HA.mono ?_; rintro e wS ⟨rfl, hwS⟩; rw [hwS]; clear hwS wS) | (go_at_call 41; refine HB.mono ?_; rintro e wS ⟨rfl, hwS⟩; rw [hwS]; clear hwS wS))
  go_ret
  exact ⟨rfl, HF.out.ps (by omega)⟩
end
end Go.Proofs.YtcfninpokngmlaaGreatDoor
/- Proved: one kind of call of the law's helper does (stage 10). -/
namespace Go.Proofs.YtcfninpokngmlaaGreatDoor
open Go.RowKit
section
variable {W w w' : World} {q h : Nat} {A : Ad} {tv : Value} {t bt : Nat} {v : Rv} {K K' : Nat} {d : Pd.Db} {S T : Pd.Ab} {sp mk : Bool} {tm : Pd.Mp} {tb : List Bool} {cnt n : Nat} {E : List Nat}
set_option maxHeartbeats 8000000 in
set_option maxRecDepth 20000 in
theorem does_o1 (xi xd : Int) (xs : ByteArray) (ka : Option Addr) (kl kc : Nat) (hxs : xs.size ≤ 9223372036854775807) (H : PO W w q h A t bt v K d S T sp tm tb mk cnt n E) (L : Lim W K cnt n) :
    Calls Tryz.prog 10 #[ptr q, .agg (acA 1 xi xd xs (.slice ka kl kc))] w (DoPost W q h K cnt n) := by
  obtain ⟨hpw, hKL, hc4, hcn, hn2, hn⟩ := L
  have HH := (show Hid _ from do_o H (acA 1 xi xd xs (.slice ka kl kc)))
  have HS0 := (show Hid (DoR q w.heap.size A.g A.x h (ptr t) (acA 1 xi xd xs (.slice ka kl kc)) (w.alloc (.cells (acA 1 xi xd xs (.slice ka kl kc)) 28))) from ⟨HH.out.1.row, HH.out.2⟩)
  obtain ⟨ns, hns1, hns2, hmin⟩ : ∃ ns : Nat, ns ≤ xs.size ∧ ns ≤ 510 ∧ min (xs.size : Int) 510 = (ns : Int) := ⟨min xs.size 510, by omega, by omega, by omega⟩
  have n0 : (0 : Int) ≤ (ns : Int) := by omega
  have n1 : (ns : Int) ≤ (xs.size : Int) := by omega
  have hcs : (xs.extract 0 ns).size = ns := cut_size xs ns hns1
  obtain ⟨q0, q1, q2, q3, qz⟩ := HS0.out.cq
  obtain ⟨a0, a1, a2, a3, a4⟩ := HS0.out.ca
  clear H
  unfold acA at *
  unfold ptr at *
  go_enter Tryz.func10, Tryz.ntmps10
  go_upto_region 10 with fail
  generalize World.alloc w _ = w1 at *
  generalize w.heap.size = a at *
  generalize xs.extract 0 ns = sy at *
  clear q0 q1 q2 q3 qz a0 a1 a2 a3 a4
  have HS1 := (show Hid _ from HS0.out.drew)
  have HD : Hid (Below w1.heap.size w1 w1.drew) := ⟨rfl, rfl, rfl, Nat.le_refl _, fun _ _ => rfl⟩
  have hcd := HH.out.1.geo.cnt
  have HOK : Hid (T.Ok cnt) := by rw [← hcd]; exact HH.out.1.g.txi.ok
  clear hcd
  obtain ⟨rk, hrk⟩ : ∃ rk, (thereR T.pgs.length xi (T.sh xi.toNat)).1.kind = rk := ⟨_, rfl⟩
  obtain ⟨rb, hrb⟩ : ∃ rb, (thereR T.pgs.length xi (T.sh xi.toNat)).1.body = rb := ⟨_, rfl⟩
  obtain ⟨re, hre⟩ : ∃ re, (thereR T.pgs.length xi (T.sh xi.toNat)).2 = re := ⟨_, rfl⟩
  have HRE : Hid ((thereR T.pgs.length xi (T.sh xi.toNat)).1.kind = rk ∧ (thereR T.pgs.length xi (T.sh xi.toNat)).1.body = rb ∧ (thereR T.pgs.length xi (T.sh xi.toNat)).2 = re) := ⟨hrk, hrb, hre⟩
  clear hrk hrb hre
  refine wp_region_held_drew (S := DoR q a A.g A.x h (.pointer (some ⟨t, 0, none⟩)) #[.int .i64 1, .int .i64 xi, .int .i64 xd, .string xs, .slice ka kl kc]) (by kernel_rfl) HS1.out (fun _ => ?_)
  refine heldTake 0 (some 56) (.pointer (some ⟨q, 0, none⟩)) rfl rfl (by kernel_rfl) (by kernel_rfl) (by kernel_rfl) (fun _ _ _ h => h) (Or.inl ⟨by rfl, fun w hS => ?_⟩) HS1.out ?_
  · (go_simp)
  simp only [Act.put, List.setIfInBounds_toArray, List.set_cons_zero, List.set_cons_succ]
  refine heldTake 1 (some 57) (.pointer (some ⟨q, 0, none⟩)) rfl rfl (by kernel_rfl) (by kernel_rfl) (by kernel_rfl) (fun _ _ _ h => h) (Or.inl ⟨by rfl, fun w hS => ?_⟩) HS1.out ?_
  · (go_simp)
  simp only [Act.put, List.setIfInBounds_toArray, List.set_cons_zero, List.set_cons_succ]
  refine heldTake 2 (some 58) (.pointer (some ⟨q, 2, none⟩)) rfl rfl (by kernel_rfl) (by kernel_rfl) (by kernel_rfl) (fun _ _ _ h => h) (Or.inl ⟨by rfl, fun w hS => ?_⟩) HS1.out ?_
  · (go_simp)
  simp only [Act.put, List.setIfInBounds_toArray, List.set_cons_zero, List.set_cons_succ]
  refine heldTake 3 (some 59) (.pointer (some ⟨t, 0, none⟩)) rfl rfl (by kernel_rfl) (by kernel_rfl) (by kernel_rfl) (fun _ _ _ h => h) (Or.inl ⟨by rfl, fun w hS => ?_⟩) HS1.out ?_
  · (have p0 := hS.cq.2.2.1; unfold ptr at p0; clear hS; go_simp)
  simp only [Act.put, List.setIfInBounds_toArray, List.set_cons_zero, List.set_cons_succ]
  refine heldTake 4 (some 60) (.pointer (some ⟨a, 1, none⟩)) rfl rfl (by kernel_rfl) (by kernel_rfl) (by kernel_rfl) (fun _ _ _ h => h) (Or.inl ⟨by rfl, fun w hS => ?_⟩) HS1.out ?_
  · (go_simp)
  simp only [Act.put, List.setIfInBounds_toArray, List.set_cons_zero, List.set_cons_succ]
  refine heldTake 5 (some 61) (.int .i64 xi) rfl rfl (by kernel_rfl) (by kernel_rfl) (by kernel_rfl) (fun _ _ _ h => h) (Or.inl ⟨by rfl, fun w hS => ?_⟩) HS1.out ?_
  · (have p0 : _ = some _ := (cell_of_row w a 1 _ _ (0, 0) hS.ra); clear hS; go_simp)
  simp only [Act.put, List.setIfInBounds_toArray, List.set_cons_zero, List.set_cons_succ]
  refine heldOne 6 (by kernel_rfl) rfl (by rfl) (fun KK hK => ?_)
  go_simp
  have hC1 := gread xi (HH.out.1.g.below HD.out)
  unfold ptr at hC1
  rw [HRE.out.1, HRE.out.2.1, HRE.out.2.2] at hC1
  refine hC1.mono ?_
  rintro e w2 ⟨rfl, hB2⟩
  have hB2' : Below w1.heap.size w1 w2 := HD.out.trans hB2
  have HP := (show Hid _ from HH.out.1.below hB2')
  have HS2 := (show Hid (DoR q a A.g A.x h (.pointer (some ⟨t, 0, none⟩)) #[.int .i64 1, .int .i64 xi, .int .i64 xd, .string xs, .slice ka kl kc] w2) from ⟨HP.out.row, (hB2'.block a (heap_lt HS0.out.ra)).trans HS0.out.ra⟩)
  clear hB2 hB2' HH hC1
  refine hK.out _ _ HS2.out ?_
  clear hK KK HS1 HS0 HD
  refine heldTake 7 (some 55) (.tuple #[.int .i64 (rk : Int), .string rb, .int .i64 re]) rfl rfl (by kernel_rfl) (by kernel_rfl) (by kernel_rfl) (fun _ _ _ h => h) (Or.inl ⟨by rfl, fun w hS => ?_⟩) HS2.out ?_
  · (go_simp)
  simp only [Act.put, List.setIfInBounds_toArray, List.set_cons_zero, List.set_cons_succ]
  refine heldTake 8 (some 63) (.int .i64 (rk : Int)) rfl rfl (by kernel_rfl) (by kernel_rfl) (by kernel_rfl) (fun _ _ _ h => h) (Or.inl ⟨by rfl, fun w hS => ?_⟩) HS2.out ?_
  · (go_simp)
  simp only [Act.put, List.setIfInBounds_toArray, List.set_cons_zero, List.set_cons_succ]
  refine heldTake 9 (some 64) (.string rb) rfl rfl (by kernel_rfl) (by kernel_rfl) (by kernel_rfl) (fun _ _ _ h => h) (Or.inl ⟨by rfl, fun w hS => ?_⟩) HS2.out ?_
  · (go_simp)
  simp only [Act.put, List.setIfInBounds_toArray, List.set_cons_zero, List.set_cons_succ]
  refine heldTake 10 (some 65) (.int .i64 re) rfl rfl (by kernel_rfl) (by kernel_rfl) (by kernel_rfl) (fun _ _ _ h => h) (Or.inl ⟨by rfl, fun w hS => ?_⟩) HS2.out ?_
  · (go_simp)
  simp only [Act.put, List.setIfInBounds_toArray, List.set_cons_zero, List.set_cons_succ]
  refine heldTake 11 (some 9) (.int .i64 (rk : Int)) rfl rfl (by kernel_rfl) (by kernel_rfl) (by kernel_rfl) (fun _ _ _ h => h) (Or.inl ⟨by rfl, fun w hS => ?_⟩) HS2.out ?_
  · (go_simp)
  simp only [Act.put, List.setIfInBounds_toArray, List.set_cons_zero, List.set_cons_succ]
  refine heldTake 12 (some 10) (.string rb) rfl rfl (by kernel_rfl) (by kernel_rfl) (by kernel_rfl) (fun _ _ _ h => h) (Or.inl ⟨by rfl, fun w hS => ?_⟩) HS2.out ?_
  · (go_simp)
  simp only [Act.put, List.setIfInBounds_toArray, List.set_cons_zero, List.set_cons_succ]
  refine heldTake 13 (some 11) (.int .i64 re) rfl rfl (by kernel_rfl) (by kernel_rfl) (by kernel_rfl) (fun _ _ _ h => h) (Or.inl ⟨by rfl, fun w hS => ?_⟩) HS2.out ?_
  · (go_simp)
  simp only [Act.put, List.setIfInBounds_toArray, List.set_cons_zero, List.set_cons_succ]
  refine wpAnyH_done (by kernel_rfl) ?_ _
  have HS3 := (show Hid _ from HS2.out.drew)
  have HD : Hid (Below w2.heap.size w2 w2.drew) := ⟨rfl, rfl, rfl, Nat.le_refl _, fun _ _ => rfl⟩
  go_upto_region 11 with fail
  refine wp_region_held_drew (S := DoR q a A.g A.x h (.pointer (some ⟨t, 0, none⟩)) #[.int .i64 1, .int .i64 xi, .int .i64 xd, .string xs, .slice ka kl kc]) (by kernel_rfl) HS3.out (fun _ => ?_)
  refine heldTake 0 (some 67) (.pointer (some ⟨q, 0, none⟩)) rfl rfl (by kernel_rfl) (by kernel_rfl) (by kernel_rfl) (fun _ _ _ h => h) (Or.inl ⟨by rfl, fun w hS => ?_⟩) HS3.out ?_
  · (go_simp)
  simp only [Act.put, List.setIfInBounds_toArray, List.set_cons_zero, List.set_cons_succ]
  refine heldTake 1 (some 68) (.pointer (some ⟨q, 0, none⟩)) rfl rfl (by kernel_rfl) (by kernel_rfl) (by kernel_rfl) (fun _ _ _ h => h) (Or.inl ⟨by rfl, fun w hS => ?_⟩) HS3.out ?_
  · (go_simp)
  simp only [Act.put, List.setIfInBounds_toArray, List.set_cons_zero, List.set_cons_succ]
  refine heldTake 2 (some 69) (.pointer (some ⟨q, 3, none⟩)) rfl rfl (by kernel_rfl) (by kernel_rfl) (by kernel_rfl) (fun _ _ _ h => h) (Or.inl ⟨by rfl, fun w hS => ?_⟩) HS3.out ?_
  · (go_simp)
  simp only [Act.put, List.setIfInBounds_toArray, List.set_cons_zero, List.set_cons_succ]
  refine heldTake 3 (some 70) (.pointer (some ⟨h, 0, none⟩)) rfl rfl (by kernel_rfl) (by kernel_rfl) (by kernel_rfl) (fun _ _ _ h => h) (Or.inl ⟨by rfl, fun w hS => ?_⟩) HS3.out ?_
  · (have p0 := hS.cq.2.2.2.1; unfold ptr at p0; clear hS; go_simp)
  simp only [Act.put, List.setIfInBounds_toArray, List.set_cons_zero, List.set_cons_succ]
  refine heldTake 4 (some 71) (.pointer (some ⟨a, 1, none⟩)) rfl rfl (by kernel_rfl) (by kernel_rfl) (by kernel_rfl) (fun _ _ _ h => h) (Or.inl ⟨by rfl, fun w hS => ?_⟩) HS3.out ?_
  · (go_simp)
  simp only [Act.put, List.setIfInBounds_toArray, List.set_cons_zero, List.set_cons_succ]
  refine heldTake 5 (some 72) (.int .i64 xi) rfl rfl (by kernel_rfl) (by kernel_rfl) (by kernel_rfl) (fun _ _ _ h => h) (Or.inl ⟨by rfl, fun w hS => ?_⟩) HS3.out ?_
  · (have p0 : _ = some _ := (cell_of_row w a 1 _ _ (0, 0) hS.ra); clear hS; go_simp)
  simp only [Act.put, List.setIfInBounds_toArray, List.set_cons_zero, List.set_cons_succ]
  refine heldOne 6 (by kernel_rfl) rfl (by rfl) (fun KK hK => ?_)
  go_simp
  have hC2 := rread_any (HP.out.ro.below HD.out) HOK.out xi
  unfold ptr at hC2
  rw [HRE.out.1, HRE.out.2.1, HRE.out.2.2] at hC2
  refine hC2.mono ?_
  rintro e w3 ⟨rfl, hB3⟩
  have hB3' : Below w2.heap.size w2 w3 := HD.out.trans hB3
  clear hB3
  have HF := (show Hid _ from HP.out.below hB3')
  have HS4 := (show Hid (DoR q a A.g A.x h (.pointer (some ⟨t, 0, none⟩)) #[.int .i64 1, .int .i64 xi, .int .i64 xd, .string xs, .slice ka kl kc] w3) from ⟨HF.out.row, (hB3'.block a (heap_lt HS2.out.ra)).trans HS2.out.ra⟩)
  clear hB3' HP hC2
  refine hK.out _ _ HS4.out ?_
  clear hK KK HS3 HS2 HD
  refine heldTake 7 (some 66) (.tuple #[.int .i64 (rk : Int), .string rb, .int .i64 re]) rfl rfl (by kernel_rfl) (by kernel_rfl) (by kernel_rfl) (fun _ _ _ h => h) (Or.inl ⟨by rfl, fun w hS => ?_⟩) HS4.out ?_
  · (go_simp)
  simp only [Act.put, List.setIfInBounds_toArray, List.set_cons_zero, List.set_cons_succ]
  refine heldTake 8 (some 74) (.int .i64 (rk : Int)) rfl rfl (by kernel_rfl) (by kernel_rfl) (by kernel_rfl) (fun _ _ _ h => h) (Or.inl ⟨by rfl, fun w hS => ?_⟩) HS4.out ?_
  · (go_simp)
  simp only [Act.put, List.setIfInBounds_toArray, List.set_cons_zero, List.set_cons_succ]
  refine heldTake 9 (some 75) (.string rb) rfl rfl (by kernel_rfl) (by kernel_rfl) (by kernel_rfl) (fun _ _ _ h => h) (Or.inl ⟨by rfl, fun w hS => ?_⟩) HS4.out ?_
  · (go_simp)
  simp only [Act.put, List.setIfInBounds_toArray, List.set_cons_zero, List.set_cons_succ]
  refine heldTake 10 (some 76) (.int .i64 re) rfl rfl (by kernel_rfl) (by kernel_rfl) (by kernel_rfl) (fun _ _ _ h => h) (Or.inl ⟨by rfl, fun w hS => ?_⟩) HS4.out ?_
  · (go_simp)
  simp only [Act.put, List.setIfInBounds_toArray, List.set_cons_zero, List.set_cons_succ]
  refine heldTake 11 (some 12) (.int .i64 (rk : Int)) rfl rfl (by kernel_rfl) (by kernel_rfl) (by kernel_rfl) (fun _ _ _ h => h) (Or.inl ⟨by rfl, fun w hS => ?_⟩) HS4.out ?_
  · (go_simp)
  simp only [Act.put, List.setIfInBounds_toArray, List.set_cons_zero, List.set_cons_succ]
  refine heldTake 12 (some 13) (.string rb) rfl rfl (by kernel_rfl) (by kernel_rfl) (by kernel_rfl) (fun _ _ _ h => h) (Or.inl ⟨by rfl, fun w hS => ?_⟩) HS4.out ?_
  · (go_simp)
  simp only [Act.put, List.setIfInBounds_toArray, List.set_cons_zero, List.set_cons_succ]
  refine heldTake 13 (some 14) (.int .i64 re) rfl rfl (by kernel_rfl) (by kernel_rfl) (by kernel_rfl) (fun _ _ _ h => h) (Or.inl ⟨by rfl, fun w hS => ?_⟩) HS4.out ?_
  · (go_simp)
  simp only [Act.put, List.setIfInBounds_toArray, List.set_cons_zero, List.set_cons_succ]
  refine wpAnyH_done (by kernel_rfl) ?_ _
  go_wp2
  go_ret
  exact ⟨rfl, HF.out.ps (by omega)⟩
end
end Go.Proofs.YtcfninpokngmlaaGreatDoor
