/- Proved: what a database's take makes of it, on any disk. -/
import Derived.Test.YtcfninpokngmlaaGreatDoorM11
import Derived.LaidEqlPtr
namespace Pd
def takeA (d : Db) (tm : Mp) : Db × Int := if Wl.room d.l < ((12 + 516 * tm.length : Nat) : Int) then setT d else (d, 0)
def takeT (d : Db) (tm : Mp) (t : Stt) : Db × Int :=
  if (takeA d tm).2 = 0 then
    if Wl.addE (takeA d tm).1.l (recText d.n tm) = 0 then
      if Wl.sycE (Wl.addS (takeA d tm).1.l (recText d.n tm)) (takeA d tm).1.s = 0 then ({ (takeA d tm).1 with st := t, m := copy (takeA d tm).1.m tm, l := Wl.sycL (Wl.addS (takeA d tm).1.l (recText d.n tm)) (takeA d tm).1.s, s := Wl.sycS (Wl.addS (takeA d tm).1.l (recText d.n tm)) (takeA d tm).1.s }, 0)
      else ({ (takeA d tm).1 with l := Wl.sycL (Wl.addS (takeA d tm).1.l (recText d.n tm)) (takeA d tm).1.s, s := Wl.sycS (Wl.addS (takeA d tm).1.l (recText d.n tm)) (takeA d tm).1.s }, Wl.sycE (Wl.addS (takeA d tm).1.l (recText d.n tm)) (takeA d tm).1.s)
    else ({ (takeA d tm).1 with l := Wl.addS (takeA d tm).1.l (recText d.n tm) }, Wl.addE (takeA d tm).1.l (recText d.n tm))
  else takeA d tm
theorem setT_n (d : Db) : (setT d).1.n = d.n ∧ (setT d).1.cnt = d.cnt ∧ (setT d).1.st = d.st ∧ (setT d).1.lost = d.lost ∧ ((setT d).1.m = d.m ∨ (setT d).1.m = []) := by
  unfold setT
  split
  · exact ⟨rfl, rfl, rfl, rfl, .inl rfl⟩
  · split
    · split
      · exact ⟨rfl, rfl, rfl, rfl, .inr rfl⟩
      · exact ⟨rfl, rfl, rfl, rfl, .inl rfl⟩
    · exact ⟨rfl, rfl, rfl, rfl, .inl rfl⟩
theorem takeA_n (d : Db) (tm : Mp) : (takeA d tm).1.n = d.n ∧ (takeA d tm).1.cnt = d.cnt ∧ (takeA d tm).1.st = d.st ∧ (takeA d tm).1.lost = d.lost ∧ ((takeA d tm).1.m = d.m ∨ (takeA d tm).1.m = []) := by
  unfold takeA
  split
  · exact setT_n d
  · exact ⟨rfl, rfl, rfl, rfl, .inl rfl⟩
end Pd
namespace Go.Proofs.YtcfninpokngmlaaGreatDoor
open Go.RowKit
theorem DDoes.below {w w1 w' : World} {A : Ad} {op : Value} {d : Pd.Db} {n : Int} {e : Ending} (h : DDoes w1 A op d n e w') (hB : Below w.heap.size w w1) : DDoes w A op d n e w' := by
  obtain ⟨vr, vw, vp, h1, h2, h3⟩ := h
  exact ⟨vr, vw, vp, h1, h2, (Turn.of_below hB).trans h3⟩
set_option maxHeartbeats 8000000 in
set_option maxRecDepth 100000 in
theorem dtake_any (A : Ad) (op : Value) (d : Pd.Db) (bt : Nat) (tm : Pd.Mp) (t : Pd.Stt) (w : World) (H : Dbw w A op d) (hM : MpAt w bt tm) (hbt : bt ∉ A.ft) (hF : Pd.Fine d.cnt d.m) (hFt : Pd.Fine d.cnt tm) (hc : d.cnt ≤ 1000) (hn : d.n ≤ 65536)
    (h1 : d.s.dn + 8 * d.m.length + 10 ≤ 80000) (h2 : d.s.pend.length + 8 * d.m.length + 10 ≤ 18000) (h3 : (Pd.takeA d tm).1.s.dn + (Pd.takeA d tm).1.l.n ≤ 90000) (h4 : (Pd.takeA d tm).1.s.pend.length + (Pd.takeA d tm).1.l.n ≤ 19000)
    (htl : (Pd.takeA d tm).2 = 0 → Wl.addE (Pd.takeA d tm).1.l (Pd.recText d.n tm) = 0 → (Pd.takeA d tm).1.s.down = false ∧ ∀ j, j < (Pd.takeA d tm).1.l.bytes.size % 64 → (Sc.now (Pd.takeA d tm).1.s ((Pd.takeA d tm).1.l.base + 1 + (Pd.takeA d tm).1.l.bytes.size / 64)).data.toList[j]? = (Pd.takeA d tm).1.l.bytes.data.toList[64 * ((Pd.takeA d tm).1.l.bytes.size / 64) + j]?) :
    Calls Tryz.prog 68 #[ptr A.x, .map (some bt), stV t] w (DDoes w A op (Pd.takeT d tm t).1 (Pd.takeT d tm t).2) := by
  have hml := Pd.fine_length H.mp.up hF
  have html := Pd.fine_length hM.up hFt
  have hsz := Pd.recText_size (n := d.n) hFt
  have HH : Hid (Dbw w A op d) := H
  have HM : Hid (MpAt w bt tm ∧ bt ∉ A.ft ∧ Pd.Fine d.cnt tm ∧ Pd.Fine d.cnt d.m) := ⟨hM, hbt, hFt, hF⟩
  have HB0 : Hid (Below w.heap.size w (w.alloc (.cells (stA t) 58))) := (Below.refl _ _).alloc (Nat.le_refl _) _
  have HR0 : Hid ((w.alloc (.cells (stA t) 58)).heap[w.heap.size]? = some (.cells (stA t) 58 (0, 0))) := heap_alloc_new w _
  have HTL : Hid ((Pd.takeA d tm).2 = 0 → Wl.addE (Pd.takeA d tm).1.l (Pd.recText d.n tm) = 0 → (Pd.takeA d tm).1.s.down = false ∧ ∀ j, j < (Pd.takeA d tm).1.l.bytes.size % 64 → (Sc.now (Pd.takeA d tm).1.s ((Pd.takeA d tm).1.l.base + 1 + (Pd.takeA d tm).1.l.bytes.size / 64)).data.toList[j]? = (Pd.takeA d tm).1.l.bytes.data.toList[64 * ((Pd.takeA d tm).1.l.bytes.size / 64) + j]?) := htl
  have HTT : Hid (Pd.takeT d tm t = if (Pd.takeA d tm).2 = 0 then
    if Wl.addE (Pd.takeA d tm).1.l (Pd.recText d.n tm) = 0 then
      if Wl.sycE (Wl.addS (Pd.takeA d tm).1.l (Pd.recText d.n tm)) (Pd.takeA d tm).1.s = 0 then ({ (Pd.takeA d tm).1 with st := t, m := Pd.copy (Pd.takeA d tm).1.m tm, l := Wl.sycL (Wl.addS (Pd.takeA d tm).1.l (Pd.recText d.n tm)) (Pd.takeA d tm).1.s, s := Wl.sycS (Wl.addS (Pd.takeA d tm).1.l (Pd.recText d.n tm)) (Pd.takeA d tm).1.s }, 0)
      else ({ (Pd.takeA d tm).1 with l := Wl.sycL (Wl.addS (Pd.takeA d tm).1.l (Pd.recText d.n tm)) (Pd.takeA d tm).1.s, s := Wl.sycS (Wl.addS (Pd.takeA d tm).1.l (Pd.recText d.n tm)) (Pd.takeA d tm).1.s }, Wl.sycE (Wl.addS (Pd.takeA d tm).1.l (Pd.recText d.n tm)) (Pd.takeA d tm).1.s)
    else ({ (Pd.takeA d tm).1 with l := Wl.addS (Pd.takeA d tm).1.l (Pd.recText d.n tm) }, Wl.addE (Pd.takeA d tm).1.l (Pd.recText d.n tm))
  else Pd.takeA d tm) := rfl
  have HTA : Hid (Pd.takeA d tm = if Wl.room d.l < ((12 + 516 * tm.length : Nat) : Int) then Pd.setT d else (d, 0)) := rfl
  obtain ⟨n1, n2, n3, n4, n5⟩ := Pd.takeA_n d tm
  have HN : Hid ((Pd.takeA d tm).1.n = d.n ∧ (Pd.takeA d tm).1.cnt = d.cnt ∧ ((Pd.takeA d tm).1.m = d.m ∨ (Pd.takeA d tm).1.m = [])) := ⟨n1, n2, n5⟩
  have HRS := rsize_any tm.length
  have HSZ : Hid ((Pd.recText d.n tm).size = 4 + 516 * tm.length) := hsz
  clear H hM hbt hF hFt htl n1 n2 n3 n4 n5 hsz
  change Calls Tryz.prog 68 #[.pointer (some ⟨A.x, 0, none⟩), .map (some bt), .agg (stA t)] w _
  unfold stA at *
  go_enter Tryz.func68, Tryz.ntmps68
  go_wp2_with fail
  generalize hw0 : World.alloc w _ = w0 at *
  clear hw0
  have HD0 : Hid (Dbw w0 A op d) := HH.out.below HB0.out
  have HM0 : Hid (MpAt w0 bt tm) := HM.out.1.below HB0.out
  have HS : Hid ((fun U : World => MpAt U bt tm ∧ U.cell? ⟨A.x, 1, none⟩ = some (.pointer (some ⟨A.q, 0, none⟩))) w0.drew) := ⟨HM0.out.keep rfl, HD0.out.drew.c1⟩
  refine wp_region_held_drew (S := fun U : World => MpAt U bt tm ∧ U.cell? ⟨A.x, 1, none⟩ = some (.pointer (some ⟨A.q, 0, none⟩))) (by kernel_rfl) HS.out (fun _ => ?_)
  refine heldTake 0 (some 10) (.map (some bt)) rfl rfl (by kernel_rfl) (by kernel_rfl) (by kernel_rfl) (fun _ _ _ h => h) (Or.inl ⟨by rfl, fun w hS => ?_⟩) HS.out ?_
  · (go_simp)
  simp only [Act.put, List.setIfInBounds_toArray, List.set_cons_zero, List.set_cons_succ]
  refine heldTake 1 (some 11) (.int .i64 (tm.length : Int)) rfl rfl (by kernel_rfl) (by kernel_rfl) (by kernel_rfl) (fun _ _ _ h => h) (Or.inl ⟨by rfl, fun w hS => ?_⟩) HS.out ?_
  · (obtain ⟨p0, p1⟩ := hS; have hl9 := fun ty => p0.own.len Tryz.underlying59 ty; rw [size_dM] at hl9; go_simp)
  simp only [Act.put, List.setIfInBounds_toArray, List.set_cons_zero, List.set_cons_succ]
  refine heldTake 4 (some 14) (.pointer (some ⟨A.x, 0, none⟩)) rfl rfl (by kernel_rfl) (by kernel_rfl) (by kernel_rfl) (fun _ _ _ h => h) (Or.inl ⟨by rfl, fun w hS => ?_⟩) HS.out ?_
  · (go_simp)
  simp only [Act.put, List.setIfInBounds_toArray, List.set_cons_zero, List.set_cons_succ]
  refine heldTake 5 (some 15) (.pointer (some ⟨A.x, 0, none⟩)) rfl rfl (by kernel_rfl) (by kernel_rfl) (by kernel_rfl) (fun _ _ _ h => h) (Or.inl ⟨by rfl, fun w hS => ?_⟩) HS.out ?_
  · (go_simp)
  simp only [Act.put, List.setIfInBounds_toArray, List.set_cons_zero, List.set_cons_succ]
  refine heldTake 6 (some 16) (.pointer (some ⟨A.x, 1, none⟩)) rfl rfl (by kernel_rfl) (by kernel_rfl) (by kernel_rfl) (fun _ _ _ h => h) (Or.inl ⟨by rfl, fun w hS => ?_⟩) HS.out ?_
  · (go_simp)
  simp only [Act.put, List.setIfInBounds_toArray, List.set_cons_zero, List.set_cons_succ]
  refine heldTake 7 (some 17) (.pointer (some ⟨A.q, 0, none⟩)) rfl rfl (by kernel_rfl) (by kernel_rfl) (by kernel_rfl) (fun _ _ _ h => h) (Or.inl ⟨by rfl, fun w hS => ?_⟩) HS.out ?_
  · (obtain ⟨p0, p1⟩ := hS; go_simp)
  simp only [Act.put, List.setIfInBounds_toArray, List.set_cons_zero, List.set_cons_succ]
  refine heldOne 2 (by kernel_rfl) rfl (by rfl) (fun KK hK => ?_)
  go_simp
  go_at_call 91
  refine (HRS w0.drew (by omega)).mono ?_
  rintro e wS ⟨rfl, hwS⟩
  rw [hwS]
  clear hwS wS HRS
  refine hK.out _ _ HS.out ?_
  clear hK KK
  refine heldTake 3 (some 13) (.int .i64 ((12 + 516 * tm.length : Nat) : Int)) rfl rfl (by kernel_rfl) (by kernel_rfl) (by kernel_rfl) (fun _ _ _ h => h) (Or.inl ⟨by rfl, fun w hS => ?_⟩) HS.out ?_
  · (go_simp; rw [IntKind.wrap_i64]; omega)
  simp only [Act.put, List.setIfInBounds_toArray, List.set_cons_zero, List.set_cons_succ]
  refine heldOne 8 (by kernel_rfl) rfl (by rfl) (fun KK hK => ?_)
  go_simp
  go_at_call 92
  refine (show Calls _ _ _ _ _ from lroom_any A.q A.g A.vr A.vw d.l w0.drew HD0.out.drew.lp.pk).mono ?_
  rintro e wS ⟨rfl, nq, hwS⟩
  have HD1 : Hid (Dbw wS A op d) := by show Dbw wS A op d; rw [hwS]; exact HD0.out.drew.drewN nq
  have HB1 : Hid (Below w.heap.size w wS) := by show Below _ _ _; rw [hwS]; exact ⟨HB0.out.os, HB0.out.tape, HB0.out.output, HB0.out.size, HB0.out.block⟩
  have HM1 : Hid (MpAt wS bt tm) := by show MpAt _ _ _; rw [hwS]; exact HM0.out.keep rfl
  have HR1 : Hid (wS.heap[w.heap.size]? = some (.cells #[.int .i64 (t.high : Int), .int .i64 (t.free : Int), .int .i64 (t.last : Int), .int .i64 (t.r0 : Int), .int .i64 (t.r1 : Int), .int .i64 (t.r2 : Int), .int .i64 (t.r3 : Int)] 58 (0, 0))) := by show _ = _; rw [hwS]; exact HR0.out
  have HS1 : Hid ((fun U : World => MpAt U bt tm ∧ U.cell? ⟨A.x, 1, none⟩ = some (.pointer (some ⟨A.q, 0, none⟩))) wS) := ⟨HM1.out, HD1.out.c1⟩
  clear hwS HD0 HB0 HM0 HR0 HS
  refine hK.out _ _ HS1.out ?_
  clear hK KK
  refine heldTake 9 (some 19) (.bool (decide (Wl.room d.l < ((12 + 516 * tm.length : Nat) : Int)))) rfl rfl (by kernel_rfl) (by kernel_rfl) (by kernel_rfl) (fun _ _ _ h => h) (Or.inl ⟨by rfl, fun w hS => ?_⟩) HS1.out ?_
  · (go_simp)
  simp only [Act.put, List.setIfInBounds_toArray, List.set_cons_zero, List.set_cons_succ]
  refine wpAnyH_done (by kernel_rfl) ?_ _
  clear HS1
  by_cases hroom : Wl.room d.l < ((12 + 516 * tm.length : Nat) : Int)
  · have dr : decide (Wl.room d.l < ((12 + 516 * tm.length : Nat) : Int)) = true := decide_eq_true hroom
    rw [dr]
    rw [if_pos hroom] at HTA
    clear dr hroom
    have HST : Hid (Calls Tryz.prog 57 #[.pointer (some ⟨A.x, 0, none⟩)] wS (DDoes wS A op (Pd.setT d).1 (Pd.setT d).2)) := settle_any A op d wS HD1.out HM.out.2.2.2 hc (by omega) (by omega) (by omega) (by omega)
    rw [← HTA.out] at HST
    go_wp2_with fail
    refine HST.out.mono ?_
    rintro e w2 ⟨vr, vw, vp, rfl, hD2, hT2⟩
    have HD2 : Hid (Dbw w2 (A.to vr vw vp) op (Pd.takeA d tm).1) := hD2
    have HT2 : Hid (Turn A.ft (A.to vr vw vp).ft w w2) := (Turn.of_below HB1.out).trans hT2
    have HM2 : Hid (MpAt w2 bt tm) := HM1.out.chg hT2.chg HM.out.2.1
    have HR2 : Hid (w2.heap[w.heap.size]? = some (.cells #[.int .i64 (t.high : Int), .int .i64 (t.free : Int), .int .i64 (t.last : Int), .int .i64 (t.r0 : Int), .int .i64 (t.r1 : Int), .int .i64 (t.r2 : Int), .int .i64 (t.r3 : Int)] 58 (0, 0))) := heap_turn HR1.out hT2 (fun hm => by have := HH.out.lt _ hm; omega)
    have HT2p : Hid (w.heap.size ∉ (A.to vr vw vp).ft ∧ bt ∉ (A.to vr vw vp).ft) := ⟨hT2.apart (rs := [w.heap.size]) (fun k hk => by rw [List.mem_singleton.1 hk]; intro hm; have := HH.out.lt _ hm; omega) (fun k hk => by rw [List.mem_singleton.1 hk]; exact (Array.getElem?_eq_some_iff.1 HR1.out).1) _ List.mem_cons_self, hT2.apart (rs := [bt]) (fun k hk => by rw [List.mem_singleton.1 hk]; exact HM.out.2.1) (fun k hk => by rw [List.mem_singleton.1 hk]; exact HM1.out.lt) _ List.mem_cons_self⟩
    clear hD2 hT2 HST HD1 HB1 HM1 HR1
    by_cases hz : (Pd.takeA d tm).2 = 0
    · have HLN : Hid (w.heap.size ∉ (A.to vr vw vp).ft) := HT2p.out.1
      have HLB : Hid (bt ∉ (A.to vr vw vp).ft) := HT2p.out.2
      clear HT2p
      rw [if_pos hz] at HTT
      have HTL2 := (show Hid _ from HTL.out hz)
      clear HTL
      generalize hd1 : (Pd.takeA d tm).1 = d1 at *
      clear hd1
      obtain ⟨hn1, hn2, hn3⟩ := HN.out
      have c1 : w2.cell? ⟨A.x, 1, none⟩ = some (.pointer (some ⟨A.q, 0, none⟩)) := HD2.out.c1
      have c2 : w2.cell? ⟨A.x, 2, none⟩ = some (.int .i64 (d.n : Int)) := by rw [← hn1]; exact HD2.out.c2
      have HS : Hid ((fun U : World => U.cell? ⟨A.x, 1, none⟩ = some (.pointer (some ⟨A.q, 0, none⟩)) ∧ U.cell? ⟨A.x, 2, none⟩ = some (.int .i64 (d.n : Int))) w2) := ⟨c1, c2⟩
      have HRT : Hid (Calls Tryz.prog 94 #[.int .i64 (d.n : Int), .map (some bt)] w2.drew fun e w' => e = .returned (.string (Pd.recText d.n tm)) ∧ Below w2.drew.heap.size w2.drew w') := rtext_any d.n bt d.cnt tm w2.drew (HM2.out.keep rfl) HM.out.2.2.1 hc (by omega) HD2.out.drew.tab
      have hsz := HSZ.out
      clear c1 c2
      go_wp2_with fail
      clear hz
      refine wp_region_held_drew (S := (fun U : World => U.cell? ⟨A.x, 1, none⟩ = some (.pointer (some ⟨A.q, 0, none⟩)) ∧ U.cell? ⟨A.x, 2, none⟩ = some (.int .i64 (d.n : Int)))) (by kernel_rfl) HS.out (fun _ => ?_)
      refine heldTake 0 (some 25) (.pointer (some ⟨A.x, 0, none⟩)) rfl rfl (by kernel_rfl) (by kernel_rfl) (by kernel_rfl) (fun _ _ _ h => h) (Or.inl ⟨by rfl, fun w hS => ?_⟩) HS.out ?_
      · (go_simp)
      simp only [Act.put, List.setIfInBounds_toArray, List.set_cons_zero, List.set_cons_succ]
      refine heldTake 1 (some 26) (.pointer (some ⟨A.x, 0, none⟩)) rfl rfl (by kernel_rfl) (by kernel_rfl) (by kernel_rfl) (fun _ _ _ h => h) (Or.inl ⟨by rfl, fun w hS => ?_⟩) HS.out ?_
      · (go_simp)
      simp only [Act.put, List.setIfInBounds_toArray, List.set_cons_zero, List.set_cons_succ]
      refine heldTake 2 (some 27) (.pointer (some ⟨A.x, 1, none⟩)) rfl rfl (by kernel_rfl) (by kernel_rfl) (by kernel_rfl) (fun _ _ _ h => h) (Or.inl ⟨by rfl, fun w hS => ?_⟩) HS.out ?_
      · (go_simp)
      simp only [Act.put, List.setIfInBounds_toArray, List.set_cons_zero, List.set_cons_succ]
      refine heldTake 3 (some 28) (.pointer (some ⟨A.q, 0, none⟩)) rfl rfl (by kernel_rfl) (by kernel_rfl) (by kernel_rfl) (fun _ _ _ h => h) (Or.inl ⟨by rfl, fun w hS => ?_⟩) HS.out ?_
      · (obtain ⟨p0, p1⟩ := hS; go_simp)
      simp only [Act.put, List.setIfInBounds_toArray, List.set_cons_zero, List.set_cons_succ]
      refine heldTake 4 (some 29) (.pointer (some ⟨A.x, 0, none⟩)) rfl rfl (by kernel_rfl) (by kernel_rfl) (by kernel_rfl) (fun _ _ _ h => h) (Or.inl ⟨by rfl, fun w hS => ?_⟩) HS.out ?_
      · (go_simp)
      simp only [Act.put, List.setIfInBounds_toArray, List.set_cons_zero, List.set_cons_succ]
      refine heldTake 5 (some 30) (.pointer (some ⟨A.x, 0, none⟩)) rfl rfl (by kernel_rfl) (by kernel_rfl) (by kernel_rfl) (fun _ _ _ h => h) (Or.inl ⟨by rfl, fun w hS => ?_⟩) HS.out ?_
      · (go_simp)
      simp only [Act.put, List.setIfInBounds_toArray, List.set_cons_zero, List.set_cons_succ]
      refine heldTake 6 (some 31) (.pointer (some ⟨A.x, 2, none⟩)) rfl rfl (by kernel_rfl) (by kernel_rfl) (by kernel_rfl) (fun _ _ _ h => h) (Or.inl ⟨by rfl, fun w hS => ?_⟩) HS.out ?_
      · (go_simp)
      simp only [Act.put, List.setIfInBounds_toArray, List.set_cons_zero, List.set_cons_succ]
      refine heldTake 7 (some 32) (.int .i64 (d.n : Int)) rfl rfl (by kernel_rfl) (by kernel_rfl) (by kernel_rfl) (fun _ _ _ h => h) (Or.inl ⟨by rfl, fun w hS => ?_⟩) HS.out ?_
      · (obtain ⟨p0, p1⟩ := hS; go_simp)
      simp only [Act.put, List.setIfInBounds_toArray, List.set_cons_zero, List.set_cons_succ]
      refine heldTake 8 (some 33) (.map (some bt)) rfl rfl (by kernel_rfl) (by kernel_rfl) (by kernel_rfl) (fun _ _ _ h => h) (Or.inl ⟨by rfl, fun w hS => ?_⟩) HS.out ?_
      · (go_simp)
      simp only [Act.put, List.setIfInBounds_toArray, List.set_cons_zero, List.set_cons_succ]
      refine heldOne 9 (by kernel_rfl) rfl (by rfl) (fun KK hK => ?_)
      go_simp
      go_at_call 94
      refine HRT.out.mono ?_
      rintro e w3 ⟨rfl, hB3⟩
      have hB3' := below_drew hB3
      have HD3 : Hid (Dbw w3 (A.to vr vw vp) op d1) := HD2.out.below hB3'
      have HT3 : Hid (Turn A.ft (A.to vr vw vp).ft w w3) := HT2.out.trans (Turn.of_below hB3')
      have HM3 : Hid (MpAt w3 bt tm) := HM2.out.below hB3'
      have HR3 : Hid (w3.heap[w.heap.size]? = some (.cells #[.int .i64 (t.high : Int), .int .i64 (t.free : Int), .int .i64 (t.last : Int), .int .i64 (t.r0 : Int), .int .i64 (t.r1 : Int), .int .i64 (t.r2 : Int), .int .i64 (t.r3 : Int)] 58 (0, 0))) := heap_next HR2.out hB3'
      have HS3 : Hid ((fun U : World => U.cell? ⟨A.x, 1, none⟩ = some (.pointer (some ⟨A.q, 0, none⟩)) ∧ U.cell? ⟨A.x, 2, none⟩ = some (.int .i64 (d.n : Int))) w3) := ⟨HD3.out.c1, by rw [← hn1]; exact HD3.out.c2⟩
      have HLF : Hid (w.heap.size ∉ (A.to vr vw vp).ft ∧ bt ∉ (A.to vr vw vp).ft) := ⟨HLN.out, HLB.out⟩
      clear hB3 hB3' HRT HD2 HT2 HM2 HR2 HS HLN HLB
      refine hK.out _ _ HS3.out ?_
      clear hK KK
      generalize hX : Pd.recText d.n tm = X at *
      clear hX
      have HAD : Hid (Calls Tryz.prog 93 #[.pointer (some ⟨A.q, 0, none⟩), .string X] w3 (PDoes w3 A.q A.g vr vw (Wl.addS d1.l X) (Wl.addE d1.l X))) := ladd_any A.q A.g vr vw d1.l X w3 HD3.out.lp.pk (by omega)
      obtain ⟨b1, b2, b3, b4, b5, b6⟩ := Wl.addS_base d1.l X
      have HBS : Hid ((Wl.addS d1.l X).base = d1.l.base ∧ (Wl.addS d1.l X).n = d1.l.n ∧ (Wl.addS d1.l X).bytes = d1.l.bytes) := ⟨b1, b2, b4⟩
      clear b1 b2 b3 b4 b5 b6
      generalize hl2 : Wl.addS d1.l X = l2 at *
      clear hl2
      generalize he2 : Wl.addE d1.l X = e2 at *
      clear he2
      refine heldOne 10 (by kernel_rfl) rfl (by rfl) (fun KK hK => ?_)
      go_simp
      go_at_call 93
      refine HAD.out.mono ?_
      rintro e w4 ⟨vr4, vw4, rfl, hP4, hT4⟩
      obtain ⟨hL4, hTL4⟩ := HD3.out.lp.p hP4 hT4 HBS.out.1 HBS.out.2.1
      obtain ⟨hD4, hTD4⟩ := HD3.out.turn (vr := vr4) (vw := vw4) (vp := vp) hL4 hTL4
      have HD4 : Hid (Dbw w4 (A.to vr4 vw4 vp) op { d1 with l := l2 }) := hD4
      have HT4 : Hid (Turn A.ft (A.to vr4 vw4 vp).ft w w4) := HT3.out.trans hTD4
      have HM4 : Hid (MpAt w4 bt tm) := HM3.out.chg hTD4.chg HLF.out.2
      have HR4 : Hid (w4.heap[w.heap.size]? = some (.cells #[.int .i64 (t.high : Int), .int .i64 (t.free : Int), .int .i64 (t.last : Int), .int .i64 (t.r0 : Int), .int .i64 (t.r1 : Int), .int .i64 (t.r2 : Int), .int .i64 (t.r3 : Int)] 58 (0, 0))) := heap_turn HR3.out hTD4 HLF.out.1
      have HLF4 : Hid (w.heap.size ∉ (A.to vr4 vw4 vp).ft ∧ bt ∉ (A.to vr4 vw4 vp).ft) := ⟨hTD4.apart (rs := [w.heap.size]) (fun k hk => by rw [List.mem_singleton.1 hk]; exact HLF.out.1) (fun k hk => by rw [List.mem_singleton.1 hk]; exact (Array.getElem?_eq_some_iff.1 HR3.out).1) _ List.mem_cons_self, hTD4.apart (rs := [bt]) (fun k hk => by rw [List.mem_singleton.1 hk]; exact HLF.out.2) (fun k hk => by rw [List.mem_singleton.1 hk]; exact HM3.out.lt) _ List.mem_cons_self⟩
      have HS4 : Hid ((fun U : World => U.cell? ⟨A.x, 1, none⟩ = some (.pointer (some ⟨A.q, 0, none⟩)) ∧ U.cell? ⟨A.x, 2, none⟩ = some (.int .i64 (d.n : Int))) w4) := ⟨hD4.c1, by rw [← hn1]; exact hD4.c2⟩
      clear hP4 hT4 hL4 hTL4 hD4 hTD4 HAD HD3 HT3 HM3 HR3 HS3 HLF
      refine hK.out _ _ HS4.out ?_
      clear hK KK
      refine heldTake 11 (some 8) (.int .i64 e2) rfl rfl (by kernel_rfl) (by kernel_rfl) (by kernel_rfl) (fun _ _ _ h => h) (Or.inl ⟨by rfl, fun w hS => ?_⟩) HS4.out ?_
      · (go_simp)
      simp only [Act.put, List.setIfInBounds_toArray, List.set_cons_zero, List.set_cons_succ]
      refine wpAnyH_done (by kernel_rfl) ?_ _
      clear HS4
      by_cases hz2 : e2 = 0
      · subst hz2
        rw [if_pos rfl] at HTT
        have htl := HTL2.out rfl
        have HSY : Hid (Calls Tryz.prog 95 #[.pointer (some ⟨A.q, 0, none⟩)] w4 (LDoes w4 A.q A.g vr4 vw4 A.kg vp (Wl.sycL l2 d1.s) (Wl.sycS l2 d1.s) (Wl.sycE l2 d1.s))) := lsync_any A.q A.g vr4 vw4 l2 A.kg vp d1.s w4 HD4.out.lp (HD4.out.safe.of (fun k hk => (A.to vr4 vw4 vp).ml hk)) (fun _ _ => ⟨htl.1, by rw [HBS.out.1, HBS.out.2.2]; exact htl.2⟩) (by rw [HBS.out.2.1]; omega) (by rw [HBS.out.2.1]; omega)
        have c1 : w4.cell? ⟨A.x, 1, none⟩ = some (.pointer (some ⟨A.q, 0, none⟩)) := HD4.out.c1
        clear htl HTL2
        generalize hl3 : Wl.sycL l2 d1.s = l3 at *
        clear hl3
        generalize hs3 : Wl.sycS l2 d1.s = s3 at *
        clear hs3
        generalize he3 : Wl.sycE l2 d1.s = e3 at *
        clear he3
        go_wp2_with fail
        refine HSY.out.mono ?_
        rintro e w5 ⟨vr5, vw5, vp5, rfl, hL5, hT5⟩
        obtain ⟨hD5, hTD5⟩ := HD4.out.turn (vr := vr5) (vw := vw5) (vp := vp5) hL5 hT5
        have HD5 : Hid (Dbw w5 (A.to vr5 vw5 vp5) op { d1 with l := l3, s := s3 }) := hD5
        have HT5 : Hid (Turn A.ft (A.to vr5 vw5 vp5).ft w w5) := HT4.out.trans hTD5
        have HM5 : Hid (MpAt w5 bt tm) := HM4.out.chg hTD5.chg HLF4.out.2
        have HR5 : Hid (w5.heap[w.heap.size]? = some (.cells #[.int .i64 (t.high : Int), .int .i64 (t.free : Int), .int .i64 (t.last : Int), .int .i64 (t.r0 : Int), .int .i64 (t.r1 : Int), .int .i64 (t.r2 : Int), .int .i64 (t.r3 : Int)] 58 (0, 0))) := heap_turn HR4.out hTD5 HLF4.out.1
        have HLF5 : Hid (w.heap.size ∉ (A.to vr5 vw5 vp5).ft ∧ bt ∉ (A.to vr5 vw5 vp5).ft) := ⟨hTD5.apart (rs := [w.heap.size]) (fun k hk => by rw [List.mem_singleton.1 hk]; exact HLF4.out.1) (fun k hk => by rw [List.mem_singleton.1 hk]; exact (Array.getElem?_eq_some_iff.1 HR4.out).1) _ List.mem_cons_self, hTD5.apart (rs := [bt]) (fun k hk => by rw [List.mem_singleton.1 hk]; exact HLF4.out.2) (fun k hk => by rw [List.mem_singleton.1 hk]; exact HM4.out.lt) _ List.mem_cons_self⟩
        clear hL5 hT5 hD5 hTD5 HSY HD4 HT4 HM4 HR4 HLF4 c1
        by_cases hz3 : e3 = 0
        · subst hz3
          rw [if_pos rfl] at HTT
          have c11 : w5.cell? ⟨A.x, 11, none⟩ = some (.map (some A.b)) := HD5.out.c11
          have hdl : d1.m.length + tm.length ≤ 100000 := by
            rcases hn3 with e | e
            · rw [e]; omega
            · rw [e]; simp; omega
          go_wp2_with fail
          refine (show Calls _ _ _ _ _ from mcopy_any A.b bt d1.m tm w5 HD5.out.mp HM5.out (fun e => HLF5.out.2 (by rw [← e]; exact (A.to vr5 vw5 vp5).mb)) hdl (fun p hp => by have := (HM.out.2.2.1 p hp).1; omega)).mono ?_
          rintro e w6 ⟨rfl, hM6, hg6⟩
          obtain ⟨hD6, hTD6⟩ := HD5.out.map hM6 hg6
          have HD6 : Hid (Dbw w6 (A.to vr5 vw5 vp5) op { d1 with m := Pd.copy d1.m tm, l := l3, s := s3 }) := hD6
          have HT6 : Hid (Turn A.ft (A.to vr5 vw5 vp5).ft w w6) := HT5.out.trans hTD6
          have HR6 : Hid (w6.heap[w.heap.size]? = some (.cells #[.int .i64 (t.high : Int), .int .i64 (t.free : Int), .int .i64 (t.last : Int), .int .i64 (t.r0 : Int), .int .i64 (t.r1 : Int), .int .i64 (t.r2 : Int), .int .i64 (t.r3 : Int)] 58 (0, 0))) := heap_turn HR5.out hTD6 HLF5.out.1
          clear hM6 hg6 hD6 hTD6 HD5 HT5 HM5 HR5 HLF5 c11 hdl
          have c4 : w6.cell? ⟨A.x, 4, none⟩ = some (.int .i64 (d1.st.high : Int)) := HD6.out.c4
          have f4 : w6.frozen? ⟨A.x, 4, none⟩ = false := HD6.out.fz 4
          have c5 : w6.cell? ⟨A.x, 5, none⟩ = some (.int .i64 (d1.st.free : Int)) := HD6.out.c5
          have f5 : w6.frozen? ⟨A.x, 5, none⟩ = false := HD6.out.fz 5
          have c6 : w6.cell? ⟨A.x, 6, none⟩ = some (.int .i64 (d1.st.last : Int)) := HD6.out.c6
          have f6 : w6.frozen? ⟨A.x, 6, none⟩ = false := HD6.out.fz 6
          have c7 : w6.cell? ⟨A.x, 7, none⟩ = some (.int .i64 (d1.st.r0 : Int)) := HD6.out.c7
          have f7 : w6.frozen? ⟨A.x, 7, none⟩ = false := HD6.out.fz 7
          have c8 : w6.cell? ⟨A.x, 8, none⟩ = some (.int .i64 (d1.st.r1 : Int)) := HD6.out.c8
          have f8 : w6.frozen? ⟨A.x, 8, none⟩ = false := HD6.out.fz 8
          have c9 : w6.cell? ⟨A.x, 9, none⟩ = some (.int .i64 (d1.st.r2 : Int)) := HD6.out.c9
          have f9 : w6.frozen? ⟨A.x, 9, none⟩ = false := HD6.out.fz 9
          have c10 : w6.cell? ⟨A.x, 10, none⟩ = some (.int .i64 (d1.st.r3 : Int)) := HD6.out.c10
          have f10 : w6.frozen? ⟨A.x, 10, none⟩ = false := HD6.out.fz 10
          have s0 : w6.cell? ⟨w.heap.size, 0, none⟩ = some (.int .i64 (t.high : Int)) := cell_of_row _ _ _ _ _ (0, 0) HR6.out
          have s1 : w6.cell? ⟨w.heap.size, 1, none⟩ = some (.int .i64 (t.free : Int)) := cell_of_row _ _ _ _ _ (0, 0) HR6.out
          have s2 : w6.cell? ⟨w.heap.size, 2, none⟩ = some (.int .i64 (t.last : Int)) := cell_of_row _ _ _ _ _ (0, 0) HR6.out
          have s3 : w6.cell? ⟨w.heap.size, 3, none⟩ = some (.int .i64 (t.r0 : Int)) := cell_of_row _ _ _ _ _ (0, 0) HR6.out
          have s4 : w6.cell? ⟨w.heap.size, 4, none⟩ = some (.int .i64 (t.r1 : Int)) := cell_of_row _ _ _ _ _ (0, 0) HR6.out
          have s5 : w6.cell? ⟨w.heap.size, 5, none⟩ = some (.int .i64 (t.r2 : Int)) := cell_of_row _ _ _ _ _ (0, 0) HR6.out
          have s6 : w6.cell? ⟨w.heap.size, 6, none⟩ = some (.int .i64 (t.r3 : Int)) := cell_of_row _ _ _ _ _ (0, 0) HR6.out
          go_wp2
          go_ret
          obtain ⟨y1, y2⟩ := HD6.out.setSt t
          rw [HTT.out]
          exact ⟨vr5, vw5, vp5, rfl, y1, HT6.out.trans y2⟩
        · have hb : (e3 != 0) = true := by simp [hz3]
          rw [if_neg hz3] at HTT
          have HFN : Hid (DDoes w A op (Pd.takeT d tm t).1 (Pd.takeT d tm t).2 (.returned (.int .i64 e3)) w5) := by
            rw [HTT.out]
            exact ⟨vr5, vw5, vp5, rfl, HD5.out, HT5.out⟩
          go_wp2
          go_ret
          exact HFN.out
      · have hb : (e2 != 0) = true := by simp [hz2]
        rw [if_neg hz2] at HTT
        have HFN : Hid (DDoes w A op (Pd.takeT d tm t).1 (Pd.takeT d tm t).2 (.returned (.int .i64 e2)) w4) := by
          rw [HTT.out]
          exact ⟨vr4, vw4, vp, rfl, HD4.out, HT4.out⟩
        go_wp2
        go_ret
        exact HFN.out
    · have hb : ((Pd.takeA d tm).2 != 0) = true := by simp [hz]
      have HFN : Hid (DDoes w A op (Pd.takeT d tm t).1 (Pd.takeT d tm t).2 (.returned (.int .i64 (Pd.takeA d tm).2)) w2) := by
        rw [HTT.out, if_neg hz]
        exact ⟨vr, vw, vp, rfl, HD2.out, HT2.out⟩
      generalize (Pd.takeA d tm).2 = ee at *
      go_wp2
      go_ret
      exact HFN.out
  · have dr : decide (Wl.room d.l < ((12 + 516 * tm.length : Nat) : Int)) = false := decide_eq_false hroom
    rw [dr]
    rw [if_neg hroom] at HTA
    clear dr hroom
    have hz : (Pd.takeA d tm).2 = 0 := by rw [HTA.out]
    obtain ⟨vr, hvr⟩ : ∃ v, v = A.vr := ⟨_, rfl⟩
    obtain ⟨vw, hvw⟩ : ∃ v, v = A.vw := ⟨_, rfl⟩
    obtain ⟨vp, hvp⟩ : ∃ v, v = A.vp := ⟨_, rfl⟩
    have HTo : Hid (A.to vr vw vp = A) := by show _ = _; rw [hvr, hvw, hvp]; rfl
    clear hvr hvw hvp
    have HD2 : Hid (Dbw wS (A.to vr vw vp) op (Pd.takeA d tm).1) := by show Dbw _ _ _ _; rw [HTo.out, HTA.out]; exact HD1.out
    have HT2 : Hid (Turn A.ft (A.to vr vw vp).ft w wS) := by show Turn _ _ _ _; rw [HTo.out]; exact Turn.of_below HB1.out
    have HLN : Hid (w.heap.size ∉ (A.to vr vw vp).ft) := by show _ ∉ _; rw [HTo.out]; intro hm; have := HH.out.lt _ hm; omega
    have HLB : Hid (bt ∉ (A.to vr vw vp).ft) := by show _ ∉ _; rw [HTo.out]; exact HM.out.2.1
    have HM2 : Hid (MpAt wS bt tm) := HM1.out
    have HR2 := (show Hid _ from HR1.out)
    clear HD1 HB1 HM1 HR1 HTA HTo
    rw [if_pos hz] at HTT
    have HTL2 := (show Hid _ from HTL.out hz)
    clear HTL
    generalize hd1 : (Pd.takeA d tm).1 = d1 at *
    clear hd1
    obtain ⟨hn1, hn2, hn3⟩ := HN.out
    have c1 : wS.cell? ⟨A.x, 1, none⟩ = some (.pointer (some ⟨A.q, 0, none⟩)) := HD2.out.c1
    have c2 : wS.cell? ⟨A.x, 2, none⟩ = some (.int .i64 (d.n : Int)) := by rw [← hn1]; exact HD2.out.c2
    have HS : Hid ((fun U : World => U.cell? ⟨A.x, 1, none⟩ = some (.pointer (some ⟨A.q, 0, none⟩)) ∧ U.cell? ⟨A.x, 2, none⟩ = some (.int .i64 (d.n : Int))) wS) := ⟨c1, c2⟩
    have HRT : Hid (Calls Tryz.prog 94 #[.int .i64 (d.n : Int), .map (some bt)] wS.drew fun e w' => e = .returned (.string (Pd.recText d.n tm)) ∧ Below wS.drew.heap.size wS.drew w') := rtext_any d.n bt d.cnt tm wS.drew (HM2.out.keep rfl) HM.out.2.2.1 hc (by omega) HD2.out.drew.tab
    have hsz := HSZ.out
    clear c1 c2
    go_wp2_with fail
    clear hz
    refine wp_region_held_drew (S := (fun U : World => U.cell? ⟨A.x, 1, none⟩ = some (.pointer (some ⟨A.q, 0, none⟩)) ∧ U.cell? ⟨A.x, 2, none⟩ = some (.int .i64 (d.n : Int)))) (by kernel_rfl) HS.out (fun _ => ?_)
    refine heldTake 0 (some 25) (.pointer (some ⟨A.x, 0, none⟩)) rfl rfl (by kernel_rfl) (by kernel_rfl) (by kernel_rfl) (fun _ _ _ h => h) (Or.inl ⟨by rfl, fun w hS => ?_⟩) HS.out ?_
    · (go_simp)
    simp only [Act.put, List.setIfInBounds_toArray, List.set_cons_zero, List.set_cons_succ]
    refine heldTake 1 (some 26) (.pointer (some ⟨A.x, 0, none⟩)) rfl rfl (by kernel_rfl) (by kernel_rfl) (by kernel_rfl) (fun _ _ _ h => h) (Or.inl ⟨by rfl, fun w hS => ?_⟩) HS.out ?_
    · (go_simp)
    simp only [Act.put, List.setIfInBounds_toArray, List.set_cons_zero, List.set_cons_succ]
    refine heldTake 2 (some 27) (.pointer (some ⟨A.x, 1, none⟩)) rfl rfl (by kernel_rfl) (by kernel_rfl) (by kernel_rfl) (fun _ _ _ h => h) (Or.inl ⟨by rfl, fun w hS => ?_⟩) HS.out ?_
    · (go_simp)
    simp only [Act.put, List.setIfInBounds_toArray, List.set_cons_zero, List.set_cons_succ]
    refine heldTake 3 (some 28) (.pointer (some ⟨A.q, 0, none⟩)) rfl rfl (by kernel_rfl) (by kernel_rfl) (by kernel_rfl) (fun _ _ _ h => h) (Or.inl ⟨by rfl, fun w hS => ?_⟩) HS.out ?_
    · (obtain ⟨p0, p1⟩ := hS; go_simp)
    simp only [Act.put, List.setIfInBounds_toArray, List.set_cons_zero, List.set_cons_succ]
    refine heldTake 4 (some 29) (.pointer (some ⟨A.x, 0, none⟩)) rfl rfl (by kernel_rfl) (by kernel_rfl) (by kernel_rfl) (fun _ _ _ h => h) (Or.inl ⟨by rfl, fun w hS => ?_⟩) HS.out ?_
    · (go_simp)
    simp only [Act.put, List.setIfInBounds_toArray, List.set_cons_zero, List.set_cons_succ]
    refine heldTake 5 (some 30) (.pointer (some ⟨A.x, 0, none⟩)) rfl rfl (by kernel_rfl) (by kernel_rfl) (by kernel_rfl) (fun _ _ _ h => h) (Or.inl ⟨by rfl, fun w hS => ?_⟩) HS.out ?_
    · (go_simp)
    simp only [Act.put, List.setIfInBounds_toArray, List.set_cons_zero, List.set_cons_succ]
    refine heldTake 6 (some 31) (.pointer (some ⟨A.x, 2, none⟩)) rfl rfl (by kernel_rfl) (by kernel_rfl) (by kernel_rfl) (fun _ _ _ h => h) (Or.inl ⟨by rfl, fun w hS => ?_⟩) HS.out ?_
    · (go_simp)
    simp only [Act.put, List.setIfInBounds_toArray, List.set_cons_zero, List.set_cons_succ]
    refine heldTake 7 (some 32) (.int .i64 (d.n : Int)) rfl rfl (by kernel_rfl) (by kernel_rfl) (by kernel_rfl) (fun _ _ _ h => h) (Or.inl ⟨by rfl, fun w hS => ?_⟩) HS.out ?_
    · (obtain ⟨p0, p1⟩ := hS; go_simp)
    simp only [Act.put, List.setIfInBounds_toArray, List.set_cons_zero, List.set_cons_succ]
    refine heldTake 8 (some 33) (.map (some bt)) rfl rfl (by kernel_rfl) (by kernel_rfl) (by kernel_rfl) (fun _ _ _ h => h) (Or.inl ⟨by rfl, fun w hS => ?_⟩) HS.out ?_
    · (go_simp)
    simp only [Act.put, List.setIfInBounds_toArray, List.set_cons_zero, List.set_cons_succ]
    refine heldOne 9 (by kernel_rfl) rfl (by rfl) (fun KK hK => ?_)
    go_simp
    go_at_call 94
    refine HRT.out.mono ?_
    rintro e w3 ⟨rfl, hB3⟩
    have hB3' := below_drew hB3
    have HD3 : Hid (Dbw w3 (A.to vr vw vp) op d1) := HD2.out.below hB3'
    have HT3 : Hid (Turn A.ft (A.to vr vw vp).ft w w3) := HT2.out.trans (Turn.of_below hB3')
    have HM3 : Hid (MpAt w3 bt tm) := HM2.out.below hB3'
    have HR3 : Hid (w3.heap[w.heap.size]? = some (.cells #[.int .i64 (t.high : Int), .int .i64 (t.free : Int), .int .i64 (t.last : Int), .int .i64 (t.r0 : Int), .int .i64 (t.r1 : Int), .int .i64 (t.r2 : Int), .int .i64 (t.r3 : Int)] 58 (0, 0))) := heap_next HR2.out hB3'
    have HS3 : Hid ((fun U : World => U.cell? ⟨A.x, 1, none⟩ = some (.pointer (some ⟨A.q, 0, none⟩)) ∧ U.cell? ⟨A.x, 2, none⟩ = some (.int .i64 (d.n : Int))) w3) := ⟨HD3.out.c1, by rw [← hn1]; exact HD3.out.c2⟩
    have HLF : Hid (w.heap.size ∉ (A.to vr vw vp).ft ∧ bt ∉ (A.to vr vw vp).ft) := ⟨HLN.out, HLB.out⟩
    clear hB3 hB3' HRT HD2 HT2 HM2 HR2 HS HLN HLB
    refine hK.out _ _ HS3.out ?_
    clear hK KK
    generalize hX : Pd.recText d.n tm = X at *
    clear hX
    have HAD : Hid (Calls Tryz.prog 93 #[.pointer (some ⟨A.q, 0, none⟩), .string X] w3 (PDoes w3 A.q A.g vr vw (Wl.addS d1.l X) (Wl.addE d1.l X))) := ladd_any A.q A.g vr vw d1.l X w3 HD3.out.lp.pk (by omega)
    obtain ⟨b1, b2, b3, b4, b5, b6⟩ := Wl.addS_base d1.l X
    have HBS : Hid ((Wl.addS d1.l X).base = d1.l.base ∧ (Wl.addS d1.l X).n = d1.l.n ∧ (Wl.addS d1.l X).bytes = d1.l.bytes) := ⟨b1, b2, b4⟩
    clear b1 b2 b3 b4 b5 b6
    generalize hl2 : Wl.addS d1.l X = l2 at *
    clear hl2
    generalize he2 : Wl.addE d1.l X = e2 at *
    clear he2
    refine heldOne 10 (by kernel_rfl) rfl (by rfl) (fun KK hK => ?_)
    go_simp
    go_at_call 93
    refine HAD.out.mono ?_
    rintro e w4 ⟨vr4, vw4, rfl, hP4, hT4⟩
    obtain ⟨hL4, hTL4⟩ := HD3.out.lp.p hP4 hT4 HBS.out.1 HBS.out.2.1
    obtain ⟨hD4, hTD4⟩ := HD3.out.turn (vr := vr4) (vw := vw4) (vp := vp) hL4 hTL4
    have HD4 : Hid (Dbw w4 (A.to vr4 vw4 vp) op { d1 with l := l2 }) := hD4
    have HT4 : Hid (Turn A.ft (A.to vr4 vw4 vp).ft w w4) := HT3.out.trans hTD4
    have HM4 : Hid (MpAt w4 bt tm) := HM3.out.chg hTD4.chg HLF.out.2
    have HR4 : Hid (w4.heap[w.heap.size]? = some (.cells #[.int .i64 (t.high : Int), .int .i64 (t.free : Int), .int .i64 (t.last : Int), .int .i64 (t.r0 : Int), .int .i64 (t.r1 : Int), .int .i64 (t.r2 : Int), .int .i64 (t.r3 : Int)] 58 (0, 0))) := heap_turn HR3.out hTD4 HLF.out.1
    have HLF4 : Hid (w.heap.size ∉ (A.to vr4 vw4 vp).ft ∧ bt ∉ (A.to vr4 vw4 vp).ft) := ⟨hTD4.apart (rs := [w.heap.size]) (fun k hk => by rw [List.mem_singleton.1 hk]; exact HLF.out.1) (fun k hk => by rw [List.mem_singleton.1 hk]; exact (Array.getElem?_eq_some_iff.1 HR3.out).1) _ List.mem_cons_self, hTD4.apart (rs := [bt]) (fun k hk => by rw [List.mem_singleton.1 hk]; exact HLF.out.2) (fun k hk => by rw [List.mem_singleton.1 hk]; exact HM3.out.lt) _ List.mem_cons_self⟩
    have HS4 : Hid ((fun U : World => U.cell? ⟨A.x, 1, none⟩ = some (.pointer (some ⟨A.q, 0, none⟩)) ∧ U.cell? ⟨A.x, 2, none⟩ = some (.int .i64 (d.n : Int))) w4) := ⟨hD4.c1, by rw [← hn1]; exact hD4.c2⟩
    clear hP4 hT4 hL4 hTL4 hD4 hTD4 HAD HD3 HT3 HM3 HR3 HS3 HLF
    refine hK.out _ _ HS4.out ?_
    clear hK KK
    refine heldTake 11 (some 8) (.int .i64 e2) rfl rfl (by kernel_rfl) (by kernel_rfl) (by kernel_rfl) (fun _ _ _ h => h) (Or.inl ⟨by rfl, fun w hS => ?_⟩) HS4.out ?_
    · (go_simp)
    simp only [Act.put, List.setIfInBounds_toArray, List.set_cons_zero, List.set_cons_succ]
    refine wpAnyH_done (by kernel_rfl) ?_ _
    clear HS4
    by_cases hz2 : e2 = 0
    · subst hz2
      rw [if_pos rfl] at HTT
      have htl := HTL2.out rfl
      have HSY : Hid (Calls Tryz.prog 95 #[.pointer (some ⟨A.q, 0, none⟩)] w4 (LDoes w4 A.q A.g vr4 vw4 A.kg vp (Wl.sycL l2 d1.s) (Wl.sycS l2 d1.s) (Wl.sycE l2 d1.s))) := lsync_any A.q A.g vr4 vw4 l2 A.kg vp d1.s w4 HD4.out.lp (HD4.out.safe.of (fun k hk => (A.to vr4 vw4 vp).ml hk)) (fun _ _ => ⟨htl.1, by rw [HBS.out.1, HBS.out.2.2]; exact htl.2⟩) (by rw [HBS.out.2.1]; omega) (by rw [HBS.out.2.1]; omega)
      have c1 : w4.cell? ⟨A.x, 1, none⟩ = some (.pointer (some ⟨A.q, 0, none⟩)) := HD4.out.c1
      clear htl HTL2
      generalize hl3 : Wl.sycL l2 d1.s = l3 at *
      clear hl3
      generalize hs3 : Wl.sycS l2 d1.s = s3 at *
      clear hs3
      generalize he3 : Wl.sycE l2 d1.s = e3 at *
      clear he3
      go_wp2_with fail
      refine HSY.out.mono ?_
      rintro e w5 ⟨vr5, vw5, vp5, rfl, hL5, hT5⟩
      obtain ⟨hD5, hTD5⟩ := HD4.out.turn (vr := vr5) (vw := vw5) (vp := vp5) hL5 hT5
      have HD5 : Hid (Dbw w5 (A.to vr5 vw5 vp5) op { d1 with l := l3, s := s3 }) := hD5
      have HT5 : Hid (Turn A.ft (A.to vr5 vw5 vp5).ft w w5) := HT4.out.trans hTD5
      have HM5 : Hid (MpAt w5 bt tm) := HM4.out.chg hTD5.chg HLF4.out.2
      have HR5 : Hid (w5.heap[w.heap.size]? = some (.cells #[.int .i64 (t.high : Int), .int .i64 (t.free : Int), .int .i64 (t.last : Int), .int .i64 (t.r0 : Int), .int .i64 (t.r1 : Int), .int .i64 (t.r2 : Int), .int .i64 (t.r3 : Int)] 58 (0, 0))) := heap_turn HR4.out hTD5 HLF4.out.1
      have HLF5 : Hid (w.heap.size ∉ (A.to vr5 vw5 vp5).ft ∧ bt ∉ (A.to vr5 vw5 vp5).ft) := ⟨hTD5.apart (rs := [w.heap.size]) (fun k hk => by rw [List.mem_singleton.1 hk]; exact HLF4.out.1) (fun k hk => by rw [List.mem_singleton.1 hk]; exact (Array.getElem?_eq_some_iff.1 HR4.out).1) _ List.mem_cons_self, hTD5.apart (rs := [bt]) (fun k hk => by rw [List.mem_singleton.1 hk]; exact HLF4.out.2) (fun k hk => by rw [List.mem_singleton.1 hk]; exact HM4.out.lt) _ List.mem_cons_self⟩
      clear hL5 hT5 hD5 hTD5 HSY HD4 HT4 HM4 HR4 HLF4 c1
      by_cases hz3 : e3 = 0
      · subst hz3
        rw [if_pos rfl] at HTT
        have c11 : w5.cell? ⟨A.x, 11, none⟩ = some (.map (some A.b)) := HD5.out.c11
        have hdl : d1.m.length + tm.length ≤ 100000 := by
          rcases hn3 with e | e
          · rw [e]; omega
          · rw [e]; simp; omega
        go_wp2_with fail
        refine (show Calls _ _ _ _ _ from mcopy_any A.b bt d1.m tm w5 HD5.out.mp HM5.out (fun e => HLF5.out.2 (by rw [← e]; exact (A.to vr5 vw5 vp5).mb)) hdl (fun p hp => by have := (HM.out.2.2.1 p hp).1; omega)).mono ?_
        rintro e w6 ⟨rfl, hM6, hg6⟩
        obtain ⟨hD6, hTD6⟩ := HD5.out.map hM6 hg6
        have HD6 : Hid (Dbw w6 (A.to vr5 vw5 vp5) op { d1 with m := Pd.copy d1.m tm, l := l3, s := s3 }) := hD6
        have HT6 : Hid (Turn A.ft (A.to vr5 vw5 vp5).ft w w6) := HT5.out.trans hTD6
        have HR6 : Hid (w6.heap[w.heap.size]? = some (.cells #[.int .i64 (t.high : Int), .int .i64 (t.free : Int), .int .i64 (t.last : Int), .int .i64 (t.r0 : Int), .int .i64 (t.r1 : Int), .int .i64 (t.r2 : Int), .int .i64 (t.r3 : Int)] 58 (0, 0))) := heap_turn HR5.out hTD6 HLF5.out.1
        clear hM6 hg6 hD6 hTD6 HD5 HT5 HM5 HR5 HLF5 c11 hdl
        have c4 : w6.cell? ⟨A.x, 4, none⟩ = some (.int .i64 (d1.st.high : Int)) := HD6.out.c4
        have f4 : w6.frozen? ⟨A.x, 4, none⟩ = false := HD6.out.fz 4
        have c5 : w6.cell? ⟨A.x, 5, none⟩ = some (.int .i64 (d1.st.free : Int)) := HD6.out.c5
        have f5 : w6.frozen? ⟨A.x, 5, none⟩ = false := HD6.out.fz 5
        have c6 : w6.cell? ⟨A.x, 6, none⟩ = some (.int .i64 (d1.st.last : Int)) := HD6.out.c6
        have f6 : w6.frozen? ⟨A.x, 6, none⟩ = false := HD6.out.fz 6
        have c7 : w6.cell? ⟨A.x, 7, none⟩ = some (.int .i64 (d1.st.r0 : Int)) := HD6.out.c7
        have f7 : w6.frozen? ⟨A.x, 7, none⟩ = false := HD6.out.fz 7
        have c8 : w6.cell? ⟨A.x, 8, none⟩ = some (.int .i64 (d1.st.r1 : Int)) := HD6.out.c8
        have f8 : w6.frozen? ⟨A.x, 8, none⟩ = false := HD6.out.fz 8
        have c9 : w6.cell? ⟨A.x, 9, none⟩ = some (.int .i64 (d1.st.r2 : Int)) := HD6.out.c9
        have f9 : w6.frozen? ⟨A.x, 9, none⟩ = false := HD6.out.fz 9
        have c10 : w6.cell? ⟨A.x, 10, none⟩ = some (.int .i64 (d1.st.r3 : Int)) := HD6.out.c10
        have f10 : w6.frozen? ⟨A.x, 10, none⟩ = false := HD6.out.fz 10
        have s0 : w6.cell? ⟨w.heap.size, 0, none⟩ = some (.int .i64 (t.high : Int)) := cell_of_row _ _ _ _ _ (0, 0) HR6.out
        have s1 : w6.cell? ⟨w.heap.size, 1, none⟩ = some (.int .i64 (t.free : Int)) := cell_of_row _ _ _ _ _ (0, 0) HR6.out
        have s2 : w6.cell? ⟨w.heap.size, 2, none⟩ = some (.int .i64 (t.last : Int)) := cell_of_row _ _ _ _ _ (0, 0) HR6.out
        have s3 : w6.cell? ⟨w.heap.size, 3, none⟩ = some (.int .i64 (t.r0 : Int)) := cell_of_row _ _ _ _ _ (0, 0) HR6.out
        have s4 : w6.cell? ⟨w.heap.size, 4, none⟩ = some (.int .i64 (t.r1 : Int)) := cell_of_row _ _ _ _ _ (0, 0) HR6.out
        have s5 : w6.cell? ⟨w.heap.size, 5, none⟩ = some (.int .i64 (t.r2 : Int)) := cell_of_row _ _ _ _ _ (0, 0) HR6.out
        have s6 : w6.cell? ⟨w.heap.size, 6, none⟩ = some (.int .i64 (t.r3 : Int)) := cell_of_row _ _ _ _ _ (0, 0) HR6.out
        go_wp2
        go_ret
        obtain ⟨y1, y2⟩ := HD6.out.setSt t
        rw [HTT.out]
        exact ⟨vr5, vw5, vp5, rfl, y1, HT6.out.trans y2⟩
      · have hb : (e3 != 0) = true := by simp [hz3]
        rw [if_neg hz3] at HTT
        have HFN : Hid (DDoes w A op (Pd.takeT d tm t).1 (Pd.takeT d tm t).2 (.returned (.int .i64 e3)) w5) := by
          rw [HTT.out]
          exact ⟨vr5, vw5, vp5, rfl, HD5.out, HT5.out⟩
        go_wp2
        go_ret
        exact HFN.out
    · have hb : (e2 != 0) = true := by simp [hz2]
      rw [if_neg hz2] at HTT
      have HFN : Hid (DDoes w A op (Pd.takeT d tm t).1 (Pd.takeT d tm t).2 (.returned (.int .i64 e2)) w4) := by
        rw [HTT.out]
        exact ⟨vr4, vw4, vp, rfl, HD4.out, HT4.out⟩
      go_wp2
      go_ret
      exact HFN.out
end Go.Proofs.YtcfninpokngmlaaGreatDoor
/- Proved: what pagedb's Open makes of a disk that has a log of pages. -/
namespace Go.Proofs.YtcfninpokngmlaaGreatDoor
open Go.RowKit
def d0of (n cnt e : Nat) (rs : List ByteArray) (ms : List Pd.Mp) (s : Sc.St) : Pd.Db := ⟨n, cnt, st0, Pd.mOf ms, false, opened 0 n e rs, s⟩
theorem foot_lf (A : Ad) {k : Nat} (h : k ∈ foot A.g A.kg A.vp) : k ∈ A.lf := List.mem_append.2 (.inr h)
def OpenPost (w : World) (g kg : Nat) (vp : Value) (d1 : Pd.Db) (e1 : Int) (t : Pd.Stt) (r : Ending) (w' : World) : Prop :=
  ((e1 = 0 ∨ e1 = 7) → ∃ A : Ad, r = .returned (.tuple #[ptr A.x, .int .i64 0]) ∧ A.g = g ∧ A.kg = kg ∧ Dbw w' A nilP { d1 with st := t } ∧ Turn (foot g kg vp) A.ft w w') ∧
  (¬ (e1 = 0 ∨ e1 = 7) → ∃ vp', r = .returned (.tuple #[nilP, .int .i64 e1]) ∧ Dk w' g kg vp' d1.s ∧ Turn (foot g kg vp) (foot g kg vp') w w')
set_option maxHeartbeats 8000000 in
set_option maxRecDepth 100000 in
theorem dopen_any (g kg : Nat) (vp : Value) (s : Sc.St) (n cnt e : Nat) (rs : List ByteArray) (ms : List Pd.Mp) (t : Pd.Stt) (w : World) (hD : Dk w g kg vp s) (hS : Safe w (foot g kg vp)) (hdn : s.down = false) (hf : Wl.Fit rs) (hon : Wl.On (Wl.flat s) 0 n e (Wl.frames rs)) (hcn : cnt = (s.kept.length - n) / 8) (h4 : 4 ≤ cnt) (hc : cnt ≤ 1000) (hn : n ≤ 65536) (hR : Pd.Recs n cnt rs ms)
    (h1 : s.dn + 8 * cnt + 10 ≤ 80000) (h2 : s.pend.length + 8 * cnt + 10 ≤ 18000)
    (hld : (Pd.setT (d0of n cnt e rs ms s)).2 = 0 ∨ (Pd.setT (d0of n cnt e rs ms s)).2 = 7 → (Pd.setT (d0of n cnt e rs ms s)).1.s.down = false ∧ (Pd.setT (d0of n cnt e rs ms s)).1.s.kept.length = s.kept.length ∧ ((Pd.plc (Wl.flat (Pd.setT (d0of n cnt e rs ms s)).1.s) n 0 = Pg.blank ∧ t = stt1) ∨ (Pd.plc (Wl.flat (Pd.setT (d0of n cnt e rs ms s)).1.s) n 0 = Pd.pageOf 0 t.sheet ∧ t.Small cnt))) :
    Calls Tryz.prog 23 #[ptr g, .int .i64 (n : Int)] w (OpenPost w g kg vp (Pd.setT (d0of n cnt e rs ms s)).1 (Pd.setT (d0of n cnt e rs ms s)).2 t) := by
  have hN2 : n ≤ s.kept.length := by have := hon.fits; rw [Wl.flat_length] at this; omega
  have hmo := hD.ok.most
  have hN8 : n + 8 * cnt ≤ s.kept.length := by omega
  have hpos := hS.tab.pos
  have HDS : Hid (Dk w g kg vp s ∧ Safe w (foot g kg vp)) := ⟨hD, hS⟩
  have HLD : Hid ((Pd.setT (d0of n cnt e rs ms s)).2 = 0 ∨ (Pd.setT (d0of n cnt e rs ms s)).2 = 7 → (Pd.setT (d0of n cnt e rs ms s)).1.s.down = false ∧ (Pd.setT (d0of n cnt e rs ms s)).1.s.kept.length = s.kept.length ∧ ((Pd.plc (Wl.flat (Pd.setT (d0of n cnt e rs ms s)).1.s) n 0 = Pg.blank ∧ t = stt1) ∨ (Pd.plc (Wl.flat (Pd.setT (d0of n cnt e rs ms s)).1.s) n 0 = Pd.pageOf 0 t.sheet ∧ t.Small cnt))) := hld
  have HRM : Hid (Pd.Recs n cnt rs ms) := hR
  have HWO : Hid (Calls Tryz.prog 54 #[.pointer (some ⟨g, 0, none⟩), .int .i64 0, .int .i64 (n : Int)] w fun r w' => ∃ q vr, r = .returned (.tuple #[ptr q, .int .i64 0]) ∧ LP w' q g vr nil0 (opened 0 n e rs) kg vp s ∧ Below w.heap.size w w' ∧ ∀ k ∈ pfoot q vr nil0, w.heap.size ≤ k) := open_any g kg vp s 0 n e rs w hD hdn hS.tab hf hon
  have hq1 : IntKind.i64.wrap ((s.kept.length : Int) - (n : Int)) = ((s.kept.length - n : Nat) : Int) := by rw [IntKind.wrap_i64]; omega
  have hq2 : ((s.kept.length - n : Nat) : Int).tdiv 8 = (cnt : Int) := by
    rw [Int.tdiv_eq_ediv_of_nonneg (by omega)]
    omega
  have hq3 : ((s.kept.length : Int) - (n : Int)).tdiv 8 = (cnt : Int) := by
    rw [Int.tdiv_eq_ediv_of_nonneg (by omega)]
    omega
  have hq4 : ((s.kept.length - n : Nat) : Int) / 8 = (cnt : Int) := by omega
  clear hD hS hld hR hf hon hcn
  unfold ptr
  go_enter Tryz.func23, Tryz.ntmps23
  go_wp2_with fail
  refine HWO.out.mono ?_
  rintro r w1 ⟨q, vr, rfl, hL1, hB1, hab⟩
  have HL1 : Hid (LP w1 q g vr nil0 (opened 0 n e rs) kg vp s) := hL1
  have HB1 : Hid (Below w.heap.size w w1) := hB1
  have HAB : Hid (∀ k ∈ pfoot q vr nil0, w.heap.size ≤ k) := hab
  have HSI : Hid (Calls Tryz.prog 55 #[.pointer (some ⟨g, 0, none⟩)] w1 fun e w' => e = .returned (.int .i64 (s.kept.length : Int)) ∧ w' = w1) := size_any g kg vp s w1 hL1.dk
  clear hL1 hB1 hab HWO
  unfold ptr
  go_wp2_with fail
  refine HSI.out.mono ?_
  rintro r wS ⟨rfl, hwS⟩
  rw [hwS]
  clear hwS wS HSI
  obtain ⟨A, hA⟩ : ∃ A : Ad, A = ⟨w1.heap.size, g, q, w1.heap.size + 1, kg, vr, nil0, vp⟩ := ⟨_, rfl⟩
  have HZ : Hid (Dbz (w1.alloc (.cells #[.pointer (some ⟨g, 0, none⟩), .pointer (some ⟨q, 0, none⟩), .int .i64 (n : Int), .int .i64 (cnt : Int), .int .i64 0, .int .i64 0, .int .i64 0, .int .i64 0, .int .i64 0, .int .i64 0, .int .i64 0, .map none, .pointer none, .bool false] 61)) A { d0of n cnt e rs ms s with m := [] } ∧ A.b = (w1.alloc (.cells #[.pointer (some ⟨g, 0, none⟩), .pointer (some ⟨q, 0, none⟩), .int .i64 (n : Int), .int .i64 (cnt : Int), .int .i64 0, .int .i64 0, .int .i64 0, .int .i64 0, .int .i64 0, .int .i64 0, .int .i64 0, .map none, .pointer none, .bool false] 61)).heap.size ∧ Turn (foot g kg vp) (A.x :: A.lf) w (w1.alloc (.cells #[.pointer (some ⟨g, 0, none⟩), .pointer (some ⟨q, 0, none⟩), .int .i64 (n : Int), .int .i64 (cnt : Int), .int .i64 0, .int .i64 0, .int .i64 0, .int .i64 0, .int .i64 0, .int .i64 0, .int .i64 0, .map none, .pointer none, .bool false] 61))) := by
    rw [hA]
    have hlt := HL1.out.lt
    have hB2 : Below w1.heap.size w1 (w1.alloc (.cells #[.pointer (some ⟨g, 0, none⟩), .pointer (some ⟨q, 0, none⟩), .int .i64 (n : Int), .int .i64 (cnt : Int), .int .i64 0, .int .i64 0, .int .i64 0, .int .i64 0, .int .i64 0, .int .i64 0, .int .i64 0, .map none, .pointer none, .bool false] 61)) := (Below.refl _ _).alloc (Nat.le_refl _) _
    have hB := below_next HB1.out hB2 HB1.out.size
    have hlf : ∀ k ∈ lfoot q g vr nil0 kg vp, k ∈ foot g kg vp ∨ w.heap.size ≤ k := fun k hk => by
      rcases List.mem_append.1 hk with h | h
      · exact .inr (HAB.out k h)
      · exact .inl h
    refine ⟨⟨heap_alloc_new w1 _, HL1.out.below hB2, ⟨HDS.out.2.tab.below hB hpos, fun hm => ?_⟩, fun hm => ?_, rfl, rfl, rfl⟩, by simp, ⟨Chg.of_below hB, fun k hk => ?_⟩⟩
    · rcases List.mem_cons.1 hm with h | h
      · have := HB1.out.size
        simp only at h
        omega
      · rcases hlf 0 h with h | h
        · exact HDS.out.2.no h
        · omega
    · have := hlt _ hm
      simp only at this
      omega
    · rcases List.mem_cons.1 hk with h | h
      · have := HB1.out.size
        simp only at h
        exact .inr (by omega)
      · exact hlf k h
  have hx : A.x = w1.heap.size := by rw [hA]
  have hAg : A.g = g ∧ A.kg = kg := by rw [hA]; exact ⟨rfl, rfl⟩
  have HAX : Hid (A.g = g ∧ A.kg = kg) := hAg
  clear hA hAg HL1 HB1 HAB
  have d4 : decide ((cnt : Int) < 4) = false := decide_eq_false (by omega)
  go_wp2_with fail
  generalize hw2 : World.alloc w1 _ = w2 at *
  clear hw2 hq1 hq2 hq3 hq4 d4
  have HT2 : Hid (Turn (foot g kg vp) (A.x :: A.lf) w w2) := HZ.out.2.2
  have HRC : Hid (Calls Tryz.prog 56 #[.pointer (some ⟨w1.heap.size, 0, none⟩)] w2 fun e' w' => e' = .returned (.int .i64 0) ∧ Dbw w' A nilP (d0of n cnt e rs ms s) ∧ Turn (A.x :: A.lf) A.ft w2 w') := by
    have h := recall_any A _ ms w2 HZ.out.1 HZ.out.2.1 HRM.out hc (by show n < _; omega)
    unfold ptr at h
    rw [hx] at h
    rw [hx]
    exact h
  have hmf : Pd.Fine cnt (Pd.mOf ms) ∧ Pd.Up (Pd.mOf ms) := ⟨HRM.out.m.2, HRM.out.m.1⟩
  have hml := Pd.fine_length hmf.2 hmf.1
  refine HRC.out.mono ?_
  rintro r w3 ⟨rfl, hD3, hT3⟩
  have HD3 : Hid (Dbw w3 A nilP (d0of n cnt e rs ms s)) := hD3
  have HT3 : Hid (Turn (foot g kg vp) A.ft w w3) := HT2.out.trans hT3
  have HST : Hid (Calls Tryz.prog 57 #[.pointer (some ⟨w1.heap.size, 0, none⟩)] w3 (DDoes w3 A nilP (Pd.setT (d0of n cnt e rs ms s)).1 (Pd.setT (d0of n cnt e rs ms s)).2)) := by
    have h := settle_any A nilP (d0of n cnt e rs ms s) w3 hD3 hmf.1 hc (by show (Pd.mOf ms).length ≤ _; omega) (by show n ≤ _; omega) (by show s.dn + 8 * (Pd.mOf ms).length + 10 ≤ _; omega) (by show s.pend.length + 8 * (Pd.mOf ms).length + 10 ≤ _; omega)
    unfold ptr at h
    rw [hx] at h
    exact h
  clear hD3 hT3 HRC HZ HT2 hmf hml
  obtain ⟨en1, en2, _⟩ := Pd.setT_n (d0of n cnt e rs ms s)
  have HEN : Hid ((Pd.setT (d0of n cnt e rs ms s)).1.n = n ∧ (Pd.setT (d0of n cnt e rs ms s)).1.cnt = cnt) := ⟨en1, en2⟩
  clear en1 en2
  generalize hrr : Pd.setT (d0of n cnt e rs ms s) = R at *
  clear hrr
  obtain ⟨d1, e1⟩ := R
  simp only at HST HLD HEN
  go_wp2_with fail
  refine HST.out.mono ?_
  rintro r w4 ⟨vr4, vw4, vp4, rfl, hD4, hT4⟩
  have HD4 : Hid (Dbw w4 (A.to vr4 vw4 vp4) nilP d1) := hD4
  have HT4 : Hid (Turn (foot g kg vp) (A.to vr4 vw4 vp4).ft w w4) := HT3.out.trans hT4
  clear hD4 hT4 HST HD3 HT3
  by_cases hz : e1 = 0 ∨ e1 = 7
  · have hld := HLD.out hz
    have HLO : Hid (Calls Tryz.prog 58 #[.pointer (some ⟨w1.heap.size, 0, none⟩)] w4 fun e' w' => e' = .returned (.int .i64 0) ∧ Dbw w' (A.to vr4 vw4 vp4) nilP { d1 with st := t } ∧ Turn (A.to vr4 vw4 vp4).ft (A.to vr4 vw4 vp4).ft w4 w') := by
      obtain ⟨l1, l2, l3⟩ := hld
      obtain ⟨n1, n2⟩ := HEN.out
      rcases l3 with ⟨p1, p2⟩ | ⟨p1, p2⟩
      · have h := load_blank (A.to vr4 vw4 vp4) nilP d1 w4 HD4.out l1 (by rw [n1, l2]; omega) (by rw [n1]; exact p1)
        unfold ptr at h
        rw [show (A.to vr4 vw4 vp4).x = w1.heap.size from hx, ← p2] at h
        exact h
      · have h := load_state (A.to vr4 vw4 vp4) nilP d1 t w4 HD4.out l1 (by rw [n1, l2]; omega) (by rw [n2]; exact hc) (by rw [n2]; exact p2) (by rw [n1]; exact p1)
        unfold ptr at h
        rw [show (A.to vr4 vw4 vp4).x = w1.heap.size from hx] at h
        exact h
    have HFN : Hid (∀ w', Dbw w' (A.to vr4 vw4 vp4) nilP { d1 with st := t } → Turn (A.to vr4 vw4 vp4).ft (A.to vr4 vw4 vp4).ft w4 w' → OpenPost w g kg vp d1 e1 t (.returned (.tuple #[.pointer (some ⟨w1.heap.size, 0, none⟩), .int .i64 0])) w') := fun w' h5 h6 => by
      refine ⟨fun _ => ⟨A.to vr4 vw4 vp4, ?_, HAX.out.1, HAX.out.2, h5, HT4.out.trans h6⟩, fun h => absurd hz h⟩
      rw [show (A.to vr4 vw4 vp4).x = w1.heap.size from hx]
      try rfl
    have hb : ((e1 != 0) && (e1 != 7)) = false := by
      rcases hz with rfl | rfl <;> rfl
    clear hld HLD
    rcases hz with rfl | rfl
    · go_wp2_with fail
      refine HLO.out.mono ?_
      rintro r w5 ⟨rfl, hD5, hT5⟩
      have HX : Hid (OpenPost w g kg vp d1 0 t (.returned (.tuple #[.pointer (some ⟨w1.heap.size, 0, none⟩), .int .i64 0])) w5) := HFN.out w5 hD5 hT5
      clear hD5 hT5 HLO HFN
      go_wp2
      go_ret2
      exact HX.out
    · go_wp2_with fail
      refine HLO.out.mono ?_
      rintro r w5 ⟨rfl, hD5, hT5⟩
      have HX : Hid (OpenPost w g kg vp d1 7 t (.returned (.tuple #[.pointer (some ⟨w1.heap.size, 0, none⟩), .int .i64 0])) w5) := HFN.out w5 hD5 hT5
      clear hD5 hT5 HLO HFN
      go_wp2
      go_ret2
      exact HX.out
  · have b0 : (e1 != 0) = true := by simp; exact fun h => hz (.inl h)
    have b7 : (e1 != 7) = true := by simp; exact fun h => hz (.inr h)
    have HX : Hid (OpenPost w g kg vp d1 e1 t (.returned (.tuple #[.pointer none, .int .i64 e1])) w4) := by
      refine ⟨fun h => absurd h hz, fun _ => ?_⟩
      have hdk := HD4.out.lp.dk
      rw [show (A.to vr4 vw4 vp4).g = g from HAX.out.1, show (A.to vr4 vw4 vp4).kg = kg from HAX.out.2] at hdk
      refine ⟨vp4, rfl, hdk, ⟨HT4.out.chg, fun k hk => HT4.out.grow k ((A.to vr4 vw4 vp4).ml (foot_lf _ ?_))⟩⟩
      rw [show (A.to vr4 vw4 vp4).g = g from HAX.out.1, show (A.to vr4 vw4 vp4).kg = kg from HAX.out.2]
      exact hk
    clear hz HLD
    go_wp2
    go_ret2
    exact HX.out
end Go.Proofs.YtcfninpokngmlaaGreatDoor
/- Proved: a transaction in memory beside its database; what its small calls answer. -/
namespace Pd
structure Tx where
  st : Stt
  m : Mp
  sp : Bool
end Pd
namespace Go.Proofs.YtcfninpokngmlaaGreatDoor
open Go.RowKit
def txA (x bt : Nat) (u : Pd.Tx) : Array Value := #[ptr x, .int .i64 (u.st.high : Int), .int .i64 (u.st.free : Int), .int .i64 (u.st.last : Int), .int .i64 (u.st.r0 : Int), .int .i64 (u.st.r1 : Int), .int .i64 (u.st.r2 : Int), .int .i64 (u.st.r3 : Int), .map (some bt), .bool u.sp]
def txZ : Array Value := #[.pointer none, .int .i64 0, .int .i64 0, .int .i64 0, .int .i64 0, .int .i64 0, .int .i64 0, .int .i64 0, .map none, .bool false]
def tft (A : Ad) (t bt : Nat) : List Nat := t :: bt :: A.ft
structure Txw (w : World) (A : Ad) (t bt : Nat) (d : Pd.Db) (u : Pd.Tx) : Prop where
  db : Dbw w A (ptr t) d
  row : w.heap[t]? = some (.cells (txA A.x bt u) 66 (0, 0))
  mp : MpAt w bt u.m
  ta : t ∉ A.ft
  ba : bt ∉ A.ft
  tb : t ≠ bt
  z : t ≠ 0 ∧ bt ≠ 0
section
variable {w w' : World} {A : Ad} {t bt : Nat} {d : Pd.Db} {u : Pd.Tx}
theorem Txw.cell (H : Txw w A t bt d u) (i : Nat) : w.cell? ⟨t, i, none⟩ = (txA A.x bt u)[i]? := cell_of_row w t i _ _ (0, 0) H.row
theorem Txw.c0 (H : Txw w A t bt d u) : w.cell? ⟨t, 0, none⟩ = some (ptr A.x) := by rw [H.cell]; rfl
theorem Txw.c1 (H : Txw w A t bt d u) : w.cell? ⟨t, 1, none⟩ = some (.int .i64 (u.st.high : Int)) := by rw [H.cell]; rfl
theorem Txw.c2 (H : Txw w A t bt d u) : w.cell? ⟨t, 2, none⟩ = some (.int .i64 (u.st.free : Int)) := by rw [H.cell]; rfl
theorem Txw.c3 (H : Txw w A t bt d u) : w.cell? ⟨t, 3, none⟩ = some (.int .i64 (u.st.last : Int)) := by rw [H.cell]; rfl
theorem Txw.c4 (H : Txw w A t bt d u) : w.cell? ⟨t, 4, none⟩ = some (.int .i64 (u.st.r0 : Int)) := by rw [H.cell]; rfl
theorem Txw.c5 (H : Txw w A t bt d u) : w.cell? ⟨t, 5, none⟩ = some (.int .i64 (u.st.r1 : Int)) := by rw [H.cell]; rfl
theorem Txw.c6 (H : Txw w A t bt d u) : w.cell? ⟨t, 6, none⟩ = some (.int .i64 (u.st.r2 : Int)) := by rw [H.cell]; rfl
theorem Txw.c7 (H : Txw w A t bt d u) : w.cell? ⟨t, 7, none⟩ = some (.int .i64 (u.st.r3 : Int)) := by rw [H.cell]; rfl
theorem Txw.c8 (H : Txw w A t bt d u) : w.cell? ⟨t, 8, none⟩ = some (.map (some bt)) := by rw [H.cell]; rfl
theorem Txw.c9 (H : Txw w A t bt d u) : w.cell? ⟨t, 9, none⟩ = some (.bool u.sp) := by rw [H.cell]; rfl
theorem Txw.fz (H : Txw w A t bt d u) (i : Nat) : w.frozen? ⟨t, i, none⟩ = false := frozen_of_row w t i _ _ H.row
theorem Txw.tlt (H : Txw w A t bt d u) : t < w.heap.size := (Array.getElem?_eq_some_iff.1 H.row).1
theorem Txw.lt (H : Txw w A t bt d u) : ∀ k ∈ tft A t bt, k < w.heap.size := fun k hk => by
  rcases List.mem_cons.1 hk with rfl | hk
  · exact H.tlt
  · rcases List.mem_cons.1 hk with rfl | hk
    · exact H.mp.lt
    · exact H.db.lt k hk
theorem tft_a {k : Nat} (h : k ∈ A.ft) : k ∈ tft A t bt := List.mem_cons_of_mem _ (List.mem_cons_of_mem _ h)
theorem tft_t : t ∈ tft A t bt := List.mem_cons_self
theorem tft_b : bt ∈ tft A t bt := List.mem_cons_of_mem _ List.mem_cons_self
theorem Txw.keep (H : Txw w A t bt d u) {fs : List Nat} (hc : Chg fs w w') (ha : ∀ k ∈ tft A t bt, k ∉ fs) (h0 : 0 ∉ fs) : Txw w' A t bt d u :=
  ⟨H.db.keep hc (fun k hk => ha k (tft_a hk)) h0, (hc.block t H.tlt (ha _ tft_t)).trans H.row, H.mp.chg hc (ha _ tft_b), H.ta, H.ba, H.tb, H.z⟩
theorem Txw.below (H : Txw w A t bt d u) (hB : Below w.heap.size w w') : Txw w' A t bt d u := H.keep (fs := []) (Chg.of_below hB) (by simp) (by simp)
theorem Txw.alloc (H : Txw w A t bt d u) (o : Obj) : Txw (w.alloc o) A t bt d u := H.keep (Chg.alloc [] w o) (by simp) (by simp)
theorem Txw.drew (H : Txw w A t bt d u) : Txw w.drew A t bt d u := H.keep (fs := []) ⟨rfl, rfl, rfl, Nat.le_refl _, fun _ _ _ => rfl⟩ (by simp) (by simp)
theorem Txw.drewN (H : Txw w A t bt d u) (n : Nat) : Txw (w.drewN n) A t bt d u := H.keep (fs := []) ⟨rfl, rfl, rfl, Nat.le_refl _, fun _ _ _ => rfl⟩ (by simp) (by simp)
/- its own cells are written -/
theorem Txw.cells (H : Txw w A t bt d u) {u' : Pd.Tx} (hc : Chg [t] w w') (hr : w'.heap[t]? = some (.cells (txA A.x bt u') 66 (0, 0))) (hm : u'.m = u.m) : Txw w' A t bt d u' ∧ Turn (tft A t bt) (tft A t bt) w w' := by
  refine ⟨⟨H.db.keep hc (fun k hk e => H.ta (by rw [← List.mem_singleton.1 e]; exact hk)) (fun e => H.z.1 (List.mem_singleton.1 e).symm), hr, ?_, H.ta, H.ba, H.tb, H.z⟩, ⟨hc.mono (fun k hk => by rw [List.mem_singleton.1 hk]; exact tft_t), fun k hk => .inl hk⟩⟩
  rw [hm]
  exact H.mp.chg hc (fun e => H.tb (List.mem_singleton.1 e).symm)
theorem Txw.set (H : Txw w A t bt d u) {u' : Pd.Tx} (i : Nat) (v : Value) (e : (txA A.x bt u).setIfInBounds i v = txA A.x bt u') (hm : u'.m = u.m) : Txw (w.setCell ⟨t, i, none⟩ v) A t bt d u' ∧ Turn (tft A t bt) (tft A t bt) w (w.setCell ⟨t, i, none⟩ v) :=
  H.cells (Chg.setCell w t i v) (by rw [heap_setCell_same w t i _ _ _ H.row, e]) hm
theorem Txw.setSt (H : Txw w A t bt d u) (s : Pd.Stt) : Txw (st7 w t 1 s) A t bt d { u with st := s } ∧ Turn (tft A t bt) (tft A t bt) w (st7 w t 1 s) := by
  refine H.cells ?_ ?_ rfl
  · rw [st7_cells]
    exact Chg.setCells t _ _ w
  · rw [st7_cells]
    have hr := H.row
    have e : txA A.x bt u = [ptr A.x, .int .i64 (u.st.high : Int), .int .i64 (u.st.free : Int), .int .i64 (u.st.last : Int), .int .i64 (u.st.r0 : Int), .int .i64 (u.st.r1 : Int), .int .i64 (u.st.r2 : Int), .int .i64 (u.st.r3 : Int), .map (some bt), .bool u.sp].toArray := rfl
    rw [e] at hr
    rw [setCells_splice t 66 _ 1 _ w hr (by simp)]
    rfl
/- its map turns -/
theorem Txw.map (H : Txw w A t bt d u) {m : Pd.Mp} (hM : MpAt w' bt m) (hg : w.grownBy w' (some bt)) : Txw w' A t bt d { u with m := m } ∧ Turn (tft A t bt) (tft A t bt) w w' := by
  have hc : Chg [bt] w w' := (Chg.grown hg).mono (fun k hk => by simpa using hk)
  exact ⟨⟨H.db.keep hc (fun k hk e => H.ba (by rw [← List.mem_singleton.1 e]; exact hk)) (fun e => H.z.2 (List.mem_singleton.1 e).symm), (hc.block t H.tlt (fun e => H.tb (List.mem_singleton.1 e))).trans H.row, hM, H.ta, H.ba, H.tb, H.z⟩, ⟨hc.mono (fun k hk => by rw [List.mem_singleton.1 hk]; exact tft_b), fun k hk => .inl hk⟩⟩
end
theorem infoTx : Tryz.prog.info? 66 = some Tryz.t66 := by kernel_rfl
theorem eqTx (t : Nat) (W : World) : (binOp .eql 31 (.pointer (some ⟨t, 0, none⟩)) (.pointer (some ⟨t, 0, none⟩))).run Tryz.prog W = .ok (.bool true) W := run_eql_ptr_same W ⟨t, 0, none⟩ Tryz.underlying31 infoTx
section
variable (A : Ad) (t bt : Nat) (d : Pd.Db) (u : Pd.Tx) (w : World)
theorem isopen_yes (H : Txw w A t bt d u) : Calls Tryz.prog 51 #[ptr t] w fun e w' => e = .returned (.bool true) ∧ w' = w := by
  have c0 := H.c0
  have c12 := H.db.c12
  have heq := eqTx t
  clear H
  unfold ptr at *
  go_enter Tryz.func51, Tryz.ntmps51
  go_wp2
  go_ret
  exact ⟨by first | rfl | simp, rfl⟩
theorem isopen_nil : Calls Tryz.prog 51 #[nilP] w fun e w' => e = .returned (.bool false) ∧ w' = w := by
  unfold nilP
  go_enter Tryz.func51, Tryz.ntmps51
  go_wp2
  go_ret
  exact ⟨rfl, rfl⟩
theorem isopen_end (hr : w.cell? ⟨t, 0, none⟩ = some (.pointer none)) : Calls Tryz.prog 51 #[ptr t] w fun e w' => e = .returned (.bool false) ∧ w' = w := by
  unfold ptr
  go_enter Tryz.func51, Tryz.ntmps51
  go_wp2
  go_ret
  exact ⟨rfl, rfl⟩
theorem tready_ok (H : Txw w A t bt d u) (hl : d.lost = false) : Calls Tryz.prog 62 #[ptr t] w fun e w' => e = .returned (.int .i64 0) ∧ w' = w := by
  have HO := isopen_yes A t bt d u w H
  have c0 := H.c0
  have c13 := H.db.c13
  rw [hl] at c13
  clear H
  unfold ptr at *
  go_enter Tryz.func62, Tryz.ntmps62
  go_wp2_with (go_at_call 51; refine HO.mono ?_; rintro e w' ⟨rfl, rfl⟩)
  go_ret
  exact ⟨rfl, rfl⟩
/- a transaction that is none, or has ended -/
def Shut (w : World) (v : Value) : Prop := v = nilP ∨ ∃ t, v = ptr t ∧ w.cell? ⟨t, 0, none⟩ = some (.pointer none)
theorem isopen_no (v : Value) (h : Shut w v) : Calls Tryz.prog 51 #[v] w fun e w' => e = .returned (.bool false) ∧ w' = w := by
  rcases h with rfl | ⟨t, rfl, hr⟩
  · exact isopen_nil w
  · exact isopen_end t w hr
theorem tready_no (v : Value) (h : Shut w v) : Calls Tryz.prog 62 #[v] w fun e w' => e = .returned (.int .i64 1) ∧ w' = w := by
  have HO := isopen_no w v h
  clear h
  go_enter Tryz.func62, Tryz.ntmps62
  go_wp2_with (go_at_call 51; refine HO.mono ?_; rintro e w' ⟨rfl, rfl⟩)
  go_ret
  exact ⟨rfl, rfl⟩
theorem changed_any (H : Txw w A t bt d u) : Calls Tryz.prog 14 #[ptr t] w fun e w' => e = .returned (.int .i64 (u.m.length : Int)) ∧ w' = w := by
  have HO := isopen_yes A t bt d u w H
  have c8 := H.c8
  have HM : Hid (MpAt w bt u.m) := H.mp
  clear H
  unfold ptr at *
  go_enter Tryz.func14, Tryz.ntmps14
  go_wp2_with (first | (go_at_call 51; refine HO.mono ?_; rintro e w' ⟨rfl, rfl⟩) | (at_len; refine mp_len _ rfl _ rfl bt u.m rfl HM.out ?_))
  go_ret
  exact ⟨rfl, rfl⟩
theorem changed_no (v : Value) (h : Shut w v) : Calls Tryz.prog 14 #[v] w fun e w' => e = .returned (.int .i64 0) ∧ w' = w := by
  have HO := isopen_no w v h
  clear h
  go_enter Tryz.func14, Tryz.ntmps14
  go_wp2_with (go_at_call 51; refine HO.mono ?_; rintro e w' ⟨rfl, rfl⟩)
  go_ret
  exact ⟨rfl, rfl⟩
theorem root_no (v : Value) (i : Int) (h : Shut w v) : Calls Tryz.prog 16 #[v, .int .i64 i] w fun e w' => e = .returned (.int .i64 0) ∧ w' = w := by
  have HO := isopen_no w v h
  clear h
  go_enter Tryz.func16, Tryz.ntmps16
  go_wp2_with (go_at_call 51; refine HO.mono ?_; rintro e w' ⟨rfl, rfl⟩)
  go_ret
  exact ⟨rfl, rfl⟩
def rootV (s : Pd.Stt) (i : Int) : Nat := if i = 0 then s.r0 else if i = 1 then s.r1 else if i = 2 then s.r2 else if i = 3 then s.r3 else 0
theorem root_any (i : Int) (H : Txw w A t bt d u) : Calls Tryz.prog 16 #[ptr t, .int .i64 i] w fun e w' => e = .returned (.int .i64 (rootV u.st i : Int)) ∧ w' = w := by
  have HO := isopen_yes A t bt d u w H
  have HR := isroot_any i w
  have c4 := H.c4
  have c5 := H.c5
  have c6 := H.c6
  have c7 := H.c7
  clear H
  unfold ptr at *
  by_cases h : isR i = true
  · rw [h] at HR
    have hi : i = 0 ∨ i = 1 ∨ i = 2 ∨ i = 3 := by
      unfold isR at h
      simp at h
      omega
    clear h
    rcases hi with rfl | rfl | rfl | rfl
    · go_enter Tryz.func16, Tryz.ntmps16
      go_wp2_with (first | (go_at_call 51; refine HO.mono ?_; rintro e w' ⟨rfl, rfl⟩) | (go_at_call 52; refine HR.mono ?_; rintro e w' ⟨rfl, rfl⟩))
      go_ret
      exact ⟨rfl, rfl⟩
    · go_enter Tryz.func16, Tryz.ntmps16
      go_wp2_with (first | (go_at_call 51; refine HO.mono ?_; rintro e w' ⟨rfl, rfl⟩) | (go_at_call 52; refine HR.mono ?_; rintro e w' ⟨rfl, rfl⟩))
      go_ret
      exact ⟨rfl, rfl⟩
    · go_enter Tryz.func16, Tryz.ntmps16
      go_wp2_with (first | (go_at_call 51; refine HO.mono ?_; rintro e w' ⟨rfl, rfl⟩) | (go_at_call 52; refine HR.mono ?_; rintro e w' ⟨rfl, rfl⟩))
      go_ret
      exact ⟨rfl, rfl⟩
    · go_enter Tryz.func16, Tryz.ntmps16
      go_wp2_with (first | (go_at_call 51; refine HO.mono ?_; rintro e w' ⟨rfl, rfl⟩) | (go_at_call 52; refine HR.mono ?_; rintro e w' ⟨rfl, rfl⟩))
      go_ret
      exact ⟨rfl, rfl⟩
  · have h' : isR i = false := by simpa using h
    rw [h'] at HR
    have HE : Hid (rootV u.st i = 0) := by
      unfold isR at h'
      unfold rootV
      show _ = 0
      simp at h'
      rw [if_neg (by omega), if_neg (by omega), if_neg (by omega), if_neg (by omega)]
    clear h h'
    go_enter Tryz.func16, Tryz.ntmps16
    go_wp2_with (first | (go_at_call 51; refine HO.mono ?_; rintro e w' ⟨rfl, rfl⟩) | (go_at_call 52; refine HR.mono ?_; rintro e w' ⟨rfl, rfl⟩))
    go_ret
    exact ⟨by rw [HE.out]; rfl, rfl⟩
theorem spoil_any (H : Txw w A t bt d u) : Calls Tryz.prog 29 #[ptr t] w fun e w' => e = .returned (.tuple #[]) ∧ Txw w' A t bt d { u with sp := true } ∧ Turn (tft A t bt) (tft A t bt) w w' := by
  have HO := isopen_yes A t bt d u w H
  have c9 := H.c9
  have f9 := H.fz 9
  have HS : Hid (Txw (w.setCell ⟨t, 9, none⟩ (.bool true)) A t bt d { u with sp := true } ∧ Turn (tft A t bt) (tft A t bt) w (w.setCell ⟨t, 9, none⟩ (.bool true))) := H.set 9 (.bool true) rfl rfl
  clear H
  unfold ptr at *
  go_enter Tryz.func29, Tryz.ntmps29
  go_wp2_with (go_at_call 51; refine HO.mono ?_; rintro e w' ⟨rfl, rfl⟩)
  go_end0
  exact ⟨rfl, HS.out⟩
theorem spoil_no (v : Value) (h : Shut w v) : Calls Tryz.prog 29 #[v] w fun e w' => e = .returned (.tuple #[]) ∧ w' = w := by
  have HO := isopen_no w v h
  clear h
  go_enter Tryz.func29, Tryz.ntmps29
  go_wp2_with (go_at_call 51; refine HO.mono ?_; rintro e w' ⟨rfl, rfl⟩)
  go_end0
  exact ⟨rfl, rfl⟩
theorem abort_no (v : Value) (h : Shut w v) : Calls Tryz.prog 28 #[v] w fun e w' => e = .returned (.tuple #[]) ∧ w' = w := by
  have HO := isopen_no w v h
  clear h
  go_enter Tryz.func28, Tryz.ntmps28
  go_wp2_with (go_at_call 51; refine HO.mono ?_; rintro e w' ⟨rfl, rfl⟩)
  first | go_end0 | go_returns
  exact ⟨rfl, rfl⟩
end
end Go.Proofs.YtcfninpokngmlaaGreatDoor
