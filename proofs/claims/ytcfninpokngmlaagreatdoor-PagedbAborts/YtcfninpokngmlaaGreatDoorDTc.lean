/- Proved: what Begin, Checkpoint and Commit make of a database. -/
import Derived.Test.YtcfninpokngmlaaGreatDoorDTal
namespace Go.Proofs.YtcfninpokngmlaaGreatDoor
open Go.RowKit
def tx0 (d : Pd.Db) : Pd.Tx := ⟨d.st, [], false⟩
section
variable (A : Ad) (t bt : Nat) (d : Pd.Db) (u : Pd.Tx) (w : World)
set_option maxHeartbeats 4000000 in
set_option maxRecDepth 100000 in
theorem begin_ok (H : Dbw w A nilP d) (hl : d.lost = false) :
    Calls Tryz.prog 24 #[ptr A.x] w fun e w' => ∃ t bt, e = .returned (.tuple #[ptr t, .int .i64 0]) ∧ Txw w' A t bt d (tx0 d) ∧ Chg A.ft w w' ∧ w.heap.size ≤ t ∧ w.heap.size ≤ bt := by
  have HI : Hid (Calls Tryz.prog 59 #[.pointer (some ⟨A.x, 0, none⟩)] w fun e w' => e = .returned (.int .i64 0) ∧ w' = w) := idle_ok A d w H hl
  have hmm := @run_makeMap Tryz.prog
  have hxl := H.xlt
  have c4 := H.c4
  have c5 := H.c5
  have c6 := H.c6
  have c7 := H.c7
  have c8 := H.c8
  have c9 := H.c9
  have c10 := H.c10
  have c12 := H.c12
  have f12 := H.fz 12
  have HH : Hid (Dbw w A nilP d) := H
  have hpos := H.tab.pos
  clear H
  unfold nilP at c12
  unfold ptr
  go_enter Tryz.func24, Tryz.ntmps24
  go_wp2_with (go_at_call 59; refine HI.out.mono ?_; rintro e wS ⟨rfl, hwS⟩; rw [hwS]; clear hwS wS)
  go_ret2
  have hs1 : (w.setCell ⟨A.x, 12, none⟩ (.pointer (some ⟨w.heap.size + 1, 0, none⟩))).heap.size = w.heap.size := by simp [World.setCell]
  obtain ⟨hD1, hT1⟩ := HH.out.set (op' := ptr (w.heap.size + 1)) (d' := d) 12 (ptr (w.heap.size + 1)) rfl rfl rfl rfl
  have hD1 : Dbw (w.setCell ⟨A.x, 12, none⟩ (.pointer (some ⟨w.heap.size + 1, 0, none⟩))) A (ptr (w.heap.size + 1)) d := hD1
  have hM := MpAt.made (w.setCell ⟨A.x, 12, none⟩ (.pointer (some ⟨w.heap.size + 1, 0, none⟩)))
  rw [hs1] at hM
  have hs2 : ((w.setCell ⟨A.x, 12, none⟩ (.pointer (some ⟨w.heap.size + 1, 0, none⟩))).alloc (.map #[] 0)).heap.size = w.heap.size + 1 := by simp [hs1]
  have hlt := HH.out.lt
  have hr : (((w.setCell ⟨A.x, 12, none⟩ (.pointer (some ⟨w.heap.size + 1, 0, none⟩))).alloc (.map #[] 0)).alloc (.cells (txA A.x w.heap.size (tx0 d)) 66)).heap[w.heap.size + 1]? = some (.cells (txA A.x w.heap.size (tx0 d)) 66 (0, 0)) := by
    have := heap_alloc_new ((w.setCell ⟨A.x, 12, none⟩ (.pointer (some ⟨w.heap.size + 1, 0, none⟩))).alloc (.map #[] 0)) (.cells (txA A.x w.heap.size (tx0 d)) 66)
    rw [hs2] at this
    exact this
  refine ⟨w.heap.size + 1, w.heap.size, rfl, ⟨(hD1.alloc _).alloc _, hr, hM.alloc _, fun hm => by have := hlt _ hm; omega, fun hm => by have := hlt _ hm; omega, by omega, by omega, by omega⟩, ?_, by omega, Nat.le_refl _⟩
  exact hT1.chg.trans ((Chg.alloc _ _ _).trans (Chg.alloc _ _ _))
theorem begin_open (H : Dbw w A (ptr t) d) (hl : d.lost = false) :
    Calls Tryz.prog 24 #[ptr A.x] w fun e w' => e = .returned (.tuple #[nilP, .int .i64 9]) ∧ w' = w := by
  have HI : Hid (Calls Tryz.prog 59 #[.pointer (some ⟨A.x, 0, none⟩)] w fun e w' => e = .returned (.int .i64 9) ∧ w' = w) := idle_open A d w t H hl
  clear H
  unfold ptr
  go_enter Tryz.func24, Tryz.ntmps24
  go_wp2_with (go_at_call 59; refine HI.out.mono ?_; rintro e wS ⟨rfl, hwS⟩; rw [hwS]; clear hwS wS)
  go_ret2
  exact ⟨rfl, rfl⟩
theorem ckpt_open (H : Dbw w A (ptr t) d) (hl : d.lost = false) :
    Calls Tryz.prog 25 #[ptr A.x] w fun e w' => e = .returned (.int .i64 9) ∧ w' = w := by
  have HI : Hid (Calls Tryz.prog 59 #[.pointer (some ⟨A.x, 0, none⟩)] w fun e w' => e = .returned (.int .i64 9) ∧ w' = w) := idle_open A d w t H hl
  clear H
  unfold ptr
  go_enter Tryz.func25, Tryz.ntmps25
  go_wp2_with (go_at_call 59; refine HI.out.mono ?_; rintro e wS ⟨rfl, hwS⟩; rw [hwS]; clear hwS wS)
  go_ret
  exact ⟨rfl, rfl⟩
set_option maxHeartbeats 4000000 in
set_option maxRecDepth 100000 in
theorem ckpt_any (H : Dbw w A nilP d) (hl : d.lost = false) (hF : Pd.Fine d.cnt d.m) (hc : d.cnt ≤ 1000) (hn : d.n ≤ 1000000) (h1 : d.s.dn + 8 * d.m.length + 10 ≤ 90000) (h2 : d.s.pend.length + 8 * d.m.length + 10 ≤ 19000) :
    Calls Tryz.prog 25 #[ptr A.x] w (DDoes w A nilP { (Pd.setT d).1 with lost := heedB (Pd.setT d).2 } (Pd.setT d).2) := by
  have hml := Pd.fine_length H.mp.up hF
  have HI : Hid (Calls Tryz.prog 59 #[.pointer (some ⟨A.x, 0, none⟩)] w fun e w' => e = .returned (.int .i64 0) ∧ w' = w) := idle_ok A d w H hl
  have HST : Hid (Calls Tryz.prog 57 #[.pointer (some ⟨A.x, 0, none⟩)] w (DDoes w A nilP (Pd.setT d).1 (Pd.setT d).2)) := settle_any A nilP d w H hF hc (by omega) hn h1 h2
  clear H
  generalize (Pd.setT d).1 = d1 at *
  generalize (Pd.setT d).2 = e1 at *
  unfold ptr
  go_enter Tryz.func25, Tryz.ntmps25
  go_wp2_with (first | (go_at_call 59; refine HI.out.mono ?_; rintro e wS ⟨rfl, hwS⟩; rw [hwS]; clear hwS wS) | fail)
  refine HST.out.mono ?_
  rintro e w1 ⟨vr, vw, vp, rfl, hD1, hT1⟩
  have HT1 : Hid (Turn A.ft (A.to vr vw vp).ft w w1) := hT1
  have HHE : Hid (Calls Tryz.prog 60 #[.pointer (some ⟨A.x, 0, none⟩), .int .i64 e1] w1 fun e w' => e = .returned (.int .i64 e1) ∧ Dbw w' (A.to vr vw vp) nilP { d1 with lost := heedB e1 } ∧ Turn (A.to vr vw vp).ft (A.to vr vw vp).ft w1 w') := heed_any (A.to vr vw vp) nilP d1 w1 e1 hD1
  clear hD1 hT1 HST
  go_wp2_with fail
  refine HHE.out.mono ?_
  rintro e w2 ⟨rfl, hD2, hT2⟩
  have HFN : Hid (DDoes w A nilP { d1 with lost := heedB e1 } e1 (.returned (.int .i64 e1)) w2) := ⟨vr, vw, vp, rfl, hD2, HT1.out.trans hT2⟩
  clear hD2 hT2 HHE
  go_wp2
  go_ret
  exact HFN.out
end
end Go.Proofs.YtcfninpokngmlaaGreatDoor
