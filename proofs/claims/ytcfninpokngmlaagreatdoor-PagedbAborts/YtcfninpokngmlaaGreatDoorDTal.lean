/- Proved: what a transaction's Alloc and Abort make of it. -/
import Derived.Test.YtcfninpokngmlaaGreatDoorDTl
namespace Go.Proofs.YtcfninpokngmlaaGreatDoor
open Go.RowKit
def upSt (s : Pd.Stt) : Pd.Stt := { s with high := s.high + 1 }
def allocU (u : Pd.Tx) (s : Pd.Stt) (id : Nat) : Pd.Tx := { st := s, m := Pd.set (Pd.set u.m id Pd.page1) 0 s.sheet, sp := u.sp }
def ADoes (w : World) (A : Ad) (t bt : Nat) (d : Pd.Db) (u : Pd.Tx) (id : Nat) (n : Int) (e : Ending) (w' : World) : Prop := e = .returned (.tuple #[.int .i64 (id : Int), .int .i64 n]) ∧ Txw w' A t bt d u ∧ Turn (tft A t bt) (tft A t bt) w w'
section
variable (A : Ad) (t bt : Nat) (d : Pd.Db) (u : Pd.Tx) (w : World)
/- the page is there, and page 0 is told -/
theorem alloc_tail (s : Pd.Stt) (id : Nat) (hid : id ≤ 1000000) (w1 : World) (hl : u.m.length ≤ 90000) (hX : Txw w1 A t bt d { u with st := s }) (hT : Turn (tft A t bt) (tft A t bt) w w1) :
    ∃ w2, (Instr.mapUpdate 59 (.map (some bt)) (.int .i64 (id : Int)) (.agg #[.int .i64 1, .string ⟨#[]⟩])).run Tryz.prog w1 = .ok () w2 ∧ Calls Tryz.prog 64 #[.pointer (some ⟨t, 0, none⟩)] w2 (fun e w' => e = .returned (.tuple #[]) ∧ ADoes w A t bt d (allocU u s id) id 0 (.returned (.tuple #[.int .i64 (id : Int), .int .i64 0])) w') := by
  obtain ⟨w2, hrun, hM2, hg2⟩ := mp_put_run hX.mp (by show u.m.length ≤ _; omega) id (by omega) Pd.page1
  obtain ⟨hX2, hT2⟩ := hX.map hM2 hg2
  have hll := Pd.set_length_le Pd.page1 id u.m
  refine ⟨w2, hrun, (mark_any A t bt d _ w2 hX2 (by show (Pd.set u.m id Pd.page1).length ≤ _; omega)).mono ?_⟩
  rintro e w3 ⟨rfl, hX3, hT3⟩
  exact ⟨rfl, rfl, hX3, hT.trans (hT2.trans hT3)⟩
set_option maxHeartbeats 4000000 in
set_option maxRecDepth 100000 in
theorem talloc_full (H : Txw w A t bt d u) (hF : Fits d) (h0 : u.st.last = 0) (hh : d.cnt ≤ u.st.high) :
    Calls Tryz.prog 27 #[ptr t] w fun e w' => e = .returned (.tuple #[.int .i64 0, .int .i64 7]) ∧ w' = w := by
  have HRE : Hid (Calls Tryz.prog 62 #[.pointer (some ⟨t, 0, none⟩)] w fun e w' => e = .returned (.int .i64 0) ∧ w' = w) := tready_ok A t bt d u w H hF.lost
  have c0 : w.cell? ⟨t, 0, none⟩ = some (.pointer (some ⟨A.x, 0, none⟩)) := H.c0
  have c1 := H.c1
  have c3 := H.c3
  have x3 := H.db.c3
  rw [h0] at c3
  have d1 : decide ((d.cnt : Int) ≤ (u.st.high : Int)) = true := decide_eq_true (by omega)
  clear H h0
  unfold ptr
  go_enter Tryz.func27, Tryz.ntmps27
  go_wp2_with (go_at_call 62; refine HRE.out.mono ?_; rintro e w' ⟨rfl, rfl⟩)
  go_ret2
  exact ⟨rfl, rfl⟩
set_option maxHeartbeats 4000000 in
set_option maxRecDepth 100000 in
theorem talloc_high (H : Txw w A t bt d u) (hF : Fits d) (hl : u.m.length ≤ 90000) (h0 : u.st.last = 0) (hh : u.st.high < d.cnt) :
    Calls Tryz.prog 27 #[ptr t] w (ADoes w A t bt d (allocU u (upSt u.st) u.st.high) u.st.high 0) := by
  have HRE : Hid (Calls Tryz.prog 62 #[.pointer (some ⟨t, 0, none⟩)] w fun e w' => e = .returned (.int .i64 0) ∧ w' = w) := tready_ok A t bt d u w H hF.lost
  have hc := hF.cnt
  have c0 : w.cell? ⟨t, 0, none⟩ = some (.pointer (some ⟨A.x, 0, none⟩)) := H.c0
  have c1 := H.c1
  have c3 := H.c3
  have c8 := H.c8
  have f1 := H.fz 1
  have x3 := H.db.c3
  rw [h0] at c3
  obtain ⟨hX1, hT1⟩ := H.set (u' := { u with st := upSt u.st }) 1 (.int .i64 ((u.st.high + 1 : Nat) : Int)) rfl rfl
  have hadd : ((u.st.high + 1 : Nat) : Int) = (u.st.high : Int) + 1 := by omega
  rw [hadd] at hX1 hT1
  obtain ⟨w2, hrun, hmk⟩ := alloc_tail A t bt d u w (upSt u.st) u.st.high (by omega) _ hl hX1 hT1
  have HMK := (show Hid _ from hmk)
  have hwr : IntKind.i64.wrap ((u.st.high : Int) + 1) = (u.st.high : Int) + 1 := by rw [IntKind.wrap_i64]; omega
  have d1 : decide ((d.cnt : Int) ≤ (u.st.high : Int)) = false := decide_eq_false (by omega)
  clear H h0 hX1 hT1 hadd hmk
  unfold ptr
  go_enter Tryz.func27, Tryz.ntmps27
  go_wp2_with (first | (go_at_call 62; refine HRE.out.mono ?_; rintro e w' ⟨rfl, rfl⟩) | (go_at_call 64; refine (show Calls _ _ _ _ _ from HMK.out).mono ?_; rintro e w' ⟨rfl, hFN⟩))
  go_ret2
  exact hFN
set_option maxHeartbeats 4000000 in
set_option maxRecDepth 100000 in
theorem talloc_last (a : Nat) (H : Txw w A t bt d u) (hF : Fits d) (hl : u.m.length ≤ 90000) (h0 : u.st.last ≠ 0) (hlt : u.st.last < d.cnt) (hfr : 1 ≤ u.st.free) (hfr2 : u.st.free ≤ 1000) (hS : (unSt u.st a).Small d.cnt) (hx : Pd.TSees u d u.st.last (Pd.freeSheet a)) :
    Calls Tryz.prog 27 #[ptr t] w (ADoes w A t bt d (allocU u (unSt u.st a) u.st.last) u.st.last 0) := by
  have HRE : Hid (Calls Tryz.prog 62 #[.pointer (some ⟨t, 0, none⟩)] w fun e w' => e = .returned (.int .i64 0) ∧ w' = w) := tready_ok A t bt d u w H hF.lost
  have HUN : Hid (Calls Tryz.prog 63 #[.pointer (some ⟨t, 0, none⟩)] w (TDoes w A t bt d { u with st := unSt u.st a } 0)) := unlink_any A t bt d u w a H hF hlt hfr hfr2 hS hx
  have hc := hF.cnt
  have c3 := H.c3
  have hb : ((u.st.last : Int) == 0) = false := beq_false_of_ne (by omega)
  clear H hx hS
  unfold ptr
  go_enter Tryz.func27, Tryz.ntmps27
  go_wp2_with (first | (go_at_call 62; refine HRE.out.mono ?_; rintro e wS ⟨rfl, hwS⟩; rw [hwS]; clear hwS wS) | fail)
  refine HUN.out.mono ?_
  rintro e w1 ⟨rfl, hX1, hT1⟩
  obtain ⟨w2, hrun, hmk⟩ := alloc_tail A t bt d u w (unSt u.st a) u.st.last (by omega) w1 hl hX1 hT1
  have HMK := (show Hid _ from hmk)
  have c8 : w1.cell? ⟨t, 8, none⟩ = some (.map (some bt)) := hX1.c8
  clear hX1 hT1 hmk HUN c3
  go_wp2_with (first | (go_at_call 64; refine (show Calls _ _ _ _ _ from HMK.out).mono ?_; rintro e w' ⟨rfl, hFN⟩))
  go_ret2
  exact hFN
def TxEnd (w : World) (t : Nat) : Prop := w.heap[t]? = some (.cells txZ 66 (0, 0))
theorem zeroTx (w : World) : (zeroValue 66).run Tryz.prog w = .ok (.agg txZ) w := by kernel_rfl
set_option maxHeartbeats 4000000 in
set_option maxRecDepth 100000 in
theorem tabort_any (H : Txw w A t bt d u) :
    Calls Tryz.prog 28 #[ptr t] w fun e w' => e = .returned (.tuple #[]) ∧ Dbw w' A nilP d ∧ TxEnd w' t ∧ Chg (tft A t bt) w w' := by
  have HO : Hid (Calls Tryz.prog 51 #[.pointer (some ⟨t, 0, none⟩)] w fun e w' => e = .returned (.bool true) ∧ w' = w) := isopen_yes A t bt d u w H
  have c0 : w.cell? ⟨t, 0, none⟩ = some (.pointer (some ⟨A.x, 0, none⟩)) := H.c0
  have x12 := H.db.c12
  have g12 := H.db.fz 12
  obtain ⟨hD1, hT1⟩ := H.db.set (op' := nilP) (d' := d) 12 nilP rfl rfl rfl rfl
  have hr1 : (w.setCell ⟨A.x, 12, none⟩ nilP).heap[t]? = some (.cells (txA A.x bt u) 66 (0, 0)) := (hT1.chg.block t H.tlt H.ta).trans H.row
  have HD1 : Hid (Dbw (w.setCell ⟨A.x, 12, none⟩ (.pointer none)) A nilP d) := hD1
  have HR1 : Hid ((w.setCell ⟨A.x, 12, none⟩ (.pointer none)).heap[t]? = some (.cells (txA A.x bt u) 66 (0, 0))) := hr1
  have HC1 : Hid (Chg (tft A t bt) w (w.setCell ⟨A.x, 12, none⟩ (.pointer none))) := hT1.chg.mono (fun k hk => tft_a hk)
  have HTA : Hid (t ∉ A.ft ∧ t ≠ 0) := ⟨H.ta, H.z.1⟩
  have hz := zeroTx
  unfold txZ at hz
  have c1 := H.c1
  have c2 := H.c2
  have c3 := H.c3
  have c4 := H.c4
  have c5 := H.c5
  have c6 := H.c6
  have c7 := H.c7
  have c8 := H.c8
  have c9 := H.c9
  have f0 := H.fz 0
  have f1 := H.fz 1
  have f2 := H.fz 2
  have f3 := H.fz 3
  have f4 := H.fz 4
  have f5 := H.fz 5
  have f6 := H.fz 6
  have f7 := H.fz 7
  have f8 := H.fz 8
  have f9 := H.fz 9
  have hne : A.x ≠ t := fun e => H.ta (by rw [← e]; exact A.mx)
  have hne2 : t ≠ A.x := fun e => hne e.symm
  clear H hD1 hT1 hr1
  unfold ptr
  go_enter Tryz.func28, Tryz.ntmps28
  go_wp2_with (go_at_call 51; refine HO.out.mono ?_; rintro e wS ⟨rfl, hwS⟩; rw [hwS]; clear hwS wS)
  go_end0
  have hc : Chg [t] (w.setCell ⟨A.x, 12, none⟩ (.pointer none)) ((w.setCell ⟨A.x, 12, none⟩ (.pointer none)).setCells t 0 [.pointer none, .int .i64 0, .int .i64 0, .int .i64 0, .int .i64 0, .int .i64 0, .int .i64 0, .int .i64 0, .map none, .bool false]) := Chg.setCells t _ _ _
  refine ⟨rfl, HD1.out.keep hc (fun k hk e => HTA.out.1 (by rw [← List.mem_singleton.1 e]; exact hk)) (fun e => HTA.out.2 (List.mem_singleton.1 e).symm), ?_, HC1.out.trans (hc.mono (fun k hk => by rw [List.mem_singleton.1 hk]; exact tft_t))⟩
  have hr := HR1.out
  have e : txA A.x bt u = [ptr A.x, .int .i64 (u.st.high : Int), .int .i64 (u.st.free : Int), .int .i64 (u.st.last : Int), .int .i64 (u.st.r0 : Int), .int .i64 (u.st.r1 : Int), .int .i64 (u.st.r2 : Int), .int .i64 (u.st.r3 : Int), .map (some bt), .bool u.sp].toArray := rfl
  rw [e] at hr
  have h2 := setCells_splice t 66 [.pointer none, .int .i64 0, .int .i64 0, .int .i64 0, .int .i64 0, .int .i64 0, .int .i64 0, .int .i64 0, .map none, .bool false] 0 _ _ hr (by simp)
  exact h2
end
end Go.Proofs.YtcfninpokngmlaaGreatDoor
