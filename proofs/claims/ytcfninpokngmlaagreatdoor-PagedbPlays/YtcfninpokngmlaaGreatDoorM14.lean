/- Proved: what Begin, Checkpoint and Commit make of a database. -/
import Derived.Test.YtcfninpokngmlaaGreatDoorM13
import Derived.Test.YtcfninpokngmlaaGreatDoorM06
namespace Go.Proofs.YtcfninpokngmlaaGreatDoor
open Go.RowKit
def tx0 (d : Pd.Db) : Pd.Tx := ⟨d.st, [], false⟩
section
variable (A : Ad) (t bt : Nat) (d : Pd.Db) (u : Pd.Tx) (w : World)
set_option maxHeartbeats 4000000 in
set_option maxRecDepth 100000 in
theorem begin_ok (H : Dbw w A nilP d) (hl : d.lost = false) :
    Calls Tryz.prog 24 #[ptr A.x] w fun e w' => ∃ t bt, e = .returned (.tuple #[ptr t, .int .i64 0]) ∧ Txw w' A t bt d (tx0 d) ∧ Chg A.ft w w' ∧ w.heap.size ≤ t ∧ w.heap.size ≤ bt := by
  have HI : Hid (Calls Tryz.prog 59 #[.pointer (some ⟨A.x, 0, none⟩)] w fun e w' => e = .returned (.int .i64 0) ∧ w' = w) := idle_ok A d w H hl
  have hmm := @run_makeMap Tryz.prog
  have hxl := H.xlt
  have c4 := H.c4
  have c5 := H.c5
  have c6 := H.c6
  have c7 := H.c7
  have c8 := H.c8
  have c9 := H.c9
  have c10 := H.c10
  have c12 := H.c12
  have f12 := H.fz 12
  have HH : Hid (Dbw w A nilP d) := H
  have hpos := H.tab.pos
  clear H
  unfold nilP at c12
  unfold ptr
  go_enter Tryz.func24, Tryz.ntmps24
  go_wp2_with (go_at_call 59; refine HI.out.mono ?_; rintro e wS ⟨rfl, hwS⟩; rw [hwS]; clear hwS wS)
  go_ret2
  have hs1 : (w.setCell ⟨A.x, 12, none⟩ (.pointer (some ⟨w.heap.size + 1, 0, none⟩))).heap.size = w.heap.size := by simp [World.setCell]
  obtain ⟨hD1, hT1⟩ := HH.out.set (op' := ptr (w.heap.size + 1)) (d' := d) 12 (ptr (w.heap.size + 1)) rfl rfl rfl rfl
  have hD1 : Dbw (w.setCell ⟨A.x, 12, none⟩ (.pointer (some ⟨w.heap.size + 1, 0, none⟩))) A (ptr (w.heap.size + 1)) d := hD1
  have hM := MpAt.made (w.setCell ⟨A.x, 12, none⟩ (.pointer (some ⟨w.heap.size + 1, 0, none⟩)))
  rw [hs1] at hM
  have hs2 : ((w.setCell ⟨A.x, 12, none⟩ (.pointer (some ⟨w.heap.size + 1, 0, none⟩))).alloc (.map #[] 0)).heap.size = w.heap.size + 1 := by simp [hs1]
  have hlt := HH.out.lt
  have hr : (((w.setCell ⟨A.x, 12, none⟩ (.pointer (some ⟨w.heap.size + 1, 0, none⟩))).alloc (.map #[] 0)).alloc (.cells (txA A.x w.heap.size (tx0 d)) 66)).heap[w.heap.size + 1]? = some (.cells (txA A.x w.heap.size (tx0 d)) 66 (0, 0)) := by
    have := heap_alloc_new ((w.setCell ⟨A.x, 12, none⟩ (.pointer (some ⟨w.heap.size + 1, 0, none⟩))).alloc (.map #[] 0)) (.cells (txA A.x w.heap.size (tx0 d)) 66)
    rw [hs2] at this
    exact this
  refine ⟨w.heap.size + 1, w.heap.size, rfl, ⟨(hD1.alloc _).alloc _, hr, hM.alloc _, fun hm => by have := hlt _ hm; omega, fun hm => by have := hlt _ hm; omega, by omega, by omega, by omega⟩, ?_, by omega, Nat.le_refl _⟩
  exact hT1.chg.trans ((Chg.alloc _ _ _).trans (Chg.alloc _ _ _))
set_option maxHeartbeats 4000000 in
set_option maxRecDepth 100000 in
theorem ckpt_any (H : Dbw w A nilP d) (hl : d.lost = false) (hF : Pd.Fine d.cnt d.m) (hc : d.cnt ≤ 1000) (hn : d.n ≤ 1000000) (h1 : d.s.dn + 8 * d.m.length + 10 ≤ 90000) (h2 : d.s.pend.length + 8 * d.m.length + 10 ≤ 19000) :
    Calls Tryz.prog 25 #[ptr A.x] w (DDoes w A nilP { (Pd.setT d).1 with lost := heedB (Pd.setT d).2 } (Pd.setT d).2) := by
  have hml := Pd.fine_length H.mp.up hF
  have HI : Hid (Calls Tryz.prog 59 #[.pointer (some ⟨A.x, 0, none⟩)] w fun e w' => e = .returned (.int .i64 0) ∧ w' = w) := idle_ok A d w H hl
  have HST : Hid (Calls Tryz.prog 57 #[.pointer (some ⟨A.x, 0, none⟩)] w (DDoes w A nilP (Pd.setT d).1 (Pd.setT d).2)) := settle_any A nilP d w H hF hc (by omega) hn h1 h2
  clear H
  generalize (Pd.setT d).1 = d1 at *
  generalize (Pd.setT d).2 = e1 at *
  unfold ptr
  go_enter Tryz.func25, Tryz.ntmps25
  go_wp2_with (first | (go_at_call 59; refine HI.out.mono ?_; rintro e wS ⟨rfl, hwS⟩; rw [hwS]; clear hwS wS) | fail)
  refine HST.out.mono ?_
  rintro e w1 ⟨vr, vw, vp, rfl, hD1, hT1⟩
  have HT1 : Hid (Turn A.ft (A.to vr vw vp).ft w w1) := hT1
  have HHE : Hid (Calls Tryz.prog 60 #[.pointer (some ⟨A.x, 0, none⟩), .int .i64 e1] w1 fun e w' => e = .returned (.int .i64 e1) ∧ Dbw w' (A.to vr vw vp) nilP { d1 with lost := heedB e1 } ∧ Turn (A.to vr vw vp).ft (A.to vr vw vp).ft w1 w') := heed_any (A.to vr vw vp) nilP d1 w1 e1 hD1
  clear hD1 hT1 HST
  go_wp2_with fail
  refine HHE.out.mono ?_
  rintro e w2 ⟨rfl, hD2, hT2⟩
  have HFN : Hid (DDoes w A nilP { d1 with lost := heedB e1 } e1 (.returned (.int .i64 e1)) w2) := ⟨vr, vw, vp, rfl, hD2, HT1.out.trans hT2⟩
  clear hD2 hT2 HHE
  go_wp2
  go_ret
  exact HFN.out
end
end Go.Proofs.YtcfninpokngmlaaGreatDoor
/- Proved: what Commit makes of a database. -/
namespace Go.Proofs.YtcfninpokngmlaaGreatDoor
open Go.RowKit
def comR (d : Pd.Db) (u : Pd.Tx) : Int := if u.sp = true then 9 else if holdsB d.n u.m.length = false then 7 else 0
section
variable (A : Ad) (t bt : Nat) (d : Pd.Db) (u : Pd.Tx) (w : World)
/- a commit that takes nothing: it is spoilt, or too great, or has changed nothing -/
set_option maxHeartbeats 4000000 in
set_option maxRecDepth 100000 in
theorem commit_no (H : Txw w A t bt d u) (hF : Fits d) (hn1 : 1 ≤ d.n) (hml : u.m.length ≤ 1000) (hc : u.sp = true ∨ holdsB d.n u.m.length = false ∨ u.m = []) :
    Calls Tryz.prog 33 #[ptr t] w fun e w' => e = .returned (.int .i64 (comR d u)) ∧ Dbw w' A nilP d ∧ TxEnd w' t ∧ Chg (tft A t bt) w w' := by
  have HRE : Hid (Calls Tryz.prog 62 #[.pointer (some ⟨t, 0, none⟩)] w fun e w' => e = .returned (.int .i64 0) ∧ w' = w) := tready_ok A t bt d u w H hF.lost
  have HCH : Hid (Calls Tryz.prog 14 #[.pointer (some ⟨t, 0, none⟩)] w fun e w' => e = .returned (.int .i64 (u.m.length : Int)) ∧ w' = w) := changed_any A t bt d u w H
  have HHO : Hid (Calls Tryz.prog 67 #[.pointer (some ⟨A.x, 0, none⟩), .int .i64 (u.m.length : Int)] w fun e w' => e = .returned (.bool (holdsB d.n u.m.length)) ∧ w' = w) := holds_any A (ptr t) d w u.m.length H.db hn1 (by have := hF.n; omega) (by omega)
  have HAB : Hid (Calls Tryz.prog 28 #[.pointer (some ⟨t, 0, none⟩)] w fun e w' => e = .returned (.tuple #[]) ∧ Dbw w' A nilP d ∧ TxEnd w' t ∧ Chg (tft A t bt) w w') := tabort_any A t bt d u w H
  have c0 : w.cell? ⟨t, 0, none⟩ = some (.pointer (some ⟨A.x, 0, none⟩)) := H.c0
  have c9 := H.c9
  have x13 := H.db.c13
  rw [hF.lost] at x13
  have HCR : Hid (comR d u = if u.sp = true then 9 else if holdsB d.n u.m.length = false then 7 else 0) := rfl
  generalize hcr : comR d u = R at *
  clear H hcr
  unfold ptr
  by_cases h1 : u.sp = true
  · rw [h1] at c9
    rw [if_pos h1] at HCR
    rw [HCR.out]
    clear hc h1
    go_enter Tryz.func33, Tryz.ntmps33
    go_wp2_with (first | (go_at_call 62; refine HRE.out.mono ?_; rintro e wS ⟨rfl, hwS⟩; rw [hwS]; clear hwS wS) | (go_at_call 14; refine HCH.out.mono ?_; rintro e wS ⟨rfl, hwS⟩; rw [hwS]; clear hwS wS) | (go_at_call 28; refine HAB.out.mono ?_; rintro e w1 ⟨rfl, hFN⟩))
    go_ret
    exact ⟨rfl, hFN⟩
  · have h1' : u.sp = false := by simpa using h1
    rw [h1'] at c9
    rw [if_neg h1] at HCR
    by_cases h2 : holdsB d.n u.m.length = false
    · rw [h2] at HHO
      rw [if_pos h2] at HCR
      rw [HCR.out]
      clear hc h1 h1' h2
      go_enter Tryz.func33, Tryz.ntmps33
      go_wp2_with (first | (go_at_call 62; refine HRE.out.mono ?_; rintro e wS ⟨rfl, hwS⟩; rw [hwS]; clear hwS wS) | (go_at_call 14; refine HCH.out.mono ?_; rintro e wS ⟨rfl, hwS⟩; rw [hwS]; clear hwS wS) | (go_at_call 67; refine HHO.out.mono ?_; rintro e wS ⟨rfl, hwS⟩; rw [hwS]; clear hwS wS) | (go_at_call 28; refine HAB.out.mono ?_; rintro e w1 ⟨rfl, hFN⟩))
      go_ret
      exact ⟨rfl, hFN⟩
    · have h2' : holdsB d.n u.m.length = true := by simpa using h2
      rw [h2'] at HHO
      rw [if_neg h2] at HCR
      rw [HCR.out]
      have hm : u.m.length = 0 := by
        rcases hc with h | h | h
        · exact absurd h h1
        · exact absurd h h2
        · rw [h]; rfl
      rw [hm] at HCH HHO
      have HCH : Hid (Calls Tryz.prog 14 #[.pointer (some ⟨t, 0, none⟩)] w fun e w' => e = .returned (.int .i64 0) ∧ w' = w) := HCH
      have HHO : Hid (Calls Tryz.prog 67 #[.pointer (some ⟨A.x, 0, none⟩), .int .i64 0] w fun e w' => e = .returned (.bool true) ∧ w' = w) := HHO
      clear hc h1 h1' h2 h2' hm
      go_enter Tryz.func33, Tryz.ntmps33
      go_wp2_with (first | (go_at_call 62; refine HRE.out.mono ?_; rintro e wS ⟨rfl, hwS⟩; rw [hwS]; clear hwS wS) | (go_at_call 14; refine HCH.out.mono ?_; rintro e wS ⟨rfl, hwS⟩; rw [hwS]; clear hwS wS) | (go_at_call 67; refine HHO.out.mono ?_; rintro e wS ⟨rfl, hwS⟩; rw [hwS]; clear hwS wS) | (go_at_call 28; refine HAB.out.mono ?_; rintro e w1 ⟨rfl, hFN⟩))
      go_ret
      exact ⟨rfl, hFN⟩
/- what a commit that takes leaves -/
def ComPost (w : World) (A : Ad) (t bt : Nat) (d1 : Pd.Db) (e1 : Int) (e : Ending) (w' : World) : Prop :=
  e = .returned (.int .i64 e1) ∧ ∃ vr vw vp, ((heedB e1 = false ∧ Dbw w' (A.to vr vw vp) nilP { d1 with lost := false } ∧ TxEnd w' t) ∨ (heedB e1 = true ∧ Dbw w' (A.to vr vw vp) (ptr t) { d1 with lost := true })) ∧ Turn (tft A t bt) (tft (A.to vr vw vp) t bt) w w'
set_option maxHeartbeats 8000000 in
set_option maxRecDepth 100000 in
theorem commit_take (H : Txw w A t bt d u) (hF : Fits d) (hn1 : 1 ≤ d.n) (hsp : u.sp = false) (hho : holdsB d.n u.m.length = true) (hne : u.m ≠ []) (hFm : Pd.Fine d.cnt d.m) (hFt : Pd.Fine d.cnt u.m)
    (h1 : d.s.dn + 8 * d.m.length + 10 ≤ 80000) (h2 : d.s.pend.length + 8 * d.m.length + 10 ≤ 18000) (h3 : (Pd.takeA d u.m).1.s.dn + (Pd.takeA d u.m).1.l.n ≤ 90000) (h4 : (Pd.takeA d u.m).1.s.pend.length + (Pd.takeA d u.m).1.l.n ≤ 19000)
    (htl : (Pd.takeA d u.m).2 = 0 → Wl.addE (Pd.takeA d u.m).1.l (Pd.recText d.n u.m) = 0 → (Pd.takeA d u.m).1.s.down = false ∧ ∀ j, j < (Pd.takeA d u.m).1.l.bytes.size % 64 → (Sc.now (Pd.takeA d u.m).1.s ((Pd.takeA d u.m).1.l.base + 1 + (Pd.takeA d u.m).1.l.bytes.size / 64)).data.toList[j]? = (Pd.takeA d u.m).1.l.bytes.data.toList[64 * ((Pd.takeA d u.m).1.l.bytes.size / 64) + j]?) :
    Calls Tryz.prog 33 #[ptr t] w (ComPost w A t bt (Pd.takeT d u.m u.st).1 (Pd.takeT d u.m u.st).2) := by
  have hml := Pd.fine_length H.mp.up hFt
  have hcn := hF.cnt
  have HRE : Hid (Calls Tryz.prog 62 #[.pointer (some ⟨t, 0, none⟩)] w fun e w' => e = .returned (.int .i64 0) ∧ w' = w) := tready_ok A t bt d u w H hF.lost
  have HCH : Hid (Calls Tryz.prog 14 #[.pointer (some ⟨t, 0, none⟩)] w fun e w' => e = .returned (.int .i64 (u.m.length : Int)) ∧ w' = w) := changed_any A t bt d u w H
  have HHO : Hid (Calls Tryz.prog 67 #[.pointer (some ⟨A.x, 0, none⟩), .int .i64 (u.m.length : Int)] w fun e w' => e = .returned (.bool true) ∧ w' = w) := by
    have := holds_any A (ptr t) d w u.m.length H.db hn1 (by have := hF.n; omega) (by omega)
    rw [hho] at this
    exact this
  have HTK : Hid (Calls Tryz.prog 68 #[.pointer (some ⟨A.x, 0, none⟩), .map (some bt), .agg #[.int .i64 (u.st.high : Int), .int .i64 (u.st.free : Int), .int .i64 (u.st.last : Int), .int .i64 (u.st.r0 : Int), .int .i64 (u.st.r1 : Int), .int .i64 (u.st.r2 : Int), .int .i64 (u.st.r3 : Int)]] w.drew (DDoes w.drew A (ptr t) (Pd.takeT d u.m u.st).1 (Pd.takeT d u.m u.st).2)) := dtake_any A (ptr t) d bt u.m u.st w.drew H.db.drew (H.mp.keep rfl) H.ba hFm hFt hF.cnt hF.n h1 h2 h3 h4 htl
  have HH : Hid (Txw w A t bt d u) := H
  have c0 : w.cell? ⟨t, 0, none⟩ = some (.pointer (some ⟨A.x, 0, none⟩)) := H.c0
  have c9 := H.c9
  rw [hsp] at c9
  have hpos : 0 < u.m.length := Nat.pos_of_ne_zero (fun e => hne (List.length_eq_zero_iff.1 e))
  have dp : decide ((0 : Int) < (u.m.length : Int)) = true := decide_eq_true (by omega)
  clear H htl hsp hho hne h1 h2 h3 h4
  generalize hd1 : (Pd.takeT d u.m u.st).1 = d1 at *
  generalize he1 : (Pd.takeT d u.m u.st).2 = e1 at *
  clear hd1 he1
  unfold ptr
  go_enter Tryz.func33, Tryz.ntmps33
  go_wp2_with (first | (go_at_call 62; refine HRE.out.mono ?_; rintro e wS ⟨rfl, hwS⟩; rw [hwS]; clear hwS wS) | (go_at_call 14; refine HCH.out.mono ?_; rintro e wS ⟨rfl, hwS⟩; rw [hwS]; clear hwS wS) | (go_at_call 67; refine HHO.out.mono ?_; rintro e wS ⟨rfl, hwS⟩; rw [hwS]; clear hwS wS))
  have HS : Hid (TS A t bt u w) := HH.out.row
  refine wp_region_held_drew (S := TS A t bt u) (by kernel_rfl) HS.out (fun _ => ?_)
  refine heldTake 0 (some 28) (.pointer (some ⟨t, 0, none⟩)) rfl rfl (by kernel_rfl) (by kernel_rfl) (by kernel_rfl) (fun _ _ _ h => h) (Or.inl ⟨by rfl, fun w hS => ?_⟩) HS.out ?_
  · (go_simp)
  simp only [Act.put, List.setIfInBounds_toArray, List.set_cons_zero, List.set_cons_succ]
  refine heldTake 1 (some 29) (.pointer (some ⟨t, 0, none⟩)) rfl rfl (by kernel_rfl) (by kernel_rfl) (by kernel_rfl) (fun _ _ _ h => h) (Or.inl ⟨by rfl, fun w hS => ?_⟩) HS.out ?_
  · (go_simp)
  simp only [Act.put, List.setIfInBounds_toArray, List.set_cons_zero, List.set_cons_succ]
  refine heldTake 2 (some 30) (.pointer (some ⟨t, 0, none⟩)) rfl rfl (by kernel_rfl) (by kernel_rfl) (by kernel_rfl) (fun _ _ _ h => h) (Or.inl ⟨by rfl, fun w hS => ?_⟩) HS.out ?_
  · (go_simp)
  simp only [Act.put, List.setIfInBounds_toArray, List.set_cons_zero, List.set_cons_succ]
  refine heldTake 3 (some 31) (.pointer (some ⟨A.x, 0, none⟩)) rfl rfl (by kernel_rfl) (by kernel_rfl) (by kernel_rfl) (fun _ _ _ h => h) (Or.inl ⟨by rfl, fun w hS => ?_⟩) HS.out ?_
  · (have p0 : _ = some (Value.pointer (some ⟨A.x, 0, none⟩)) := cell_of_row w t 0 _ _ (0, 0) hS; clear hS; go_simp)
  simp only [Act.put, List.setIfInBounds_toArray, List.set_cons_zero, List.set_cons_succ]
  refine heldTake 4 (some 32) (.pointer (some ⟨t, 0, none⟩)) rfl rfl (by kernel_rfl) (by kernel_rfl) (by kernel_rfl) (fun _ _ _ h => h) (Or.inl ⟨by rfl, fun w hS => ?_⟩) HS.out ?_
  · (go_simp)
  simp only [Act.put, List.setIfInBounds_toArray, List.set_cons_zero, List.set_cons_succ]
  refine heldTake 5 (some 33) (.pointer (some ⟨t, 0, none⟩)) rfl rfl (by kernel_rfl) (by kernel_rfl) (by kernel_rfl) (fun _ _ _ h => h) (Or.inl ⟨by rfl, fun w hS => ?_⟩) HS.out ?_
  · (go_simp)
  simp only [Act.put, List.setIfInBounds_toArray, List.set_cons_zero, List.set_cons_succ]
  refine heldTake 6 (some 34) (.pointer (some ⟨t, 0, none⟩)) rfl rfl (by kernel_rfl) (by kernel_rfl) (by kernel_rfl) (fun _ _ _ h => h) (Or.inl ⟨by rfl, fun w hS => ?_⟩) HS.out ?_
  · (go_simp)
  simp only [Act.put, List.setIfInBounds_toArray, List.set_cons_zero, List.set_cons_succ]
  refine heldTake 7 (some 35) (.pointer (some ⟨A.x, 0, none⟩)) rfl rfl (by kernel_rfl) (by kernel_rfl) (by kernel_rfl) (fun _ _ _ h => h) (Or.inl ⟨by rfl, fun w hS => ?_⟩) HS.out ?_
  · (have p0 : _ = some (Value.pointer (some ⟨A.x, 0, none⟩)) := cell_of_row w t 0 _ _ (0, 0) hS; clear hS; go_simp)
  simp only [Act.put, List.setIfInBounds_toArray, List.set_cons_zero, List.set_cons_succ]
  refine heldTake 8 (some 36) (.pointer (some ⟨t, 0, none⟩)) rfl rfl (by kernel_rfl) (by kernel_rfl) (by kernel_rfl) (fun _ _ _ h => h) (Or.inl ⟨by rfl, fun w hS => ?_⟩) HS.out ?_
  · (go_simp)
  simp only [Act.put, List.setIfInBounds_toArray, List.set_cons_zero, List.set_cons_succ]
  refine heldTake 9 (some 37) (.pointer (some ⟨t, 0, none⟩)) rfl rfl (by kernel_rfl) (by kernel_rfl) (by kernel_rfl) (fun _ _ _ h => h) (Or.inl ⟨by rfl, fun w hS => ?_⟩) HS.out ?_
  · (go_simp)
  simp only [Act.put, List.setIfInBounds_toArray, List.set_cons_zero, List.set_cons_succ]
  refine heldTake 10 (some 38) (.pointer (some ⟨t, 8, none⟩)) rfl rfl (by kernel_rfl) (by kernel_rfl) (by kernel_rfl) (fun _ _ _ h => h) (Or.inl ⟨by rfl, fun w hS => ?_⟩) HS.out ?_
  · (go_simp)
  simp only [Act.put, List.setIfInBounds_toArray, List.set_cons_zero, List.set_cons_succ]
  refine heldTake 11 (some 39) (.map (some bt)) rfl rfl (by kernel_rfl) (by kernel_rfl) (by kernel_rfl) (fun _ _ _ h => h) (Or.inl ⟨by rfl, fun w hS => ?_⟩) HS.out ?_
  · (have p8 : _ = some (Value.map (some bt)) := cell_of_row w t 8 _ _ (0, 0) hS; clear hS; go_simp)
  simp only [Act.put, List.setIfInBounds_toArray, List.set_cons_zero, List.set_cons_succ]
  refine heldTake 12 (some 40) (.pointer (some ⟨t, 0, none⟩)) rfl rfl (by kernel_rfl) (by kernel_rfl) (by kernel_rfl) (fun _ _ _ h => h) (Or.inl ⟨by rfl, fun w hS => ?_⟩) HS.out ?_
  · (go_simp)
  simp only [Act.put, List.setIfInBounds_toArray, List.set_cons_zero, List.set_cons_succ]
  refine heldTake 13 (some 41) (.pointer (some ⟨t, 0, none⟩)) rfl rfl (by kernel_rfl) (by kernel_rfl) (by kernel_rfl) (fun _ _ _ h => h) (Or.inl ⟨by rfl, fun w hS => ?_⟩) HS.out ?_
  · (go_simp)
  simp only [Act.put, List.setIfInBounds_toArray, List.set_cons_zero, List.set_cons_succ]
  refine heldTake 14 (some 42) (.pointer (some ⟨t, 1, none⟩)) rfl rfl (by kernel_rfl) (by kernel_rfl) (by kernel_rfl) (fun _ _ _ h => h) (Or.inl ⟨by rfl, fun w hS => ?_⟩) HS.out ?_
  · (go_simp)
  simp only [Act.put, List.setIfInBounds_toArray, List.set_cons_zero, List.set_cons_succ]
  refine heldTake 15 (some 43) (.agg #[.int .i64 (u.st.high : Int), .int .i64 (u.st.free : Int), .int .i64 (u.st.last : Int), .int .i64 (u.st.r0 : Int), .int .i64 (u.st.r1 : Int), .int .i64 (u.st.r2 : Int), .int .i64 (u.st.r3 : Int)]) rfl rfl (by kernel_rfl) (by kernel_rfl) (by kernel_rfl) (fun _ _ _ h => h) (Or.inl ⟨by rfl, fun w hS => ?_⟩) HS.out ?_
  · (have p1 : _ = some (Value.int .i64 (u.st.high : Int)) := cell_of_row w t 1 _ _ (0, 0) hS; have p2 : _ = some (Value.int .i64 (u.st.free : Int)) := cell_of_row w t 2 _ _ (0, 0) hS; have p3 : _ = some (Value.int .i64 (u.st.last : Int)) := cell_of_row w t 3 _ _ (0, 0) hS; have p4 : _ = some (Value.int .i64 (u.st.r0 : Int)) := cell_of_row w t 4 _ _ (0, 0) hS; have p5 : _ = some (Value.int .i64 (u.st.r1 : Int)) := cell_of_row w t 5 _ _ (0, 0) hS; have p6 : _ = some (Value.int .i64 (u.st.r2 : Int)) := cell_of_row w t 6 _ _ (0, 0) hS; have p7 : _ = some (Value.int .i64 (u.st.r3 : Int)) := cell_of_row w t 7 _ _ (0, 0) hS; clear hS; go_simp)
  simp only [Act.put, List.setIfInBounds_toArray, List.set_cons_zero, List.set_cons_succ]
  refine heldOne 16 (by kernel_rfl) rfl (by rfl) (fun KK hK => ?_)
  go_simp
  go_at_call 68
  refine HTK.out.mono ?_
  rintro e w1 ⟨vr, vw, vp, rfl, hD1, hT1⟩
  have hT1' : Turn A.ft (A.to vr vw vp).ft w w1 := (Turn.refl A.ft w).drew.trans hT1
  have HX1 : Hid (Txw w1 (A.to vr vw vp) t bt d1 u) := by
    refine ⟨hD1, (hT1'.chg.block t HH.out.tlt HH.out.ta).trans HH.out.row, HH.out.mp.chg hT1'.chg HH.out.ba, ?_, ?_, HH.out.tb, HH.out.z⟩
    · exact hT1'.apart (rs := [t]) (fun k hk => by rw [List.mem_singleton.1 hk]; exact HH.out.ta) (fun k hk => by rw [List.mem_singleton.1 hk]; exact HH.out.tlt) t List.mem_cons_self
    · exact hT1'.apart (rs := [bt]) (fun k hk => by rw [List.mem_singleton.1 hk]; exact HH.out.ba) (fun k hk => by rw [List.mem_singleton.1 hk]; exact HH.out.mp.lt) bt List.mem_cons_self
  have HT1 : Hid (Turn (tft A t bt) (tft (A.to vr vw vp) t bt) w w1) := by
    refine ⟨hT1'.chg.mono (fun k hk => tft_a hk), fun k hk => ?_⟩
    rcases List.mem_cons.1 hk with e | hk
    · exact .inl (by rw [e]; exact tft_t)
    · rcases List.mem_cons.1 hk with e | hk
      · exact .inl (by rw [e]; exact tft_b)
      · rcases hT1'.grow k hk with h | h
        · exact .inl (tft_a h)
        · exact .inr h
  have HS1 : Hid (TS A t bt u w1) := HX1.out.row
  have HHE : Hid (Calls Tryz.prog 60 #[.pointer (some ⟨A.x, 0, none⟩), .int .i64 e1] w1 fun e w' => e = .returned (.int .i64 e1) ∧ Dbw w' (A.to vr vw vp) (ptr t) { d1 with lost := heedB e1 } ∧ Turn (A.to vr vw vp).ft (A.to vr vw vp).ft w1 w') := heed_any (A.to vr vw vp) (ptr t) d1 w1 e1 hD1
  clear hD1 hT1 hT1' HTK HS
  refine hK.out _ _ HS1.out ?_
  clear hK KK
  refine heldOne 17 (by kernel_rfl) rfl (by rfl) (fun KK hK => ?_)
  go_simp
  go_at_call 60
  refine HHE.out.mono ?_
  rintro e w2 ⟨rfl, hD2, hT2⟩
  have HX2 : Hid (Txw w2 (A.to vr vw vp) t bt { d1 with lost := heedB e1 } u) := ⟨hD2, (hT2.chg.block t HX1.out.tlt HX1.out.ta).trans HX1.out.row, HX1.out.mp.chg hT2.chg HX1.out.ba, HX1.out.ta, HX1.out.ba, HX1.out.tb, HX1.out.z⟩
  have HT2 : Hid (Turn (tft A t bt) (tft (A.to vr vw vp) t bt) w w2) := HT1.out.trans ⟨hT2.chg.mono (fun k hk => tft_a hk), fun k hk => .inl hk⟩
  have HS2 : Hid (TS A t bt u w2) := HX2.out.row
  clear hD2 hT2 HHE HX1 HT1 HS1
  refine hK.out _ _ HS2.out ?_
  clear hK KK
  refine heldTake 18 (some 3) (.int .i64 e1) rfl rfl (by kernel_rfl) (by kernel_rfl) (by kernel_rfl) (fun _ _ _ h => h) (Or.inl ⟨by rfl, fun w hS => ?_⟩) HS2.out ?_
  · (go_simp)
  simp only [Act.put, List.setIfInBounds_toArray, List.set_cons_zero, List.set_cons_succ]
  refine wpAnyH_done (by kernel_rfl) ?_ _
  have q0 : w2.cell? ⟨t, 0, none⟩ = some (.pointer (some ⟨A.x, 0, none⟩)) := HX2.out.c0
  have q13 : w2.cell? ⟨A.x, 13, none⟩ = some (.bool (heedB e1)) := HX2.out.db.c13
  have HAB : Hid (Calls Tryz.prog 28 #[.pointer (some ⟨t, 0, none⟩)] w2 fun e w' => e = .returned (.tuple #[]) ∧ Dbw w' (A.to vr vw vp) nilP { d1 with lost := heedB e1 } ∧ TxEnd w' t ∧ Chg (tft (A.to vr vw vp) t bt) w2 w') := tabort_any (A.to vr vw vp) t bt _ u w2 HX2.out
  clear HS2 c0 c9
  cases hb : heedB e1 with
  | true =>
    rw [hb] at q13
    have HFN : Hid (ComPost w A t bt d1 e1 (.returned (.int .i64 e1)) w2) := by
      refine ⟨rfl, vr, vw, vp, .inr ⟨hb, ?_⟩, HT2.out⟩
      have := HX2.out.db
      rw [hb] at this
      exact this
    clear hb HAB
    go_wp2
    go_ret
    exact HFN.out
  | false =>
    rw [hb] at q13
    have HFN : Hid (∀ w', Dbw w' (A.to vr vw vp) nilP { d1 with lost := heedB e1 } → TxEnd w' t → Chg (tft (A.to vr vw vp) t bt) w2 w' → ComPost w A t bt d1 e1 (.returned (.int .i64 e1)) w') := fun w' x1 x2 x3 => by
      refine ⟨rfl, vr, vw, vp, .inl ⟨hb, ?_, x2⟩, HT2.out.trans ⟨x3, fun k hk => .inl hk⟩⟩
      rw [hb] at x1
      exact x1
    clear hb
    go_wp2_with fail
    refine HAB.out.mono ?_
    rintro e w3 ⟨rfl, x1, x2, x3⟩
    have HX := (show Hid (ComPost w A t bt d1 e1 (.returned (.int .i64 e1)) w3) from HFN.out w3 x1 x2 x3)
    clear x1 x2 x3 HFN HAB
    go_wp2
    go_ret
    exact HX.out
end
end Go.Proofs.YtcfninpokngmlaaGreatDoor
/- Proved: plain facts of what is found behind a sync or a reset at which the power may go (stage 8). No program is named. -/
namespace Wl
open Sc (St)
/- what a call tells, and what is found behind a loss of power then: what it makes, or, where it told an error, what was there -/
structure Res (was now : List ByteArray) (s : St) (e : Int) : Prop where
  told : (e = 0 ∧ s.down = false) ∨ (e = 10 ∧ s.down = true)
  len : s.kept.length = 20
  found : ∀ f, ∃ rs ep, Fit rs ∧ On (Sc.keepI f s.pend 0 s.kept) 2 16 ep (frames rs) ∧ (rs = now ∨ (e ≠ 0 ∧ rs = was))
/- armed, with power, nothing pending -/
structure Arm (s : St) : Prop where
  down : s.down = false
  pend : s.pend = []
  len : s.kept.length = 20
theorem markE_two (s : St) (base e l : Nat) (hd : s.down = false) : (markE s base e l = 0 ∧ (markS s base e l).down = false) ∨ (markE s base e l = 10 ∧ (markS s base e l).down = true) := by
  unfold markE markS
  by_cases h0 : s.left = 0
  · rw [if_pos h0, if_pos h0]; exact .inr ⟨rfl, rfl⟩
  · rw [if_neg h0, if_neg h0]
    by_cases h1 : (Sc.put s base (head20 e l)).left = 0
    · rw [if_pos h1, if_pos h1]; exact .inr ⟨rfl, rfl⟩
    · rw [if_neg h1, if_neg h1]; exact .inl ⟨rfl, hd⟩
theorem markS_len (s : St) (base e l : Nat) : (markS s base e l).kept.length = s.kept.length := by
  unfold markS
  split
  · rfl
  · split
    · rfl
    · show (Sc.keepI _ _ _ _).length = _
      rw [Sc.keepI_length]
      rfl
theorem syncE_two (s : St) (base e : Nat) (b al : ByteArray) (hd : s.down = false) : (syncE s base e b al = 0 ∧ (syncS s base e b al).down = false) ∨ (syncE s base e b al = 10 ∧ (syncS s base e b al).down = true) := by
  unfold syncE syncS
  by_cases h0 : 0 ≤ s.left ∧ s.left < (many b.size al.size : Int)
  · rw [if_pos h0, if_pos h0]; exact .inr ⟨rfl, rfl⟩
  · rw [if_neg h0, if_neg h0]
    by_cases h1 : (putsN s base al.data.toList (b.size / 64) (many b.size al.size)).left = 0
    · rw [if_pos h1, if_pos h1]; exact .inr ⟨rfl, rfl⟩
    · rw [if_neg h1, if_neg h1]
      exact markE_two _ base e al.size hd
theorem syncS_len (s : St) (base e : Nat) (b al : ByteArray) : (syncS s base e b al).kept.length = s.kept.length := by
  unfold syncS
  split
  · rfl
  · split
    · rfl
    · rw [markS_len]
      show (Sc.keepI _ _ _ _).length = _
      rw [Sc.keepI_length]
      rfl
end Wl
/- Proved: plain facts of what a database has on its disk and in its log, and of what is found behind a loss of power (stage 10). No program is named. -/
namespace Pd
open Wl
def KK (f : Nat → Bool) (s : Sc.St) : List ByteArray := Sc.keepI f s.pend 0 s.kept
theorem KK_nil {s : Sc.St} (h : s.pend = []) (f : Nat → Bool) : KK f s = s.kept := by unfold KK; rw [h]; rfl
theorem KK_length (f : Nat → Bool) (s : Sc.St) : (KK f s).length = s.kept.length := Sc.keepI_length _ _ _ _
/- the pages of a state: told by the log, or at their places -/
structure Fnd (ks : List ByteArray) (n cnt : Nat) (S : Ab) (m : Mp) : Prop where
  ok : S.Ok cnt
  room : n + 8 * cnt ≤ ks.length
  has : ∀ i, 1 ≤ i → i < S.pgs.length → get m i = some (S.sh i) ∨ (get m i = none ∧ plc ks n i = pageOf i (S.sh i))
  zero : get m 0 = some S.stt.sheet ∨ (get m 0 = none ∧ (plc ks n 0 = pageOf 0 S.stt.sheet ∨ (plc ks n 0 = Pg.blank ∧ S = Ab.init)))
theorem Fnd.move {ks ks' : List ByteArray} {n cnt : Nat} {S : Ab} {m : Mp} (h : Fnd ks n cnt S m) (hl : ks'.length = ks.length) (hp : ∀ i, get m i = none → plc ks' n i = plc ks n i) : Fnd ks' n cnt S m := by
  refine ⟨h.ok, by rw [hl]; exact h.room, fun i h1 h2 => ?_, ?_⟩
  · rcases h.has i h1 h2 with e | ⟨e, e2⟩
    · exact .inl e
    · exact .inr ⟨e, by rw [hp i e]; exact e2⟩
  · rcases h.zero with e | ⟨e, e2⟩
    · exact .inl e
    · exact .inr ⟨e, by rw [hp 0 e]; exact e2⟩
theorem Fnd.out {ks ks' : List ByteArray} {n cnt : Nat} {S : Ab} {m : Mp} (h : Fnd ks n cnt S m) (hl : ks'.length = ks.length) (ho : ∀ x, n ≤ x → ks'.getD x Sc.zero64 = ks.getD x Sc.zero64) : Fnd ks' n cnt S m :=
  h.move hl (fun _ _ => plc_same fun _ _ => ho _ (by omega))
theorem Fnd.kept {ks : List ByteArray} {n cnt : Nat} {S : Ab} {m : Mp} (h : Fnd ks n cnt S m) (hu : Up m) {l : List (Nat × ByteArray)} (hl : ∀ q ∈ l, q ∈ wrAll n m) (f : Nat → Bool) (k : Nat) : Fnd (Sc.keepI f l k ks) n cnt S m :=
  h.move (Sc.keepI_length _ _ _ _) (fun _ hi => keep_plc hl f k ks hi hu)
theorem Fnd.settled {ks : List ByteArray} {n cnt : Nat} {S : Ab} {m : Mp} (h : Fnd ks n cnt S m) (hu : Up m) (hf : Fine cnt m) (k : Nat) : Fnd (Sc.keepI (fun _ => true) (wrAll n m) k ks) n cnt S [] := by
  have hkey : ∀ i x, get m i = some x → plc (Sc.keepI (fun _ => true) (wrAll n m) k ks) n i = pageOf i x := fun i x e => by
    have hm := get_mem e
    have h1 := hf _ hm
    have h2 := h.room
    simp only at h1
    exact kept_plc hu ks hm h1.2 (by simp only; omega) k
  refine ⟨h.ok, by rw [Sc.keepI_length]; exact h.room, fun i h1 h2 => .inr ⟨rfl, ?_⟩, .inr ⟨rfl, ?_⟩⟩
  · rcases h.has i h1 h2 with e | ⟨e, e2⟩
    · exact hkey i _ e
    · rw [keep_plc (fun q hq => hq) _ k ks e hu]; exact e2
  · rcases h.zero with e | ⟨e, e2⟩
    · exact .inl (hkey 0 _ e)
    · rw [keep_plc (fun q hq => hq) _ k ks e hu]; exact e2
/- what a disk has -/
def Dsk (ks : List ByteArray) (n cnt K : Nat) (S : Ab) : Prop := ∃ e rs ms, e ≤ K ∧ Fit rs ∧ On ks 0 n e (frames rs) ∧ Recs n cnt rs ms ∧ Fnd ks n cnt S (mOf ms)
theorem Dsk.up {ks : List ByteArray} {n cnt K K' : Nat} {S : Ab} (h : Dsk ks n cnt K S) (hk : K ≤ K') : Dsk ks n cnt K' S := by
  obtain ⟨e, rs, ms, h1, h2⟩ := h
  exact ⟨e, rs, ms, by omega, h2⟩
/- a database between calls, on a disk that has power -/
structure Inv (K : Nat) (d : Db) (S : Ab) : Prop where
  down : d.s.down = false
  pend : d.s.pend = []
  sok : Sc.Ok d.s
  lost : d.lost = false
  llost : d.l.lost = false
  wait : d.l.wait = []
  base : d.l.base = 0
  ln : d.l.n = d.n
  lok : d.l.Ok
  on : On d.s.kept 0 d.n d.l.epoch d.l.bytes
  recs : ∃ ms, Recs d.n d.cnt d.l.recs ms ∧ d.m = mOf ms
  fnd : Fnd d.s.kept d.n d.cnt S d.m
  st : d.st = S.stt
  ep : d.l.epoch ≤ K
  dn : d.s.dn ≤ K
theorem Inv.dsk {K : Nat} {d : Db} {S : Ab} (h : Inv K d S) (f : Nat → Bool) : Dsk (KK f d.s) d.n d.cnt K S := by
  obtain ⟨ms, h1, h2⟩ := h.recs
  rw [KK_nil h.pend]
  exact ⟨d.l.epoch, d.l.recs, ms, h.ep, h.lok.is.2, by rw [← h.lok.is.1]; exact h.on, h1, by rw [← h2]; exact h.fnd⟩
theorem Inv.upm {K : Nat} {d : Db} {S : Ab} (h : Inv K d S) : Up d.m ∧ Fine d.cnt d.m ∧ d.m.length ≤ d.cnt := by
  obtain ⟨ms, h1, h2⟩ := h.recs
  have h3 := h1.m
  rw [← h2] at h3
  exact ⟨h3.1, h3.2, fine_length h3.1 h3.2⟩
theorem Inv.up {K K' : Nat} {d : Db} {S : Ab} (h : Inv K d S) (hk : K ≤ K') : Inv K' d S :=
  ⟨h.down, h.pend, h.sok, h.lost, h.llost, h.wait, h.base, h.ln, h.lok, h.on, h.recs, h.fnd, h.st, Nat.le_trans h.ep hk, Nat.le_trans h.dn hk⟩
theorem Inv.n2 {K : Nat} {d : Db} {S : Ab} (h : Inv K d S) : 2 ≤ d.n ∧ d.n ≤ 65536 ∧ d.cnt ≤ 1000 := by
  have h1 := h.lok.two
  have h2 := h.lok.most
  rw [h.ln] at h1 h2
  rw [h.base] at h2
  exact ⟨h1, by omega, h.fnd.ok.small⟩
/- what a call leaves: done, or the power went within it -/
structure Aft (K : Nat) (d d1 : Db) (e : Int) (was now : Ab) : Prop where
  n : d1.n = d.n
  cnt : d1.cnt = d.cnt
  len : d1.s.kept.length = d.s.kept.length
  dn : d1.s.dn ≤ K
  sok : Sc.Ok d1.s
  told : (e = 0 ∧ Inv K d1 now ∧ (d.s.left = -1 → d1.s.left = -1)) ∨ (e = 10 ∧ d.s.left ≠ -1 ∧ d1.s.down = true ∧ ∀ f, Dsk (KK f d1.s) d.n d.cnt K was ∨ Dsk (KK f d1.s) d.n d.cnt K now)
/- writes, until the power goes -/
theorem wrs_res : ∀ (l : List (Nat × ByteArray)) (s : Sc.St), s.down = false → (∀ p ∈ l, p.1 < s.kept.length ∧ p.2.size = 64) → ∃ k, (wrs l s).1.kept = s.kept ∧ (wrs l s).1.pend = s.pend ++ l.take k ∧ (wrs l s).1.dn ≤ s.dn + l.length ∧ (((wrs l s).2 = 0 ∧ (wrs l s).1.down = false ∧ k = l.length ∧ (s.left = -1 → (wrs l s).1.left = -1)) ∨ ((wrs l s).2 = 10 ∧ (wrs l s).1.down = true ∧ s.left ≠ -1))
  | [], s, hd, _ => ⟨0, rfl, by simp [wrs], Nat.le_refl _, .inl ⟨rfl, hd, rfl, fun h => h⟩⟩
  | p :: l, s, hd, hl => by
    obtain ⟨h1, h2⟩ := hl p List.mem_cons_self
    have hh : Sc.has s (p.1 : Int) = true := Sc.has_iff.2 ⟨by omega, by omega⟩
    have hdn : ¬ s.down = true := by rw [hd]; decide
    have hhn : ¬ Sc.has s (p.1 : Int) = false := by rw [hh]; decide
    have h64 : ¬ 64 < p.2.size := by omega
    rw [wrs_cons]
    by_cases h0 : s.left = 0
    · have e1 : Sc.writeE s (p.1 : Int) p.2 = 10 := by unfold Sc.writeE; rw [if_neg hdn, if_neg hhn, if_neg h64, if_pos h0]
      have e2 : Sc.writeS s (p.1 : Int) p.2 = Sc.fell s := by unfold Sc.writeS; rw [if_neg hdn, if_neg hhn, if_neg h64, if_pos h0]
      rw [e1, if_neg (by decide), e2]
      exact ⟨0, rfl, by simp [Sc.fell], by show s.dn ≤ _; omega, .inr ⟨rfl, rfl, by omega⟩⟩
    · have e1 : Sc.writeE s (p.1 : Int) p.2 = 0 := by unfold Sc.writeE; rw [if_neg hdn, if_neg hhn, if_neg h64, if_neg h0]
      have e2 : Sc.writeS s (p.1 : Int) p.2 = Sc.put s p.1 p.2 := by unfold Sc.writeS; rw [if_neg hdn, if_neg hhn, if_neg h64, if_neg h0]; rfl
      rw [e1, if_pos rfl, e2]
      have hleft : (Sc.put s p.1 p.2).left = if 0 < s.left then s.left - 1 else s.left := rfl
      obtain ⟨k, a1, a2, a3, a4⟩ := wrs_res l (Sc.put s p.1 p.2) hd (fun q hq => hl q (List.mem_cons_of_mem _ hq))
      refine ⟨k + 1, a1, ?_, by rw [List.length_cons]; have : (Sc.put s p.1 p.2).dn = s.dn + 1 := rfl; omega, ?_⟩
      · rw [a2]
        show s.pend ++ [(p.1, Sc.fill p.2)] ++ l.take k = s.pend ++ (p :: l).take (k + 1)
        rw [fill_64 h2, List.append_assoc]
        rfl
      · rcases a4 with ⟨b1, b2, b3, b4⟩ | ⟨b1, b2, b3⟩
        · exact .inl ⟨b1, b2, by rw [b3, List.length_cons], fun h => b4 (by rw [hleft, if_neg (by omega)]; exact h)⟩
        · exact .inr ⟨b1, b2, fun h => b3 (by rw [hleft, if_neg (by omega)]; exact h)⟩
/- the log's first sector, written and flushed -/
theorem mark_res (s : Sc.St) (base e l : Nat) (hp : s.pend = []) : (markS s base e l).dn ≤ s.dn + 2 ∧ (∀ f x, x ≠ base → (KK f (markS s base e l)).getD x Sc.zero64 = s.kept.getD x Sc.zero64) ∧ (markE s base e l = 10 → s.left ≠ -1) ∧ (s.left = -1 → (markS s base e l).left = -1) := by
  have hone : ∀ (f : Nat → Bool) (y : ByteArray) x, x ≠ base → (Sc.keepI f [(base, y)] 0 s.kept).getD x Sc.zero64 = s.kept.getD x Sc.zero64 := fun f y x hx => by
    rw [List.getD_eq_getElem?_getD, Sc.keepI_apart f x _ _ _ (fun q hq => by rw [List.mem_singleton.1 hq]; exact fun h => hx h.symm), ← List.getD_eq_getElem?_getD]
  have hpend : (Sc.put s base (head20 e l)).pend = [(base, Sc.fill (head20 e l))] := by
    show s.pend ++ [(base, Sc.fill (head20 e l))] = _
    rw [hp]
    rfl
  have hleft : (Sc.put s base (head20 e l)).left = if 0 < s.left then s.left - 1 else s.left := rfl
  unfold markS markE
  by_cases h0 : s.left = 0
  · rw [if_pos h0, if_pos h0]
    refine ⟨by show s.dn ≤ _; omega, fun f x hx => ?_, fun _ => by omega, fun h => h⟩
    show (Sc.keepI f s.pend 0 s.kept).getD x _ = _
    rw [hp]
    rfl
  · rw [if_neg h0, if_neg h0]
    by_cases h1 : (Sc.put s base (head20 e l)).left = 0
    · rw [if_pos h1, if_pos h1]
      refine ⟨by show s.dn + 1 ≤ _; omega, fun f x hx => ?_, fun _ => by rw [hleft] at h1; split at h1 <;> omega, fun h => by rw [hleft, if_neg (by omega)] at h1; omega⟩
      show (Sc.keepI f (Sc.put s base (head20 e l)).pend 0 s.kept).getD x _ = _
      rw [hpend]
      exact hone f _ x hx
    · rw [if_neg h1, if_neg h1]
      refine ⟨by show s.dn + 1 + 1 ≤ _; omega, fun f x hx => ?_, fun h => absurd h (by decide), fun h => ?_⟩
      · show (Sc.keepI f [] 0 (Sc.keepI (fun _ => true) (Sc.put s base (head20 e l)).pend 0 s.kept)).getD x _ = _
        rw [hpend]
        exact hone (fun _ => true) _ x hx
      · show (if 0 < (Sc.put s base (head20 e l)).left then _ else _) = _
        rw [hleft, if_neg (by omega : ¬ 0 < s.left), if_neg (by omega)]
        exact h
/- a sync, base 0 -/
theorem putsN_left1 {s : Sc.St} (h : s.left = -1) (base : Nat) (al : List UInt8) (k j : Nat) : (putsN s base al k j).left = -1 := by
  show (if 0 < s.left then s.left - j else s.left) = -1
  rw [if_neg (by omega)]; exact h
theorem sync_more (s : Sc.St) (n e : Nat) (b al : ByteArray) (hp : s.pend = []) (hn : 2 ≤ n) (hr : al.size ≤ 64 * (n - 1)) : (syncS s 0 e b al).dn ≤ s.dn + n + 4 ∧ (∀ f x, n ≤ x → (KK f (syncS s 0 e b al)).getD x Sc.zero64 = s.kept.getD x Sc.zero64) ∧ (syncE s 0 e b al = 10 → s.left ≠ -1) ∧ (s.left = -1 → (syncS s 0 e b al).left = -1) := by
  have hm : many b.size al.size ≤ n := by unfold many; omega
  have hm2 : b.size / 64 + many b.size al.size ≤ n - 1 ∨ many b.size al.size = 0 := by unfold many; omega
  have hparts : ∀ (f : Nat → Bool) (j x : Nat), j ≤ many b.size al.size → n ≤ x → (Sc.keepI f (s.pend ++ parts 0 al.data.toList (b.size / 64) j) 0 s.kept).getD x Sc.zero64 = s.kept.getD x Sc.zero64 := fun f j x hj hx => by
    rw [hp, List.nil_append, List.getD_eq_getElem?_getD, Sc.keepI_apart f x _ _ _ (fun q hq => ?_), ← List.getD_eq_getElem?_getD]
    obtain ⟨i, hi, rfl⟩ := List.mem_map.1 hq
    have := List.mem_range.1 hi
    simp only
    omega
  unfold syncS syncE
  by_cases h1 : 0 ≤ s.left ∧ s.left < (many b.size al.size : Int)
  · rw [if_pos h1, if_pos h1]
    refine ⟨?_, fun f x hx => hparts f _ x (by omega) hx, fun _ => by omega, fun h => by omega⟩
    show s.dn + s.left.toNat ≤ _
    omega
  · rw [if_neg h1, if_neg h1]
    by_cases h2 : (putsN s 0 al.data.toList (b.size / 64) (many b.size al.size)).left = 0
    · rw [if_pos h2, if_pos h2]
      refine ⟨by show s.dn + many b.size al.size ≤ _; omega, fun f x hx => hparts f _ x (Nat.le_refl _) hx, fun _ h => ?_, fun h => ?_⟩
      · rw [putsN_left1 h] at h2; omega
      · rw [putsN_left1 h] at h2; omega
    · rw [if_neg h2, if_neg h2]
      obtain ⟨a1, a2, a3, a4⟩ := mark_res (Sc.flushed (putsN s 0 al.data.toList (b.size / 64) (many b.size al.size))) 0 e al.size rfl
      have hl : s.left = -1 → (Sc.flushed (putsN s 0 al.data.toList (b.size / 64) (many b.size al.size))).left = -1 := fun h => by
        show (if 0 < (putsN s 0 al.data.toList (b.size / 64) (many b.size al.size)).left then _ else _) = _
        rw [putsN_left1 h]
        rfl
      refine ⟨Nat.le_trans a1 (by show s.dn + many b.size al.size + 1 + 2 ≤ _; omega), fun f x hx => ?_, fun h h' => a3 h (hl h'), fun h => a4 (hl h)⟩
      rw [a2 f x (by omega)]
      exact hparts _ _ x (Nat.le_refl _) hx
end Pd
/- Proved: plain facts of settle and take over what a database has (stage 10). No program is named. -/
namespace Pd
open Wl
theorem Recs.nil {n cnt : Nat} {ms : List Mp} (h : Recs n cnt [] ms) : ms = [] := by
  have := h.eq
  cases ms with
  | nil => rfl
  | cons a ms => cases this
theorem nilRecs (n cnt : Nat) : Recs n cnt [] [] := ⟨rfl, fun _ h => (nomatch h), fun _ h => (nomatch h), fun _ h => (nomatch h)⟩
theorem wrAll_fits {ks : List ByteArray} {n cnt : Nat} {m : Mp} (hf : Fine cnt m) (hr : n + 8 * cnt ≤ ks.length) : ∀ p ∈ wrAll n m, p.1 < ks.length ∧ p.2.size = 64 := fun p hp => by
  obtain ⟨q, hq, j, hj, rfl⟩ := wr_mem hp
  have h1 := hf q hq
  exact ⟨by simp only; omega, secAt_size (pageOf_size h1.2) j⟩
/- the log's records are gone: the pages are at their places -/
theorem settle_res {K : Nat} {d : Db} {S : Ab} (I : Inv K d S) (hK : K ≤ 1000000) (hk1 : Sc.Ok (setT d).1.s) : Aft (K + 8 * d.cnt + 4) d (setT d).1 (setT d).2 S S ∧ ((setT d).2 = 0 → (setT d).1.m = [] ∧ (setT d).1.l.recs = []) := by
  obtain ⟨hn1, hn2, hn3, hn4, hn5⟩ := setT_n d
  obtain ⟨ms, hR, hm⟩ := I.recs
  obtain ⟨hu, hf, hml⟩ := I.upm
  have hroom := I.fnd.room
  have hwf := wrAll_fits hf hroom
  have hlen8 := wrAll_length d.n d.m
  by_cases h0 : d.l.recs = []
  · have e : setT d = (d, 0) := by unfold setT; rw [if_pos h0]
    rw [e]
    have hms : ms = [] := by rw [h0] at hR; exact hR.nil
    refine ⟨⟨rfl, rfl, rfl, by have := I.dn; simp only; omega, I.sok, .inl ⟨rfl, I.up (by omega), fun h => h⟩⟩, fun _ => ⟨by rw [hm, hms]; rfl, h0⟩⟩
  · obtain ⟨k, a1, a2, a3, a4⟩ := wrs_res (wrAll d.n d.m) d.s I.down hwf
    rw [I.pend, List.nil_append] at a2
    have hw : setW d = wrs (wrAll d.n d.m) d.s := rfl
    rw [← hw] at a1 a2 a3 a4
    have hsub : ∀ q ∈ (wrAll d.n d.m).take k, q ∈ wrAll d.n d.m := fun q hq => List.mem_of_mem_take hq
    have hfound : ∀ f, Dsk (Sc.keepI f ((wrAll d.n d.m).take k) 0 d.s.kept) d.n d.cnt (K + 8 * d.cnt + 4) S := fun f =>
      ⟨d.l.epoch, d.l.recs, ms, by have := I.ep; omega, I.lok.is.2, by
        rw [← I.lok.is.1]
        exact On.low I.on (Sc.keepI_length _ _ _ _) (fun x hx => keep_log hsub f 0 _ hx), hR, by
        rw [← hm]
        exact I.fnd.kept hu hsub f 0⟩
    have hdn := I.dn
    rcases a4 with ⟨b1, b2, b3, b4⟩ | ⟨b1, b2, b3⟩
    · by_cases hfl : (setW d).1.left = 0
      · have e1 : Sc.flushE (setW d).1 = 10 := by unfold Sc.flushE; rw [if_neg (by rw [b2]; decide), if_pos hfl]
        have e2 : Sc.flushS (setW d).1 = Sc.fell (setW d).1 := by unfold Sc.flushS; rw [if_neg (by rw [b2]; decide), if_pos hfl]
        have e : setT d = ({ d with s := Sc.fell (setW d).1 }, 10) := by unfold setT; rw [if_neg h0, if_pos b1, e1, if_neg (by decide), e2]
        rw [e] at hk1 ⊢
        refine ⟨⟨rfl, rfl, by show (setW d).1.kept.length = _; rw [a1], by show (setW d).1.dn ≤ _; omega, hk1, .inr ⟨rfl, fun h => ?_, rfl, fun f => .inl ?_⟩⟩, fun h => by cases h⟩
        · rw [b4 h] at hfl; omega
        · show Dsk (Sc.keepI f (setW d).1.pend 0 (setW d).1.kept) d.n d.cnt _ S
          rw [a1, a2]; exact hfound f
      · have e1 : Sc.flushE (setW d).1 = 0 := by unfold Sc.flushE; rw [if_neg (by rw [b2]; decide), if_neg hfl]
        have e2 : Sc.flushS (setW d).1 = Sc.flushed (setW d).1 := by unfold Sc.flushS; rw [if_neg (by rw [b2]; decide), if_neg hfl]
        have e : setT d = ({ d with m := [], l := resetL d.l (Sc.flushed (setW d).1), s := resetS d.l (Sc.flushed (setW d).1) }, resetE d.l (Sc.flushed (setW d).1)) := by unfold setT; rw [if_neg h0, if_pos b1, e1, if_pos rfl, e2]
        generalize hs2 : Sc.flushed (setW d).1 = s2 at e
        have c1 : s2.kept = Sc.keepI (fun _ => true) (wrAll d.n d.m) 0 d.s.kept := by
          rw [← hs2]
          show Sc.keepI (fun _ => true) (setW d).1.pend 0 (setW d).1.kept = _
          rw [a1, a2, b3, List.take_length]
        have c2 : s2.pend = [] := by rw [← hs2]; rfl
        have c3 : s2.down = false := by rw [← hs2]; exact b2
        have c4 : s2.dn = (setW d).1.dn + 1 := by rw [← hs2]; rfl
        have c5 : d.s.left = -1 → s2.left = -1 := fun h => by
          rw [← hs2]
          show (if 0 < (setW d).1.left then _ else _) = _
          rw [b4 h]
          rfl
        have c6 : s2.kept.length = d.s.kept.length := by rw [c1, Sc.keepI_length]
        have hon2 : On s2.kept 0 d.n d.l.epoch d.l.bytes := by
          rw [c1]
          exact On.low I.on (Sc.keepI_length _ _ _ _) (fun x hx => keep_log (fun q hq => hq) _ 0 _ hx)
        have hF1 : Fnd s2.kept d.n d.cnt S d.m := by rw [c1]; exact I.fnd.kept hu (fun q hq => hq) _ 0
        have hF2 : Fnd s2.kept d.n d.cnt S [] := by rw [c1]; exact I.fnd.settled hu hf 0
        have h1 : ¬ d.l.lost = true := by rw [I.llost]; decide
        have h2 : ¬ 0 < d.l.wait.length := by rw [I.wait]; decide
        have h3 : ¬ d.l.epoch = 4611686018427387904 := by have := I.ep; omega
        have hn2' := I.n2
        obtain ⟨g1, g2⟩ := hd_mark (s := s2) (base := d.l.base) (e := d.l.epoch + 1) (l := 0) c3 (by rw [I.base, c6]; omega)
        have eE : resetE d.l s2 = markE s2 0 (d.l.epoch + 1) 0 := by unfold resetE; rw [if_neg h1, if_neg h2, if_neg h3, g2, I.base]
        have eS : resetS d.l s2 = markS s2 0 (d.l.epoch + 1) 0 := by unfold resetS; rw [if_neg h1, if_neg h2, if_neg h3, g1, I.base]
        obtain ⟨f1, f2⟩ := mark_found (s := s2) (base := 0) (n := d.n) (e := d.l.epoch) (b := d.l.bytes) c2 hon2 (e' := d.l.epoch + 1) (b' := ob []) (Holds.nil _ _) (by rw [ob_size]; simp) (by have := I.ep; omega)
        obtain ⟨r1, r2, r3, r4⟩ := mark_res s2 0 (d.l.epoch + 1) 0 c2
        have hlen : (markS s2 0 (d.l.epoch + 1) 0).kept.length = d.s.kept.length := by rw [markS_len, c6]
        have hnn := hn2'.1
        rw [e] at hk1 ⊢
        rw [eS] at hk1
        have hdn2 : (markS s2 0 (d.l.epoch + 1) 0).dn ≤ K + 8 * d.cnt + 4 := by omega
        rcases markE_two s2 0 (d.l.epoch + 1) 0 c3 with ⟨t1, t2⟩ | ⟨t1, t2⟩
        · obtain ⟨f3, f4⟩ := f2 t1
          have hk := KK_nil f4 (fun _ => true)
          have hL : resetL d.l s2 = { d.l with epoch := d.l.epoch + 1, bytes := ob [], recs := [] } := by
            have t1' : hdE s2 d.l.base (d.l.epoch + 1) 0 = 0 := by rw [g2, I.base]; exact t1
            unfold resetL
            rw [if_neg h1, if_neg h2, if_neg h3, if_pos t1']
          refine ⟨⟨rfl, rfl, by show (resetS d.l s2).kept.length = _; rw [eS, hlen], by show (resetS d.l s2).dn ≤ _; rw [eS]; exact hdn2, by show Sc.Ok (resetS d.l s2); rw [eS]; exact hk1, .inl ⟨by show resetE d.l s2 = 0; rw [eE]; exact t1, ?_, fun h => by show (resetS d.l s2).left = -1; rw [eS]; exact r4 (c5 h)⟩⟩, fun _ => ⟨rfl, by show (resetL d.l s2).recs = []; rw [hL]⟩⟩
          have hon3 : On (KK (fun _ => true) (markS s2 0 (d.l.epoch + 1) 0)) 0 d.n (d.l.epoch + 1) (ob []) := f3 (fun _ => true)
          have hk : KK (fun _ => true) (markS s2 0 (d.l.epoch + 1) 0) = (markS s2 0 (d.l.epoch + 1) 0).kept := hk
          rw [hk] at hon3
          have hF3 : Fnd (markS s2 0 (d.l.epoch + 1) 0).kept d.n d.cnt S [] := hF2.out (by rw [hlen, c6]) (fun x hx => by have := r2 (fun _ => true) x (by omega); rw [hk] at this; exact this)
          rw [eS, hL]
          exact { down := t2, pend := f4, sok := hk1, lost := I.lost, llost := I.llost, wait := I.wait, base := I.base, ln := I.ln, lok := by have := resetL_ok I.lok s2; rw [hL] at this; exact this, on := hon3, recs := ⟨[], nilRecs _ _, rfl⟩, fnd := hF3, st := I.st, ep := by have := I.ep; show d.l.epoch + 1 ≤ _; omega, dn := hdn2 }
        · refine ⟨⟨rfl, rfl, by show (resetS d.l s2).kept.length = _; rw [eS, hlen], by show (resetS d.l s2).dn ≤ _; rw [eS]; exact hdn2, by show Sc.Ok (resetS d.l s2); rw [eS]; exact hk1, .inr ⟨by show resetE d.l s2 = 10; rw [eE]; exact t1, fun h => r3 t1 (c5 h), by show (resetS d.l s2).down = true; rw [eS]; exact t2, fun f => .inl ?_⟩⟩, fun h => by
            have h' : resetE d.l s2 = 0 := h
            rw [eE, t1] at h'; cases h'⟩
          show Dsk (KK f (resetS d.l s2)) d.n d.cnt _ S
          rw [eS]
          have hout : ∀ x, d.n ≤ x → (KK f (markS s2 0 (d.l.epoch + 1) 0)).getD x Sc.zero64 = s2.kept.getD x Sc.zero64 := fun x hx => r2 f x (by omega)
          have hlenK : (KK f (markS s2 0 (d.l.epoch + 1) 0)).length = s2.kept.length := by rw [KK_length, hlen, c6]
          rcases f1 f with h | h
          · exact ⟨d.l.epoch, d.l.recs, ms, by have := I.ep; omega, I.lok.is.2, by rw [← I.lok.is.1]; exact h, hR, by rw [← hm]; exact hF1.out hlenK hout⟩
          · exact ⟨d.l.epoch + 1, [], [], by have := I.ep; omega, (by intro r hr; cases hr), h, nilRecs _ _, hF2.out hlenK hout⟩
    · have e : setT d = ({ d with s := (setW d).1 }, 10) := by unfold setT; rw [if_neg h0, if_neg (by rw [b1]; decide), b1]
      rw [e] at hk1 ⊢
      refine ⟨⟨rfl, rfl, by show (setW d).1.kept.length = _; rw [a1], by show (setW d).1.dn ≤ _; omega, hk1, .inr ⟨rfl, b3, b2, fun f => .inl ?_⟩⟩, fun h => by cases h⟩
      show Dsk (Sc.keepI f (setW d).1.pend 0 (setW d).1.kept) d.n d.cnt _ S
      rw [a1, a2]; exact hfound f
end Pd
/- Proved: plain facts of a transaction's pages, and of take over what a database has (stage 10). No program is named. -/
namespace Pd
open Wl
theorem init_of {T : Ab} {cnt : Nat} (h : T.Ok cnt) (e : T.stt = Ab.init.stt) : T = Ab.init := by
  obtain ⟨p, fr, r0, r1, r2, r3⟩ := T
  have e1 : p.length = 1 := congrArg Stt.high e
  have e2 : fr.length = 0 := congrArg Stt.free e
  have e3 : r0 = 0 := congrArg Stt.r0 e
  have e4 : r1 = 0 := congrArg Stt.r1 e
  have e5 : r2 = 0 := congrArg Stt.r2 e
  have e6 : r3 = 0 := congrArg Stt.r3 e
  have h1 : p[0]? = some (some page00) := h.one
  subst e3 e4 e5 e6
  rw [List.length_eq_zero_iff.1 e2]
  obtain ⟨x, rfl⟩ := List.length_eq_one_iff.1 e1
  have : x = some page00 := Option.some.inj h1
  rw [this]
  rfl
/- what a transaction has changed, between what was there and what it sees -/
structure TxI (cnt : Nat) (S T : Ab) (tm : Mp) : Prop where
  ok : T.Ok cnt
  up : Up tm
  fine : Fine cnt tm
  has : ∀ i, 1 ≤ i → i < T.pgs.length → get tm i = some (T.sh i) ∨ (get tm i = none ∧ i < S.pgs.length ∧ T.sh i = S.sh i)
  zero : get tm 0 = some T.stt.sheet ∨ (get tm 0 = none ∧ T.stt = S.stt)
  emp : tm = [] → T = S
theorem TxI.start {cnt : Nat} {S : Ab} (h : S.Ok cnt) : TxI cnt S S [] :=
  ⟨h, up_nil, fun _ h => (nomatch h), fun _ _ h2 => .inr ⟨rfl, h2, rfl⟩, .inr ⟨rfl, rfl⟩, fun _ => rfl⟩
theorem TxI.length {cnt : Nat} {S T : Ab} {tm : Mp} (h : TxI cnt S T tm) : tm.length ≤ cnt := fine_length h.up h.fine
theorem Fnd.over {ks : List ByteArray} {n cnt : Nat} {S T : Ab} {m tm : Mp} (h : Fnd ks n cnt S m) (hu : Up m) (t : TxI cnt S T tm) : Fnd ks n cnt T (copy m tm) := by
  refine ⟨t.ok, h.room, fun i h1 h2 => ?_, ?_⟩
  · rw [get_copy i tm hu t.up]
    rcases t.has i h1 h2 with e | ⟨e, e2, e3⟩
    · rw [e]; exact .inl rfl
    · rw [e, e3]; exact h.has i h1 e2
  · rw [get_copy 0 tm hu t.up]
    rcases t.zero with e | ⟨e, e2⟩
    · rw [e]; exact .inl rfl
    · rw [e, e2]
      rcases h.zero with g | ⟨g, g2⟩
      · exact .inl g
      · refine .inr ⟨g, ?_⟩
        rcases g2 with g2 | ⟨g2, g3⟩
        · exact .inl g2
        · exact .inr ⟨g2, init_of t.ok (by rw [e2, g3])⟩
/- a commit's record, and its sync -/
theorem take_res {K : Nat} {d : Db} {S T : Ab} {tm : Mp} (I : Inv K d S) (t : TxI d.cnt S T tm) (hne : tm ≠ []) (hh : 4 + 516 * tm.length ≤ 65536 ∧ 12 + 516 * tm.length ≤ 64 * (d.n - 1)) (hK : K + 8 * d.cnt + 4 ≤ 1000000) (hk0 : Sc.Ok (takeA d tm).1.s) (hk1 : Sc.Ok (takeT d tm T.stt).1.s) (hlk : (takeT d tm T.stt).1.l.Ok) : Aft (K + 8 * d.cnt + d.n + 8) d (takeT d tm T.stt).1 (takeT d tm T.stt).2 S T ∧ ((takeA d tm).2 = 0 → addE (takeA d tm).1.l (recText d.n tm) = 0 ∧ Inv (K + 8 * d.cnt + 4) (takeA d tm).1 S) := by
  have hsz := recText_size (n := d.n) t.fine
  -- ahead of the record
  have hA : Aft (K + 8 * d.cnt + 4) d (takeA d tm).1 (takeA d tm).2 S S ∧ ((takeA d tm).2 = 0 → ((12 + 516 * tm.length : Nat) : Int) ≤ room (takeA d tm).1.l) := by
    unfold takeA at hk0 ⊢
    by_cases hr : room d.l < ((12 + 516 * tm.length : Nat) : Int)
    · rw [if_pos hr] at hk0 ⊢
      obtain ⟨h1, h2⟩ := settle_res I (by omega) hk0
      refine ⟨h1, fun h0 => ?_⟩
      obtain ⟨h3, h4⟩ := h2 h0
      rcases h1.told with ⟨_, J, _⟩ | ⟨e, _⟩
      · have hb := J.lok.is.1
        rw [h4] at hb
        unfold room
        rw [hb, J.wait, J.ln, h1.n]
        have : (frames []).size = 0 := by rw [frames_size]; rfl
        rw [this]
        have := hh.2
        have hn := I.n2.1
        show _ ≤ _ - ((0 : Nat) : Int) - ((total [] : Nat) : Int)
        have : total [] = 0 := rfl
        omega
      · rw [e] at h0; cases h0
    · rw [if_neg hr] at hk0 ⊢
      exact ⟨⟨rfl, rfl, rfl, by have := I.dn; simp only; omega, I.sok, .inl ⟨rfl, I.up (by omega), fun h => h⟩⟩, fun _ => by simp only; omega⟩
  obtain ⟨h1, h2⟩ := hA
  rcases h1.told with ⟨e0, J, hl⟩ | ⟨e0, hl, hdn, hD⟩
  · have hadd : addE (takeA d tm).1.l (recText d.n tm) = 0 := by
      have := h2 e0
      unfold addE
      rw [if_neg (by rw [J.llost]; decide), if_neg (by omega), if_neg (by omega)]
    refine ⟨?_, fun _ => ⟨hadd, J⟩⟩
    have hmd : (takeA d tm).1.n = d.n ∧ (takeA d tm).1.cnt = d.cnt := ⟨h1.n, h1.cnt⟩
    unfold takeT at hk1 hlk ⊢
    rw [if_pos e0, if_pos hadd] at hk1 hlk ⊢
    generalize hd2 : (takeA d tm).1 = d2 at *
    obtain ⟨hn2, hc2⟩ := hmd
    have hadS : addS d2.l (recText d.n tm) = { d2.l with wait := [recText d.n tm] } := by unfold addS; rw [if_pos hadd, J.wait]; rfl
    have hlo := addS_ok J.lok (recText d.n tm)
    generalize hl2 : addS d2.l (recText d.n tm) = l2 at *
    have w1 : l2.wait = [recText d.n tm] := by rw [hadS]
    have w2 : l2.base = 0 := by rw [hadS]; exact J.base
    have w3 : l2.n = d.n := by rw [hadS]; exact J.ln.trans hn2
    have w4 : l2.lost = false := by rw [hadS]; exact J.llost
    have w5 : l2.epoch = d2.l.epoch := by rw [hadS]
    have w6 : l2.bytes = d2.l.bytes := by rw [hadS]
    have w7 : l2.recs = d2.l.recs := by rw [hadS]
    have q1 : ¬ l2.lost = true := by rw [w4]; decide
    have q2 : ¬ l2.wait.length = 0 := by rw [w1]; simp
    have hlen := h1.len
    have hroom : d.n + 8 * d.cnt ≤ d2.s.kept.length := by rw [hlen]; exact I.fnd.room
    have hT := syncT_power (l := l2) (s := d2.s) J.down hlo (by rw [w2, w3]; omega)
    have hz := all_size l2
    have hr := hlo.room
    rw [w3] at hr
    have hon : On d2.s.kept 0 d.n l2.epoch l2.bytes := by rw [w5, w6, ← hn2]; exact J.on
    obtain ⟨hf1, hf2⟩ := sync_found (s := d2.s) (base := 0) (n := d.n) (e := l2.epoch) (b := l2.bytes) (new := frames l2.wait) J.pend hon (by show (all l2).size ≤ _; omega)
    obtain ⟨m1, m2, m3, m4⟩ := sync_more d2.s d.n l2.epoch l2.bytes (all l2) J.pend I.n2.1 (by omega)
    have eE : sycE l2 d2.s = syncE d2.s 0 l2.epoch l2.bytes (all l2) := by unfold sycE; rw [if_neg q1, if_neg q2, hT, w2]
    have eS : sycS l2 d2.s = syncS d2.s 0 l2.epoch l2.bytes (all l2) := by unfold sycS; rw [if_neg q1, if_neg q2, hT, w2]
    have hfr : frames (l2.recs ++ l2.wait) = all l2 := by rw [frames_append, ← hlo.is.1]; rfl
    have hft : Fit (l2.recs ++ l2.wait) := fun r hr => by
      rcases List.mem_append.1 hr with h | h
      · exact hlo.is.2 r h
      · exact hlo.fit r h
    obtain ⟨ms, hR, hm⟩ := J.recs
    rw [hn2, hc2] at hR
    have hR2 : Recs d.n d.cnt (l2.recs ++ l2.wait) (ms ++ [tm]) := by
      refine ⟨by rw [w7, w1, hR.eq, List.map_append]; rfl, fun a ha => ?_, fun a ha => ?_, fun a ha => ?_⟩
      · rcases List.mem_append.1 ha with h | h
        · exact hR.up a h
        · rw [List.mem_singleton.1 h]; exact t.up
      · rcases List.mem_append.1 ha with h | h
        · exact hR.fine a h
        · rw [List.mem_singleton.1 h]; exact t.fine
      · rcases List.mem_append.1 ha with h | h
        · exact hR.ne a h
        · rw [List.mem_singleton.1 h]; exact hne
    have hm2 : mOf (ms ++ [tm]) = copy d2.m tm := by rw [mOf_snoc, hm]
    have hfS : Fnd d2.s.kept d.n d.cnt S d2.m := by have := J.fnd; rw [hn2, hc2] at this; exact this
    have hfT : Fnd d2.s.kept d.n d.cnt T (copy d2.m tm) := hfS.over J.upm.1 t
    have hlenS : (syncS d2.s 0 l2.epoch l2.bytes (all l2)).kept.length = d2.s.kept.length := syncS_len _ _ _ _ _
    have hep := J.ep
    have hdnJ := J.dn
    rcases syncE_two d2.s 0 l2.epoch l2.bytes (all l2) J.down with ⟨t1, t2⟩ | ⟨t1, t2⟩
    · rw [eE, if_pos t1, eS] at hk1 hlk ⊢
      obtain ⟨f3, f4⟩ := hf2 t1
      have hk : KK (fun _ => true) (syncS d2.s 0 l2.epoch l2.bytes (all l2)) = (syncS d2.s 0 l2.epoch l2.bytes (all l2)).kept := KK_nil f4 _
      have hon3 : On (KK (fun _ => true) (syncS d2.s 0 l2.epoch l2.bytes (all l2))) 0 d.n l2.epoch (all l2) := f3 (fun _ => true)
      rw [hk] at hon3
      have hL : sycL l2 d2.s = { l2 with bytes := all l2, recs := l2.recs ++ l2.wait, wait := [] } := by
        have : (syncT l2 d2.s).2 = 0 := by rw [hT, w2]; exact t1
        unfold sycL
        rw [if_neg q1, if_neg q2, if_pos this]
      rw [hL] at hlk ⊢
      have hfT2 : Fnd (syncS d2.s 0 l2.epoch l2.bytes (all l2)).kept d.n d.cnt T (copy d2.m tm) := hfT.out hlenS (fun x hx => by have := m2 (fun _ => true) x hx; rw [hk] at this; exact this)
      refine ⟨hn2, hc2, hlenS.trans hlen, by show (syncS d2.s 0 l2.epoch l2.bytes (all l2)).dn ≤ _; omega, hk1, .inl ⟨rfl, ?_, fun h => m4 (hl h)⟩⟩
      exact { down := t2, pend := f4, sok := hk1, lost := J.lost, llost := w4, wait := rfl, base := w2, ln := w3.trans hn2.symm, lok := hlk, on := by show On _ 0 d2.n l2.epoch (all l2); rw [hn2]; exact hon3, recs := ⟨ms ++ [tm], by show Recs d2.n d2.cnt (l2.recs ++ l2.wait) _; rw [hn2, hc2]; exact hR2, hm2.symm⟩, fnd := by show Fnd _ d2.n d2.cnt T (copy d2.m tm); rw [hn2, hc2]; exact hfT2, st := rfl, ep := by show l2.epoch ≤ _; omega, dn := by show (syncS d2.s 0 l2.epoch l2.bytes (all l2)).dn ≤ _; omega }
    · have hne10 : ¬ syncE d2.s 0 l2.epoch l2.bytes (all l2) = 0 := by rw [t1]; decide
      rw [eE, if_neg hne10, eS] at hk1 hlk ⊢
      refine ⟨hn2, hc2, hlenS.trans hlen, by show (syncS d2.s 0 l2.epoch l2.bytes (all l2)).dn ≤ _; omega, hk1, .inr ⟨t1, fun h => m3 t1 (hl h), t2, fun f => ?_⟩⟩
      show Dsk (KK f (syncS d2.s 0 l2.epoch l2.bytes (all l2))) d.n d.cnt _ S ∨ Dsk (KK f (syncS d2.s 0 l2.epoch l2.bytes (all l2))) d.n d.cnt _ T
      have hlenK : (KK f (syncS d2.s 0 l2.epoch l2.bytes (all l2))).length = d2.s.kept.length := by rw [KK_length, hlenS]
      rcases hf1 f with h | h
      · exact .inl ⟨l2.epoch, l2.recs, ms, by omega, hlo.is.2, by rw [← hlo.is.1]; exact h, by rw [w7]; exact hR, by rw [← hm]; exact hfS.out hlenK (fun x hx => m2 f x hx)⟩
      · exact .inr ⟨l2.epoch, l2.recs ++ l2.wait, ms ++ [tm], by omega, hft, by rw [hfr]; exact h, hR2, by rw [hm2]; exact hfT.out hlenK (fun x hx => m2 f x hx)⟩
  · have hn0 : ¬ (takeA d tm).2 = 0 := by rw [e0]; decide
    refine ⟨?_, fun h => absurd h hn0⟩
    unfold takeT at hk1 ⊢
    rw [if_neg hn0] at hk1 ⊢
    exact ⟨h1.n, h1.cnt, h1.len, by have := h1.dn; omega, hk1, .inr ⟨e0, hl, hdn, fun f => .inl (by rcases hD f with h | h <;> exact h.up (by omega))⟩⟩
end Pd
/- Proved: plain facts of a transaction's calls over what it has changed (stage 10). No program is named. -/
namespace Go.Proofs.YtcfninpokngmlaaGreatDoor
open Go.RowKit
def wrR (T : Pd.Ab) (id k : Int) (b : ByteArray) : Int := writeR T.pgs.length id k b (T.sh id.toNat)
def wrA (T : Pd.Ab) (id k : Int) (b : ByteArray) : Pd.Ab := if wrR T id k b = 0 then T.write id.toNat ⟨k.toNat, b⟩ else T
def frR (T : Pd.Ab) (id : Int) : Int := (thereR T.pgs.length id (T.sh id.toNat)).2
def frA (T : Pd.Ab) (id : Int) : Pd.Ab := if frR T id = 0 then T.free id.toNat else T
def alR (T : Pd.Ab) (cnt : Nat) : Int := if T.freed = [] ∧ cnt ≤ T.pgs.length then 7 else 0
def alI (T : Pd.Ab) (cnt : Nat) : Nat := if alR T cnt = 0 then T.allocI else 0
def alA (T : Pd.Ab) (cnt : Nat) : Pd.Ab := if alR T cnt = 0 then T.alloc else T
def srA (T : Pd.Ab) (i n : Int) : Pd.Ab := if setrootR i n = 0 then T.root i.toNat n.toNat else T
theorem there_zero {T : Pd.Ab} {id : Int} (h : (thereR T.pgs.length id (T.sh id.toNat)).2 = 0) : 1 ≤ id.toNat ∧ id.toNat < T.pgs.length ∧ id = (id.toNat : Int) ∧ ∃ y, T.pgs[id.toNat]? = some (some y) := by
  unfold thereR at h
  by_cases h1 : id < 1 ∨ (T.pgs.length : Int) ≤ id
  · rw [if_pos h1] at h; cases h
  · rw [if_neg h1] at h
    have h2 : ¬ (T.sh id.toNat).kind = 255 := fun e => by rw [if_pos e] at h; cases h
    refine ⟨by omega, by omega, by omega, ?_⟩
    cases hz : T.pgs[id.toNat]? with
    | none => rw [List.getElem?_eq_getElem (by omega : id.toNat < T.pgs.length)] at hz; cases hz
    | some o =>
      cases o with
      | none => exact absurd (by rw [Pd.Ab.sh_free (by omega) hz]; rfl) h2
      | some y => exact ⟨y, rfl⟩
theorem write_zero {T : Pd.Ab} {id k : Int} {b : ByteArray} (h : wrR T id k b = 0) : (thereR T.pgs.length id (T.sh id.toNat)).2 = 0 ∧ 1 ≤ k ∧ k < 255 ∧ b.size ≤ 500 := by
  unfold wrR writeR at h
  by_cases h1 : (thereR T.pgs.length id (T.sh id.toNat)).2 = 0
  · rw [if_neg (by rw [h1]; simp)] at h
    by_cases h2 : k < 1 ∨ 255 ≤ k
    · rw [if_pos h2] at h; cases h
    · rw [if_neg h2] at h
      by_cases h3 : 500 < b.size
      · rw [if_pos h3] at h; cases h
      · exact ⟨h1, by omega, by omega, by omega⟩
  · rw [if_pos h1] at h; exact absurd h h1
end Go.Proofs.YtcfninpokngmlaaGreatDoor
namespace Pd
open Wl
theorem Fine.set {cnt : Nat} {m : Mp} (h : Fine cnt m) {i : Nat} {x : Sheet} (hi : i < cnt) (hx : x.Fine) : Fine cnt (set m i x) := fun p hp => by
  rcases set_keys x i m p hp with rfl | hp
  · exact ⟨hi, hx⟩
  · exact h p hp
theorem TxI.write {cnt : Nat} {S T : Ab} {tm : Mp} (h : TxI cnt S T tm) {i : Nat} {x y : Sheet} (h1 : 1 ≤ i) (hy : T.pgs[i]? = some (some y)) (hx : x.Fine ∧ x.kind ≤ 254) : TxI cnt S (T.write i x) (set tm i x) := by
  have hl := (List.getElem?_eq_some_iff.1 hy).1
  have hm := h.ok.most
  have hlen : (T.write i x).pgs.length = T.pgs.length := by show (T.pgs.set i (some x)).length = _; rw [List.length_set]
  have hst : (T.write i x).stt = T.stt := by unfold Ab.stt; rw [hlen]; rfl
  refine ⟨h.ok.write h1 hy hx, h.up.set x i, h.fine.set (by omega) hx.1, fun j hj hjl => ?_, ?_, fun e => absurd e (set_ne_nil _ _ _)⟩
  · rw [get_set x i j h.up, T.write_sh i j x h1 hl]
    by_cases e : i = j
    · rw [if_pos e, if_pos e.symm]; exact .inl rfl
    · rw [if_neg e, if_neg (fun h => e h.symm)]
      exact h.has j hj (by omega)
  · rw [get_set x i 0 h.up, if_neg (by omega), hst]
    exact h.zero
/- a change of the state: page 0 too -/
theorem TxI.turn {cnt : Nat} {S T T' : Ab} {tm : Mp} (h : TxI cnt S T tm) (hok : T'.Ok cnt) {i : Nat} {x : Sheet} (h1 : 1 ≤ i) (hi : i < cnt) (hx : x.Fine) (hlen : T'.pgs.length = T.pgs.length ∨ (i = T.pgs.length ∧ T'.pgs.length = i + 1)) (hsh : ∀ j, 1 ≤ j → j < T'.pgs.length → T'.sh j = if j = i then x else T.sh j) : TxI cnt S T' (set (set tm i x) 0 T'.stt.sheet) := by
  have hs := h.ok.small
  have hf0 : T'.stt.sheet.Fine := by have := T'.sh_zero; rw [← this]; exact Ab.sh_fine hok 0
  refine ⟨hok, (h.up.set x i).set _ 0, (h.fine.set hi hx).set (by omega) hf0, fun j hj hjl => ?_, .inl ?_, fun e => absurd e (set_ne_nil _ _ _)⟩
  · rw [get_set _ 0 j (h.up.set x i), if_neg (by omega), get_set x i j h.up, hsh j hj hjl]
    by_cases e : i = j
    · rw [if_pos e, if_pos e.symm]; exact .inl rfl
    · rw [if_neg e, if_neg (fun h => e h.symm)]
      exact h.has j hj (by omega)
  · rw [get_set _ 0 0 (h.up.set x i), if_pos rfl]
theorem TxI.alloc {cnt : Nat} {S T : Ab} {tm : Mp} (h : TxI cnt S T tm) (hf : T.freed = [] → T.pgs.length < cnt) : TxI cnt S T.alloc (set (set tm T.allocI page1) 0 T.alloc.stt.sheet) := by
  have hok := h.ok.alloc hf
  have hp := Ab.allocI_pos h.ok
  have hl := Ab.allocI_lt h.ok
  have hm := hok.most
  have hh := T.alloc_high
  refine h.turn hok hp (by omega) page1_fine.1 ?_ (fun j hj hjl => Ab.alloc_sh h.ok j hj hjl)
  by_cases e : T.freed = []
  · rw [if_pos e] at hh
    have : T.allocI = T.pgs.length := by unfold Ab.allocI; rw [if_pos e]
    exact .inr ⟨this, by omega⟩
  · rw [if_neg e] at hh
    exact .inl hh
theorem free_fine (a : Nat) : (freeSheet a).Fine := ⟨by show 1 ≤ 255; omega, by show 255 ≤ 255; omega, by show (put a 4).size ≤ 500; rw [put_size]; omega⟩
theorem TxI.free {cnt : Nat} {S T : Ab} {tm : Mp} (h : TxI cnt S T tm) {i : Nat} {y : Sheet} (h1 : 1 ≤ i) (hy : T.pgs[i]? = some (some y)) : TxI cnt S (T.free i) (set (set tm i (freeSheet T.stt.last)) 0 (T.free i).stt.sheet) := by
  have hl := (List.getElem?_eq_some_iff.1 hy).1
  have hm := h.ok.most
  have hlen : (T.free i).pgs.length = T.pgs.length := by show (T.pgs.set i none).length = _; rw [List.length_set]
  exact h.turn (h.ok.free h1 hy) h1 (by omega) (free_fine _) (.inl hlen) (fun j hj hjl => Ab.free_sh h.ok h1 hy j hj (by omega))
theorem TxI.root {cnt : Nat} {S T : Ab} {tm : Mp} (h : TxI cnt S T tm) (i n : Nat) (hn : n ≤ 2147483647) : TxI cnt S (T.root i n) (set tm 0 (T.root i n).stt.sheet) := by
  have hok := h.ok.root i n hn
  have hf0 : (T.root i n).stt.sheet.Fine := by have := (T.root i n).sh_zero; rw [← this]; exact Ab.sh_fine hok 0
  have hpos := h.ok.pos
  have hm := h.ok.most
  refine ⟨hok, h.up.set _ 0, h.fine.set (by omega) hf0, fun j hj hjl => ?_, .inl ?_, fun e => absurd e (set_ne_nil _ _ _)⟩
  · rw [get_set _ 0 j h.up, if_neg (by omega), T.root_sh i n j hj]
    exact h.has j hj (by rw [(T.root_pgs i n).1] at hjl; exact hjl)
  · rw [get_set _ 0 0 h.up, if_pos rfl]
end Pd
namespace Go.Proofs.YtcfninpokngmlaaGreatDoor
theorem up_stt {T : Pd.Ab} (e : T.freed = []) : upSt T.stt = T.alloc.stt := by
  unfold upSt Pd.Ab.stt Pd.Ab.alloc
  rw [if_pos e]
  simp [e]
theorem un_stt {T : Pd.Ab} (e : T.freed ≠ []) : unSt T.stt (T.freed.dropLast.getLast?.getD 0) = T.alloc.stt := by
  unfold unSt Pd.Ab.stt Pd.Ab.alloc
  rw [if_neg e]
  simp
theorem free_stt (T : Pd.Ab) (i : Nat) : freeSt T.stt i = (T.free i).stt := by
  unfold freeSt Pd.Ab.stt Pd.Ab.free
  simp
theorem root_stt (T : Pd.Ab) (i n : Nat) : rootSt T.stt i n = (T.root i n).stt := by
  rcases i with _ | _ | _ | i <;> rfl
theorem tsees {K : Nat} {d : Pd.Db} {S T : Pd.Ab} {tm : Pd.Mp} {sp : Bool} (I : Pd.Inv K d S) (h : Pd.TxI d.cnt S T tm) {i : Nat} (h1 : 1 ≤ i) (h2 : i < T.pgs.length) : Pd.TSees ⟨T.stt, tm, sp⟩ d i (T.sh i) := by
  rcases h.has i h1 h2 with e | ⟨e, e2, e3⟩
  · exact .inl e
  · refine .inr ⟨e, ?_⟩
    rw [e3]
    rcases I.fnd.has i h1 e2 with g | ⟨g, g2⟩
    · exact .inl g
    · exact .inr ⟨g, by rw [Wl.flat_nil I.pend]; exact g2, Pd.Ab.sh_fine I.fnd.ok i⟩
end Go.Proofs.YtcfninpokngmlaaGreatDoor
