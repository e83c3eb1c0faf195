/- Proved: what Commit makes of a database. -/
import Derived.Test.YtcfninpokngmlaaGreatDoorDTc
namespace Go.Proofs.YtcfninpokngmlaaGreatDoor
open Go.RowKit
def comR (d : Pd.Db) (u : Pd.Tx) : Int := if u.sp = true then 9 else if holdsB d.n u.m.length = false then 7 else 0
section
variable (A : Ad) (t bt : Nat) (d : Pd.Db) (u : Pd.Tx) (w : World)
/- a commit that takes nothing: it is spoilt, or too great, or has changed nothing -/
set_option maxHeartbeats 4000000 in
set_option maxRecDepth 100000 in
theorem commit_no (H : Txw w A t bt d u) (hF : Fits d) (hn1 : 1 ≤ d.n) (hml : u.m.length ≤ 1000) (hc : u.sp = true ∨ holdsB d.n u.m.length = false ∨ u.m = []) :
    Calls Tryz.prog 33 #[ptr t] w fun e w' => e = .returned (.int .i64 (comR d u)) ∧ Dbw w' A nilP d ∧ TxEnd w' t ∧ Chg (tft A t bt) w w' := by
  have HRE : Hid (Calls Tryz.prog 62 #[.pointer (some ⟨t, 0, none⟩)] w fun e w' => e = .returned (.int .i64 0) ∧ w' = w) := tready_ok A t bt d u w H hF.lost
  have HCH : Hid (Calls Tryz.prog 14 #[.pointer (some ⟨t, 0, none⟩)] w fun e w' => e = .returned (.int .i64 (u.m.length : Int)) ∧ w' = w) := changed_any A t bt d u w H
  have HHO : Hid (Calls Tryz.prog 67 #[.pointer (some ⟨A.x, 0, none⟩), .int .i64 (u.m.length : Int)] w fun e w' => e = .returned (.bool (holdsB d.n u.m.length)) ∧ w' = w) := holds_any A (ptr t) d w u.m.length H.db hn1 (by have := hF.n; omega) (by omega)
  have HAB : Hid (Calls Tryz.prog 28 #[.pointer (some ⟨t, 0, none⟩)] w fun e w' => e = .returned (.tuple #[]) ∧ Dbw w' A nilP d ∧ TxEnd w' t ∧ Chg (tft A t bt) w w') := tabort_any A t bt d u w H
  have c0 : w.cell? ⟨t, 0, none⟩ = some (.pointer (some ⟨A.x, 0, none⟩)) := H.c0
  have c9 := H.c9
  have x13 := H.db.c13
  rw [hF.lost] at x13
  have HCR : Hid (comR d u = if u.sp = true then 9 else if holdsB d.n u.m.length = false then 7 else 0) := rfl
  generalize hcr : comR d u = R at *
  clear H hcr
  unfold ptr
  by_cases h1 : u.sp = true
  · rw [h1] at c9
    rw [if_pos h1] at HCR
    rw [HCR.out]
    clear hc h1
    go_enter Tryz.func33, Tryz.ntmps33
    go_wp2_with (first | (go_at_call 62; refine HRE.out.mono ?_; rintro e wS ⟨rfl, hwS⟩; rw [hwS]; clear hwS wS) | (go_at_call 14; refine HCH.out.mono ?_; rintro e wS ⟨rfl, hwS⟩; rw [hwS]; clear hwS wS) | (go_at_call 28; refine HAB.out.mono ?_; rintro e w1 ⟨rfl, hFN⟩))
    go_ret
    exact ⟨rfl, hFN⟩
  · have h1' : u.sp = false := by simpa using h1
    rw [h1'] at c9
    rw [if_neg h1] at HCR
    by_cases h2 : holdsB d.n u.m.length = false
    · rw [h2] at HHO
      rw [if_pos h2] at HCR
      rw [HCR.out]
      clear hc h1 h1' h2
      go_enter Tryz.func33, Tryz.ntmps33
      go_wp2_with (first | (go_at_call 62; refine HRE.out.mono ?_; rintro e wS ⟨rfl, hwS⟩; rw [hwS]; clear hwS wS) | (go_at_call 14; refine HCH.out.mono ?_; rintro e wS ⟨rfl, hwS⟩; rw [hwS]; clear hwS wS) | (go_at_call 67; refine HHO.out.mono ?_; rintro e wS ⟨rfl, hwS⟩; rw [hwS]; clear hwS wS) | (go_at_call 28; refine HAB.out.mono ?_; rintro e w1 ⟨rfl, hFN⟩))
      go_ret
      exact ⟨rfl, hFN⟩
    · have h2' : holdsB d.n u.m.length = true := by simpa using h2
      rw [h2'] at HHO
      rw [if_neg h2] at HCR
      rw [HCR.out]
      have hm : u.m.length = 0 := by
        rcases hc with h | h | h
        · exact absurd h h1
        · exact absurd h h2
        · rw [h]; rfl
      rw [hm] at HCH HHO
      have HCH : Hid (Calls Tryz.prog 14 #[.pointer (some ⟨t, 0, none⟩)] w fun e w' => e = .returned (.int .i64 0) ∧ w' = w) := HCH
      have HHO : Hid (Calls Tryz.prog 67 #[.pointer (some ⟨A.x, 0, none⟩), .int .i64 0] w fun e w' => e = .returned (.bool true) ∧ w' = w) := HHO
      clear hc h1 h1' h2 h2' hm
      go_enter Tryz.func33, Tryz.ntmps33
      go_wp2_with (first | (go_at_call 62; refine HRE.out.mono ?_; rintro e wS ⟨rfl, hwS⟩; rw [hwS]; clear hwS wS) | (go_at_call 14; refine HCH.out.mono ?_; rintro e wS ⟨rfl, hwS⟩; rw [hwS]; clear hwS wS) | (go_at_call 67; refine HHO.out.mono ?_; rintro e wS ⟨rfl, hwS⟩; rw [hwS]; clear hwS wS) | (go_at_call 28; refine HAB.out.mono ?_; rintro e w1 ⟨rfl, hFN⟩))
      go_ret
      exact ⟨rfl, hFN⟩
/- what a commit that takes leaves -/
def ComPost (w : World) (A : Ad) (t bt : Nat) (d1 : Pd.Db) (e1 : Int) (e : Ending) (w' : World) : Prop :=
  e = .returned (.int .i64 e1) ∧ ∃ vr vw vp, ((heedB e1 = false ∧ Dbw w' (A.to vr vw vp) nilP { d1 with lost := false } ∧ TxEnd w' t) ∨ (heedB e1 = true ∧ Dbw w' (A.to vr vw vp) (ptr t) { d1 with lost := true })) ∧ Turn (tft A t bt) (tft (A.to vr vw vp) t bt) w w'
set_option maxHeartbeats 8000000 in
set_option maxRecDepth 100000 in
theorem commit_take (H : Txw w A t bt d u) (hF : Fits d) (hn1 : 1 ≤ d.n) (hsp : u.sp = false) (hho : holdsB d.n u.m.length = true) (hne : u.m ≠ []) (hFm : Pd.Fine d.cnt d.m) (hFt : Pd.Fine d.cnt u.m)
    (h1 : d.s.dn + 8 * d.m.length + 10 ≤ 80000) (h2 : d.s.pend.length + 8 * d.m.length + 10 ≤ 18000) (h3 : (Pd.takeA d u.m).1.s.dn + (Pd.takeA d u.m).1.l.n ≤ 90000) (h4 : (Pd.takeA d u.m).1.s.pend.length + (Pd.takeA d u.m).1.l.n ≤ 19000)
    (htl : (Pd.takeA d u.m).2 = 0 → Wl.addE (Pd.takeA d u.m).1.l (Pd.recText d.n u.m) = 0 → (Pd.takeA d u.m).1.s.down = false ∧ ∀ j, j < (Pd.takeA d u.m).1.l.bytes.size % 64 → (Sc.now (Pd.takeA d u.m).1.s ((Pd.takeA d u.m).1.l.base + 1 + (Pd.takeA d u.m).1.l.bytes.size / 64)).data.toList[j]? = (Pd.takeA d u.m).1.l.bytes.data.toList[64 * ((Pd.takeA d u.m).1.l.bytes.size / 64) + j]?) :
    Calls Tryz.prog 33 #[ptr t] w (ComPost w A t bt (Pd.takeT d u.m u.st).1 (Pd.takeT d u.m u.st).2) := by
  have hml := Pd.fine_length H.mp.up hFt
  have hcn := hF.cnt
  have HRE : Hid (Calls Tryz.prog 62 #[.pointer (some ⟨t, 0, none⟩)] w fun e w' => e = .returned (.int .i64 0) ∧ w' = w) := tready_ok A t bt d u w H hF.lost
  have HCH : Hid (Calls Tryz.prog 14 #[.pointer (some ⟨t, 0, none⟩)] w fun e w' => e = .returned (.int .i64 (u.m.length : Int)) ∧ w' = w) := changed_any A t bt d u w H
  have HHO : Hid (Calls Tryz.prog 67 #[.pointer (some ⟨A.x, 0, none⟩), .int .i64 (u.m.length : Int)] w fun e w' => e = .returned (.bool true) ∧ w' = w) := by
    have := holds_any A (ptr t) d w u.m.length H.db hn1 (by have := hF.n; omega) (by omega)
    rw [hho] at this
    exact this
  have HTK : Hid (Calls Tryz.prog 68 #[.pointer (some ⟨A.x, 0, none⟩), .map (some bt), .agg #[.int .i64 (u.st.high : Int), .int .i64 (u.st.free : Int), .int .i64 (u.st.last : Int), .int .i64 (u.st.r0 : Int), .int .i64 (u.st.r1 : Int), .int .i64 (u.st.r2 : Int), .int .i64 (u.st.r3 : Int)]] w.drew (DDoes w.drew A (ptr t) (Pd.takeT d u.m u.st).1 (Pd.takeT d u.m u.st).2)) := dtake_any A (ptr t) d bt u.m u.st w.drew H.db.drew (H.mp.keep rfl) H.ba hFm hFt hF.cnt hF.n h1 h2 h3 h4 htl
  have HH : Hid (Txw w A t bt d u) := H
  have c0 : w.cell? ⟨t, 0, none⟩ = some (.pointer (some ⟨A.x, 0, none⟩)) := H.c0
  have c9 := H.c9
  rw [hsp] at c9
  have hpos : 0 < u.m.length := Nat.pos_of_ne_zero (fun e => hne (List.length_eq_zero_iff.1 e))
  have dp : decide ((0 : Int) < (u.m.length : Int)) = true := decide_eq_true (by omega)
  clear H htl hsp hho hne h1 h2 h3 h4
  generalize hd1 : (Pd.takeT d u.m u.st).1 = d1 at *
  generalize he1 : (Pd.takeT d u.m u.st).2 = e1 at *
  clear hd1 he1
  unfold ptr
  go_enter Tryz.func33, Tryz.ntmps33
  go_wp2_with (first | (go_at_call 62; refine HRE.out.mono ?_; rintro e wS ⟨rfl, hwS⟩; rw [hwS]; clear hwS wS) | (go_at_call 14; refine HCH.out.mono ?_; rintro e wS ⟨rfl, hwS⟩; rw [hwS]; clear hwS wS) | (go_at_call 67; refine HHO.out.mono ?_; rintro e wS ⟨rfl, hwS⟩; rw [hwS]; clear hwS wS))
  have HS : Hid (TS A t bt u w) := HH.out.row
  refine wp_region_held_drew (S := TS A t bt u) (by kernel_rfl) HS.out (fun _ => ?_)
  refine heldTake 0 (some 28) (.pointer (some ⟨t, 0, none⟩)) rfl rfl (by kernel_rfl) (by kernel_rfl) (by kernel_rfl) (fun _ _ _ h => h) (Or.inl ⟨by rfl, fun w hS => ?_⟩) HS.out ?_
  · (go_simp)
  simp only [Act.put, List.setIfInBounds_toArray, List.set_cons_zero, List.set_cons_succ]
  refine heldTake 1 (some 29) (.pointer (some ⟨t, 0, none⟩)) rfl rfl (by kernel_rfl) (by kernel_rfl) (by kernel_rfl) (fun _ _ _ h => h) (Or.inl ⟨by rfl, fun w hS => ?_⟩) HS.out ?_
  · (go_simp)
  simp only [Act.put, List.setIfInBounds_toArray, List.set_cons_zero, List.set_cons_succ]
  refine heldTake 2 (some 30) (.pointer (some ⟨t, 0, none⟩)) rfl rfl (by kernel_rfl) (by kernel_rfl) (by kernel_rfl) (fun _ _ _ h => h) (Or.inl ⟨by rfl, fun w hS => ?_⟩) HS.out ?_
  · (go_simp)
  simp only [Act.put, List.setIfInBounds_toArray, List.set_cons_zero, List.set_cons_succ]
  refine heldTake 3 (some 31) (.pointer (some ⟨A.x, 0, none⟩)) rfl rfl (by kernel_rfl) (by kernel_rfl) (by kernel_rfl) (fun _ _ _ h => h) (Or.inl ⟨by rfl, fun w hS => ?_⟩) HS.out ?_
  · (have p0 : _ = some (Value.pointer (some ⟨A.x, 0, none⟩)) := cell_of_row w t 0 _ _ (0, 0) hS; clear hS; go_simp)
  simp only [Act.put, List.setIfInBounds_toArray, List.set_cons_zero, List.set_cons_succ]
  refine heldTake 4 (some 32) (.pointer (some ⟨t, 0, none⟩)) rfl rfl (by kernel_rfl) (by kernel_rfl) (by kernel_rfl) (fun _ _ _ h => h) (Or.inl ⟨by rfl, fun w hS => ?_⟩) HS.out ?_
  · (go_simp)
  simp only [Act.put, List.setIfInBounds_toArray, List.set_cons_zero, List.set_cons_succ]
  refine heldTake 5 (some 33) (.pointer (some ⟨t, 0, none⟩)) rfl rfl (by kernel_rfl) (by kernel_rfl) (by kernel_rfl) (fun _ _ _ h => h) (Or.inl ⟨by rfl, fun w hS => ?_⟩) HS.out ?_
  · (go_simp)
  simp only [Act.put, List.setIfInBounds_toArray, List.set_cons_zero, List.set_cons_succ]
  refine heldTake 6 (some 34) (.pointer (some ⟨t, 0, none⟩)) rfl rfl (by kernel_rfl) (by kernel_rfl) (by kernel_rfl) (fun _ _ _ h => h) (Or.inl ⟨by rfl, fun w hS => ?_⟩) HS.out ?_
  · (go_simp)
  simp only [Act.put, List.setIfInBounds_toArray, List.set_cons_zero, List.set_cons_succ]
  refine heldTake 7 (some 35) (.pointer (some ⟨A.x, 0, none⟩)) rfl rfl (by kernel_rfl) (by kernel_rfl) (by kernel_rfl) (fun _ _ _ h => h) (Or.inl ⟨by rfl, fun w hS => ?_⟩) HS.out ?_
  · (have p0 : _ = some (Value.pointer (some ⟨A.x, 0, none⟩)) := cell_of_row w t 0 _ _ (0, 0) hS; clear hS; go_simp)
  simp only [Act.put, List.setIfInBounds_toArray, List.set_cons_zero, List.set_cons_succ]
  refine heldTake 8 (some 36) (.pointer (some ⟨t, 0, none⟩)) rfl rfl (by kernel_rfl) (by kernel_rfl) (by kernel_rfl) (fun _ _ _ h => h) (Or.inl ⟨by rfl, fun w hS => ?_⟩) HS.out ?_
  · (go_simp)
  simp only [Act.put, List.setIfInBounds_toArray, List.set_cons_zero, List.set_cons_succ]
  refine heldTake 9 (some 37) (.pointer (some ⟨t, 0, none⟩)) rfl rfl (by kernel_rfl) (by kernel_rfl) (by kernel_rfl) (fun _ _ _ h => h) (Or.inl ⟨by rfl, fun w hS => ?_⟩) HS.out ?_
  · (go_simp)
  simp only [Act.put, List.setIfInBounds_toArray, List.set_cons_zero, List.set_cons_succ]
  refine heldTake 10 (some 38) (.pointer (some ⟨t, 8, none⟩)) rfl rfl (by kernel_rfl) (by kernel_rfl) (by kernel_rfl) (fun _ _ _ h => h) (Or.inl ⟨by rfl, fun w hS => ?_⟩) HS.out ?_
  · (go_simp)
  simp only [Act.put, List.setIfInBounds_toArray, List.set_cons_zero, List.set_cons_succ]
  refine heldTake 11 (some 39) (.map (some bt)) rfl rfl (by kernel_rfl) (by kernel_rfl) (by kernel_rfl) (fun _ _ _ h => h) (Or.inl ⟨by rfl, fun w hS => ?_⟩) HS.out ?_
  · (have p8 : _ = some (Value.map (some bt)) := cell_of_row w t 8 _ _ (0, 0) hS; clear hS; go_simp)
  simp only [Act.put, List.setIfInBounds_toArray, List.set_cons_zero, List.set_cons_succ]
  refine heldTake 12 (some 40) (.pointer (some ⟨t, 0, none⟩)) rfl rfl (by kernel_rfl) (by kernel_rfl) (by kernel_rfl) (fun _ _ _ h => h) (Or.inl ⟨by rfl, fun w hS => ?_⟩) HS.out ?_
  · (go_simp)
  simp only [Act.put, List.setIfInBounds_toArray, List.set_cons_zero, List.set_cons_succ]
  refine heldTake 13 (some 41) (.pointer (some ⟨t, 0, none⟩)) rfl rfl (by kernel_rfl) (by kernel_rfl) (by kernel_rfl) (fun _ _ _ h => h) (Or.inl ⟨by rfl, fun w hS => ?_⟩) HS.out ?_
  · (go_simp)
  simp only [Act.put, List.setIfInBounds_toArray, List.set_cons_zero, List.set_cons_succ]
  refine heldTake 14 (some 42) (.pointer (some ⟨t, 1, none⟩)) rfl rfl (by kernel_rfl) (by kernel_rfl) (by kernel_rfl) (fun _ _ _ h => h) (Or.inl ⟨by rfl, fun w hS => ?_⟩) HS.out ?_
  · (go_simp)
  simp only [Act.put, List.setIfInBounds_toArray, List.set_cons_zero, List.set_cons_succ]
  refine heldTake 15 (some 43) (.agg #[.int .i64 (u.st.high : Int), .int .i64 (u.st.free : Int), .int .i64 (u.st.last : Int), .int .i64 (u.st.r0 : Int), .int .i64 (u.st.r1 : Int), .int .i64 (u.st.r2 : Int), .int .i64 (u.st.r3 : Int)]) rfl rfl (by kernel_rfl) (by kernel_rfl) (by kernel_rfl) (fun _ _ _ h => h) (Or.inl ⟨by rfl, fun w hS => ?_⟩) HS.out ?_
  · (have p1 : _ = some (Value.int .i64 (u.st.high : Int)) := cell_of_row w t 1 _ _ (0, 0) hS; have p2 : _ = some (Value.int .i64 (u.st.free : Int)) := cell_of_row w t 2 _ _ (0, 0) hS; have p3 : _ = some (Value.int .i64 (u.st.last : Int)) := cell_of_row w t 3 _ _ (0, 0) hS; have p4 : _ = some (Value.int .i64 (u.st.r0 : Int)) := cell_of_row w t 4 _ _ (0, 0) hS; have p5 : _ = some (Value.int .i64 (u.st.r1 : Int)) := cell_of_row w t 5 _ _ (0, 0) hS; have p6 : _ = some (Value.int .i64 (u.st.r2 : Int)) := cell_of_row w t 6 _ _ (0, 0) hS; have p7 : _ = some (Value.int .i64 (u.st.r3 : Int)) := cell_of_row w t 7 _ _ (0, 0) hS; clear hS; go_simp)
  simp only [Act.put, List.setIfInBounds_toArray, List.set_cons_zero, List.set_cons_succ]
  refine heldOne 16 (by kernel_rfl) rfl (by rfl) (fun KK hK => ?_)
  go_simp
  go_at_call 68
  refine HTK.out.mono ?_
  rintro e w1 ⟨vr, vw, vp, rfl, hD1, hT1⟩
  have hT1' : Turn A.ft (A.to vr vw vp).ft w w1 := (Turn.refl A.ft w).drew.trans hT1
  have HX1 : Hid (Txw w1 (A.to vr vw vp) t bt d1 u) := by
    refine ⟨hD1, (hT1'.chg.block t HH.out.tlt HH.out.ta).trans HH.out.row, HH.out.mp.chg hT1'.chg HH.out.ba, ?_, ?_, HH.out.tb, HH.out.z⟩
    · exact hT1'.apart (rs := [t]) (fun k hk => by rw [List.mem_singleton.1 hk]; exact HH.out.ta) (fun k hk => by rw [List.mem_singleton.1 hk]; exact HH.out.tlt) t List.mem_cons_self
    · exact hT1'.apart (rs := [bt]) (fun k hk => by rw [List.mem_singleton.1 hk]; exact HH.out.ba) (fun k hk => by rw [List.mem_singleton.1 hk]; exact HH.out.mp.lt) bt List.mem_cons_self
  have HT1 : Hid (Turn (tft A t bt) (tft (A.to vr vw vp) t bt) w w1) := by
    refine ⟨hT1'.chg.mono (fun k hk => tft_a hk), fun k hk => ?_⟩
    rcases List.mem_cons.1 hk with e | hk
    · exact .inl (by rw [e]; exact tft_t)
    · rcases List.mem_cons.1 hk with e | hk
      · exact .inl (by rw [e]; exact tft_b)
      · rcases hT1'.grow k hk with h | h
        · exact .inl (tft_a h)
        · exact .inr h
  have HS1 : Hid (TS A t bt u w1) := HX1.out.row
  have HHE : Hid (Calls Tryz.prog 60 #[.pointer (some ⟨A.x, 0, none⟩), .int .i64 e1] w1 fun e w' => e = .returned (.int .i64 e1) ∧ Dbw w' (A.to vr vw vp) (ptr t) { d1 with lost := heedB e1 } ∧ Turn (A.to vr vw vp).ft (A.to vr vw vp).ft w1 w') := heed_any (A.to vr vw vp) (ptr t) d1 w1 e1 hD1
  clear hD1 hT1 hT1' HTK HS
  refine hK.out _ _ HS1.out ?_
  clear hK KK
  refine heldOne 17 (by kernel_rfl) rfl (by rfl) (fun KK hK => ?_)
  go_simp
  go_at_call 60
  refine HHE.out.mono ?_
  rintro e w2 ⟨rfl, hD2, hT2⟩
  have HX2 : Hid (Txw w2 (A.to vr vw vp) t bt { d1 with lost := heedB e1 } u) := ⟨hD2, (hT2.chg.block t HX1.out.tlt HX1.out.ta).trans HX1.out.row, HX1.out.mp.chg hT2.chg HX1.out.ba, HX1.out.ta, HX1.out.ba, HX1.out.tb, HX1.out.z⟩
  have HT2 : Hid (Turn (tft A t bt) (tft (A.to vr vw vp) t bt) w w2) := HT1.out.trans ⟨hT2.chg.mono (fun k hk => tft_a hk), fun k hk => .inl hk⟩
  have HS2 : Hid (TS A t bt u w2) := HX2.out.row
  clear hD2 hT2 HHE HX1 HT1 HS1
  refine hK.out _ _ HS2.out ?_
  clear hK KK
  refine heldTake 18 (some 3) (.int .i64 e1) rfl rfl (by kernel_rfl) (by kernel_rfl) (by kernel_rfl) (fun _ _ _ h => h) (Or.inl ⟨by rfl, fun w hS => ?_⟩) HS2.out ?_
  · (go_simp)
  simp only [Act.put, List.setIfInBounds_toArray, List.set_cons_zero, List.set_cons_succ]
  refine wpAnyH_done (by kernel_rfl) ?_ _
  have q0 : w2.cell? ⟨t, 0, none⟩ = some (.pointer (some ⟨A.x, 0, none⟩)) := HX2.out.c0
  have q13 : w2.cell? ⟨A.x, 13, none⟩ = some (.bool (heedB e1)) := HX2.out.db.c13
  have HAB : Hid (Calls Tryz.prog 28 #[.pointer (some ⟨t, 0, none⟩)] w2 fun e w' => e = .returned (.tuple #[]) ∧ Dbw w' (A.to vr vw vp) nilP { d1 with lost := heedB e1 } ∧ TxEnd w' t ∧ Chg (tft (A.to vr vw vp) t bt) w2 w') := tabort_any (A.to vr vw vp) t bt _ u w2 HX2.out
  clear HS2 c0 c9
  cases hb : heedB e1 with
  | true =>
    rw [hb] at q13
    have HFN : Hid (ComPost w A t bt d1 e1 (.returned (.int .i64 e1)) w2) := by
      refine ⟨rfl, vr, vw, vp, .inr ⟨hb, ?_⟩, HT2.out⟩
      have := HX2.out.db
      rw [hb] at this
      exact this
    clear hb HAB
    go_wp2
    go_ret
    exact HFN.out
  | false =>
    rw [hb] at q13
    have HFN : Hid (∀ w', Dbw w' (A.to vr vw vp) nilP { d1 with lost := heedB e1 } → TxEnd w' t → Chg (tft (A.to vr vw vp) t bt) w2 w' → ComPost w A t bt d1 e1 (.returned (.int .i64 e1)) w') := fun w' x1 x2 x3 => by
      refine ⟨rfl, vr, vw, vp, .inl ⟨hb, ?_, x2⟩, HT2.out.trans ⟨x3, fun k hk => .inl hk⟩⟩
      rw [hb] at x1
      exact x1
    clear hb
    go_wp2_with fail
    refine HAB.out.mono ?_
    rintro e w3 ⟨rfl, x1, x2, x3⟩
    have HX := (show Hid (ComPost w A t bt d1 e1 (.returned (.int .i64 e1)) w3) from HFN.out w3 x1 x2 x3)
    clear x1 x2 x3 HFN HAB
    go_wp2
    go_ret
    exact HX.out
end
end Go.Proofs.YtcfninpokngmlaaGreatDoor
