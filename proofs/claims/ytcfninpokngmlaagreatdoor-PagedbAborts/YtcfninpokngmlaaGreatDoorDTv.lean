/- Proved: what a transaction's Write, Free and SetRoot make of it. -/
import Derived.Test.YtcfninpokngmlaaGreatDoorDTw
namespace Go.Proofs.YtcfninpokngmlaaGreatDoor
open Go.RowKit
section
variable (A : Ad) (t bt : Nat) (d : Pd.Db) (u : Pd.Tx) (w : World)
abbrev TS (A : Ad) (t bt : Nat) (u : Pd.Tx) : World → Prop := fun U : World => U.heap[t]? = some (.cells (txA A.x bt u) 66 (0, 0))
def TDoes (w : World) (A : Ad) (t bt : Nat) (d : Pd.Db) (u : Pd.Tx) (n : Int) (e : Ending) (w' : World) : Prop := e = .returned (.int .i64 n) ∧ Txw w' A t bt d u ∧ Turn (tft A t bt) (tft A t bt) w w'
def writeR (hi : Nat) (id k : Int) (b : ByteArray) (x : Pd.Sheet) : Int := if (thereR hi id x).2 ≠ 0 then (thereR hi id x).2 else if k < 1 ∨ 255 ≤ k then 2 else if 500 < b.size then 3 else 0
def writeU (u : Pd.Tx) (R id k : Int) (b : ByteArray) : Pd.Tx := if R = 0 then { u with m := Pd.set u.m id.toNat ⟨k.toNat, b⟩ } else u
def freeSt (s : Pd.Stt) (i : Nat) : Pd.Stt := { s with last := i, free := s.free + 1 }
def freeU (u : Pd.Tx) (R id : Int) : Pd.Tx := if R = 0 then { st := freeSt u.st id.toNat, m := Pd.set (Pd.set u.m id.toNat (Pd.freeSheet u.st.last)) 0 (freeSt u.st id.toNat).sheet, sp := u.sp } else u
set_option maxHeartbeats 4000000 in
set_option maxRecDepth 100000 in
theorem twrite_any (id k : Int) (b : ByteArray) (x : Pd.Sheet) (H : Txw w A t bt d u) (hF : Fits d) (hh : u.st.high ≤ d.cnt) (hl : u.m.length ≤ 100000) (hx : ∀ i : Nat, id = (i : Int) → 1 ≤ i → i < u.st.high → Pd.TSees u d i x) :
    Calls Tryz.prog 30 #[ptr t, .int .i64 id, .int .i64 k, .string b] w (TDoes w A t bt d (writeU u (writeR u.st.high id k b x) id k b) (writeR u.st.high id k b x)) := by
  have HT : Hid (Calls Tryz.prog 61 #[.pointer (some ⟨t, 0, none⟩), .int .i64 id] w fun e w' => e = .returned (.tuple #[.agg #[.int .i64 ((thereR u.st.high id x).1.kind : Int), .string (thereR u.st.high id x).1.body], .int .i64 (thereR u.st.high id x).2]) ∧ Below w.heap.size w w') := there_any A t bt d u w id x H hF hh hx
  have hz := zeroSh
  unfold shV sh00 Pd.none0 at hz
  have HH : Hid (Txw w A t bt d u) := H
  have hc := hF.cnt
  have HID : Hid ((thereR u.st.high id x).2 = 0 → 1 ≤ id ∧ id < (u.st.high : Int)) := fun h => by
    unfold thereR at h
    split at h
    · cases h
    · rename_i h1
      omega
  clear H hx
  generalize hkd : (thereR u.st.high id x).1.kind = kd at *
  generalize hbd : (thereR u.st.high id x).1.body = bd at *
  have HW : Hid (writeR u.st.high id k b x = if (thereR u.st.high id x).2 ≠ 0 then (thereR u.st.high id x).2 else if k < 1 ∨ 255 ≤ k then 2 else if 500 < b.size then 3 else 0) := rfl
  generalize hwr : writeR u.st.high id k b x = R at *
  generalize he0 : (thereR u.st.high id x).2 = e0 at *
  clear hkd hbd hwr he0
  unfold ptr
  go_enter Tryz.func30, Tryz.ntmps30
  go_wp2_with fail
  refine HT.out.mono ?_
  rintro e w1 ⟨rfl, hB1⟩
  have HB1 : Hid (Below w.heap.size w w1) := hB1
  have HB2 : Hid (Below w.heap.size w (w1.alloc (.cells #[.int .i64 (kd : Int), .string bd] 102))) := hB1.alloc hB1.size _
  clear hB1 HT
  by_cases hz0 : e0 = 0
  · subst hz0
    have hid := HID.out rfl
    rw [if_neg (by decide)] at HW
    by_cases hk : k < 1 ∨ 255 ≤ k
    · rw [if_pos hk] at HW
      have HFN : Hid (TDoes w A t bt d (writeU u R id k b) R (.returned (.int .i64 2)) (w1.alloc (.cells #[.int .i64 (kd : Int), .string bd] 102))) := by
        rw [HW.out]
        exact ⟨rfl, HH.out.below HB2.out, Turn.of_below HB2.out⟩
      by_cases h1 : k < 1
      · have d1 : decide (k < 1) = true := decide_eq_true h1
        go_wp2
        go_ret
        exact HFN.out
      · have d1 : decide (k < 1) = false := decide_eq_false h1
        have d2 : decide (255 ≤ k) = true := decide_eq_true (by omega)
        go_wp2
        go_ret
        exact HFN.out
    · rw [if_neg hk] at HW
      have d1 : decide (k < 1) = false := decide_eq_false (by omega)
      have d2 : decide (255 ≤ k) = false := decide_eq_false (by omega)
      by_cases hb : 500 < b.size
      · rw [if_pos hb] at HW
        have d3 : decide ((500 : Int) < (b.size : Int)) = true := decide_eq_true (by omega)
        have HFN : Hid (TDoes w A t bt d (writeU u R id k b) R (.returned (.int .i64 3)) (w1.alloc (.cells #[.int .i64 (kd : Int), .string bd] 102))) := by
          rw [HW.out]
          exact ⟨rfl, HH.out.below HB2.out, Turn.of_below HB2.out⟩
        go_wp2
        go_ret
        exact HFN.out
      · rw [if_neg hb] at HW
        have d3 : decide ((500 : Int) < (b.size : Int)) = false := decide_eq_false (by omega)
        obtain ⟨i, rfl⟩ := Int.eq_ofNat_of_zero_le (show 0 ≤ id by omega)
        obtain ⟨kk, rfl⟩ := Int.eq_ofNat_of_zero_le (show 0 ≤ k by omega)
        have HCL : Hid (∀ U, Calls Tryz.prog 65 #[.string b] U fun e w' => e = .returned (.string b) ∧ Below U.heap.size U w') := fun U => sclone_any b U (by omega)
        clear HID
        go_wp2_with fail
        generalize hw2 : World.alloc w1 _ = w2 at *
        clear hw2
        have HT2 : Hid (Txw w2 A t bt d u) := HH.out.below HB2.out
        have HS : Hid (TS A t bt u w2) := HT2.out.row
        refine wp_region_held_drew (S := TS A t bt u) (by kernel_rfl) HS.out (fun _ => ?_)
        refine heldTake 0 (some 32) (.pointer (some ⟨t, 0, none⟩)) rfl rfl (by kernel_rfl) (by kernel_rfl) (by kernel_rfl) (fun _ _ _ h => h) (Or.inl ⟨by rfl, fun w hS => ?_⟩) HS.out ?_
        · (go_simp)
        simp only [Act.put, List.setIfInBounds_toArray, List.set_cons_zero, List.set_cons_succ]
        refine heldTake 1 (some 33) (.pointer (some ⟨t, 0, none⟩)) rfl rfl (by kernel_rfl) (by kernel_rfl) (by kernel_rfl) (fun _ _ _ h => h) (Or.inl ⟨by rfl, fun w hS => ?_⟩) HS.out ?_
        · (go_simp)
        simp only [Act.put, List.setIfInBounds_toArray, List.set_cons_zero, List.set_cons_succ]
        refine heldTake 2 (some 34) (.pointer (some ⟨t, 8, none⟩)) rfl rfl (by kernel_rfl) (by kernel_rfl) (by kernel_rfl) (fun _ _ _ h => h) (Or.inl ⟨by rfl, fun w hS => ?_⟩) HS.out ?_
        · (go_simp)
        simp only [Act.put, List.setIfInBounds_toArray, List.set_cons_zero, List.set_cons_succ]
        refine heldTake 3 (some 35) (.map (some bt)) rfl rfl (by kernel_rfl) (by kernel_rfl) (by kernel_rfl) (fun _ _ _ h => h) (Or.inl ⟨by rfl, fun w hS => ?_⟩) HS.out ?_
        · (have p8 : _ = some (Value.map (some bt)) := cell_of_row w t 8 _ _ (0, 0) hS; clear hS; go_simp)
        simp only [Act.put, List.setIfInBounds_toArray, List.set_cons_zero, List.set_cons_succ]
        refine heldTake 4 (some 36) (.int .i64 (i : Int)) rfl rfl (by kernel_rfl) (by kernel_rfl) (by kernel_rfl) (fun _ _ _ h => h) (Or.inl ⟨by rfl, fun w hS => ?_⟩) HS.out ?_
        · (go_simp)
        simp only [Act.put, List.setIfInBounds_toArray, List.set_cons_zero, List.set_cons_succ]
        refine heldTake 5 (some 37) (.int .i64 (kk : Int)) rfl rfl (by kernel_rfl) (by kernel_rfl) (by kernel_rfl) (fun _ _ _ h => h) (Or.inl ⟨by rfl, fun w hS => ?_⟩) HS.out ?_
        · (go_simp)
        simp only [Act.put, List.setIfInBounds_toArray, List.set_cons_zero, List.set_cons_succ]
        refine heldTake 6 (some 38) (.string b) rfl rfl (by kernel_rfl) (by kernel_rfl) (by kernel_rfl) (fun _ _ _ h => h) (Or.inl ⟨by rfl, fun w hS => ?_⟩) HS.out ?_
        · (go_simp)
        simp only [Act.put, List.setIfInBounds_toArray, List.set_cons_zero, List.set_cons_succ]
        refine heldOne 7 (by kernel_rfl) rfl (by rfl) (fun KK hK => ?_)
        go_simp
        go_at_call 65
        refine (HCL.out w2.drew).mono ?_
        rintro e w3 ⟨rfl, hB3⟩
        have hB3' := below_drew hB3
        have HT3 : Hid (Txw w3 A t bt d u) := HT2.out.below hB3'
        have HB3 : Hid (Below w.heap.size w w3) := below_next HB2.out hB3' HB2.out.size
        have HS3 : Hid (TS A t bt u w3) := HT3.out.row
        clear hB3 hB3' HCL HT2 HS HB2 HB1
        refine hK.out _ _ HS3.out ?_
        clear hK KK
        refine heldTake 8 (some 40) (.agg #[.int .i64 (kk : Int), .string b]) rfl rfl (by kernel_rfl) (by kernel_rfl) (by kernel_rfl) (fun _ _ _ h => h) (Or.inl ⟨by rfl, fun w hS => ?_⟩) HS3.out ?_
        · (go_simp)
        simp only [Act.put, List.setIfInBounds_toArray, List.set_cons_zero, List.set_cons_succ]
        obtain ⟨w4, hrun, hM4, hg4⟩ := mp_put_run HT3.out.mp hl i (by omega) ⟨kk, b⟩
        obtain ⟨hT4, hTT⟩ := HT3.out.map hM4 hg4
        have HFN : Hid (TDoes w A t bt d (writeU u R (i : Int) (kk : Int) b) R (.returned (.int .i64 0)) w4) := by
          have e9 : writeU u R (i : Int) (kk : Int) b = { u with m := Pd.set u.m i ⟨kk, b⟩ } := by unfold writeU; rw [HW.out, if_pos rfl]; rfl
          rw [e9, HW.out]
          exact ⟨rfl, hT4, (Turn.of_below HB3.out).trans hTT⟩
        have HS4 : Hid (TS A t bt u w4) := hT4.row
        have hrun0 : (Instr.mapUpdate 59 (.map (some bt)) (.int .i64 (i : Int)) (.agg #[.int .i64 (kk : Int), .string b])).run Tryz.prog w3 = .ok () w4 := hrun
        clear hM4 hg4 hT4 hTT HT3 hrun
        refine heldOne 9 (by kernel_rfl) rfl (by rfl) (fun KK hK => ?_)
        go_simp
        refine hK.out _ _ HS4.out ?_
        clear hK KK
        refine wpAnyH_done (by kernel_rfl) ?_ _
        go_wp2
        go_ret
        exact HFN.out
  · have hb0 : (e0 != 0) = true := by simp [hz0]
    rw [if_pos hz0] at HW
    have HFN : Hid (TDoes w A t bt d (writeU u R id k b) R (.returned (.int .i64 e0)) (w1.alloc (.cells #[.int .i64 (kd : Int), .string bd] 102))) := by
      have e9 : writeU u R id k b = u := by unfold writeU; rw [HW.out, if_neg hz0]
      rw [e9, HW.out]
      exact ⟨rfl, HH.out.below HB2.out, Turn.of_below HB2.out⟩
    go_wp2
    go_ret
    exact HFN.out
set_option maxHeartbeats 4000000 in
set_option maxRecDepth 100000 in
theorem tfree_any (id : Int) (x : Pd.Sheet) (H : Txw w A t bt d u) (hF : Fits d) (hh : u.st.high ≤ d.cnt) (hl : u.m.length ≤ 90000) (hfr : u.st.free ≤ 1000) (hx : ∀ i : Nat, id = (i : Int) → 1 ≤ i → i < u.st.high → Pd.TSees u d i x) :
    Calls Tryz.prog 31 #[ptr t, .int .i64 id] w (TDoes w A t bt d (freeU u (thereR u.st.high id x).2 id) (thereR u.st.high id x).2) := by
  have HT : Hid (Calls Tryz.prog 61 #[.pointer (some ⟨t, 0, none⟩), .int .i64 id] w fun e w' => e = .returned (.tuple #[.agg #[.int .i64 ((thereR u.st.high id x).1.kind : Int), .string (thereR u.st.high id x).1.body], .int .i64 (thereR u.st.high id x).2]) ∧ Below w.heap.size w w') := there_any A t bt d u w id x H hF hh hx
  have hz := zeroSh
  unfold shV sh00 Pd.none0 at hz
  have HH : Hid (Txw w A t bt d u) := H
  have hc := hF.cnt
  have HID : Hid ((thereR u.st.high id x).2 = 0 → 1 ≤ id ∧ id < (u.st.high : Int)) := fun h => by
    unfold thereR at h
    split at h
    · cases h
    · rename_i h1
      omega
  clear H hx
  generalize hkd : (thereR u.st.high id x).1.kind = kd at *
  generalize hbd : (thereR u.st.high id x).1.body = bd at *
  generalize he0 : (thereR u.st.high id x).2 = e0 at *
  clear hkd hbd he0
  unfold ptr
  go_enter Tryz.func31, Tryz.ntmps31
  go_wp2_with fail
  refine HT.out.mono ?_
  rintro e w1 ⟨rfl, hB1⟩
  have HB2 : Hid (Below w.heap.size w (w1.alloc (.cells #[.int .i64 (kd : Int), .string bd] 102))) := hB1.alloc hB1.size _
  clear hB1 HT
  by_cases hz0 : e0 = 0
  · subst hz0
    have hid := HID.out rfl
    obtain ⟨i, rfl⟩ := Int.eq_ofNat_of_zero_le (show 0 ≤ id by omega)
    have HCL : Hid (∀ U, Calls Tryz.prog 66 #[.int .i64 (u.st.last : Int)] U fun e w' => e = .returned (shV (Pd.freeSheet u.st.last)) ∧ Below U.heap.size U w') := fun U => freeSheet_any u.st.last U
    clear HID
    go_wp2_with fail
    generalize hw2 : World.alloc w1 _ = w2 at *
    clear hw2
    have HT2 : Hid (Txw w2 A t bt d u) := HH.out.below HB2.out
    have HS : Hid (TS A t bt u w2) := HT2.out.row
    refine wp_region_held_drew (S := TS A t bt u) (by kernel_rfl) HS.out (fun _ => ?_)
    refine heldTake 0 (some 16) (.pointer (some ⟨t, 0, none⟩)) rfl rfl (by kernel_rfl) (by kernel_rfl) (by kernel_rfl) (fun _ _ _ h => h) (Or.inl ⟨by rfl, fun w hS => ?_⟩) HS.out ?_
    · (go_simp)
    simp only [Act.put, List.setIfInBounds_toArray, List.set_cons_zero, List.set_cons_succ]
    refine heldTake 1 (some 17) (.pointer (some ⟨t, 0, none⟩)) rfl rfl (by kernel_rfl) (by kernel_rfl) (by kernel_rfl) (fun _ _ _ h => h) (Or.inl ⟨by rfl, fun w hS => ?_⟩) HS.out ?_
    · (go_simp)
    simp only [Act.put, List.setIfInBounds_toArray, List.set_cons_zero, List.set_cons_succ]
    refine heldTake 2 (some 18) (.pointer (some ⟨t, 8, none⟩)) rfl rfl (by kernel_rfl) (by kernel_rfl) (by kernel_rfl) (fun _ _ _ h => h) (Or.inl ⟨by rfl, fun w hS => ?_⟩) HS.out ?_
    · (go_simp)
    simp only [Act.put, List.setIfInBounds_toArray, List.set_cons_zero, List.set_cons_succ]
    refine heldTake 3 (some 19) (.map (some bt)) rfl rfl (by kernel_rfl) (by kernel_rfl) (by kernel_rfl) (fun _ _ _ h => h) (Or.inl ⟨by rfl, fun w hS => ?_⟩) HS.out ?_
    · (have p8 : _ = some (Value.map (some bt)) := cell_of_row w t 8 _ _ (0, 0) hS; clear hS; go_simp)
    simp only [Act.put, List.setIfInBounds_toArray, List.set_cons_zero, List.set_cons_succ]
    refine heldTake 4 (some 20) (.int .i64 (i : Int)) rfl rfl (by kernel_rfl) (by kernel_rfl) (by kernel_rfl) (fun _ _ _ h => h) (Or.inl ⟨by rfl, fun w hS => ?_⟩) HS.out ?_
    · (go_simp)
    simp only [Act.put, List.setIfInBounds_toArray, List.set_cons_zero, List.set_cons_succ]
    refine heldTake 5 (some 21) (.pointer (some ⟨t, 0, none⟩)) rfl rfl (by kernel_rfl) (by kernel_rfl) (by kernel_rfl) (fun _ _ _ h => h) (Or.inl ⟨by rfl, fun w hS => ?_⟩) HS.out ?_
    · (go_simp)
    simp only [Act.put, List.setIfInBounds_toArray, List.set_cons_zero, List.set_cons_succ]
    refine heldTake 6 (some 22) (.pointer (some ⟨t, 0, none⟩)) rfl rfl (by kernel_rfl) (by kernel_rfl) (by kernel_rfl) (fun _ _ _ h => h) (Or.inl ⟨by rfl, fun w hS => ?_⟩) HS.out ?_
    · (go_simp)
    simp only [Act.put, List.setIfInBounds_toArray, List.set_cons_zero, List.set_cons_succ]
    refine heldTake 7 (some 23) (.pointer (some ⟨t, 1, none⟩)) rfl rfl (by kernel_rfl) (by kernel_rfl) (by kernel_rfl) (fun _ _ _ h => h) (Or.inl ⟨by rfl, fun w hS => ?_⟩) HS.out ?_
    · (go_simp)
    simp only [Act.put, List.setIfInBounds_toArray, List.set_cons_zero, List.set_cons_succ]
    refine heldTake 8 (some 24) (.pointer (some ⟨t, 3, none⟩)) rfl rfl (by kernel_rfl) (by kernel_rfl) (by kernel_rfl) (fun _ _ _ h => h) (Or.inl ⟨by rfl, fun w hS => ?_⟩) HS.out ?_
    · (go_simp)
    simp only [Act.put, List.setIfInBounds_toArray, List.set_cons_zero, List.set_cons_succ]
    refine heldTake 9 (some 25) (.int .i64 (u.st.last : Int)) rfl rfl (by kernel_rfl) (by kernel_rfl) (by kernel_rfl) (fun _ _ _ h => h) (Or.inl ⟨by rfl, fun w hS => ?_⟩) HS.out ?_
    · (have p3 : _ = some (Value.int .i64 (u.st.last : Int)) := cell_of_row w t 3 _ _ (0, 0) hS; clear hS; go_simp)
    simp only [Act.put, List.setIfInBounds_toArray, List.set_cons_zero, List.set_cons_succ]
    refine heldOne 10 (by kernel_rfl) rfl (by rfl) (fun KK hK => ?_)
    go_simp
    go_at_call 66
    refine (HCL.out w2.drew).mono ?_
    rintro e w3 ⟨rfl, hB3⟩
    have hB3' := below_drew hB3
    have HT3 : Hid (Txw w3 A t bt d u) := HT2.out.below hB3'
    have HB3 : Hid (Below w.heap.size w w3) := below_next HB2.out hB3' HB2.out.size
    have HS3 : Hid (TS A t bt u w3) := HT3.out.row
    clear hB3 hB3' HCL HT2 HS HB2
    refine hK.out _ _ HS3.out ?_
    clear hK KK
    obtain ⟨w4, hrun, hM4, hg4⟩ := mp_put_run HT3.out.mp (by omega) i (by omega) (Pd.freeSheet u.st.last)
    obtain ⟨hT4, hTT⟩ := HT3.out.map hM4 hg4
    have HT4 : Hid (Txw w4 A t bt d { u with m := Pd.set u.m i (Pd.freeSheet u.st.last) }) := hT4
    have HTT : Hid (Turn (tft A t bt) (tft A t bt) w w4) := (Turn.of_below HB3.out).trans hTT
    have HS4 : Hid (TS A t bt u w4) := hT4.row
    clear hM4 hg4 hT4 hTT HT3 HB3
    refine heldOne 11 (by kernel_rfl) rfl (by rfl) (fun KK hK => ?_)
    go_simp
    refine hK.out _ _ HS4.out ?_
    clear hK KK hrun
    refine wpAnyH_done (by kernel_rfl) ?_ _
    have c3 := HT4.out.c3
    have f3 := HT4.out.fz 3
    have c2 := HT4.out.c2
    have f2 := HT4.out.fz 2
    obtain ⟨hT5, hT5T⟩ := HT4.out.set (u' := { st := { u.st with last := i }, m := Pd.set u.m i (Pd.freeSheet u.st.last), sp := u.sp }) 3 (.int .i64 (i : Int)) rfl rfl
    obtain ⟨hT6, hT6T⟩ := hT5.set (u' := { st := { u.st with last := i, free := u.st.free + 1 }, m := Pd.set u.m i (Pd.freeSheet u.st.last), sp := u.sp }) 2 (.int .i64 ((u.st.free + 1 : Nat) : Int)) rfl rfl
    have hadd : ((u.st.free + 1 : Nat) : Int) = (u.st.free : Int) + 1 := by omega
    rw [hadd] at hT6 hT6T
    have hwr : IntKind.i64.wrap ((u.st.free : Int) + 1) = (u.st.free : Int) + 1 := by rw [IntKind.wrap_i64]; omega
    have HT6 : Hid (Txw ((w4.setCell ⟨t, 3, none⟩ (.int .i64 (i : Int))).setCell ⟨t, 2, none⟩ (.int .i64 ((u.st.free : Int) + 1))) A t bt d { st := { u.st with last := i, free := u.st.free + 1 }, m := Pd.set u.m i (Pd.freeSheet u.st.last), sp := u.sp }) := hT6
    have HTT6 : Hid (Turn (tft A t bt) (tft A t bt) w ((w4.setCell ⟨t, 3, none⟩ (.int .i64 (i : Int))).setCell ⟨t, 2, none⟩ (.int .i64 ((u.st.free : Int) + 1)))) := HTT.out.trans (hT5T.trans hT6T)
    clear hT5 hT5T hT6 hT6T hadd HTT HT4
    go_wp2_with fail
    generalize hw6 : World.setCell _ _ _ = w6 at *
    clear hw6
    have hll := Pd.set_length_le (Pd.freeSheet u.st.last) i u.m
    refine (show Calls _ _ _ _ _ from mark_any A t bt d _ w6 HT6.out (by show (Pd.set u.m i (Pd.freeSheet u.st.last)).length ≤ _; omega)).mono ?_
    rintro e w7 ⟨rfl, hT7, hT7T⟩
    have HFN : Hid (TDoes w A t bt d (freeU u 0 (i : Int)) 0 (.returned (.int .i64 0)) w7) := ⟨rfl, hT7, HTT6.out.trans hT7T⟩
    clear hT7 hT7T HT6 HTT6
    go_wp2
    go_ret
    exact HFN.out
  · have hb0 : (e0 != 0) = true := by simp [hz0]
    have HFN : Hid (TDoes w A t bt d (freeU u e0 id) e0 (.returned (.int .i64 e0)) (w1.alloc (.cells #[.int .i64 (kd : Int), .string bd] 102))) := by
      have e9 : freeU u e0 id = u := by unfold freeU; rw [if_neg hz0]
      rw [e9]
      exact ⟨rfl, HH.out.below HB2.out, Turn.of_below HB2.out⟩
    go_wp2
    go_ret
    exact HFN.out
end
end Go.Proofs.YtcfninpokngmlaaGreatDoor
