/- Proved: what a transaction sees of a page: look, there and Read. -/
import Derived.Test.YtcfninpokngmlaaGreatDoorM12
namespace Pd
def TSees (u : Tx) (d : Db) (id : Nat) (x : Sheet) : Prop := get u.m id = some x ∨ (get u.m id = none ∧ Sees d id x)
end Pd
namespace Go.Proofs.YtcfninpokngmlaaGreatDoor
open Go.RowKit
def thereR (hi : Nat) (id : Int) (x : Pd.Sheet) : Pd.Sheet × Int := if id < 1 ∨ (hi : Int) ≤ id then (sh00, 2) else if x.kind = 255 then (sh00, 8) else (x, 0)
/- pages below the count lie on the disk -/
structure Fits (d : Pd.Db) : Prop where
  down : d.s.down = false
  len : d.n + 8 * d.cnt ≤ d.s.kept.length
  cnt : d.cnt ≤ 1000
  n : d.n ≤ 65536
  lost : d.lost = false
section
variable (A : Ad) (t bt : Nat) (d : Pd.Db) (u : Pd.Tx) (w : World)
set_option maxHeartbeats 4000000 in
set_option maxRecDepth 100000 in
theorem tlook_any (id : Nat) (x : Pd.Sheet) (H : Txw w A t bt d u) (hF : Fits d) (hi : id < d.cnt) (hx : Pd.TSees u d id x) :
    Calls Tryz.prog 85 #[ptr t, .int .i64 (id : Int)] w fun e w' => e = .returned (.tuple #[shV x, .int .i64 0]) ∧ Below w.heap.size w w' := by
  have HH : Hid (Txw w A t bt d u) := H
  have hz := zeroSh
  unfold shV sh00 Pd.none0 at hz
  have HR0 : Hid ((w.alloc (.cells #[.int .i64 0, .string ⟨#[]⟩] 102)).heap[w.heap.size]? = some (.cells #[.int .i64 0, .string ⟨#[]⟩] 102 (0, 0))) := heap_alloc_new w _
  have HB0 : Hid (Below w.heap.size w (w.alloc (.cells #[.int .i64 0, .string ⟨#[]⟩] 102))) := (Below.refl _ _).alloc (Nat.le_refl _) _
  have HD0 : Hid (Txw (w.alloc (.cells #[.int .i64 0, .string ⟨#[]⟩] 102)) A t bt d u) := H.alloc _
  have c8 : (w.alloc (.cells #[.int .i64 0, .string ⟨#[]⟩] 102)).cell? ⟨t, 8, none⟩ = some (.map (some bt)) := HD0.out.c8
  have c8w : w.cell? ⟨t, 8, none⟩ = some (.map (some bt)) := H.c8
  have c0w : w.cell? ⟨t, 0, none⟩ = some (.pointer (some ⟨A.x, 0, none⟩)) := H.c0
  have htl := H.tlt
  have hc := hF.cnt
  rw [shv_eq]
  rcases hx with hm | ⟨hm, hs⟩
  · have HG : Hid ((Pd.get u.m id) = some x) := hm
    clear H hm
    unfold ptr
    go_enter Tryz.func85, Tryz.ntmps85
    go_wp2_with (at_lookup; refine mp_look_ok _ rfl _ _ rfl bt u.m rfl HD0.out.mp id (by omega) rfl ?_; rw [HG.out]; simp only [Option.getD_some, Option.isSome_some, shv_eq])
    refine bodyPost_ret (results_she Tryz.results85 _ _ w.heap.size 102 _ _ _ rfl rfl ((heap_alloc_old _ _ (by simp)).trans (heap_alloc_new w _))) rfl ⟨rfl, ((Below.refl _ _).alloc (Nat.le_refl _) _).alloc (by simp) _⟩
  · have HG : Hid ((Pd.get u.m id) = none) := hm
    have HDL : Hid (∀ U, Dbw U A (ptr t) d → Calls Tryz.prog 119 #[.pointer (some ⟨A.x, 0, none⟩), .int .i64 (id : Int)] U fun e w' => e = .returned (.tuple #[.agg #[.int .i64 (x.kind : Int), .string x.body], .int .i64 0]) ∧ Below U.heap.size U w') := fun U hU => dlook_any A (ptr t) d id x U hU hF.down (by have := hF.len; omega) (by omega) hs
    clear H hm hs
    unfold ptr
    go_enter Tryz.func85, Tryz.ntmps85
    go_wp2_with (at_lookup; refine mp_look_ok _ rfl _ _ rfl bt u.m rfl HD0.out.mp id (by omega) rfl ?_; rw [HG.out]; simp only [Option.getD_none, Option.isSome_none, shv_eq, sh00, Pd.none0])
    have HR1 : Hid (((w.alloc (.cells #[.int .i64 0, .string ⟨#[]⟩] 102)).alloc (.cells #[.int .i64 0, .string ⟨#[]⟩] 102)).heap[w.heap.size]? = some (.cells #[.int .i64 0, .string ⟨#[]⟩] 102 (0, 0))) := (heap_alloc_old _ _ (by simp)).trans HR0.out
    have HB1 : Hid (Below w.heap.size w ((w.alloc (.cells #[.int .i64 0, .string ⟨#[]⟩] 102)).alloc (.cells #[.int .i64 0, .string ⟨#[]⟩] 102))) := HB0.out.alloc HB0.out.size _
    have HD1 : Hid (Txw ((w.alloc (.cells #[.int .i64 0, .string ⟨#[]⟩] 102)).alloc (.cells #[.int .i64 0, .string ⟨#[]⟩] 102)) A t bt d u) := HD0.out.alloc _
    generalize hw1 : World.alloc (World.alloc w _) _ = w1 at *
    clear hw1 HR0 HB0 HD0 c8 c8w c0w
    refine (HDL.out w1 HD1.out.db).mono ?_
    rintro e w2 ⟨rfl, hB2⟩
    have HR2 : Hid (w2.heap[w.heap.size]? = some (.cells #[.int .i64 0, .string ⟨#[]⟩] 102 (0, 0))) := heap_next HR1.out hB2
    have HB2 : Hid (Below w.heap.size w w2) := below_next HB1.out hB2 HB1.out.size
    clear hB2 HDL HR1 HB1 HD1
    have f0 := frozen_of_row w2 w.heap.size 0 _ _ HR2.out
    have f1 := frozen_of_row w2 w.heap.size 1 _ _ HR2.out
    have c0 : w2.cell? ⟨w.heap.size, 0, none⟩ = some (.int .i64 0) := cell_of_row _ _ _ _ _ (0, 0) HR2.out
    have c1 : w2.cell? ⟨w.heap.size, 1, none⟩ = some (.string ⟨#[]⟩) := cell_of_row _ _ _ _ _ (0, 0) HR2.out
    go_wp2
    exact bodyPost_ret (results_she Tryz.results85 _ _ w.heap.size 102 _ _ _ rfl rfl (row2 HR2.out _ _)) rfl ⟨rfl, (HB2.out.setCell (by simp) _).setCell (by simp) _⟩
set_option maxHeartbeats 4000000 in
set_option maxRecDepth 100000 in
theorem there_any (id : Int) (x : Pd.Sheet) (H : Txw w A t bt d u) (hF : Fits d) (hh : u.st.high ≤ d.cnt) (hx : ∀ i : Nat, id = (i : Int) → 1 ≤ i → i < u.st.high → Pd.TSees u d i x) :
    Calls Tryz.prog 61 #[ptr t, .int .i64 id] w fun e w' => e = .returned (.tuple #[shV (thereR u.st.high id x).1, .int .i64 (thereR u.st.high id x).2]) ∧ Below w.heap.size w w' := by
  have HRE : Hid (∀ U, Txw U A t bt d u → Calls Tryz.prog 62 #[.pointer (some ⟨t, 0, none⟩)] U fun e w' => e = .returned (.int .i64 0) ∧ w' = U) := fun U hU => tready_ok A t bt d u U hU hF.lost
  have hz := zeroSh
  unfold shV sh00 Pd.none0 at hz
  have HR0 : Hid ((w.alloc (.cells #[.int .i64 0, .string ⟨#[]⟩] 102)).heap[w.heap.size]? = some (.cells #[.int .i64 0, .string ⟨#[]⟩] 102 (0, 0))) := heap_alloc_new w _
  have HB0 : Hid (Below w.heap.size w (w.alloc (.cells #[.int .i64 0, .string ⟨#[]⟩] 102))) := (Below.refl _ _).alloc (Nat.le_refl _) _
  have HD0 : Hid (Txw (w.alloc (.cells #[.int .i64 0, .string ⟨#[]⟩] 102)) A t bt d u) := H.alloc _
  have c1 : (w.alloc (.cells #[.int .i64 0, .string ⟨#[]⟩] 102)).cell? ⟨t, 1, none⟩ = some (.int .i64 (u.st.high : Int)) := HD0.out.c1
  have c1w : w.cell? ⟨t, 1, none⟩ = some (.int .i64 (u.st.high : Int)) := H.c1
  have htl := H.tlt
  by_cases h1 : id < 1
  · have e : thereR u.st.high id x = (sh00, 2) := by unfold thereR; rw [if_pos (.inl h1)]
    rw [e]
    have d1 : decide (id < 1) = true := decide_eq_true h1
    show Calls Tryz.prog _ _ _ fun e w' => e = .returned (.tuple #[.agg #[.int .i64 0, .string ⟨#[]⟩], .int .i64 2]) ∧ Below w.heap.size w w'
    clear H hx e
    unfold ptr
    go_enter Tryz.func61, Tryz.ntmps61
    go_wp2_with (go_at_call 62; refine (HRE.out _ HD0.out).mono ?_; rintro e wS ⟨rfl, hwS⟩; rw [hwS]; clear hwS wS)
    refine bodyPost_ret (results_she Tryz.results61 _ _ w.heap.size 102 _ _ _ rfl rfl HR0.out) rfl ⟨rfl, HB0.out⟩
  · have d1 : decide (id < 1) = false := decide_eq_false h1
    by_cases h2 : (u.st.high : Int) ≤ id
    · have e : thereR u.st.high id x = (sh00, 2) := by unfold thereR; rw [if_pos (.inr h2)]
      rw [e]
      have d2 : decide ((u.st.high : Int) ≤ id) = true := decide_eq_true h2
      show Calls Tryz.prog _ _ _ fun e w' => e = .returned (.tuple #[.agg #[.int .i64 0, .string ⟨#[]⟩], .int .i64 2]) ∧ Below w.heap.size w w'
      clear H hx e
      unfold ptr
      go_enter Tryz.func61, Tryz.ntmps61
      go_wp2_with (go_at_call 62; refine (HRE.out _ HD0.out).mono ?_; rintro e wS ⟨rfl, hwS⟩; rw [hwS]; clear hwS wS)
      refine bodyPost_ret (results_she Tryz.results61 _ _ w.heap.size 102 _ _ _ rfl rfl HR0.out) rfl ⟨rfl, HB0.out⟩
    · have d2 : decide ((u.st.high : Int) ≤ id) = false := decide_eq_false h2
      obtain ⟨i, rfl⟩ := Int.eq_ofNat_of_zero_le (show 0 ≤ id by omega)
      have HLK : Hid (∀ U, Txw U A t bt d u → Calls Tryz.prog 85 #[.pointer (some ⟨t, 0, none⟩), .int .i64 (i : Int)] U fun e w' => e = .returned (.tuple #[.agg #[.int .i64 (x.kind : Int), .string x.body], .int .i64 0]) ∧ Below U.heap.size U w') := fun U hU => tlook_any A t bt d u U i x hU hF (by omega) (hx i rfl (by omega) (by omega))
      have e0 : thereR u.st.high (i : Int) x = if x.kind = 255 then (sh00, 8) else (x, 0) := by
        unfold thereR
        rw [if_neg (by omega)]
      rw [e0]
      clear H hx e0
      by_cases hk : x.kind = 255
      · rw [if_pos hk]
        show Calls Tryz.prog _ _ _ fun e w' => e = .returned (.tuple #[.agg #[.int .i64 0, .string ⟨#[]⟩], .int .i64 8]) ∧ Below w.heap.size w w'
        rw [hk] at HLK
        unfold ptr
        go_enter Tryz.func61, Tryz.ntmps61
        go_wp2_with (go_at_call 62; refine (HRE.out _ HD0.out).mono ?_; rintro e wS ⟨rfl, hwS⟩; rw [hwS]; clear hwS wS)
        generalize hw0 : World.alloc w _ = w0 at *
        clear hw0
        refine (HLK.out _ HD0.out).mono ?_
        rintro e w1 ⟨rfl, hB1⟩
        have HR1 : Hid (w1.heap[w.heap.size]? = some (.cells #[.int .i64 0, .string ⟨#[]⟩] 102 (0, 0))) := heap_next HR0.out hB1
        have HB1 : Hid (Below w.heap.size w w1) := below_next HB0.out hB1 HB0.out.size
        have hl1 : w.heap.size < w1.heap.size := (Array.getElem?_eq_some_iff.1 HR1.out).1
        clear hB1 HLK HRE HR0 HB0 HD0 c1 c1w
        have f0 := frozen_of_row w1 w.heap.size 0 _ _ HR1.out
        have f1 := frozen_of_row w1 w.heap.size 1 _ _ HR1.out
        have c0 : w1.cell? ⟨w.heap.size, 0, none⟩ = some (.int .i64 0) := cell_of_row _ _ _ _ _ (0, 0) HR1.out
        have c1 : w1.cell? ⟨w.heap.size, 1, none⟩ = some (.string ⟨#[]⟩) := cell_of_row _ _ _ _ _ (0, 0) HR1.out
        go_wp2
        refine bodyPost_ret (results_she Tryz.results61 _ _ w.heap.size 102 _ _ _ rfl rfl ((heap_alloc_old _ _ (by simp [World.setCell]; omega)).trans (row2 HR1.out _ _))) rfl ⟨rfl, ((HB1.out.setCell (by simp) _).setCell (by simp) _).alloc (by simp [World.setCell]; omega) _⟩
      · rw [if_neg hk]
        show Calls Tryz.prog _ _ _ fun e w' => e = .returned (.tuple #[.agg #[.int .i64 (x.kind : Int), .string x.body], .int .i64 0]) ∧ Below w.heap.size w w'
        have hkb : ((x.kind : Int) == 255) = false := beq_false_of_ne (by omega)
        clear hk
        unfold ptr
        go_enter Tryz.func61, Tryz.ntmps61
        go_wp2_with (go_at_call 62; refine (HRE.out _ HD0.out).mono ?_; rintro e wS ⟨rfl, hwS⟩; rw [hwS]; clear hwS wS)
        generalize hw0 : World.alloc w _ = w0 at *
        clear hw0
        refine (HLK.out _ HD0.out).mono ?_
        rintro e w1 ⟨rfl, hB1⟩
        have HR1 : Hid (w1.heap[w.heap.size]? = some (.cells #[.int .i64 0, .string ⟨#[]⟩] 102 (0, 0))) := heap_next HR0.out hB1
        have HB1 : Hid (Below w.heap.size w w1) := below_next HB0.out hB1 HB0.out.size
        have hl1 : w.heap.size < w1.heap.size := (Array.getElem?_eq_some_iff.1 HR1.out).1
        clear hB1 HLK HRE HR0 HB0 HD0 c1 c1w
        have f0 := frozen_of_row w1 w.heap.size 0 _ _ HR1.out
        have f1 := frozen_of_row w1 w.heap.size 1 _ _ HR1.out
        have c0 : w1.cell? ⟨w.heap.size, 0, none⟩ = some (.int .i64 0) := cell_of_row _ _ _ _ _ (0, 0) HR1.out
        have c1 : w1.cell? ⟨w.heap.size, 1, none⟩ = some (.string ⟨#[]⟩) := cell_of_row _ _ _ _ _ (0, 0) HR1.out
        go_wp2
        refine bodyPost_ret (results_she Tryz.results61 _ _ w.heap.size 102 _ _ _ rfl rfl ((heap_alloc_old _ _ (by simp [World.setCell]; omega)).trans (row2 HR1.out _ _))) rfl ⟨rfl, ((HB1.out.setCell (by simp) _).setCell (by simp) _).alloc (by simp [World.setCell]; omega) _⟩
end
end Go.Proofs.YtcfninpokngmlaaGreatDoor
/- Proved: what a transaction's Read, Write and mark make of it. -/
namespace Go.Proofs.YtcfninpokngmlaaGreatDoor
open Go.RowKit
theorem mp_put_run {w : World} {b : Nat} {m : Pd.Mp} (hM : MpAt w b m) (hl : m.length ≤ 100000) (i : Nat) (hi : i ≤ 9223372036854775807) (y : Pd.Sheet) : ∃ w', (Instr.mapUpdate 59 (.map (some b)) (.int .i64 (i : Int)) (shV y)).run Tryz.prog w = .ok () w' ∧ MpAt w' b (Pd.set m i y) ∧ w.grownBy w' (some b) := by
  obtain ⟨w', hr, ho, hg⟩ := hM.own.update lawI Tryz.underlying59 (by unfold maxLen; omega) (keyI hi) (shR_mk y)
  rw [put_dM hM.up] at ho
  exact ⟨w', hr, ⟨hM.up.set y i, own_exact ho⟩, hg⟩
section
variable (A : Ad) (t bt : Nat) (d : Pd.Db) (u : Pd.Tx) (w : World)
set_option maxHeartbeats 4000000 in
set_option maxRecDepth 100000 in
theorem tread_any (id : Int) (x : Pd.Sheet) (H : Txw w A t bt d u) (hF : Fits d) (hh : u.st.high ≤ d.cnt) (hx : ∀ i : Nat, id = (i : Int) → 1 ≤ i → i < u.st.high → Pd.TSees u d i x) :
    Calls Tryz.prog 26 #[ptr t, .int .i64 id] w fun e w' => e = .returned (.tuple #[.int .i64 ((thereR u.st.high id x).1.kind : Int), .string (thereR u.st.high id x).1.body, .int .i64 (thereR u.st.high id x).2]) ∧ Below w.heap.size w w' := by
  have HT : Hid (Calls Tryz.prog 61 #[.pointer (some ⟨t, 0, none⟩), .int .i64 id] w fun e w' => e = .returned (.tuple #[.agg #[.int .i64 ((thereR u.st.high id x).1.kind : Int), .string (thereR u.st.high id x).1.body], .int .i64 (thereR u.st.high id x).2]) ∧ Below w.heap.size w w') := there_any A t bt d u w id x H hF hh hx
  have hz := zeroSh
  unfold shV sh00 Pd.none0 at hz
  clear H hx
  generalize (thereR u.st.high id x).1.kind = k at *
  generalize (thereR u.st.high id x).1.body = b at *
  generalize (thereR u.st.high id x).2 = e0 at *
  unfold ptr
  go_enter Tryz.func26, Tryz.ntmps26
  go_wp2_with fail
  refine HT.out.mono ?_
  rintro e w1 ⟨rfl, hB1⟩
  have HB2 : Hid (Below w.heap.size w (w1.alloc (.cells #[.int .i64 (k : Int), .string b] 102))) := hB1.alloc hB1.size _
  have c0 : (w1.alloc (.cells #[.int .i64 (k : Int), .string b] 102)).cell? ⟨w1.heap.size, 0, none⟩ = some (.int .i64 (k : Int)) := cell_of_row _ _ _ _ _ (0, 0) (heap_alloc_new w1 _)
  have c1 : (w1.alloc (.cells #[.int .i64 (k : Int), .string b] 102)).cell? ⟨w1.heap.size, 1, none⟩ = some (.string b) := cell_of_row _ _ _ _ _ (0, 0) (heap_alloc_new w1 _)
  clear hB1 HT
  go_wp2_with fail
  generalize hw2 : World.alloc w1 _ = w2 at *
  clear hw2
  go_quiet (fail)
  have HB3 : Hid (Below w.heap.size w (w2.drewN nq)) := drewN_below HB2.out nq
  go_wp2
  go_ret3
  exact ⟨rfl, HB3.out⟩
def SH (s : Pd.Stt) : Value := .agg #[.int .i64 (s.high : Int), .int .i64 (s.free : Int), .int .i64 (s.last : Int), .int .i64 (s.r0 : Int), .int .i64 (s.r1 : Int), .int .i64 (s.r2 : Int), .int .i64 (s.r3 : Int)]
set_option maxHeartbeats 4000000 in
set_option maxRecDepth 100000 in
theorem mark_any (H : Txw w A t bt d u) (hl : u.m.length ≤ 100000) :
    Calls Tryz.prog 64 #[ptr t] w fun e w' => e = .returned (.tuple #[]) ∧ Txw w' A t bt d { u with m := Pd.set u.m 0 u.st.sheet } ∧ Turn (tft A t bt) (tft A t bt) w w' := by
  have HH : Hid (Txw w A t bt d u) := H
  have HSH : Hid (∀ U, Calls Tryz.prog 88 #[.agg #[.int .i64 (u.st.high : Int), .int .i64 (u.st.free : Int), .int .i64 (u.st.last : Int), .int .i64 (u.st.r0 : Int), .int .i64 (u.st.r1 : Int), .int .i64 (u.st.r2 : Int), .int .i64 (u.st.r3 : Int)]] U fun e w' => e = .returned (shV u.st.sheet) ∧ Below U.heap.size U w') := fun U => sheet_any u.st U
  have HS : Hid ((fun U : World => U.heap[t]? = some (.cells (txA A.x bt u) 66 (0, 0))) w.drew) := H.row
  clear H
  unfold ptr
  go_enter Tryz.func64, Tryz.ntmps64
  refine wp_region_held_drew (S := fun U : World => U.heap[t]? = some (.cells (txA A.x bt u) 66 (0, 0))) (by kernel_rfl) HS.out (fun _ => ?_)
  refine heldTake 0 (some 2) (.pointer (some ⟨t, 0, none⟩)) rfl rfl (by kernel_rfl) (by kernel_rfl) (by kernel_rfl) (fun _ _ _ h => h) (Or.inl ⟨by rfl, fun w hS => ?_⟩) HS.out ?_
  · (go_simp)
  simp only [Act.put, List.setIfInBounds_toArray, List.set_cons_zero, List.set_cons_succ]
  refine heldTake 1 (some 3) (.pointer (some ⟨t, 0, none⟩)) rfl rfl (by kernel_rfl) (by kernel_rfl) (by kernel_rfl) (fun _ _ _ h => h) (Or.inl ⟨by rfl, fun w hS => ?_⟩) HS.out ?_
  · (go_simp)
  simp only [Act.put, List.setIfInBounds_toArray, List.set_cons_zero, List.set_cons_succ]
  refine heldTake 2 (some 4) (.pointer (some ⟨t, 8, none⟩)) rfl rfl (by kernel_rfl) (by kernel_rfl) (by kernel_rfl) (fun _ _ _ h => h) (Or.inl ⟨by rfl, fun w hS => ?_⟩) HS.out ?_
  · (go_simp)
  simp only [Act.put, List.setIfInBounds_toArray, List.set_cons_zero, List.set_cons_succ]
  refine heldTake 3 (some 5) (.map (some bt)) rfl rfl (by kernel_rfl) (by kernel_rfl) (by kernel_rfl) (fun _ _ _ h => h) (Or.inl ⟨by rfl, fun w hS => ?_⟩) HS.out ?_
  · (have p8 : _ = some (Value.map (some bt)) := cell_of_row w t 8 _ _ (0, 0) hS; clear hS; go_simp)
  simp only [Act.put, List.setIfInBounds_toArray, List.set_cons_zero, List.set_cons_succ]
  refine heldTake 4 (some 6) (.pointer (some ⟨t, 0, none⟩)) rfl rfl (by kernel_rfl) (by kernel_rfl) (by kernel_rfl) (fun _ _ _ h => h) (Or.inl ⟨by rfl, fun w hS => ?_⟩) HS.out ?_
  · (go_simp)
  simp only [Act.put, List.setIfInBounds_toArray, List.set_cons_zero, List.set_cons_succ]
  refine heldTake 5 (some 7) (.pointer (some ⟨t, 0, none⟩)) rfl rfl (by kernel_rfl) (by kernel_rfl) (by kernel_rfl) (fun _ _ _ h => h) (Or.inl ⟨by rfl, fun w hS => ?_⟩) HS.out ?_
  · (go_simp)
  simp only [Act.put, List.setIfInBounds_toArray, List.set_cons_zero, List.set_cons_succ]
  refine heldTake 6 (some 8) (.pointer (some ⟨t, 1, none⟩)) rfl rfl (by kernel_rfl) (by kernel_rfl) (by kernel_rfl) (fun _ _ _ h => h) (Or.inl ⟨by rfl, fun w hS => ?_⟩) HS.out ?_
  · (go_simp)
  simp only [Act.put, List.setIfInBounds_toArray, List.set_cons_zero, List.set_cons_succ]
  refine heldTake 7 (some 9) (.agg #[.int .i64 (u.st.high : Int), .int .i64 (u.st.free : Int), .int .i64 (u.st.last : Int), .int .i64 (u.st.r0 : Int), .int .i64 (u.st.r1 : Int), .int .i64 (u.st.r2 : Int), .int .i64 (u.st.r3 : Int)]) rfl rfl (by kernel_rfl) (by kernel_rfl) (by kernel_rfl) (fun _ _ _ h => h) (Or.inl ⟨by rfl, fun w hS => ?_⟩) HS.out ?_
  · (have p1 : _ = some (Value.int .i64 (u.st.high : Int)) := cell_of_row w t 1 _ _ (0, 0) hS; have p2 : _ = some (Value.int .i64 (u.st.free : Int)) := cell_of_row w t 2 _ _ (0, 0) hS; have p3 : _ = some (Value.int .i64 (u.st.last : Int)) := cell_of_row w t 3 _ _ (0, 0) hS; have p4 : _ = some (Value.int .i64 (u.st.r0 : Int)) := cell_of_row w t 4 _ _ (0, 0) hS; have p5 : _ = some (Value.int .i64 (u.st.r1 : Int)) := cell_of_row w t 5 _ _ (0, 0) hS; have p6 : _ = some (Value.int .i64 (u.st.r2 : Int)) := cell_of_row w t 6 _ _ (0, 0) hS; have p7 : _ = some (Value.int .i64 (u.st.r3 : Int)) := cell_of_row w t 7 _ _ (0, 0) hS; clear hS; go_simp)
  simp only [Act.put, List.setIfInBounds_toArray, List.set_cons_zero, List.set_cons_succ]
  refine heldOne 8 (by kernel_rfl) rfl (by rfl) (fun KK hK => ?_)
  go_simp
  go_at_call 88
  refine (HSH.out w.drew).mono ?_
  rintro e w1 ⟨rfl, hB1⟩
  have hB1' := below_drew hB1
  have HS1 : Hid ((fun U : World => U.heap[t]? = some (.cells (txA A.x bt u) 66 (0, 0))) w1) := (HH.out.below hB1').row
  have HB1 : Hid (Below w.heap.size w w1) := hB1'
  clear hB1 hB1' HSH HS
  refine hK.out _ _ HS1.out ?_
  clear hK KK
  have HTX : Hid (Txw w1 A t bt d u) := HH.out.below HB1.out
  obtain ⟨w2, hrun, hM2, hg2⟩ := mp_put_run HTX.out.mp hl 0 (by omega) u.st.sheet
  obtain ⟨hT2, hTT⟩ := HTX.out.map hM2 hg2
  have HFN : Hid (Txw w2 A t bt d { u with m := Pd.set u.m 0 u.st.sheet } ∧ Turn (tft A t bt) (tft A t bt) w w2) := ⟨hT2, (Turn.of_below HB1.out).trans hTT⟩
  have HS2 : Hid ((fun U : World => U.heap[t]? = some (.cells (txA A.x bt u) 66 (0, 0))) w2) := hT2.row
  have hrun0 : (Instr.mapUpdate 59 (.map (some bt)) (.int .i64 0) (shV u.st.sheet)).run Tryz.prog w1 = .ok () w2 := hrun
  clear hM2 hg2 hT2 hTT HTX hrun
  refine heldOne 9 (by kernel_rfl) rfl (by rfl) (fun KK hK => ?_)
  go_simp
  refine hK.out _ _ HS2.out ?_
  clear hK KK
  refine wpAnyH_done (by kernel_rfl) ?_ _
  go_end0
  exact ⟨rfl, HFN.out⟩
end
end Go.Proofs.YtcfninpokngmlaaGreatDoor
/- Proved: what a transaction's Write, Free and SetRoot make of it. -/
namespace Go.Proofs.YtcfninpokngmlaaGreatDoor
open Go.RowKit
section
variable (A : Ad) (t bt : Nat) (d : Pd.Db) (u : Pd.Tx) (w : World)
abbrev TS (A : Ad) (t bt : Nat) (u : Pd.Tx) : World → Prop := fun U : World => U.heap[t]? = some (.cells (txA A.x bt u) 66 (0, 0))
def TDoes (w : World) (A : Ad) (t bt : Nat) (d : Pd.Db) (u : Pd.Tx) (n : Int) (e : Ending) (w' : World) : Prop := e = .returned (.int .i64 n) ∧ Txw w' A t bt d u ∧ Turn (tft A t bt) (tft A t bt) w w'
def writeR (hi : Nat) (id k : Int) (b : ByteArray) (x : Pd.Sheet) : Int := if (thereR hi id x).2 ≠ 0 then (thereR hi id x).2 else if k < 1 ∨ 255 ≤ k then 2 else if 500 < b.size then 3 else 0
def writeU (u : Pd.Tx) (R id k : Int) (b : ByteArray) : Pd.Tx := if R = 0 then { u with m := Pd.set u.m id.toNat ⟨k.toNat, b⟩ } else u
def freeSt (s : Pd.Stt) (i : Nat) : Pd.Stt := { s with last := i, free := s.free + 1 }
def freeU (u : Pd.Tx) (R id : Int) : Pd.Tx := if R = 0 then { st := freeSt u.st id.toNat, m := Pd.set (Pd.set u.m id.toNat (Pd.freeSheet u.st.last)) 0 (freeSt u.st id.toNat).sheet, sp := u.sp } else u
set_option maxHeartbeats 4000000 in
set_option maxRecDepth 100000 in
theorem twrite_any (id k : Int) (b : ByteArray) (x : Pd.Sheet) (H : Txw w A t bt d u) (hF : Fits d) (hh : u.st.high ≤ d.cnt) (hl : u.m.length ≤ 100000) (hx : ∀ i : Nat, id = (i : Int) → 1 ≤ i → i < u.st.high → Pd.TSees u d i x) :
    Calls Tryz.prog 30 #[ptr t, .int .i64 id, .int .i64 k, .string b] w (TDoes w A t bt d (writeU u (writeR u.st.high id k b x) id k b) (writeR u.st.high id k b x)) := by
  have HT : Hid (Calls Tryz.prog 61 #[.pointer (some ⟨t, 0, none⟩), .int .i64 id] w fun e w' => e = .returned (.tuple #[.agg #[.int .i64 ((thereR u.st.high id x).1.kind : Int), .string (thereR u.st.high id x).1.body], .int .i64 (thereR u.st.high id x).2]) ∧ Below w.heap.size w w') := there_any A t bt d u w id x H hF hh hx
  have hz := zeroSh
  unfold shV sh00 Pd.none0 at hz
  have HH : Hid (Txw w A t bt d u) := H
  have hc := hF.cnt
  have HID : Hid ((thereR u.st.high id x).2 = 0 → 1 ≤ id ∧ id < (u.st.high : Int)) := fun h => by
    unfold thereR at h
    split at h
    · cases h
    · rename_i h1
      omega
  clear H hx
  generalize hkd : (thereR u.st.high id x).1.kind = kd at *
  generalize hbd : (thereR u.st.high id x).1.body = bd at *
  have HW : Hid (writeR u.st.high id k b x = if (thereR u.st.high id x).2 ≠ 0 then (thereR u.st.high id x).2 else if k < 1 ∨ 255 ≤ k then 2 else if 500 < b.size then 3 else 0) := rfl
  generalize hwr : writeR u.st.high id k b x = R at *
  generalize he0 : (thereR u.st.high id x).2 = e0 at *
  clear hkd hbd hwr he0
  unfold ptr
  go_enter Tryz.func30, Tryz.ntmps30
  go_wp2_with fail
  refine HT.out.mono ?_
  rintro e w1 ⟨rfl, hB1⟩
  have HB1 : Hid (Below w.heap.size w w1) := hB1
  have HB2 : Hid (Below w.heap.size w (w1.alloc (.cells #[.int .i64 (kd : Int), .string bd] 102))) := hB1.alloc hB1.size _
  clear hB1 HT
  by_cases hz0 : e0 = 0
  · subst hz0
    have hid := HID.out rfl
    rw [if_neg (by decide)] at HW
    by_cases hk : k < 1 ∨ 255 ≤ k
    · rw [if_pos hk] at HW
      have HFN : Hid (TDoes w A t bt d (writeU u R id k b) R (.returned (.int .i64 2)) (w1.alloc (.cells #[.int .i64 (kd : Int), .string bd] 102))) := by
        rw [HW.out]
        exact ⟨rfl, HH.out.below HB2.out, Turn.of_below HB2.out⟩
      by_cases h1 : k < 1
      · have d1 : decide (k < 1) = true := decide_eq_true h1
        go_wp2
        go_ret
        exact HFN.out
      · have d1 : decide (k < 1) = false := decide_eq_false h1
        have d2 : decide (255 ≤ k) = true := decide_eq_true (by omega)
        go_wp2
        go_ret
        exact HFN.out
    · rw [if_neg hk] at HW
      have d1 : decide (k < 1) = false := decide_eq_false (by omega)
      have d2 : decide (255 ≤ k) = false := decide_eq_false (by omega)
      by_cases hb : 500 < b.size
      · rw [if_pos hb] at HW
        have d3 : decide ((500 : Int) < (b.size : Int)) = true := decide_eq_true (by omega)
        have HFN : Hid (TDoes w A t bt d (writeU u R id k b) R (.returned (.int .i64 3)) (w1.alloc (.cells #[.int .i64 (kd : Int), .string bd] 102))) := by
          rw [HW.out]
          exact ⟨rfl, HH.out.below HB2.out, Turn.of_below HB2.out⟩
        go_wp2
        go_ret
        exact HFN.out
      · rw [if_neg hb] at HW
        have d3 : decide ((500 : Int) < (b.size : Int)) = false := decide_eq_false (by omega)
        obtain ⟨i, rfl⟩ := Int.eq_ofNat_of_zero_le (show 0 ≤ id by omega)
        obtain ⟨kk, rfl⟩ := Int.eq_ofNat_of_zero_le (show 0 ≤ k by omega)
        have HCL : Hid (∀ U, Calls Tryz.prog 65 #[.string b] U fun e w' => e = .returned (.string b) ∧ Below U.heap.size U w') := fun U => sclone_any b U (by omega)
        clear HID
        go_wp2_with fail
        generalize hw2 : World.alloc w1 _ = w2 at *
        clear hw2
        have HT2 : Hid (Txw w2 A t bt d u) := HH.out.below HB2.out
        have HS : Hid (TS A t bt u w2) := HT2.out.row
        refine wp_region_held_drew (S := TS A t bt u) (by kernel_rfl) HS.out (fun _ => ?_)
        refine heldTake 0 (some 32) (.pointer (some ⟨t, 0, none⟩)) rfl rfl (by kernel_rfl) (by kernel_rfl) (by kernel_rfl) (fun _ _ _ h => h) (Or.inl ⟨by rfl, fun w hS => ?_⟩) HS.out ?_
        · (go_simp)
        simp only [Act.put, List.setIfInBounds_toArray, List.set_cons_zero, List.set_cons_succ]
        refine heldTake 1 (some 33) (.pointer (some ⟨t, 0, none⟩)) rfl rfl (by kernel_rfl) (by kernel_rfl) (by kernel_rfl) (fun _ _ _ h => h) (Or.inl ⟨by rfl, fun w hS => ?_⟩) HS.out ?_
        · (go_simp)
        simp only [Act.put, List.setIfInBounds_toArray, List.set_cons_zero, List.set_cons_succ]
        refine heldTake 2 (some 34) (.pointer (some ⟨t, 8, none⟩)) rfl rfl (by kernel_rfl) (by kernel_rfl) (by kernel_rfl) (fun _ _ _ h => h) (Or.inl ⟨by rfl, fun w hS => ?_⟩) HS.out ?_
        · (go_simp)
        simp only [Act.put, List.setIfInBounds_toArray, List.set_cons_zero, List.set_cons_succ]
        refine heldTake 3 (some 35) (.map (some bt)) rfl rfl (by kernel_rfl) (by kernel_rfl) (by kernel_rfl) (fun _ _ _ h => h) (Or.inl ⟨by rfl, fun w hS => ?_⟩) HS.out ?_
        · (have p8 : _ = some (Value.map (some bt)) := cell_of_row w t 8 _ _ (0, 0) hS; clear hS; go_simp)
        simp only [Act.put, List.setIfInBounds_toArray, List.set_cons_zero, List.set_cons_succ]
        refine heldTake 4 (some 36) (.int .i64 (i : Int)) rfl rfl (by kernel_rfl) (by kernel_rfl) (by kernel_rfl) (fun _ _ _ h => h) (Or.inl ⟨by rfl, fun w hS => ?_⟩) HS.out ?_
        · (go_simp)
        simp only [Act.put, List.setIfInBounds_toArray, List.set_cons_zero, List.set_cons_succ]
        refine heldTake 5 (some 37) (.int .i64 (kk : Int)) rfl rfl (by kernel_rfl) (by kernel_rfl) (by kernel_rfl) (fun _ _ _ h => h) (Or.inl ⟨by rfl, fun w hS => ?_⟩) HS.out ?_
        · (go_simp)
        simp only [Act.put, List.setIfInBounds_toArray, List.set_cons_zero, List.set_cons_succ]
        refine heldTake 6 (some 38) (.string b) rfl rfl (by kernel_rfl) (by kernel_rfl) (by kernel_rfl) (fun _ _ _ h => h) (Or.inl ⟨by rfl, fun w hS => ?_⟩) HS.out ?_
        · (go_simp)
        simp only [Act.put, List.setIfInBounds_toArray, List.set_cons_zero, List.set_cons_succ]
        refine heldOne 7 (by kernel_rfl) rfl (by rfl) (fun KK hK => ?_)
        go_simp
        go_at_call 65
        refine (HCL.out w2.drew).mono ?_
        rintro e w3 ⟨rfl, hB3⟩
        have hB3' := below_drew hB3
        have HT3 : Hid (Txw w3 A t bt d u) := HT2.out.below hB3'
        have HB3 : Hid (Below w.heap.size w w3) := below_next HB2.out hB3' HB2.out.size
        have HS3 : Hid (TS A t bt u w3) := HT3.out.row
        clear hB3 hB3' HCL HT2 HS HB2 HB1
        refine hK.out _ _ HS3.out ?_
        clear hK KK
        refine heldTake 8 (some 40) (.agg #[.int .i64 (kk : Int), .string b]) rfl rfl (by kernel_rfl) (by kernel_rfl) (by kernel_rfl) (fun _ _ _ h => h) (Or.inl ⟨by rfl, fun w hS => ?_⟩) HS3.out ?_
        · (go_simp)
        simp only [Act.put, List.setIfInBounds_toArray, List.set_cons_zero, List.set_cons_succ]
        obtain ⟨w4, hrun, hM4, hg4⟩ := mp_put_run HT3.out.mp hl i (by omega) ⟨kk, b⟩
        obtain ⟨hT4, hTT⟩ := HT3.out.map hM4 hg4
        have HFN : Hid (TDoes w A t bt d (writeU u R (i : Int) (kk : Int) b) R (.returned (.int .i64 0)) w4) := by
          have e9 : writeU u R (i : Int) (kk : Int) b = { u with m := Pd.set u.m i ⟨kk, b⟩ } := by unfold writeU; rw [HW.out, if_pos rfl]; rfl
          rw [e9, HW.out]
          exact ⟨rfl, hT4, (Turn.of_below HB3.out).trans hTT⟩
        have HS4 : Hid (TS A t bt u w4) := hT4.row
        have hrun0 : (Instr.mapUpdate 59 (.map (some bt)) (.int .i64 (i : Int)) (.agg #[.int .i64 (kk : Int), .string b])).run Tryz.prog w3 = .ok () w4 := hrun
        clear hM4 hg4 hT4 hTT HT3 hrun
        refine heldOne 9 (by kernel_rfl) rfl (by rfl) (fun KK hK => ?_)
        go_simp
        refine hK.out _ _ HS4.out ?_
        clear hK KK
        refine wpAnyH_done (by kernel_rfl) ?_ _
        go_wp2
        go_ret
        exact HFN.out
  · have hb0 : (e0 != 0) = true := by simp [hz0]
    rw [if_pos hz0] at HW
    have HFN : Hid (TDoes w A t bt d (writeU u R id k b) R (.returned (.int .i64 e0)) (w1.alloc (.cells #[.int .i64 (kd : Int), .string bd] 102))) := by
      have e9 : writeU u R id k b = u := by unfold writeU; rw [HW.out, if_neg hz0]
      rw [e9, HW.out]
      exact ⟨rfl, HH.out.below HB2.out, Turn.of_below HB2.out⟩
    go_wp2
    go_ret
    exact HFN.out
set_option maxHeartbeats 4000000 in
set_option maxRecDepth 100000 in
theorem tfree_any (id : Int) (x : Pd.Sheet) (H : Txw w A t bt d u) (hF : Fits d) (hh : u.st.high ≤ d.cnt) (hl : u.m.length ≤ 90000) (hfr : u.st.free ≤ 1000) (hx : ∀ i : Nat, id = (i : Int) → 1 ≤ i → i < u.st.high → Pd.TSees u d i x) :
    Calls Tryz.prog 31 #[ptr t, .int .i64 id] w (TDoes w A t bt d (freeU u (thereR u.st.high id x).2 id) (thereR u.st.high id x).2) := by
  have HT : Hid (Calls Tryz.prog 61 #[.pointer (some ⟨t, 0, none⟩), .int .i64 id] w fun e w' => e = .returned (.tuple #[.agg #[.int .i64 ((thereR u.st.high id x).1.kind : Int), .string (thereR u.st.high id x).1.body], .int .i64 (thereR u.st.high id x).2]) ∧ Below w.heap.size w w') := there_any A t bt d u w id x H hF hh hx
  have hz := zeroSh
  unfold shV sh00 Pd.none0 at hz
  have HH : Hid (Txw w A t bt d u) := H
  have hc := hF.cnt
  have HID : Hid ((thereR u.st.high id x).2 = 0 → 1 ≤ id ∧ id < (u.st.high : Int)) := fun h => by
    unfold thereR at h
    split at h
    · cases h
    · rename_i h1
      omega
  clear H hx
  generalize hkd : (thereR u.st.high id x).1.kind = kd at *
  generalize hbd : (thereR u.st.high id x).1.body = bd at *
  generalize he0 : (thereR u.st.high id x).2 = e0 at *
  clear hkd hbd he0
  unfold ptr
  go_enter Tryz.func31, Tryz.ntmps31
  go_wp2_with fail
  refine HT.out.mono ?_
  rintro e w1 ⟨rfl, hB1⟩
  have HB2 : Hid (Below w.heap.size w (w1.alloc (.cells #[.int .i64 (kd : Int), .string bd] 102))) := hB1.alloc hB1.size _
  clear hB1 HT
  by_cases hz0 : e0 = 0
  · subst hz0
    have hid := HID.out rfl
    obtain ⟨i, rfl⟩ := Int.eq_ofNat_of_zero_le (show 0 ≤ id by omega)
    have HCL : Hid (∀ U, Calls Tryz.prog 66 #[.int .i64 (u.st.last : Int)] U fun e w' => e = .returned (shV (Pd.freeSheet u.st.last)) ∧ Below U.heap.size U w') := fun U => freeSheet_any u.st.last U
    clear HID
    go_wp2_with fail
    generalize hw2 : World.alloc w1 _ = w2 at *
    clear hw2
    have HT2 : Hid (Txw w2 A t bt d u) := HH.out.below HB2.out
    have HS : Hid (TS A t bt u w2) := HT2.out.row
    refine wp_region_held_drew (S := TS A t bt u) (by kernel_rfl) HS.out (fun _ => ?_)
    refine heldTake 0 (some 16) (.pointer (some ⟨t, 0, none⟩)) rfl rfl (by kernel_rfl) (by kernel_rfl) (by kernel_rfl) (fun _ _ _ h => h) (Or.inl ⟨by rfl, fun w hS => ?_⟩) HS.out ?_
    · (go_simp)
    simp only [Act.put, List.setIfInBounds_toArray, List.set_cons_zero, List.set_cons_succ]
    refine heldTake 1 (some 17) (.pointer (some ⟨t, 0, none⟩)) rfl rfl (by kernel_rfl) (by kernel_rfl) (by kernel_rfl) (fun _ _ _ h => h) (Or.inl ⟨by rfl, fun w hS => ?_⟩) HS.out ?_
    · (go_simp)
    simp only [Act.put, List.setIfInBounds_toArray, List.set_cons_zero, List.set_cons_succ]
    refine heldTake 2 (some 18) (.pointer (some ⟨t, 8, none⟩)) rfl rfl (by kernel_rfl) (by kernel_rfl) (by kernel_rfl) (fun _ _ _ h => h) (Or.inl ⟨by rfl, fun w hS => ?_⟩) HS.out ?_
    · (go_simp)
    simp only [Act.put, List.setIfInBounds_toArray, List.set_cons_zero, List.set_cons_succ]
    refine heldTake 3 (some 19) (.map (some bt)) rfl rfl (by kernel_rfl) (by kernel_rfl) (by kernel_rfl) (fun _ _ _ h => h) (Or.inl ⟨by rfl, fun w hS => ?_⟩) HS.out ?_
    · (have p8 : _ = some (Value.map (some bt)) := cell_of_row w t 8 _ _ (0, 0) hS; clear hS; go_simp)
    simp only [Act.put, List.setIfInBounds_toArray, List.set_cons_zero, List.set_cons_succ]
    refine heldTake 4 (some 20) (.int .i64 (i : Int)) rfl rfl (by kernel_rfl) (by kernel_rfl) (by kernel_rfl) (fun _ _ _ h => h) (Or.inl ⟨by rfl, fun w hS => ?_⟩) HS.out ?_
    · (go_simp)
    simp only [Act.put, List.setIfInBounds_toArray, List.set_cons_zero, List.set_cons_succ]
    refine heldTake 5 (some 21) (.pointer (some ⟨t, 0, none⟩)) rfl rfl (by kernel_rfl) (by kernel_rfl) (by kernel_rfl) (fun _ _ _ h => h) (Or.inl ⟨by rfl, fun w hS => ?_⟩) HS.out ?_
    · (go_simp)
    simp only [Act.put, List.setIfInBounds_toArray, List.set_cons_zero, List.set_cons_succ]
    refine heldTake 6 (some 22) (.pointer (some ⟨t, 0, none⟩)) rfl rfl (by kernel_rfl) (by kernel_rfl) (by kernel_rfl) (fun _ _ _ h => h) (Or.inl ⟨by rfl, fun w hS => ?_⟩) HS.out ?_
    · (go_simp)
    simp only [Act.put, List.setIfInBounds_toArray, List.set_cons_zero, List.set_cons_succ]
    refine heldTake 7 (some 23) (.pointer (some ⟨t, 1, none⟩)) rfl rfl (by kernel_rfl) (by kernel_rfl) (by kernel_rfl) (fun _ _ _ h => h) (Or.inl ⟨by rfl, fun w hS => ?_⟩) HS.out ?_
    · (go_simp)
    simp only [Act.put, List.setIfInBounds_toArray, List.set_cons_zero, List.set_cons_succ]
    refine heldTake 8 (some 24) (.pointer (some ⟨t, 3, none⟩)) rfl rfl (by kernel_rfl) (by kernel_rfl) (by kernel_rfl) (fun _ _ _ h => h) (Or.inl ⟨by rfl, fun w hS => ?_⟩) HS.out ?_
    · (go_simp)
    simp only [Act.put, List.setIfInBounds_toArray, List.set_cons_zero, List.set_cons_succ]
    refine heldTake 9 (some 25) (.int .i64 (u.st.last : Int)) rfl rfl (by kernel_rfl) (by kernel_rfl) (by kernel_rfl) (fun _ _ _ h => h) (Or.inl ⟨by rfl, fun w hS => ?_⟩) HS.out ?_
    · (have p3 : _ = some (Value.int .i64 (u.st.last : Int)) := cell_of_row w t 3 _ _ (0, 0) hS; clear hS; go_simp)
    simp only [Act.put, List.setIfInBounds_toArray, List.set_cons_zero, List.set_cons_succ]
    refine heldOne 10 (by kernel_rfl) rfl (by rfl) (fun KK hK => ?_)
    go_simp
    go_at_call 66
    refine (HCL.out w2.drew).mono ?_
    rintro e w3 ⟨rfl, hB3⟩
    have hB3' := below_drew hB3
    have HT3 : Hid (Txw w3 A t bt d u) := HT2.out.below hB3'
    have HB3 : Hid (Below w.heap.size w w3) := below_next HB2.out hB3' HB2.out.size
    have HS3 : Hid (TS A t bt u w3) := HT3.out.row
    clear hB3 hB3' HCL HT2 HS HB2
    refine hK.out _ _ HS3.out ?_
    clear hK KK
    obtain ⟨w4, hrun, hM4, hg4⟩ := mp_put_run HT3.out.mp (by omega) i (by omega) (Pd.freeSheet u.st.last)
    obtain ⟨hT4, hTT⟩ := HT3.out.map hM4 hg4
    have HT4 : Hid (Txw w4 A t bt d { u with m := Pd.set u.m i (Pd.freeSheet u.st.last) }) := hT4
    have HTT : Hid (Turn (tft A t bt) (tft A t bt) w w4) := (Turn.of_below HB3.out).trans hTT
    have HS4 : Hid (TS A t bt u w4) := hT4.row
    clear hM4 hg4 hT4 hTT HT3 HB3
    refine heldOne 11 (by kernel_rfl) rfl (by rfl) (fun KK hK => ?_)
    go_simp
    refine hK.out _ _ HS4.out ?_
    clear hK KK hrun
    refine wpAnyH_done (by kernel_rfl) ?_ _
    have c3 := HT4.out.c3
    have f3 := HT4.out.fz 3
    have c2 := HT4.out.c2
    have f2 := HT4.out.fz 2
    obtain ⟨hT5, hT5T⟩ := HT4.out.set (u' := { st := { u.st with last := i }, m := Pd.set u.m i (Pd.freeSheet u.st.last), sp := u.sp }) 3 (.int .i64 (i : Int)) rfl rfl
    obtain ⟨hT6, hT6T⟩ := hT5.set (u' := { st := { u.st with last := i, free := u.st.free + 1 }, m := Pd.set u.m i (Pd.freeSheet u.st.last), sp := u.sp }) 2 (.int .i64 ((u.st.free + 1 : Nat) : Int)) rfl rfl
    have hadd : ((u.st.free + 1 : Nat) : Int) = (u.st.free : Int) + 1 := by omega
    rw [hadd] at hT6 hT6T
    have hwr : IntKind.i64.wrap ((u.st.free : Int) + 1) = (u.st.free : Int) + 1 := by rw [IntKind.wrap_i64]; omega
    have HT6 : Hid (Txw ((w4.setCell ⟨t, 3, none⟩ (.int .i64 (i : Int))).setCell ⟨t, 2, none⟩ (.int .i64 ((u.st.free : Int) + 1))) A t bt d { st := { u.st with last := i, free := u.st.free + 1 }, m := Pd.set u.m i (Pd.freeSheet u.st.last), sp := u.sp }) := hT6
    have HTT6 : Hid (Turn (tft A t bt) (tft A t bt) w ((w4.setCell ⟨t, 3, none⟩ (.int .i64 (i : Int))).setCell ⟨t, 2, none⟩ (.int .i64 ((u.st.free : Int) + 1)))) := HTT.out.trans (hT5T.trans hT6T)
    clear hT5 hT5T hT6 hT6T hadd HTT HT4
    go_wp2_with fail
    generalize hw6 : World.setCell _ _ _ = w6 at *
    clear hw6
    have hll := Pd.set_length_le (Pd.freeSheet u.st.last) i u.m
    refine (show Calls _ _ _ _ _ from mark_any A t bt d _ w6 HT6.out (by show (Pd.set u.m i (Pd.freeSheet u.st.last)).length ≤ _; omega)).mono ?_
    rintro e w7 ⟨rfl, hT7, hT7T⟩
    have HFN : Hid (TDoes w A t bt d (freeU u 0 (i : Int)) 0 (.returned (.int .i64 0)) w7) := ⟨rfl, hT7, HTT6.out.trans hT7T⟩
    clear hT7 hT7T HT6 HTT6
    go_wp2
    go_ret
    exact HFN.out
  · have hb0 : (e0 != 0) = true := by simp [hz0]
    have HFN : Hid (TDoes w A t bt d (freeU u e0 id) e0 (.returned (.int .i64 e0)) (w1.alloc (.cells #[.int .i64 (kd : Int), .string bd] 102))) := by
      have e9 : freeU u e0 id = u := by unfold freeU; rw [if_neg hz0]
      rw [e9]
      exact ⟨rfl, HH.out.below HB2.out, Turn.of_below HB2.out⟩
    go_wp2
    go_ret
    exact HFN.out
end
end Go.Proofs.YtcfninpokngmlaaGreatDoor
/- Proved: what a transaction's SetRoot, unlink and Alloc make of it. -/
namespace Go.Proofs.YtcfninpokngmlaaGreatDoor
open Go.RowKit
def setrootR (i n : Int) : Int := if isR i = false ∨ n < 0 ∨ 2147483647 < n then 2 else 0
def rootSt (s : Pd.Stt) (i : Nat) (n : Nat) : Pd.Stt := match i with
  | 0 => { s with r0 := n }
  | 1 => { s with r1 := n }
  | 2 => { s with r2 := n }
  | _ => { s with r3 := n }
def rootU (u : Pd.Tx) (R i n : Int) : Pd.Tx := if R = 0 then { st := rootSt u.st i.toNat n.toNat, m := Pd.set u.m 0 (rootSt u.st i.toNat n.toNat).sheet, sp := u.sp } else u
section
variable (A : Ad) (t bt : Nat) (d : Pd.Db) (u : Pd.Tx) (w : World)
set_option maxHeartbeats 4000000 in
set_option maxRecDepth 100000 in
theorem tsetroot_any (i n : Int) (H : Txw w A t bt d u) (hF : Fits d) (hl : u.m.length ≤ 90000) :
    Calls Tryz.prog 32 #[ptr t, .int .i64 i, .int .i64 n] w (TDoes w A t bt d (rootU u (setrootR i n) i n) (setrootR i n)) := by
  have HRE : Hid (Calls Tryz.prog 62 #[.pointer (some ⟨t, 0, none⟩)] w fun e w' => e = .returned (.int .i64 0) ∧ w' = w) := tready_ok A t bt d u w H hF.lost
  have HIS : Hid (Calls Tryz.prog 52 #[.int .i64 i] w fun e w' => e = .returned (.bool (isR i)) ∧ w' = w) := isroot_any i w
  have HH : Hid (Txw w A t bt d u) := H
  clear H
  have HRR : Hid (setrootR i n = if isR i = false ∨ n < 0 ∨ 2147483647 < n then 2 else 0) := rfl
  have HRU : Hid (∀ R, rootU u R i n = if R = 0 then { st := rootSt u.st i.toNat n.toNat, m := Pd.set u.m 0 (rootSt u.st i.toNat n.toNat).sheet, sp := u.sp } else u) := fun _ => rfl
  generalize hr : setrootR i n = R at *
  clear hr
  unfold ptr
  by_cases h1 : isR i = false
  · have HFN : Hid (TDoes w A t bt d (rootU u R i n) R (.returned (.int .i64 2)) w) := by
      rw [if_pos (.inl h1)] at HRR
      rw [HRU.out, HRR.out, if_neg (by decide)]
      exact ⟨rfl, HH.out, Turn.refl _ _⟩
    rw [h1] at HIS
    go_enter Tryz.func32, Tryz.ntmps32
    go_wp2_with (first | (go_at_call 62; refine HRE.out.mono ?_; rintro e w' ⟨rfl, rfl⟩) | (go_at_call 52; refine HIS.out.mono ?_; rintro e w' ⟨rfl, rfl⟩))
    go_ret
    exact HFN.out
  · have h1' : isR i = true := by simpa using h1
    rw [h1'] at HIS
    have hi : i = 0 ∨ i = 1 ∨ i = 2 ∨ i = 3 := by
      unfold isR at h1'
      simp at h1'
      omega
    by_cases h2 : n < 0
    · have d2 : decide (n < 0) = true := decide_eq_true h2
      have HFN : Hid (TDoes w A t bt d (rootU u R i n) R (.returned (.int .i64 2)) w) := by
        rw [if_pos (.inr (.inl h2))] at HRR
        rw [HRU.out, HRR.out, if_neg (by decide)]
        exact ⟨rfl, HH.out, Turn.refl _ _⟩
      clear h1 h1' hi
      go_enter Tryz.func32, Tryz.ntmps32
      go_wp2_with (first | (go_at_call 62; refine HRE.out.mono ?_; rintro e w' ⟨rfl, rfl⟩) | (go_at_call 52; refine HIS.out.mono ?_; rintro e w' ⟨rfl, rfl⟩))
      go_ret
      exact HFN.out
    · have d2 : decide (n < 0) = false := decide_eq_false h2
      by_cases h3 : 2147483647 < n
      · have d3 : decide (2147483647 < n) = true := decide_eq_true h3
        have HFN : Hid (TDoes w A t bt d (rootU u R i n) R (.returned (.int .i64 2)) w) := by
          rw [if_pos (.inr (.inr h3))] at HRR
          rw [HRU.out, HRR.out, if_neg (by decide)]
          exact ⟨rfl, HH.out, Turn.refl _ _⟩
        clear h1 h1' hi
        go_enter Tryz.func32, Tryz.ntmps32
        go_wp2_with (first | (go_at_call 62; refine HRE.out.mono ?_; rintro e w' ⟨rfl, rfl⟩) | (go_at_call 52; refine HIS.out.mono ?_; rintro e w' ⟨rfl, rfl⟩))
        go_ret
        exact HFN.out
      · have d3 : decide (2147483647 < n) = false := decide_eq_false h3
        rw [if_neg (by rw [h1']; rintro (h | h | h) <;> simp_all)] at HRR
        have HN : Hid (∀ w1, Turn (tft A t bt) (tft A t bt) w w1 → Txw w1 A t bt d { u with st := rootSt u.st i.toNat n.toNat } → Calls Tryz.prog 64 #[.pointer (some ⟨t, 0, none⟩)] w1 fun e w' => e = .returned (.tuple #[]) ∧ TDoes w A t bt d (rootU u R i n) R (.returned (.int .i64 0)) w') := fun w1 hT1 hX1 => by
          refine (mark_any A t bt d _ w1 hX1 (by show u.m.length ≤ _; omega)).mono ?_
          rintro e w2 ⟨rfl, hX2, hT2⟩
          refine ⟨rfl, ?_⟩
          rw [HRU.out, HRR.out, if_pos rfl]
          exact ⟨rfl, hX2, hT1.trans hT2⟩
        obtain ⟨nn, rfl⟩ := Int.eq_ofNat_of_zero_le (show 0 ≤ n by omega)
        rw [Int.toNat_natCast] at HN
        have c4 := HH.out.c4
        have c5 := HH.out.c5
        have c6 := HH.out.c6
        have c7 := HH.out.c7
        have f4 := HH.out.fz 4
        have f5 := HH.out.fz 5
        have f6 := HH.out.fz 6
        have f7 := HH.out.fz 7
        clear h1 h1' HRR HRU
        rcases hi with rfl | rfl | rfl | rfl
        · obtain ⟨y1, y2⟩ := HH.out.set (u' := { u with st := rootSt u.st 0 nn }) 4 (.int .i64 (nn : Int)) rfl rfl
          have HM := (show Hid _ from HN.out _ y2 y1)
          clear y1 y2 HN
          go_enter Tryz.func32, Tryz.ntmps32
          go_wp2_with (first | (go_at_call 62; refine HRE.out.mono ?_; rintro e w' ⟨rfl, rfl⟩) | (go_at_call 52; refine HIS.out.mono ?_; rintro e w' ⟨rfl, rfl⟩) | (go_at_call 64; refine (show Calls _ _ _ _ _ from HM.out).mono ?_; rintro e w' ⟨rfl, hFN⟩))
          go_ret
          exact hFN
        · obtain ⟨y1, y2⟩ := HH.out.set (u' := { u with st := rootSt u.st 1 nn }) 5 (.int .i64 (nn : Int)) rfl rfl
          have HM := (show Hid _ from HN.out _ y2 y1)
          clear y1 y2 HN
          go_enter Tryz.func32, Tryz.ntmps32
          go_wp2_with (first | (go_at_call 62; refine HRE.out.mono ?_; rintro e w' ⟨rfl, rfl⟩) | (go_at_call 52; refine HIS.out.mono ?_; rintro e w' ⟨rfl, rfl⟩) | (go_at_call 64; refine (show Calls _ _ _ _ _ from HM.out).mono ?_; rintro e w' ⟨rfl, hFN⟩))
          go_ret
          exact hFN
        · obtain ⟨y1, y2⟩ := HH.out.set (u' := { u with st := rootSt u.st 2 nn }) 6 (.int .i64 (nn : Int)) rfl rfl
          have HM := (show Hid _ from HN.out _ y2 y1)
          clear y1 y2 HN
          go_enter Tryz.func32, Tryz.ntmps32
          go_wp2_with (first | (go_at_call 62; refine HRE.out.mono ?_; rintro e w' ⟨rfl, rfl⟩) | (go_at_call 52; refine HIS.out.mono ?_; rintro e w' ⟨rfl, rfl⟩) | (go_at_call 64; refine (show Calls _ _ _ _ _ from HM.out).mono ?_; rintro e w' ⟨rfl, hFN⟩))
          go_ret
          exact hFN
        · obtain ⟨y1, y2⟩ := HH.out.set (u' := { u with st := rootSt u.st 3 nn }) 7 (.int .i64 (nn : Int)) rfl rfl
          have HM := (show Hid _ from HN.out _ y2 y1)
          clear y1 y2 HN
          go_enter Tryz.func32, Tryz.ntmps32
          go_wp2_with (first | (go_at_call 62; refine HRE.out.mono ?_; rintro e w' ⟨rfl, rfl⟩) | (go_at_call 52; refine HIS.out.mono ?_; rintro e w' ⟨rfl, rfl⟩) | (go_at_call 64; refine (show Calls _ _ _ _ _ from HM.out).mono ?_; rintro e w' ⟨rfl, hFN⟩))
          go_ret
          exact hFN
end
end Go.Proofs.YtcfninpokngmlaaGreatDoor
/- Proved: what a transaction's unlink and Alloc make of it. -/
namespace Go.Proofs.YtcfninpokngmlaaGreatDoor
open Go.RowKit
def unSt (s : Pd.Stt) (a : Nat) : Pd.Stt := { s with free := s.free - 1, last := a }
section
variable (A : Ad) (t bt : Nat) (d : Pd.Db) (u : Pd.Tx) (w : World)
set_option maxHeartbeats 8000000 in
set_option maxRecDepth 100000 in
theorem unlink_any (a : Nat) (H : Txw w A t bt d u) (hF : Fits d) (hlt : u.st.last < d.cnt) (hfr : 1 ≤ u.st.free) (hfr2 : u.st.free ≤ 1000) (hS : (unSt u.st a).Small d.cnt) (hx : Pd.TSees u d u.st.last (Pd.freeSheet a)) :
    Calls Tryz.prog 63 #[ptr t] w (TDoes w A t bt d { u with st := unSt u.st a } 0) := by
  have ha : a < 4294967296 := by have h1 := hS.last; have h2 := hS.high; have h3 := hF.cnt; have h4 : (unSt u.st a).last = a := rfl; omega
  have HLK : Hid (Calls Tryz.prog 85 #[.pointer (some ⟨t, 0, none⟩), .int .i64 (u.st.last : Int)] w fun e w' => e = .returned (.tuple #[.agg #[.int .i64 255, .string (Wl.put a 4)], .int .i64 0]) ∧ Below w.heap.size w w') := tlook_any A t bt d u w u.st.last (Pd.freeSheet a) H hF hlt hx
  have HRF : Hid (∀ U, Calls Tryz.prog 86 #[.agg #[.int .i64 255, .string (Wl.put a 4)]] U fun e w' => e = .returned (.tuple #[.int .i64 (a : Int), .bool true]) ∧ Below U.heap.size U w') := fun U => readFree_any a U ha
  have HSO : Hid (∀ U, Calls Tryz.prog 87 #[.agg #[.int .i64 (u.st.high : Int), .int .i64 ((u.st.free : Int) - 1), .int .i64 (a : Int), .int .i64 (u.st.r0 : Int), .int .i64 (u.st.r1 : Int), .int .i64 (u.st.r2 : Int), .int .i64 (u.st.r3 : Int)], .int .i64 (d.cnt : Int)] U fun e w' => e = .returned (.bool true) ∧ Below U.heap.size U w') := fun U => by
    have h := sound_yes (unSt u.st a) d.cnt U hS
    have e : stV (unSt u.st a) = .agg #[.int .i64 (u.st.high : Int), .int .i64 ((u.st.free : Int) - 1), .int .i64 (a : Int), .int .i64 (u.st.r0 : Int), .int .i64 (u.st.r1 : Int), .int .i64 (u.st.r2 : Int), .int .i64 (u.st.r3 : Int)] := by
      unfold stV stA unSt
      simp only
      rw [show ((u.st.free - 1 : Nat) : Int) = (u.st.free : Int) - 1 by omega]
    rw [e] at h
    exact h
  have HH : Hid (Txw w A t bt d u) := H
  have hz := zeroSh
  unfold shV sh00 Pd.none0 at hz
  have hzs := zeroSt
  have c3 := H.c3
  have hwr : IntKind.i64.wrap ((u.st.free : Int) - 1) = (u.st.free : Int) - 1 := by rw [IntKind.wrap_i64]; omega
  clear H hx hS
  generalize Wl.put a 4 = pa at *
  unfold ptr
  go_enter Tryz.func63, Tryz.ntmps63
  go_wp2_with fail
  refine HLK.out.mono ?_
  rintro e w1 ⟨rfl, hB1⟩
  have HB2 : Hid (Below w.heap.size w (w1.alloc (.cells #[.int .i64 255, .string pa] 102))) := hB1.alloc hB1.size _
  have HX2 : Hid (Txw (w1.alloc (.cells #[.int .i64 255, .string pa] 102)) A t bt d u) := HH.out.below HB2.out
  have q0 : (w1.alloc (.cells #[.int .i64 255, .string pa] 102)).heap[w1.heap.size]? = some (.cells #[.int .i64 255, .string pa] 102 (0, 0)) := heap_alloc_new w1 _
  have HQ2 : Hid ((w1.alloc (.cells #[.int .i64 255, .string pa] 102)).heap[w1.heap.size]? = some (.cells #[.int .i64 255, .string pa] 102 (0, 0))) := q0
  have HX1 : Hid (Txw w1 A t bt d u) := HH.out.below hB1
  have e1 := HX1.out.c1
  have e2 := HX1.out.c2
  have e3 := HX1.out.c3
  have e4 := HX1.out.c4
  have e5 := HX1.out.c5
  have e6 := HX1.out.c6
  have e7 := HX1.out.c7
  have htl := HX1.out.tlt
  have HB1 : Hid (Below w.heap.size w w1) := hB1
  clear hB1 HLK c3 q0
  go_wp2_with fail
  have hs2 : (w1.alloc (.cells #[.int .i64 255, .string pa] 102)).heap.size = w1.heap.size + 1 := by simp
  have HB3 : Hid (Below w.heap.size w ((w1.alloc (.cells #[.int .i64 255, .string pa] 102)).alloc (.cells #[.int .i64 (u.st.high : Int), .int .i64 ((u.st.free : Int) - 1), .int .i64 (u.st.last : Int), .int .i64 (u.st.r0 : Int), .int .i64 (u.st.r1 : Int), .int .i64 (u.st.r2 : Int), .int .i64 (u.st.r3 : Int)] 58))) := HB2.out.alloc HB2.out.size _
  have HZ3 : Hid (((w1.alloc (.cells #[.int .i64 255, .string pa] 102)).alloc (.cells #[.int .i64 (u.st.high : Int), .int .i64 ((u.st.free : Int) - 1), .int .i64 (u.st.last : Int), .int .i64 (u.st.r0 : Int), .int .i64 (u.st.r1 : Int), .int .i64 (u.st.r2 : Int), .int .i64 (u.st.r3 : Int)] 58)).heap[w1.heap.size + 1]? = some (.cells #[.int .i64 (u.st.high : Int), .int .i64 ((u.st.free : Int) - 1), .int .i64 (u.st.last : Int), .int .i64 (u.st.r0 : Int), .int .i64 (u.st.r1 : Int), .int .i64 (u.st.r2 : Int), .int .i64 (u.st.r3 : Int)] 58 (0, 0))) := by
    have := heap_alloc_new (w1.alloc (.cells #[.int .i64 255, .string pa] 102)) (.cells #[.int .i64 (u.st.high : Int), .int .i64 ((u.st.free : Int) - 1), .int .i64 (u.st.last : Int), .int .i64 (u.st.r0 : Int), .int .i64 (u.st.r1 : Int), .int .i64 (u.st.r2 : Int), .int .i64 (u.st.r3 : Int)] 58)
    rw [hs2] at this
    exact this
  have HLB : Hid (w.heap.size ≤ w1.heap.size + 1 ∧ t < w.heap.size ∧ A.x < w.heap.size) := ⟨by have := HB1.out.size; omega, HH.out.tlt, HH.out.db.xlt⟩
  generalize hw3 : World.alloc (World.alloc w1 _) _ = w3 at *
  clear hw3 hs2 HB2 HX2 HQ2 HX1 HB1 e1 e2 e3 e4 e5 e6 e7 htl hz hzs
  generalize hB1g : w1.heap.size + 1 = B1 at *
  clear hB1g
  refine (HRF.out w3).mono ?_
  rintro e w4 ⟨rfl, hB4⟩
  have HB4 : Hid (Below w.heap.size w w4) := below_next HB3.out hB4 HB3.out.size
  have HZ4 : Hid (w4.heap[B1]? = some (.cells #[.int .i64 (u.st.high : Int), .int .i64 ((u.st.free : Int) - 1), .int .i64 (u.st.last : Int), .int .i64 (u.st.r0 : Int), .int .i64 (u.st.r1 : Int), .int .i64 (u.st.r2 : Int), .int .i64 (u.st.r3 : Int)] 58 (0, 0))) := heap_next HZ3.out hB4
  clear hB4 HRF HB3 HZ3
  have g2 : w4.cell? ⟨B1, 2, none⟩ = some (.int .i64 (u.st.last : Int)) := cell_of_row _ _ _ _ _ (0, 0) HZ4.out
  have f2 := frozen_of_row w4 B1 2 _ _ HZ4.out
  have HZ5 : Hid ((w4.setCell ⟨B1, 2, none⟩ (.int .i64 (a : Int))).heap[B1]? = some (.cells #[.int .i64 (u.st.high : Int), .int .i64 ((u.st.free : Int) - 1), .int .i64 (a : Int), .int .i64 (u.st.r0 : Int), .int .i64 (u.st.r1 : Int), .int .i64 (u.st.r2 : Int), .int .i64 (u.st.r3 : Int)] 58 (0, 0))) := row_set7 HZ4.out 2 _ rfl
  have HB5 : Hid (Below w.heap.size w (w4.setCell ⟨B1, 2, none⟩ (.int .i64 (a : Int)))) := HB4.out.setCell HLB.out.1 _
  clear HZ4 HB4
  go_wp2_with fail
  generalize hw5 : World.setCell _ _ _ = w5 at *
  clear hw5 g2 f2
  have HX5 : Hid (Txw w5 A t bt d u) := HH.out.below HB5.out
  have HS : Hid ((fun U : World => U.heap[B1]? = some (.cells #[.int .i64 (u.st.high : Int), .int .i64 ((u.st.free : Int) - 1), .int .i64 (a : Int), .int .i64 (u.st.r0 : Int), .int .i64 (u.st.r1 : Int), .int .i64 (u.st.r2 : Int), .int .i64 (u.st.r3 : Int)] 58 (0, 0)) ∧ U.cell? ⟨t, 0, none⟩ = some (.pointer (some ⟨A.x, 0, none⟩)) ∧ U.cell? ⟨A.x, 3, none⟩ = some (.int .i64 (d.cnt : Int))) w5) := ⟨HZ5.out, HX5.out.c0, HX5.out.db.c3⟩
  refine wp_region_held_drew (S := (fun U : World => U.heap[B1]? = some (.cells #[.int .i64 (u.st.high : Int), .int .i64 ((u.st.free : Int) - 1), .int .i64 (a : Int), .int .i64 (u.st.r0 : Int), .int .i64 (u.st.r1 : Int), .int .i64 (u.st.r2 : Int), .int .i64 (u.st.r3 : Int)] 58 (0, 0)) ∧ U.cell? ⟨t, 0, none⟩ = some (.pointer (some ⟨A.x, 0, none⟩)) ∧ U.cell? ⟨A.x, 3, none⟩ = some (.int .i64 (d.cnt : Int)))) (by kernel_rfl) HS.out (fun _ => ?_)
  refine heldTake 0 (some 36) (.bool true) rfl rfl (by kernel_rfl) (by kernel_rfl) (by kernel_rfl) (fun _ _ _ h => h) (Or.inl ⟨by rfl, fun w hS => ?_⟩) HS.out ?_
  · (go_simp)
  simp only [Act.put, List.setIfInBounds_toArray, List.set_cons_zero, List.set_cons_succ]
  refine heldTake 1 (some 37) (.bool false) rfl rfl (by kernel_rfl) (by kernel_rfl) (by kernel_rfl) (fun _ _ _ h => h) (Or.inl ⟨by rfl, fun w hS => ?_⟩) HS.out ?_
  · (go_simp)
  simp only [Act.put, List.setIfInBounds_toArray, List.set_cons_zero, List.set_cons_succ]
  refine heldTake 2 (some 38) (.bool false) rfl rfl (by kernel_rfl) (by kernel_rfl) (by kernel_rfl) (fun _ _ _ h => h) (Or.inl ⟨by rfl, fun w hS => ?_⟩) HS.out ?_
  · (go_simp)
  simp only [Act.put, List.setIfInBounds_toArray, List.set_cons_zero, List.set_cons_succ]
  refine heldTake 3 (some 39) (.agg #[.int .i64 (u.st.high : Int), .int .i64 ((u.st.free : Int) - 1), .int .i64 (a : Int), .int .i64 (u.st.r0 : Int), .int .i64 (u.st.r1 : Int), .int .i64 (u.st.r2 : Int), .int .i64 (u.st.r3 : Int)]) rfl rfl (by kernel_rfl) (by kernel_rfl) (by kernel_rfl) (fun _ _ _ h => h) (Or.inl ⟨by rfl, fun w hS => ?_⟩) HS.out ?_
  · (obtain ⟨p0, p1, p2⟩ := hS; have z0 : _ = some (Value.int .i64 (u.st.high : Int)) := cell_of_row w B1 0 _ _ (0, 0) p0; have z1 : _ = some (Value.int .i64 ((u.st.free : Int) - 1)) := cell_of_row w B1 1 _ _ (0, 0) p0; have z2 : _ = some (Value.int .i64 (a : Int)) := cell_of_row w B1 2 _ _ (0, 0) p0; have z3 : _ = some (Value.int .i64 (u.st.r0 : Int)) := cell_of_row w B1 3 _ _ (0, 0) p0; have z4 : _ = some (Value.int .i64 (u.st.r1 : Int)) := cell_of_row w B1 4 _ _ (0, 0) p0; have z5 : _ = some (Value.int .i64 (u.st.r2 : Int)) := cell_of_row w B1 5 _ _ (0, 0) p0; have z6 : _ = some (Value.int .i64 (u.st.r3 : Int)) := cell_of_row w B1 6 _ _ (0, 0) p0; clear p0 p1 p2; go_simp)
  simp only [Act.put, List.setIfInBounds_toArray, List.set_cons_zero, List.set_cons_succ]
  refine heldTake 4 (some 40) (.pointer (some ⟨t, 0, none⟩)) rfl rfl (by kernel_rfl) (by kernel_rfl) (by kernel_rfl) (fun _ _ _ h => h) (Or.inl ⟨by rfl, fun w hS => ?_⟩) HS.out ?_
  · (go_simp)
  simp only [Act.put, List.setIfInBounds_toArray, List.set_cons_zero, List.set_cons_succ]
  refine heldTake 5 (some 41) (.pointer (some ⟨t, 0, none⟩)) rfl rfl (by kernel_rfl) (by kernel_rfl) (by kernel_rfl) (fun _ _ _ h => h) (Or.inl ⟨by rfl, fun w hS => ?_⟩) HS.out ?_
  · (go_simp)
  simp only [Act.put, List.setIfInBounds_toArray, List.set_cons_zero, List.set_cons_succ]
  refine heldTake 6 (some 42) (.pointer (some ⟨t, 0, none⟩)) rfl rfl (by kernel_rfl) (by kernel_rfl) (by kernel_rfl) (fun _ _ _ h => h) (Or.inl ⟨by rfl, fun w hS => ?_⟩) HS.out ?_
  · (go_simp)
  simp only [Act.put, List.setIfInBounds_toArray, List.set_cons_zero, List.set_cons_succ]
  refine heldTake 7 (some 43) (.pointer (some ⟨A.x, 0, none⟩)) rfl rfl (by kernel_rfl) (by kernel_rfl) (by kernel_rfl) (fun _ _ _ h => h) (Or.inl ⟨by rfl, fun w hS => ?_⟩) HS.out ?_
  · (obtain ⟨p0, p1, p2⟩ := hS; clear p0 p2; go_simp)
  simp only [Act.put, List.setIfInBounds_toArray, List.set_cons_zero, List.set_cons_succ]
  refine heldTake 8 (some 44) (.pointer (some ⟨A.x, 0, none⟩)) rfl rfl (by kernel_rfl) (by kernel_rfl) (by kernel_rfl) (fun _ _ _ h => h) (Or.inl ⟨by rfl, fun w hS => ?_⟩) HS.out ?_
  · (go_simp)
  simp only [Act.put, List.setIfInBounds_toArray, List.set_cons_zero, List.set_cons_succ]
  refine heldTake 9 (some 45) (.pointer (some ⟨A.x, 3, none⟩)) rfl rfl (by kernel_rfl) (by kernel_rfl) (by kernel_rfl) (fun _ _ _ h => h) (Or.inl ⟨by rfl, fun w hS => ?_⟩) HS.out ?_
  · (go_simp)
  simp only [Act.put, List.setIfInBounds_toArray, List.set_cons_zero, List.set_cons_succ]
  refine heldTake 10 (some 46) (.int .i64 (d.cnt : Int)) rfl rfl (by kernel_rfl) (by kernel_rfl) (by kernel_rfl) (fun _ _ _ h => h) (Or.inl ⟨by rfl, fun w hS => ?_⟩) HS.out ?_
  · (obtain ⟨p0, p1, p2⟩ := hS; clear p0 p1; go_simp)
  simp only [Act.put, List.setIfInBounds_toArray, List.set_cons_zero, List.set_cons_succ]
  refine heldOne 11 (by kernel_rfl) rfl (by rfl) (fun KK hK => ?_)
  go_simp
  go_at_call 87
  refine (HSO.out w5.drew).mono ?_
  rintro e w6 ⟨rfl, hB6⟩
  have hB6' := below_drew hB6
  have HB6 : Hid (Below w.heap.size w w6) := below_next HB5.out hB6' HB5.out.size
  have HX6 : Hid (Txw w6 A t bt d u) := HH.out.below HB6.out
  have HZ6 : Hid (w6.heap[B1]? = some (.cells #[.int .i64 (u.st.high : Int), .int .i64 ((u.st.free : Int) - 1), .int .i64 (a : Int), .int .i64 (u.st.r0 : Int), .int .i64 (u.st.r1 : Int), .int .i64 (u.st.r2 : Int), .int .i64 (u.st.r3 : Int)] 58 (0, 0))) := heap_next HZ5.out hB6'
  have HS6 : Hid ((fun U : World => U.heap[B1]? = some (.cells #[.int .i64 (u.st.high : Int), .int .i64 ((u.st.free : Int) - 1), .int .i64 (a : Int), .int .i64 (u.st.r0 : Int), .int .i64 (u.st.r1 : Int), .int .i64 (u.st.r2 : Int), .int .i64 (u.st.r3 : Int)] 58 (0, 0)) ∧ U.cell? ⟨t, 0, none⟩ = some (.pointer (some ⟨A.x, 0, none⟩)) ∧ U.cell? ⟨A.x, 3, none⟩ = some (.int .i64 (d.cnt : Int))) w6) := ⟨HZ6.out, HX6.out.c0, HX6.out.db.c3⟩
  clear hB6 hB6' HSO HX5 HS HZ5 HB5
  refine hK.out _ _ HS6.out ?_
  clear hK KK
  refine heldTake 12 (some 48) (.bool false) rfl rfl (by kernel_rfl) (by kernel_rfl) (by kernel_rfl) (fun _ _ _ h => h) (Or.inl ⟨by rfl, fun w hS => ?_⟩) HS6.out ?_
  · (go_simp)
  simp only [Act.put, List.setIfInBounds_toArray, List.set_cons_zero, List.set_cons_succ]
  refine heldTake 13 (some 49) (.bool false) rfl rfl (by kernel_rfl) (by kernel_rfl) (by kernel_rfl) (fun _ _ _ h => h) (Or.inl ⟨by rfl, fun w hS => ?_⟩) HS6.out ?_
  · (go_simp)
  simp only [Act.put, List.setIfInBounds_toArray, List.set_cons_zero, List.set_cons_succ]
  refine wpAnyH_done (by kernel_rfl) ?_ _
  have z0 : w6.cell? ⟨B1, 0, none⟩ = some (.int .i64 (u.st.high : Int)) := cell_of_row _ _ _ _ _ (0, 0) HZ6.out
  have z1 : w6.cell? ⟨B1, 1, none⟩ = some (.int .i64 ((u.st.free : Int) - 1)) := cell_of_row _ _ _ _ _ (0, 0) HZ6.out
  have z2 : w6.cell? ⟨B1, 2, none⟩ = some (.int .i64 (a : Int)) := cell_of_row _ _ _ _ _ (0, 0) HZ6.out
  have z3 : w6.cell? ⟨B1, 3, none⟩ = some (.int .i64 (u.st.r0 : Int)) := cell_of_row _ _ _ _ _ (0, 0) HZ6.out
  have z4 : w6.cell? ⟨B1, 4, none⟩ = some (.int .i64 (u.st.r1 : Int)) := cell_of_row _ _ _ _ _ (0, 0) HZ6.out
  have z5 : w6.cell? ⟨B1, 5, none⟩ = some (.int .i64 (u.st.r2 : Int)) := cell_of_row _ _ _ _ _ (0, 0) HZ6.out
  have z6 : w6.cell? ⟨B1, 6, none⟩ = some (.int .i64 (u.st.r3 : Int)) := cell_of_row _ _ _ _ _ (0, 0) HZ6.out
  have y1 := HX6.out.c1
  have f1 := HX6.out.fz 1
  have y2 := HX6.out.c2
  have f2 := HX6.out.fz 2
  have y3 := HX6.out.c3
  have f3 := HX6.out.fz 3
  have y4 := HX6.out.c4
  have f4 := HX6.out.fz 4
  have y5 := HX6.out.c5
  have f5 := HX6.out.fz 5
  have y6 := HX6.out.c6
  have f6 := HX6.out.fz 6
  have y7 := HX6.out.c7
  have f7 := HX6.out.fz 7
  obtain ⟨x1, x2⟩ := HX6.out.setSt (unSt u.st a)
  have e9 : st7 w6 t 1 (unSt u.st a) = ((((((w6.setCell ⟨t, 1, none⟩ (.int .i64 (u.st.high : Int))).setCell ⟨t, 2, none⟩ (.int .i64 ((u.st.free : Int) - 1))).setCell ⟨t, 3, none⟩ (.int .i64 (a : Int))).setCell ⟨t, 4, none⟩ (.int .i64 (u.st.r0 : Int))).setCell ⟨t, 5, none⟩ (.int .i64 (u.st.r1 : Int))).setCell ⟨t, 6, none⟩ (.int .i64 (u.st.r2 : Int))).setCell ⟨t, 7, none⟩ (.int .i64 (u.st.r3 : Int)) := by
    unfold st7 unSt
    simp only
    rw [show ((u.st.free - 1 : Nat) : Int) = (u.st.free : Int) - 1 by omega]
  rw [e9] at x1 x2
  have HFN : Hid (TDoes w A t bt d { u with st := unSt u.st a } 0 (.returned (.int .i64 0)) (((((((w6.setCell ⟨t, 1, none⟩ (.int .i64 (u.st.high : Int))).setCell ⟨t, 2, none⟩ (.int .i64 ((u.st.free : Int) - 1))).setCell ⟨t, 3, none⟩ (.int .i64 (a : Int))).setCell ⟨t, 4, none⟩ (.int .i64 (u.st.r0 : Int))).setCell ⟨t, 5, none⟩ (.int .i64 (u.st.r1 : Int))).setCell ⟨t, 6, none⟩ (.int .i64 (u.st.r2 : Int))).setCell ⟨t, 7, none⟩ (.int .i64 (u.st.r3 : Int)))) := ⟨rfl, x1, (Turn.of_below HB6.out).trans x2⟩
  clear x1 x2 e9 HZ6 HX6 HS6 HLB
  go_wp2
  go_ret
  exact HFN.out
end
end Go.Proofs.YtcfninpokngmlaaGreatDoor
/- Proved: what a transaction's Alloc and Abort make of it. -/
namespace Go.Proofs.YtcfninpokngmlaaGreatDoor
open Go.RowKit
def upSt (s : Pd.Stt) : Pd.Stt := { s with high := s.high + 1 }
def allocU (u : Pd.Tx) (s : Pd.Stt) (id : Nat) : Pd.Tx := { st := s, m := Pd.set (Pd.set u.m id Pd.page1) 0 s.sheet, sp := u.sp }
def ADoes (w : World) (A : Ad) (t bt : Nat) (d : Pd.Db) (u : Pd.Tx) (id : Nat) (n : Int) (e : Ending) (w' : World) : Prop := e = .returned (.tuple #[.int .i64 (id : Int), .int .i64 n]) ∧ Txw w' A t bt d u ∧ Turn (tft A t bt) (tft A t bt) w w'
section
variable (A : Ad) (t bt : Nat) (d : Pd.Db) (u : Pd.Tx) (w : World)
/- the page is there, and page 0 is told -/
theorem alloc_tail (s : Pd.Stt) (id : Nat) (hid : id ≤ 1000000) (w1 : World) (hl : u.m.length ≤ 90000) (hX : Txw w1 A t bt d { u with st := s }) (hT : Turn (tft A t bt) (tft A t bt) w w1) :
    ∃ w2, (Instr.mapUpdate 59 (.map (some bt)) (.int .i64 (id : Int)) (.agg #[.int .i64 1, .string ⟨#[]⟩])).run Tryz.prog w1 = .ok () w2 ∧ Calls Tryz.prog 64 #[.pointer (some ⟨t, 0, none⟩)] w2 (fun e w' => e = .returned (.tuple #[]) ∧ ADoes w A t bt d (allocU u s id) id 0 (.returned (.tuple #[.int .i64 (id : Int), .int .i64 0])) w') := by
  obtain ⟨w2, hrun, hM2, hg2⟩ := mp_put_run hX.mp (by show u.m.length ≤ _; omega) id (by omega) Pd.page1
  obtain ⟨hX2, hT2⟩ := hX.map hM2 hg2
  have hll := Pd.set_length_le Pd.page1 id u.m
  refine ⟨w2, hrun, (mark_any A t bt d _ w2 hX2 (by show (Pd.set u.m id Pd.page1).length ≤ _; omega)).mono ?_⟩
  rintro e w3 ⟨rfl, hX3, hT3⟩
  exact ⟨rfl, rfl, hX3, hT.trans (hT2.trans hT3)⟩
set_option maxHeartbeats 4000000 in
set_option maxRecDepth 100000 in
theorem talloc_full (H : Txw w A t bt d u) (hF : Fits d) (h0 : u.st.last = 0) (hh : d.cnt ≤ u.st.high) :
    Calls Tryz.prog 27 #[ptr t] w fun e w' => e = .returned (.tuple #[.int .i64 0, .int .i64 7]) ∧ w' = w := by
  have HRE : Hid (Calls Tryz.prog 62 #[.pointer (some ⟨t, 0, none⟩)] w fun e w' => e = .returned (.int .i64 0) ∧ w' = w) := tready_ok A t bt d u w H hF.lost
  have c0 : w.cell? ⟨t, 0, none⟩ = some (.pointer (some ⟨A.x, 0, none⟩)) := H.c0
  have c1 := H.c1
  have c3 := H.c3
  have x3 := H.db.c3
  rw [h0] at c3
  have d1 : decide ((d.cnt : Int) ≤ (u.st.high : Int)) = true := decide_eq_true (by omega)
  clear H h0
  unfold ptr
  go_enter Tryz.func27, Tryz.ntmps27
  go_wp2_with (go_at_call 62; refine HRE.out.mono ?_; rintro e w' ⟨rfl, rfl⟩)
  go_ret2
  exact ⟨rfl, rfl⟩
set_option maxHeartbeats 4000000 in
set_option maxRecDepth 100000 in
theorem talloc_high (H : Txw w A t bt d u) (hF : Fits d) (hl : u.m.length ≤ 90000) (h0 : u.st.last = 0) (hh : u.st.high < d.cnt) :
    Calls Tryz.prog 27 #[ptr t] w (ADoes w A t bt d (allocU u (upSt u.st) u.st.high) u.st.high 0) := by
  have HRE : Hid (Calls Tryz.prog 62 #[.pointer (some ⟨t, 0, none⟩)] w fun e w' => e = .returned (.int .i64 0) ∧ w' = w) := tready_ok A t bt d u w H hF.lost
  have hc := hF.cnt
  have c0 : w.cell? ⟨t, 0, none⟩ = some (.pointer (some ⟨A.x, 0, none⟩)) := H.c0
  have c1 := H.c1
  have c3 := H.c3
  have c8 := H.c8
  have f1 := H.fz 1
  have x3 := H.db.c3
  rw [h0] at c3
  obtain ⟨hX1, hT1⟩ := H.set (u' := { u with st := upSt u.st }) 1 (.int .i64 ((u.st.high + 1 : Nat) : Int)) rfl rfl
  have hadd : ((u.st.high + 1 : Nat) : Int) = (u.st.high : Int) + 1 := by omega
  rw [hadd] at hX1 hT1
  obtain ⟨w2, hrun, hmk⟩ := alloc_tail A t bt d u w (upSt u.st) u.st.high (by omega) _ hl hX1 hT1
  have HMK := (show Hid _ from hmk)
  have hwr : IntKind.i64.wrap ((u.st.high : Int) + 1) = (u.st.high : Int) + 1 := by rw [IntKind.wrap_i64]; omega
  have d1 : decide ((d.cnt : Int) ≤ (u.st.high : Int)) = false := decide_eq_false (by omega)
  clear H h0 hX1 hT1 hadd hmk
  unfold ptr
  go_enter Tryz.func27, Tryz.ntmps27
  go_wp2_with (first | (go_at_call 62; refine HRE.out.mono ?_; rintro e w' ⟨rfl, rfl⟩) | (go_at_call 64; refine (show Calls _ _ _ _ _ from HMK.out).mono ?_; rintro e w' ⟨rfl, hFN⟩))
  go_ret2
  exact hFN
set_option maxHeartbeats 4000000 in
set_option maxRecDepth 100000 in
theorem talloc_last (a : Nat) (H : Txw w A t bt d u) (hF : Fits d) (hl : u.m.length ≤ 90000) (h0 : u.st.last ≠ 0) (hlt : u.st.last < d.cnt) (hfr : 1 ≤ u.st.free) (hfr2 : u.st.free ≤ 1000) (hS : (unSt u.st a).Small d.cnt) (hx : Pd.TSees u d u.st.last (Pd.freeSheet a)) :
    Calls Tryz.prog 27 #[ptr t] w (ADoes w A t bt d (allocU u (unSt u.st a) u.st.last) u.st.last 0) := by
  have HRE : Hid (Calls Tryz.prog 62 #[.pointer (some ⟨t, 0, none⟩)] w fun e w' => e = .returned (.int .i64 0) ∧ w' = w) := tready_ok A t bt d u w H hF.lost
  have HUN : Hid (Calls Tryz.prog 63 #[.pointer (some ⟨t, 0, none⟩)] w (TDoes w A t bt d { u with st := unSt u.st a } 0)) := unlink_any A t bt d u w a H hF hlt hfr hfr2 hS hx
  have hc := hF.cnt
  have c3 := H.c3
  have hb : ((u.st.last : Int) == 0) = false := beq_false_of_ne (by omega)
  clear H hx hS
  unfold ptr
  go_enter Tryz.func27, Tryz.ntmps27
  go_wp2_with (first | (go_at_call 62; refine HRE.out.mono ?_; rintro e wS ⟨rfl, hwS⟩; rw [hwS]; clear hwS wS) | fail)
  refine HUN.out.mono ?_
  rintro e w1 ⟨rfl, hX1, hT1⟩
  obtain ⟨w2, hrun, hmk⟩ := alloc_tail A t bt d u w (unSt u.st a) u.st.last (by omega) w1 hl hX1 hT1
  have HMK := (show Hid _ from hmk)
  have c8 : w1.cell? ⟨t, 8, none⟩ = some (.map (some bt)) := hX1.c8
  clear hX1 hT1 hmk HUN c3
  go_wp2_with (first | (go_at_call 64; refine (show Calls _ _ _ _ _ from HMK.out).mono ?_; rintro e w' ⟨rfl, hFN⟩))
  go_ret2
  exact hFN
def TxEnd (w : World) (t : Nat) : Prop := w.heap[t]? = some (.cells txZ 66 (0, 0))
theorem zeroTx (w : World) : (zeroValue 66).run Tryz.prog w = .ok (.agg txZ) w := by kernel_rfl
set_option maxHeartbeats 4000000 in
set_option maxRecDepth 100000 in
theorem tabort_any (H : Txw w A t bt d u) :
    Calls Tryz.prog 28 #[ptr t] w fun e w' => e = .returned (.tuple #[]) ∧ Dbw w' A nilP d ∧ TxEnd w' t ∧ Chg (tft A t bt) w w' := by
  have HO : Hid (Calls Tryz.prog 51 #[.pointer (some ⟨t, 0, none⟩)] w fun e w' => e = .returned (.bool true) ∧ w' = w) := isopen_yes A t bt d u w H
  have c0 : w.cell? ⟨t, 0, none⟩ = some (.pointer (some ⟨A.x, 0, none⟩)) := H.c0
  have x12 := H.db.c12
  have g12 := H.db.fz 12
  obtain ⟨hD1, hT1⟩ := H.db.set (op' := nilP) (d' := d) 12 nilP rfl rfl rfl rfl
  have hr1 : (w.setCell ⟨A.x, 12, none⟩ nilP).heap[t]? = some (.cells (txA A.x bt u) 66 (0, 0)) := (hT1.chg.block t H.tlt H.ta).trans H.row
  have HD1 : Hid (Dbw (w.setCell ⟨A.x, 12, none⟩ (.pointer none)) A nilP d) := hD1
  have HR1 : Hid ((w.setCell ⟨A.x, 12, none⟩ (.pointer none)).heap[t]? = some (.cells (txA A.x bt u) 66 (0, 0))) := hr1
  have HC1 : Hid (Chg (tft A t bt) w (w.setCell ⟨A.x, 12, none⟩ (.pointer none))) := hT1.chg.mono (fun k hk => tft_a hk)
  have HTA : Hid (t ∉ A.ft ∧ t ≠ 0) := ⟨H.ta, H.z.1⟩
  have hz := zeroTx
  unfold txZ at hz
  have c1 := H.c1
  have c2 := H.c2
  have c3 := H.c3
  have c4 := H.c4
  have c5 := H.c5
  have c6 := H.c6
  have c7 := H.c7
  have c8 := H.c8
  have c9 := H.c9
  have f0 := H.fz 0
  have f1 := H.fz 1
  have f2 := H.fz 2
  have f3 := H.fz 3
  have f4 := H.fz 4
  have f5 := H.fz 5
  have f6 := H.fz 6
  have f7 := H.fz 7
  have f8 := H.fz 8
  have f9 := H.fz 9
  have hne : A.x ≠ t := fun e => H.ta (by rw [← e]; exact A.mx)
  have hne2 : t ≠ A.x := fun e => hne e.symm
  clear H hD1 hT1 hr1
  unfold ptr
  go_enter Tryz.func28, Tryz.ntmps28
  go_wp2_with (go_at_call 51; refine HO.out.mono ?_; rintro e wS ⟨rfl, hwS⟩; rw [hwS]; clear hwS wS)
  go_end0
  have hc : Chg [t] (w.setCell ⟨A.x, 12, none⟩ (.pointer none)) ((w.setCell ⟨A.x, 12, none⟩ (.pointer none)).setCells t 0 [.pointer none, .int .i64 0, .int .i64 0, .int .i64 0, .int .i64 0, .int .i64 0, .int .i64 0, .int .i64 0, .map none, .bool false]) := Chg.setCells t _ _ _
  refine ⟨rfl, HD1.out.keep hc (fun k hk e => HTA.out.1 (by rw [← List.mem_singleton.1 e]; exact hk)) (fun e => HTA.out.2 (List.mem_singleton.1 e).symm), ?_, HC1.out.trans (hc.mono (fun k hk => by rw [List.mem_singleton.1 hk]; exact tft_t))⟩
  have hr := HR1.out
  have e : txA A.x bt u = [ptr A.x, .int .i64 (u.st.high : Int), .int .i64 (u.st.free : Int), .int .i64 (u.st.last : Int), .int .i64 (u.st.r0 : Int), .int .i64 (u.st.r1 : Int), .int .i64 (u.st.r2 : Int), .int .i64 (u.st.r3 : Int), .map (some bt), .bool u.sp].toArray := rfl
  rw [e] at hr
  have h2 := setCells_splice t 66 [.pointer none, .int .i64 0, .int .i64 0, .int .i64 0, .int .i64 0, .int .i64 0, .int .i64 0, .int .i64 0, .map none, .bool false] 0 _ _ hr (by simp)
  exact h2
end
end Go.Proofs.YtcfninpokngmlaaGreatDoor
