/- Proved: what a transaction sees of a page: look, there and Read. -/
import Derived.Test.YtcfninpokngmlaaGreatDoorDTx
namespace Pd
def TSees (u : Tx) (d : Db) (id : Nat) (x : Sheet) : Prop := get u.m id = some x ∨ (get u.m id = none ∧ Sees d id x)
end Pd
namespace Go.Proofs.YtcfninpokngmlaaGreatDoor
open Go.RowKit
def thereR (hi : Nat) (id : Int) (x : Pd.Sheet) : Pd.Sheet × Int := if id < 1 ∨ (hi : Int) ≤ id then (sh00, 2) else if x.kind = 255 then (sh00, 8) else (x, 0)
/- pages below the count lie on the disk -/
structure Fits (d : Pd.Db) : Prop where
  down : d.s.down = false
  len : d.n + 8 * d.cnt ≤ d.s.kept.length
  cnt : d.cnt ≤ 1000
  n : d.n ≤ 65536
  lost : d.lost = false
section
variable (A : Ad) (t bt : Nat) (d : Pd.Db) (u : Pd.Tx) (w : World)
set_option maxHeartbeats 4000000 in
set_option maxRecDepth 100000 in
theorem tlook_any (id : Nat) (x : Pd.Sheet) (H : Txw w A t bt d u) (hF : Fits d) (hi : id < d.cnt) (hx : Pd.TSees u d id x) :
    Calls Tryz.prog 85 #[ptr t, .int .i64 (id : Int)] w fun e w' => e = .returned (.tuple #[shV x, .int .i64 0]) ∧ Below w.heap.size w w' := by
  have HH : Hid (Txw w A t bt d u) := H
  have hz := zeroSh
  unfold shV sh00 Pd.none0 at hz
  have HR0 : Hid ((w.alloc (.cells #[.int .i64 0, .string ⟨#[]⟩] 102)).heap[w.heap.size]? = some (.cells #[.int .i64 0, .string ⟨#[]⟩] 102 (0, 0))) := heap_alloc_new w _
  have HB0 : Hid (Below w.heap.size w (w.alloc (.cells #[.int .i64 0, .string ⟨#[]⟩] 102))) := (Below.refl _ _).alloc (Nat.le_refl _) _
  have HD0 : Hid (Txw (w.alloc (.cells #[.int .i64 0, .string ⟨#[]⟩] 102)) A t bt d u) := H.alloc _
  have c8 : (w.alloc (.cells #[.int .i64 0, .string ⟨#[]⟩] 102)).cell? ⟨t, 8, none⟩ = some (.map (some bt)) := HD0.out.c8
  have c8w : w.cell? ⟨t, 8, none⟩ = some (.map (some bt)) := H.c8
  have c0w : w.cell? ⟨t, 0, none⟩ = some (.pointer (some ⟨A.x, 0, none⟩)) := H.c0
  have htl := H.tlt
  have hc := hF.cnt
  rw [shv_eq]
  rcases hx with hm | ⟨hm, hs⟩
  · have HG : Hid ((Pd.get u.m id) = some x) := hm
    clear H hm
    unfold ptr
    go_enter Tryz.func85, Tryz.ntmps85
    go_wp2_with (at_lookup; refine mp_look_ok _ rfl _ _ rfl bt u.m rfl HD0.out.mp id (by omega) rfl ?_; rw [HG.out]; simp only [Option.getD_some, Option.isSome_some, shv_eq])
    refine bodyPost_ret (results_she Tryz.results85 _ _ w.heap.size 102 _ _ _ rfl rfl ((heap_alloc_old _ _ (by simp)).trans (heap_alloc_new w _))) rfl ⟨rfl, ((Below.refl _ _).alloc (Nat.le_refl _) _).alloc (by simp) _⟩
  · have HG : Hid ((Pd.get u.m id) = none) := hm
    have HDL : Hid (∀ U, Dbw U A (ptr t) d → Calls Tryz.prog 119 #[.pointer (some ⟨A.x, 0, none⟩), .int .i64 (id : Int)] U fun e w' => e = .returned (.tuple #[.agg #[.int .i64 (x.kind : Int), .string x.body], .int .i64 0]) ∧ Below U.heap.size U w') := fun U hU => dlook_any A (ptr t) d id x U hU hF.down (by have := hF.len; omega) (by omega) hs
    clear H hm hs
    unfold ptr
    go_enter Tryz.func85, Tryz.ntmps85
    go_wp2_with (at_lookup; refine mp_look_ok _ rfl _ _ rfl bt u.m rfl HD0.out.mp id (by omega) rfl ?_; rw [HG.out]; simp only [Option.getD_none, Option.isSome_none, shv_eq, sh00, Pd.none0])
    have HR1 : Hid (((w.alloc (.cells #[.int .i64 0, .string ⟨#[]⟩] 102)).alloc (.cells #[.int .i64 0, .string ⟨#[]⟩] 102)).heap[w.heap.size]? = some (.cells #[.int .i64 0, .string ⟨#[]⟩] 102 (0, 0))) := (heap_alloc_old _ _ (by simp)).trans HR0.out
    have HB1 : Hid (Below w.heap.size w ((w.alloc (.cells #[.int .i64 0, .string ⟨#[]⟩] 102)).alloc (.cells #[.int .i64 0, .string ⟨#[]⟩] 102))) := HB0.out.alloc HB0.out.size _
    have HD1 : Hid (Txw ((w.alloc (.cells #[.int .i64 0, .string ⟨#[]⟩] 102)).alloc (.cells #[.int .i64 0, .string ⟨#[]⟩] 102)) A t bt d u) := HD0.out.alloc _
    generalize hw1 : World.alloc (World.alloc w _) _ = w1 at *
    clear hw1 HR0 HB0 HD0 c8 c8w c0w
    refine (HDL.out w1 HD1.out.db).mono ?_
    rintro e w2 ⟨rfl, hB2⟩
    have HR2 : Hid (w2.heap[w.heap.size]? = some (.cells #[.int .i64 0, .string ⟨#[]⟩] 102 (0, 0))) := heap_next HR1.out hB2
    have HB2 : Hid (Below w.heap.size w w2) := below_next HB1.out hB2 HB1.out.size
    clear hB2 HDL HR1 HB1 HD1
    have f0 := frozen_of_row w2 w.heap.size 0 _ _ HR2.out
    have f1 := frozen_of_row w2 w.heap.size 1 _ _ HR2.out
    have c0 : w2.cell? ⟨w.heap.size, 0, none⟩ = some (.int .i64 0) := cell_of_row _ _ _ _ _ (0, 0) HR2.out
    have c1 : w2.cell? ⟨w.heap.size, 1, none⟩ = some (.string ⟨#[]⟩) := cell_of_row _ _ _ _ _ (0, 0) HR2.out
    go_wp2
    exact bodyPost_ret (results_she Tryz.results85 _ _ w.heap.size 102 _ _ _ rfl rfl (row2 HR2.out _ _)) rfl ⟨rfl, (HB2.out.setCell (by simp) _).setCell (by simp) _⟩
set_option maxHeartbeats 4000000 in
set_option maxRecDepth 100000 in
theorem there_any (id : Int) (x : Pd.Sheet) (H : Txw w A t bt d u) (hF : Fits d) (hh : u.st.high ≤ d.cnt) (hx : ∀ i : Nat, id = (i : Int) → 1 ≤ i → i < u.st.high → Pd.TSees u d i x) :
    Calls Tryz.prog 61 #[ptr t, .int .i64 id] w fun e w' => e = .returned (.tuple #[shV (thereR u.st.high id x).1, .int .i64 (thereR u.st.high id x).2]) ∧ Below w.heap.size w w' := by
  have HRE : Hid (∀ U, Txw U A t bt d u → Calls Tryz.prog 62 #[.pointer (some ⟨t, 0, none⟩)] U fun e w' => e = .returned (.int .i64 0) ∧ w' = U) := fun U hU => tready_ok A t bt d u U hU hF.lost
  have hz := zeroSh
  unfold shV sh00 Pd.none0 at hz
  have HR0 : Hid ((w.alloc (.cells #[.int .i64 0, .string ⟨#[]⟩] 102)).heap[w.heap.size]? = some (.cells #[.int .i64 0, .string ⟨#[]⟩] 102 (0, 0))) := heap_alloc_new w _
  have HB0 : Hid (Below w.heap.size w (w.alloc (.cells #[.int .i64 0, .string ⟨#[]⟩] 102))) := (Below.refl _ _).alloc (Nat.le_refl _) _
  have HD0 : Hid (Txw (w.alloc (.cells #[.int .i64 0, .string ⟨#[]⟩] 102)) A t bt d u) := H.alloc _
  have c1 : (w.alloc (.cells #[.int .i64 0, .string ⟨#[]⟩] 102)).cell? ⟨t, 1, none⟩ = some (.int .i64 (u.st.high : Int)) := HD0.out.c1
  have c1w : w.cell? ⟨t, 1, none⟩ = some (.int .i64 (u.st.high : Int)) := H.c1
  have htl := H.tlt
  by_cases h1 : id < 1
  · have e : thereR u.st.high id x = (sh00, 2) := by unfold thereR; rw [if_pos (.inl h1)]
    rw [e]
    have d1 : decide (id < 1) = true := decide_eq_true h1
    show Calls Tryz.prog _ _ _ fun e w' => e = .returned (.tuple #[.agg #[.int .i64 0, .string ⟨#[]⟩], .int .i64 2]) ∧ Below w.heap.size w w'
    clear H hx e
    unfold ptr
    go_enter Tryz.func61, Tryz.ntmps61
    go_wp2_with (go_at_call 62; refine (HRE.out _ HD0.out).mono ?_; rintro e wS ⟨rfl, hwS⟩; rw [hwS]; clear hwS wS)
    refine bodyPost_ret (results_she Tryz.results61 _ _ w.heap.size 102 _ _ _ rfl rfl HR0.out) rfl ⟨rfl, HB0.out⟩
  · have d1 : decide (id < 1) = false := decide_eq_false h1
    by_cases h2 : (u.st.high : Int) ≤ id
    · have e : thereR u.st.high id x = (sh00, 2) := by unfold thereR; rw [if_pos (.inr h2)]
      rw [e]
      have d2 : decide ((u.st.high : Int) ≤ id) = true := decide_eq_true h2
      show Calls Tryz.prog _ _ _ fun e w' => e = .returned (.tuple #[.agg #[.int .i64 0, .string ⟨#[]⟩], .int .i64 2]) ∧ Below w.heap.size w w'
      clear H hx e
      unfold ptr
      go_enter Tryz.func61, Tryz.ntmps61
      go_wp2_with (go_at_call 62; refine (HRE.out _ HD0.out).mono ?_; rintro e wS ⟨rfl, hwS⟩; rw [hwS]; clear hwS wS)
      refine bodyPost_ret (results_she Tryz.results61 _ _ w.heap.size 102 _ _ _ rfl rfl HR0.out) rfl ⟨rfl, HB0.out⟩
    · have d2 : decide ((u.st.high : Int) ≤ id) = false := decide_eq_false h2
      obtain ⟨i, rfl⟩ := Int.eq_ofNat_of_zero_le (show 0 ≤ id by omega)
      have HLK : Hid (∀ U, Txw U A t bt d u → Calls Tryz.prog 85 #[.pointer (some ⟨t, 0, none⟩), .int .i64 (i : Int)] U fun e w' => e = .returned (.tuple #[.agg #[.int .i64 (x.kind : Int), .string x.body], .int .i64 0]) ∧ Below U.heap.size U w') := fun U hU => tlook_any A t bt d u U i x hU hF (by omega) (hx i rfl (by omega) (by omega))
      have e0 : thereR u.st.high (i : Int) x = if x.kind = 255 then (sh00, 8) else (x, 0) := by
        unfold thereR
        rw [if_neg (by omega)]
      rw [e0]
      clear H hx e0
      by_cases hk : x.kind = 255
      · rw [if_pos hk]
        show Calls Tryz.prog _ _ _ fun e w' => e = .returned (.tuple #[.agg #[.int .i64 0, .string ⟨#[]⟩], .int .i64 8]) ∧ Below w.heap.size w w'
        rw [hk] at HLK
        unfold ptr
        go_enter Tryz.func61, Tryz.ntmps61
        go_wp2_with (go_at_call 62; refine (HRE.out _ HD0.out).mono ?_; rintro e wS ⟨rfl, hwS⟩; rw [hwS]; clear hwS wS)
        generalize hw0 : World.alloc w _ = w0 at *
        clear hw0
        refine (HLK.out _ HD0.out).mono ?_
        rintro e w1 ⟨rfl, hB1⟩
        have HR1 : Hid (w1.heap[w.heap.size]? = some (.cells #[.int .i64 0, .string ⟨#[]⟩] 102 (0, 0))) := heap_next HR0.out hB1
        have HB1 : Hid (Below w.heap.size w w1) := below_next HB0.out hB1 HB0.out.size
        have hl1 : w.heap.size < w1.heap.size := (Array.getElem?_eq_some_iff.1 HR1.out).1
        clear hB1 HLK HRE HR0 HB0 HD0 c1 c1w
        have f0 := frozen_of_row w1 w.heap.size 0 _ _ HR1.out
        have f1 := frozen_of_row w1 w.heap.size 1 _ _ HR1.out
        have c0 : w1.cell? ⟨w.heap.size, 0, none⟩ = some (.int .i64 0) := cell_of_row _ _ _ _ _ (0, 0) HR1.out
        have c1 : w1.cell? ⟨w.heap.size, 1, none⟩ = some (.string ⟨#[]⟩) := cell_of_row _ _ _ _ _ (0, 0) HR1.out
        go_wp2
        refine bodyPost_ret (results_she Tryz.results61 _ _ w.heap.size 102 _ _ _ rfl rfl ((heap_alloc_old _ _ (by simp [World.setCell]; omega)).trans (row2 HR1.out _ _))) rfl ⟨rfl, ((HB1.out.setCell (by simp) _).setCell (by simp) _).alloc (by simp [World.setCell]; omega) _⟩
      · rw [if_neg hk]
        show Calls Tryz.prog _ _ _ fun e w' => e = .returned (.tuple #[.agg #[.int .i64 (x.kind : Int), .string x.body], .int .i64 0]) ∧ Below w.heap.size w w'
        have hkb : ((x.kind : Int) == 255) = false := beq_false_of_ne (by omega)
        clear hk
        unfold ptr
        go_enter Tryz.func61, Tryz.ntmps61
        go_wp2_with (go_at_call 62; refine (HRE.out _ HD0.out).mono ?_; rintro e wS ⟨rfl, hwS⟩; rw [hwS]; clear hwS wS)
        generalize hw0 : World.alloc w _ = w0 at *
        clear hw0
        refine (HLK.out _ HD0.out).mono ?_
        rintro e w1 ⟨rfl, hB1⟩
        have HR1 : Hid (w1.heap[w.heap.size]? = some (.cells #[.int .i64 0, .string ⟨#[]⟩] 102 (0, 0))) := heap_next HR0.out hB1
        have HB1 : Hid (Below w.heap.size w w1) := below_next HB0.out hB1 HB0.out.size
        have hl1 : w.heap.size < w1.heap.size := (Array.getElem?_eq_some_iff.1 HR1.out).1
        clear hB1 HLK HRE HR0 HB0 HD0 c1 c1w
        have f0 := frozen_of_row w1 w.heap.size 0 _ _ HR1.out
        have f1 := frozen_of_row w1 w.heap.size 1 _ _ HR1.out
        have c0 : w1.cell? ⟨w.heap.size, 0, none⟩ = some (.int .i64 0) := cell_of_row _ _ _ _ _ (0, 0) HR1.out
        have c1 : w1.cell? ⟨w.heap.size, 1, none⟩ = some (.string ⟨#[]⟩) := cell_of_row _ _ _ _ _ (0, 0) HR1.out
        go_wp2
        refine bodyPost_ret (results_she Tryz.results61 _ _ w.heap.size 102 _ _ _ rfl rfl ((heap_alloc_old _ _ (by simp [World.setCell]; omega)).trans (row2 HR1.out _ _))) rfl ⟨rfl, ((HB1.out.setCell (by simp) _).setCell (by simp) _).alloc (by simp [World.setCell]; omega) _⟩
end
end Go.Proofs.YtcfninpokngmlaaGreatDoor
