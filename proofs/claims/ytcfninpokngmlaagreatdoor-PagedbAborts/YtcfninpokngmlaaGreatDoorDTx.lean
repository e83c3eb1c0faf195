/- Proved: a transaction in memory beside its database; what its small calls answer. -/
import Derived.Test.YtcfninpokngmlaaGreatDoorDOpn
import Derived.LaidEqlPtr
namespace Pd
structure Tx where
  st : Stt
  m : Mp
  sp : Bool
end Pd
namespace Go.Proofs.YtcfninpokngmlaaGreatDoor
open Go.RowKit
def txA (x bt : Nat) (u : Pd.Tx) : Array Value := #[ptr x, .int .i64 (u.st.high : Int), .int .i64 (u.st.free : Int), .int .i64 (u.st.last : Int), .int .i64 (u.st.r0 : Int), .int .i64 (u.st.r1 : Int), .int .i64 (u.st.r2 : Int), .int .i64 (u.st.r3 : Int), .map (some bt), .bool u.sp]
def txZ : Array Value := #[.pointer none, .int .i64 0, .int .i64 0, .int .i64 0, .int .i64 0, .int .i64 0, .int .i64 0, .int .i64 0, .map none, .bool false]
def tft (A : Ad) (t bt : Nat) : List Nat := t :: bt :: A.ft
structure Txw (w : World) (A : Ad) (t bt : Nat) (d : Pd.Db) (u : Pd.Tx) : Prop where
  db : Dbw w A (ptr t) d
  row : w.heap[t]? = some (.cells (txA A.x bt u) 66 (0, 0))
  mp : MpAt w bt u.m
  ta : t ∉ A.ft
  ba : bt ∉ A.ft
  tb : t ≠ bt
  z : t ≠ 0 ∧ bt ≠ 0
section
variable {w w' : World} {A : Ad} {t bt : Nat} {d : Pd.Db} {u : Pd.Tx}
theorem Txw.cell (H : Txw w A t bt d u) (i : Nat) : w.cell? ⟨t, i, none⟩ = (txA A.x bt u)[i]? := cell_of_row w t i _ _ (0, 0) H.row
theorem Txw.c0 (H : Txw w A t bt d u) : w.cell? ⟨t, 0, none⟩ = some (ptr A.x) := by rw [H.cell]; rfl
theorem Txw.c1 (H : Txw w A t bt d u) : w.cell? ⟨t, 1, none⟩ = some (.int .i64 (u.st.high : Int)) := by rw [H.cell]; rfl
theorem Txw.c2 (H : Txw w A t bt d u) : w.cell? ⟨t, 2, none⟩ = some (.int .i64 (u.st.free : Int)) := by rw [H.cell]; rfl
theorem Txw.c3 (H : Txw w A t bt d u) : w.cell? ⟨t, 3, none⟩ = some (.int .i64 (u.st.last : Int)) := by rw [H.cell]; rfl
theorem Txw.c4 (H : Txw w A t bt d u) : w.cell? ⟨t, 4, none⟩ = some (.int .i64 (u.st.r0 : Int)) := by rw [H.cell]; rfl
theorem Txw.c5 (H : Txw w A t bt d u) : w.cell? ⟨t, 5, none⟩ = some (.int .i64 (u.st.r1 : Int)) := by rw [H.cell]; rfl
theorem Txw.c6 (H : Txw w A t bt d u) : w.cell? ⟨t, 6, none⟩ = some (.int .i64 (u.st.r2 : Int)) := by rw [H.cell]; rfl
theorem Txw.c7 (H : Txw w A t bt d u) : w.cell? ⟨t, 7, none⟩ = some (.int .i64 (u.st.r3 : Int)) := by rw [H.cell]; rfl
theorem Txw.c8 (H : Txw w A t bt d u) : w.cell? ⟨t, 8, none⟩ = some (.map (some bt)) := by rw [H.cell]; rfl
theorem Txw.c9 (H : Txw w A t bt d u) : w.cell? ⟨t, 9, none⟩ = some (.bool u.sp) := by rw [H.cell]; rfl
theorem Txw.fz (H : Txw w A t bt d u) (i : Nat) : w.frozen? ⟨t, i, none⟩ = false := frozen_of_row w t i _ _ H.row
theorem Txw.tlt (H : Txw w A t bt d u) : t < w.heap.size := (Array.getElem?_eq_some_iff.1 H.row).1
theorem Txw.lt (H : Txw w A t bt d u) : ∀ k ∈ tft A t bt, k < w.heap.size := fun k hk => by
  rcases List.mem_cons.1 hk with rfl | hk
  · exact H.tlt
  · rcases List.mem_cons.1 hk with rfl | hk
    · exact H.mp.lt
    · exact H.db.lt k hk
theorem tft_a {k : Nat} (h : k ∈ A.ft) : k ∈ tft A t bt := List.mem_cons_of_mem _ (List.mem_cons_of_mem _ h)
theorem tft_t : t ∈ tft A t bt := List.mem_cons_self
theorem tft_b : bt ∈ tft A t bt := List.mem_cons_of_mem _ List.mem_cons_self
theorem Txw.keep (H : Txw w A t bt d u) {fs : List Nat} (hc : Chg fs w w') (ha : ∀ k ∈ tft A t bt, k ∉ fs) (h0 : 0 ∉ fs) : Txw w' A t bt d u :=
  ⟨H.db.keep hc (fun k hk => ha k (tft_a hk)) h0, (hc.block t H.tlt (ha _ tft_t)).trans H.row, H.mp.chg hc (ha _ tft_b), H.ta, H.ba, H.tb, H.z⟩
theorem Txw.below (H : Txw w A t bt d u) (hB : Below w.heap.size w w') : Txw w' A t bt d u := H.keep (fs := []) (Chg.of_below hB) (by simp) (by simp)
theorem Txw.alloc (H : Txw w A t bt d u) (o : Obj) : Txw (w.alloc o) A t bt d u := H.keep (Chg.alloc [] w o) (by simp) (by simp)
theorem Txw.drew (H : Txw w A t bt d u) : Txw w.drew A t bt d u := H.keep (fs := []) ⟨rfl, rfl, rfl, Nat.le_refl _, fun _ _ _ => rfl⟩ (by simp) (by simp)
theorem Txw.drewN (H : Txw w A t bt d u) (n : Nat) : Txw (w.drewN n) A t bt d u := H.keep (fs := []) ⟨rfl, rfl, rfl, Nat.le_refl _, fun _ _ _ => rfl⟩ (by simp) (by simp)
/- its own cells are written -/
theorem Txw.cells (H : Txw w A t bt d u) {u' : Pd.Tx} (hc : Chg [t] w w') (hr : w'.heap[t]? = some (.cells (txA A.x bt u') 66 (0, 0))) (hm : u'.m = u.m) : Txw w' A t bt d u' ∧ Turn (tft A t bt) (tft A t bt) w w' := by
  refine ⟨⟨H.db.keep hc (fun k hk e => H.ta (by rw [← List.mem_singleton.1 e]; exact hk)) (fun e => H.z.1 (List.mem_singleton.1 e).symm), hr, ?_, H.ta, H.ba, H.tb, H.z⟩, ⟨hc.mono (fun k hk => by rw [List.mem_singleton.1 hk]; exact tft_t), fun k hk => .inl hk⟩⟩
  rw [hm]
  exact H.mp.chg hc (fun e => H.tb (List.mem_singleton.1 e).symm)
theorem Txw.set (H : Txw w A t bt d u) {u' : Pd.Tx} (i : Nat) (v : Value) (e : (txA A.x bt u).setIfInBounds i v = txA A.x bt u') (hm : u'.m = u.m) : Txw (w.setCell ⟨t, i, none⟩ v) A t bt d u' ∧ Turn (tft A t bt) (tft A t bt) w (w.setCell ⟨t, i, none⟩ v) :=
  H.cells (Chg.setCell w t i v) (by rw [heap_setCell_same w t i _ _ _ H.row, e]) hm
theorem Txw.setSt (H : Txw w A t bt d u) (s : Pd.Stt) : Txw (st7 w t 1 s) A t bt d { u with st := s } ∧ Turn (tft A t bt) (tft A t bt) w (st7 w t 1 s) := by
  refine H.cells ?_ ?_ rfl
  · rw [st7_cells]
    exact Chg.setCells t _ _ w
  · rw [st7_cells]
    have hr := H.row
    have e : txA A.x bt u = [ptr A.x, .int .i64 (u.st.high : Int), .int .i64 (u.st.free : Int), .int .i64 (u.st.last : Int), .int .i64 (u.st.r0 : Int), .int .i64 (u.st.r1 : Int), .int .i64 (u.st.r2 : Int), .int .i64 (u.st.r3 : Int), .map (some bt), .bool u.sp].toArray := rfl
    rw [e] at hr
    rw [setCells_splice t 66 _ 1 _ w hr (by simp)]
    rfl
/- its map turns -/
theorem Txw.map (H : Txw w A t bt d u) {m : Pd.Mp} (hM : MpAt w' bt m) (hg : w.grownBy w' (some bt)) : Txw w' A t bt d { u with m := m } ∧ Turn (tft A t bt) (tft A t bt) w w' := by
  have hc : Chg [bt] w w' := (Chg.grown hg).mono (fun k hk => by simpa using hk)
  exact ⟨⟨H.db.keep hc (fun k hk e => H.ba (by rw [← List.mem_singleton.1 e]; exact hk)) (fun e => H.z.2 (List.mem_singleton.1 e).symm), (hc.block t H.tlt (fun e => H.tb (List.mem_singleton.1 e))).trans H.row, hM, H.ta, H.ba, H.tb, H.z⟩, ⟨hc.mono (fun k hk => by rw [List.mem_singleton.1 hk]; exact tft_b), fun k hk => .inl hk⟩⟩
end
theorem infoTx : Tryz.prog.info? 66 = some Tryz.t66 := by kernel_rfl
theorem eqTx (t : Nat) (W : World) : (binOp .eql 31 (.pointer (some ⟨t, 0, none⟩)) (.pointer (some ⟨t, 0, none⟩))).run Tryz.prog W = .ok (.bool true) W := run_eql_ptr_same W ⟨t, 0, none⟩ Tryz.underlying31 infoTx
section
variable (A : Ad) (t bt : Nat) (d : Pd.Db) (u : Pd.Tx) (w : World)
theorem isopen_yes (H : Txw w A t bt d u) : Calls Tryz.prog 51 #[ptr t] w fun e w' => e = .returned (.bool true) ∧ w' = w := by
  have c0 := H.c0
  have c12 := H.db.c12
  have heq := eqTx t
  clear H
  unfold ptr at *
  go_enter Tryz.func51, Tryz.ntmps51
  go_wp2
  go_ret
  exact ⟨by first | rfl | simp, rfl⟩
theorem isopen_nil : Calls Tryz.prog 51 #[nilP] w fun e w' => e = .returned (.bool false) ∧ w' = w := by
  unfold nilP
  go_enter Tryz.func51, Tryz.ntmps51
  go_wp2
  go_ret
  exact ⟨rfl, rfl⟩
theorem isopen_end (hr : w.cell? ⟨t, 0, none⟩ = some (.pointer none)) : Calls Tryz.prog 51 #[ptr t] w fun e w' => e = .returned (.bool false) ∧ w' = w := by
  unfold ptr
  go_enter Tryz.func51, Tryz.ntmps51
  go_wp2
  go_ret
  exact ⟨rfl, rfl⟩
theorem tready_ok (H : Txw w A t bt d u) (hl : d.lost = false) : Calls Tryz.prog 62 #[ptr t] w fun e w' => e = .returned (.int .i64 0) ∧ w' = w := by
  have HO := isopen_yes A t bt d u w H
  have c0 := H.c0
  have c13 := H.db.c13
  rw [hl] at c13
  clear H
  unfold ptr at *
  go_enter Tryz.func62, Tryz.ntmps62
  go_wp2_with (go_at_call 51; refine HO.mono ?_; rintro e w' ⟨rfl, rfl⟩)
  go_ret
  exact ⟨rfl, rfl⟩
/- a transaction that is none, or has ended -/
def Shut (w : World) (v : Value) : Prop := v = nilP ∨ ∃ t, v = ptr t ∧ w.cell? ⟨t, 0, none⟩ = some (.pointer none)
theorem isopen_no (v : Value) (h : Shut w v) : Calls Tryz.prog 51 #[v] w fun e w' => e = .returned (.bool false) ∧ w' = w := by
  rcases h with rfl | ⟨t, rfl, hr⟩
  · exact isopen_nil w
  · exact isopen_end t w hr
theorem tready_no (v : Value) (h : Shut w v) : Calls Tryz.prog 62 #[v] w fun e w' => e = .returned (.int .i64 1) ∧ w' = w := by
  have HO := isopen_no w v h
  clear h
  go_enter Tryz.func62, Tryz.ntmps62
  go_wp2_with (go_at_call 51; refine HO.mono ?_; rintro e w' ⟨rfl, rfl⟩)
  go_ret
  exact ⟨rfl, rfl⟩
theorem changed_any (H : Txw w A t bt d u) : Calls Tryz.prog 14 #[ptr t] w fun e w' => e = .returned (.int .i64 (u.m.length : Int)) ∧ w' = w := by
  have HO := isopen_yes A t bt d u w H
  have c8 := H.c8
  have HM : Hid (MpAt w bt u.m) := H.mp
  clear H
  unfold ptr at *
  go_enter Tryz.func14, Tryz.ntmps14
  go_wp2_with (first | (go_at_call 51; refine HO.mono ?_; rintro e w' ⟨rfl, rfl⟩) | (at_len; refine mp_len _ rfl _ rfl bt u.m rfl HM.out ?_))
  go_ret
  exact ⟨rfl, rfl⟩
theorem changed_no (v : Value) (h : Shut w v) : Calls Tryz.prog 14 #[v] w fun e w' => e = .returned (.int .i64 0) ∧ w' = w := by
  have HO := isopen_no w v h
  clear h
  go_enter Tryz.func14, Tryz.ntmps14
  go_wp2_with (go_at_call 51; refine HO.mono ?_; rintro e w' ⟨rfl, rfl⟩)
  go_ret
  exact ⟨rfl, rfl⟩
theorem root_no (v : Value) (i : Int) (h : Shut w v) : Calls Tryz.prog 16 #[v, .int .i64 i] w fun e w' => e = .returned (.int .i64 0) ∧ w' = w := by
  have HO := isopen_no w v h
  clear h
  go_enter Tryz.func16, Tryz.ntmps16
  go_wp2_with (go_at_call 51; refine HO.mono ?_; rintro e w' ⟨rfl, rfl⟩)
  go_ret
  exact ⟨rfl, rfl⟩
def rootV (s : Pd.Stt) (i : Int) : Nat := if i = 0 then s.r0 else if i = 1 then s.r1 else if i = 2 then s.r2 else if i = 3 then s.r3 else 0
theorem root_any (i : Int) (H : Txw w A t bt d u) : Calls Tryz.prog 16 #[ptr t, .int .i64 i] w fun e w' => e = .returned (.int .i64 (rootV u.st i : Int)) ∧ w' = w := by
  have HO := isopen_yes A t bt d u w H
  have HR := isroot_any i w
  have c4 := H.c4
  have c5 := H.c5
  have c6 := H.c6
  have c7 := H.c7
  clear H
  unfold ptr at *
  by_cases h : isR i = true
  · rw [h] at HR
    have hi : i = 0 ∨ i = 1 ∨ i = 2 ∨ i = 3 := by
      unfold isR at h
      simp at h
      omega
    clear h
    rcases hi with rfl | rfl | rfl | rfl
    · go_enter Tryz.func16, Tryz.ntmps16
      go_wp2_with (first | (go_at_call 51; refine HO.mono ?_; rintro e w' ⟨rfl, rfl⟩) | (go_at_call 52; refine HR.mono ?_; rintro e w' ⟨rfl, rfl⟩))
      go_ret
      exact ⟨rfl, rfl⟩
    · go_enter Tryz.func16, Tryz.ntmps16
      go_wp2_with (first | (go_at_call 51; refine HO.mono ?_; rintro e w' ⟨rfl, rfl⟩) | (go_at_call 52; refine HR.mono ?_; rintro e w' ⟨rfl, rfl⟩))
      go_ret
      exact ⟨rfl, rfl⟩
    · go_enter Tryz.func16, Tryz.ntmps16
      go_wp2_with (first | (go_at_call 51; refine HO.mono ?_; rintro e w' ⟨rfl, rfl⟩) | (go_at_call 52; refine HR.mono ?_; rintro e w' ⟨rfl, rfl⟩))
      go_ret
      exact ⟨rfl, rfl⟩
    · go_enter Tryz.func16, Tryz.ntmps16
      go_wp2_with (first | (go_at_call 51; refine HO.mono ?_; rintro e w' ⟨rfl, rfl⟩) | (go_at_call 52; refine HR.mono ?_; rintro e w' ⟨rfl, rfl⟩))
      go_ret
      exact ⟨rfl, rfl⟩
  · have h' : isR i = false := by simpa using h
    rw [h'] at HR
    have HE : Hid (rootV u.st i = 0) := by
      unfold isR at h'
      unfold rootV
      show _ = 0
      simp at h'
      rw [if_neg (by omega), if_neg (by omega), if_neg (by omega), if_neg (by omega)]
    clear h h'
    go_enter Tryz.func16, Tryz.ntmps16
    go_wp2_with (first | (go_at_call 51; refine HO.mono ?_; rintro e w' ⟨rfl, rfl⟩) | (go_at_call 52; refine HR.mono ?_; rintro e w' ⟨rfl, rfl⟩))
    go_ret
    exact ⟨by rw [HE.out]; rfl, rfl⟩
theorem spoil_any (H : Txw w A t bt d u) : Calls Tryz.prog 29 #[ptr t] w fun e w' => e = .returned (.tuple #[]) ∧ Txw w' A t bt d { u with sp := true } ∧ Turn (tft A t bt) (tft A t bt) w w' := by
  have HO := isopen_yes A t bt d u w H
  have c9 := H.c9
  have f9 := H.fz 9
  have HS : Hid (Txw (w.setCell ⟨t, 9, none⟩ (.bool true)) A t bt d { u with sp := true } ∧ Turn (tft A t bt) (tft A t bt) w (w.setCell ⟨t, 9, none⟩ (.bool true))) := H.set 9 (.bool true) rfl rfl
  clear H
  unfold ptr at *
  go_enter Tryz.func29, Tryz.ntmps29
  go_wp2_with (go_at_call 51; refine HO.mono ?_; rintro e w' ⟨rfl, rfl⟩)
  go_end0
  exact ⟨rfl, HS.out⟩
theorem spoil_no (v : Value) (h : Shut w v) : Calls Tryz.prog 29 #[v] w fun e w' => e = .returned (.tuple #[]) ∧ w' = w := by
  have HO := isopen_no w v h
  clear h
  go_enter Tryz.func29, Tryz.ntmps29
  go_wp2_with (go_at_call 51; refine HO.mono ?_; rintro e w' ⟨rfl, rfl⟩)
  go_end0
  exact ⟨rfl, rfl⟩
theorem abort_no (v : Value) (h : Shut w v) : Calls Tryz.prog 28 #[v] w fun e w' => e = .returned (.tuple #[]) ∧ w' = w := by
  have HO := isopen_no w v h
  clear h
  go_enter Tryz.func28, Tryz.ntmps28
  go_wp2_with (go_at_call 51; refine HO.mono ?_; rintro e w' ⟨rfl, rfl⟩)
  first | go_end0 | go_returns
  exact ⟨rfl, rfl⟩
end
end Go.Proofs.YtcfninpokngmlaaGreatDoor
