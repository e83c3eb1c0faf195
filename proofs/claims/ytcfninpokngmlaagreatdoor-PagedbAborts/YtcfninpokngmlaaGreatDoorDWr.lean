/- Proved: what a database writes to a page's place, on any disk. -/
import Derived.Test.YtcfninpokngmlaaGreatDoorDRd
namespace Pd
open Sc (St)
/- writes, one behind the other, up to the first that is refused -/
def wrs : List (Nat × ByteArray) → St → St × Int
  | [], s => (s, 0)
  | p :: l, s => if Sc.writeE s (p.1 : Int) p.2 = 0 then wrs l (Sc.writeS s (p.1 : Int) p.2) else (Sc.writeS s (p.1 : Int) p.2, Sc.writeE s (p.1 : Int) p.2)
theorem wrs_cons (p : Nat × ByteArray) (l : List (Nat × ByteArray)) (s : St) : wrs (p :: l) s = if Sc.writeE s (p.1 : Int) p.2 = 0 then wrs l (Sc.writeS s (p.1 : Int) p.2) else (Sc.writeS s (p.1 : Int) p.2, Sc.writeE s (p.1 : Int) p.2) := rfl
theorem wrs_append (b : List (Nat × ByteArray)) : ∀ (a : List (Nat × ByteArray)) (s : St), wrs (a ++ b) s = if (wrs a s).2 = 0 then wrs b (wrs a s).1 else wrs a s
  | [], s => by
    show wrs b s = if (0 : Int) = 0 then wrs b s else _
    rw [if_pos rfl]
  | p :: a, s => by
    rw [List.cons_append, wrs_cons, wrs_cons]
    by_cases h : Sc.writeE s (p.1 : Int) p.2 = 0
    · rw [if_pos h, if_pos h]
      exact wrs_append b a _
    · rw [if_neg h, if_neg h, if_neg h]
theorem wrs_one (p : Nat × ByteArray) (s : St) : wrs [p] s = (Sc.writeS s (p.1 : Int) p.2, Sc.writeE s (p.1 : Int) p.2) := by
  unfold wrs
  by_cases h : Sc.writeE s (p.1 : Int) p.2 = 0
  · rw [if_pos h, h]
    rfl
  · rw [if_neg h]
theorem wrs_step : ∀ (l : List (Nat × ByteArray)) (s : St), (wrs l s).1.kept.length = s.kept.length ∧ (wrs l s).1.dn ≤ s.dn + l.length ∧ (wrs l s).1.pend.length ≤ s.pend.length + l.length
  | [], s => ⟨rfl, Nat.le_refl _, Nat.le_refl _⟩
  | p :: l, s => by
    have h := Sc.writeS_step s (p.1 : Int) p.2
    unfold wrs
    split
    · obtain ⟨h1, h2, h3⟩ := wrs_step l (Sc.writeS s (p.1 : Int) p.2)
      have h4 := h.len
      have h5 := h.dn
      have h6 := h.pend
      rw [List.length_cons]
      exact ⟨by omega, by omega, by omega⟩
    · have h4 := h.len
      have h5 := h.dn
      have h6 := h.pend
      rw [List.length_cons]
      refine ⟨h4, ?_, ?_⟩
      · show (Sc.writeS s (p.1 : Int) p.2).dn ≤ _
        omega
      · show (Sc.writeS s (p.1 : Int) p.2).pend.length ≤ _
        omega
theorem wrOf_take (n i : Nat) (x : ByteArray) {k : Nat} (hk : k < 8) : (wrOf n i x).take (k + 1) = (wrOf n i x).take k ++ [(n + 8 * i + k, secAt x k)] := by
  have hl : k < (wrOf n i x).length := by simp [wrOf]; exact hk
  have hg : (wrOf n i x)[k]? = some (n + 8 * i + k, secAt x k) := by
    unfold wrOf
    rw [List.getElem?_map, List.getElem?_range hk]
    rfl
  rw [List.take_succ_eq_append_getElem hl, (List.getElem?_eq_some_iff.1 hg).2]
theorem wrOf_length (n i : Nat) (x : ByteArray) : (wrOf n i x).length = 8 := by simp [wrOf]
end Pd
namespace Go.Proofs.YtcfninpokngmlaaGreatDoor
open Go.RowKit
theorem below_up {w w2 : World} (h : Below w.heap.size w w2) : Below w.heap.size w w2 := h
theorem sec_get {x : ByteArray} (h : x.size = 512) {k : Nat} (hk : k < 8) : (Pg.cut x 64 [])[k]? = some (Pd.secAt x k) := by
  have hl := (Pd.cut_len h).1
  have hk2 : k < (Pg.cut x 64 []).length := by omega
  unfold Pd.secAt
  rw [List.getD_eq_getElem?_getD, List.getElem?_eq_getElem hk2]
  rfl
def DDoes (w : World) (A : Ad) (op : Value) (d : Pd.Db) (n : Int) (e : Ending) (w' : World) : Prop := ∃ vr vw vp, e = .returned (.int .i64 n) ∧ Dbw w' (A.to vr vw vp) op d ∧ Turn A.ft (A.to vr vw vp).ft w w'
theorem Ad.to_self (A : Ad) : A.to A.vr A.vw A.vp = A := rfl
set_option maxHeartbeats 4000000 in
set_option maxRecDepth 100000 in
theorem dwrite_any (A : Ad) (op : Value) (d : Pd.Db) (id : Nat) (y : Pd.Sheet) (w : World) (H : Dbw w A op d) (hy : y.Fine) (hi : id ≤ 1000000) (hn : d.n ≤ 1000000) (h1 : d.s.dn + 8 ≤ 1000000000) (h2 : d.s.pend.length + 8 ≤ 30000) :
    Calls Tryz.prog 78 #[ptr A.x, .int .i64 (id : Int), shV y] w (DDoes w A op { d with s := (Pd.wrs (Pd.wrOf d.n id (Pd.pageOf id y)) d.s).1 } (Pd.wrs (Pd.wrOf d.n id (Pd.pageOf id y)) d.s).2) := by
  have h512 := Pd.pageOf_size (i := id) hy
  have hpos := H.tab.pos
  have HH : Hid (Dbw w A op d) := H
  have HB0 : Hid (Below w.heap.size w (w.alloc (.cells (shA y) 102))) := (Below.refl _ _).alloc (Nat.le_refl _) _
  have c0 : (w.alloc (.cells (shA y) 102)).cell? ⟨w.heap.size, 0, none⟩ = some (.int .i64 (y.kind : Int)) := cell_of_row _ _ _ _ _ (0, 0) (heap_alloc_new w _)
  have c1 : (w.alloc (.cells (shA y) 102)).cell? ⟨w.heap.size, 1, none⟩ = some (.string y.body) := cell_of_row _ _ _ _ _ (0, 0) (heap_alloc_new w _)
  have HSE : Hid (Calls Tryz.prog 105 #[.int .i64 (id : Int), .agg #[.int .i64 (y.kind : Int), .string y.body]] (w.alloc (.cells (shA y) 102)) fun e w' => e = .returned (.string (Pd.pageOf id y)) ∧ Below (w.alloc (.cells (shA y) 102)).heap.size (w.alloc (.cells (shA y) 102)) w') := sealed_any id y _ (H.tab.below HB0.out hpos) hy (by omega)
  have HL8 : Hid ((Pg.cut (Pd.pageOf id y) 64 []).length = 8) := (Pd.cut_len h512).1
  have HSX : Hid (∀ k, k < 8 → (Pg.cut (Pd.pageOf id y) 64 [])[k]? = some (Pd.secAt (Pd.pageOf id y) k)) := fun k hk => sec_get h512 hk
  have HSC : Hid (∀ W, Calls Tryz.prog 104 #[.string (Pd.pageOf id y)] W fun e w' => ∃ v, e = .returned v ∧ OwnS w' W.heap.size v (Pg.cut (Pd.pageOf id y) 64 []) ∧ Below W.heap.size W w') := fun W => sectors_any _ W (by omega)
  have HAT : Hid (∀ U : World, U.cell? ⟨A.x, 2, none⟩ = some (.int .i64 (d.n : Int)) → Calls Tryz.prog 107 #[.pointer (some ⟨A.x, 0, none⟩), .int .i64 (id : Int)] U fun e w' => e = .returned (.int .i64 ((d.n + 8 * id : Nat) : Int)) ∧ w' = U) := fun U hU => at_any A.x d.n id U hU (by omega) hi
  clear H
  generalize Pd.pageOf id y = pg at *
  change Calls Tryz.prog 78 #[.pointer (some ⟨A.x, 0, none⟩), .int .i64 (id : Int), .agg (shA y)] w _
  unfold shA at *
  go_enter Tryz.func78, Tryz.ntmps78
  go_wp2_with fail
  generalize hw0 : World.alloc w _ = w0 at *
  clear hw0
  refine HSE.out.mono ?_
  rintro e w1 ⟨rfl, hB1⟩
  have HB1 : Hid (Below w.heap.size w w1) := below_next HB0.out hB1 HB0.out.size
  clear hB1 HSE HB0 c0 c1
  go_wp2_with fail
  refine (HSC.out w1).mono ?_
  rintro e w2 ⟨v, rfl, hO, hB2⟩
  have HB2 : Hid (Below w.heap.size w w2) := below_next HB1.out hB2 HB1.out.size
  have hNw : w.heap.size ≤ w1.heap.size := HB1.out.size
  have HO2 : Hid (OwnS w2 w1.heap.size v (Pg.cut pg 64 [])) := hO
  obtain ⟨g2, cap, hv, hcell⟩ := own_at hO (by rw [HL8.out]; omega)
  rw [HL8.out] at hv
  subst hv
  have HVB : Hid (w.heap.size ≤ g2 ∧ g2 < w2.heap.size) := ⟨Nat.le_trans hNw (HO2.out.lt g2 rfl).1, (HO2.out.lt g2 rfl).2⟩
  have HCL : Hid (∀ i r, (Pg.cut pg 64 [])[i]? = some r → w2.cell? ⟨g2, i, none⟩ = some (.string r)) := hcell
  clear hO hB2 HSC HB1 hcell hNw HO2
  have HD2 : Hid (Dbw w2 A op d) := HH.out.below HB2.out
  go_wp2_with fail
  go_loopw [15] (fun s15 wr => ∃ (k : Nat) (vr vw vp : Value), k ≤ 8 ∧ s15 = .int .i64 (k : Int) ∧ (Pd.wrs ((Pd.wrOf d.n id pg).take k) d.s).2 = 0 ∧ Dbw wr (A.to vr vw vp) op { d with s := (Pd.wrs ((Pd.wrOf d.n id pg).take k) d.s).1 } ∧ Turn A.ft (A.to vr vw vp).ft w2 wr) (fun s15 _ => 8 - (intOf s15).toNat)
  case atStart => exact ⟨0, A.vr, A.vw, A.vp, by omega, rfl, rfl, HD2.out, Turn.refl _ _⟩
  case round =>
    obtain ⟨k, vr, vw, vp, hk, rfl, he0, hD, hT⟩ := hrel
    have HE0 : Hid ((Pd.wrs ((Pd.wrOf d.n id pg).take k) d.s).2 = 0) := he0
    have HT : Hid (Turn A.ft (A.to vr vw vp).ft w2 wr) := hT
    by_cases hk8 : k < 8
    · have hwt := Pd.wrOf_take d.n id pg hk8
      obtain ⟨z1, z2, z3⟩ := Pd.wrs_step ((Pd.wrOf d.n id pg).take k) d.s
      have hln : ((Pd.wrOf d.n id pg).take k).length = k := by rw [List.length_take, Pd.wrOf_length]; omega
      rw [hln] at z2 z3
      have HAP : Hid (Pd.wrs ((Pd.wrOf d.n id pg).take (k + 1)) d.s = (Sc.writeS (Pd.wrs ((Pd.wrOf d.n id pg).take k) d.s).1 ((d.n + 8 * id + k : Nat) : Int) (Pd.secAt pg k), Sc.writeE (Pd.wrs ((Pd.wrOf d.n id pg).take k) d.s).1 ((d.n + 8 * id + k : Nat) : Int) (Pd.secAt pg k))) := by
        show _ = _
        rw [hwt, Pd.wrs_append, if_pos he0, Pd.wrs_one]
      have HALL : Hid (Pd.wrs (Pd.wrOf d.n id pg) d.s = if (Pd.wrs ((Pd.wrOf d.n id pg).take (k + 1)) d.s).2 = 0 then Pd.wrs ((Pd.wrOf d.n id pg).drop (k + 1)) (Pd.wrs ((Pd.wrOf d.n id pg).take (k + 1)) d.s).1 else Pd.wrs ((Pd.wrOf d.n id pg).take (k + 1)) d.s) := by
        show _ = _
        rw [← Pd.wrs_append, List.take_append_drop]
      have hWS := Sc.writeS_step (Pd.wrs ((Pd.wrOf d.n id pg).take k) d.s).1 ((d.n + 8 * id + k : Nat) : Int) (Pd.secAt pg k)
      have hwl := hWS.len
      have HD : Hid (Dbw wr (A.to vr vw vp) op { d with s := (Pd.wrs ((Pd.wrOf d.n id pg).take k) d.s).1 }) := hD
      have hq : wr.cell? ⟨g2, k, none⟩ = some (.string (Pd.secAt pg k)) := by
        have h3 := HCL.out k _ (HSX.out k hk8)
        rw [← h3]
        exact World.cell?_of_block (hT.chg.block g2 HVB.out.2 (fun hm => by have h4 := HH.out.lt g2 hm; have h5 := HVB.out.1; omega))
      have HWR : Hid (∀ U : World, Dbw U (A.to vr vw vp) op { d with s := (Pd.wrs ((Pd.wrOf d.n id pg).take k) d.s).1 } → Calls Tryz.prog 106 #[.pointer (some ⟨A.g, 0, none⟩), .int .i64 ((d.n + 8 * id + k : Nat) : Int), .string (Pd.secAt pg k)] U (Does U A.g A.kg vp (Sc.writeS (Pd.wrs ((Pd.wrOf d.n id pg).take k) d.s).1 ((d.n + 8 * id + k : Nat) : Int) (Pd.secAt pg k)) (Sc.writeE (Pd.wrs ((Pd.wrOf d.n id pg).take k) d.s).1 ((d.n + 8 * id + k : Nat) : Int) (Pd.secAt pg k)))) := fun U hU => write_any A.g A.kg vp _ _ _ U hU.lp.dk (by omega) (by omega)
      clear hD hT he0 hwt hWS
      generalize hs0 : (Pd.wrs ((Pd.wrOf d.n id pg).take k) d.s).1 = s0 at *
      generalize hs1 : Sc.writeS s0 ((d.n + 8 * id + k : Nat) : Int) (Pd.secAt pg k) = s1 at *
      generalize he1 : Sc.writeE s0 ((d.n + 8 * id + k : Nat) : Int) (Pd.secAt pg k) = e1 at *
      clear hs0 hs1 he1
      generalize hX : Pd.secAt pg k = X at *
      clear hX
      have dk : decide ((k : Int) < 8) = true := decide_eq_true (by omega)
      have k0 : (0 : Int) ≤ (k : Int) := by omega
      have k1 : (k : Int) < 8 := by omega
      have HS : Hid ((fun U : World => U.cell? ⟨A.x, 0, none⟩ = some (.pointer (some ⟨A.g, 0, none⟩))) wr) := HD.out.c0
      go_wp2_with fail
      refine wp_region_held_drew (S := fun U : World => U.cell? ⟨A.x, 0, none⟩ = some (.pointer (some ⟨A.g, 0, none⟩))) (by kernel_rfl) HS.out (fun _ => ?_)
      refine heldTake 0 (some 20) (.pointer (some ⟨A.x, 0, none⟩)) rfl rfl (by kernel_rfl) (by kernel_rfl) (by kernel_rfl) (fun _ _ _ h => h) (Or.inl ⟨by rfl, fun w hS => ?_⟩) HS.out ?_
      · (go_simp)
      simp only [Act.put, List.setIfInBounds_toArray, List.set_cons_zero, List.set_cons_succ]
      refine heldTake 1 (some 21) (.pointer (some ⟨A.x, 0, none⟩)) rfl rfl (by kernel_rfl) (by kernel_rfl) (by kernel_rfl) (fun _ _ _ h => h) (Or.inl ⟨by rfl, fun w hS => ?_⟩) HS.out ?_
      · (go_simp)
      simp only [Act.put, List.setIfInBounds_toArray, List.set_cons_zero, List.set_cons_succ]
      refine heldTake 2 (some 22) (.pointer (some ⟨A.x, 0, none⟩)) rfl rfl (by kernel_rfl) (by kernel_rfl) (by kernel_rfl) (fun _ _ _ h => h) (Or.inl ⟨by rfl, fun w hS => ?_⟩) HS.out ?_
      · (go_simp)
      simp only [Act.put, List.setIfInBounds_toArray, List.set_cons_zero, List.set_cons_succ]
      refine heldTake 3 (some 23) (.pointer (some ⟨A.g, 0, none⟩)) rfl rfl (by kernel_rfl) (by kernel_rfl) (by kernel_rfl) (fun _ _ _ h => h) (Or.inl ⟨by rfl, fun w hS => ?_⟩) HS.out ?_
      · (go_simp)
      simp only [Act.put, List.setIfInBounds_toArray, List.set_cons_zero, List.set_cons_succ]
      refine heldTake 4 (some 24) (.pointer (some ⟨A.x, 0, none⟩)) rfl rfl (by kernel_rfl) (by kernel_rfl) (by kernel_rfl) (fun _ _ _ h => h) (Or.inl ⟨by rfl, fun w hS => ?_⟩) HS.out ?_
      · (go_simp)
      simp only [Act.put, List.setIfInBounds_toArray, List.set_cons_zero, List.set_cons_succ]
      refine heldTake 5 (some 25) (.int .i64 (id : Int)) rfl rfl (by kernel_rfl) (by kernel_rfl) (by kernel_rfl) (fun _ _ _ h => h) (Or.inl ⟨by rfl, fun w hS => ?_⟩) HS.out ?_
      · (go_simp)
      simp only [Act.put, List.setIfInBounds_toArray, List.set_cons_zero, List.set_cons_succ]
      refine heldTake 7 (some 27) (.int .i64 (k : Int)) rfl rfl (by kernel_rfl) (by kernel_rfl) (by kernel_rfl) (fun _ _ _ h => h) (Or.inl ⟨by rfl, fun w hS => ?_⟩) HS.out ?_
      · (go_simp)
      simp only [Act.put, List.setIfInBounds_toArray, List.set_cons_zero, List.set_cons_succ]
      refine heldTake 9 (some 29) (.string X) rfl rfl (by kernel_rfl) (by kernel_rfl) (by kernel_rfl) (fun _ _ _ h => h) (Or.inl ⟨by rfl, fun w hS => ?_⟩) HS.out ?_
      · (go_simp)
      simp only [Act.put, List.setIfInBounds_toArray, List.set_cons_zero, List.set_cons_succ]
      refine heldOne 6 (by kernel_rfl) rfl (by rfl) (fun KK hK => ?_)
      go_simp
      go_at_call 107
      refine (HAT.out wr.drew HD.out.c2).mono ?_
      rintro e wS ⟨rfl, hwS⟩
      rw [hwS]
      clear hwS wS
      refine hK.out _ _ HS.out ?_
      clear hK KK
      refine heldTake 8 (some 28) (.int .i64 ((d.n + 8 * id + k : Nat) : Int)) rfl rfl (by kernel_rfl) (by kernel_rfl) (by kernel_rfl) (fun _ _ _ h => h) (Or.inl ⟨by rfl, fun w hS => ?_⟩) HS.out ?_
      · (go_simp; rw [IntKind.wrap_i64]; omega)
      simp only [Act.put, List.setIfInBounds_toArray, List.set_cons_zero, List.set_cons_succ]
      refine heldOne 10 (by kernel_rfl) rfl (by rfl) (fun KK hK => ?_)
      go_simp
      go_at_call 106
      refine (HWR.out wr.drew HD.out.drew).mono ?_
      rintro e u1 ⟨vp1, rfl, hR1, hT1⟩
      obtain ⟨hL1, hTL1⟩ := HD.out.drew.lp.d hR1 hT1 hwl
      obtain ⟨hD1, hTD1⟩ := HD.out.drew.turn (vr := vr) (vw := vw) (vp := vp1) hL1 hTL1
      have HD1 : Hid (Dbw u1 (A.to vr vw vp1) op { d with s := s1 }) := hD1
      have HT1 : Hid (Turn A.ft (A.to vr vw vp1).ft w2 u1) := HT.out.trans ((Turn.refl _ wr).drew.trans hTD1)
      have HS1 : Hid ((fun U : World => U.cell? ⟨A.x, 0, none⟩ = some (.pointer (some ⟨A.g, 0, none⟩))) u1) := hD1.c0
      clear hR1 hT1 hL1 hTL1 hD1 hTD1 HWR HD HT hq
      refine hK.out _ _ HS1.out ?_
      clear hK KK
      refine heldTake 11 (some 9) (.int .i64 e1) rfl rfl (by kernel_rfl) (by kernel_rfl) (by kernel_rfl) (fun _ _ _ h => h) (Or.inl ⟨by rfl, fun w hS => ?_⟩) HS1.out ?_
      · (go_simp)
      simp only [Act.put, List.setIfInBounds_toArray, List.set_cons_zero, List.set_cons_succ]
      refine wpAnyH_done (by kernel_rfl) ?_ _
      by_cases hz : e1 = 0
      · subst hz
        have HFN : Hid (∃ (k' : Nat) (vr' vw' vp' : Value), k' ≤ 8 ∧ Value.int .i64 ((k : Int) + 1) = .int .i64 (k' : Int) ∧ (Pd.wrs ((Pd.wrOf d.n id pg).take k') d.s).2 = 0 ∧ Dbw u1 (A.to vr' vw' vp') op { d with s := (Pd.wrs ((Pd.wrOf d.n id pg).take k') d.s).1 } ∧ Turn A.ft (A.to vr' vw' vp').ft w2 u1) := ⟨k + 1, vr, vw, vp1, by omega, by go_num, by rw [HAP.out], by rw [HAP.out]; exact HD1.out, HT1.out⟩
        clear z1 z2 z3 hwl hln
        go_wp2
        go_roundw
        case rel => first | exact HFN.out | ((repeat apply Exists.intro); exact ⟨HFN.out, rfl⟩)
        case measure => (simp [intOf]) <;> omega
      · have hb : (e1 != 0) = true := by simp [hz]
        have HFN : Hid (DDoes w A op { d with s := (Pd.wrs (Pd.wrOf d.n id pg) d.s).1 } (Pd.wrs (Pd.wrOf d.n id pg) d.s).2 (.returned (.int .i64 e1)) u1) := by
          have hne : ¬ (Pd.wrs ((Pd.wrOf d.n id pg).take (k + 1)) d.s).2 = 0 := by rw [HAP.out]; exact hz
          have e2 : Pd.wrs (Pd.wrOf d.n id pg) d.s = (s1, e1) := by rw [HALL.out, if_neg hne, HAP.out]
          rw [e2]
          exact ⟨vr, vw, vp1, rfl, HD1.out, (Turn.of_below (below_up HB2.out)).trans HT1.out⟩
        clear z1 z2 z3 hwl hln
        go_wp2
        go_ret
        exact HFN.out
    · obtain rfl : k = 8 := by omega
      have dk : decide (((8 : Nat) : Int) < 8) = false := decide_eq_false (by omega)
      have e2 : (Pd.wrOf d.n id pg).take 8 = Pd.wrOf d.n id pg := List.take_of_length_le (by rw [Pd.wrOf_length]; exact Nat.le_refl _)
      rw [e2] at hD HE0
      have HFN : Hid (DDoes w A op { d with s := (Pd.wrs (Pd.wrOf d.n id pg) d.s).1 } (Pd.wrs (Pd.wrOf d.n id pg) d.s).2 (.returned (.int .i64 0)) wr) := ⟨vr, vw, vp, by rw [HE0.out], hD, (Turn.of_below (below_up HB2.out)).trans hT⟩
      clear e2 hD hT he0
      go_wp2
      go_ret
      exact HFN.out
end Go.Proofs.YtcfninpokngmlaaGreatDoor
