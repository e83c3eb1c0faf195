/- Proved: what writeHead makes of a disk, and Reset of a log and its disk. -/
import Derived.Test.YtcfninpokngmlaaGreatDoorPRead
namespace Go.Proofs.YtcfninpokngmlaaGreatDoor
open Go.RowKit
/- the table is there, and no block of fs is its -/
structure Safe (w : World) (fs : List Nat) : Prop where
  tab : Tab w
  no : 0 ∉ fs
theorem Safe.turn {w w' : World} {fs gs : List Nat} (h : Safe w fs) (hT : Turn fs gs w w') : Safe w' gs := by
  have hp := h.tab.pos
  refine ⟨h.tab.of_block (hT.chg.block 0 hp h.no), hT.apart (rs := [0]) (fun k hk => by rw [List.mem_singleton.1 hk]; exact h.no) (fun k hk => by rw [List.mem_singleton.1 hk]; exact hp) 0 (List.mem_singleton.2 rfl)⟩
theorem Safe.below {w w' : World} {fs : List Nat} (h : Safe w fs) (hB : Below w.heap.size w w') : Safe w' fs := ⟨h.tab.below hB h.tab.pos, h.no⟩
theorem Safe.of {w : World} {fs gs : List Nat} (h : Safe w fs) (hs : ∀ k ∈ gs, k ∈ fs) : Safe w gs := ⟨h.tab, fun hm => h.no (hs 0 hm)⟩
theorem wrap_up (e : Nat) (h : e ≤ 9223372036854775807) : IntKind.u64.wrap (e : Int) = (e : Int) := by rw [IntKind.wrap_u64]; omega
set_option maxHeartbeats 4000000 in
set_option maxRecDepth 20000 in
theorem lmark_any (q g : Nat) (vr vw : Value) (l : Wl.Lg) (kg : Nat) (vp : Value) (s : Sc.St) (e len : Nat) (w : World) (L : LP w q g vr vw l kg vp s) (hT : Tab w) (he : e ≤ 9223372036854775807) (hlen : len ≤ 9223372036854775807) (hn : s.dn ≤ 100000) (hp : s.pend.length ≤ 20000) :
    Calls Tryz.prog 110 #[ptr q, .int .i64 (e : Int), .int .i64 (len : Int)] w (LDoes w q g vr vw kg vp l (Wl.hdS s l.base e len) (Wl.hdE s l.base e len)) := by
  have HL : Hid (LP w q g vr vw l kg vp s) := L
  have HLD : Hid (LP w.drew q g vr vw l kg vp s) := L.drew
  have HS : Hid ((fun U : World => U.cell? ⟨q, 0, none⟩ = some (ptr g) ∧ U.cell? ⟨q, 1, none⟩ = some (.int .i64 (l.base : Int))) w.drew) := ⟨L.pk.c0, L.pk.c1⟩
  have HHD : Hid (Calls Tryz.prog 126 #[.int .u64 (e : Int), .int .u64 (len : Int)] w.drew fun r w' => r = .returned (.string (Wl.head e len)) ∧ Below w.drew.heap.size w.drew w') := head_any e len _ hT.drew (by omega) (by omega)
  have hw1 := wrap_up e he
  have hw2 := wrap_up len hlen
  clear L hT
  go_enter Tryz.func110, Tryz.ntmps110
  go_wp2_with fail
  refine wp_region_held_drew (S := fun U => U.cell? ⟨q, 0, none⟩ = some (ptr g) ∧ U.cell? ⟨q, 1, none⟩ = some (.int .i64 (l.base : Int))) (by kernel_rfl) HS.out (fun _ => ?_)
  refine heldTake 0 (some 8) (ptr q) rfl rfl (by kernel_rfl) (by kernel_rfl) (by kernel_rfl) (fun _ _ _ h => h) (Or.inl ⟨by rfl, fun w hS => ?_⟩) HS.out ?_
  · (go_simp)
  simp only [Act.put, List.setIfInBounds_toArray, List.set_cons_zero, List.set_cons_succ]
  refine heldTake 1 (some 9) (ptr q) rfl rfl (by kernel_rfl) (by kernel_rfl) (by kernel_rfl) (fun _ _ _ h => h) (Or.inl ⟨by rfl, fun w hS => ?_⟩) HS.out ?_
  · (go_simp)
  simp only [Act.put, List.setIfInBounds_toArray, List.set_cons_zero, List.set_cons_succ]
  refine heldTake 2 (some 10) (ptr q) rfl rfl (by kernel_rfl) (by kernel_rfl) (by kernel_rfl) (fun _ _ _ h => h) (Or.inl ⟨by rfl, fun w hS => ?_⟩) HS.out ?_
  · (go_simp)
  simp only [Act.put, List.setIfInBounds_toArray, List.set_cons_zero, List.set_cons_succ]
  refine heldTake 3 (some 11) (ptr g) rfl rfl (by kernel_rfl) (by kernel_rfl) (by kernel_rfl) (fun _ _ _ h => h) (Or.inl ⟨by rfl, fun w hS => ?_⟩) HS.out ?_
  · (obtain ⟨p0, p1⟩ := hS; go_simp)
  simp only [Act.put, List.setIfInBounds_toArray, List.set_cons_zero, List.set_cons_succ]
  refine heldTake 4 (some 12) (ptr q) rfl rfl (by kernel_rfl) (by kernel_rfl) (by kernel_rfl) (fun _ _ _ h => h) (Or.inl ⟨by rfl, fun w hS => ?_⟩) HS.out ?_
  · (go_simp)
  simp only [Act.put, List.setIfInBounds_toArray, List.set_cons_zero, List.set_cons_succ]
  refine heldTake 5 (some 13) (ptr q) rfl rfl (by kernel_rfl) (by kernel_rfl) (by kernel_rfl) (fun _ _ _ h => h) (Or.inl ⟨by rfl, fun w hS => ?_⟩) HS.out ?_
  · (go_simp)
  simp only [Act.put, List.setIfInBounds_toArray, List.set_cons_zero, List.set_cons_succ]
  refine heldTake 6 (some 14) (.pointer (some ⟨q, 1, none⟩)) rfl rfl (by kernel_rfl) (by kernel_rfl) (by kernel_rfl) (fun _ _ _ h => h) (Or.inl ⟨by rfl, fun w hS => ?_⟩) HS.out ?_
  · (go_simp)
  simp only [Act.put, List.setIfInBounds_toArray, List.set_cons_zero, List.set_cons_succ]
  refine heldTake 7 (some 15) (.int .i64 (l.base : Int)) rfl rfl (by kernel_rfl) (by kernel_rfl) (by kernel_rfl) (fun _ _ _ h => h) (Or.inl ⟨by rfl, fun w hS => ?_⟩) HS.out ?_
  · (obtain ⟨p0, p1⟩ := hS; go_simp)
  simp only [Act.put, List.setIfInBounds_toArray, List.set_cons_zero, List.set_cons_succ]
  refine heldTake 8 (some 16) (.int .i64 (e : Int)) rfl rfl (by kernel_rfl) (by kernel_rfl) (by kernel_rfl) (fun _ _ _ h => h) (Or.inl ⟨by rfl, fun w hS => ?_⟩) HS.out ?_
  · (go_simp)
  simp only [Act.put, List.setIfInBounds_toArray, List.set_cons_zero, List.set_cons_succ]
  refine heldTake 9 (some 17) (.int .u64 (e : Int)) rfl rfl (by kernel_rfl) (by kernel_rfl) (by kernel_rfl) (fun _ _ _ h => h) (Or.inl ⟨by rfl, fun w hS => ?_⟩) HS.out ?_
  · (go_simp)
  simp only [Act.put, List.setIfInBounds_toArray, List.set_cons_zero, List.set_cons_succ]
  refine heldTake 10 (some 18) (.int .i64 (len : Int)) rfl rfl (by kernel_rfl) (by kernel_rfl) (by kernel_rfl) (fun _ _ _ h => h) (Or.inl ⟨by rfl, fun w hS => ?_⟩) HS.out ?_
  · (go_simp)
  simp only [Act.put, List.setIfInBounds_toArray, List.set_cons_zero, List.set_cons_succ]
  refine heldTake 11 (some 19) (.int .u64 (len : Int)) rfl rfl (by kernel_rfl) (by kernel_rfl) (by kernel_rfl) (fun _ _ _ h => h) (Or.inl ⟨by rfl, fun w hS => ?_⟩) HS.out ?_
  · (go_simp)
  simp only [Act.put, List.setIfInBounds_toArray, List.set_cons_zero, List.set_cons_succ]
  refine heldOne 12 (by kernel_rfl) rfl (by rfl) (fun KK hK => ?_)
  go_simp
  go_at_call 126
  refine HHD.out.mono ?_
  rintro r w1 ⟨rfl, hB1⟩
  have HL1 : Hid (LP w1 q g vr vw l kg vp s) := HLD.out.below hB1
  have HT1 : Hid (Turn (lfoot q g vr vw kg vp) (lfoot q g vr vw kg vp) w w1) := (Turn.refl _ w).drew.trans (Turn.of_below hB1)
  have HS1 : Hid ((fun U : World => U.cell? ⟨q, 0, none⟩ = some (ptr g) ∧ U.cell? ⟨q, 1, none⟩ = some (.int .i64 (l.base : Int))) w1) := ⟨HL1.out.pk.c0, HL1.out.pk.c1⟩
  clear hB1 HHD
  refine hK.out _ _ HS1.out ?_
  clear hK KK
  refine heldOne 13 (by kernel_rfl) rfl (by rfl) (fun KK hK => ?_)
  go_simp
  go_at_call 106
  refine (write_any g kg vp s (l.base : Int) (Wl.head e len) w1 HL1.out.dk (by omega) (by omega)).mono ?_
  have hst := Sc.writeS_step s (l.base : Int) (Wl.head e len)
  have hst1 := hst.len
  have hst2 := hst.dn
  clear hst
  have hC := Wl.hd_cases s l.base e len
  generalize Sc.writeS s (l.base : Int) (Wl.head e len) = s2 at *
  generalize Sc.writeE s (l.base : Int) (Wl.head e len) = e2 at *
  rintro r w2 ⟨vp2, rfl, hR2, hT2⟩
  obtain ⟨hL2, hTL2⟩ := HL1.out.d hR2 hT2 hst1
  have HL2 : Hid (LP w2 q g vr vw l kg vp2 s2) := hL2
  have HT2 : Hid (Turn (lfoot q g vr vw kg vp) (lfoot q g vr vw kg vp2) w w2) := HT1.out.trans hTL2
  have HS2 : Hid ((fun U : World => U.cell? ⟨q, 0, none⟩ = some (ptr g) ∧ U.cell? ⟨q, 1, none⟩ = some (.int .i64 (l.base : Int))) w2) := ⟨hL2.pk.c0, hL2.pk.c1⟩
  clear hR2 hT2 hL2 hTL2
  refine hK.out _ _ HS2.out ?_
  clear hK KK
  refine heldTake 14 (some 7) (.int .i64 e2) rfl rfl (by kernel_rfl) (by kernel_rfl) (by kernel_rfl) (fun _ _ _ h => h) (Or.inl ⟨by rfl, fun w hS => ?_⟩) HS2.out ?_
  · (go_simp)
  simp only [Act.put, List.setIfInBounds_toArray, List.set_cons_zero, List.set_cons_succ]
  refine wpAnyH_done (by kernel_rfl) ?_ _
  have c0 := HL2.out.pk.c0
  by_cases h2 : e2 = 0
  · subst h2
    obtain ⟨hC1, hC2⟩ := hC.1 rfl
    have HFL := flush_any g kg vp2 s2 w2 HL2.out.dk (by omega)
    have hfs := (Sc.flushS_step s2).len
    generalize Sc.flushS s2 = s3 at *
    generalize Sc.flushE s2 = e3 at *
    have HC : Hid (Wl.hdS s l.base e len = s3 ∧ Wl.hdE s l.base e len = e3) := ⟨hC1, hC2⟩
    clear hC hC1 hC2
    go_wp2_with fail
    refine HFL.mono ?_
    rintro r w3 ⟨vp3, rfl, hR3, hT3⟩
    obtain ⟨hL3, hTL3⟩ := HL2.out.d hR3 hT3 hfs
    have HFN : Hid (LDoes w q g vr vw kg vp l (Wl.hdS s l.base e len) (Wl.hdE s l.base e len) (.returned (.int .i64 e3)) w3) := by
      obtain ⟨hC1, hC2⟩ := HC.out
      rw [hC1, hC2]
      exact ⟨vr, vw, vp3, rfl, hL3, HT2.out.trans hTL3⟩
    clear hR3 hT3 hL3 hTL3 HFL c0
    go_wp2
    go_ret
    exact HFN.out
  · have hb3 : (e2 != 0) = true := by simp [h2]
    obtain ⟨hC1, hC2⟩ := hC.2 h2
    have HFN : Hid (LDoes w q g vr vw kg vp l (Wl.hdS s l.base e len) (Wl.hdE s l.base e len) (.returned (.int .i64 e2)) w2) := by
      rw [hC1, hC2]
      exact ⟨vr, vw, vp2, rfl, HL2.out, HT2.out⟩
    clear hC hC1 hC2
    go_wp2
    go_ret
    exact HFN.out
/- a reset: the head of the next epoch, no records -/
theorem Pk.emptied {w : World} {q g : Nat} {vr vw : Value} {l : Wl.Lg} (H : Pk w q g vr vw l) (ok : Wl.Lg.Ok { l with epoch := l.epoch + 1, bytes := Wl.ob [], recs := [] }) :
    Pk (((w.setCell ⟨q, 3, none⟩ (.int .i64 ((l.epoch : Int) + 1))).setCell ⟨q, 4, none⟩ (.int .i64 0)).setCell ⟨q, 5, none⟩ (.slice none 0 0)) q g (.slice none 0 0) vw { l with epoch := l.epoch + 1, bytes := Wl.ob [], recs := [] } ∧
    Turn (pfoot q vr vw) (pfoot q (.slice none 0 0) vw) w (((w.setCell ⟨q, 3, none⟩ (.int .i64 ((l.epoch : Int) + 1))).setCell ⟨q, 4, none⟩ (.int .i64 0)).setCell ⟨q, 5, none⟩ (.slice none 0 0)) := by
  have hC : Chg [q] w (((w.setCell ⟨q, 3, none⟩ (.int .i64 ((l.epoch : Int) + 1))).setCell ⟨q, 4, none⟩ (.int .i64 0)).setCell ⟨q, 5, none⟩ (.slice none 0 0)) := ((Chg.setCell _ q 3 _).trans (Chg.setCell _ q 4 _)).trans (Chg.setCell _ q 5 _)
  refine ⟨⟨?_, own_nil _, own_keep H.wait (fun k hk => hC.block k (H.lt k (by simp [pfoot, hk])) (fun e => H.hw (by rw [hk, List.mem_singleton.1 e]))), (by intro e; cases e), H.hw, (by intro k e; cases e), ok⟩, ⟨hC.mono (fun k hk => by rw [List.mem_singleton.1 hk]; simp [pfoot]), fun k hk => .inl ?_⟩⟩
  · rw [heap_setCell_same _ q 5 _ _ _ (heap_setCell_same _ q 4 _ _ _ (heap_setCell_same w q 3 _ _ _ H.row))]
    rfl
  · simp only [pfoot, List.mem_cons, List.mem_append, Option.mem_toList] at hk ⊢
    rcases hk with h1 | h1 | h1
    · exact .inl h1
    · cases h1
    · exact .inr (.inr h1)
theorem LP.lose {w w' : World} {q g kg : Nat} {vr vw vp : Value} {l : Wl.Lg} {s : Sc.St} {e : Int} {r : Ending} (L : LP w q g vr vw l kg vp s) (h : PDoes w q g vr vw (Wl.lose l e) e r w') : LDoes w q g vr vw kg vp (Wl.lose l e) s e r w' := by
  obtain ⟨vr', vw', h1, h2, h3⟩ := h
  have hb : (Wl.lose l e).base = l.base := by unfold Wl.lose; split <;> rfl
  have hn : (Wl.lose l e).n = l.n := by unfold Wl.lose; split <;> rfl
  obtain ⟨h4, h5⟩ := L.p h2 h3 hb hn
  exact ⟨vr', vw', vp, h1, h4, h5⟩
set_option maxHeartbeats 4000000 in
set_option maxRecDepth 20000 in
theorem lreset_any (q g : Nat) (vr vw : Value) (l : Wl.Lg) (kg : Nat) (vp : Value) (s : Sc.St) (w : World) (L : LP w q g vr vw l kg vp s) (hT : Tab w) (hn : s.dn ≤ 100000) (hp : s.pend.length ≤ 20000) :
    Calls Tryz.prog 80 #[ptr q] w (LDoes w q g vr vw kg vp (Wl.resetL l s) (Wl.resetS l s) (Wl.resetE l s)) := by
  have c6 := L.pk.c6
  have c3 := L.pk.c3
  have hep := L.pk.ok.epoch
  have HRD := lready_any q g vr vw l w L.pk
  unfold lreadyE at HRD
  have HOK : Hid ((Wl.resetL l s).Ok) := Wl.resetL_ok L.pk.ok s
  have HL : Hid (LP w q g vr vw l kg vp s) := L
  have HKEEP : Hid (∀ n, LDoes w q g vr vw kg vp l s n (.returned (.int .i64 n)) w) := fun n => ⟨vr, vw, vp, rfl, HL.out, Turn.refl _ _⟩
  have HTB : Hid (Tab w) := hT
  obtain ⟨wa, wcap, hwv⟩ := L.pk.wval
  rw [hwv] at c6
  clear L hT
  by_cases h1 : l.lost = true
  · have e1 : Wl.resetE l s = 10 := by unfold Wl.resetE; rw [if_pos h1]
    have e2 : Wl.resetL l s = l := by unfold Wl.resetL; rw [if_pos h1]
    have e3 : Wl.resetS l s = s := by unfold Wl.resetS; rw [if_pos h1]
    rw [e1, e2, e3]
    rw [if_pos h1] at HRD
    clear e1 e2 e3 hwv HOK
    go_enter Tryz.func80, Tryz.ntmps80
    go_wp2_with (go_at_call 109; refine HRD.mono ?_; rintro e w' ⟨rfl, rfl⟩)
    go_ret
    exact HKEEP.out 10
  · rw [if_neg h1] at HRD
    by_cases h2 : 0 < l.wait.length
    · have e1 : Wl.resetE l s = 9 := by unfold Wl.resetE; rw [if_neg h1, if_pos h2]
      have e2 : Wl.resetL l s = l := by unfold Wl.resetL; rw [if_neg h1, if_pos h2]
      have e3 : Wl.resetS l s = s := by unfold Wl.resetS; rw [if_neg h1, if_pos h2]
      rw [e1, e2, e3]
      have d1 : decide ((0 : Int) < (l.wait.length : Int)) = true := decide_eq_true (by omega)
      clear e1 e2 e3 hwv HOK
      go_enter Tryz.func80, Tryz.ntmps80
      go_wp2_with (go_at_call 109; refine HRD.mono ?_; rintro e w' ⟨rfl, rfl⟩)
      go_ret
      exact HKEEP.out 9
    · have d1 : decide ((0 : Int) < (l.wait.length : Int)) = false := decide_eq_false (by omega)
      by_cases h3 : l.epoch = 4611686018427387904
      · have e1 : Wl.resetE l s = 7 := by unfold Wl.resetE; rw [if_neg h1, if_neg h2, if_pos h3]
        have e2 : Wl.resetL l s = l := by unfold Wl.resetL; rw [if_neg h1, if_neg h2, if_pos h3]
        have e3 : Wl.resetS l s = s := by unfold Wl.resetS; rw [if_neg h1, if_neg h2, if_pos h3]
        rw [e1, e2, e3]
        have d2 : ((l.epoch : Int) == 4611686018427387904) = true := by rw [beq_iff_eq]; omega
        clear e1 e2 e3 hwv HOK h3
        go_enter Tryz.func80, Tryz.ntmps80
        go_wp2_with (go_at_call 109; refine HRD.mono ?_; rintro e w' ⟨rfl, rfl⟩)
        go_ret
        exact HKEEP.out 7
      · have d2 : ((l.epoch : Int) == 4611686018427387904) = false := by rw [beq_eq_false_iff_ne]; omega
        have e1 : Wl.resetE l s = Wl.hdE s l.base (l.epoch + 1) 0 := by unfold Wl.resetE; rw [if_neg h1, if_neg h2, if_neg h3]
        have e2 : Wl.resetL l s = if Wl.hdE s l.base (l.epoch + 1) 0 = 0 then { l with epoch := l.epoch + 1, bytes := Wl.ob [], recs := [] } else Wl.lose l (Wl.hdE s l.base (l.epoch + 1) 0) := by unfold Wl.resetL; rw [if_neg h1, if_neg h2, if_neg h3]
        have e3 : Wl.resetS l s = Wl.hdS s l.base (l.epoch + 1) 0 := by unfold Wl.resetS; rw [if_neg h1, if_neg h2, if_neg h3]
        rw [e1, e3]
        have HE2 : Hid (Wl.resetL l s = if Wl.hdE s l.base (l.epoch + 1) 0 = 0 then { l with epoch := l.epoch + 1, bytes := Wl.ob [], recs := [] } else Wl.lose l (Wl.hdE s l.base (l.epoch + 1) 0)) := e2
        have HMK := lmark_any q g vr vw l kg vp s (l.epoch + 1) 0 w HL.out HTB.out (by omega) (by omega) hn hp
        rw [show ((l.epoch + 1 : Nat) : Int) = (l.epoch : Int) + 1 by omega] at HMK
        clear e1 e2 e3 hwv HKEEP
        generalize Wl.resetL l s = l3 at *
        generalize Wl.hdE s l.base (l.epoch + 1) 0 = e5 at *
        generalize Wl.hdS s l.base (l.epoch + 1) 0 = s5 at *
        go_enter Tryz.func80, Tryz.ntmps80
        go_wp2_with fail
        refine HRD.mono ?_
        rintro e w' ⟨rfl, hw⟩
        rw [hw]
        clear hw w' HRD
        go_wp2_with fail
        refine HMK.mono ?_
        rintro e w1 ⟨vr1, vw1, vp1, rfl, hL1, hT1⟩
        have HL1 : Hid (LP w1 q g vr1 vw1 l kg vp1 s5) := hL1
        have HT1 : Hid (Turn (lfoot q g vr vw kg vp) (lfoot q g vr1 vw1 kg vp1) w w1) := hT1
        clear hL1 hT1 HMK c3 c6
        by_cases h5 : e5 = 0
        · subst h5
          have HE3 : Hid (l3 = { l with epoch := l.epoch + 1, bytes := Wl.ob [], recs := [] }) := by rw [HE2.out, if_pos rfl]; trivial
          rw [HE3.out] at HOK
          have c3 := HL1.out.pk.c3
          have c4 := HL1.out.pk.c4
          have c5 := HL1.out.pk.c5
          have f3 := HL1.out.pk.fz 3
          have f4 := HL1.out.pk.fz 4
          have f5 := HL1.out.pk.fz 5
          obtain ⟨hx1, hx2⟩ := HL1.out.pk.emptied HOK.out
          obtain ⟨hy1, hy2⟩ := HL1.out.p hx1 hx2 rfl rfl
          have HFN : Hid (LDoes w q g vr vw kg vp l3 s5 0 (.returned (.int .i64 0)) (((w1.setCell ⟨q, 3, none⟩ (.int .i64 ((l.epoch : Int) + 1))).setCell ⟨q, 4, none⟩ (.int .i64 0)).setCell ⟨q, 5, none⟩ (.slice none 0 0))) := by
            rw [HE3.out]
            exact ⟨_, _, _, rfl, hy1, HT1.out.trans hy2⟩
          clear hx1 hx2 hy1 hy2
          go_wp2
          go_ret
          exact HFN.out
        · have hb5 : (e5 != 0) = true := by simp [h5]
          have HE3 : Hid (l3 = Wl.lose l e5) := by rw [HE2.out, if_neg h5]; trivial
          have HLO := lose_any q g vr1 vw1 l e5 w1 HL1.out.pk h5
          clear h5
          go_wp2_with fail
          refine HLO.mono ?_
          intro r w2 hP2
          obtain ⟨vr2, vw2, vp2, rfl, hL2, hT2⟩ := HL1.out.lose hP2
          have HFN : Hid (LDoes w q g vr vw kg vp l3 s5 e5 (.returned (.int .i64 e5)) w2) := by rw [HE3.out]; exact ⟨vr2, vw2, vp2, rfl, hL2, HT1.out.trans hT2⟩
          clear hP2 hL2 hT2 HLO
          go_wp2
          go_ret
          exact HFN.out
end Go.Proofs.YtcfninpokngmlaaGreatDoor
