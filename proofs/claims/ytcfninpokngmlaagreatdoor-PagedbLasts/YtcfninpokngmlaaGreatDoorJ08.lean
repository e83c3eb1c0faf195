/- Proved: what writeHead makes of a disk, and Reset of a log and its disk. -/
import Derived.Test.YtcfninpokngmlaaGreatDoorJ07
import Derived.Test.YtcfninpokngmlaaGreatDoorJ03
namespace Go.Proofs.YtcfninpokngmlaaGreatDoor
open Go.RowKit
/- the table is there, and no block of fs is its -/
structure Safe (w : World) (fs : List Nat) : Prop where
  tab : Tab w
  no : 0 ∉ fs
theorem Safe.turn {w w' : World} {fs gs : List Nat} (h : Safe w fs) (hT : Turn fs gs w w') : Safe w' gs := by
  have hp := h.tab.pos
  refine ⟨h.tab.of_block (hT.chg.block 0 hp h.no), hT.apart (rs := [0]) (fun k hk => by rw [List.mem_singleton.1 hk]; exact h.no) (fun k hk => by rw [List.mem_singleton.1 hk]; exact hp) 0 (List.mem_singleton.2 rfl)⟩
theorem Safe.below {w w' : World} {fs : List Nat} (h : Safe w fs) (hB : Below w.heap.size w w') : Safe w' fs := ⟨h.tab.below hB h.tab.pos, h.no⟩
theorem Safe.of {w : World} {fs gs : List Nat} (h : Safe w fs) (hs : ∀ k ∈ gs, k ∈ fs) : Safe w gs := ⟨h.tab, fun hm => h.no (hs 0 hm)⟩
theorem wrap_up (e : Nat) (h : e ≤ 9223372036854775807) : IntKind.u64.wrap (e : Int) = (e : Int) := by rw [IntKind.wrap_u64]; omega
set_option maxHeartbeats 4000000 in
set_option maxRecDepth 20000 in
theorem lmark_any (q g : Nat) (vr vw : Value) (l : Wl.Lg) (kg : Nat) (vp : Value) (s : Sc.St) (e len : Nat) (w : World) (L : LP w q g vr vw l kg vp s) (hT : Tab w) (he : e ≤ 9223372036854775807) (hlen : len ≤ 9223372036854775807) (hn : s.dn ≤ 100000) (hp : s.pend.length ≤ 20000) :
    Calls Tryz.prog 110 #[ptr q, .int .i64 (e : Int), .int .i64 (len : Int)] w (LDoes w q g vr vw kg vp l (Wl.hdS s l.base e len) (Wl.hdE s l.base e len)) := by
  have HL : Hid (LP w q g vr vw l kg vp s) := L
  have HLD : Hid (LP w.drew q g vr vw l kg vp s) := L.drew
  have HS : Hid ((fun U : World => U.cell? ⟨q, 0, none⟩ = some (ptr g) ∧ U.cell? ⟨q, 1, none⟩ = some (.int .i64 (l.base : Int))) w.drew) := ⟨L.pk.c0, L.pk.c1⟩
  have HHD : Hid (Calls Tryz.prog 126 #[.int .u64 (e : Int), .int .u64 (len : Int)] w.drew fun r w' => r = .returned (.string (Wl.head e len)) ∧ Below w.drew.heap.size w.drew w') := head_any e len _ hT.drew (by omega) (by omega)
  have hw1 := wrap_up e he
  have hw2 := wrap_up len hlen
  clear L hT
  go_enter Tryz.func110, Tryz.ntmps110
  go_wp2_with fail
  refine wp_region_held_drew (S := fun U => U.cell? ⟨q, 0, none⟩ = some (ptr g) ∧ U.cell? ⟨q, 1, none⟩ = some (.int .i64 (l.base : Int))) (by kernel_rfl) HS.out (fun _ => ?_)
  refine heldTake 0 (some 8) (ptr q) rfl rfl (by kernel_rfl) (by kernel_rfl) (by kernel_rfl) (fun _ _ _ h => h) (Or.inl ⟨by rfl, fun w hS => ?_⟩) HS.out ?_
  · (go_simp)
  simp only [Act.put, List.setIfInBounds_toArray, List.set_cons_zero, List.set_cons_succ]
  refine heldTake 1 (some 9) (ptr q) rfl rfl (by kernel_rfl) (by kernel_rfl) (by kernel_rfl) (fun _ _ _ h => h) (Or.inl ⟨by rfl, fun w hS => ?_⟩) HS.out ?_
  · (go_simp)
  simp only [Act.put, List.setIfInBounds_toArray, List.set_cons_zero, List.set_cons_succ]
  refine heldTake 2 (some 10) (ptr q) rfl rfl (by kernel_rfl) (by kernel_rfl) (by kernel_rfl) (fun _ _ _ h => h) (Or.inl ⟨by rfl, fun w hS => ?_⟩) HS.out ?_
  · (go_simp)
  simp only [Act.put, List.setIfInBounds_toArray, List.set_cons_zero, List.set_cons_succ]
  refine heldTake 3 (some 11) (ptr g) rfl rfl (by kernel_rfl) (by kernel_rfl) (by kernel_rfl) (fun _ _ _ h => h) (Or.inl ⟨by rfl, fun w hS => ?_⟩) HS.out ?_
  · (obtain ⟨p0, p1⟩ := hS; go_simp)
  simp only [Act.put, List.setIfInBounds_toArray, List.set_cons_zero, List.set_cons_succ]
  refine heldTake 4 (some 12) (ptr q) rfl rfl (by kernel_rfl) (by kernel_rfl) (by kernel_rfl) (fun _ _ _ h => h) (Or.inl ⟨by rfl, fun w hS => ?_⟩) HS.out ?_
  · (go_simp)
  simp only [Act.put, List.setIfInBounds_toArray, List.set_cons_zero, List.set_cons_succ]
  refine heldTake 5 (some 13) (ptr q) rfl rfl (by kernel_rfl) (by kernel_rfl) (by kernel_rfl) (fun _ _ _ h => h) (Or.inl ⟨by rfl, fun w hS => ?_⟩) HS.out ?_
  · (go_simp)
  simp only [Act.put, List.setIfInBounds_toArray, List.set_cons_zero, List.set_cons_succ]
  refine heldTake 6 (some 14) (.pointer (some ⟨q, 1, none⟩)) rfl rfl (by kernel_rfl) (by kernel_rfl) (by kernel_rfl) (fun _ _ _ h => h) (Or.inl ⟨by rfl, fun w hS => ?_⟩) HS.out ?_
  · (go_simp)
  simp only [Act.put, List.setIfInBounds_toArray, List.set_cons_zero, List.set_cons_succ]
  refine heldTake 7 (some 15) (.int .i64 (l.base : Int)) rfl rfl (by kernel_rfl) (by kernel_rfl) (by kernel_rfl) (fun _ _ _ h => h) (Or.inl ⟨by rfl, fun w hS => ?_⟩) HS.out ?_
  · (obtain ⟨p0, p1⟩ := hS; go_simp)
  simp only [Act.put, List.setIfInBounds_toArray, List.set_cons_zero, List.set_cons_succ]
  refine heldTake 8 (some 16) (.int .i64 (e : Int)) rfl rfl (by kernel_rfl) (by kernel_rfl) (by kernel_rfl) (fun _ _ _ h => h) (Or.inl ⟨by rfl, fun w hS => ?_⟩) HS.out ?_
  · (go_simp)
  simp only [Act.put, List.setIfInBounds_toArray, List.set_cons_zero, List.set_cons_succ]
  refine heldTake 9 (some 17) (.int .u64 (e : Int)) rfl rfl (by kernel_rfl) (by kernel_rfl) (by kernel_rfl) (fun _ _ _ h => h) (Or.inl ⟨by rfl, fun w hS => ?_⟩) HS.out ?_
  · (go_simp)
  simp only [Act.put, List.setIfInBounds_toArray, List.set_cons_zero, List.set_cons_succ]
  refine heldTake 10 (some 18) (.int .i64 (len : Int)) rfl rfl (by kernel_rfl) (by kernel_rfl) (by kernel_rfl) (fun _ _ _ h => h) (Or.inl ⟨by rfl, fun w hS => ?_⟩) HS.out ?_
  · (go_simp)
  simp only [Act.put, List.setIfInBounds_toArray, List.set_cons_zero, List.set_cons_succ]
  refine heldTake 11 (some 19) (.int .u64 (len : Int)) rfl rfl (by kernel_rfl) (by kernel_rfl) (by kernel_rfl) (fun _ _ _ h => h) (Or.inl ⟨by rfl, fun w hS => ?_⟩) HS.out ?_
  · (go_simp)
  simp only [Act.put, List.setIfInBounds_toArray, List.set_cons_zero, List.set_cons_succ]
  refine heldOne 12 (by kernel_rfl) rfl (by rfl) (fun KK hK => ?_)
  go_simp
  go_at_call 126
  refine HHD.out.mono ?_
  rintro r w1 ⟨rfl, hB1⟩
  have HL1 : Hid (LP w1 q g vr vw l kg vp s) := HLD.out.below hB1
  have HT1 : Hid (Turn (lfoot q g vr vw kg vp) (lfoot q g vr vw kg vp) w w1) := (Turn.refl _ w).drew.trans (Turn.of_below hB1)
  have HS1 : Hid ((fun U : World => U.cell? ⟨q, 0, none⟩ = some (ptr g) ∧ U.cell? ⟨q, 1, none⟩ = some (.int .i64 (l.base : Int))) w1) := ⟨HL1.out.pk.c0, HL1.out.pk.c1⟩
  clear hB1 HHD
  refine hK.out _ _ HS1.out ?_
  clear hK KK
  refine heldOne 13 (by kernel_rfl) rfl (by rfl) (fun KK hK => ?_)
  go_simp
  go_at_call 106
  refine (write_any g kg vp s (l.base : Int) (Wl.head e len) w1 HL1.out.dk (by omega) (by omega)).mono ?_
  have hst := Sc.writeS_step s (l.base : Int) (Wl.head e len)
  have hst1 := hst.len
  have hst2 := hst.dn
  clear hst
  have hC := Wl.hd_cases s l.base e len
  generalize Sc.writeS s (l.base : Int) (Wl.head e len) = s2 at *
  generalize Sc.writeE s (l.base : Int) (Wl.head e len) = e2 at *
  rintro r w2 ⟨vp2, rfl, hR2, hT2⟩
  obtain ⟨hL2, hTL2⟩ := HL1.out.d hR2 hT2 hst1
  have HL2 : Hid (LP w2 q g vr vw l kg vp2 s2) := hL2
  have HT2 : Hid (Turn (lfoot q g vr vw kg vp) (lfoot q g vr vw kg vp2) w w2) := HT1.out.trans hTL2
  have HS2 : Hid ((fun U : World => U.cell? ⟨q, 0, none⟩ = some (ptr g) ∧ U.cell? ⟨q, 1, none⟩ = some (.int .i64 (l.base : Int))) w2) := ⟨hL2.pk.c0, hL2.pk.c1⟩
  clear hR2 hT2 hL2 hTL2
  refine hK.out _ _ HS2.out ?_
  clear hK KK
  refine heldTake 14 (some 7) (.int .i64 e2) rfl rfl (by kernel_rfl) (by kernel_rfl) (by kernel_rfl) (fun _ _ _ h => h) (Or.inl ⟨by rfl, fun w hS => ?_⟩) HS2.out ?_
  · (go_simp)
  simp only [Act.put, List.setIfInBounds_toArray, List.set_cons_zero, List.set_cons_succ]
  refine wpAnyH_done (by kernel_rfl) ?_ _
  have c0 := HL2.out.pk.c0
  by_cases h2 : e2 = 0
  · subst h2
    obtain ⟨hC1, hC2⟩ := hC.1 rfl
    have HFL := flush_any g kg vp2 s2 w2 HL2.out.dk (by omega)
    have hfs := (Sc.flushS_step s2).len
    generalize Sc.flushS s2 = s3 at *
    generalize Sc.flushE s2 = e3 at *
    have HC : Hid (Wl.hdS s l.base e len = s3 ∧ Wl.hdE s l.base e len = e3) := ⟨hC1, hC2⟩
    clear hC hC1 hC2
    go_wp2_with fail
    refine HFL.mono ?_
    rintro r w3 ⟨vp3, rfl, hR3, hT3⟩
    obtain ⟨hL3, hTL3⟩ := HL2.out.d hR3 hT3 hfs
    have HFN : Hid (LDoes w q g vr vw kg vp l (Wl.hdS s l.base e len) (Wl.hdE s l.base e len) (.returned (.int .i64 e3)) w3) := by
      obtain ⟨hC1, hC2⟩ := HC.out
      rw [hC1, hC2]
      exact ⟨vr, vw, vp3, rfl, hL3, HT2.out.trans hTL3⟩
    clear hR3 hT3 hL3 hTL3 HFL c0
    go_wp2
    go_ret
    exact HFN.out
  · have hb3 : (e2 != 0) = true := by simp [h2]
    obtain ⟨hC1, hC2⟩ := hC.2 h2
    have HFN : Hid (LDoes w q g vr vw kg vp l (Wl.hdS s l.base e len) (Wl.hdE s l.base e len) (.returned (.int .i64 e2)) w2) := by
      rw [hC1, hC2]
      exact ⟨vr, vw, vp2, rfl, HL2.out, HT2.out⟩
    clear hC hC1 hC2
    go_wp2
    go_ret
    exact HFN.out
/- a reset: the head of the next epoch, no records -/
theorem Pk.emptied {w : World} {q g : Nat} {vr vw : Value} {l : Wl.Lg} (H : Pk w q g vr vw l) (ok : Wl.Lg.Ok { l with epoch := l.epoch + 1, bytes := Wl.ob [], recs := [] }) :
    Pk (((w.setCell ⟨q, 3, none⟩ (.int .i64 ((l.epoch : Int) + 1))).setCell ⟨q, 4, none⟩ (.int .i64 0)).setCell ⟨q, 5, none⟩ (.slice none 0 0)) q g (.slice none 0 0) vw { l with epoch := l.epoch + 1, bytes := Wl.ob [], recs := [] } ∧
    Turn (pfoot q vr vw) (pfoot q (.slice none 0 0) vw) w (((w.setCell ⟨q, 3, none⟩ (.int .i64 ((l.epoch : Int) + 1))).setCell ⟨q, 4, none⟩ (.int .i64 0)).setCell ⟨q, 5, none⟩ (.slice none 0 0)) := by
  have hC : Chg [q] w (((w.setCell ⟨q, 3, none⟩ (.int .i64 ((l.epoch : Int) + 1))).setCell ⟨q, 4, none⟩ (.int .i64 0)).setCell ⟨q, 5, none⟩ (.slice none 0 0)) := ((Chg.setCell _ q 3 _).trans (Chg.setCell _ q 4 _)).trans (Chg.setCell _ q 5 _)
  refine ⟨⟨?_, own_nil _, own_keep H.wait (fun k hk => hC.block k (H.lt k (by simp [pfoot, hk])) (fun e => H.hw (by rw [hk, List.mem_singleton.1 e]))), (by intro e; cases e), H.hw, (by intro k e; cases e), ok⟩, ⟨hC.mono (fun k hk => by rw [List.mem_singleton.1 hk]; simp [pfoot]), fun k hk => .inl ?_⟩⟩
  · rw [heap_setCell_same _ q 5 _ _ _ (heap_setCell_same _ q 4 _ _ _ (heap_setCell_same w q 3 _ _ _ H.row))]
    rfl
  · simp only [pfoot, List.mem_cons, List.mem_append, Option.mem_toList] at hk ⊢
    rcases hk with h1 | h1 | h1
    · exact .inl h1
    · cases h1
    · exact .inr (.inr h1)
theorem LP.lose {w w' : World} {q g kg : Nat} {vr vw vp : Value} {l : Wl.Lg} {s : Sc.St} {e : Int} {r : Ending} (L : LP w q g vr vw l kg vp s) (h : PDoes w q g vr vw (Wl.lose l e) e r w') : LDoes w q g vr vw kg vp (Wl.lose l e) s e r w' := by
  obtain ⟨vr', vw', h1, h2, h3⟩ := h
  have hb : (Wl.lose l e).base = l.base := by unfold Wl.lose; split <;> rfl
  have hn : (Wl.lose l e).n = l.n := by unfold Wl.lose; split <;> rfl
  obtain ⟨h4, h5⟩ := L.p h2 h3 hb hn
  exact ⟨vr', vw', vp, h1, h4, h5⟩
set_option maxHeartbeats 4000000 in
set_option maxRecDepth 20000 in
theorem lreset_any (q g : Nat) (vr vw : Value) (l : Wl.Lg) (kg : Nat) (vp : Value) (s : Sc.St) (w : World) (L : LP w q g vr vw l kg vp s) (hT : Tab w) (hn : s.dn ≤ 100000) (hp : s.pend.length ≤ 20000) :
    Calls Tryz.prog 80 #[ptr q] w (LDoes w q g vr vw kg vp (Wl.resetL l s) (Wl.resetS l s) (Wl.resetE l s)) := by
  have c6 := L.pk.c6
  have c3 := L.pk.c3
  have hep := L.pk.ok.epoch
  have HRD := lready_any q g vr vw l w L.pk
  unfold lreadyE at HRD
  have HOK : Hid ((Wl.resetL l s).Ok) := Wl.resetL_ok L.pk.ok s
  have HL : Hid (LP w q g vr vw l kg vp s) := L
  have HKEEP : Hid (∀ n, LDoes w q g vr vw kg vp l s n (.returned (.int .i64 n)) w) := fun n => ⟨vr, vw, vp, rfl, HL.out, Turn.refl _ _⟩
  have HTB : Hid (Tab w) := hT
  obtain ⟨wa, wcap, hwv⟩ := L.pk.wval
  rw [hwv] at c6
  clear L hT
  by_cases h1 : l.lost = true
  · have e1 : Wl.resetE l s = 10 := by unfold Wl.resetE; rw [if_pos h1]
    have e2 : Wl.resetL l s = l := by unfold Wl.resetL; rw [if_pos h1]
    have e3 : Wl.resetS l s = s := by unfold Wl.resetS; rw [if_pos h1]
    rw [e1, e2, e3]
    rw [if_pos h1] at HRD
    clear e1 e2 e3 hwv HOK
    go_enter Tryz.func80, Tryz.ntmps80
    go_wp2_with (go_at_call 109; refine HRD.mono ?_; rintro e w' ⟨rfl, rfl⟩)
    go_ret
    exact HKEEP.out 10
  · rw [if_neg h1] at HRD
    by_cases h2 : 0 < l.wait.length
    · have e1 : Wl.resetE l s = 9 := by unfold Wl.resetE; rw [if_neg h1, if_pos h2]
      have e2 : Wl.resetL l s = l := by unfold Wl.resetL; rw [if_neg h1, if_pos h2]
      have e3 : Wl.resetS l s = s := by unfold Wl.resetS; rw [if_neg h1, if_pos h2]
      rw [e1, e2, e3]
      have d1 : decide ((0 : Int) < (l.wait.length : Int)) = true := decide_eq_true (by omega)
      clear e1 e2 e3 hwv HOK
      go_enter Tryz.func80, Tryz.ntmps80
      go_wp2_with (go_at_call 109; refine HRD.mono ?_; rintro e w' ⟨rfl, rfl⟩)
      go_ret
      exact HKEEP.out 9
    · have d1 : decide ((0 : Int) < (l.wait.length : Int)) = false := decide_eq_false (by omega)
      by_cases h3 : l.epoch = 4611686018427387904
      · have e1 : Wl.resetE l s = 7 := by unfold Wl.resetE; rw [if_neg h1, if_neg h2, if_pos h3]
        have e2 : Wl.resetL l s = l := by unfold Wl.resetL; rw [if_neg h1, if_neg h2, if_pos h3]
        have e3 : Wl.resetS l s = s := by unfold Wl.resetS; rw [if_neg h1, if_neg h2, if_pos h3]
        rw [e1, e2, e3]
        have d2 : ((l.epoch : Int) == 4611686018427387904) = true := by rw [beq_iff_eq]; omega
        clear e1 e2 e3 hwv HOK h3
        go_enter Tryz.func80, Tryz.ntmps80
        go_wp2_with (go_at_call 109; refine HRD.mono ?_; rintro e w' ⟨rfl, rfl⟩)
        go_ret
        exact HKEEP.out 7
      · have d2 : ((l.epoch : Int) == 4611686018427387904) = false := by rw [beq_eq_false_iff_ne]; omega
        have e1 : Wl.resetE l s = Wl.hdE s l.base (l.epoch + 1) 0 := by unfold Wl.resetE; rw [if_neg h1, if_neg h2, if_neg h3]
        have e2 : Wl.resetL l s = if Wl.hdE s l.base (l.epoch + 1) 0 = 0 then { l with epoch := l.epoch + 1, bytes := Wl.ob [], recs := [] } else Wl.lose l (Wl.hdE s l.base (l.epoch + 1) 0) := by unfold Wl.resetL; rw [if_neg h1, if_neg h2, if_neg h3]
        have e3 : Wl.resetS l s = Wl.hdS s l.base (l.epoch + 1) 0 := by unfold Wl.resetS; rw [if_neg h1, if_neg h2, if_neg h3]
        rw [e1, e3]
        have HE2 : Hid (Wl.resetL l s = if Wl.hdE s l.base (l.epoch + 1) 0 = 0 then { l with epoch := l.epoch + 1, bytes := Wl.ob [], recs := [] } else Wl.lose l (Wl.hdE s l.base (l.epoch + 1) 0)) := e2
        have HMK := lmark_any q g vr vw l kg vp s (l.epoch + 1) 0 w HL.out HTB.out (by omega) (by omega) hn hp
        rw [show ((l.epoch + 1 : Nat) : Int) = (l.epoch : Int) + 1 by omega] at HMK
        clear e1 e2 e3 hwv HKEEP
        generalize Wl.resetL l s = l3 at *
        generalize Wl.hdE s l.base (l.epoch + 1) 0 = e5 at *
        generalize Wl.hdS s l.base (l.epoch + 1) 0 = s5 at *
        go_enter Tryz.func80, Tryz.ntmps80
        go_wp2_with fail
        refine HRD.mono ?_
        rintro e w' ⟨rfl, hw⟩
        rw [hw]
        clear hw w' HRD
        go_wp2_with fail
        refine HMK.mono ?_
        rintro e w1 ⟨vr1, vw1, vp1, rfl, hL1, hT1⟩
        have HL1 : Hid (LP w1 q g vr1 vw1 l kg vp1 s5) := hL1
        have HT1 : Hid (Turn (lfoot q g vr vw kg vp) (lfoot q g vr1 vw1 kg vp1) w w1) := hT1
        clear hL1 hT1 HMK c3 c6
        by_cases h5 : e5 = 0
        · subst h5
          have HE3 : Hid (l3 = { l with epoch := l.epoch + 1, bytes := Wl.ob [], recs := [] }) := by rw [HE2.out, if_pos rfl]; trivial
          rw [HE3.out] at HOK
          have c3 := HL1.out.pk.c3
          have c4 := HL1.out.pk.c4
          have c5 := HL1.out.pk.c5
          have f3 := HL1.out.pk.fz 3
          have f4 := HL1.out.pk.fz 4
          have f5 := HL1.out.pk.fz 5
          obtain ⟨hx1, hx2⟩ := HL1.out.pk.emptied HOK.out
          obtain ⟨hy1, hy2⟩ := HL1.out.p hx1 hx2 rfl rfl
          have HFN : Hid (LDoes w q g vr vw kg vp l3 s5 0 (.returned (.int .i64 0)) (((w1.setCell ⟨q, 3, none⟩ (.int .i64 ((l.epoch : Int) + 1))).setCell ⟨q, 4, none⟩ (.int .i64 0)).setCell ⟨q, 5, none⟩ (.slice none 0 0))) := by
            rw [HE3.out]
            exact ⟨_, _, _, rfl, hy1, HT1.out.trans hy2⟩
          clear hx1 hx2 hy1 hy2
          go_wp2
          go_ret
          exact HFN.out
        · have hb5 : (e5 != 0) = true := by simp [h5]
          have HE3 : Hid (l3 = Wl.lose l e5) := by rw [HE2.out, if_neg h5]; trivial
          have HLO := lose_any q g vr1 vw1 l e5 w1 HL1.out.pk h5
          clear h5
          go_wp2_with fail
          refine HLO.mono ?_
          intro r w2 hP2
          obtain ⟨vr2, vw2, vp2, rfl, hL2, hT2⟩ := HL1.out.lose hP2
          have HFN : Hid (LDoes w q g vr vw kg vp l3 s5 e5 (.returned (.int .i64 e5)) w2) := by rw [HE3.out]; exact ⟨vr2, vw2, vp2, rfl, hL2, HT1.out.trans hT2⟩
          clear hP2 hL2 hT2 HLO
          go_wp2
          go_ret
          exact HFN.out
end Go.Proofs.YtcfninpokngmlaaGreatDoor
/- Proved: plain facts of the bytes that a sync writes (stage 8). No program is named. -/
namespace Wl
open Sc (St)
/- what writeWaiting does: the writes, then a flush -/
def wwT (l : Lg) (s : St) : St × Int := if (writes l s).2 = 0 then (Sc.flushS (writes l s).1, Sc.flushE (writes l s).1) else writes l s
theorem syncT_ww (l : Lg) (s : St) : syncT l s = if (wwT l s).2 = 0 then (hdS (wwT l s).1 l.base l.epoch (all l).size, hdE (wwT l s).1 l.base l.epoch (all l).size) else wwT l s := by
  unfold syncT wwT
  by_cases h1 : (writes l s).2 = 0
  · rw [if_pos h1, if_pos h1]
  · rw [if_neg h1, if_neg h1, if_neg h1]
/- what is left to write from the sector kk on -/
def left (al : List UInt8) (kk : Nat) : ByteArray := ob (al.drop (64 * kk))
theorem left_size (al : List UInt8) (kk : Nat) : (left al kk).size = al.length - 64 * kk := by unfold left; rw [ob_size, List.length_drop]
theorem left_split (al : List UInt8) (kk : Nat) : left al kk = ob (sec al kk) ++ left al (kk + 1) := by
  apply ext_list
  unfold left sec
  rw [app_list, ob_list, ob_list, ob_list, show 64 * (kk + 1) = 64 * kk + 64 by omega, ← List.drop_drop, List.take_append_drop]
theorem sec_size (al : List UInt8) (kk : Nat) : (ob (sec al kk)).size = min (al.length - 64 * kk) 64 := by
  unfold sec
  rw [ob_size, List.length_take, List.length_drop]
  omega
/- the bytes of the sector in which the length ends, and the frames behind them -/
def tail (b : ByteArray) : ByteArray := b.extract (64 * (b.size / 64)) b.size
theorem tail_size (b : ByteArray) : (tail b).size = b.size % 64 := by unfold tail; simp; omega
theorem tail_list (b : ByteArray) : (tail b).data.toList = b.data.toList.drop (64 * (b.size / 64)) := by
  unfold tail
  rw [ext_ext, Sc.size_eq, List.take_length]
theorem tail_at (b : ByteArray) (j : Nat) : (tail b).data.toList[j]? = b.data.toList[64 * (b.size / 64) + j]? := by rw [tail_list, List.getElem?_drop]
theorem tail_all (l : Lg) : tail l.bytes ++ frames l.wait = left (all l).data.toList (l.bytes.size / 64) := by
  apply ext_list
  unfold left all
  have h : 64 * (l.bytes.size / 64) ≤ l.bytes.data.toList.length := by rw [← Sc.size_eq]; omega
  rw [app_list, tail_list, ob_list, app_list, List.drop_append, show 64 * (l.bytes.size / 64) - l.bytes.data.toList.length = 0 by omega, List.drop_zero]
end Wl
/- Proved: what writeWaiting makes of a log's disk. -/
namespace Go.Proofs.YtcfninpokngmlaaGreatDoor
open Go.RowKit
/- bytes that lie in block b, from some place on -/
def Rb (b : Nat) (w : World) (v : Value) (R : ByteArray) : Prop := ∃ a c, v = .slice a R.size c ∧ R.size ≤ c ∧ c ≤ 9223372036854775807 ∧ (0 < R.size → ∃ off, a = some ⟨b, off, none⟩ ∧ w.rangeAt b off (bc R))
theorem Rb.of_own {w : World} {N : Nat} {v : Value} {y : ByteArray} (h : OwnB w N v y) (h0 : 0 < y.size) : ∃ b, N ≤ b ∧ b < w.heap.size ∧ Rb b w v y := by
  obtain ⟨a, c, h1, h2, h3, h4⟩ := own_range h
  obtain ⟨b, hb1, hb2, hb3, hb4⟩ := h4 h0
  exact ⟨b, hb2, hb3, a, c, h1, h2, h3, fun _ => ⟨0, hb1, hb4⟩⟩
set_option maxHeartbeats 8000000 in
set_option maxRecDepth 20000 in
theorem lww_any (q g : Nat) (vr vw : Value) (l : Wl.Lg) (kg : Nat) (vp : Value) (s : Sc.St) (w : World) (L : LP w q g vr vw l kg vp s) (hT : Tab w) (hd : s.down = false) (htl : ∀ j, j < l.bytes.size % 64 → (Sc.now s (l.base + 1 + l.bytes.size / 64)).data.toList[j]? = l.bytes.data.toList[64 * (l.bytes.size / 64) + j]?) (hw0 : 0 < l.wait.length) (hn : s.dn + l.n ≤ 90000) (hp : s.pend.length + l.n ≤ 19000) :
    Calls Tryz.prog 120 #[ptr q] w (LDoes w q g vr vw kg vp l (Wl.wwT l s).1 (Wl.wwT l s).2) := by
  have c1 := L.pk.c1
  have c4 := L.pk.c4
  have HL : Hid (LP w q g vr vw l kg vp s) := L
  have HTB : Hid (Tab w) := hT
  have hpos := hT.pos
  have HTL : Hid (∀ j, j < l.bytes.size % 64 → (Sc.now s (l.base + 1 + l.bytes.size / 64)).data.toList[j]? = l.bytes.data.toList[64 * (l.bytes.size / 64) + j]?) := htl
  have h2n := L.pk.ok.two
  have hmost := L.pk.ok.most
  have hroom := L.pk.ok.room
  have hfits := L.fits
  have HFIT : Hid (Wl.Fit l.wait) := L.pk.ok.fit
  have hwl := L.pk.wlen
  have HWW : Hid (Wl.wwT l s = if (Wl.writes l s).2 = 0 then (Sc.flushS (Wl.writes l s).1, Sc.flushE (Wl.writes l s).1) else Wl.writes l s) := rfl
  have HWR : Hid (Wl.puts l.base (Wl.all l).data.toList (Wl.many l.bytes.size (Wl.all l).size) (l.bytes.size / 64) s = Wl.writes l s) := rfl
  have hts := Wl.all_size l
  have hbz : l.bytes.size ≤ 4194304 := by omega
  clear L hT htl
  generalize Wl.wwT l s = T at *
  generalize Wl.writes l s = Wr at *
  go_enter Tryz.func120, Tryz.ntmps120
  go_wp2_with fail
  go_quiet (fail)
  have HBq : Hid (Below w.heap.size w (w.drewN nq)) := below_drewN w nq
  have HLq : Hid (LP (w.drewN nq) q g vr vw l kg vp s) := HL.out.below HBq.out
  have hsq : (w.drewN nq).heap.size = w.heap.size := rfl
  have HSQ : Hid ((w.drewN nq).heap.size = w.heap.size) := hsq
  clear hsq
  generalize w.drewN nq = W at *
  clear c1 c4
  have c1 := HLq.out.pk.c1
  have c4 := HLq.out.pk.c4
  have c0 := HLq.out.pk.c0
  go_wp2_with fail
  have hk1 : (l.base : Int) + 1 + (l.bytes.size : Int) / 64 = ((l.base + 1 + l.bytes.size / 64 : Nat) : Int) := by omega
  have hk2 : (l.bytes.size : Int) % 64 = ((l.bytes.size % 64 : Nat) : Int) := by omega
  rw [hk1, hk2]
  have HRD := lread_any q g kg vp s (l.base + 1 + l.bytes.size / 64) (l.bytes.size % 64) (Wl.tail l.bytes) W c0 HLq.out.dk hd (Wl.tail_size _) (by omega) (by omega) (fun i hi => by omega) (fun i j hj hij => by
    obtain rfl : i = 0 := by omega
    rw [Nat.mul_zero, Nat.zero_add, Nat.add_zero] at *
    rw [HTL.out j hij, Wl.tail_at])
  refine HRD.mono ?_
  rintro e w1 ⟨v1, rfl, hO1, hB1⟩
  rw [HSQ.out] at hO1 hB1
  have HO1 : Hid (OwnB w1 w.heap.size v1 (Wl.tail l.bytes)) := hO1
  have HB1 : Hid (Below w.heap.size w w1) := HBq.out.trans hB1
  have HL1 : Hid (LP w1 q g vr vw l kg vp s) := HL.out.below HB1.out
  have hs1 := HB1.out.size
  clear hO1 hB1 HRD HLq HBq HTL c0 c1 c4 hk1 hk2 HSQ
  have c6 := HL1.out.pk.c6
  obtain ⟨wa, wcap, hwv, hwc1, hwc2, hwr⟩ := own_strs HL1.out.pk.wait
  have HWS : Hid (0 < l.wait.length → ∃ g', wa = some ⟨g', 0, none⟩ ∧ vw.ownBlock = some g' ∧ ∀ i r, l.wait[i]? = some r → w1.cell? ⟨g', i, none⟩ = some (.string r)) := hwr
  rw [hwv] at c6
  have HWV : Hid (vw = .slice wa l.wait.length wcap) := hwv
  clear hwr hwv
  have hmz := Wl.many_le l.bytes.size (Wl.all l).size l.n (by omega) h2n
  have HNU : Hid (∀ j, 64 * (l.bytes.size / 64 + j) < (Wl.all l).size → j < Wl.many l.bytes.size (Wl.all l).size) := fun j => Wl.many_num _ _ _ j rfl
  have HMO : Hid (∀ j, ¬ 64 * (l.bytes.size / 64 + j) < (Wl.all l).size → Wl.many l.bytes.size (Wl.all l).size ≤ j) := fun j => Wl.many_most _ _ _ j rfl
  have hal : (Wl.all l).size ≤ 64 * (l.n - 1) := by omega
  have hks : l.bytes.size / 64 ≤ l.n := by omega
  have HA0 : Hid (l.base + 1 + l.bytes.size / 64 = l.base + 1 + l.bytes.size / 64) := rfl
  generalize ha0 : l.base + 1 + l.bytes.size / 64 = a0 at *
  have HA : Hid (a0 = l.base + 1 + l.bytes.size / 64) := ha0.symm
  have ha1 : a0 ≤ 200000 := by omega
  clear HA0 ha0
  go_wp2_with fail
  go_loopw [4, 7, 40] (fun s4 _ s40 wr => ∃ k : Nat, k ≤ l.wait.length ∧ s40 = .int .i64 (k : Int) ∧ OwnB wr w.heap.size s4 (Wl.tail l.bytes ++ Wl.frames (l.wait.take k)) ∧ Below w.heap.size w1 wr) (fun _ _ s40 _ => l.wait.length - (intOf s40).toNat)
  case atStart => exact ⟨0, by omega, rfl, (by rw [List.take_zero, Wl.app_none]; exact HO1.out), Below.refl _ _⟩
  case round =>
    obtain ⟨k, hk, rfl, hO, hB⟩ := hrel
    have HO := (show Hid (OwnB wr w.heap.size _ (Wl.tail l.bytes ++ Wl.frames (l.wait.take k))) from hO)
    have HBr : Hid (Below w.heap.size w1 wr) := hB
    have HBw : Hid (Below w.heap.size w wr) := HB1.out.trans hB
    have hsr := HBw.out.size
    clear hO hB HO1
    by_cases hkl : k < l.wait.length
    · have dk : decide ((k : Int) < (l.wait.length : Int)) = true := decide_eq_true (by omega)
      obtain ⟨g', rfl, hgw, hcell⟩ := HWS.out (by omega)
      obtain ⟨r, hr⟩ : ∃ r, l.wait[k]? = some r := ⟨_, List.getElem?_eq_getElem hkl⟩
      have hg' : g' < w.heap.size := HL.out.pk.lt g' (by simp [pfoot, hgw])
      have q1 : wr.cell? ⟨g', k, none⟩ = some (.string r) := (HBr.out.cell (p := ⟨g', k, none⟩) hg').trans (hcell k r hr)
      have k0 : (0 : Int) ≤ (k : Int) := by omega
      have k1 : (k : Int) < (l.wait.length : Int) := by omega
      have hrs : r.size ≤ 65536 := HFIT.out r (List.mem_of_getElem? hr)
      have htl := Wl.total_le l.wait k
      have hys : (Wl.tail l.bytes ++ Wl.frames (l.wait.take k)).size ≤ 100000000 := by rw [ByteArray.size_append, Wl.tail_size, Wl.frames_size]; omega
      have HAP := appf_any _ (Wl.tail l.bytes ++ Wl.frames (l.wait.take k)) r w.heap.size wr HO.out hpos hsr (HTB.out.below HBw.out hpos) hrs hys
      have HEQ : Hid (Wl.tail l.bytes ++ Wl.frames (l.wait.take k) ++ Wl.frame r = Wl.tail l.bytes ++ Wl.frames (l.wait.take (k + 1))) := by rw [Wl.frames_take _ _ _ hr, Wl.app_assoc]; trivial
      clear hcell hr htl hgw hys hroom
      go_wp2_with fail
      refine HAP.mono ?_
      rintro e w2 ⟨v2, rfl, hO2, hB2⟩
      have HFN : Hid (∃ k' : Nat, k' ≤ l.wait.length ∧ Value.int .i64 ((k : Int) + 1) = .int .i64 (k' : Int) ∧ OwnB w2 w.heap.size v2 (Wl.tail l.bytes ++ Wl.frames (l.wait.take k')) ∧ Below w.heap.size w1 w2) := ⟨k + 1, by omega, by go_num, (by rw [← HEQ.out]; exact hO2), HBr.out.trans hB2⟩
      clear hO2 hB2 HAP
      go_wp2
      go_roundw
      case rel => first | exact HFN.out | ((repeat apply Exists.intro); exact ⟨HFN.out, rfl⟩)
      case measure => (simp [intOf]) <;> omega
    · have hke : k = l.wait.length := by omega
      have hdk : decide ((k : Int) < (l.wait.length : Int)) = false := decide_eq_false (by omega)
      rw [hke, List.take_length, Wl.tail_all] at HO
      have hls := Wl.left_size (Wl.all l).data.toList (l.bytes.size / 64)
      rw [← Sc.size_eq] at hls
      have htc := Wl.total_count l.wait
      obtain ⟨gb, hgb1, hgb2, hrb⟩ := Rb.of_own HO.out (by omega)
      have HRB := (show Hid (Rb gb wr _ (Wl.left (Wl.all l).data.toList (l.bytes.size / 64))) from hrb)
      have HLr : Hid (LP wr q g vr vw l kg vp s) := HL.out.below HBw.out
      have HTr : Hid (Turn (lfoot q g vr vw kg vp) (lfoot q g vr vw kg vp) w wr) := Turn.of_below HBw.out
      have HGF : Hid (gb ∉ foot g kg vp) := fun h => by have := HL.out.dk.lt gb h; omega
      have hGB2 : gb < wr.heap.size := hgb2
      clear hke hrb hgb1 hgb2 HO hls htc HWS c6 HFIT hroom HB1 HL1 HWV hw0
      generalize Wl.many l.bytes.size (Wl.all l).size = m at *
      generalize l.bytes.size / 64 = k0 at *
      have HALS : Hid ((Wl.all l).data.toList.length = (Wl.all l).size) := (Sc.size_eq _).symm
      clear hts
      generalize (Wl.all l).size = z at *
      generalize (Wl.all l).data.toList = al at *
      go_wp2_with fail
      go_loopw [3, 4, 8, 9] (fun s3 s4 _ _ wr => ∃ (j : Nat) (s' : Sc.St) (vp' : Value), j ≤ m ∧ s3 = .int .i64 ((a0 + j : Nat) : Int) ∧ Rb gb wr s4 (Wl.left al (k0 + j)) ∧ Wl.puts l.base al (m - j) (k0 + j) s' = Wr ∧ LP wr q g vr vw l kg vp' s' ∧ Turn (lfoot q g vr vw kg vp) (lfoot q g vr vw kg vp') w wr ∧ gb ∉ foot g kg vp' ∧ gb < wr.heap.size ∧ s'.dn ≤ s.dn + j ∧ s'.pend.length ≤ s.pend.length + j) (fun s3 _ _ _ _ => a0 + m - (intOf s3).toNat)
      case atStart => exact ⟨0, s, vp, by omega, rfl, HRB.out, HWR.out, HLr.out, HTr.out, HGF.out, hGB2, by omega, by omega⟩
      case round =>
        obtain ⟨j, s', vp', hj, rfl, hRb, hpu, hLr, hTr, hgf, hgl, hdn', hpe'⟩ := hrel
        obtain ⟨ra, rc, rfl, hrc1, hrc2, hrg⟩ := hRb
        have HPU : Hid (Wl.puts l.base al (m - j) (k0 + j) s' = Wr) := hpu
        have HLr := (show Hid (LP _ q g vr vw l kg vp' s') from hLr)
        have HTr := (show Hid (Turn (lfoot q g vr vw kg vp) (lfoot q g vr vw kg vp') w _) from hTr)
        have HGF : Hid (gb ∉ foot g kg vp') := hgf
        clear hpu hLr hTr HWR HRB hgf
        have hnj := HNU.out j
        have hmj := HMO.out j
        have hav : ((a0 + j : Nat) : Int) = (l.base : Int) + 1 + ((k0 + j : Nat) : Int) := by have := HA.out; omega
        have hls := Wl.left_size al (k0 + j)
        rw [HALS.out] at hls
        generalize hkk : k0 + j = kk at *
        generalize hAA : a0 + j = A at *
        have hA2 : A ≤ 300000 := by omega
        by_cases hin : 64 * kk < z
        · have hjm := hnj hin
          have hmn : m ≤ l.n := by omega
          have hpm : m - j = (m - (j + 1)) + 1 := by omega
          obtain ⟨off, rfl, hrange⟩ := hrg (by omega)
          have hsp := Wl.left_split al kk
          have hxs := Wl.sec_size al kk
          rw [HALS.out] at hxs
          have hls2 := Wl.left_size al (kk + 1)
          rw [HALS.out] at hls2
          rw [hsp, bc_append] at hrange
          obtain ⟨hX, hX'⟩ := range_app hrange
          rw [bc_length] at hX'
          have HX := (show Hid (World.rangeAt _ gb off (bc (Wl.ob (Wl.sec al kk)))) from hX)
          have HX' := (show Hid (World.rangeAt _ gb (off + (Wl.ob (Wl.sec al kk)).size) (bc (Wl.left al (kk + 1)))) from hX')
          clear hX hX' hrange hsp hrg
          generalize (Wl.left al kk).size = rs at *
          have HYES : Hid (Sc.writeE s' (A : Int) (Wl.ob (Wl.sec al kk)) = 0 → Wl.puts l.base al (m - (j + 1)) (kk + 1) (Sc.writeS s' (A : Int) (Wl.ob (Wl.sec al kk))) = Wr) := fun h => by rw [← HPU.out, hpm]; rw [hav] at h ⊢; rw [Wl.puts_yes h]
          have HNO : Hid (Sc.writeE s' (A : Int) (Wl.ob (Wl.sec al kk)) ≠ 0 → Wr = (Sc.writeS s' (A : Int) (Wl.ob (Wl.sec al kk)), Sc.writeE s' (A : Int) (Wl.ob (Wl.sec al kk)))) := fun h => by rw [← HPU.out, hpm]; rw [hav] at h ⊢; rw [Wl.puts_no h]
          have hst := Sc.writeS_step s' (A : Int) (Wl.ob (Wl.sec al kk))
          have hst1 := hst.len
          have hst2 := hst.dn
          have hst3 := hst.pend
          clear hst
          clear hav
          generalize Wl.ob (Wl.sec al kk) = X at *
          have HR' : Hid ((Wl.left al (kk + 1)).size = z - 64 * (kk + 1)) := hls2
          have hrx : rs - X.size = z - 64 * (kk + 1) := by omega
          have hrp : 0 < rs := by omega
          generalize hcut : X.size = cut at *
          have hmin : min (rs : Int) 64 = (cut : Int) := by omega
          have hcr : (cut : Int) ≤ (rs : Int) := by omega
          have hcc : (cut : Int) ≤ (rc : Int) := by omega
          have hc64 : cut ≤ 64 := by omega
          have dr : decide ((0 : Int) < (rs : Int)) = true := decide_eq_true (by omega)
          clear hls hls2 hxs hnj hmj
          go_wp2_with fail
          have HLD := (show Hid (LP wr.drew q g vr vw l kg vp' s') from HLr.out.drew)
          have HTD := (show Hid (Turn (lfoot q g vr vw kg vp) (lfoot q g vr vw kg vp') w wr.drew) from HTr.out.drew)
          have HS : Hid ((fun U : World => U.cell? ⟨q, 0, none⟩ = some (ptr g) ∧ U.rangeAt gb off (bc X)) wr.drew) := ⟨HLD.out.pk.c0, HX.out⟩
          refine wp_region_held_drew (S := fun U => U.cell? ⟨q, 0, none⟩ = some (ptr g) ∧ U.rangeAt gb off (bc X)) (by kernel_rfl) HS.out (fun _ => ?_)
          refine heldTake 0 (some 56) (ptr q) rfl rfl (by kernel_rfl) (by kernel_rfl) (by kernel_rfl) (fun _ _ _ h => h) (Or.inl ⟨by rfl, fun w hS => ?_⟩) HS.out ?_
          · (go_simp)
          simp only [Act.put, List.setIfInBounds_toArray, List.set_cons_zero, List.set_cons_succ]
          refine heldTake 1 (some 57) (ptr q) rfl rfl (by kernel_rfl) (by kernel_rfl) (by kernel_rfl) (fun _ _ _ h => h) (Or.inl ⟨by rfl, fun w hS => ?_⟩) HS.out ?_
          · (go_simp)
          simp only [Act.put, List.setIfInBounds_toArray, List.set_cons_zero, List.set_cons_succ]
          refine heldTake 2 (some 58) (ptr q) rfl rfl (by kernel_rfl) (by kernel_rfl) (by kernel_rfl) (fun _ _ _ h => h) (Or.inl ⟨by rfl, fun w hS => ?_⟩) HS.out ?_
          · (go_simp)
          simp only [Act.put, List.setIfInBounds_toArray, List.set_cons_zero, List.set_cons_succ]
          refine heldTake 3 (some 59) (ptr g) rfl rfl (by kernel_rfl) (by kernel_rfl) (by kernel_rfl) (fun _ _ _ h => h) (Or.inl ⟨by rfl, fun w hS => ?_⟩) HS.out ?_
          · (obtain ⟨p0, p1⟩ := hS; go_simp)
          simp only [Act.put, List.setIfInBounds_toArray, List.set_cons_zero, List.set_cons_succ]
          refine heldTake 4 (some 60) (.int .i64 (A : Int)) rfl rfl (by kernel_rfl) (by kernel_rfl) (by kernel_rfl) (fun _ _ _ h => h) (Or.inl ⟨by rfl, fun w hS => ?_⟩) HS.out ?_
          · (go_simp)
          simp only [Act.put, List.setIfInBounds_toArray, List.set_cons_zero, List.set_cons_succ]
          refine heldTake 5 (some 61) (.slice (some ⟨gb, off, none⟩) rs rc) rfl rfl (by kernel_rfl) (by kernel_rfl) (by kernel_rfl) (fun _ _ _ h => h) (Or.inl ⟨by rfl, fun w hS => ?_⟩) HS.out ?_
          · (go_simp)
          simp only [Act.put, List.setIfInBounds_toArray, List.set_cons_zero, List.set_cons_succ]
          refine heldTake 6 (some 62) (.int .i64 (cut : Int)) rfl rfl (by kernel_rfl) (by kernel_rfl) (by kernel_rfl) (fun _ _ _ h => h) (Or.inl ⟨by rfl, fun w hS => ?_⟩) HS.out ?_
          · (go_simp)
          simp only [Act.put, List.setIfInBounds_toArray, List.set_cons_zero, List.set_cons_succ]
          refine heldTake 7 (some 63) (.int .i64 (cut : Int)) rfl rfl (by kernel_rfl) (by kernel_rfl) (by kernel_rfl) (fun _ _ _ h => h) (Or.inl ⟨by rfl, fun w hS => ?_⟩) HS.out ?_
          · (go_simp)
          simp only [Act.put, List.setIfInBounds_toArray, List.set_cons_zero, List.set_cons_succ]
          refine heldTake 8 (some 64) (.slice (some ⟨gb, off, none⟩) cut cut) rfl rfl (by kernel_rfl) (by kernel_rfl) (by kernel_rfl) (fun _ _ _ h => h) (Or.inl ⟨by rfl, fun w hS => ?_⟩) HS.out ?_
          · (go_simp)
          simp only [Act.put, List.setIfInBounds_toArray, List.set_cons_zero, List.set_cons_succ]
          refine heldTake 9 (some 65) (.string X) rfl rfl (by kernel_rfl) (by kernel_rfl) (by kernel_rfl) (fun _ _ _ h => h) (Or.inl ⟨by rfl, fun w hS => ?_⟩) HS.out ?_
          · (obtain ⟨p0, p1⟩ := hS; have hcv := str_at p1 cut; rw [hcut] at hcv; go_simp)
          simp only [Act.put, List.setIfInBounds_toArray, List.set_cons_zero, List.set_cons_succ]
          refine heldOne 10 (by kernel_rfl) rfl (by rfl) (fun KK hK => ?_)
          go_simp
          go_at_call 106
          refine (write_any g kg vp' s' (A : Int) X wr.drew HLD.out.dk (by omega) (by omega)).mono ?_
          generalize Sc.writeS s' (A : Int) X = s2 at *
          generalize Sc.writeE s' (A : Int) X = e2 at *
          rintro r w2 ⟨vp2, rfl, hR2, hT2⟩
          obtain ⟨hL2, hTL2⟩ := HLD.out.d hR2 hT2 hst1
          have HL2 : Hid (LP w2 q g vr vw l kg vp2 s2) := hL2
          have HT2 : Hid (Turn (lfoot q g vr vw kg vp) (lfoot q g vr vw kg vp2) w w2) := HTD.out.trans hTL2
          have HG2 : Hid (gb ∉ foot g kg vp2) := hT2.apart (rs := [gb]) (fun k hk => by rw [List.mem_singleton.1 hk]; exact HGF.out) (fun k hk => by rw [List.mem_singleton.1 hk]; exact hgl) gb (List.mem_singleton.2 rfl)
          have HX2 : Hid (w2.rangeAt gb off (bc X)) := range_chg (w := wr.drew) HX.out hT2.chg HGF.out
          have HX2' : Hid (w2.rangeAt gb (off + cut) (bc (Wl.left al (kk + 1)))) := range_chg (w := wr.drew) HX'.out hT2.chg HGF.out
          have hgl2 : gb < w2.heap.size := Nat.lt_of_lt_of_le hgl hT2.chg.size
          have HS2 : Hid ((fun U : World => U.cell? ⟨q, 0, none⟩ = some (ptr g) ∧ U.rangeAt gb off (bc X)) w2) := ⟨hL2.pk.c0, HX2.out⟩
          clear hR2 hT2 hL2 hTL2
          refine hK.out _ _ HS2.out ?_
          clear hK KK
          refine heldTake 11 (some 9) (.int .i64 e2) rfl rfl (by kernel_rfl) (by kernel_rfl) (by kernel_rfl) (fun _ _ _ h => h) (Or.inl ⟨by rfl, fun w hS => ?_⟩) HS2.out ?_
          · (go_simp)
          simp only [Act.put, List.setIfInBounds_toArray, List.set_cons_zero, List.set_cons_succ]
          refine wpAnyH_done (by kernel_rfl) ?_ _
          clear HS HS2 HX HX' HLr HTr HLD HTD HX2
          by_cases h5 : e2 = 0
          · subst h5
            have HFN : Hid (∀ v, Rb gb w2 v (Wl.left al (kk + 1)) → ∃ (j' : Nat) (s' : Sc.St) (vp' : Value), j' ≤ m ∧ Value.int .i64 ((A : Int) + 1) = .int .i64 ((a0 + j' : Nat) : Int) ∧ Rb gb w2 v (Wl.left al (k0 + j')) ∧ Wl.puts l.base al (m - j') (k0 + j') s' = Wr ∧ LP w2 q g vr vw l kg vp' s' ∧ Turn (lfoot q g vr vw kg vp) (lfoot q g vr vw kg vp') w w2 ∧ gb ∉ foot g kg vp' ∧ gb < w2.heap.size ∧ s'.dn ≤ s.dn + j' ∧ s'.pend.length ≤ s.pend.length + j') := fun v hv => ⟨j + 1, s2, vp2, by omega, by rw [show a0 + (j + 1) = A + 1 by omega]; go_num, by rw [show k0 + (j + 1) = kk + 1 by omega]; exact hv, by rw [show k0 + (j + 1) = kk + 1 by omega]; exact HYES.out rfl, HL2.out, HT2.out, HG2.out, hgl2, by omega, by omega⟩
            have HRBN : Hid (Rb gb w2 (.slice (if rc = cut then some ⟨gb, off, none⟩ else some ⟨gb, off + cut, none⟩) (rs - cut) (rc - cut)) (Wl.left al (kk + 1))) := by
              refine ⟨_, _, by rw [HR'.out, hrx], by rw [HR'.out]; omega, by omega, fun h0 => ⟨off + cut, ?_, HX2'.out⟩⟩
              rw [HR'.out] at h0
              rw [if_neg (by omega)]
            clear hrx
            go_wp2
            go_roundw
            case rel => exact HFN.out _ HRBN.out
            case measure => (simp [intOf]) <;> omega
          · have hb5 : (e2 != 0) = true := by simp [h5]
            have HFN : Hid (LDoes w q g vr vw kg vp l T.1 T.2 (.returned (.int .i64 e2)) w2) := by
              have hw := HNO.out h5
              rw [HWW.out, hw]
              simp only [h5, if_false]
              exact ⟨vr, vw, vp2, rfl, HL2.out, HT2.out⟩
            clear h5
            go_wp2
            go_ret
            exact HFN.out
        · have hpz : m - j = 0 := by have := hmj hin; omega
          clear hav
          have HWs : Hid (Wr = (s', 0)) := by rw [← HPU.out, hpz]; rfl
          have HFL := flush_any g kg vp' s' wr HLr.out.dk (by omega)
          have hfs := (Sc.flushS_step s').len
          have c0 := HLr.out.pk.c0
          have HTT : Hid (T = (Sc.flushS s', Sc.flushE s')) := by rw [HWW.out, HWs.out]; rfl
          have hd0 : decide ((0 : Int) < ((Wl.left al kk).size : Int)) = false := decide_eq_false (by omega)
          have hd1 : ¬ 0 < (Wl.left al kk).size := by omega
          clear hls hrg hrc1
          generalize (Wl.left al kk).size = rs at *
          generalize Sc.flushS s' = s3 at *
          generalize Sc.flushE s' = e3 at *
          go_wp2_with fail
          refine HFL.mono ?_
          rintro r w3 ⟨vp3, rfl, hR3, hT3⟩
          obtain ⟨hL3, hTL3⟩ := HLr.out.d hR3 hT3 hfs
          have HFN : Hid (LDoes w q g vr vw kg vp l T.1 T.2 (.returned (.int .i64 e3)) w3) := by
            rw [HTT.out]
            exact ⟨vr, vw, vp3, rfl, hL3, HTr.out.trans hTL3⟩
          clear hR3 hT3 hL3 hTL3 HFL c0
          go_wp2
          go_ret
          exact HFN.out
end Go.Proofs.YtcfninpokngmlaaGreatDoor
