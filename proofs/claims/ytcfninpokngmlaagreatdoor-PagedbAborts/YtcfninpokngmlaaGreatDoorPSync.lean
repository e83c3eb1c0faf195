/- Proved: what Sync makes of a log and its disk. -/
import Derived.Test.YtcfninpokngmlaaGreatDoorPWait
namespace Go.Proofs.YtcfninpokngmlaaGreatDoor
open Go.RowKit
/- the records take in what waits; the length is the new one; none waits -/
theorem Pk.synced {w w' : World} {q g : Nat} {vr vw v' : Value} {l : Wl.Lg} (H : Pk w q g vr vw l) (hG : w.grownBy w' vr.ownBlock) (hO : OwnS w' 0 v' (l.recs ++ l.wait)) (hv : v'.ownBlock = vr.ownBlock ∨ v'.ownBlock = some w.heap.size) :
    Pk ((((w'.setCell ⟨q, 5, none⟩ v').setCell ⟨q, 4, none⟩ (.int .i64 ((l.bytes.size : Int) + (Wl.total l.wait : Int)))).setCell ⟨q, 6, none⟩ (.slice none 0 0)).setCell ⟨q, 7, none⟩ (.int .i64 0)) q g v' (.slice none 0 0) { l with bytes := Wl.all l, recs := l.recs ++ l.wait, wait := [] } ∧
    Turn (pfoot q vr vw) (pfoot q v' (.slice none 0 0)) w ((((w'.setCell ⟨q, 5, none⟩ v').setCell ⟨q, 4, none⟩ (.int .i64 ((l.bytes.size : Int) + (Wl.total l.wait : Int)))).setCell ⟨q, 6, none⟩ (.slice none 0 0)).setCell ⟨q, 7, none⟩ (.int .i64 0)) := by
  have lt := H.lt
  have hq : w'.heap[q]? = w.heap[q]? := hG.block q (lt q (by simp [pfoot])) (fun e => H.hr e.symm)
  have ne1 : v'.ownBlock ≠ some q := fun e => by
    rcases hv with h | h
    · exact H.hr (h ▸ e)
    · rw [h] at e
      have := lt q (by simp [pfoot])
      have := Option.some.inj e
      omega
  have hC2 : Chg [q] w' ((((w'.setCell ⟨q, 5, none⟩ v').setCell ⟨q, 4, none⟩ (.int .i64 ((l.bytes.size : Int) + (Wl.total l.wait : Int)))).setCell ⟨q, 6, none⟩ (.slice none 0 0)).setCell ⟨q, 7, none⟩ (.int .i64 0)) := (((Chg.setCell _ q 5 _).trans (Chg.setCell _ q 4 _)).trans (Chg.setCell _ q 6 _)).trans (Chg.setCell _ q 7 _)
  have hsz : ((Wl.all l).size : Int) = (l.bytes.size : Int) + (Wl.total l.wait : Int) := by rw [Wl.all_size]; omega
  refine ⟨⟨?_, own_keep hO (fun k hk => hC2.block k (hO.lt k hk).2 (fun e => ne1 (by rw [hk, List.mem_singleton.1 e]))), own_nil _, ne1, (by intro e; cases e), (by intro k _ e; cases e), Wl.synced_ok H.ok⟩, ⟨?_, fun k hk => ?_⟩⟩
  · rw [heap_setCell_same _ q 7 _ _ _ (heap_setCell_same _ q 6 _ _ _ (heap_setCell_same _ q 4 _ _ _ (heap_setCell_same w' q 5 _ _ _ (hq.trans H.row)))), ← hsz]
    rfl
  · exact ((Chg.grown hG).mono (fun k hk => by simp [pfoot]; simp at hk; exact .inr (.inl hk))).trans (hC2.mono (fun k hk => by rw [List.mem_singleton.1 hk]; simp [pfoot]))
  · simp only [pfoot, List.mem_cons, List.mem_append, Option.mem_toList] at hk ⊢
    rcases hk with h1 | h1 | h1
    · exact .inl (.inl h1)
    · rcases hv with e | e
      · rw [e] at h1; exact .inl (.inr (.inl h1))
      · rw [e] at h1
        exact .inr (by have := Option.some.inj h1; omega)
    · cases h1
set_option maxHeartbeats 400000 in
theorem lmade_raw (q g : Nat) (w : World) (c0 : w.cell? ⟨q, 0, none⟩ = some (ptr g)) :
    Calls Tryz.prog 100 #[ptr q] w fun e w' => e = .returned (.bool true) ∧ w' = w := by
  go_enter Tryz.func100, Tryz.ntmps100
  go_wp2
  go_ret
  exact ⟨rfl, rfl⟩
set_option maxHeartbeats 400000 in
theorem ldrop_raw (q g : Nat) (x6 x7 : Value) (w : World) (c0 : w.cell? ⟨q, 0, none⟩ = some (ptr g)) (c6 : w.cell? ⟨q, 6, none⟩ = some x6) (c7 : w.cell? ⟨q, 7, none⟩ = some x7) (f6 : w.frozen? ⟨q, 6, none⟩ = false) (f7 : w.frozen? ⟨q, 7, none⟩ = false) :
    Calls Tryz.prog 121 #[ptr q] w fun e w' => e = .returned (.tuple #[]) ∧ w' = (w.setCell ⟨q, 6, none⟩ (.slice none 0 0)).setCell ⟨q, 7, none⟩ (.int .i64 0) := by
  have HM := lmade_raw q g w c0
  go_enter Tryz.func121, Tryz.ntmps121
  go_wp2_with (go_at_call 100; refine HM.mono ?_; rintro e w' ⟨rfl, rfl⟩)
  go_end0
  exact ⟨rfl, rfl⟩
theorem keep_len (l : Wl.Lg) (s : Sc.St) : (Wl.wwT l s).1.kept.length = s.kept.length := by
  have key : ∀ (m k : Nat) (al : List UInt8) (base : Nat) (s : Sc.St), (Wl.puts base al m k s).1.kept.length = s.kept.length := by
    intro m
    induction m with
    | zero => intro k al base s; rfl
    | succ m ih =>
      intro k al base s
      by_cases h : Sc.writeE s ((base : Int) + 1 + (k : Int)) (Wl.ob (Wl.sec al k)) = 0
      · rw [Wl.puts_yes h, ih, (Sc.writeS_step s _ _).len]
      · rw [Wl.puts_no h, (Sc.writeS_step s _ _).len]
  unfold Wl.wwT
  split
  · show (Sc.flushS (Wl.writes l s).1).kept.length = _
    rw [(Sc.flushS_step _).len]
    exact key _ _ _ _ _
  · exact key _ _ _ _ _
theorem ww_small (l : Wl.Lg) (s : Sc.St) (h : l.Ok) : (Wl.wwT l s).1.dn ≤ s.dn + l.n + 1 ∧ (Wl.wwT l s).1.pend.length ≤ s.pend.length + l.n + 1 := by
  have key : ∀ (m k : Nat) (al : List UInt8) (base : Nat) (s : Sc.St), (Wl.puts base al m k s).1.dn ≤ s.dn + m ∧ (Wl.puts base al m k s).1.pend.length ≤ s.pend.length + m := by
    intro m
    induction m with
    | zero => intro k al base s; exact ⟨Nat.le_refl _, Nat.le_refl _⟩
    | succ m ih =>
      intro k al base s
      have hst := Sc.writeS_step s ((base : Int) + 1 + (k : Int)) (Wl.ob (Wl.sec al k))
      have h1 := hst.dn
      have h2 := hst.pend
      by_cases h : Sc.writeE s ((base : Int) + 1 + (k : Int)) (Wl.ob (Wl.sec al k)) = 0
      · rw [Wl.puts_yes h]
        have := ih (k + 1) al base (Sc.writeS s ((base : Int) + 1 + (k : Int)) (Wl.ob (Wl.sec al k)))
        omega
      · rw [Wl.puts_no h]
        simp only
        omega
  have h2 := h.two
  have hr := h.room
  have hz := Wl.all_size l
  have hm : Wl.many l.bytes.size (Wl.all l).size ≤ l.n := by unfold Wl.many; omega
  have hk := key (Wl.many l.bytes.size (Wl.all l).size) (l.bytes.size / 64) (Wl.all l).data.toList l.base s
  have hk' : (Wl.writes l s).1.dn ≤ s.dn + Wl.many l.bytes.size (Wl.all l).size ∧ (Wl.writes l s).1.pend.length ≤ s.pend.length + Wl.many l.bytes.size (Wl.all l).size := hk
  unfold Wl.wwT
  split
  · have hst := Sc.flushS_step (Wl.writes l s).1
    have h1 := hst.dn
    have h3 := hst.pend
    show (Sc.flushS (Wl.writes l s).1).dn ≤ _ ∧ (Sc.flushS (Wl.writes l s).1).pend.length ≤ _
    omega
  · omega
set_option maxHeartbeats 8000000 in
set_option maxRecDepth 20000 in
theorem lsync_any (q g : Nat) (vr vw : Value) (l : Wl.Lg) (kg : Nat) (vp : Value) (s : Sc.St) (w : World) (L : LP w q g vr vw l kg vp s) (hS : Safe w (lfoot q g vr vw kg vp)) (htl : l.lost = false → 0 < l.wait.length → s.down = false ∧ ∀ j, j < l.bytes.size % 64 → (Sc.now s (l.base + 1 + l.bytes.size / 64)).data.toList[j]? = l.bytes.data.toList[64 * (l.bytes.size / 64) + j]?) (hn : s.dn + l.n ≤ 90000) (hp : s.pend.length + l.n ≤ 19000) :
    Calls Tryz.prog 95 #[ptr q] w (LDoes w q g vr vw kg vp (Wl.sycL l s) (Wl.sycS l s) (Wl.sycE l s)) := by
  have c6 := L.pk.c6
  have HRD := lready_any q g vr vw l w L.pk
  unfold lreadyE at HRD
  have HL : Hid (LP w q g vr vw l kg vp s) := L
  have HSF : Hid (Safe w (lfoot q g vr vw kg vp)) := hS
  have HKEEP : Hid (∀ n, LDoes w q g vr vw kg vp l s n (.returned (.int .i64 n)) w) := fun n => ⟨vr, vw, vp, rfl, HL.out, Turn.refl _ _⟩
  obtain ⟨wa, wcap, hwv⟩ := L.pk.wval
  rw [hwv] at c6
  have h2n := L.pk.ok.two
  have hmost := L.pk.ok.most
  have hroom := L.pk.ok.room
  have hep := L.pk.ok.epoch
  have hwl := L.pk.wlen
  have hrl := L.pk.rlen
  clear L hS
  by_cases h1 : l.lost = true
  · have e1 : Wl.sycE l s = 10 := by unfold Wl.sycE; rw [if_pos h1]
    have e2 : Wl.sycL l s = l := by unfold Wl.sycL; rw [if_pos h1]
    have e3 : Wl.sycS l s = s := by unfold Wl.sycS; rw [if_pos h1]
    rw [e1, e2, e3]
    rw [if_pos h1] at HRD
    clear e1 e2 e3 hwv htl
    go_enter Tryz.func95, Tryz.ntmps95
    go_wp2_with (go_at_call 109; refine HRD.mono ?_; rintro e w' ⟨rfl, rfl⟩)
    go_ret
    exact HKEEP.out 10
  · rw [if_neg h1] at HRD
    by_cases h2 : l.wait.length = 0
    · have e1 : Wl.sycE l s = 0 := by unfold Wl.sycE; rw [if_neg h1, if_pos h2]
      have e2 : Wl.sycL l s = l := by unfold Wl.sycL; rw [if_neg h1, if_pos h2]
      have e3 : Wl.sycS l s = s := by unfold Wl.sycS; rw [if_neg h1, if_pos h2]
      rw [e1, e2, e3]
      have d1 : ((l.wait.length : Int) == 0) = true := by simp [h2]
      clear e1 e2 e3 hwv htl h2
      go_enter Tryz.func95, Tryz.ntmps95
      go_wp2_with (go_at_call 109; refine HRD.mono ?_; rintro e w' ⟨rfl, rfl⟩)
      go_ret
      exact HKEEP.out 0
    · have d1 : ((l.wait.length : Int) == 0) = false := by simp [h2]
      have e1 : Wl.sycE l s = (Wl.syncT l s).2 := by unfold Wl.sycE; rw [if_neg h1, if_neg h2]
      have e3 : Wl.sycS l s = (Wl.syncT l s).1 := by unfold Wl.sycS; rw [if_neg h1, if_neg h2]
      have e2 : Wl.sycL l s = if (Wl.syncT l s).2 = 0 then { l with bytes := Wl.all l, recs := l.recs ++ l.wait, wait := [] } else Wl.lose l (Wl.syncT l s).2 := by unfold Wl.sycL; rw [if_neg h1, if_neg h2]
      rw [e1, e3]
      have HE2 : Hid (Wl.sycL l s = if (Wl.syncT l s).2 = 0 then { l with bytes := Wl.all l, recs := l.recs ++ l.wait, wait := [] } else Wl.lose l (Wl.syncT l s).2) := e2
      have HST := (show Hid _ from Wl.syncT_ww l s)
      obtain ⟨hd, htl'⟩ := htl (by simpa using h1) (by omega)
      have HWW := lww_any q g vr vw l kg vp s w HL.out HSF.out.tab hd htl' (by omega) hn hp
      have hkl := keep_len l s
      obtain ⟨hsm1, hsm2⟩ := ww_small l s HL.out.pk.ok
      have hal := Wl.all_size l
      clear e1 e2 e3 hwv HKEEP htl htl' hd
      generalize Wl.sycL l s = l3 at *
      generalize Wl.syncT l s = T at *
      generalize Wl.wwT l s = U at *
      obtain ⟨s1, e1⟩ := U
      simp only at *
      go_enter Tryz.func95, Tryz.ntmps95
      go_wp2_with fail
      refine HRD.mono ?_
      rintro e w' ⟨rfl, hw⟩
      rw [hw]
      clear hw w' HRD
      go_wp2_with fail
      refine HWW.mono ?_
      rintro e w1 ⟨vr1, vw1, vp1, rfl, hL1, hT1⟩
      have HL1 : Hid (LP w1 q g vr1 vw1 l kg vp1 s1) := hL1
      have HT1 : Hid (Turn (lfoot q g vr vw kg vp) (lfoot q g vr1 vw1 kg vp1) w w1) := hT1
      have HS1 : Hid (Safe w1 (lfoot q g vr1 vw1 kg vp1)) := HSF.out.turn hT1
      clear hL1 hT1 HWW c6
      by_cases h5 : e1 = 0
      · subst h5
        simp only [if_true] at HST
        have c3 := HL1.out.pk.c3
        have c4 := HL1.out.pk.c4
        have c7 := HL1.out.pk.c7
        have htw : Wl.total l.wait ≤ 4194304 := by omega
        have hbz : l.bytes.size ≤ 4194304 := by omega
        go_wp2_with fail
        go_quiet (fail)
        have HBq : Hid (Below w1.heap.size w1 (w1.drewN nq)) := below_drewN w1 nq
        have HLq : Hid (LP (w1.drewN nq) q g vr1 vw1 l kg vp1 s1) := HL1.out.below HBq.out
        have HTq : Hid (Turn (lfoot q g vr vw kg vp) (lfoot q g vr1 vw1 kg vp1) w (w1.drewN nq)) := HT1.out.trans (Turn.of_below HBq.out)
        have HSq : Hid (Safe (w1.drewN nq) (lfoot q g vr1 vw1 kg vp1)) := HS1.out.below HBq.out
        generalize w1.drewN nq = W at *
        clear c3 c4 c7 HBq HL1 HT1 HS1
        have c3 := HLq.out.pk.c3
        have hlen : (l.bytes.size : Int) + (Wl.total l.wait : Int) = (((Wl.all l).size : Nat) : Int) := by omega
        have HMK := lmark_any q g vr1 vw1 l kg vp1 s1 l.epoch (Wl.all l).size W HLq.out HSq.out.tab (by omega) (by omega) (by omega) (by omega)
        rw [← hlen] at HMK
        clear hlen
        generalize Wl.hdE s1 l.base l.epoch (Wl.all l).size = e5 at *
        generalize Wl.hdS s1 l.base l.epoch (Wl.all l).size = s5 at *
        go_wp2_with fail
        refine HMK.mono ?_
        rintro e w2 ⟨vr2, vw2, vp2, rfl, hL2, hT2⟩
        have HL2 : Hid (LP w2 q g vr2 vw2 l kg vp2 s5) := hL2
        have HT2 : Hid (Turn (lfoot q g vr vw kg vp) (lfoot q g vr2 vw2 kg vp2) w w2) := HTq.out.trans hT2
        clear hL2 hT2 HMK c3 HLq HTq HSq
        by_cases h6 : e5 = 0
        · subst h6
          have HTT : Hid (T = (s5, 0)) := HST.out
          have HE3 : Hid (l3 = { l with bytes := Wl.all l, recs := l.recs ++ l.wait, wait := [] }) := by show l3 = _; rw [HE2.out, HST.out]; simp only; rw [if_pos trivial]
          clear HE2 HST
          have HPD : Hid (Pk w2.drew q g vr2 vw2 l) := HL2.out.pk.drew
          go_wp2_with fail
          have HS : Hid ((fun U : World => U.cell? ⟨q, 5, none⟩ = some vr2 ∧ U.cell? ⟨q, 6, none⟩ = some vw2) w2.drew) := ⟨HPD.out.c5, HPD.out.c6⟩
          refine AnyBut.begin (z := 12) (S := fun U => U.cell? ⟨q, 5, none⟩ = some vr2 ∧ U.cell? ⟨q, 6, none⟩ = some vw2) (by kernel_rfl) ?_
          refine AnyBut.take 0 (some 46) (v := (ptr q)) rfl rfl (by kernel_rfl) (by decide) (by kernel_rfl) (by kernel_rfl) (by kernel_rfl) (by kernel_rfl) (fun _ _ _ h => h) (Or.inl ⟨by rfl, fun w hS => ?_⟩) HS.out ?_
          · (go_simp)
          simp only [Act.put, List.setIfInBounds_toArray, List.set_cons_zero, List.set_cons_succ]
          refine AnyBut.take 1 (some 47) (v := (ptr q)) rfl rfl (by kernel_rfl) (by decide) (by kernel_rfl) (by kernel_rfl) (by kernel_rfl) (by kernel_rfl) (fun _ _ _ h => h) (Or.inl ⟨by rfl, fun w hS => ?_⟩) HS.out ?_
          · (go_simp)
          simp only [Act.put, List.setIfInBounds_toArray, List.set_cons_zero, List.set_cons_succ]
          refine AnyBut.take 2 (some 48) (v := (ptr q)) rfl rfl (by kernel_rfl) (by decide) (by kernel_rfl) (by kernel_rfl) (by kernel_rfl) (by kernel_rfl) (fun _ _ _ h => h) (Or.inl ⟨by rfl, fun w hS => ?_⟩) HS.out ?_
          · (go_simp)
          simp only [Act.put, List.setIfInBounds_toArray, List.set_cons_zero, List.set_cons_succ]
          refine AnyBut.take 3 (some 49) (v := (.pointer (some ⟨q, 5, none⟩))) rfl rfl (by kernel_rfl) (by decide) (by kernel_rfl) (by kernel_rfl) (by kernel_rfl) (by kernel_rfl) (fun _ _ _ h => h) (Or.inl ⟨by rfl, fun w hS => ?_⟩) HS.out ?_
          · (go_simp)
          simp only [Act.put, List.setIfInBounds_toArray, List.set_cons_zero, List.set_cons_succ]
          refine AnyBut.take 4 (some 50) (v := (vr2)) rfl rfl (by kernel_rfl) (by decide) (by kernel_rfl) (by kernel_rfl) (by kernel_rfl) (by kernel_rfl) (fun _ _ _ h => h) (Or.inl ⟨by rfl, fun w hS => ?_⟩) HS.out ?_
          · (obtain ⟨q1, q2⟩ := hS; go_simp)
          simp only [Act.put, List.setIfInBounds_toArray, List.set_cons_zero, List.set_cons_succ]
          refine AnyBut.take 5 (some 51) (v := (ptr q)) rfl rfl (by kernel_rfl) (by decide) (by kernel_rfl) (by kernel_rfl) (by kernel_rfl) (by kernel_rfl) (fun _ _ _ h => h) (Or.inl ⟨by rfl, fun w hS => ?_⟩) HS.out ?_
          · (go_simp)
          simp only [Act.put, List.setIfInBounds_toArray, List.set_cons_zero, List.set_cons_succ]
          refine AnyBut.take 6 (some 52) (v := (ptr q)) rfl rfl (by kernel_rfl) (by decide) (by kernel_rfl) (by kernel_rfl) (by kernel_rfl) (by kernel_rfl) (fun _ _ _ h => h) (Or.inl ⟨by rfl, fun w hS => ?_⟩) HS.out ?_
          · (go_simp)
          simp only [Act.put, List.setIfInBounds_toArray, List.set_cons_zero, List.set_cons_succ]
          refine AnyBut.take 7 (some 53) (v := (.pointer (some ⟨q, 6, none⟩))) rfl rfl (by kernel_rfl) (by decide) (by kernel_rfl) (by kernel_rfl) (by kernel_rfl) (by kernel_rfl) (fun _ _ _ h => h) (Or.inl ⟨by rfl, fun w hS => ?_⟩) HS.out ?_
          · (go_simp)
          simp only [Act.put, List.setIfInBounds_toArray, List.set_cons_zero, List.set_cons_succ]
          refine AnyBut.take 8 (some 54) (v := (vw2)) rfl rfl (by kernel_rfl) (by decide) (by kernel_rfl) (by kernel_rfl) (by kernel_rfl) (by kernel_rfl) (fun _ _ _ h => h) (Or.inl ⟨by rfl, fun w hS => ?_⟩) HS.out ?_
          · (obtain ⟨q1, q2⟩ := hS; go_simp)
          simp only [Act.put, List.setIfInBounds_toArray, List.set_cons_zero, List.set_cons_succ]
          refine AnyBut.one 9 (by kernel_rfl) rfl (by rfl) (fun KK hK => ?_)
          refine opw_many (.tmp 50) (.tmp 54) (some 55) rfl rfl 0 vr2 vw2 l.recs l.wait rfl HPD.out.recs rfl HPD.out.wait (by omega) (Nat.zero_le _) ?_
          intro v' w3 hO3 hG3 hv3
          have HN := (show Hid _ from HPD.out.synced hG3 hO3 hv3)
          have hq3 : w3.heap[q]? = w2.drew.heap[q]? := hG3.block q (HPD.out.lt q (by simp [pfoot])) (fun e => HPD.out.hr e.symm)
          have c0 : w3.cell? ⟨q, 0, none⟩ = some (ptr g) := (World.cell?_of_block hq3).trans HPD.out.c0
          have c4 : w3.cell? ⟨q, 4, none⟩ = some (.int .i64 (l.bytes.size : Int)) := (World.cell?_of_block hq3).trans HPD.out.c4
          have c5 : w3.cell? ⟨q, 5, none⟩ = some vr2 := (World.cell?_of_block hq3).trans HPD.out.c5
          have c6 : w3.cell? ⟨q, 6, none⟩ = some vw2 := (World.cell?_of_block hq3).trans HPD.out.c6
          have c7 : w3.cell? ⟨q, 7, none⟩ = some (.int .i64 (Wl.total l.wait : Int)) := (World.cell?_of_block hq3).trans HPD.out.c7
          have f4 : w3.frozen? ⟨q, 4, none⟩ = false := (World.frozen?_of_block hq3).trans (HPD.out.fz 4)
          have f5 : w3.frozen? ⟨q, 5, none⟩ = false := (World.frozen?_of_block hq3).trans (HPD.out.fz 5)
          have f6 : w3.frozen? ⟨q, 6, none⟩ = false := (World.frozen?_of_block hq3).trans (HPD.out.fz 6)
          have f7 : w3.frozen? ⟨q, 7, none⟩ = false := (World.frozen?_of_block hq3).trans (HPD.out.fz 7)
          obtain ⟨va, vc, hv'⟩ := own_slice hO3
          rw [List.length_append] at hv'
          have HV' : Hid (v' = .slice va (l.recs.length + l.wait.length) vc) := hv'
          have hrow : w3.heap[q]? = some (.cells (pcells l g vr2 vw2) 116 (0, 0)) := hq3.trans HPD.out.row
          have HROW : Hid (((w3.setCell ⟨q, 5, none⟩ v').setCell ⟨q, 4, none⟩ (.int .i64 ((l.bytes.size : Int) + (Wl.total l.wait : Int)))).heap[q]? = some (.cells (((pcells l g vr2 vw2).setIfInBounds 5 v').setIfInBounds 4 (.int .i64 ((l.bytes.size : Int) + (Wl.total l.wait : Int)))) 116 (0, 0))) := heap_setCell_same _ q 4 _ _ _ (heap_setCell_same w3 q 5 _ _ _ hrow)
          have HDR := ldrop_raw q g vw2 (.int .i64 (Wl.total l.wait : Int)) ((w3.setCell ⟨q, 5, none⟩ v').setCell ⟨q, 4, none⟩ (.int .i64 ((l.bytes.size : Int) + (Wl.total l.wait : Int)))) (by rw [cell_of_row _ q 0 _ _ (0, 0) HROW.out]; rfl) (by rw [cell_of_row _ q 6 _ _ (0, 0) HROW.out]; rfl) (by rw [cell_of_row _ q 7 _ _ (0, 0) HROW.out]; rfl) (frozen_of_row _ q 6 _ _ HROW.out) (frozen_of_row _ q 7 _ _ HROW.out)
          obtain ⟨hy1, hy2⟩ := HL2.out.drew.p HN.out.1 HN.out.2 rfl rfl
          have HFN : Hid (LDoes w q g vr vw kg vp l3 T.1 T.2 (.returned (.int .i64 0)) ((((w3.setCell ⟨q, 5, none⟩ v').setCell ⟨q, 4, none⟩ (.int .i64 ((l.bytes.size : Int) + (Wl.total l.wait : Int)))).setCell ⟨q, 6, none⟩ (.slice none 0 0)).setCell ⟨q, 7, none⟩ (.int .i64 0))) := by
            rw [HE3.out, HTT.out]
            exact ⟨_, _, _, rfl, hy1, HT2.out.drew.trans hy2⟩
          have HS3 : Hid ((fun U : World => U.cell? ⟨q, 5, none⟩ = some vr2 ∧ U.cell? ⟨q, 6, none⟩ = some vw2) w3) := ⟨c5, c6⟩
          clear hO3 hG3 hv3 hv' hy1 hy2 hq3 hrow HROW
          refine hK.out _ _ (fun _ => HS3.out) ?_
          clear hK KK
          simp only [Act.put, List.setIfInBounds_toArray, List.set_cons_zero, List.set_cons_succ]
          refine AnyBut.take 10 (some 56) (v := (ptr q)) rfl rfl (by kernel_rfl) (by decide) (by kernel_rfl) (by kernel_rfl) (by kernel_rfl) (by kernel_rfl) (fun _ _ _ h => h) (Or.inl ⟨by rfl, fun w hS => ?_⟩) HS3.out ?_
          · (go_simp)
          simp only [Act.put, List.setIfInBounds_toArray, List.set_cons_zero, List.set_cons_succ]
          refine AnyBut.take 11 (some 57) (v := (.pointer (some ⟨q, 5, none⟩))) rfl rfl (by kernel_rfl) (by decide) (by kernel_rfl) (by kernel_rfl) (by kernel_rfl) (by kernel_rfl) (fun _ _ _ h => h) (Or.inl ⟨by rfl, fun w hS => ?_⟩) HS3.out ?_
          · (go_simp)
          simp only [Act.put, List.setIfInBounds_toArray, List.set_cons_zero, List.set_cons_succ]
          refine AnyBut.one 12 (by kernel_rfl) rfl (by rfl) (fun KK hK => ?_)
          rw [HV'.out]
          go_simp
          refine hK.out _ _ (fun h => absurd rfl h) ?_
          clear hK KK
          refine AnyBut.done (by kernel_rfl) ?_
          rw [HV'.out] at HFN HDR
          generalize l.recs.length + l.wait.length = rr at *
          generalize Wl.total l.wait = tw at *
          clear HN
          go_wp2_with fail
          refine HDR.mono ?_
          rintro e w' ⟨rfl, hw⟩
          rw [hw]
          clear hw w' HDR
          go_wp2
          go_ret
          exact HFN.out
        · have hb6 : (e5 != 0) = true := by simp [h6]
          have HE3 : Hid (l3 = Wl.lose l e5) := by show l3 = _; rw [HE2.out, HST.out]; simp only; rw [if_neg h6]
          have HLO := lose_any q g vr2 vw2 l e5 w2 HL2.out.pk h6
          have HTT : Hid (T = (s5, e5)) := HST.out
          clear h6
          go_wp2_with fail
          refine HLO.mono ?_
          intro r w3 hP3
          obtain ⟨vr3, vw3, vp3, rfl, hL3, hT3⟩ := HL2.out.lose hP3
          have HFN : Hid (LDoes w q g vr vw kg vp l3 T.1 T.2 (.returned (.int .i64 e5)) w3) := by rw [HE3.out, HTT.out]; exact ⟨vr3, vw3, vp3, rfl, hL3, HT2.out.trans hT3⟩
          clear hP3 hL3 hT3 HLO
          go_wp2
          go_ret
          exact HFN.out
      · have hb5 : (e1 != 0) = true := by simp [h5]
        simp only [h5, if_false] at HST
        have HE3 : Hid (l3 = Wl.lose l e1) := by show l3 = _; rw [HE2.out, HST.out]; simp only; rw [if_neg h5]
        have HLO := lose_any q g vr1 vw1 l e1 w1 HL1.out.pk h5
        have HTT : Hid (T = (s1, e1)) := HST.out
        clear h5 HE2 HST
        go_wp2_with fail
        refine HLO.mono ?_
        intro r w3 hP3
        obtain ⟨vr3, vw3, vp3, rfl, hL3, hT3⟩ := HL1.out.lose hP3
        have HFN : Hid (LDoes w q g vr vw kg vp l3 T.1 T.2 (.returned (.int .i64 e1)) w3) := by rw [HE3.out, HTT.out]; exact ⟨vr3, vw3, vp3, rfl, hL3, HT1.out.trans hT3⟩
        clear hP3 hL3 hT3 HLO
        go_wp2
        go_ret
        exact HFN.out
end Go.Proofs.YtcfninpokngmlaaGreatDoor
