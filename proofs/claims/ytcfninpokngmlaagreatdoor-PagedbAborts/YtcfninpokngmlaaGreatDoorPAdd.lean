/- Proved: what Add makes of a log. -/
import Derived.Test.YtcfninpokngmlaaGreatDoorPSmall
namespace Go.Proofs.YtcfninpokngmlaaGreatDoor
open Go.RowKit
theorem Pk.added {w w' : World} {q g : Nat} {vr vw v' : Value} {l : Wl.Lg} {r : ByteArray} (H : Pk w q g vr vw l) (hG : w.grownBy w' vw.ownBlock) (hO : OwnS w' 0 v' (l.wait ++ [r])) (hv : v'.ownBlock = vw.ownBlock ∨ v'.ownBlock = some w.heap.size) (ok : Wl.Lg.Ok { l with wait := l.wait ++ [r] }) :
    Pk ((w'.setCell ⟨q, 6, none⟩ v').setCell ⟨q, 7, none⟩ (.int .i64 ((Wl.total l.wait : Int) + (8 + (r.size : Int))))) q g vr v' { l with wait := l.wait ++ [r] } ∧ Turn (pfoot q vr vw) (pfoot q vr v') w ((w'.setCell ⟨q, 6, none⟩ v').setCell ⟨q, 7, none⟩ (.int .i64 ((Wl.total l.wait : Int) + (8 + (r.size : Int))))) := by
  have lt := H.lt
  have hq : w'.heap[q]? = w.heap[q]? := hG.block q (lt q (by simp [pfoot])) (fun e => H.hw e.symm)
  have ne1 : v'.ownBlock ≠ some q := fun e => by
    rcases hv with h | h
    · exact H.hw (h ▸ e)
    · rw [h] at e
      have := lt q (by simp [pfoot])
      have := Option.some.inj e
      omega
  have hC2 : Chg [q] w' ((w'.setCell ⟨q, 6, none⟩ v').setCell ⟨q, 7, none⟩ (.int .i64 ((Wl.total l.wait : Int) + (8 + (r.size : Int))))) := (Chg.setCell _ q 6 _).trans (Chg.setCell _ q 7 _)
  have hrs : OwnS w' 0 vr l.recs := own_keep H.recs (fun k hk => hG.block k (lt k (by simp [pfoot, hk])) (fun e => H.ra k hk e.symm))
  have htot : (Wl.total (l.wait ++ [r]) : Int) = (Wl.total l.wait : Int) + (8 + (r.size : Int)) := by
    rw [Wl.total_append, Wl.total, Wl.total]
    omega
  refine ⟨⟨?_, own_keep hrs (fun k hk => hC2.block k (hrs.lt k hk).2 (fun e => H.hr (by rw [hk, List.mem_singleton.1 e]))), own_keep hO (fun k hk => hC2.block k (hO.lt k hk).2 (fun e => ne1 (by rw [hk, List.mem_singleton.1 e]))), H.hr, ne1, fun k hk e => ?_, ok⟩, ⟨?_, fun k hk => ?_⟩⟩
  · rw [heap_setCell_same _ q 7 _ _ _ (heap_setCell_same w' q 6 _ _ _ (hq.trans H.row)), ← htot]
    rfl
  · rcases hv with h | h
    · exact H.ra k hk (h ▸ e)
    · rw [h] at e
      have := lt k (by simp [pfoot, hk])
      have := Option.some.inj e
      omega
  · exact ((Chg.grown hG).mono (fun k hk => by simp [pfoot]; simp at hk; exact .inr (.inr hk))).trans (hC2.mono (fun k hk => by rw [List.mem_singleton.1 hk]; simp [pfoot]))
  · simp only [pfoot, List.mem_cons, List.mem_append, Option.mem_toList] at hk ⊢
    rcases hk with h1 | h1 | h1
    · exact .inl (.inl h1)
    · exact .inl (.inr (.inl h1))
    · rcases hv with e | e
      · rw [e] at h1; exact .inl (.inr (.inr h1))
      · rw [e] at h1
        exact .inr (by have := Option.some.inj h1; omega)
set_option maxHeartbeats 4000000 in
set_option maxRecDepth 20000 in
theorem ladd_any (q g : Nat) (vr vw : Value) (l : Wl.Lg) (r : ByteArray) (w : World) (H : Pk w q g vr vw l) (hrs : r.size ≤ 9223372036854775807) :
    Calls Tryz.prog 93 #[ptr q, .string r] w (PDoes w q g vr vw (Wl.addS l r) (Wl.addE l r)) := by
  have HRD := lready_any q g vr vw l w H
  have HH : Hid (Pk w q g vr vw l) := H
  have HRO : Hid (Calls Tryz.prog 92 #[ptr q] w fun e w' => e = .returned (.int .i64 (Wl.room l)) ∧ ∃ n, w' = w.drewN n) := lroom_any q g vr vw l w H
  have HOK : Hid ((Wl.addS l r).Ok) := Wl.addS_ok H.ok r
  have hrm0 : (0 : Int) ≤ Wl.room l ∧ Wl.room l ≤ 4194304 := room_num l.n l.bytes.size (Wl.total l.wait) H.ok.two (by have := H.ok.most; omega) H.ok.room
  have HKEEP : Hid (∀ W n, (∃ k, W = w.drewN k) → PDoes w q g vr vw l n (.returned (.int .i64 n)) W) := fun W n ⟨k, hk⟩ => by
    subst hk
    exact ⟨vr, vw, rfl, HH.out.drewN k, Turn.of_below ⟨rfl, rfl, rfl, Nat.le_refl _, fun _ _ => rfl⟩⟩
  have hwc := H.wlen
  have htw : Wl.total l.wait ≤ 4194304 := by have h2 := H.ok.room; have h3 := H.ok.most; omega
  clear H
  unfold lreadyE at HRD
  cases hl : l.lost
  · rw [hl, if_neg (by decide)] at HRD
    by_cases hlong : 65536 < r.size
    · have d1 : decide ((65536 : Int) < (r.size : Int)) = true := by simp; omega
      have e1 : Wl.addE l r = 3 := by unfold Wl.addE; rw [hl, if_neg (by decide), if_pos hlong]
      have e2 : Wl.addS l r = l := by unfold Wl.addS; rw [e1, if_neg (by decide)]
      rw [e1, e2]
      clear e1 e2 HOK
      go_enter Tryz.func93, Tryz.ntmps93
      go_wp2_with (go_at_call 109; refine HRD.mono ?_; rintro e w' ⟨rfl, rfl⟩)
      go_ret
      exact HKEEP.out _ 3 ⟨0, rfl⟩
    · have d1 : decide ((65536 : Int) < (r.size : Int)) = false := by simp; omega
      by_cases hfull : Wl.room l - 8 < (r.size : Int)
      · have e1 : Wl.addE l r = 7 := by unfold Wl.addE; rw [hl, if_neg (by decide), if_neg hlong, if_pos hfull]
        have e2 : Wl.addS l r = l := by unfold Wl.addS; rw [e1, if_neg (by decide)]
        rw [e1, e2]
        clear e1 e2 HOK
        generalize Wl.room l = rm at *
        have d2 : decide (rm < 8 + (r.size : Int)) = true := decide_eq_true (by omega)
        have d3 : rm < 8 + (r.size : Int) := by omega
        go_enter Tryz.func93, Tryz.ntmps93
        go_wp2_with (first | (go_at_call 109; refine HRD.mono ?_; rintro e w' ⟨rfl, rfl⟩) | (go_at_call 92; refine HRO.out.mono ?_; rintro e w1 ⟨rfl, hw1⟩))
        go_ret
        exact HKEEP.out w1 7 hw1
      · have e1 : Wl.addE l r = 0 := by unfold Wl.addE; rw [hl, if_neg (by decide), if_neg hlong, if_neg hfull]
        have e2 : Wl.addS l r = { l with wait := l.wait ++ [r] } := by unfold Wl.addS; rw [e1, if_pos rfl]
        rw [e2] at HOK
        rw [e1, e2]
        clear e1 e2
        generalize Wl.room l = rm at *
        have d2 : decide (rm < 8 + (r.size : Int)) = false := decide_eq_false (by omega)
        have d3 : ¬ rm < 8 + (r.size : Int) := by omega
        go_enter Tryz.func93, Tryz.ntmps93
        go_wp2_with fail
        refine HRD.mono ?_
        rintro e w' ⟨rfl, hw⟩
        rw [hw]
        clear hw w' HRD
        go_wp2_with fail
        refine HRO.out.mono ?_
        rintro e w1 ⟨rfl, hw1⟩
        have HW1 : Hid (Below w.heap.size w w1 ∧ w1.heap.size = w.heap.size) := by
          obtain ⟨k, hk⟩ := hw1
          subst hk
          exact ⟨⟨rfl, rfl, rfl, Nat.le_refl _, fun _ _ => rfl⟩, rfl⟩
        have HP1 : Hid (Pk w1 q g vr vw l) := by obtain ⟨k, hk⟩ := hw1; subst hk; exact HH.out.drewN k
        clear hw1 HRO HKEEP HH
        go_wp2_with fail
        have HCL : Hid (Calls Tryz.prog 65 #[.string r] w1.drew fun e w' => e = .returned (.string r) ∧ Below w1.drew.heap.size w1.drew w') := sclone_any r w1.drew (by omega)
        have HS : Hid ((fun U : World => U.cell? ⟨q, 6, none⟩ = some vw) w1.drew) := HP1.out.drew.c6
        refine AnyBut.begin (z := 11) (S := fun U => U.cell? ⟨q, 6, none⟩ = some vw) (by kernel_rfl) ?_
        refine AnyBut.take 0 (some 22) (v := (ptr q)) rfl rfl (by kernel_rfl) (by decide) (by kernel_rfl) (by kernel_rfl) (by kernel_rfl) (by kernel_rfl) (fun _ _ _ h => h) (Or.inl ⟨by rfl, fun w hS => ?_⟩) HS.out ?_
        · (go_simp)
        simp only [Act.put, List.setIfInBounds_toArray, List.set_cons_zero, List.set_cons_succ]
        refine AnyBut.take 1 (some 23) (v := (ptr q)) rfl rfl (by kernel_rfl) (by decide) (by kernel_rfl) (by kernel_rfl) (by kernel_rfl) (by kernel_rfl) (fun _ _ _ h => h) (Or.inl ⟨by rfl, fun w hS => ?_⟩) HS.out ?_
        · (go_simp)
        simp only [Act.put, List.setIfInBounds_toArray, List.set_cons_zero, List.set_cons_succ]
        refine AnyBut.take 2 (some 24) (v := (ptr q)) rfl rfl (by kernel_rfl) (by decide) (by kernel_rfl) (by kernel_rfl) (by kernel_rfl) (by kernel_rfl) (fun _ _ _ h => h) (Or.inl ⟨by rfl, fun w hS => ?_⟩) HS.out ?_
        · (go_simp)
        simp only [Act.put, List.setIfInBounds_toArray, List.set_cons_zero, List.set_cons_succ]
        refine AnyBut.take 3 (some 25) (v := (.pointer (some ⟨q, 6, none⟩))) rfl rfl (by kernel_rfl) (by decide) (by kernel_rfl) (by kernel_rfl) (by kernel_rfl) (by kernel_rfl) (fun _ _ _ h => h) (Or.inl ⟨by rfl, fun w hS => ?_⟩) HS.out ?_
        · (go_simp)
        simp only [Act.put, List.setIfInBounds_toArray, List.set_cons_zero, List.set_cons_succ]
        refine AnyBut.take 4 (some 26) (v := (vw)) rfl rfl (by kernel_rfl) (by decide) (by kernel_rfl) (by kernel_rfl) (by kernel_rfl) (by kernel_rfl) (fun _ _ _ h => h) (Or.inl ⟨by rfl, fun w hS => ?_⟩) HS.out ?_
        · (have q1 := hS; go_simp)
        simp only [Act.put, List.setIfInBounds_toArray, List.set_cons_zero, List.set_cons_succ]
        refine AnyBut.take 5 (some 27) (v := (.string r)) rfl rfl (by kernel_rfl) (by decide) (by kernel_rfl) (by kernel_rfl) (by kernel_rfl) (by kernel_rfl) (fun _ _ _ h => h) (Or.inl ⟨by rfl, fun w hS => ?_⟩) HS.out ?_
        · (go_simp)
        simp only [Act.put, List.setIfInBounds_toArray, List.set_cons_zero, List.set_cons_succ]
        refine AnyBut.one 6 (by kernel_rfl) rfl (by rfl) (fun KK hK => ?_)
        go_simp
        go_at_call 65
        refine HCL.out.mono ?_
        rintro e w2 ⟨rfl, hB2⟩
        have HP2 : Hid (Pk w2 q g vr vw l) := HP1.out.drew.below hB2
        have HB2 : Hid (Below w.heap.size w w2) := HW1.out.1.drew.trans (hB2.mono HW1.out.1.size)
        refine hK.out _ _ (fun _ => HP2.out.c6) ?_
        clear hK KK hB2 HCL
        refine AnyBut.one 7 (by kernel_rfl) rfl (by rfl) (fun KK hK => ?_)
        go_simp
        have HP3 : Hid (Pk (w2.alloc (.cells #[.string r] 9)) q g vr vw l) := HP2.out.alloc _
        refine hK.out _ _ (fun _ => HP3.out.c6) ?_
        clear hK KK
        refine AnyBut.one 8 (by kernel_rfl) rfl (by rfl) (fun KK hK => ?_)
        refine opw_many (.tmp 26) (.tmp 29) (some 30) rfl rfl 0 vw _ l.wait [r] rfl HP3.out.wait rfl (own_new w2 r) (by simp; omega) (Nat.zero_le _) ?_
        intro v' w3 hO3 hG3 hv3
        have HN := (show Hid _ from HP3.out.added hG3 hO3 hv3 HOK.out)
        have hq3 : w3.heap[q]? = (w2.alloc (.cells #[.string r] 9)).heap[q]? := hG3.block q (HP3.out.lt q (by simp [pfoot])) (fun e => HP3.out.hw e.symm)
        have c6 : w3.cell? ⟨q, 6, none⟩ = some vw := (World.cell?_of_block hq3).trans HP3.out.c6
        have c7 : w3.cell? ⟨q, 7, none⟩ = some (.int .i64 (Wl.total l.wait : Int)) := (World.cell?_of_block hq3).trans HP3.out.c7
        have f6 : w3.frozen? ⟨q, 6, none⟩ = false := (World.frozen?_of_block hq3).trans (HP3.out.fz 6)
        have f7 : w3.frozen? ⟨q, 7, none⟩ = false := (World.frozen?_of_block hq3).trans (HP3.out.fz 7)
        have HTT : Hid (Turn (pfoot q vr vw) (pfoot q vr v') w ((w3.setCell ⟨q, 6, none⟩ v').setCell ⟨q, 7, none⟩ (.int .i64 ((Wl.total l.wait : Int) + (8 + (r.size : Int)))))) := (Turn.of_below (HB2.out.alloc HB2.out.size _)).trans HN.out.2
        obtain ⟨va, vc, hv'⟩ := own_slice hO3
        rw [show (l.wait ++ [r]).length = l.wait.length + 1 by simp] at hv'
        have HV' : Hid (v' = .slice va (l.wait.length + 1) vc) := hv'
        clear hO3 hG3 hv3 hv'
        refine hK.out _ _ (fun _ => c6) ?_
        clear hK KK
        simp only [Act.put, List.setIfInBounds_toArray, List.set_cons_zero, List.set_cons_succ]
        have HS3 : Hid ((fun U : World => U.cell? ⟨q, 6, none⟩ = some vw) w3) := c6
        refine AnyBut.take 9 (some 31) (v := (ptr q)) rfl rfl (by kernel_rfl) (by decide) (by kernel_rfl) (by kernel_rfl) (by kernel_rfl) (by kernel_rfl) (fun _ _ _ h => h) (Or.inl ⟨by rfl, fun w hS => ?_⟩) HS3.out ?_
        · (go_simp)
        simp only [Act.put, List.setIfInBounds_toArray, List.set_cons_zero, List.set_cons_succ]
        refine AnyBut.take 10 (some 32) (v := (.pointer (some ⟨q, 6, none⟩))) rfl rfl (by kernel_rfl) (by decide) (by kernel_rfl) (by kernel_rfl) (by kernel_rfl) (by kernel_rfl) (fun _ _ _ h => h) (Or.inl ⟨by rfl, fun w hS => ?_⟩) HS3.out ?_
        · (go_simp)
        simp only [Act.put, List.setIfInBounds_toArray, List.set_cons_zero, List.set_cons_succ]
        refine AnyBut.one 11 (by kernel_rfl) rfl (by rfl) (fun KK hK => ?_)
        rw [HV'.out]
        go_simp
        refine hK.out _ _ (fun h => absurd rfl h) ?_
        clear hK KK
        refine AnyBut.done (by kernel_rfl) ?_
        rw [HV'.out] at HN HTT
        rw [hl] at HN
        generalize Wl.total l.wait = tw at *
        go_wp2
        go_ret
        exact ⟨_, _, rfl, HN.out.1, HTT.out⟩
  · rw [hl, if_pos rfl] at HRD
    have e1 : Wl.addE l r = 10 := by unfold Wl.addE; rw [hl, if_pos rfl]
    have e2 : Wl.addS l r = l := by unfold Wl.addS; rw [e1, if_neg (by decide)]
    rw [e1, e2]
    clear e1 e2 HOK
    go_enter Tryz.func93, Tryz.ntmps93
    go_wp2_with (go_at_call 109; refine HRD.mono ?_; rintro e w' ⟨rfl, rfl⟩)
    go_ret
    exact HKEEP.out _ 10 ⟨0, rfl⟩
end Go.Proofs.YtcfninpokngmlaaGreatDoor
