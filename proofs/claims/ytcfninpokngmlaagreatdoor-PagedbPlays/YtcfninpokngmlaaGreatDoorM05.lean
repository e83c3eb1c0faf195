/- Proved: what Add makes of a log. -/
import Derived.Test.YtcfninpokngmlaaGreatDoorM04
import Derived.Test.YtcfninpokngmlaaGreatDoorM03
import Derived.BigQuiet
namespace Go.Proofs.YtcfninpokngmlaaGreatDoor
open Go.RowKit
theorem Pk.added {w w' : World} {q g : Nat} {vr vw v' : Value} {l : Wl.Lg} {r : ByteArray} (H : Pk w q g vr vw l) (hG : w.grownBy w' vw.ownBlock) (hO : OwnS w' 0 v' (l.wait ++ [r])) (hv : v'.ownBlock = vw.ownBlock ∨ v'.ownBlock = some w.heap.size) (ok : Wl.Lg.Ok { l with wait := l.wait ++ [r] }) :
    Pk ((w'.setCell ⟨q, 6, none⟩ v').setCell ⟨q, 7, none⟩ (.int .i64 ((Wl.total l.wait : Int) + (8 + (r.size : Int))))) q g vr v' { l with wait := l.wait ++ [r] } ∧ Turn (pfoot q vr vw) (pfoot q vr v') w ((w'.setCell ⟨q, 6, none⟩ v').setCell ⟨q, 7, none⟩ (.int .i64 ((Wl.total l.wait : Int) + (8 + (r.size : Int))))) := by
  have lt := H.lt
  have hq : w'.heap[q]? = w.heap[q]? := hG.block q (lt q (by simp [pfoot])) (fun e => H.hw e.symm)
  have ne1 : v'.ownBlock ≠ some q := fun e => by
    rcases hv with h | h
    · exact H.hw (h ▸ e)
    · rw [h] at e
      have := lt q (by simp [pfoot])
      have := Option.some.inj e
      omega
  have hC2 : Chg [q] w' ((w'.setCell ⟨q, 6, none⟩ v').setCell ⟨q, 7, none⟩ (.int .i64 ((Wl.total l.wait : Int) + (8 + (r.size : Int))))) := (Chg.setCell _ q 6 _).trans (Chg.setCell _ q 7 _)
  have hrs : OwnS w' 0 vr l.recs := own_keep H.recs (fun k hk => hG.block k (lt k (by simp [pfoot, hk])) (fun e => H.ra k hk e.symm))
  have htot : (Wl.total (l.wait ++ [r]) : Int) = (Wl.total l.wait : Int) + (8 + (r.size : Int)) := by
    rw [Wl.total_append, Wl.total, Wl.total]
    omega
  refine ⟨⟨?_, own_keep hrs (fun k hk => hC2.block k (hrs.lt k hk).2 (fun e => H.hr (by rw [hk, List.mem_singleton.1 e]))), own_keep hO (fun k hk => hC2.block k (hO.lt k hk).2 (fun e => ne1 (by rw [hk, List.mem_singleton.1 e]))), H.hr, ne1, fun k hk e => ?_, ok⟩, ⟨?_, fun k hk => ?_⟩⟩
  · rw [heap_setCell_same _ q 7 _ _ _ (heap_setCell_same w' q 6 _ _ _ (hq.trans H.row)), ← htot]
    rfl
  · rcases hv with h | h
    · exact H.ra k hk (h ▸ e)
    · rw [h] at e
      have := lt k (by simp [pfoot, hk])
      have := Option.some.inj e
      omega
  · exact ((Chg.grown hG).mono (fun k hk => by simp [pfoot]; simp at hk; exact .inr (.inr hk))).trans (hC2.mono (fun k hk => by rw [List.mem_singleton.1 hk]; simp [pfoot]))
  · simp only [pfoot, List.mem_cons, List.mem_append, Option.mem_toList] at hk ⊢
    rcases hk with h1 | h1 | h1
    · exact .inl (.inl h1)
    · exact .inl (.inr (.inl h1))
    · rcases hv with e | e
      · rw [e] at h1; exact .inl (.inr (.inr h1))
      · rw [e] at h1
        exact .inr (by have := Option.some.inj h1; omega)
set_option maxHeartbeats 4000000 in
set_option maxRecDepth 20000 in
theorem ladd_any (q g : Nat) (vr vw : Value) (l : Wl.Lg) (r : ByteArray) (w : World) (H : Pk w q g vr vw l) (hrs : r.size ≤ 9223372036854775807) :
    Calls Tryz.prog 93 #[ptr q, .string r] w (PDoes w q g vr vw (Wl.addS l r) (Wl.addE l r)) := by
  have HRD := lready_any q g vr vw l w H
  have HH : Hid (Pk w q g vr vw l) := H
  have HRO : Hid (Calls Tryz.prog 92 #[ptr q] w fun e w' => e = .returned (.int .i64 (Wl.room l)) ∧ ∃ n, w' = w.drewN n) := lroom_any q g vr vw l w H
  have HOK : Hid ((Wl.addS l r).Ok) := Wl.addS_ok H.ok r
  have hrm0 : (0 : Int) ≤ Wl.room l ∧ Wl.room l ≤ 4194304 := room_num l.n l.bytes.size (Wl.total l.wait) H.ok.two (by have := H.ok.most; omega) H.ok.room
  have HKEEP : Hid (∀ W n, (∃ k, W = w.drewN k) → PDoes w q g vr vw l n (.returned (.int .i64 n)) W) := fun W n ⟨k, hk⟩ => by
    subst hk
    exact ⟨vr, vw, rfl, HH.out.drewN k, Turn.of_below ⟨rfl, rfl, rfl, Nat.le_refl _, fun _ _ => rfl⟩⟩
  have hwc := H.wlen
  have htw : Wl.total l.wait ≤ 4194304 := by have h2 := H.ok.room; have h3 := H.ok.most; omega
  clear H
  unfold lreadyE at HRD
  cases hl : l.lost
  · rw [hl, if_neg (by decide)] at HRD
    by_cases hlong : 65536 < r.size
    · have d1 : decide ((65536 : Int) < (r.size : Int)) = true := by simp; omega
      have e1 : Wl.addE l r = 3 := by unfold Wl.addE; rw [hl, if_neg (by decide), if_pos hlong]
      have e2 : Wl.addS l r = l := by unfold Wl.addS; rw [e1, if_neg (by decide)]
      rw [e1, e2]
      clear e1 e2 HOK
      go_enter Tryz.func93, Tryz.ntmps93
      go_wp2_with (go_at_call 109; refine HRD.mono ?_; rintro e w' ⟨rfl, rfl⟩)
      go_ret
      exact HKEEP.out _ 3 ⟨0, rfl⟩
    · have d1 : decide ((65536 : Int) < (r.size : Int)) = false := by simp; omega
      by_cases hfull : Wl.room l - 8 < (r.size : Int)
      · have e1 : Wl.addE l r = 7 := by unfold Wl.addE; rw [hl, if_neg (by decide), if_neg hlong, if_pos hfull]
        have e2 : Wl.addS l r = l := by unfold Wl.addS; rw [e1, if_neg (by decide)]
        rw [e1, e2]
        clear e1 e2 HOK
        generalize Wl.room l = rm at *
        have d2 : decide (rm < 8 + (r.size : Int)) = true := decide_eq_true (by omega)
        have d3 : rm < 8 + (r.size : Int) := by omega
        go_enter Tryz.func93, Tryz.ntmps93
        go_wp2_with (first | (go_at_call 109; refine HRD.mono ?_; rintro e w' ⟨rfl, rfl⟩) | (go_at_call 92; refine HRO.out.mono ?_; rintro e w1 ⟨rfl, hw1⟩))
        go_ret
        exact HKEEP.out w1 7 hw1
      · have e1 : Wl.addE l r = 0 := by unfold Wl.addE; rw [hl, if_neg (by decide), if_neg hlong, if_neg hfull]
        have e2 : Wl.addS l r = { l with wait := l.wait ++ [r] } := by unfold Wl.addS; rw [e1, if_pos rfl]
        rw [e2] at HOK
        rw [e1, e2]
        clear e1 e2
        generalize Wl.room l = rm at *
        have d2 : decide (rm < 8 + (r.size : Int)) = false := decide_eq_false (by omega)
        have d3 : ¬ rm < 8 + (r.size : Int) := by omega
        go_enter Tryz.func93, Tryz.ntmps93
        go_wp2_with fail
        refine HRD.mono ?_
        rintro e w' ⟨rfl, hw⟩
        rw [hw]
        clear hw w' HRD
        go_wp2_with fail
        refine HRO.out.mono ?_
        rintro e w1 ⟨rfl, hw1⟩
        have HW1 : Hid (Below w.heap.size w w1 ∧ w1.heap.size = w.heap.size) := by
          obtain ⟨k, hk⟩ := hw1
          subst hk
          exact ⟨⟨rfl, rfl, rfl, Nat.le_refl _, fun _ _ => rfl⟩, rfl⟩
        have HP1 : Hid (Pk w1 q g vr vw l) := by obtain ⟨k, hk⟩ := hw1; subst hk; exact HH.out.drewN k
        clear hw1 HRO HKEEP HH
        go_wp2_with fail
        have HCL : Hid (Calls Tryz.prog 65 #[.string r] w1.drew fun e w' => e = .returned (.string r) ∧ Below w1.drew.heap.size w1.drew w') := sclone_any r w1.drew (by omega)
        have HS : Hid ((fun U : World => U.cell? ⟨q, 6, none⟩ = some vw) w1.drew) := HP1.out.drew.c6
        refine AnyBut.begin (z := 11) (S := fun U => U.cell? ⟨q, 6, none⟩ = some vw) (by kernel_rfl) ?_
        refine AnyBut.take 0 (some 22) (v := (ptr q)) rfl rfl (by kernel_rfl) (by decide) (by kernel_rfl) (by kernel_rfl) (by kernel_rfl) (by kernel_rfl) (fun _ _ _ h => h) (Or.inl ⟨by rfl, fun w hS => ?_⟩) HS.out ?_
        · (go_simp)
        simp only [Act.put, List.setIfInBounds_toArray, List.set_cons_zero, List.set_cons_succ]
        refine AnyBut.take 1 (some 23) (v := (ptr q)) rfl rfl (by kernel_rfl) (by decide) (by kernel_rfl) (by kernel_rfl) (by kernel_rfl) (by kernel_rfl) (fun _ _ _ h => h) (Or.inl ⟨by rfl, fun w hS => ?_⟩) HS.out ?_
        · (go_simp)
        simp only [Act.put, List.setIfInBounds_toArray, List.set_cons_zero, List.set_cons_succ]
        refine AnyBut.take 2 (some 24) (v := (ptr q)) rfl rfl (by kernel_rfl) (by decide) (by kernel_rfl) (by kernel_rfl) (by kernel_rfl) (by kernel_rfl) (fun _ _ _ h => h) (Or.inl ⟨by rfl, fun w hS => ?_⟩) HS.out ?_
        · (go_simp)
        simp only [Act.put, List.setIfInBounds_toArray, List.set_cons_zero, List.set_cons_succ]
        refine AnyBut.take 3 (some 25) (v := (.pointer (some ⟨q, 6, none⟩))) rfl rfl (by kernel_rfl) (by decide) (by kernel_rfl) (by kernel_rfl) (by kernel_rfl) (by kernel_rfl) (fun _ _ _ h => h) (Or.inl ⟨by rfl, fun w hS => ?_⟩) HS.out ?_
        · (go_simp)
        simp only [Act.put, List.setIfInBounds_toArray, List.set_cons_zero, List.set_cons_succ]
        refine AnyBut.take 4 (some 26) (v := (vw)) rfl rfl (by kernel_rfl) (by decide) (by kernel_rfl) (by kernel_rfl) (by kernel_rfl) (by kernel_rfl) (fun _ _ _ h => h) (Or.inl ⟨by rfl, fun w hS => ?_⟩) HS.out ?_
        · (have q1 := hS; go_simp)
        simp only [Act.put, List.setIfInBounds_toArray, List.set_cons_zero, List.set_cons_succ]
        refine AnyBut.take 5 (some 27) (v := (.string r)) rfl rfl (by kernel_rfl) (by decide) (by kernel_rfl) (by kernel_rfl) (by kernel_rfl) (by kernel_rfl) (fun _ _ _ h => h) (Or.inl ⟨by rfl, fun w hS => ?_⟩) HS.out ?_
        · (go_simp)
        simp only [Act.put, List.setIfInBounds_toArray, List.set_cons_zero, List.set_cons_succ]
        refine AnyBut.one 6 (by kernel_rfl) rfl (by rfl) (fun KK hK => ?_)
        go_simp
        go_at_call 65
        refine HCL.out.mono ?_
        rintro e w2 ⟨rfl, hB2⟩
        have HP2 : Hid (Pk w2 q g vr vw l) := HP1.out.drew.below hB2
        have HB2 : Hid (Below w.heap.size w w2) := HW1.out.1.drew.trans (hB2.mono HW1.out.1.size)
        refine hK.out _ _ (fun _ => HP2.out.c6) ?_
        clear hK KK hB2 HCL
        refine AnyBut.one 7 (by kernel_rfl) rfl (by rfl) (fun KK hK => ?_)
        go_simp
        have HP3 : Hid (Pk (w2.alloc (.cells #[.string r] 9)) q g vr vw l) := HP2.out.alloc _
        refine hK.out _ _ (fun _ => HP3.out.c6) ?_
        clear hK KK
        refine AnyBut.one 8 (by kernel_rfl) rfl (by rfl) (fun KK hK => ?_)
        refine opw_many (.tmp 26) (.tmp 29) (some 30) rfl rfl 0 vw _ l.wait [r] rfl HP3.out.wait rfl (own_new w2 r) (by simp; omega) (Nat.zero_le _) ?_
        intro v' w3 hO3 hG3 hv3
        have HN := (show Hid _ from HP3.out.added hG3 hO3 hv3 HOK.out)
        have hq3 : w3.heap[q]? = (w2.alloc (.cells #[.string r] 9)).heap[q]? := hG3.block q (HP3.out.lt q (by simp [pfoot])) (fun e => HP3.out.hw e.symm)
        have c6 : w3.cell? ⟨q, 6, none⟩ = some vw := (World.cell?_of_block hq3).trans HP3.out.c6
        have c7 : w3.cell? ⟨q, 7, none⟩ = some (.int .i64 (Wl.total l.wait : Int)) := (World.cell?_of_block hq3).trans HP3.out.c7
        have f6 : w3.frozen? ⟨q, 6, none⟩ = false := (World.frozen?_of_block hq3).trans (HP3.out.fz 6)
        have f7 : w3.frozen? ⟨q, 7, none⟩ = false := (World.frozen?_of_block hq3).trans (HP3.out.fz 7)
        have HTT : Hid (Turn (pfoot q vr vw) (pfoot q vr v') w ((w3.setCell ⟨q, 6, none⟩ v').setCell ⟨q, 7, none⟩ (.int .i64 ((Wl.total l.wait : Int) + (8 + (r.size : Int)))))) := (Turn.of_below (HB2.out.alloc HB2.out.size _)).trans HN.out.2
        obtain ⟨va, vc, hv'⟩ := own_slice hO3
        rw [show (l.wait ++ [r]).length = l.wait.length + 1 by simp] at hv'
        have HV' : Hid (v' = .slice va (l.wait.length + 1) vc) := hv'
        clear hO3 hG3 hv3 hv'
        refine hK.out _ _ (fun _ => c6) ?_
        clear hK KK
        simp only [Act.put, List.setIfInBounds_toArray, List.set_cons_zero, List.set_cons_succ]
        have HS3 : Hid ((fun U : World => U.cell? ⟨q, 6, none⟩ = some vw) w3) := c6
        refine AnyBut.take 9 (some 31) (v := (ptr q)) rfl rfl (by kernel_rfl) (by decide) (by kernel_rfl) (by kernel_rfl) (by kernel_rfl) (by kernel_rfl) (fun _ _ _ h => h) (Or.inl ⟨by rfl, fun w hS => ?_⟩) HS3.out ?_
        · (go_simp)
        simp only [Act.put, List.setIfInBounds_toArray, List.set_cons_zero, List.set_cons_succ]
        refine AnyBut.take 10 (some 32) (v := (.pointer (some ⟨q, 6, none⟩))) rfl rfl (by kernel_rfl) (by decide) (by kernel_rfl) (by kernel_rfl) (by kernel_rfl) (by kernel_rfl) (fun _ _ _ h => h) (Or.inl ⟨by rfl, fun w hS => ?_⟩) HS3.out ?_
        · (go_simp)
        simp only [Act.put, List.setIfInBounds_toArray, List.set_cons_zero, List.set_cons_succ]
        refine AnyBut.one 11 (by kernel_rfl) rfl (by rfl) (fun KK hK => ?_)
        rw [HV'.out]
        go_simp
        refine hK.out _ _ (fun h => absurd rfl h) ?_
        clear hK KK
        refine AnyBut.done (by kernel_rfl) ?_
        rw [HV'.out] at HN HTT
        rw [hl] at HN
        generalize Wl.total l.wait = tw at *
        go_wp2
        go_ret
        exact ⟨_, _, rfl, HN.out.1, HTT.out⟩
  · rw [hl, if_pos rfl] at HRD
    have e1 : Wl.addE l r = 10 := by unfold Wl.addE; rw [hl, if_pos rfl]
    have e2 : Wl.addS l r = l := by unfold Wl.addS; rw [e1, if_neg (by decide)]
    rw [e1, e2]
    clear e1 e2 HOK
    go_enter Tryz.func93, Tryz.ntmps93
    go_wp2_with (go_at_call 109; refine HRD.mono ?_; rintro e w' ⟨rfl, rfl⟩)
    go_ret
    exact HKEEP.out _ 10 ⟨0, rfl⟩
end Go.Proofs.YtcfninpokngmlaaGreatDoor
/- Proved: what wal's readFrames tells of frames. -/
namespace Go.Proofs.YtcfninpokngmlaaGreatDoor
open Go.RowKit
theorem str_at {w : World} {b off : Nat} {x : ByteArray} (h : w.rangeAt b off (bc x)) (cap : Nat) : (convert 138 9 (.slice (some ⟨b, off, none⟩) x.size cap)).run Tryz.prog w = .ok (.string x) w := by
  have e := run_convert_bytes_back (P := Tryz.prog) w 138 9 5 ⟨b, off, none⟩ cap x.data.toList Tryz.underlying138 Tryz.underlying5 Tryz.underlying9 (fun j hj => by
    rw [Addr.add_mid]
    exact h j _ (by rw [bc, List.getElem?_map, List.getElem?_eq_getElem hj]; rfl))
  rw [← Sc.size_eq] at e
  exact e
theorem range_app {w : World} {g o : Nat} {a b : List Value} (h : w.rangeAt g o (a ++ b)) : w.rangeAt g o a ∧ w.rangeAt g (o + a.length) b := by
  refine ⟨fun j u hu => h j u ?_, fun j u hu => ?_⟩
  · rw [List.getElem?_append_left (List.getElem?_eq_some_iff.1 hu).1]; exact hu
  · have := h (a.length + j) u (by rw [List.getElem?_append_right (by omega), Nat.add_sub_cancel_left]; exact hu)
    rwa [← Nat.add_assoc] at this
theorem bytes_range {w : World} {g o : Nat} {x : ByteArray} (h : w.rangeAt g o (bc x)) (hx : x.size ≤ 9223372036854775807) : Bytes w (some ⟨g, o, none⟩) x.size (Wl.nb x) := by
  refine ⟨by rw [Wl.nb, List.length_map, ← Sc.size_eq], Wl.nb_lt x, hx, .inr ⟨g, o, rfl, fun i hi => ?_⟩⟩
  have hil : i < x.data.toList.length := by rw [← Sc.size_eq]; exact hi
  rw [h i (.int .u8 ((x.data.toList[i].toNat : Nat) : Int)) (by rw [bc, List.getElem?_map, List.getElem?_eq_getElem hil]; rfl), Wl.nb, List.getD_eq_getElem?_getD, List.getElem?_map, List.getElem?_eq_getElem hil]
  rfl
theorem own_range {w : World} {N : Nat} {v : Value} {y : ByteArray} (h : OwnB w N v y) : ∃ a c, v = .slice a y.size c ∧ y.size ≤ c ∧ c ≤ 9223372036854775807 ∧ (0 < y.size → ∃ g, a = some ⟨g, 0, none⟩ ∧ N ≤ g ∧ g < w.heap.size ∧ w.rangeAt g 0 (bc y)) := by
  rcases h.2 with ⟨h1, h2⟩ | ⟨g, cap, cur, hv, hN, hh, hc, hm, hs, ht⟩
  · exact ⟨none, 0, by rw [h2]; exact h1, by omega, by omega, fun h => by omega⟩
  · unfold maxLen at hm
    refine ⟨_, cap, hv, hc, by omega, fun _ => ⟨g, rfl, hN, (Array.getElem?_eq_some_iff.1 hh).1, fun j u hu => ?_⟩⟩
    have hj := (List.getElem?_eq_some_iff.1 hu).1
    rw [bc_length] at hj
    rw [Nat.zero_add, cell_of_row w g _ cur _ (0, 0) hh, ← Array.getElem?_toList]
    rw [← ht, List.getElem?_take_of_lt (by omega)] at hu
    exact hu
/- the bytes that lie at off: these frames, if any are left -/
def Rest (N : Nat) (w : World) (v : Value) (rs : List ByteArray) : Prop := ∃ a c, v = .slice a (Wl.total rs) c ∧ Wl.total rs ≤ c ∧ c ≤ 9223372036854775807 ∧ (0 < Wl.total rs → ∃ g off, a = some ⟨g, off, none⟩ ∧ g < N ∧ w.rangeAt g off (bc (Wl.frames rs)))
theorem below_drewN (w : World) (n : Nat) : Below w.heap.size w (w.drewN n) := ⟨rfl, rfl, rfl, Nat.le_refl _, fun _ _ => rfl⟩
set_option maxHeartbeats 4000000 in
set_option maxRecDepth 20000 in
theorem readFrames_any (v : Value) (rs : List ByteArray) (w : World) (hR : Rest w.heap.size w v rs) (hT : Tab w) (hf : Wl.Fit rs) (ht : Wl.total rs ≤ 5000000) :
    Calls Tryz.prog 99 #[v] w fun e w' => ∃ u, e = .returned (.tuple #[u, .bool true]) ∧ w'.ownsRow w.heap.size 9 1 u rs.length (rs.map Value.string) ∧ Below w.heap.size w w' := by
  have hpos := hT.pos
  have HT : Hid (Tab w) := hT
  have HR : Hid (Rest w.heap.size w v rs) := hR
  have HF : Hid (Wl.Fit rs) := hf
  clear hT hR hf
  go_enter Tryz.func99, Tryz.ntmps99
  go_wp2_with fail
  go_loopw [0, 2, 4, 5, 6, 7, 8] (fun s0 s2 _ _ _ _ _ wr => ∃ (ds t : List ByteArray), rs = ds ++ t ∧ Rest w.heap.size wr s0 t ∧ wr.ownsRow w.heap.size 9 1 s2 ds.length (ds.map Value.string) ∧ Below w.heap.size w wr) (fun s0 _ _ _ _ _ _ _ => match s0 with | .slice _ n _ => n | _ => 0)
  case atStart => exact ⟨[], rs, rfl, HR.out, World.ownsRow_nil _ _ _ _, Below.refl _ _⟩
  case round =>
    obtain ⟨ds, t, hrs, hRt, hO, hB⟩ := hrel
    obtain ⟨a, c, rfl, hc1, hc2, hcell⟩ := hRt
    have HO := (show Hid (wr.ownsRow w.heap.size 9 1 _ ds.length (ds.map Value.string)) from hO)
    have HB : Hid (Below w.heap.size w wr) := hB
    have HRS : Hid (rs = ds ++ t) := hrs
    have hsz := hB.size
    have htd : Wl.total ds + Wl.total t = Wl.total rs := by rw [hrs, Wl.total_append]
    have hdl := Wl.total_count ds
    clear hrs hO hB HR
    cases t with
    | nil =>
      have hd : decide ((0 : Int) < ((Wl.total [] : Nat) : Int)) = false := by decide
      have hd2 : ¬ 0 < Wl.total [] := by decide
      have HFN : Hid (∀ u, wr.ownsRow w.heap.size 9 1 u ds.length (ds.map Value.string) → wr.ownsRow w.heap.size 9 1 u rs.length (rs.map Value.string)) := fun u h => by rw [HRS.out, List.append_nil]; exact h
      clear hcell htd
      generalize Wl.total [] = m at *
      go_wp2
      go_ret2
      exact ⟨_, rfl, HFN.out _ HO.out, HB.out⟩
    | cons r t =>
      have hte : Wl.total (r :: t) = 8 + r.size + Wl.total t := rfl
      rw [hte] at hc1 hcell htd ⊢
      obtain ⟨g, off, rfl, hgN, hrg⟩ := hcell (by omega)
      have hrs : r.size ≤ 65536 := HF.out r (by rw [HRS.out]; simp)
      have hfr : bc (Wl.frames (r :: t)) = bc (Wl.put r.size 4) ++ (bc (Wl.sum4 (Wl.put r.size 4 ++ r)) ++ (bc r ++ bc (Wl.frames t))) := by
        rw [Wl.frames, bc_append]
        unfold Wl.frame
        rw [bc_append, bc_append, List.append_assoc, List.append_assoc]
      rw [hfr] at hrg
      obtain ⟨hR1, hrg⟩ := range_app hrg
      obtain ⟨hR2, hrg⟩ := range_app hrg
      obtain ⟨hR3, hR4⟩ := range_app hrg
      rw [bc_length, Wl.put_size] at hR2
      rw [bc_length, Wl.put_size, bc_length, Wl.sum4_size] at hR3
      rw [bc_length, Wl.put_size, bc_length, Wl.sum4_size, bc_length] at hR4
      have HR1 : Hid (wr.rangeAt g off (bc (Wl.put r.size 4))) := hR1
      have HR2 : Hid (wr.rangeAt g (off + 4) (bc (Wl.sum4 (Wl.put r.size 4 ++ r)))) := hR2
      have HR3 : Hid (wr.rangeAt g (off + 4 + 4) (bc r)) := hR3
      have HR4 : Hid (wr.rangeAt g (off + 4 + 4 + r.size) (bc (Wl.frames t))) := hR4
      clear hR1 hR2 hR3 hR4 hrg hfr hcell hte
      generalize hm : Wl.total t = m at *
      generalize hn : r.size = n at *
      have hlt : decide ((0 : Int) < ((8 + n + m : Nat) : Int)) = true := decide_eq_true (by omega)
      have hlt2 : 0 < 8 + n + m := by omega
      have hl8 : ¬ (((8 + n + m : Nat) : Int) < 8) := by omega
      have hl8' : ¬ 8 + n + m < 8 := by omega
      have hc4 : (4 : Int) ≤ (c : Int) := by omega
      have hc8 : (8 : Int) ≤ (c : Int) := by omega
      have hd8 : (8 : Int) ≤ ((8 + n + m : Nat) : Int) := by omega
      go_wp2_with fail
      go_quiet (fail)
      obtain ⟨o8, hA8, ho8, ho8'⟩ : ∃ o8, (if c = 8 then some (⟨g, off, none⟩ : Addr) else some ⟨g, off + 8, none⟩) = some ⟨g, o8, none⟩ ∧ (0 < n + m → o8 = off + 8) ∧ o8 ≤ off + 8 := by
        by_cases h : c = 8
        · exact ⟨off, by rw [if_pos h], fun h0 => by omega, by omega⟩
        · exact ⟨off + 8, by rw [if_neg h], fun _ => rfl, by omega⟩
      rw [hA8, show 8 + n + m - 8 = n + m by omega]
      have HBq : Hid (Below w.heap.size w (wr.drewN nq)) := HB.out.trans ((below_drewN wr nq).mono hsz)
      have HOq := (show Hid ((wr.drewN nq).ownsRow w.heap.size 9 1 _ ds.length (ds.map Value.string)) from own_keep HO.out (fun _ _ => rfl))
      have HQ1 : Hid ((wr.drewN nq).rangeAt g off (bc (Wl.put n 4))) := HR1.out
      have HQ2 : Hid ((wr.drewN nq).rangeAt g (off + 4) (bc (Wl.sum4 (Wl.put n 4 ++ r)))) := HR2.out
      have HQ3 : Hid ((wr.drewN nq).rangeAt g o8 (bc r)) := by
        by_cases h0 : 0 < n + m
        · rw [ho8 h0]; exact HR3.out
        · intro j u hu
          have := (List.getElem?_eq_some_iff.1 hu).1
          rw [bc_length] at this
          omega
      have HQ4 : Hid (0 < m → (wr.drewN nq).rangeAt g (o8 + n) (bc (Wl.frames t))) := fun h0 => by
        rw [ho8 (by omega)]; exact HR4.out
      have hsq : Hid ((wr.drewN nq).heap.size = wr.heap.size) := rfl
      generalize wr.drewN nq = W at *
      clear HR1 HR2 HR3 HR4 HO HB hA8 hc4 hc8 hd8 hl8 hl8' hlt hlt2
      have hTW := HT.out.below HBq.out hpos
      have hb1 := bytes_range HQ1.out (by rw [Wl.put_size]; omega)
      have hb2 := bytes_range HQ2.out (by rw [Wl.sum4_size]; omega)
      have hb3 := bytes_range HQ3.out (by omega)
      rw [Wl.put_size] at hb1
      rw [Wl.sum4_size] at hb2
      rw [hn] at hb3
      have HN1 := number_any (some ⟨g, off, none⟩) 4 4 (Wl.putL n 4) W (by rw [← Wl.put_list]; exact hb1) (by omega)
      rw [Wl.getL_putL 4 n (by omega)] at HN1
      have hsl := sum_lt _ (Wl.nb_lt (Wl.put n 4 ++ r))
      have HN2 := number_any (some ⟨g, off + 4, none⟩) 4 4 (Wl.putL (Crc.sum (Wl.nb (Wl.put n 4 ++ r))) 4) W (by rw [← Wl.put_list]; exact hb2) (by omega)
      rw [Wl.getL_putL 4 _ (by omega)] at HN2
      have HSM := sumof_any (some ⟨g, off, none⟩) (some ⟨g, o8, none⟩) 4 4 n n _ _ W hb1 hb3 hTW
      rw [← Wl.nb_append] at HSM
      have hcv := str_at HQ3.out n
      rw [hn] at hcv
      clear hb1 hb2 hb3 hTW HQ1 HQ2 HQ3
      generalize Crc.sum (Wl.nb (Wl.put n 4 ++ r)) = sm at *
      have hnm : ¬ ((n + m : Nat) : Int) < (n : Int) := by omega
      have hnm' : ¬ n + m < n := by omega
      have hnc : (n : Int) ≤ ((c - 8 : Nat) : Int) := by omega
      have hnl : (n : Int) ≤ ((n + m : Nat) : Int) := by omega
      go_wp2_with fail
      refine HN1.mono ?_
      rintro e w' ⟨rfl, hw⟩
      rw [hw]
      clear hw w'
      go_wp2_with fail
      refine HN2.mono ?_
      rintro e w' ⟨rfl, hw⟩
      rw [hw]
      clear hw w'
      go_wp2_with fail
      refine HSM.mono ?_
      rintro e w' ⟨rfl, hw⟩
      rw [hw]
      clear hw w' HN1 HN2 HSM
      have hwq : w.heap.size ≤ W.heap.size := HBq.out.size
      have q1 : ds.length + [r].length ≤ 10000000 := by simp; omega
      have q2 : ∀ o, w.heap.size ≤ (W.alloc o).heap.size := fun o => by simp; omega
      go_wp2_with (first | (refine app_many rfl (.tmp 39) (.tmp 42) rfl _ w.heap.size _ _ ds [r] rfl (own_alloc HOq.out _) rfl (own_new W r) q1 (q2 _) ?_; intro v3 w3 hO3 hG3 _))
      have hB3 : Below w.heap.size W w3 := ((Below.refl _ _).alloc hwq _).trans (below_grown hG3 (own_alloc HOq.out _) (q2 _))
      refine ⟨⟨ds ++ [r], t, ?_, ⟨if c - 8 = n then some ⟨g, o8, none⟩ else some ⟨g, o8 + n, none⟩, c - 8 - n, ?_, ?_, ?_, fun h0 => ⟨g, o8 + n, ?_, hgN, ?_⟩⟩, hO3, HBq.out.trans hB3⟩, ?_⟩
      · rw [HRS.out]; simp
      · rw [hm]
      · rw [hm]; omega
      · omega
      · rw [hm] at h0
        rw [if_neg (by omega)]
      · rw [hm] at h0
        exact range_below (HQ4.out h0) hB3 hgN
      · show m < 8 + n + m
        omega
end Go.Proofs.YtcfninpokngmlaaGreatDoor
/- Proved: what a log's read tells of the disk. -/
namespace Go.Proofs.YtcfninpokngmlaaGreatDoor
open Go.RowKit
theorem read_up {s : Sc.St} {i : Nat} (hd : s.down = false) (hi : i < s.kept.length) : Sc.readV s (i : Int) = Sc.now s i ∧ Sc.readE s (i : Int) = 0 := by
  have hh : Sc.has s (i : Int) = true := Sc.has_iff.2 ⟨by omega, by omega⟩
  unfold Sc.readV Sc.readE
  rw [hd, hh]
  simp only [Bool.false_eq_true, Bool.true_eq_false, if_false, Int.toNat_natCast]
  exact ⟨trivial, trivial⟩
/- one sector more -/
theorem read_step {b x : ByteArray} {i n : Nat} (hn : b.size = n) (h : 64 * i < n) (hx : x.size = 64) (hb : ∀ j, j < 64 → 64 * i + j < n → x.data.toList[j]? = b.data.toList[64 * i + j]?) :
    b.extract 0 (64 * i) ++ x.extract 0 (min (n - 64 * i) 64) = b.extract 0 (min (64 * (i + 1)) n) := by
  have hbl := Sc.size_eq b
  have hxl := Sc.size_eq x
  apply Wl.ext_list
  rw [Wl.app_list, Wl.ext_ext, Wl.ext_ext, Wl.ext_ext, List.drop_zero, List.drop_zero, List.drop_zero]
  have hl1 : (b.data.toList.take (64 * i)).length = 64 * i := by rw [List.length_take]; omega
  apply List.ext_getElem?
  intro j
  by_cases h1 : j < 64 * i
  · rw [List.getElem?_append_left (by rw [List.length_take]; omega), List.getElem?_take_of_lt h1, List.getElem?_take_of_lt (by omega)]
  · rw [List.getElem?_append_right (by omega), hl1]
    by_cases h2 : j < min (64 * (i + 1)) n
    · rw [List.getElem?_take_of_lt (by omega), List.getElem?_take_of_lt h2, hb (j - 64 * i) (by omega) (by omega), show 64 * i + (j - 64 * i) = j by omega]
    · rw [List.getElem?_eq_none (by rw [List.length_take]; omega), List.getElem?_eq_none (by rw [List.length_take]; omega)]
theorem ext_zero (b : ByteArray) : b.extract 0 0 = ⟨#[]⟩ := by
  apply Wl.ext_list
  rw [Wl.ext_ext]
  rfl
theorem ext_all (b : ByteArray) {k : Nat} (h : b.size ≤ k) : b.extract 0 k = b := by
  apply Wl.ext_list
  rw [Wl.ext_ext, List.drop_zero, List.take_of_length_le (by rw [← Sc.size_eq]; exact h)]
set_option maxHeartbeats 4000000 in
set_option maxRecDepth 20000 in
theorem lread_any (q g kg : Nat) (vp : Value) (s : Sc.St) (k0 n : Nat) (b : ByteArray) (w : World) (hc0 : w.cell? ⟨q, 0, none⟩ = some (ptr g)) (hD : Dk w g kg vp s) (hd : s.down = false) (hn : b.size = n) (hm : n ≤ 10000000) (hk0 : k0 ≤ 10000000) (hat : ∀ i, 64 * i < n → k0 + i < s.kept.length) (hb : ∀ i j, j < 64 → 64 * i + j < n → (Sc.now s (k0 + i)).data.toList[j]? = b.data.toList[64 * i + j]?) :
    Calls Tryz.prog 98 #[ptr q, .int .i64 (k0 : Int), .int .i64 (n : Int)] w fun e w' => ∃ v, e = .returned (.tuple #[v, .int .i64 0]) ∧ OwnB w' w.heap.size v b ∧ Below w.heap.size w w' := by
  have HD : Hid (Dk w g kg vp s) := hD
  have HC0 : Hid (w.cell? ⟨q, 0, none⟩ = some (ptr g)) := hc0
  have hq : q < w.heap.size := block_lt_of_cell hc0
  have HAT : Hid (∀ i, 64 * i < n → k0 + i < s.kept.length) := hat
  have HBB : Hid (∀ i j, j < 64 → 64 * i + j < n → (Sc.now s (k0 + i)).data.toList[j]? = b.data.toList[64 * i + j]?) := hb
  clear hD hc0 hat hb
  have hb1 : Tryz.t5.bytes = 1 := rfl
  go_enter Tryz.func98, Tryz.ntmps98
  go_wp2_with (first | (at_make; refine wpList_make_own w rfl _ _ 138 rfl w.heap.size 5 Tryz.t5 (.int .u8 0) 1 Tryz.underlying138 info_u8 rfl rfl .i64 .i64 (n : Int) n rfl rfl rfl (by rw [hb1]; omega) (by unfold maxLen; omega) (Nat.le_refl _) ?_; intro w1 hO1 hG1; have HO1 := (show Hid (OwnB w1 w.heap.size _ (b.extract 0 (64 * 0))) from (by show World.ownsRow _ _ _ _ _ _ _; rw [ext_zero]; exact hO1)); have HB1 : Hid (Below w.heap.size w w1) := ⟨hG1.os, hG1.tape, hG1.output, hG1.size, fun k hk => hG1.block k hk (by simp)⟩; clear hO1 hG1))
  go_loopw [1, 8, 9, 10] (fun s1 s8 _ _ wr => ∃ i : Nat, i ≤ n ∧ s1 = .int .i64 ((k0 + i : Nat) : Int) ∧ OwnB wr w.heap.size s8 (b.extract 0 (min (64 * i) n)) ∧ Below w.heap.size w wr) (fun s1 _ _ _ _ => k0 + n - (intOf s1).toNat)
  case atStart => exact ⟨0, by omega, rfl, (by rw [show min (64 * 0) n = 64 * 0 by omega]; exact HO1.out), HB1.out⟩
  case round =>
    obtain ⟨i, hi, rfl, hO, hB⟩ := hrel
    have HB : Hid (Below w.heap.size w wr) := hB
    have HO := (show Hid (OwnB wr w.heap.size _ (b.extract 0 (min (64 * i) n))) from hO)
    obtain ⟨va, vc, hv⟩ : ∃ va vc, _ = Value.slice va (b.extract 0 (min (64 * i) n)).size vc := own_slice hO
    have hlen : (b.extract 0 (min (64 * i) n)).size = min (64 * i) n := by simp; omega
    rw [hlen] at hv
    have hsz := hB.size
    clear HO1 HB1 hO hB
    by_cases hin : 64 * i < n
    · have HY : Hid (b.extract 0 (min (64 * i) n) = b.extract 0 (64 * i)) := by rw [Nat.min_eq_left (by omega)]; trivial
      rw [HY.out] at HO hlen
      rw [Nat.min_eq_left (by omega)] at hv hlen
      have hk := HAT.out i hin
      have hrd := read_any g kg vp s ((k0 + i : Nat) : Int) wr (HD.out.below HB.out)
      obtain ⟨e1, e2⟩ := read_up hd hk
      rw [e1, e2] at hrd
      have hxs : (Sc.now s (k0 + i)).size = 64 := Sc.now_size HD.out.ok (k0 + i)
      have hst := read_step hn hin hxs (HBB.out i)
      generalize Sc.now s (k0 + i) = x at *
      have c0 : wr.cell? ⟨q, 0, none⟩ = some (ptr g) := (HB.out.cell (p := ⟨q, 0, none⟩) hq).trans HC0.out
      have d1 : decide (((64 * i : Nat) : Int) < (n : Int)) = true := decide_eq_true (by omega)
      have d2 : 64 * i < n := hin
      have hcut : (x.extract 0 (min (n - 64 * i) 64)).size = min (n - 64 * i) 64 := by simp; omega
      have HST : Hid (b.extract 0 (64 * i) ++ x.extract 0 (min (n - 64 * i) 64) = b.extract 0 (min (64 * (i + 1)) n)) := hst
      clear hst e1 e2
      have HV := (show Hid _ from hv)
      have HB2' : Hid True := trivial
      clear HBB HAT
      generalize hm2 : min (n - 64 * i) 64 = m2 at *
      have hmin : min ((n : Int) - 64 * (i : Int)) 64 = (m2 : Int) := by omega
      have hm3 : m2 ≤ 64 := by omega
      subst hv
      go_wp2_with fail
      refine hrd.mono ?_
      rintro e w2 ⟨rfl, hB2⟩
      have HBq : Hid (Below w.heap.size w w2) := HB.out.trans (hB2.mono hsz)
      have HOq := (show Hid (OwnB w2 w.heap.size _ (b.extract 0 (64 * i))) from own_below HO.out hB2)
      have hs2 := HBq.out.size
      clear hB2 hrd
      have hq1 : (b.extract 0 (64 * i)).size + (x.extract 0 m2).size ≤ 1000000000 := by rw [hlen, hcut]; omega
      go_wp2_with (first | (refine app_text rfl (.tmp 31) (.tmp 40) rfl _ w.heap.size _ (b.extract 0 (64 * i)) rfl HOq.out (x.extract 0 m2) rfl hq1 hs2 ?_; intro v3 w3 hO3 hB3))
      have HFN : Hid (∃ i' : Nat, i' ≤ n ∧ Value.int .i64 ((k0 : Int) + (i : Int) + 1) = .int .i64 ((k0 + i' : Nat) : Int) ∧ OwnB w3 w.heap.size v3 (b.extract 0 (min (64 * i') n)) ∧ Below w.heap.size w w3) := ⟨i + 1, (by omega), (by congr 1), (by rw [← HST.out]; exact hO3), HBq.out.trans hB3⟩
      clear hO3 hB3
      go_roundw
      case rel => first | exact HFN.out | ((repeat apply Exists.intro); exact ⟨HFN.out, rfl⟩)
      case measure => (simp [intOf]) <;> omega
    · have d1 : decide (((min (64 * i) n : Nat) : Int) < (n : Int)) = false := decide_eq_false (by omega)
      have d2 : ¬ min (64 * i) n < n := by omega
      have HFN : Hid (OwnB wr w.heap.size (.slice va (min (64 * i) n) vc) b) := by
        have e1 : b.extract 0 (min (64 * i) n) = b := ext_all b (by omega)
        have := HO.out
        rw [e1, hv] at this
        exact this
      subst hv
      generalize min (64 * i) n = k at *
      clear HO
      go_wp2
      go_ret2
      exact ⟨_, rfl, HFN.out, HB.out⟩
end Go.Proofs.YtcfninpokngmlaaGreatDoor
/- Proved: what writeHead makes of a disk, and Reset of a log and its disk. -/
namespace Go.Proofs.YtcfninpokngmlaaGreatDoor
open Go.RowKit
/- the table is there, and no block of fs is its -/
structure Safe (w : World) (fs : List Nat) : Prop where
  tab : Tab w
  no : 0 ∉ fs
theorem Safe.turn {w w' : World} {fs gs : List Nat} (h : Safe w fs) (hT : Turn fs gs w w') : Safe w' gs := by
  have hp := h.tab.pos
  refine ⟨h.tab.of_block (hT.chg.block 0 hp h.no), hT.apart (rs := [0]) (fun k hk => by rw [List.mem_singleton.1 hk]; exact h.no) (fun k hk => by rw [List.mem_singleton.1 hk]; exact hp) 0 (List.mem_singleton.2 rfl)⟩
theorem Safe.below {w w' : World} {fs : List Nat} (h : Safe w fs) (hB : Below w.heap.size w w') : Safe w' fs := ⟨h.tab.below hB h.tab.pos, h.no⟩
theorem Safe.of {w : World} {fs gs : List Nat} (h : Safe w fs) (hs : ∀ k ∈ gs, k ∈ fs) : Safe w gs := ⟨h.tab, fun hm => h.no (hs 0 hm)⟩
theorem wrap_up (e : Nat) (h : e ≤ 9223372036854775807) : IntKind.u64.wrap (e : Int) = (e : Int) := by rw [IntKind.wrap_u64]; omega
set_option maxHeartbeats 4000000 in
set_option maxRecDepth 20000 in
theorem lmark_any (q g : Nat) (vr vw : Value) (l : Wl.Lg) (kg : Nat) (vp : Value) (s : Sc.St) (e len : Nat) (w : World) (L : LP w q g vr vw l kg vp s) (hT : Tab w) (he : e ≤ 9223372036854775807) (hlen : len ≤ 9223372036854775807) (hn : s.dn ≤ 100000) (hp : s.pend.length ≤ 20000) :
    Calls Tryz.prog 110 #[ptr q, .int .i64 (e : Int), .int .i64 (len : Int)] w (LDoes w q g vr vw kg vp l (Wl.hdS s l.base e len) (Wl.hdE s l.base e len)) := by
  have HL : Hid (LP w q g vr vw l kg vp s) := L
  have HLD : Hid (LP w.drew q g vr vw l kg vp s) := L.drew
  have HS : Hid ((fun U : World => U.cell? ⟨q, 0, none⟩ = some (ptr g) ∧ U.cell? ⟨q, 1, none⟩ = some (.int .i64 (l.base : Int))) w.drew) := ⟨L.pk.c0, L.pk.c1⟩
  have HHD : Hid (Calls Tryz.prog 126 #[.int .u64 (e : Int), .int .u64 (len : Int)] w.drew fun r w' => r = .returned (.string (Wl.head e len)) ∧ Below w.drew.heap.size w.drew w') := head_any e len _ hT.drew (by omega) (by omega)
  have hw1 := wrap_up e he
  have hw2 := wrap_up len hlen
  clear L hT
  go_enter Tryz.func110, Tryz.ntmps110
  go_wp2_with fail
  refine wp_region_held_drew (S := fun U => U.cell? ⟨q, 0, none⟩ = some (ptr g) ∧ U.cell? ⟨q, 1, none⟩ = some (.int .i64 (l.base : Int))) (by kernel_rfl) HS.out (fun _ => ?_)
  refine heldTake 0 (some 8) (ptr q) rfl rfl (by kernel_rfl) (by kernel_rfl) (by kernel_rfl) (fun _ _ _ h => h) (Or.inl ⟨by rfl, fun w hS => ?_⟩) HS.out ?_
  · (go_simp)
  simp only [Act.put, List.setIfInBounds_toArray, List.set_cons_zero, List.set_cons_succ]
  refine heldTake 1 (some 9) (ptr q) rfl rfl (by kernel_rfl) (by kernel_rfl) (by kernel_rfl) (fun _ _ _ h => h) (Or.inl ⟨by rfl, fun w hS => ?_⟩) HS.out ?_
  · (go_simp)
  simp only [Act.put, List.setIfInBounds_toArray, List.set_cons_zero, List.set_cons_succ]
  refine heldTake 2 (some 10) (ptr q) rfl rfl (by kernel_rfl) (by kernel_rfl) (by kernel_rfl) (fun _ _ _ h => h) (Or.inl ⟨by rfl, fun w hS => ?_⟩) HS.out ?_
  · (go_simp)
  simp only [Act.put, List.setIfInBounds_toArray, List.set_cons_zero, List.set_cons_succ]
  refine heldTake 3 (some 11) (ptr g) rfl rfl (by kernel_rfl) (by kernel_rfl) (by kernel_rfl) (fun _ _ _ h => h) (Or.inl ⟨by rfl, fun w hS => ?_⟩) HS.out ?_
  · (obtain ⟨p0, p1⟩ := hS; go_simp)
  simp only [Act.put, List.setIfInBounds_toArray, List.set_cons_zero, List.set_cons_succ]
  refine heldTake 4 (some 12) (ptr q) rfl rfl (by kernel_rfl) (by kernel_rfl) (by kernel_rfl) (fun _ _ _ h => h) (Or.inl ⟨by rfl, fun w hS => ?_⟩) HS.out ?_
  · (go_simp)
  simp only [Act.put, List.setIfInBounds_toArray, List.set_cons_zero, List.set_cons_succ]
  refine heldTake 5 (some 13) (ptr q) rfl rfl (by kernel_rfl) (by kernel_rfl) (by kernel_rfl) (fun _ _ _ h => h) (Or.inl ⟨by rfl, fun w hS => ?_⟩) HS.out ?_
  · (go_simp)
  simp only [Act.put, List.setIfInBounds_toArray, List.set_cons_zero, List.set_cons_succ]
  refine heldTake 6 (some 14) (.pointer (some ⟨q, 1, none⟩)) rfl rfl (by kernel_rfl) (by kernel_rfl) (by kernel_rfl) (fun _ _ _ h => h) (Or.inl ⟨by rfl, fun w hS => ?_⟩) HS.out ?_
  · (go_simp)
  simp only [Act.put, List.setIfInBounds_toArray, List.set_cons_zero, List.set_cons_succ]
  refine heldTake 7 (some 15) (.int .i64 (l.base : Int)) rfl rfl (by kernel_rfl) (by kernel_rfl) (by kernel_rfl) (fun _ _ _ h => h) (Or.inl ⟨by rfl, fun w hS => ?_⟩) HS.out ?_
  · (obtain ⟨p0, p1⟩ := hS; go_simp)
  simp only [Act.put, List.setIfInBounds_toArray, List.set_cons_zero, List.set_cons_succ]
  refine heldTake 8 (some 16) (.int .i64 (e : Int)) rfl rfl (by kernel_rfl) (by kernel_rfl) (by kernel_rfl) (fun _ _ _ h => h) (Or.inl ⟨by rfl, fun w hS => ?_⟩) HS.out ?_
  · (go_simp)
  simp only [Act.put, List.setIfInBounds_toArray, List.set_cons_zero, List.set_cons_succ]
  refine heldTake 9 (some 17) (.int .u64 (e : Int)) rfl rfl (by kernel_rfl) (by kernel_rfl) (by kernel_rfl) (fun _ _ _ h => h) (Or.inl ⟨by rfl, fun w hS => ?_⟩) HS.out ?_
  · (go_simp)
  simp only [Act.put, List.setIfInBounds_toArray, List.set_cons_zero, List.set_cons_succ]
  refine heldTake 10 (some 18) (.int .i64 (len : Int)) rfl rfl (by kernel_rfl) (by kernel_rfl) (by kernel_rfl) (fun _ _ _ h => h) (Or.inl ⟨by rfl, fun w hS => ?_⟩) HS.out ?_
  · (go_simp)
  simp only [Act.put, List.setIfInBounds_toArray, List.set_cons_zero, List.set_cons_succ]
  refine heldTake 11 (some 19) (.int .u64 (len : Int)) rfl rfl (by kernel_rfl) (by kernel_rfl) (by kernel_rfl) (fun _ _ _ h => h) (Or.inl ⟨by rfl, fun w hS => ?_⟩) HS.out ?_
  · (go_simp)
  simp only [Act.put, List.setIfInBounds_toArray, List.set_cons_zero, List.set_cons_succ]
  refine heldOne 12 (by kernel_rfl) rfl (by rfl) (fun KK hK => ?_)
  go_simp
  go_at_call 126
  refine HHD.out.mono ?_
  rintro r w1 ⟨rfl, hB1⟩
  have HL1 : Hid (LP w1 q g vr vw l kg vp s) := HLD.out.below hB1
  have HT1 : Hid (Turn (lfoot q g vr vw kg vp) (lfoot q g vr vw kg vp) w w1) := (Turn.refl _ w).drew.trans (Turn.of_below hB1)
  have HS1 : Hid ((fun U : World => U.cell? ⟨q, 0, none⟩ = some (ptr g) ∧ U.cell? ⟨q, 1, none⟩ = some (.int .i64 (l.base : Int))) w1) := ⟨HL1.out.pk.c0, HL1.out.pk.c1⟩
  clear hB1 HHD
  refine hK.out _ _ HS1.out ?_
  clear hK KK
  refine heldOne 13 (by kernel_rfl) rfl (by rfl) (fun KK hK => ?_)
  go_simp
  go_at_call 106
  refine (write_any g kg vp s (l.base : Int) (Wl.head e len) w1 HL1.out.dk (by omega) (by omega)).mono ?_
  have hst := Sc.writeS_step s (l.base : Int) (Wl.head e len)
  have hst1 := hst.len
  have hst2 := hst.dn
  clear hst
  have hC := Wl.hd_cases s l.base e len
  generalize Sc.writeS s (l.base : Int) (Wl.head e len) = s2 at *
  generalize Sc.writeE s (l.base : Int) (Wl.head e len) = e2 at *
  rintro r w2 ⟨vp2, rfl, hR2, hT2⟩
  obtain ⟨hL2, hTL2⟩ := HL1.out.d hR2 hT2 hst1
  have HL2 : Hid (LP w2 q g vr vw l kg vp2 s2) := hL2
  have HT2 : Hid (Turn (lfoot q g vr vw kg vp) (lfoot q g vr vw kg vp2) w w2) := HT1.out.trans hTL2
  have HS2 : Hid ((fun U : World => U.cell? ⟨q, 0, none⟩ = some (ptr g) ∧ U.cell? ⟨q, 1, none⟩ = some (.int .i64 (l.base : Int))) w2) := ⟨hL2.pk.c0, hL2.pk.c1⟩
  clear hR2 hT2 hL2 hTL2
  refine hK.out _ _ HS2.out ?_
  clear hK KK
  refine heldTake 14 (some 7) (.int .i64 e2) rfl rfl (by kernel_rfl) (by kernel_rfl) (by kernel_rfl) (fun _ _ _ h => h) (Or.inl ⟨by rfl, fun w hS => ?_⟩) HS2.out ?_
  · (go_simp)
  simp only [Act.put, List.setIfInBounds_toArray, List.set_cons_zero, List.set_cons_succ]
  refine wpAnyH_done (by kernel_rfl) ?_ _
  have c0 := HL2.out.pk.c0
  by_cases h2 : e2 = 0
  · subst h2
    obtain ⟨hC1, hC2⟩ := hC.1 rfl
    have HFL := flush_any g kg vp2 s2 w2 HL2.out.dk (by omega)
    have hfs := (Sc.flushS_step s2).len
    generalize Sc.flushS s2 = s3 at *
    generalize Sc.flushE s2 = e3 at *
    have HC : Hid (Wl.hdS s l.base e len = s3 ∧ Wl.hdE s l.base e len = e3) := ⟨hC1, hC2⟩
    clear hC hC1 hC2
    go_wp2_with fail
    refine HFL.mono ?_
    rintro r w3 ⟨vp3, rfl, hR3, hT3⟩
    obtain ⟨hL3, hTL3⟩ := HL2.out.d hR3 hT3 hfs
    have HFN : Hid (LDoes w q g vr vw kg vp l (Wl.hdS s l.base e len) (Wl.hdE s l.base e len) (.returned (.int .i64 e3)) w3) := by
      obtain ⟨hC1, hC2⟩ := HC.out
      rw [hC1, hC2]
      exact ⟨vr, vw, vp3, rfl, hL3, HT2.out.trans hTL3⟩
    clear hR3 hT3 hL3 hTL3 HFL c0
    go_wp2
    go_ret
    exact HFN.out
  · have hb3 : (e2 != 0) = true := by simp [h2]
    obtain ⟨hC1, hC2⟩ := hC.2 h2
    have HFN : Hid (LDoes w q g vr vw kg vp l (Wl.hdS s l.base e len) (Wl.hdE s l.base e len) (.returned (.int .i64 e2)) w2) := by
      rw [hC1, hC2]
      exact ⟨vr, vw, vp2, rfl, HL2.out, HT2.out⟩
    clear hC hC1 hC2
    go_wp2
    go_ret
    exact HFN.out
/- a reset: the head of the next epoch, no records -/
theorem Pk.emptied {w : World} {q g : Nat} {vr vw : Value} {l : Wl.Lg} (H : Pk w q g vr vw l) (ok : Wl.Lg.Ok { l with epoch := l.epoch + 1, bytes := Wl.ob [], recs := [] }) :
    Pk (((w.setCell ⟨q, 3, none⟩ (.int .i64 ((l.epoch : Int) + 1))).setCell ⟨q, 4, none⟩ (.int .i64 0)).setCell ⟨q, 5, none⟩ (.slice none 0 0)) q g (.slice none 0 0) vw { l with epoch := l.epoch + 1, bytes := Wl.ob [], recs := [] } ∧
    Turn (pfoot q vr vw) (pfoot q (.slice none 0 0) vw) w (((w.setCell ⟨q, 3, none⟩ (.int .i64 ((l.epoch : Int) + 1))).setCell ⟨q, 4, none⟩ (.int .i64 0)).setCell ⟨q, 5, none⟩ (.slice none 0 0)) := by
  have hC : Chg [q] w (((w.setCell ⟨q, 3, none⟩ (.int .i64 ((l.epoch : Int) + 1))).setCell ⟨q, 4, none⟩ (.int .i64 0)).setCell ⟨q, 5, none⟩ (.slice none 0 0)) := ((Chg.setCell _ q 3 _).trans (Chg.setCell _ q 4 _)).trans (Chg.setCell _ q 5 _)
  refine ⟨⟨?_, own_nil _, own_keep H.wait (fun k hk => hC.block k (H.lt k (by simp [pfoot, hk])) (fun e => H.hw (by rw [hk, List.mem_singleton.1 e]))), (by intro e; cases e), H.hw, (by intro k e; cases e), ok⟩, ⟨hC.mono (fun k hk => by rw [List.mem_singleton.1 hk]; simp [pfoot]), fun k hk => .inl ?_⟩⟩
  · rw [heap_setCell_same _ q 5 _ _ _ (heap_setCell_same _ q 4 _ _ _ (heap_setCell_same w q 3 _ _ _ H.row))]
    rfl
  · simp only [pfoot, List.mem_cons, List.mem_append, Option.mem_toList] at hk ⊢
    rcases hk with h1 | h1 | h1
    · exact .inl h1
    · cases h1
    · exact .inr (.inr h1)
theorem LP.lose {w w' : World} {q g kg : Nat} {vr vw vp : Value} {l : Wl.Lg} {s : Sc.St} {e : Int} {r : Ending} (L : LP w q g vr vw l kg vp s) (h : PDoes w q g vr vw (Wl.lose l e) e r w') : LDoes w q g vr vw kg vp (Wl.lose l e) s e r w' := by
  obtain ⟨vr', vw', h1, h2, h3⟩ := h
  have hb : (Wl.lose l e).base = l.base := by unfold Wl.lose; split <;> rfl
  have hn : (Wl.lose l e).n = l.n := by unfold Wl.lose; split <;> rfl
  obtain ⟨h4, h5⟩ := L.p h2 h3 hb hn
  exact ⟨vr', vw', vp, h1, h4, h5⟩
set_option maxHeartbeats 4000000 in
set_option maxRecDepth 20000 in
theorem lreset_any (q g : Nat) (vr vw : Value) (l : Wl.Lg) (kg : Nat) (vp : Value) (s : Sc.St) (w : World) (L : LP w q g vr vw l kg vp s) (hT : Tab w) (hn : s.dn ≤ 100000) (hp : s.pend.length ≤ 20000) :
    Calls Tryz.prog 80 #[ptr q] w (LDoes w q g vr vw kg vp (Wl.resetL l s) (Wl.resetS l s) (Wl.resetE l s)) := by
  have c6 := L.pk.c6
  have c3 := L.pk.c3
  have hep := L.pk.ok.epoch
  have HRD := lready_any q g vr vw l w L.pk
  unfold lreadyE at HRD
  have HOK : Hid ((Wl.resetL l s).Ok) := Wl.resetL_ok L.pk.ok s
  have HL : Hid (LP w q g vr vw l kg vp s) := L
  have HKEEP : Hid (∀ n, LDoes w q g vr vw kg vp l s n (.returned (.int .i64 n)) w) := fun n => ⟨vr, vw, vp, rfl, HL.out, Turn.refl _ _⟩
  have HTB : Hid (Tab w) := hT
  obtain ⟨wa, wcap, hwv⟩ := L.pk.wval
  rw [hwv] at c6
  clear L hT
  by_cases h1 : l.lost = true
  · have e1 : Wl.resetE l s = 10 := by unfold Wl.resetE; rw [if_pos h1]
    have e2 : Wl.resetL l s = l := by unfold Wl.resetL; rw [if_pos h1]
    have e3 : Wl.resetS l s = s := by unfold Wl.resetS; rw [if_pos h1]
    rw [e1, e2, e3]
    rw [if_pos h1] at HRD
    clear e1 e2 e3 hwv HOK
    go_enter Tryz.func80, Tryz.ntmps80
    go_wp2_with (go_at_call 109; refine HRD.mono ?_; rintro e w' ⟨rfl, rfl⟩)
    go_ret
    exact HKEEP.out 10
  · rw [if_neg h1] at HRD
    by_cases h2 : 0 < l.wait.length
    · have e1 : Wl.resetE l s = 9 := by unfold Wl.resetE; rw [if_neg h1, if_pos h2]
      have e2 : Wl.resetL l s = l := by unfold Wl.resetL; rw [if_neg h1, if_pos h2]
      have e3 : Wl.resetS l s = s := by unfold Wl.resetS; rw [if_neg h1, if_pos h2]
      rw [e1, e2, e3]
      have d1 : decide ((0 : Int) < (l.wait.length : Int)) = true := decide_eq_true (by omega)
      clear e1 e2 e3 hwv HOK
      go_enter Tryz.func80, Tryz.ntmps80
      go_wp2_with (go_at_call 109; refine HRD.mono ?_; rintro e w' ⟨rfl, rfl⟩)
      go_ret
      exact HKEEP.out 9
    · have d1 : decide ((0 : Int) < (l.wait.length : Int)) = false := decide_eq_false (by omega)
      by_cases h3 : l.epoch = 4611686018427387904
      · have e1 : Wl.resetE l s = 7 := by unfold Wl.resetE; rw [if_neg h1, if_neg h2, if_pos h3]
        have e2 : Wl.resetL l s = l := by unfold Wl.resetL; rw [if_neg h1, if_neg h2, if_pos h3]
        have e3 : Wl.resetS l s = s := by unfold Wl.resetS; rw [if_neg h1, if_neg h2, if_pos h3]
        rw [e1, e2, e3]
        have d2 : ((l.epoch : Int) == 4611686018427387904) = true := by rw [beq_iff_eq]; omega
        clear e1 e2 e3 hwv HOK h3
        go_enter Tryz.func80, Tryz.ntmps80
        go_wp2_with (go_at_call 109; refine HRD.mono ?_; rintro e w' ⟨rfl, rfl⟩)
        go_ret
        exact HKEEP.out 7
      · have d2 : ((l.epoch : Int) == 4611686018427387904) = false := by rw [beq_eq_false_iff_ne]; omega
        have e1 : Wl.resetE l s = Wl.hdE s l.base (l.epoch + 1) 0 := by unfold Wl.resetE; rw [if_neg h1, if_neg h2, if_neg h3]
        have e2 : Wl.resetL l s = if Wl.hdE s l.base (l.epoch + 1) 0 = 0 then { l with epoch := l.epoch + 1, bytes := Wl.ob [], recs := [] } else Wl.lose l (Wl.hdE s l.base (l.epoch + 1) 0) := by unfold Wl.resetL; rw [if_neg h1, if_neg h2, if_neg h3]
        have e3 : Wl.resetS l s = Wl.hdS s l.base (l.epoch + 1) 0 := by unfold Wl.resetS; rw [if_neg h1, if_neg h2, if_neg h3]
        rw [e1, e3]
        have HE2 : Hid (Wl.resetL l s = if Wl.hdE s l.base (l.epoch + 1) 0 = 0 then { l with epoch := l.epoch + 1, bytes := Wl.ob [], recs := [] } else Wl.lose l (Wl.hdE s l.base (l.epoch + 1) 0)) := e2
        have HMK := lmark_any q g vr vw l kg vp s (l.epoch + 1) 0 w HL.out HTB.out (by omega) (by omega) hn hp
        rw [show ((l.epoch + 1 : Nat) : Int) = (l.epoch : Int) + 1 by omega] at HMK
        clear e1 e2 e3 hwv HKEEP
        generalize Wl.resetL l s = l3 at *
        generalize Wl.hdE s l.base (l.epoch + 1) 0 = e5 at *
        generalize Wl.hdS s l.base (l.epoch + 1) 0 = s5 at *
        go_enter Tryz.func80, Tryz.ntmps80
        go_wp2_with fail
        refine HRD.mono ?_
        rintro e w' ⟨rfl, hw⟩
        rw [hw]
        clear hw w' HRD
        go_wp2_with fail
        refine HMK.mono ?_
        rintro e w1 ⟨vr1, vw1, vp1, rfl, hL1, hT1⟩
        have HL1 : Hid (LP w1 q g vr1 vw1 l kg vp1 s5) := hL1
        have HT1 : Hid (Turn (lfoot q g vr vw kg vp) (lfoot q g vr1 vw1 kg vp1) w w1) := hT1
        clear hL1 hT1 HMK c3 c6
        by_cases h5 : e5 = 0
        · subst h5
          have HE3 : Hid (l3 = { l with epoch := l.epoch + 1, bytes := Wl.ob [], recs := [] }) := by rw [HE2.out, if_pos rfl]; trivial
          rw [HE3.out] at HOK
          have c3 := HL1.out.pk.c3
          have c4 := HL1.out.pk.c4
          have c5 := HL1.out.pk.c5
          have f3 := HL1.out.pk.fz 3
          have f4 := HL1.out.pk.fz 4
          have f5 := HL1.out.pk.fz 5
          obtain ⟨hx1, hx2⟩ := HL1.out.pk.emptied HOK.out
          obtain ⟨hy1, hy2⟩ := HL1.out.p hx1 hx2 rfl rfl
          have HFN : Hid (LDoes w q g vr vw kg vp l3 s5 0 (.returned (.int .i64 0)) (((w1.setCell ⟨q, 3, none⟩ (.int .i64 ((l.epoch : Int) + 1))).setCell ⟨q, 4, none⟩ (.int .i64 0)).setCell ⟨q, 5, none⟩ (.slice none 0 0))) := by
            rw [HE3.out]
            exact ⟨_, _, _, rfl, hy1, HT1.out.trans hy2⟩
          clear hx1 hx2 hy1 hy2
          go_wp2
          go_ret
          exact HFN.out
        · have hb5 : (e5 != 0) = true := by simp [h5]
          have HE3 : Hid (l3 = Wl.lose l e5) := by rw [HE2.out, if_neg h5]; trivial
          have HLO := lose_any q g vr1 vw1 l e5 w1 HL1.out.pk h5
          clear h5
          go_wp2_with fail
          refine HLO.mono ?_
          intro r w2 hP2
          obtain ⟨vr2, vw2, vp2, rfl, hL2, hT2⟩ := HL1.out.lose hP2
          have HFN : Hid (LDoes w q g vr vw kg vp l3 s5 e5 (.returned (.int .i64 e5)) w2) := by rw [HE3.out]; exact ⟨vr2, vw2, vp2, rfl, hL2, HT1.out.trans hT2⟩
          clear hP2 hL2 hT2 HLO
          go_wp2
          go_ret
          exact HFN.out
end Go.Proofs.YtcfninpokngmlaaGreatDoor
/- Proved: plain facts of the bytes that a sync writes (stage 8). No program is named. -/
namespace Wl
open Sc (St)
/- what writeWaiting does: the writes, then a flush -/
def wwT (l : Lg) (s : St) : St × Int := if (writes l s).2 = 0 then (Sc.flushS (writes l s).1, Sc.flushE (writes l s).1) else writes l s
theorem syncT_ww (l : Lg) (s : St) : syncT l s = if (wwT l s).2 = 0 then (hdS (wwT l s).1 l.base l.epoch (all l).size, hdE (wwT l s).1 l.base l.epoch (all l).size) else wwT l s := by
  unfold syncT wwT
  by_cases h1 : (writes l s).2 = 0
  · rw [if_pos h1, if_pos h1]
  · rw [if_neg h1, if_neg h1, if_neg h1]
/- what is left to write from the sector kk on -/
def left (al : List UInt8) (kk : Nat) : ByteArray := ob (al.drop (64 * kk))
theorem left_size (al : List UInt8) (kk : Nat) : (left al kk).size = al.length - 64 * kk := by unfold left; rw [ob_size, List.length_drop]
theorem left_split (al : List UInt8) (kk : Nat) : left al kk = ob (sec al kk) ++ left al (kk + 1) := by
  apply ext_list
  unfold left sec
  rw [app_list, ob_list, ob_list, ob_list, show 64 * (kk + 1) = 64 * kk + 64 by omega, ← List.drop_drop, List.take_append_drop]
theorem sec_size (al : List UInt8) (kk : Nat) : (ob (sec al kk)).size = min (al.length - 64 * kk) 64 := by
  unfold sec
  rw [ob_size, List.length_take, List.length_drop]
  omega
/- the bytes of the sector in which the length ends, and the frames behind them -/
def tail (b : ByteArray) : ByteArray := b.extract (64 * (b.size / 64)) b.size
theorem tail_size (b : ByteArray) : (tail b).size = b.size % 64 := by unfold tail; simp; omega
theorem tail_list (b : ByteArray) : (tail b).data.toList = b.data.toList.drop (64 * (b.size / 64)) := by
  unfold tail
  rw [ext_ext, Sc.size_eq, List.take_length]
theorem tail_at (b : ByteArray) (j : Nat) : (tail b).data.toList[j]? = b.data.toList[64 * (b.size / 64) + j]? := by rw [tail_list, List.getElem?_drop]
theorem tail_all (l : Lg) : tail l.bytes ++ frames l.wait = left (all l).data.toList (l.bytes.size / 64) := by
  apply ext_list
  unfold left all
  have h : 64 * (l.bytes.size / 64) ≤ l.bytes.data.toList.length := by rw [← Sc.size_eq]; omega
  rw [app_list, tail_list, ob_list, app_list, List.drop_append, show 64 * (l.bytes.size / 64) - l.bytes.data.toList.length = 0 by omega, List.drop_zero]
end Wl
