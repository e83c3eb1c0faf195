/- Proved: what a database's settle makes of it, on any disk. -/
import Derived.Test.YtcfninpokngmlaaGreatDoorM10
namespace Pd
theorem wrAll_take {n : Nat} {m : Mp} {k : Nat} {p : Nat × Sheet} (h : m[k]? = some p) : wrAll n (m.take (k + 1)) = wrAll n (m.take k) ++ wrOf n p.1 (pageOf p.1 p.2) := by
  obtain ⟨hk, e⟩ := List.getElem?_eq_some_iff.1 h
  unfold wrAll
  rw [List.take_succ_eq_append_getElem hk, e, List.flatMap_append]
  simp
theorem wrAll_length (n : Nat) : ∀ (m : Mp), (wrAll n m).length = 8 * m.length
  | [] => rfl
  | p :: m => by
    show (wrOf n p.1 (pageOf p.1 p.2) ++ wrAll n m).length = _
    rw [List.length_append, wrOf_length, wrAll_length n m, List.length_cons]
    omega
def setW (d : Db) : Sc.St × Int := wrs (wrAll d.n d.m) d.s
def setT (d : Db) : Db × Int :=
  if d.l.recs = [] then (d, 0) else if (setW d).2 = 0 then
    if Sc.flushE (setW d).1 = 0 then ({ d with m := [], l := Wl.resetL d.l (Sc.flushS (setW d).1), s := Wl.resetS d.l (Sc.flushS (setW d).1) }, Wl.resetE d.l (Sc.flushS (setW d).1))
    else ({ d with s := Sc.flushS (setW d).1 }, Sc.flushE (setW d).1)
  else ({ d with s := (setW d).1 }, (setW d).2)
end Pd
namespace Go.Proofs.YtcfninpokngmlaaGreatDoor
open Go.RowKit
theorem heap_turn {w w' : World} {fs gs : List Nat} {k : Nat} {o : Obj} (h : w.heap[k]? = some o) (hT : Turn fs gs w w') (hn : k ∉ fs) : w'.heap[k]? = some o := (hT.chg.block k (Array.getElem?_eq_some_iff.1 h).1 hn).trans h
theorem mp_clear_run {w : World} {b : Nat} {m : Pd.Mp} (hM : MpAt w b m) : ∃ w', (∀ ty, (Builtin.clear_ #[59] ty #[.map (some b)]).run Tryz.prog w = .ok (.tuple #[]) w') ∧ MpAt w' b [] ∧ w.grownBy w' (some b) := by
  obtain ⟨es, clock, hb, F, hs, hD⟩ := hM.own
  have hst := Go.MapKept.heap_set (o' := .map #[] clock) hb
  refine ⟨{ w with heap := w.heap.setIfInBounds b (.map #[] clock) }, fun ty => ?_, ⟨Pd.up_nil, #[], clock, hst.1, ⟨by simp, Go.MapKept.stamped_empty clock, by simp⟩, Nat.le_refl _, rfl⟩, ⟨rfl, rfl, rfl, by simp, fun i _ hi => hst.2 i (fun e => hi (by rw [e]))⟩⟩
  simp [Builtin.clear_, run_underlying Tryz.underlying59, Go.MapKept.run_getObj_map hb, Go.MapKept.run_setObj_map _ hb, Result.andThen]
set_option maxHeartbeats 8000000 in
set_option maxRecDepth 100000 in
theorem settle_any (A : Ad) (op : Value) (d : Pd.Db) (w : World) (H : Dbw w A op d) (hF : Pd.Fine d.cnt d.m) (hc : d.cnt ≤ 1000) (hml : d.m.length ≤ 1000) (hn : d.n ≤ 1000000) (h1 : d.s.dn + 8 * d.m.length + 10 ≤ 90000) (h2 : d.s.pend.length + 8 * d.m.length + 10 ≤ 19000) :
    Calls Tryz.prog 57 #[ptr A.x] w (DDoes w A op (Pd.setT d).1 (Pd.setT d).2) := by
  have HH : Hid (Dbw w A op d) := H
  have HF : Hid (Pd.Fine d.cnt d.m) := hF
  have hpos := H.tab.pos
  have c1 := H.c1
  have HRC : Hid (∀ U, Dbw U A op d → Calls Tryz.prog 74 #[.pointer (some ⟨A.q, 0, none⟩)] U fun e w' => ∃ u, e = .returned u ∧ OwnS w' U.heap.size u d.l.recs ∧ Below U.heap.size U w') := fun U hU => lrecords_any A.q A.g A.vr A.vw d.l U hU.lp.pk
  clear H hF
  unfold ptr
  unfold ptr at c1
  by_cases hr : d.l.recs = []
  · have HE : Hid ((Pd.setT d) = (d, 0)) := by show _ = _; unfold Pd.setT; rw [if_pos hr]
    have hl0 : d.l.recs.length = 0 := by rw [hr]; rfl
    go_enter Tryz.func57, Tryz.ntmps57
    go_wp2_with fail
    refine (HRC.out w HH.out).mono ?_
    rintro e w1 ⟨u, rfl, hO, hB1⟩
    obtain ⟨ua, uc, hu, _⟩ := own_strs hO
    rw [hl0] at hu
    subst hu
    have HB1 : Hid (Below w.heap.size w w1) := hB1
    clear hO hB1 hr hl0
    go_wp2
    go_ret
    rw [HE.out]
    exact ⟨A.vr, A.vw, A.vp, rfl, HH.out.below HB1.out, Turn.of_below HB1.out⟩
  · have hl0 : ¬ d.l.recs.length = 0 := fun e => hr (List.length_eq_zero_iff.1 e)
    have HE : Hid ((Pd.setT d) = if (Pd.setW d).2 = 0 then (if Sc.flushE (Pd.setW d).1 = 0 then ({ d with m := [], l := Wl.resetL d.l (Sc.flushS (Pd.setW d).1), s := Wl.resetS d.l (Sc.flushS (Pd.setW d).1) }, Wl.resetE d.l (Sc.flushS (Pd.setW d).1)) else ({ d with s := Sc.flushS (Pd.setW d).1 }, Sc.flushE (Pd.setW d).1)) else ({ d with s := (Pd.setW d).1 }, (Pd.setW d).2)) := by
      show _ = _
      unfold Pd.setT
      rw [if_neg hr]
    have HW : Hid (Pd.setW d = Pd.wrs (Pd.wrAll d.n d.m) d.s) := rfl
    go_enter Tryz.func57, Tryz.ntmps57
    go_wp2_with fail
    refine (HRC.out w HH.out).mono ?_
    rintro e w1 ⟨u, rfl, hO, hB1⟩
    obtain ⟨ua, uc, hu, _⟩ := own_strs hO
    subst hu
    have HB1 : Hid (Below w.heap.size w w1) := hB1
    have HD1 : Hid (Dbw w1 A op d) := HH.out.below hB1
    have hz0 : ((d.l.recs.length : Int) == 0) = false := beq_false_of_ne (by omega)
    have c11 : w1.cell? ⟨A.x, 11, none⟩ = some (.map (some A.b)) := HD1.out.c11
    clear hO hB1 HRC c1
    go_wp2_with fail
    refine (show Calls _ _ _ _ _ from rising_any A.b d.m w1 HD1.out.mp (by omega)).mono ?_
    rintro e w2 ⟨g2, cap, cur, rfl, _, _, hge, hg2, hcur, hB2⟩
    have HD2 : Hid (Dbw w2 A op d) := HD1.out.below hB2
    have HB2 : Hid (Below w.heap.size w w2) := below_next HB1.out hB2 HB1.out.size
    have HG2 : Hid (w2.heap[g2]? = some (.cells cur 3 (0, 0))) := hg2
    have HCU : Hid (∀ (i : Nat) (p : Nat × Pd.Sheet), d.m[i]? = some p → cur[i]? = some (.int .i64 (p.1 : Int))) := hcur
    have HNF : Hid (g2 ∉ A.ft) := fun hm => by
      have := HD1.out.lt g2 hm
      omega
    clear hg2 hcur hB2 HD1 HB1 c11 hz0 hge
    go_wp2_with fail
    go_loopw [20] (fun s20 wr => ∃ (k : Nat) (vr vw vp : Value), k ≤ d.m.length ∧ s20 = .int .i64 (k : Int) ∧ (Pd.wrs (Pd.wrAll d.n (d.m.take k)) d.s).2 = 0 ∧ Dbw wr (A.to vr vw vp) op { d with s := (Pd.wrs (Pd.wrAll d.n (d.m.take k)) d.s).1 } ∧ Turn A.ft (A.to vr vw vp).ft w2 wr) (fun s20 _ => d.m.length - (intOf s20).toNat)
    case atStart => exact ⟨0, A.vr, A.vw, A.vp, by omega, rfl, rfl, HD2.out, Turn.refl _ _⟩
    case round =>
      obtain ⟨k, vr, vw, vp, hk, rfl, he0, hD, hT⟩ := hrel
      have HT : Hid (Turn A.ft (A.to vr vw vp).ft w2 wr) := hT
      obtain ⟨z1, z2, z3⟩ := Pd.wrs_step (Pd.wrAll d.n (d.m.take k)) d.s
      have hln : (Pd.wrAll d.n (d.m.take k)).length = 8 * k := by rw [Pd.wrAll_length, List.length_take]; omega
      rw [hln] at z2 z3
      by_cases hkl : k < d.m.length
      · obtain ⟨p, hp⟩ : ∃ p, d.m[k]? = some p := ⟨_, List.getElem?_eq_getElem hkl⟩
        have hpm : p ∈ d.m := List.mem_of_getElem? hp
        have hpf := HF.out p hpm
        have hwt := Pd.wrAll_take (n := d.n) hp
        have hgp : (Pd.get d.m p.1).getD sh00 = p.2 := by rw [Pd.mem_get hD.mp.up hpm]; rfl
        have hq : wr.cell? ⟨g2, k, none⟩ = some (.int .i64 (p.1 : Int)) := by
          rw [cell_of_row _ _ _ _ _ (0, 0) (heap_turn HG2.out hT HNF.out)]
          exact HCU.out k p hp
        have HAP : Hid (Pd.wrs (Pd.wrAll d.n (d.m.take (k + 1))) d.s = Pd.wrs (Pd.wrOf d.n p.1 (Pd.pageOf p.1 p.2)) (Pd.wrs (Pd.wrAll d.n (d.m.take k)) d.s).1) := by
          show _ = _
          rw [hwt, Pd.wrs_append, if_pos he0]
        have HALL : Hid (¬ (Pd.wrs (Pd.wrAll d.n (d.m.take (k + 1))) d.s).2 = 0 → Pd.setW d = Pd.wrs (Pd.wrAll d.n (d.m.take (k + 1))) d.s) := fun hne => by
          have e1 : Pd.wrAll d.n d.m = Pd.wrAll d.n (d.m.take (k + 1)) ++ Pd.wrAll d.n (d.m.drop (k + 1)) := by
            have : d.m = d.m.take (k + 1) ++ d.m.drop (k + 1) := (List.take_append_drop _ _).symm
            unfold Pd.wrAll
            rw [← List.flatMap_append, ← this]
          rw [HW.out, e1, Pd.wrs_append, if_neg hne]
        have HD : Hid (Dbw wr (A.to vr vw vp) op { d with s := (Pd.wrs (Pd.wrAll d.n (d.m.take k)) d.s).1 }) := hD
        have HWR : Hid (Calls Tryz.prog 78 #[.pointer (some ⟨A.x, 0, none⟩), .int .i64 (p.1 : Int), shV p.2] wr (DDoes wr (A.to vr vw vp) op { d with s := (Pd.wrs (Pd.wrOf d.n p.1 (Pd.pageOf p.1 p.2)) (Pd.wrs (Pd.wrAll d.n (d.m.take k)) d.s).1).1 } (Pd.wrs (Pd.wrOf d.n p.1 (Pd.pageOf p.1 p.2)) (Pd.wrs (Pd.wrAll d.n (d.m.take k)) d.s).1).2)) := dwrite_any (A.to vr vw vp) op { d with s := (Pd.wrs (Pd.wrAll d.n (d.m.take k)) d.s).1 } p.1 p.2 wr hD hpf.2 (by have := hpf.1; omega) hn (by show (Pd.wrs (Pd.wrAll d.n (d.m.take k)) d.s).1.dn + 8 ≤ _; omega) (by show (Pd.wrs (Pd.wrAll d.n (d.m.take k)) d.s).1.pend.length + 8 ≤ _; omega)
        rw [← HAP.out] at HWR
        have HGP : Hid ((Pd.get d.m p.1).getD sh00 = p.2 ∧ p.1 < d.cnt) := ⟨hgp, hpf.1⟩
        have HMP : Hid (MpAt wr A.b d.m) := hD.mp
        have c11 : wr.cell? ⟨A.x, 11, none⟩ = some (.map (some A.b)) := hD.c11
        have dk : decide ((k : Int) < (d.m.length : Int)) = true := decide_eq_true (by omega)
        have k0 : (0 : Int) ≤ (k : Int) := by omega
        have k1 : (k : Int) < (d.m.length : Int) := by omega
        clear hD hT he0 hwt hgp hpm hpf hp z1 z2 z3 hln HAP
        generalize hr1 : Pd.wrs (Pd.wrAll d.n (d.m.take (k + 1))) d.s = r1 at *
        have HR1 : Hid (Pd.wrs (Pd.wrAll d.n (d.m.take (k + 1))) d.s = r1) := hr1
        clear hr1
        obtain ⟨s1, e1⟩ := r1
        simp only at HWR HALL
        go_wp2_with (at_lookup; refine mp_look _ rfl _ _ rfl A.b d.m rfl HMP.out p.1 (by have := HGP.out.2; omega) rfl ?_; rw [HGP.out.1])
        refine HWR.out.mono ?_
        rintro e u1 ⟨vr1, vw1, vp1, rfl, hD1, hT1⟩
        have HD1 : Hid (Dbw u1 (A.to vr1 vw1 vp1) op { d with s := s1 }) := hD1
        have HT1 : Hid (Turn A.ft (A.to vr1 vw1 vp1).ft w2 u1) := HT.out.trans hT1
        clear hD1 hT1 HWR HD HT hq c11 HMP
        by_cases hz : e1 = 0
        · subst hz
          have HFN : Hid (∃ (k' : Nat) (vr' vw' vp' : Value), k' ≤ d.m.length ∧ Value.int .i64 ((k : Int) + 1) = .int .i64 (k' : Int) ∧ (Pd.wrs (Pd.wrAll d.n (d.m.take k')) d.s).2 = 0 ∧ Dbw u1 (A.to vr' vw' vp') op { d with s := (Pd.wrs (Pd.wrAll d.n (d.m.take k')) d.s).1 } ∧ Turn A.ft (A.to vr' vw' vp').ft w2 u1) := ⟨k + 1, vr1, vw1, vp1, by omega, by go_num, by rw [HR1.out], by rw [HR1.out]; exact HD1.out, HT1.out⟩
          go_wp2
          go_roundw
          case rel => first | exact HFN.out | ((repeat apply Exists.intro); exact ⟨HFN.out, rfl⟩)
          case measure => (simp [intOf]) <;> omega
        · have hb : (e1 != 0) = true := by simp [hz]
          have HFN : Hid (DDoes w A op (Pd.setT d).1 (Pd.setT d).2 (.returned (.int .i64 e1)) u1) := by
            have e2 := HALL.out hz
            have e3 : Pd.setT d = ({ d with s := s1 }, e1) := by rw [HE.out, e2, if_neg hz]
            rw [e3]
            exact ⟨vr1, vw1, vp1, rfl, HD1.out, (Turn.of_below HB2.out).trans HT1.out⟩
          go_wp2
          go_ret
          exact HFN.out
      · obtain rfl : k = d.m.length := by omega
        have dk : decide ((d.m.length : Int) < (d.m.length : Int)) = false := decide_eq_false (by omega)
        have e2 : Pd.wrs (Pd.wrAll d.n (d.m.take d.m.length)) d.s = Pd.setW d := by rw [List.take_length]; rfl
        rw [e2] at hD he0 z1 z2 z3
        have HE2 : Hid (Pd.setT d = if Sc.flushE (Pd.setW d).1 = 0 then ({ d with m := [], l := Wl.resetL d.l (Sc.flushS (Pd.setW d).1), s := Wl.resetS d.l (Sc.flushS (Pd.setW d).1) }, Wl.resetE d.l (Sc.flushS (Pd.setW d).1)) else ({ d with s := Sc.flushS (Pd.setW d).1 }, Sc.flushE (Pd.setW d).1)) := by
          show _ = _
          rw [HE.out, if_pos he0]
        clear e2 he0 hln
        have HFL : Hid (Calls Tryz.prog 79 #[.pointer (some ⟨A.g, 0, none⟩)] wr (Does wr A.g A.kg vp (Sc.flushS (Pd.setW d).1) (Sc.flushE (Pd.setW d).1))) := flush_any A.g A.kg vp (Pd.setW d).1 wr hD.lp.dk (by omega)
        have hfl := Sc.flushS_step (Pd.setW d).1
        have hf1 := hfl.len
        have hf2 := hfl.dn
        have hf3 := hfl.pend
        clear hfl
        generalize hs0 : (Pd.setW d).1 = s0 at *
        clear hs0
        generalize hs1 : Sc.flushS s0 = s1 at *
        generalize he1 : Sc.flushE s0 = e1 at *
        clear hs1 he1
        have HD : Hid (Dbw wr (A.to vr vw vp) op { d with s := s0 }) := hD
        have c0 : wr.cell? ⟨A.x, 0, none⟩ = some (.pointer (some ⟨A.g, 0, none⟩)) := hD.c0
        clear hD hT
        go_wp2_with fail
        refine HFL.out.mono ?_
        rintro e u1 ⟨vp1, rfl, hR1, hT1⟩
        obtain ⟨hL1, hTL1⟩ := HD.out.lp.d hR1 hT1 hf1
        obtain ⟨hD1, hTD1⟩ := HD.out.turn (vr := vr) (vw := vw) (vp := vp1) hL1 hTL1
        have HD1 : Hid (Dbw u1 (A.to vr vw vp1) op { d with s := s1 }) := hD1
        have HT1 : Hid (Turn A.ft (A.to vr vw vp1).ft w2 u1) := HT.out.trans hTD1
        clear hR1 hT1 hL1 hTL1 hD1 hTD1 HFL HD HT c0
        by_cases hz : e1 = 0
        · subst hz
          rw [if_pos rfl] at HE2
          have c11 : u1.cell? ⟨A.x, 11, none⟩ = some (.map (some A.b)) := HD1.out.c11
          have HMP : Hid (MpAt u1 A.b d.m) := HD1.out.mp
          obtain ⟨y2, hclr, hM2, hg2⟩ := mp_clear_run HMP.out
          obtain ⟨hD2, hT2⟩ := HD1.out.map hM2 hg2
          have HD2 : Hid (Dbw y2 (A.to vr vw vp1) op { d with m := [], s := s1 }) := hD2
          have HT2 : Hid (Turn A.ft (A.to vr vw vp1).ft w2 y2) := HT1.out.trans hT2
          have HRS : Hid (Calls Tryz.prog 80 #[.pointer (some ⟨A.q, 0, none⟩)] y2 (LDoes y2 A.q A.g vr vw A.kg vp1 (Wl.resetL d.l s1) (Wl.resetS d.l s1) (Wl.resetE d.l s1))) := lreset_any A.q A.g vr vw d.l A.kg vp1 s1 y2 hD2.lp hD2.tab (by omega) (by omega)
          have c1 : y2.cell? ⟨A.x, 1, none⟩ = some (.pointer (some ⟨A.q, 0, none⟩)) := hD2.c1
          clear hM2 hg2 hD2 hT2 HD1 HT1 HMP
          generalize hrl : Wl.resetL d.l s1 = l3 at *
          generalize hrs : Wl.resetS d.l s1 = s3 at *
          generalize hre : Wl.resetE d.l s1 = e3 at *
          clear hrl hrs hre
          go_wp2_with fail
          refine HRS.out.mono ?_
          rintro e y3 ⟨vr3, vw3, vp3, rfl, hL3, hT3⟩
          obtain ⟨hD3, hTD3⟩ := HD2.out.turn (vr := vr3) (vw := vw3) (vp := vp3) hL3 hT3
          have HFN : Hid (DDoes w A op (Pd.setT d).1 (Pd.setT d).2 (.returned (.int .i64 e3)) y3) := by
            rw [HE2.out]
            exact ⟨vr3, vw3, vp3, rfl, hD3, (Turn.of_below HB2.out).trans (HT2.out.trans hTD3)⟩
          clear hL3 hT3 hD3 hTD3 HRS HD2 HT2 c1
          go_wp2
          go_ret
          exact HFN.out
        · have hb : (e1 != 0) = true := by simp [hz]
          rw [if_neg hz] at HE2
          have HFN : Hid (DDoes w A op (Pd.setT d).1 (Pd.setT d).2 (.returned (.int .i64 e1)) u1) := by
            rw [HE2.out]
            exact ⟨vr, vw, vp1, rfl, HD1.out, (Turn.of_below HB2.out).trans HT1.out⟩
          go_wp2
          go_ret
          exact HFN.out
end Go.Proofs.YtcfninpokngmlaaGreatDoor
/- Proved: what a database's small calls answer. -/
namespace Go.Proofs.YtcfninpokngmlaaGreatDoor
open Go.RowKit
def nilP : Value := .pointer none
section
variable (A : Ad) (op : Value) (d : Pd.Db) (w : World)
theorem dmade_yes (H : Dbw w A op d) : Calls Tryz.prog 50 #[ptr A.x] w fun e w' => e = .returned (.bool true) ∧ w' = w := by
  have c0 := H.c0
  clear H
  unfold ptr at *
  go_enter Tryz.func50, Tryz.ntmps50
  go_wp2
  go_ret
  exact ⟨rfl, rfl⟩
theorem dcount_any (H : Dbw w A op d) : Calls Tryz.prog 11 #[ptr A.x] w fun e w' => e = .returned (.int .i64 (d.cnt : Int)) ∧ w' = w := by
  have HM := dmade_yes A op d w H
  have c3 := H.c3
  clear H
  unfold ptr at *
  go_enter Tryz.func11, Tryz.ntmps11
  go_wp2_with (go_at_call 50; refine HM.mono ?_; rintro e w' ⟨rfl, rfl⟩)
  go_ret
  exact ⟨rfl, rfl⟩
theorem dhigh_any (H : Dbw w A op d) : Calls Tryz.prog 12 #[ptr A.x] w fun e w' => e = .returned (.int .i64 (d.st.high : Int)) ∧ w' = w := by
  have HM := dmade_yes A op d w H
  have c4 := H.c4
  clear H
  unfold ptr at *
  go_enter Tryz.func12, Tryz.ntmps12
  go_wp2_with (go_at_call 50; refine HM.mono ?_; rintro e w' ⟨rfl, rfl⟩)
  go_ret
  exact ⟨rfl, rfl⟩
theorem dfree_any (H : Dbw w A op d) : Calls Tryz.prog 13 #[ptr A.x] w fun e w' => e = .returned (.int .i64 (d.st.free : Int)) ∧ w' = w := by
  have HM := dmade_yes A op d w H
  have c5 := H.c5
  clear H
  unfold ptr at *
  go_enter Tryz.func13, Tryz.ntmps13
  go_wp2_with (go_at_call 50; refine HM.mono ?_; rintro e w' ⟨rfl, rfl⟩)
  go_ret
  exact ⟨rfl, rfl⟩
theorem idle_ok (H : Dbw w A nilP d) (hl : d.lost = false) : Calls Tryz.prog 59 #[ptr A.x] w fun e w' => e = .returned (.int .i64 0) ∧ w' = w := by
  have HM := dmade_yes A nilP d w H
  have c12 := H.c12
  have c13 := H.c13
  rw [hl] at c13
  clear H
  unfold ptr at *
  unfold nilP at *
  go_enter Tryz.func59, Tryz.ntmps59
  go_wp2_with (go_at_call 50; refine HM.mono ?_; rintro e w' ⟨rfl, rfl⟩)
  go_ret
  exact ⟨rfl, rfl⟩
theorem idle_open (t : Nat) (H : Dbw w A (ptr t) d) (hl : d.lost = false) : Calls Tryz.prog 59 #[ptr A.x] w fun e w' => e = .returned (.int .i64 9) ∧ w' = w := by
  have HM := dmade_yes A (ptr t) d w H
  have c12 := H.c12
  have c13 := H.c13
  rw [hl] at c13
  clear H
  unfold ptr at *
  go_enter Tryz.func59, Tryz.ntmps59
  go_wp2_with (go_at_call 50; refine HM.mono ?_; rintro e w' ⟨rfl, rfl⟩)
  go_ret
  exact ⟨rfl, rfl⟩
def heedB (e : Int) : Bool := !(e == 0) && !(e == 7)
theorem heed_any (n : Int) (H : Dbw w A op d) : Calls Tryz.prog 60 #[ptr A.x, .int .i64 n] w fun e w' => e = .returned (.int .i64 n) ∧ Dbw w' A op { d with lost := heedB n } ∧ Turn A.ft A.ft w w' := by
  have HS : Hid (∀ v : Bool, Dbw (w.setCell ⟨A.x, 13, none⟩ (.bool v)) A op { d with lost := v } ∧ Turn A.ft A.ft w (w.setCell ⟨A.x, 13, none⟩ (.bool v))) := fun v => H.set 13 (.bool v) rfl rfl rfl rfl
  have c13 := H.c13
  have f13 := H.fz 13
  clear H
  unfold ptr at *
  by_cases h0 : n = 0
  · subst h0
    go_enter Tryz.func60, Tryz.ntmps60
    go_wp2
    go_ret
    exact ⟨rfl, HS.out false⟩
  · by_cases h7 : n = 7
    · subst h7
      go_enter Tryz.func60, Tryz.ntmps60
      go_wp2
      go_ret
      exact ⟨rfl, HS.out false⟩
    · have b0 : (n != 0) = true := by simp [h0]
      have b7 : (n != 7) = true := by simp [h7]
      have e : heedB n = true := by unfold heedB; simp [h0, h7]
      rw [e]
      go_enter Tryz.func60, Tryz.ntmps60
      go_wp2
      go_ret
      exact ⟨rfl, HS.out true⟩
def holdsB (n k : Nat) : Bool := decide (4 + 516 * k ≤ 65536) && decide (12 + 516 * k ≤ 64 * (n - 1))
theorem holds_any (k : Nat) (H : Dbw w A op d) (hn : 1 ≤ d.n) (hn2 : d.n ≤ 1000000) (hk : k ≤ 100000) : Calls Tryz.prog 67 #[ptr A.x, .int .i64 (k : Int)] w fun e w' => e = .returned (.bool (holdsB d.n k)) ∧ w' = w := by
  have HR := rsize_any k w hk
  have c2 := H.c2
  clear H
  unfold ptr at *
  have e1 : IntKind.i64.wrap (8 + ((4 + 516 * k : Nat) : Int)) = ((12 + 516 * k : Nat) : Int) := by rw [IntKind.wrap_i64]; omega
  have e2 : IntKind.i64.wrap ((d.n : Int) - 1) = (d.n : Int) - 1 := by rw [IntKind.wrap_i64]; omega
  have e3 : IntKind.i64.wrap (((d.n : Int) - 1) * 64) = ((64 * (d.n - 1) : Nat) : Int) := by rw [IntKind.wrap_i64]; omega
  unfold holdsB
  by_cases h1 : 4 + 516 * k ≤ 65536
  · have a1 : decide (((4 + 516 * k : Nat) : Int) ≤ 65536) = true := decide_eq_true (by omega)
    rw [decide_eq_true h1]
    by_cases h2 : 12 + 516 * k ≤ 64 * (d.n - 1)
    · have a2 : decide (((12 + 516 * k : Nat) : Int) ≤ ((64 * (d.n - 1) : Nat) : Int)) = true := decide_eq_true (by omega)
      rw [decide_eq_true h2]
      generalize hx : ((4 + 516 * k : Nat) : Int) = X at *
      generalize hy : ((12 + 516 * k : Nat) : Int) = Y at *
      generalize hz : ((64 * (d.n - 1) : Nat) : Int) = Z at *
      clear hx hy hz h1 h2
      go_enter Tryz.func67, Tryz.ntmps67
      go_wp2_with (go_at_call 91; refine HR.mono ?_; rintro e w' ⟨rfl, rfl⟩)
      go_ret
      exact ⟨by first | rfl | simp [*], rfl⟩
    · have a2 : decide (((12 + 516 * k : Nat) : Int) ≤ ((64 * (d.n - 1) : Nat) : Int)) = false := decide_eq_false (by omega)
      rw [decide_eq_false h2]
      generalize hx : ((4 + 516 * k : Nat) : Int) = X at *
      generalize hy : ((12 + 516 * k : Nat) : Int) = Y at *
      generalize hz : ((64 * (d.n - 1) : Nat) : Int) = Z at *
      clear hx hy hz h1 h2
      go_enter Tryz.func67, Tryz.ntmps67
      go_wp2_with (go_at_call 91; refine HR.mono ?_; rintro e w' ⟨rfl, rfl⟩)
      go_ret
      exact ⟨by first | rfl | simp [*], rfl⟩
  · have a1 : decide (((4 + 516 * k : Nat) : Int) ≤ 65536) = false := decide_eq_false (by omega)
    rw [decide_eq_false h1]
    generalize hx : ((4 + 516 * k : Nat) : Int) = X at *
    clear hx h1 e1
    go_enter Tryz.func67, Tryz.ntmps67
    go_wp2_with (go_at_call 91; refine HR.mono ?_; rintro e w' ⟨rfl, rfl⟩)
    go_ret
    exact ⟨by first | rfl | simp [*], rfl⟩
end
end Go.Proofs.YtcfninpokngmlaaGreatDoor
/- Proved: what a database's recall makes of the records of its log. -/
namespace Pd
/- records of pages -/
structure Recs (n cnt : Nat) (rs : List ByteArray) (ms : List Mp) : Prop where
  eq : rs = ms.map (recText n)
  up : ∀ a ∈ ms, Up a
  fine : ∀ a ∈ ms, Fine cnt a
  ne : ∀ a ∈ ms, a ≠ []
def mOf (ms : List Mp) : Mp := ms.foldl copy []
theorem mOf_snoc (ms : List Mp) (a : Mp) : mOf (ms ++ [a]) = copy (mOf ms) a := by
  unfold mOf
  rw [List.foldl_append]
  rfl
theorem mOf_up : ∀ (ms : List Mp) (d : Mp), Up d → Up (ms.foldl copy d)
  | [], _, h => h
  | a :: ms, d, h => mOf_up ms (copy d a) (Up.copy a h)
theorem mOf_fine {cnt : Nat} : ∀ (ms : List Mp) (d : Mp), (∀ a ∈ ms, Fine cnt a) → Fine cnt d → Fine cnt (ms.foldl copy d)
  | [], _, _, h => h
  | a :: ms, d, hm, h => mOf_fine ms (copy d a) (fun b hb => hm b (List.mem_cons_of_mem _ hb)) (fun p hp => by
      rcases copy_keys a d p hp with h1 | h1
      · exact hm a List.mem_cons_self p h1
      · exact h p h1)
theorem fine_length {cnt : Nat} {m : Mp} (hu : Up m) (h : Fine cnt m) : m.length ≤ cnt := by
  have := up_bound (a := 0) (b := cnt) hu (fun p hp => ⟨Nat.zero_le _, (h p hp).1⟩)
  omega
theorem Recs.take {n cnt : Nat} {rs : List ByteArray} {ms : List Mp} (h : Recs n cnt rs ms) (k : Nat) : Recs n cnt (rs.take k) (ms.take k) :=
  ⟨by rw [h.eq, List.map_take], fun a ha => h.up a (List.mem_of_mem_take ha), fun a ha => h.fine a (List.mem_of_mem_take ha), fun a ha => h.ne a (List.mem_of_mem_take ha)⟩
theorem Recs.m {n cnt : Nat} {rs : List ByteArray} {ms : List Mp} (h : Recs n cnt rs ms) : Up (mOf ms) ∧ Fine cnt (mOf ms) := ⟨mOf_up ms [] up_nil, mOf_fine ms [] h.fine (fun _ h => nomatch h)⟩
end Pd
namespace Go.Proofs.YtcfninpokngmlaaGreatDoor
open Go.RowKit
def dbZ (A : Ad) (d : Pd.Db) : Array Value := #[ptr A.g, ptr A.q, .int .i64 (d.n : Int), .int .i64 (d.cnt : Int), .int .i64 0, .int .i64 0, .int .i64 0, .int .i64 0, .int .i64 0, .int .i64 0, .int .i64 0, .map none, nilP, .bool false]
def st0 : Pd.Stt := ⟨0, 0, 0, 0, 0, 0, 0⟩
/- a database as Open lays it, without a map yet -/
structure Dbz (w : World) (A : Ad) (d : Pd.Db) : Prop where
  row : w.heap[A.x]? = some (.cells (dbZ A d) 61 (0, 0))
  lp : LP w A.q A.g A.vr A.vw d.l A.kg A.vp d.s
  safe : Safe w (A.x :: A.lf)
  ax : A.x ∉ A.lf
  st : d.st = st0
  m : d.m = []
  lost : d.lost = false
theorem Dbz.first {w : World} {A : Ad} {d : Pd.Db} (H : Dbz w A d) (hb : A.b = w.heap.size) : Dbw ((w.setCell ⟨A.x, 11, none⟩ (.map (some w.heap.size))).alloc (.map #[] 0)) A nilP d ∧ Turn (A.x :: A.lf) A.ft w ((w.setCell ⟨A.x, 11, none⟩ (.map (some w.heap.size))).alloc (.map #[] 0)) := by
  have hx : A.x < w.heap.size := (Array.getElem?_eq_some_iff.1 H.row).1
  have hsz : (w.setCell ⟨A.x, 11, none⟩ (.map (some w.heap.size))).heap.size = w.heap.size := by simp [World.setCell]
  have hc : Chg [A.x] w ((w.setCell ⟨A.x, 11, none⟩ (.map (some w.heap.size))).alloc (.map #[] 0)) := (Chg.setCell w A.x 11 _).trans (Chg.alloc [A.x] _ _)
  have hlf : ∀ k ∈ A.lf, k < w.heap.size := H.lp.lt
  have hne : A.b ∉ A.x :: A.lf := fun hm => by
    rcases List.mem_cons.1 hm with e | hm
    · omega
    · have := hlf _ hm; omega
  refine ⟨⟨?_, ?_, H.lp.keep hc (fun k hk e => H.ax (by rw [← List.mem_singleton.1 e]; exact hk)), ?_, H.ax, fun hm => hne (List.mem_cons_of_mem _ hm), fun e => hne (by rw [← e]; exact List.mem_cons_self)⟩, ⟨hc.mono (fun k hk => by rw [List.mem_singleton.1 hk]; exact List.mem_cons_self), fun k hk => ?_⟩⟩
  · rw [heap_alloc_old _ _ (by rw [hsz]; exact hx), heap_setCell_same w A.x 11 _ _ _ H.row]
    unfold dbZ dbA
    rw [H.st, H.lost, hb]
    rfl
  · rw [H.m, hb]
    have := MpAt.made (w.setCell ⟨A.x, 11, none⟩ (.map (some w.heap.size)))
    rw [hsz] at this
    exact this
  · refine ⟨H.safe.tab.of_block (hc.block 0 H.safe.tab.pos (fun hm => H.safe.no (by rw [← List.mem_singleton.1 hm]; exact List.mem_cons_self))), fun hm => ?_⟩
    rcases List.mem_cons.1 hm with e | hm
    · exact H.safe.no (by rw [e]; exact List.mem_cons_self)
    · rcases List.mem_cons.1 hm with e | hm
      · have := H.safe.tab.pos; omega
      · exact H.safe.no (List.mem_cons_of_mem _ hm)
  · rcases List.mem_cons.1 hk with e | hk
    · exact .inl (by rw [e]; exact List.mem_cons_self)
    · rcases List.mem_cons.1 hk with e | hk
      · exact .inr (by omega)
      · exact .inl (List.mem_cons_of_mem _ hk)
set_option maxHeartbeats 8000000 in
set_option maxRecDepth 100000 in
theorem recall_any (A : Ad) (d : Pd.Db) (ms : List Pd.Mp) (w : World) (H : Dbz w A d) (hb : A.b = w.heap.size) (hR : Pd.Recs d.n d.cnt d.l.recs ms) (hc : d.cnt ≤ 1000) (hn : d.n < 4294967296) :
    Calls Tryz.prog 56 #[ptr A.x] w fun e w' => e = .returned (.int .i64 0) ∧ Dbw w' A nilP { d with m := Pd.mOf ms } ∧ Turn (A.x :: A.lf) A.ft w w' := by
  have hmm := @run_makeMap Tryz.prog
  obtain ⟨hD0, hT0⟩ := H.first hb
  have hx : A.x < w.heap.size := (Array.getElem?_eq_some_iff.1 H.row).1
  have f11 : w.frozen? ⟨A.x, 11, none⟩ = false := frozen_of_row _ _ _ _ _ H.row
  have g11 : w.cell? ⟨A.x, 11, none⟩ = some (.map none) := by rw [cell_of_row _ _ _ _ _ (0, 0) H.row]; rfl
  have g1w : w.cell? ⟨A.x, 1, none⟩ = some (.pointer (some ⟨A.q, 0, none⟩)) := by rw [cell_of_row _ _ _ _ _ (0, 0) H.row]; rfl
  have HR : Hid (Pd.Recs d.n d.cnt d.l.recs ms) := hR
  have hml : d.l.recs.length = ms.length := by rw [hR.eq, List.length_map]
  have HD0 : Hid (Dbw ((w.setCell ⟨A.x, 11, none⟩ (.map (some w.heap.size))).alloc (.map #[] 0)) A nilP { d with m := Pd.mOf (ms.take 0) }) := by
    have e : ({ d with m := Pd.mOf (ms.take 0) } : Pd.Db) = d := by
      have h1 := H.m
      show ({ d with m := [] } : Pd.Db) = d
      rw [← h1]
    rw [e]
    exact hD0
  have HT0 : Hid (Turn (A.x :: A.lf) A.ft w ((w.setCell ⟨A.x, 11, none⟩ (.map (some w.heap.size))).alloc (.map #[] 0))) := hT0
  clear H hD0 hT0 hR hb
  unfold ptr
  go_enter Tryz.func56, Tryz.ntmps56
  go_wp2_with fail
  generalize hw0 : World.alloc _ _ = w0 at *
  clear hw0 f11 g11 hmm g1w hx
  refine (show Calls _ _ _ _ _ from lrecords_any A.q A.g A.vr A.vw d.l w0 HD0.out.lp.pk).mono ?_
  rintro e w1 ⟨u, rfl, hO, hB1⟩
  have HD1 : Hid (Dbw w1 A nilP { d with m := Pd.mOf (ms.take 0) }) := HD0.out.below hB1
  have HT1 : Hid (Turn (A.x :: A.lf) A.ft w w1) := HT0.out.trans (Turn.of_below hB1)
  have HOW : Hid (OwnS w1 w0.heap.size u d.l.recs) := hO
  have HLT : Hid (∀ k ∈ A.ft, k < w0.heap.size) := HD0.out.lt
  obtain ⟨ua, uc, hu, _, _, hucell⟩ := own_strs hO
  have HUC : Hid (0 < d.l.recs.length → ∃ g, ua = some ⟨g, 0, none⟩ ∧ u.ownBlock = some g ∧ ∀ i r, d.l.recs[i]? = some r → w1.cell? ⟨g, i, none⟩ = some (.string r)) := hucell
  subst hu
  clear hO hB1 HD0 HT0 hucell
  go_wp2_with fail
  go_loopw [17] (fun s17 wr => ∃ k : Nat, k ≤ d.l.recs.length ∧ s17 = .int .i64 (k : Int) ∧ Dbw wr A nilP { d with m := Pd.mOf (ms.take k) } ∧ Turn A.ft A.ft w1 wr) (fun s17 _ => d.l.recs.length - (intOf s17).toNat)
  case atStart => exact ⟨0, by omega, rfl, HD1.out, Turn.refl _ _⟩
  case round =>
    obtain ⟨k, hk, rfl, hD, hT⟩ := hrel
    have HD : Hid (Dbw wr A nilP { d with m := Pd.mOf (ms.take k) }) := hD
    have HT : Hid (Turn A.ft A.ft w1 wr) := hT
    clear hD hT
    by_cases hkl : k < d.l.recs.length
    · obtain ⟨g2, rfl, hgb, hcell⟩ := HUC.out (by omega)
      obtain ⟨a, ha⟩ : ∃ a, ms[k]? = some a := ⟨_, List.getElem?_eq_getElem (by omega)⟩
      have ham : a ∈ ms := List.mem_of_getElem? ha
      have hrk : d.l.recs[k]? = some (Pd.recText d.n a) := by rw [HR.out.eq, List.getElem?_map, ha]; rfl
      have hub := HR.out.up a ham
      have hfb := HR.out.fine a ham
      have hal := Pd.fine_length hub hfb
      have hg2 : g2 ∉ A.ft ∧ g2 < w1.heap.size := by
        have h3 := HOW.out.lt g2 hgb
        exact ⟨fun hm => by have h4 := HLT.out g2 hm; omega, h3.2⟩
      have q1 : wr.cell? ⟨g2, k, none⟩ = some (.string (Pd.recText d.n a)) := (World.cell?_of_block (HT.out.chg.block g2 hg2.2 hg2.1)).trans (hcell k _ hrk)
      have q2 : wr.cell? ⟨A.x, 2, none⟩ = some (.int .i64 (d.n : Int)) := HD.out.c2
      have q3 : wr.cell? ⟨A.x, 3, none⟩ = some (.int .i64 (d.cnt : Int)) := HD.out.c3
      have dk : decide ((k : Int) < (d.l.recs.length : Int)) = true := decide_eq_true (by omega)
      have k0 : (0 : Int) ≤ (k : Int) := by omega
      have k1 : (k : Int) < (d.l.recs.length : Int) := by omega
      have HTK : Hid (Pd.mOf (ms.take (k + 1)) = Pd.copy (Pd.mOf (ms.take k)) a) := by
        show _ = _
        obtain ⟨hkm, e⟩ := List.getElem?_eq_some_iff.1 ha
        rw [List.take_succ_eq_append_getElem hkm, e, Pd.mOf_snoc]
      have hMk := (HR.out.take k).m
      have hMl := Pd.fine_length hMk.1 hMk.2
      have HRR : Hid (∀ U, Tab U → Calls Tryz.prog 75 #[.string (Pd.recText d.n a), .int .i64 (d.n : Int), .int .i64 (d.cnt : Int)] U fun e w' => e = .returned (.tuple #[.map (some U.heap.size), .bool true]) ∧ MpAt w' U.heap.size a ∧ Below U.heap.size U w') := fun U hU => rrec_any d.n d.cnt a U hfb hub hn hc (by omega) hU
      have hka : ∀ p ∈ a, p.1 ≤ 1000000 := fun p hp => by have := (hfb p hp).1; omega
      have HKA : Hid ((∀ p ∈ a, p.1 ≤ 1000000) ∧ (Pd.mOf (ms.take k)).length + a.length ≤ 100000) := ⟨hka, by omega⟩
      have HS : Hid ((fun U : World => U.cell? ⟨A.x, 2, none⟩ = some (.int .i64 (d.n : Int)) ∧ U.cell? ⟨A.x, 3, none⟩ = some (.int .i64 (d.cnt : Int))) wr) := ⟨q2, q3⟩
      clear ha ham hrk hub hfb hal hg2 hcell hgb q2 q3 hMk hMl hka
      generalize hX : Pd.recText d.n a = X at *
      clear hX
      go_wp2_with fail
      refine wp_region_held_drew (S := fun U : World => U.cell? ⟨A.x, 2, none⟩ = some (.int .i64 (d.n : Int)) ∧ U.cell? ⟨A.x, 3, none⟩ = some (.int .i64 (d.cnt : Int))) (by kernel_rfl) HS.out (fun _ => ?_)
      refine heldTake 0 (some 22) (.string X) rfl rfl (by kernel_rfl) (by kernel_rfl) (by kernel_rfl) (fun _ _ _ h => h) (Or.inl ⟨by rfl, fun w hS => ?_⟩) HS.out ?_
      · (go_simp)
      simp only [Act.put, List.setIfInBounds_toArray, List.set_cons_zero, List.set_cons_succ]
      refine heldTake 1 (some 23) (.pointer (some ⟨A.x, 0, none⟩)) rfl rfl (by kernel_rfl) (by kernel_rfl) (by kernel_rfl) (fun _ _ _ h => h) (Or.inl ⟨by rfl, fun w hS => ?_⟩) HS.out ?_
      · (go_simp)
      simp only [Act.put, List.setIfInBounds_toArray, List.set_cons_zero, List.set_cons_succ]
      refine heldTake 2 (some 24) (.pointer (some ⟨A.x, 0, none⟩)) rfl rfl (by kernel_rfl) (by kernel_rfl) (by kernel_rfl) (fun _ _ _ h => h) (Or.inl ⟨by rfl, fun w hS => ?_⟩) HS.out ?_
      · (go_simp)
      simp only [Act.put, List.setIfInBounds_toArray, List.set_cons_zero, List.set_cons_succ]
      refine heldTake 3 (some 25) (.pointer (some ⟨A.x, 2, none⟩)) rfl rfl (by kernel_rfl) (by kernel_rfl) (by kernel_rfl) (fun _ _ _ h => h) (Or.inl ⟨by rfl, fun w hS => ?_⟩) HS.out ?_
      · (go_simp)
      simp only [Act.put, List.setIfInBounds_toArray, List.set_cons_zero, List.set_cons_succ]
      refine heldTake 4 (some 26) (.int .i64 (d.n : Int)) rfl rfl (by kernel_rfl) (by kernel_rfl) (by kernel_rfl) (fun _ _ _ h => h) (Or.inl ⟨by rfl, fun w hS => ?_⟩) HS.out ?_
      · (obtain ⟨p0, p1⟩ := hS; go_simp)
      simp only [Act.put, List.setIfInBounds_toArray, List.set_cons_zero, List.set_cons_succ]
      refine heldTake 5 (some 27) (.pointer (some ⟨A.x, 0, none⟩)) rfl rfl (by kernel_rfl) (by kernel_rfl) (by kernel_rfl) (fun _ _ _ h => h) (Or.inl ⟨by rfl, fun w hS => ?_⟩) HS.out ?_
      · (go_simp)
      simp only [Act.put, List.setIfInBounds_toArray, List.set_cons_zero, List.set_cons_succ]
      refine heldTake 6 (some 28) (.pointer (some ⟨A.x, 0, none⟩)) rfl rfl (by kernel_rfl) (by kernel_rfl) (by kernel_rfl) (fun _ _ _ h => h) (Or.inl ⟨by rfl, fun w hS => ?_⟩) HS.out ?_
      · (go_simp)
      simp only [Act.put, List.setIfInBounds_toArray, List.set_cons_zero, List.set_cons_succ]
      refine heldTake 7 (some 29) (.pointer (some ⟨A.x, 3, none⟩)) rfl rfl (by kernel_rfl) (by kernel_rfl) (by kernel_rfl) (fun _ _ _ h => h) (Or.inl ⟨by rfl, fun w hS => ?_⟩) HS.out ?_
      · (go_simp)
      simp only [Act.put, List.setIfInBounds_toArray, List.set_cons_zero, List.set_cons_succ]
      refine heldTake 8 (some 30) (.int .i64 (d.cnt : Int)) rfl rfl (by kernel_rfl) (by kernel_rfl) (by kernel_rfl) (fun _ _ _ h => h) (Or.inl ⟨by rfl, fun w hS => ?_⟩) HS.out ?_
      · (obtain ⟨p0, p1⟩ := hS; go_simp)
      simp only [Act.put, List.setIfInBounds_toArray, List.set_cons_zero, List.set_cons_succ]
      refine heldOne 9 (by kernel_rfl) rfl (by rfl) (fun KK hK => ?_)
      go_simp
      go_at_call 75
      refine (HRR.out wr.drew HD.out.drew.tab).mono ?_
      rintro e y1 ⟨rfl, hM1, hB1⟩
      have hB1' := below_drew hB1
      have HD1 : Hid (Dbw y1 A nilP { d with m := Pd.mOf (ms.take k) }) := HD.out.below hB1'
      have HT1 : Hid (Turn A.ft A.ft w1 y1) := HT.out.trans (Turn.of_below hB1')
      have HM1 : Hid (MpAt y1 wr.heap.size a) := hM1
      have HNE : Hid (A.b ≠ wr.heap.size) := fun e => by have h5 := HD.out.mp.lt; omega
      have HS1 : Hid ((fun U : World => U.cell? ⟨A.x, 2, none⟩ = some (.int .i64 (d.n : Int)) ∧ U.cell? ⟨A.x, 3, none⟩ = some (.int .i64 (d.cnt : Int))) y1) := ⟨HD1.out.c2, HD1.out.c3⟩
      clear hB1 hB1' hM1 HRR HD HT q1
      refine hK.out _ _ HS1.out ?_
      clear hK KK
      have hdr : wr.drew.heap.size = wr.heap.size := rfl
      refine heldTake 10 (some 21) (.tuple #[.map (some wr.heap.size), .bool true]) rfl rfl (by kernel_rfl) (by kernel_rfl) (by kernel_rfl) (fun _ _ _ h => h) (Or.inl ⟨by rfl, fun w hS => ?_⟩) HS1.out ?_
      · (go_simp)
      simp only [Act.put, List.setIfInBounds_toArray, List.set_cons_zero, List.set_cons_succ]
      refine heldTake 11 (some 32) (.map (some wr.heap.size)) rfl rfl (by kernel_rfl) (by kernel_rfl) (by kernel_rfl) (fun _ _ _ h => h) (Or.inl ⟨by rfl, fun w hS => ?_⟩) HS1.out ?_
      · (go_simp)
      simp only [Act.put, List.setIfInBounds_toArray, List.set_cons_zero, List.set_cons_succ]
      refine heldTake 12 (some 33) (.bool true) rfl rfl (by kernel_rfl) (by kernel_rfl) (by kernel_rfl) (fun _ _ _ h => h) (Or.inl ⟨by rfl, fun w hS => ?_⟩) HS1.out ?_
      · (go_simp)
      simp only [Act.put, List.setIfInBounds_toArray, List.set_cons_zero, List.set_cons_succ]
      refine heldTake 13 (some 5) (.map (some wr.heap.size)) rfl rfl (by kernel_rfl) (by kernel_rfl) (by kernel_rfl) (fun _ _ _ h => h) (Or.inl ⟨by rfl, fun w hS => ?_⟩) HS1.out ?_
      · (go_simp)
      simp only [Act.put, List.setIfInBounds_toArray, List.set_cons_zero, List.set_cons_succ]
      refine heldTake 14 (some 6) (.bool true) rfl rfl (by kernel_rfl) (by kernel_rfl) (by kernel_rfl) (fun _ _ _ h => h) (Or.inl ⟨by rfl, fun w hS => ?_⟩) HS1.out ?_
      · (go_simp)
      simp only [Act.put, List.setIfInBounds_toArray, List.set_cons_zero, List.set_cons_succ]
      refine wpAnyH_done (by kernel_rfl) ?_ _
      clear hdr
      have c11 : y1.cell? ⟨A.x, 11, none⟩ = some (.map (some A.b)) := HD1.out.c11
      go_wp2_with fail
      refine (show Calls _ _ _ _ _ from mcopy_any A.b wr.heap.size (Pd.mOf (ms.take k)) a y1 HD1.out.mp HM1.out HNE.out HKA.out.2 HKA.out.1).mono ?_
      rintro e y2 ⟨rfl, hM2, hg2⟩
      rw [← HTK.out] at hM2
      obtain ⟨hD2, hT2⟩ := HD1.out.map hM2 hg2
      have HD2 : Hid (Dbw y2 A nilP { d with m := Pd.mOf (ms.take (k + 1)) }) := hD2
      have HT2 : Hid (Turn A.ft A.ft w1 y2) := HT1.out.trans hT2
      clear hD2 hT2 hM2 hg2 HD1 HT1 HM1 c11
      go_wp2
      go_roundw
      case rel => exact ⟨k + 1, by omega, by go_num, HD2.out, HT2.out⟩
      case measure => (simp [intOf]) <;> omega
    · obtain rfl : k = d.l.recs.length := by omega
      have dk : decide ((d.l.recs.length : Int) < (d.l.recs.length : Int)) = false := decide_eq_false (by omega)
      have HFN : Hid (Dbw wr A nilP { d with m := Pd.mOf ms } ∧ Turn (A.x :: A.lf) A.ft w wr) := by
        have e : ms.take d.l.recs.length = ms := by rw [hml, List.take_length]
        have h3 := HD.out
        rw [e] at h3
        exact ⟨h3, HT1.out.trans HT.out⟩
      go_wp2
      go_ret
      exact ⟨rfl, HFN.out⟩
end Go.Proofs.YtcfninpokngmlaaGreatDoor
/- Proved: what a database's load and look tell. -/
namespace Go.Proofs.YtcfninpokngmlaaGreatDoor
open Go.RowKit
/- the seven cells of a state are written -/
def st7 (w : World) (x o : Nat) (t : Pd.Stt) : World := ((((((w.setCell ⟨x, o, none⟩ (.int .i64 (t.high : Int))).setCell ⟨x, o + 1, none⟩ (.int .i64 (t.free : Int))).setCell ⟨x, o + 2, none⟩ (.int .i64 (t.last : Int))).setCell ⟨x, o + 3, none⟩ (.int .i64 (t.r0 : Int))).setCell ⟨x, o + 4, none⟩ (.int .i64 (t.r1 : Int))).setCell ⟨x, o + 5, none⟩ (.int .i64 (t.r2 : Int))).setCell ⟨x, o + 6, none⟩ (.int .i64 (t.r3 : Int))
theorem st7_cells (w : World) (x o : Nat) (t : Pd.Stt) : st7 w x o t = w.setCells x o [.int .i64 (t.high : Int), .int .i64 (t.free : Int), .int .i64 (t.last : Int), .int .i64 (t.r0 : Int), .int .i64 (t.r1 : Int), .int .i64 (t.r2 : Int), .int .i64 (t.r3 : Int)] := rfl
theorem Dbw.setSt {w : World} {A : Ad} {op : Value} {d : Pd.Db} (H : Dbw w A op d) (t : Pd.Stt) : Dbw (st7 w A.x 4 t) A op { d with st := t } ∧ Turn A.ft A.ft w (st7 w A.x 4 t) := by
  refine H.cells ?_ ?_ rfl rfl rfl
  · rw [st7_cells]
    exact Chg.setCells A.x _ _ w
  · rw [st7_cells]
    have hr := H.row
    have e : dbA A op d = [ptr A.g, ptr A.q, .int .i64 (d.n : Int), .int .i64 (d.cnt : Int), .int .i64 (d.st.high : Int), .int .i64 (d.st.free : Int), .int .i64 (d.st.last : Int), .int .i64 (d.st.r0 : Int), .int .i64 (d.st.r1 : Int), .int .i64 (d.st.r2 : Int), .int .i64 (d.st.r3 : Int), .map (some A.b), op, .bool d.lost].toArray := rfl
    rw [e] at hr
    rw [setCells_splice A.x 61 _ 4 _ w hr (by simp)]
    rfl
theorem place_open {i : Nat} {x : Pd.Sheet} (h : x.Fine) (hi : i ≤ 2147483647) (W : World) (hT : Tab W) : Calls Tryz.prog 83 #[.int .i64 (i : Int), .string (Pd.pageOf i x)] W fun e w' => e = .returned (.tuple #[.int .i64 (x.kind : Int), .string x.body, .int .i64 0]) ∧ Below W.heap.size W w' := by
  have h1 := pg_open_any (i : Int) (Pd.pageOf i x) W hT
  obtain ⟨e1, e2, e3⟩ := Pd.pageOf_open (i := i) h hi
  rw [e1, e2, e3] at h1
  exact h1
def stt1 : Pd.Stt := ⟨1, 0, 0, 0, 0, 0, 0⟩
set_option maxHeartbeats 4000000 in
set_option maxRecDepth 100000 in
theorem load_blank (A : Ad) (op : Value) (d : Pd.Db) (w : World) (H : Dbw w A op d) (hdn : d.s.down = false) (hl : d.n + 8 ≤ d.s.kept.length) (hp : Pd.plc (Wl.flat d.s) d.n 0 = Pg.blank) :
    Calls Tryz.prog 58 #[ptr A.x] w fun e w' => e = .returned (.int .i64 0) ∧ Dbw w' A op { d with st := stt1 } ∧ Turn A.ft A.ft w w' := by
  have HRD : Hid (Calls Tryz.prog 81 #[.pointer (some ⟨A.x, 0, none⟩), .int .i64 0] w fun e w' => e = .returned (.tuple #[.string Pg.blank, .int .i64 0]) ∧ Below w.heap.size w w') := by
    have := dread_any A op d 0 w H hdn (by omega) (by omega)
    rw [hp] at this
    exact this
  have HBL : Hid (∀ W, Calls Tryz.prog 82 #[.string Pg.blank] W fun e w' => e = .returned (.bool true) ∧ Below W.heap.size W w') := fun W => by
    have := blank_any Pg.blank W
    rw [decide_eq_true rfl] at this
    exact this
  have HH : Hid (Dbw w A op d) := H
  clear H hp
  generalize Pg.blank = bl at *
  unfold ptr
  go_enter Tryz.func58, Tryz.ntmps58
  go_wp2_with fail
  refine HRD.out.mono ?_
  rintro e w1 ⟨rfl, hB1⟩
  have HB1 : Hid (Below w.heap.size w w1) := hB1
  clear hB1 HRD
  go_wp2_with fail
  refine (HBL.out w1).mono ?_
  rintro e w2 ⟨rfl, hB2⟩
  have HB2 : Hid (Below w.heap.size w w2) := below_next HB1.out hB2 HB1.out.size
  have HD2 : Hid (Dbw w2 A op d) := HH.out.below HB2.out
  clear hB2 HBL HB1
  have c4 := HD2.out.c4
  have c5 := HD2.out.c5
  have c6 := HD2.out.c6
  have c7 := HD2.out.c7
  have c8 := HD2.out.c8
  have c9 := HD2.out.c9
  have c10 := HD2.out.c10
  have f4 := HD2.out.fz 4
  have f5 := HD2.out.fz 5
  have f6 := HD2.out.fz 6
  have f7 := HD2.out.fz 7
  have f8 := HD2.out.fz 8
  have f9 := HD2.out.fz 9
  have f10 := HD2.out.fz 10
  go_wp2
  go_ret
  obtain ⟨h1, h2⟩ := HD2.out.setSt stt1
  exact ⟨rfl, h1, (Turn.of_below HB2.out).trans h2⟩
set_option maxHeartbeats 4000000 in
set_option maxRecDepth 100000 in
theorem load_state (A : Ad) (op : Value) (d : Pd.Db) (t : Pd.Stt) (w : World) (H : Dbw w A op d) (hdn : d.s.down = false) (hl : d.n + 8 ≤ d.s.kept.length) (hc : d.cnt ≤ 1000) (ht : t.Small d.cnt) (hp : Pd.plc (Wl.flat d.s) d.n 0 = Pd.pageOf 0 t.sheet) :
    Calls Tryz.prog 58 #[ptr A.x] w fun e w' => e = .returned (.int .i64 0) ∧ Dbw w' A op { d with st := t } ∧ Turn A.ft A.ft w w' := by
  have hfine : t.sheet.Fine := ⟨Nat.le_refl _, by show 1 ≤ 255; omega, by show t.text.size ≤ 500; rw [Pd.Stt.text_size]; omega⟩
  have hnb := Pd.pageOf_ne (i := 0) hfine
  have HRD : Hid (Calls Tryz.prog 81 #[.pointer (some ⟨A.x, 0, none⟩), .int .i64 0] w fun e w' => e = .returned (.tuple #[.string (Pd.pageOf 0 t.sheet), .int .i64 0]) ∧ Below w.heap.size w w') := by
    have := dread_any A op d 0 w H hdn (by omega) (by omega)
    rw [hp] at this
    exact this
  have HBL : Hid (∀ W, Calls Tryz.prog 82 #[.string (Pd.pageOf 0 t.sheet)] W fun e w' => e = .returned (.bool false) ∧ Below W.heap.size W w') := fun W => by
    have := blank_any (Pd.pageOf 0 t.sheet) W
    rw [decide_eq_false hnb] at this
    exact this
  have HPO : Hid (∀ W, Tab W → Calls Tryz.prog 83 #[.int .i64 0, .string (Pd.pageOf 0 t.sheet)] W fun e w' => e = .returned (.tuple #[.int .i64 1, .string t.text, .int .i64 0]) ∧ Below W.heap.size W w') := fun W hW => place_open (i := 0) hfine (by omega) W hW
  have HRS : Hid (∀ W, Calls Tryz.prog 84 #[.agg #[.int .i64 1, .string t.text], .int .i64 (d.cnt : Int)] W fun e w' => e = .returned (.tuple #[stV t, .bool true]) ∧ Below W.heap.size W w') := fun W => rstate_any t d.cnt W ht hc
  have HH : Hid (Dbw w A op d) := H
  clear H hp hfine hnb ht
  generalize Pd.pageOf 0 t.sheet = pg at *
  unfold stV stA at HRS
  unfold ptr
  go_enter Tryz.func58, Tryz.ntmps58
  go_wp2_with fail
  refine HRD.out.mono ?_
  rintro e w1 ⟨rfl, hB1⟩
  have HB1 : Hid (Below w.heap.size w w1) := hB1
  clear hB1 HRD
  go_wp2_with fail
  refine (HBL.out w1).mono ?_
  rintro e w2 ⟨rfl, hB2⟩
  have HB2 : Hid (Below w.heap.size w w2) := below_next HB1.out hB2 HB1.out.size
  clear hB2 HBL HB1
  go_wp2_with fail
  refine (HPO.out w2 (HH.out.below HB2.out).tab).mono ?_
  rintro e w3 ⟨rfl, hB3⟩
  have HB3 : Hid (Below w.heap.size w w3) := below_next HB2.out hB3 HB2.out.size
  clear hB3 HPO HB2
  have c3 : w3.cell? ⟨A.x, 3, none⟩ = some (.int .i64 (d.cnt : Int)) := (HH.out.below HB3.out).c3
  go_wp2_with fail
  refine (HRS.out w3).mono ?_
  rintro e w4 ⟨rfl, hB4⟩
  have HB4 : Hid (Below w.heap.size w w4) := below_next HB3.out hB4 HB3.out.size
  clear hB4 HRS HB3 c3
  have HD4 : Hid (Dbw w4 A op d) := HH.out.below HB4.out
  have hx4 : A.x < w4.heap.size := HD4.out.xlt
  have c4 := HD4.out.c4
  have f4 := HD4.out.fz 4
  have c5 := HD4.out.c5
  have f5 := HD4.out.fz 5
  have c6 := HD4.out.c6
  have f6 := HD4.out.fz 6
  have c7 := HD4.out.c7
  have f7 := HD4.out.fz 7
  have c8 := HD4.out.c8
  have f8 := HD4.out.fz 8
  have c9 := HD4.out.c9
  have f9 := HD4.out.fz 9
  have c10 := HD4.out.c10
  have f10 := HD4.out.fz 10
  have hz := zeroSt
  go_wp2
  go_ret
  obtain ⟨h1, h2⟩ := HD4.out.setSt t
  exact ⟨rfl, h1.alloc _, ((Turn.of_below HB4.out).trans h2).trans (Turn.of_below ((Below.refl _ _).alloc (Nat.le_refl _) _))⟩
end Go.Proofs.YtcfninpokngmlaaGreatDoor
/- Proved: what a database tells of a page that was committed. -/
namespace Pd
/- a page that was committed: it stands in the map, or at its place -/
def Sees (d : Db) (id : Nat) (x : Sheet) : Prop := get d.m id = some x ∨ (get d.m id = none ∧ plc (Wl.flat d.s) d.n id = pageOf id x ∧ x.Fine)
end Pd
namespace Go.Proofs.YtcfninpokngmlaaGreatDoor
open Go.RowKit
theorem shv_eq (x : Pd.Sheet) : shV x = .agg #[.int .i64 (x.kind : Int), .string x.body] := rfl
set_option maxHeartbeats 4000000 in
set_option maxRecDepth 100000 in
theorem dlook_any (A : Ad) (op : Value) (d : Pd.Db) (id : Nat) (x : Pd.Sheet) (w : World) (H : Dbw w A op d) (hdn : d.s.down = false) (hl : d.n + 8 * id + 8 ≤ d.s.kept.length) (hi : id ≤ 1000000) (hx : Pd.Sees d id x) :
    Calls Tryz.prog 119 #[ptr A.x, .int .i64 (id : Int)] w fun e w' => e = .returned (.tuple #[shV x, .int .i64 0]) ∧ Below w.heap.size w w' := by
  have HH : Hid (Dbw w A op d) := H
  have hz := zeroSh
  unfold shV sh00 Pd.none0 at hz
  have HR0 : Hid ((w.alloc (.cells #[.int .i64 0, .string ⟨#[]⟩] 102)).heap[w.heap.size]? = some (.cells #[.int .i64 0, .string ⟨#[]⟩] 102 (0, 0))) := heap_alloc_new w _
  have HB0 : Hid (Below w.heap.size w (w.alloc (.cells #[.int .i64 0, .string ⟨#[]⟩] 102))) := (Below.refl _ _).alloc (Nat.le_refl _) _
  have hs0 : (w.alloc (.cells #[.int .i64 0, .string ⟨#[]⟩] 102)).heap.size = w.heap.size + 1 := by simp
  have HD0 : Hid (Dbw (w.alloc (.cells #[.int .i64 0, .string ⟨#[]⟩] 102)) A op d) := H.alloc _
  have c11 : (w.alloc (.cells #[.int .i64 0, .string ⟨#[]⟩] 102)).cell? ⟨A.x, 11, none⟩ = some (.map (some A.b)) := HD0.out.c11
  have c11w : w.cell? ⟨A.x, 11, none⟩ = some (.map (some A.b)) := H.c11
  have hxl := H.xlt
  rw [shv_eq]
  rcases hx with hm | ⟨hm, hp, hf⟩
  · have HG : Hid ((Pd.get d.m id) = some x) := hm
    clear H hm
    unfold ptr
    go_enter Tryz.func119, Tryz.ntmps119
    go_wp2_with (at_lookup; refine mp_look_ok _ rfl _ _ rfl A.b d.m rfl HD0.out.mp id (by omega) rfl ?_; rw [HG.out]; simp only [Option.getD_some, Option.isSome_some, shv_eq])
    refine bodyPost_ret (results_she Tryz.results119 _ _ w.heap.size 102 _ _ _ rfl rfl ((heap_alloc_old _ _ (by simp)).trans (heap_alloc_new w _))) rfl ⟨rfl, ((Below.refl _ _).alloc (Nat.le_refl _) _).alloc (by simp) _⟩
  · have HG : Hid ((Pd.get d.m id) = none) := hm
    have HRD : Hid (∀ U, Dbw U A op d → Calls Tryz.prog 81 #[.pointer (some ⟨A.x, 0, none⟩), .int .i64 (id : Int)] U fun e w' => e = .returned (.tuple #[.string (Pd.pageOf id x), .int .i64 0]) ∧ Below U.heap.size U w') := fun U hU => by
      have := dread_any A op d id U hU hdn hl hi
      rw [hp] at this
      exact this
    have HPO : Hid (∀ W, Tab W → Calls Tryz.prog 83 #[.int .i64 (id : Int), .string (Pd.pageOf id x)] W fun e w' => e = .returned (.tuple #[.int .i64 (x.kind : Int), .string x.body, .int .i64 0]) ∧ Below W.heap.size W w') := fun W hW => place_open hf (by omega) W hW
    clear H hm hp
    generalize Pd.pageOf id x = pg at *
    unfold ptr
    go_enter Tryz.func119, Tryz.ntmps119
    go_wp2_with (at_lookup; refine mp_look_ok _ rfl _ _ rfl A.b d.m rfl HD0.out.mp id (by omega) rfl ?_; rw [HG.out]; simp only [Option.getD_none, Option.isSome_none, shv_eq, sh00, Pd.none0])
    have HR1 : Hid (((w.alloc (.cells #[.int .i64 0, .string ⟨#[]⟩] 102)).alloc (.cells #[.int .i64 0, .string ⟨#[]⟩] 102)).heap[w.heap.size]? = some (.cells #[.int .i64 0, .string ⟨#[]⟩] 102 (0, 0))) := (heap_alloc_old _ _ (by simp)).trans HR0.out
    have HB1 : Hid (Below w.heap.size w ((w.alloc (.cells #[.int .i64 0, .string ⟨#[]⟩] 102)).alloc (.cells #[.int .i64 0, .string ⟨#[]⟩] 102))) := HB0.out.alloc HB0.out.size _
    have HD1 : Hid (Dbw ((w.alloc (.cells #[.int .i64 0, .string ⟨#[]⟩] 102)).alloc (.cells #[.int .i64 0, .string ⟨#[]⟩] 102)) A op d) := HD0.out.alloc _
    generalize hw1 : World.alloc (World.alloc w _) _ = w1 at *
    clear hw1 HR0 HB0 HD0 c11 c11w hs0
    refine (HRD.out w1 HD1.out).mono ?_
    rintro e w2 ⟨rfl, hB2⟩
    have HR2 : Hid (w2.heap[w.heap.size]? = some (.cells #[.int .i64 0, .string ⟨#[]⟩] 102 (0, 0))) := heap_next HR1.out hB2
    have HB2 : Hid (Below w.heap.size w w2) := below_next HB1.out hB2 HB1.out.size
    clear hB2 HRD HR1 HB1 HD1
    go_wp2_with fail
    refine (HPO.out w2 (HH.out.below HB2.out).tab).mono ?_
    rintro e w3 ⟨rfl, hB3⟩
    have HR3 : Hid (w3.heap[w.heap.size]? = some (.cells #[.int .i64 0, .string ⟨#[]⟩] 102 (0, 0))) := heap_next HR2.out hB3
    have HB3 : Hid (Below w.heap.size w w3) := below_next HB2.out hB3 HB2.out.size
    clear hB3 HPO HR2 HB2
    have f0 := frozen_of_row w3 w.heap.size 0 _ _ HR3.out
    have f1 := frozen_of_row w3 w.heap.size 1 _ _ HR3.out
    have c0 : w3.cell? ⟨w.heap.size, 0, none⟩ = some (.int .i64 0) := cell_of_row _ _ _ _ _ (0, 0) HR3.out
    have c1 : w3.cell? ⟨w.heap.size, 1, none⟩ = some (.string ⟨#[]⟩) := cell_of_row _ _ _ _ _ (0, 0) HR3.out
    go_wp2
    exact bodyPost_ret (results_she Tryz.results119 _ _ w.heap.size 102 _ _ _ rfl rfl (row2 HR3.out _ _)) rfl ⟨rfl, (HB3.out.setCell (by simp) _).setCell (by simp) _⟩
end Go.Proofs.YtcfninpokngmlaaGreatDoor
