/- Proved: what a database's settle makes of it, on any disk. -/
import Derived.Test.YtcfninpokngmlaaGreatDoorDWr
namespace Pd
theorem wrAll_take {n : Nat} {m : Mp} {k : Nat} {p : Nat × Sheet} (h : m[k]? = some p) : wrAll n (m.take (k + 1)) = wrAll n (m.take k) ++ wrOf n p.1 (pageOf p.1 p.2) := by
  obtain ⟨hk, e⟩ := List.getElem?_eq_some_iff.1 h
  unfold wrAll
  rw [List.take_succ_eq_append_getElem hk, e, List.flatMap_append]
  simp
theorem wrAll_length (n : Nat) : ∀ (m : Mp), (wrAll n m).length = 8 * m.length
  | [] => rfl
  | p :: m => by
    show (wrOf n p.1 (pageOf p.1 p.2) ++ wrAll n m).length = _
    rw [List.length_append, wrOf_length, wrAll_length n m, List.length_cons]
    omega
def setW (d : Db) : Sc.St × Int := wrs (wrAll d.n d.m) d.s
def setT (d : Db) : Db × Int :=
  if d.l.recs = [] then (d, 0) else if (setW d).2 = 0 then
    if Sc.flushE (setW d).1 = 0 then ({ d with m := [], l := Wl.resetL d.l (Sc.flushS (setW d).1), s := Wl.resetS d.l (Sc.flushS (setW d).1) }, Wl.resetE d.l (Sc.flushS (setW d).1))
    else ({ d with s := Sc.flushS (setW d).1 }, Sc.flushE (setW d).1)
  else ({ d with s := (setW d).1 }, (setW d).2)
end Pd
namespace Go.Proofs.YtcfninpokngmlaaGreatDoor
open Go.RowKit
theorem heap_turn {w w' : World} {fs gs : List Nat} {k : Nat} {o : Obj} (h : w.heap[k]? = some o) (hT : Turn fs gs w w') (hn : k ∉ fs) : w'.heap[k]? = some o := (hT.chg.block k (Array.getElem?_eq_some_iff.1 h).1 hn).trans h
theorem mp_clear_run {w : World} {b : Nat} {m : Pd.Mp} (hM : MpAt w b m) : ∃ w', (∀ ty, (Builtin.clear_ #[59] ty #[.map (some b)]).run Tryz.prog w = .ok (.tuple #[]) w') ∧ MpAt w' b [] ∧ w.grownBy w' (some b) := by
  obtain ⟨es, clock, hb, F, hs, hD⟩ := hM.own
  have hst := Go.MapKept.heap_set (o' := .map #[] clock) hb
  refine ⟨{ w with heap := w.heap.setIfInBounds b (.map #[] clock) }, fun ty => ?_, ⟨Pd.up_nil, #[], clock, hst.1, ⟨by simp, Go.MapKept.stamped_empty clock, by simp⟩, Nat.le_refl _, rfl⟩, ⟨rfl, rfl, rfl, by simp, fun i _ hi => hst.2 i (fun e => hi (by rw [e]))⟩⟩
  simp [Builtin.clear_, run_underlying Tryz.underlying59, Go.MapKept.run_getObj_map hb, Go.MapKept.run_setObj_map _ hb, Result.andThen]
set_option maxHeartbeats 8000000 in
set_option maxRecDepth 100000 in
theorem settle_any (A : Ad) (op : Value) (d : Pd.Db) (w : World) (H : Dbw w A op d) (hF : Pd.Fine d.cnt d.m) (hc : d.cnt ≤ 1000) (hml : d.m.length ≤ 1000) (hn : d.n ≤ 1000000) (h1 : d.s.dn + 8 * d.m.length + 10 ≤ 90000) (h2 : d.s.pend.length + 8 * d.m.length + 10 ≤ 19000) :
    Calls Tryz.prog 57 #[ptr A.x] w (DDoes w A op (Pd.setT d).1 (Pd.setT d).2) := by
  have HH : Hid (Dbw w A op d) := H
  have HF : Hid (Pd.Fine d.cnt d.m) := hF
  have hpos := H.tab.pos
  have c1 := H.c1
  have HRC : Hid (∀ U, Dbw U A op d → Calls Tryz.prog 74 #[.pointer (some ⟨A.q, 0, none⟩)] U fun e w' => ∃ u, e = .returned u ∧ OwnS w' U.heap.size u d.l.recs ∧ Below U.heap.size U w') := fun U hU => lrecords_any A.q A.g A.vr A.vw d.l U hU.lp.pk
  clear H hF
  unfold ptr
  unfold ptr at c1
  by_cases hr : d.l.recs = []
  · have HE : Hid ((Pd.setT d) = (d, 0)) := by show _ = _; unfold Pd.setT; rw [if_pos hr]
    have hl0 : d.l.recs.length = 0 := by rw [hr]; rfl
    go_enter Tryz.func57, Tryz.ntmps57
    go_wp2_with fail
    refine (HRC.out w HH.out).mono ?_
    rintro e w1 ⟨u, rfl, hO, hB1⟩
    obtain ⟨ua, uc, hu, _⟩ := own_strs hO
    rw [hl0] at hu
    subst hu
    have HB1 : Hid (Below w.heap.size w w1) := hB1
    clear hO hB1 hr hl0
    go_wp2
    go_ret
    rw [HE.out]
    exact ⟨A.vr, A.vw, A.vp, rfl, HH.out.below HB1.out, Turn.of_below HB1.out⟩
  · have hl0 : ¬ d.l.recs.length = 0 := fun e => hr (List.length_eq_zero_iff.1 e)
    have HE : Hid ((Pd.setT d) = if (Pd.setW d).2 = 0 then (if Sc.flushE (Pd.setW d).1 = 0 then ({ d with m := [], l := Wl.resetL d.l (Sc.flushS (Pd.setW d).1), s := Wl.resetS d.l (Sc.flushS (Pd.setW d).1) }, Wl.resetE d.l (Sc.flushS (Pd.setW d).1)) else ({ d with s := Sc.flushS (Pd.setW d).1 }, Sc.flushE (Pd.setW d).1)) else ({ d with s := (Pd.setW d).1 }, (Pd.setW d).2)) := by
      show _ = _
      unfold Pd.setT
      rw [if_neg hr]
    have HW : Hid (Pd.setW d = Pd.wrs (Pd.wrAll d.n d.m) d.s) := rfl
    go_enter Tryz.func57, Tryz.ntmps57
    go_wp2_with fail
    refine (HRC.out w HH.out).mono ?_
    rintro e w1 ⟨u, rfl, hO, hB1⟩
    obtain ⟨ua, uc, hu, _⟩ := own_strs hO
    subst hu
    have HB1 : Hid (Below w.heap.size w w1) := hB1
    have HD1 : Hid (Dbw w1 A op d) := HH.out.below hB1
    have hz0 : ((d.l.recs.length : Int) == 0) = false := beq_false_of_ne (by omega)
    have c11 : w1.cell? ⟨A.x, 11, none⟩ = some (.map (some A.b)) := HD1.out.c11
    clear hO hB1 HRC c1
    go_wp2_with fail
    refine (show Calls _ _ _ _ _ from rising_any A.b d.m w1 HD1.out.mp (by omega)).mono ?_
    rintro e w2 ⟨g2, cap, cur, rfl, _, _, hge, hg2, hcur, hB2⟩
    have HD2 : Hid (Dbw w2 A op d) := HD1.out.below hB2
    have HB2 : Hid (Below w.heap.size w w2) := below_next HB1.out hB2 HB1.out.size
    have HG2 : Hid (w2.heap[g2]? = some (.cells cur 3 (0, 0))) := hg2
    have HCU : Hid (∀ (i : Nat) (p : Nat × Pd.Sheet), d.m[i]? = some p → cur[i]? = some (.int .i64 (p.1 : Int))) := hcur
    have HNF : Hid (g2 ∉ A.ft) := fun hm => by
      have := HD1.out.lt g2 hm
      omega
    clear hg2 hcur hB2 HD1 HB1 c11 hz0 hge
    go_wp2_with fail
    go_loopw [20] (fun s20 wr => ∃ (k : Nat) (vr vw vp : Value), k ≤ d.m.length ∧ s20 = .int .i64 (k : Int) ∧ (Pd.wrs (Pd.wrAll d.n (d.m.take k)) d.s).2 = 0 ∧ Dbw wr (A.to vr vw vp) op { d with s := (Pd.wrs (Pd.wrAll d.n (d.m.take k)) d.s).1 } ∧ Turn A.ft (A.to vr vw vp).ft w2 wr) (fun s20 _ => d.m.length - (intOf s20).toNat)
    case atStart => exact ⟨0, A.vr, A.vw, A.vp, by omega, rfl, rfl, HD2.out, Turn.refl _ _⟩
    case round =>
      obtain ⟨k, vr, vw, vp, hk, rfl, he0, hD, hT⟩ := hrel
      have HT : Hid (Turn A.ft (A.to vr vw vp).ft w2 wr) := hT
      obtain ⟨z1, z2, z3⟩ := Pd.wrs_step (Pd.wrAll d.n (d.m.take k)) d.s
      have hln : (Pd.wrAll d.n (d.m.take k)).length = 8 * k := by rw [Pd.wrAll_length, List.length_take]; omega
      rw [hln] at z2 z3
      by_cases hkl : k < d.m.length
      · obtain ⟨p, hp⟩ : ∃ p, d.m[k]? = some p := ⟨_, List.getElem?_eq_getElem hkl⟩
        have hpm : p ∈ d.m := List.mem_of_getElem? hp
        have hpf := HF.out p hpm
        have hwt := Pd.wrAll_take (n := d.n) hp
        have hgp : (Pd.get d.m p.1).getD sh00 = p.2 := by rw [Pd.mem_get hD.mp.up hpm]; rfl
        have hq : wr.cell? ⟨g2, k, none⟩ = some (.int .i64 (p.1 : Int)) := by
          rw [cell_of_row _ _ _ _ _ (0, 0) (heap_turn HG2.out hT HNF.out)]
          exact HCU.out k p hp
        have HAP : Hid (Pd.wrs (Pd.wrAll d.n (d.m.take (k + 1))) d.s = Pd.wrs (Pd.wrOf d.n p.1 (Pd.pageOf p.1 p.2)) (Pd.wrs (Pd.wrAll d.n (d.m.take k)) d.s).1) := by
          show _ = _
          rw [hwt, Pd.wrs_append, if_pos he0]
        have HALL : Hid (¬ (Pd.wrs (Pd.wrAll d.n (d.m.take (k + 1))) d.s).2 = 0 → Pd.setW d = Pd.wrs (Pd.wrAll d.n (d.m.take (k + 1))) d.s) := fun hne => by
          have e1 : Pd.wrAll d.n d.m = Pd.wrAll d.n (d.m.take (k + 1)) ++ Pd.wrAll d.n (d.m.drop (k + 1)) := by
            have : d.m = d.m.take (k + 1) ++ d.m.drop (k + 1) := (List.take_append_drop _ _).symm
            unfold Pd.wrAll
            rw [← List.flatMap_append, ← this]
          rw [HW.out, e1, Pd.wrs_append, if_neg hne]
        have HD : Hid (Dbw wr (A.to vr vw vp) op { d with s := (Pd.wrs (Pd.wrAll d.n (d.m.take k)) d.s).1 }) := hD
        have HWR : Hid (Calls Tryz.prog 78 #[.pointer (some ⟨A.x, 0, none⟩), .int .i64 (p.1 : Int), shV p.2] wr (DDoes wr (A.to vr vw vp) op { d with s := (Pd.wrs (Pd.wrOf d.n p.1 (Pd.pageOf p.1 p.2)) (Pd.wrs (Pd.wrAll d.n (d.m.take k)) d.s).1).1 } (Pd.wrs (Pd.wrOf d.n p.1 (Pd.pageOf p.1 p.2)) (Pd.wrs (Pd.wrAll d.n (d.m.take k)) d.s).1).2)) := dwrite_any (A.to vr vw vp) op { d with s := (Pd.wrs (Pd.wrAll d.n (d.m.take k)) d.s).1 } p.1 p.2 wr hD hpf.2 (by have := hpf.1; omega) hn (by show (Pd.wrs (Pd.wrAll d.n (d.m.take k)) d.s).1.dn + 8 ≤ _; omega) (by show (Pd.wrs (Pd.wrAll d.n (d.m.take k)) d.s).1.pend.length + 8 ≤ _; omega)
        rw [← HAP.out] at HWR
        have HGP : Hid ((Pd.get d.m p.1).getD sh00 = p.2 ∧ p.1 < d.cnt) := ⟨hgp, hpf.1⟩
        have HMP : Hid (MpAt wr A.b d.m) := hD.mp
        have c11 : wr.cell? ⟨A.x, 11, none⟩ = some (.map (some A.b)) := hD.c11
        have dk : decide ((k : Int) < (d.m.length : Int)) = true := decide_eq_true (by omega)
        have k0 : (0 : Int) ≤ (k : Int) := by omega
        have k1 : (k : Int) < (d.m.length : Int) := by omega
        clear hD hT he0 hwt hgp hpm hpf hp z1 z2 z3 hln HAP
        generalize hr1 : Pd.wrs (Pd.wrAll d.n (d.m.take (k + 1))) d.s = r1 at *
        have HR1 : Hid (Pd.wrs (Pd.wrAll d.n (d.m.take (k + 1))) d.s = r1) := hr1
        clear hr1
        obtain ⟨s1, e1⟩ := r1
        simp only at HWR HALL
        go_wp2_with (at_lookup; refine mp_look _ rfl _ _ rfl A.b d.m rfl HMP.out p.1 (by have := HGP.out.2; omega) rfl ?_; rw [HGP.out.1])
        refine HWR.out.mono ?_
        rintro e u1 ⟨vr1, vw1, vp1, rfl, hD1, hT1⟩
        have HD1 : Hid (Dbw u1 (A.to vr1 vw1 vp1) op { d with s := s1 }) := hD1
        have HT1 : Hid (Turn A.ft (A.to vr1 vw1 vp1).ft w2 u1) := HT.out.trans hT1
        clear hD1 hT1 HWR HD HT hq c11 HMP
        by_cases hz : e1 = 0
        · subst hz
          have HFN : Hid (∃ (k' : Nat) (vr' vw' vp' : Value), k' ≤ d.m.length ∧ Value.int .i64 ((k : Int) + 1) = .int .i64 (k' : Int) ∧ (Pd.wrs (Pd.wrAll d.n (d.m.take k')) d.s).2 = 0 ∧ Dbw u1 (A.to vr' vw' vp') op { d with s := (Pd.wrs (Pd.wrAll d.n (d.m.take k')) d.s).1 } ∧ Turn A.ft (A.to vr' vw' vp').ft w2 u1) := ⟨k + 1, vr1, vw1, vp1, by omega, by go_num, by rw [HR1.out], by rw [HR1.out]; exact HD1.out, HT1.out⟩
          go_wp2
          go_roundw
          case rel => first | exact HFN.out | ((repeat apply Exists.intro); exact ⟨HFN.out, rfl⟩)
          case measure => (simp [intOf]) <;> omega
        · have hb : (e1 != 0) = true := by simp [hz]
          have HFN : Hid (DDoes w A op (Pd.setT d).1 (Pd.setT d).2 (.returned (.int .i64 e1)) u1) := by
            have e2 := HALL.out hz
            have e3 : Pd.setT d = ({ d with s := s1 }, e1) := by rw [HE.out, e2, if_neg hz]
            rw [e3]
            exact ⟨vr1, vw1, vp1, rfl, HD1.out, (Turn.of_below HB2.out).trans HT1.out⟩
          go_wp2
          go_ret
          exact HFN.out
      · obtain rfl : k = d.m.length := by omega
        have dk : decide ((d.m.length : Int) < (d.m.length : Int)) = false := decide_eq_false (by omega)
        have e2 : Pd.wrs (Pd.wrAll d.n (d.m.take d.m.length)) d.s = Pd.setW d := by rw [List.take_length]; rfl
        rw [e2] at hD he0 z1 z2 z3
        have HE2 : Hid (Pd.setT d = if Sc.flushE (Pd.setW d).1 = 0 then ({ d with m := [], l := Wl.resetL d.l (Sc.flushS (Pd.setW d).1), s := Wl.resetS d.l (Sc.flushS (Pd.setW d).1) }, Wl.resetE d.l (Sc.flushS (Pd.setW d).1)) else ({ d with s := Sc.flushS (Pd.setW d).1 }, Sc.flushE (Pd.setW d).1)) := by
          show _ = _
          rw [HE.out, if_pos he0]
        clear e2 he0 hln
        have HFL : Hid (Calls Tryz.prog 79 #[.pointer (some ⟨A.g, 0, none⟩)] wr (Does wr A.g A.kg vp (Sc.flushS (Pd.setW d).1) (Sc.flushE (Pd.setW d).1))) := flush_any A.g A.kg vp (Pd.setW d).1 wr hD.lp.dk (by omega)
        have hfl := Sc.flushS_step (Pd.setW d).1
        have hf1 := hfl.len
        have hf2 := hfl.dn
        have hf3 := hfl.pend
        clear hfl
        generalize hs0 : (Pd.setW d).1 = s0 at *
        clear hs0
        generalize hs1 : Sc.flushS s0 = s1 at *
        generalize he1 : Sc.flushE s0 = e1 at *
        clear hs1 he1
        have HD : Hid (Dbw wr (A.to vr vw vp) op { d with s := s0 }) := hD
        have c0 : wr.cell? ⟨A.x, 0, none⟩ = some (.pointer (some ⟨A.g, 0, none⟩)) := hD.c0
        clear hD hT
        go_wp2_with fail
        refine HFL.out.mono ?_
        rintro e u1 ⟨vp1, rfl, hR1, hT1⟩
        obtain ⟨hL1, hTL1⟩ := HD.out.lp.d hR1 hT1 hf1
        obtain ⟨hD1, hTD1⟩ := HD.out.turn (vr := vr) (vw := vw) (vp := vp1) hL1 hTL1
        have HD1 : Hid (Dbw u1 (A.to vr vw vp1) op { d with s := s1 }) := hD1
        have HT1 : Hid (Turn A.ft (A.to vr vw vp1).ft w2 u1) := HT.out.trans hTD1
        clear hR1 hT1 hL1 hTL1 hD1 hTD1 HFL HD HT c0
        by_cases hz : e1 = 0
        · subst hz
          rw [if_pos rfl] at HE2
          have c11 : u1.cell? ⟨A.x, 11, none⟩ = some (.map (some A.b)) := HD1.out.c11
          have HMP : Hid (MpAt u1 A.b d.m) := HD1.out.mp
          obtain ⟨y2, hclr, hM2, hg2⟩ := mp_clear_run HMP.out
          obtain ⟨hD2, hT2⟩ := HD1.out.map hM2 hg2
          have HD2 : Hid (Dbw y2 (A.to vr vw vp1) op { d with m := [], s := s1 }) := hD2
          have HT2 : Hid (Turn A.ft (A.to vr vw vp1).ft w2 y2) := HT1.out.trans hT2
          have HRS : Hid (Calls Tryz.prog 80 #[.pointer (some ⟨A.q, 0, none⟩)] y2 (LDoes y2 A.q A.g vr vw A.kg vp1 (Wl.resetL d.l s1) (Wl.resetS d.l s1) (Wl.resetE d.l s1))) := lreset_any A.q A.g vr vw d.l A.kg vp1 s1 y2 hD2.lp hD2.tab (by omega) (by omega)
          have c1 : y2.cell? ⟨A.x, 1, none⟩ = some (.pointer (some ⟨A.q, 0, none⟩)) := hD2.c1
          clear hM2 hg2 hD2 hT2 HD1 HT1 HMP
          generalize hrl : Wl.resetL d.l s1 = l3 at *
          generalize hrs : Wl.resetS d.l s1 = s3 at *
          generalize hre : Wl.resetE d.l s1 = e3 at *
          clear hrl hrs hre
          go_wp2_with fail
          refine HRS.out.mono ?_
          rintro e y3 ⟨vr3, vw3, vp3, rfl, hL3, hT3⟩
          obtain ⟨hD3, hTD3⟩ := HD2.out.turn (vr := vr3) (vw := vw3) (vp := vp3) hL3 hT3
          have HFN : Hid (DDoes w A op (Pd.setT d).1 (Pd.setT d).2 (.returned (.int .i64 e3)) y3) := by
            rw [HE2.out]
            exact ⟨vr3, vw3, vp3, rfl, hD3, (Turn.of_below HB2.out).trans (HT2.out.trans hTD3)⟩
          clear hL3 hT3 hD3 hTD3 HRS HD2 HT2 c1
          go_wp2
          go_ret
          exact HFN.out
        · have hb : (e1 != 0) = true := by simp [hz]
          rw [if_neg hz] at HE2
          have HFN : Hid (DDoes w A op (Pd.setT d).1 (Pd.setT d).2 (.returned (.int .i64 e1)) u1) := by
            rw [HE2.out]
            exact ⟨vr, vw, vp1, rfl, HD1.out, (Turn.of_below HB2.out).trans HT1.out⟩
          go_wp2
          go_ret
          exact HFN.out
end Go.Proofs.YtcfninpokngmlaaGreatDoor
