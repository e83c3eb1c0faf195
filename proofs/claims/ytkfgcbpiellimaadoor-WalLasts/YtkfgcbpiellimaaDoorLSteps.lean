/- Proved: what the laws' helper steps makes of a log: its records are those that were synced since the last reset. -/
import Derived.Test.YtkfgcbpiellimaaDoorLHeld
namespace Go.Proofs.YtkfgcbpiellimaaDoor
open Go.RowKit
structure SR (w0 : World) (q g kg : Nat) (F0 : List Nat) (d0 k : Nat) (vr vw : Value) (l : Wl.Lg) (vp : Value) (s : Sc.St) (u8 u9 : Value) (wr : World) : Prop where
  good : Good wr q g vr vw l kg vp s 20
  held : Held wr w0.heap.size u8 l.recs u9 l.wait (lfoot q g vr vw kg vp)
  turn : Turn F0 (lfoot q g vr vw kg vp) w0 wr
  pend : s.pend = []
  dn : s.dn ≤ d0 + 19 * k
  base : l.base = 2
  n : l.n = 16
  ep : l.epoch ≤ k
theorem synced_same (l : Wl.Lg) : (Wl.synced l).base = l.base ∧ (Wl.synced l).n = l.n ∧ (Wl.synced l).epoch = l.epoch := ⟨rfl, rfl, rfl⟩
set_option maxHeartbeats 8000000 in
set_option maxRecDepth 20000 in
theorem steps_any (W : World) (q g kg : Nat) (vr vp : Value) (l : Wl.Lg) (s : Sc.St) (a : Option Addr) (len cap most : Nat) (w : World) (hG : Good w q g vr nil0 l kg vp s 20) (hA : Acts W a len) (hlc : len ≤ cap) (hcm : cap ≤ 9223372036854775807) (hBW : Below W.heap.size W w) (hF : ∀ k ∈ lfoot q g vr nil0 kg vp, W.heap.size ≤ k) (hr0 : l.recs = []) (hw0 : l.wait = []) (hpe : s.pend = []) (hb2 : l.base = 2) (hn16 : l.n = 16) (he0 : l.epoch = 0) (hd0 : s.dn ≤ 1000) (hmost : most ≤ 1000) :
    Calls Tryd.prog 18 #[ptr q, .slice a len cap, .int .i64 (most : Int)] w fun e w' => ∃ vr' vw' vp' l' s' u v9, e = .returned (.tuple #[u, .bool true]) ∧ SR w q g kg (lfoot q g vr nil0 kg vp) s.dn most vr' vw' l' vp' s' u v9 w' := by
  have HAC : Hid (Acts W a len) := hA
  have HBW : Hid (Below W.heap.size W w) := hBW
  have HF0 : Hid (∀ k ∈ lfoot q g vr nil0 kg vp, W.heap.size ≤ k) := hF
  have hpos := hG.safe.tab.pos
  have HR0 : Hid (SR w q g kg (lfoot q g vr nil0 kg vp) s.dn 0 vr nil0 l vp s nil0 nil0 w) := ⟨hG, by rw [hr0, hw0]; exact Held.start _ _ _, Turn.refl _ _, hpe, by omega, hb2, hn16, by omega⟩
  have hWs := hBW.size
  clear hG hA hBW hF hr0 hw0 hpe hb2 hn16 he0
  generalize lfoot q g vr nil0 kg vp = F0 at *
  generalize s.dn = d0 at *
  go_enter Tryd.func18, Tryd.ntmps18
  go_wp2_with fail
  go_loopw [8, 9, 10, 11, 12, 13, 14] (fun s8 s9 s10 _ _ _ _ wr => ∃ (k : Nat) (vr : Value) (vw : Value) (l : Wl.Lg) (vp : Value) (s : Sc.St), k ≤ most ∧ s10 = .int .i64 (k : Int) ∧ SR w q g kg F0 d0 k vr vw l vp s s8 s9 wr) (fun _ _ s10 _ _ _ _ _ => most - (intOf s10).toNat)
  case atStart => exact ⟨0, vr, nil0, l, vp, s, by omega, rfl, HR0.out⟩
  case round =>
    clear HR0 vr l vp s
    obtain ⟨k, vr, vw, l, vp, s, hk, rfl, hR⟩ := hrel
    have HR := (show Hid (SR w q g kg F0 d0 k vr vw l vp s _ _ wr) from hR)
    have hdn := hR.dn
    have hn16 := hR.n
    have hep := hR.ep
    clear hR
    by_cases hin : k < len ∧ k < most
    · obtain ⟨hl1, hl2⟩ := hin
      have d1 : decide ((k : Int) < (len : Int)) = true := decide_eq_true (by omega)
      have d2 : decide ((k : Int) < (most : Int)) = true := decide_eq_true (by omega)
      have k0 : (0 : Int) ≤ (k : Int) := by omega
      have k1 : (k : Int) < (len : Int) := by omega
      have HBr : Hid (Below W.heap.size W wr) := HBW.out.trans (HR.out.turn.below HF0.out hWs)
      obtain ⟨b, off, rfl, x, hx, c0, c2⟩ := HAC.out.at HBr.out hl1
      obtain ⟨kind, at', sx, ka, kl, kc, mm⟩ := x
      simp only at c0 c2
      have HX := (show Hid (sx.size ≤ 9223372036854775807) from hx.s)
      clear hx
      obtain ⟨n, hn1, hn2, hmin⟩ : ∃ n : Nat, n ≤ sx.size ∧ n ≤ 100 ∧ min (sx.size : Int) 100 = (n : Int) := ⟨min sx.size 100, by omega, by omega, by omega⟩
      have hcs : (sx.extract 0 n).size = n := cut_size sx n hn1
      have n0 : (0 : Int) ≤ (n : Int) := by omega
      have n1 : (n : Int) ≤ (sx.size : Int) := by omega
      go_wp2_with fail
      go_quiet (fail)
      have HBq : Hid (Below wr.heap.size wr (wr.drewN nq)) := below_drewN wr nq
      have HRq := (show Hid (SR w q g kg F0 d0 k vr vw l vp s _ _ (wr.drewN nq)) from ⟨HR.out.good.below HBq.out, HR.out.held.below HBq.out, HR.out.turn.under HBq.out, HR.out.pend, HR.out.dn, HR.out.base, HR.out.n, HR.out.ep⟩)
      have c0 : (wr.drewN nq).cell? ⟨b, off + k * 4, none⟩ = some (.int .i64 kind) := c0
      generalize wr.drewN nq = U at *
      generalize sx.extract 0 n = sy at *
      have hlost := HRq.out.good.lost
      have HRN : Hid (∀ U' vr' vw' vp' u8' u9' l' s', Good U' q g vr' vw' l' kg vp' s' 20 → Held U' w.heap.size u8' l'.recs u9' l'.wait (lfoot q g vr' vw' kg vp') → Turn F0 (lfoot q g vr' vw' kg vp') w U' → s'.pend = [] → s'.dn ≤ s.dn + 19 → l'.base = l.base → l'.n = l.n → l'.epoch ≤ l.epoch + 1 → ∃ (k' : Nat) (vr : Value) (vw : Value) (l : Wl.Lg) (vp : Value) (s : Sc.St), k' ≤ most ∧ Value.int .i64 ((k : Int) + 1) = .int .i64 (k' : Int) ∧ SR w q g kg F0 d0 k' vr vw l vp s u8' u9' U') := fun U' vr' vw' vp' u8' u9' l' s' h1 h2 h3 h4 h5 h6 h7 h8 => ⟨k + 1, vr', vw', l', vp', s', by omega, by go_num, ⟨h1, h2, h3, h4, by omega, h6.trans HR.out.base, h7.trans HR.out.n, by omega⟩⟩
      have hpe := HRq.out.pend
      clear HBq
      by_cases h0 : kind = 0
      · subst h0
        have HRO := lroom_any q g vr vw l U HRq.out.good.lp.pk
        generalize hR : Wl.room l = R at *
        have hR0 : (0 : Int) ≤ R ∧ R ≤ 4194304 := by rw [← hR]; exact room_num l.n l.bytes.size (Wl.total l.wait) HRq.out.good.lp.pk.ok.two (by have := HRq.out.good.lp.pk.ok.most; omega) HRq.out.good.lp.pk.ok.room
        go_wp2_with fail
        refine HRO.mono ?_
        rintro e w1 ⟨rfl, n2, hw1⟩
        have HB1 : Hid (Below U.heap.size U w1) := by rw [hw1]; exact below_drewN U n2
        clear hw1 HRO
        have HAD := gadd sy (HRq.out.good.below HB1.out) (by omega)
        by_cases hfull : R - 8 < (n : Int)
        · have e1 : Wl.addE l sy = 7 := by unfold Wl.addE; rw [hlost, if_neg (by decide), if_neg (by omega), if_pos (by rw [hR]; omega)]
          have e2 : Wl.addS l sy = l := by unfold Wl.addS; rw [e1, if_neg (by decide)]
          rw [e1, e2] at HAD
          have d3 : decide ((n : Int) + 8 ≤ R) = false := decide_eq_false (by omega)
          have d3' : ¬ (n : Int) + 8 ≤ R := by omega
          clear e1 e2
          go_wp2_with fail
          refine HAD.mono ?_
          rintro e w2 ⟨vr2, vw2, rfl, hG2, hT2⟩
          have HFN := (show Hid _ from HRN.out w2 vr2 vw2 vp _ _ l s hG2 ((HRq.out.held.below HB1.out).turn hT2) ((HRq.out.turn.under HB1.out).trans hT2) hpe (by omega) rfl rfl (by omega))
          clear hG2 hT2 HAD
          go_wp2
          go_roundw
          case rel => first | exact HFN.out | ((repeat apply Exists.intro); exact ⟨HFN.out, rfl⟩)
          case measure => (simp [intOf]) <;> omega
        · have e1 : Wl.addE l sy = 0 := by unfold Wl.addE; rw [hlost, if_neg (by decide), if_neg (by omega), if_neg (by rw [hR]; omega)]
          have e2 : Wl.addS l sy = { l with wait := l.wait ++ [sy] } := by unfold Wl.addS; rw [e1, if_pos rfl]
          rw [e1, e2] at HAD
          have d3 : decide ((n : Int) + 8 ≤ R) = true := decide_eq_true (by omega)
          have d3' : (n : Int) + 8 ≤ R := by omega
          have hwl := HRq.out.good.lp.pk.wlen
          clear e1 e2
          go_wp2_with fail
          refine HAD.mono ?_
          rintro e w2 ⟨vr2, vw2, rfl, hG2, hT2⟩
          have HG2 := (show Hid (Good w2 q g vr2 vw2 _ kg vp s 20) from hG2)
          have HH2 := (show Hid _ from (HRq.out.held.below HB1.out).turn hT2)
          have HT2 := (show Hid _ from (HRq.out.turn.under HB1.out).trans hT2)
          have hw2 : w.heap.size ≤ w2.heap.size := HT2.out.chg.size
          have q1 : l.wait.length + [sy].length ≤ 10000000 := by simp; omega
          have q2 : ∀ o, w.heap.size ≤ (w2.alloc o).heap.size := fun o => by simp; omega
          clear hG2 hT2 HAD
          go_wp2_with (first | (refine app_many rfl (.tmp 69) (.tmp 71) rfl _ w.heap.size _ _ l.wait [sy] rfl (own_alloc HH2.out.b _) rfl (own_new w2 sy) q1 (q2 _) ?_; intro v3 w3 hO3 hG3 hv3))
          have hBA : Below w2.heap.size w2 (w2.alloc (.cells #[.string sy] 9)) := (Below.refl _ _).alloc (Nat.le_refl _) _
          have HHA := HH2.out.below hBA
          have hG4 := (HG2.out.below hBA).grown hG3 HHA.bf (fun j hj => by have := (HHA.b.lt j hj).1; omega)
          have HFN := (show Hid _ from HRN.out w3 vr2 vw2 vp _ v3 { l with wait := l.wait ++ [sy] } s hG4 (HHA.app_b (fun j hj => (HG2.out.below hBA).lp.lt j hj) hG3 hO3 hv3) ((HT2.out.under hBA).grown hG3 (fun j hj => (HHA.b.lt j hj).1)) hpe (by omega) rfl rfl (by show l.epoch ≤ _; omega))
          clear hO3 hG3 hv3 hG4 HHA hBA
          go_roundw
          case rel => first | exact HFN.out | ((repeat apply Exists.intro); exact ⟨HFN.out, rfl⟩)
          case measure => (simp [intOf]) <;> omega
      · have b0 : (kind == 0) = false := by simp [h0]
        by_cases h1 : kind = 1
        · subst h1
          have hrl := HRq.out.good.lp.pk.rlen
          have hwl := HRq.out.good.lp.pk.wlen
          have HSY := gsync HRq.out.good (by omega) (by rw [hpe]; show 0 + l.n ≤ _; omega)
          clear b0 h0
          go_wp2_with fail
          refine HSY.mono ?_
          rintro e w2 ⟨vr2, vw2, vp2, s2, rfl, hG2, hT2, hp2, _, hd2, _, _⟩
          have HG2 := (show Hid (Good w2 q g vr2 vw2 (Wl.synced l) kg vp2 s2 20) from hG2)
          have HH2 := (show Hid _ from HRq.out.held.turn hT2)
          have HT2 := (show Hid _ from HRq.out.turn.trans hT2)
          have hw2 : w.heap.size ≤ w2.heap.size := HT2.out.chg.size
          have HP2 : Hid (s2.pend = []) := by
            rcases hp2 with ⟨h, _⟩ | h
            · rw [h]; exact hpe
            · exact h
          have q1 : l.recs.length + l.wait.length ≤ 10000000 := by omega
          clear hG2 hT2 HSY hp2
          go_wp2_with (first | (refine app_many rfl (.tmp 78) (.tmp 79) rfl _ w.heap.size _ _ l.recs l.wait rfl HH2.out.a rfl (own_zero HH2.out.b) q1 hw2 ?_; intro v3 w3 hO3 hG3 hv3))
          have hG4 := HG2.out.grown hG3 HH2.out.af (fun j hj => by have := (HH2.out.a.lt j hj).1; omega)
          have HFN := (show Hid _ from HRN.out w3 vr2 vw2 vp2 v3 nil0 (Wl.synced l) s2 hG4 (HH2.out.app_a (fun j hj => HG2.out.lp.lt j hj) hO3 hv3) (HT2.out.grown hG3 (fun j hj => (HH2.out.a.lt j hj).1)) HP2.out (by omega) rfl rfl (by show l.epoch ≤ _; omega))
          clear hO3 hG3 hv3 hG4
          go_roundw
          case rel => first | exact HFN.out | ((repeat apply Exists.intro); exact ⟨HFN.out, rfl⟩)
          case measure => (simp [intOf]) <;> omega
        · have b1 : (kind == 1) = false := by simp [h1]
          by_cases h2 : kind = 2
          · subst h2
            clear b0 b1 h0 h1
            obtain ⟨a9, c9, hu9⟩ := own_slice HRq.out.held.b
            by_cases hw : l.wait = []
            · have HRE := greset HRq.out.good hw hpe (by omega) (by omega)
              rw [hw] at hu9
              have hu9' : u9 = .slice a9 0 c9 := hu9
              have HW : Hid (l.wait = []) := hw
              clear hw hu9
              subst hu9'
              go_wp2_with fail
              refine HRE.mono ?_
              rintro e w2 ⟨vr2, vw2, vp2, s2, rfl, hG2, hT2, hp2, hd2⟩
              have hH2 := (HRq.out.held.turn hT2).nil_a
              have HFN := (show Hid _ from HRN.out w2 vr2 vw2 vp2 nil0 _ (Wl.emptied l) s2 hG2 hH2 (HRq.out.turn.trans hT2) hp2 (by omega) rfl rfl (by show l.epoch + 1 ≤ _; omega))
              clear hG2 hT2 hp2 hH2 HRE
              go_wp2
              go_roundw
              case rel => first | exact HFN.out | ((repeat apply Exists.intro); exact ⟨HFN.out, rfl⟩)
              case measure => (simp [intOf]) <;> omega
            · have HRE := greset_no HRq.out.good hw (by omega) (by rw [hpe]; exact Nat.zero_le _)
              have hwl : 0 < l.wait.length := Nat.pos_of_ne_zero (fun h => hw (List.length_eq_zero_iff.1 h))
              have bw : ((l.wait.length : Int) == 0) = false := by rw [beq_eq_false_iff_ne]; omega
              have hu9' : u9 = .slice a9 l.wait.length c9 := hu9
              clear hw hu9
              subst hu9'
              go_wp2_with fail
              refine HRE.mono ?_
              rintro e w2 ⟨vr2, vw2, vp2, rfl, hG2, hT2⟩
              have HFN := (show Hid _ from HRN.out w2 vr2 vw2 vp2 _ _ l s hG2 (HRq.out.held.turn hT2) (HRq.out.turn.trans hT2) hpe (by omega) rfl rfl (by omega))
              clear hG2 hT2 HRE hwl
              go_wp2
              go_roundw
              case rel => first | exact HFN.out | ((repeat apply Exists.intro); exact ⟨HFN.out, rfl⟩)
              case measure => (simp [intOf]) <;> omega
          · have b2 : (kind == 2) = false := by simp [h2]
            have HFN := (show Hid _ from HRN.out U vr vw vp _ _ l s HRq.out.good HRq.out.held HRq.out.turn hpe (by omega) rfl rfl (by omega))
            clear h0 h1 h2
            go_wp2
            go_roundw
            case rel => first | exact HFN.out | ((repeat apply Exists.intro); exact ⟨HFN.out, rfl⟩)
            case measure => (simp [intOf]) <;> omega
    · have HFN := (show Hid (SR w q g kg F0 d0 most vr vw l vp s _ _ wr) from ⟨HR.out.good, HR.out.held, HR.out.turn, HR.out.pend, by omega, HR.out.base, HR.out.n, by omega⟩)
      clear HR hdn hn16 hep
      by_cases hl1 : k < len
      · have d1 : decide ((k : Int) < (len : Int)) = true := decide_eq_true (by omega)
        have d2 : decide ((k : Int) < (most : Int)) = false := decide_eq_false (by omega)
        have hk3 : ¬ k < most := by omega
        clear hin
        go_wp2
        go_ret2
        exact ⟨vr, vw, vp, l, s, _, _, rfl, HFN.out⟩
      · have d1 : decide ((k : Int) < (len : Int)) = false := decide_eq_false (by omega)
        clear hin
        go_wp2
        go_ret2
        exact ⟨vr, vw, vp, l, s, _, _, rfl, HFN.out⟩
end Go.Proofs.YtkfgcbpiellimaaDoor
