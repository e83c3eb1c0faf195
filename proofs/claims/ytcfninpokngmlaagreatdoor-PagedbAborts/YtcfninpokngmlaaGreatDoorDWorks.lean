/- Proved: the chapter's example comes out as it says (stage 10). -/
import Derived.Test.YtcfninpokngmlaaGreatDoorDGood2
namespace Pd
open Wl
theorem plc_made (N n i : Nat) : plc (List.replicate N Sc.zero64) n i = Pg.blank := by
  have h : ∀ j, (List.replicate N Sc.zero64).getD j Sc.zero64 = Sc.zero64 := fun j => by
    rw [List.getD_eq_getElem?_getD, List.getElem?_replicate]
    split <;> rfl
  unfold plc
  simp only [h]
  exact ext_list (by decide +kernel)
theorem made_dsk (N n cnt : Nat) (h2 : 2 ≤ n) (hn : n + 8 * cnt ≤ N) (h4 : 1 ≤ cnt) (hc : cnt ≤ 1000) : Dsk (Sc.made N).kept n cnt 0 Ab.init := by
  refine ⟨0, [], [], Nat.le_refl _, (by intro r hr; cases hr), ?_, nilRecs _ _, init_ok h4 hc, ?_, fun i h1 hi => ?_, .inr ⟨rfl, .inr ⟨plc_made N n 0, rfl⟩⟩⟩
  · have := Go.Proofs.YtcfninpokngmlaaGreatDoor.made_on N 0 n h2 (by omega)
    rw [flat_nil (by rfl)] at this
    exact this
  · show n + 8 * cnt ≤ (List.replicate N Sc.zero64).length
    rw [List.length_replicate]; exact hn
  · have : i < 1 := hi
    omega
end Pd
namespace Go.Proofs.YtcfninpokngmlaaGreatDoor
open Go.RowKit
section
variable {W w w' : World} {A : Ad} {t bt K : Nat} {d : Pd.Db} {S T : Pd.Ab} {sp : Bool} {tm : Pd.Mp}
theorem gopen1 (g kg : Nat) (vp : Value) (s : Sc.St) (n cnt : Nat) (G : GK W w g kg vp s n cnt K S) (hK : K ≤ 60000) (hl : s.left = -1) : Calls Tryz.prog 23 #[ptr g, .int .i64 (n : Int)] w (OpDone W w g kg vp s n cnt K S) := by
  refine (gopendb W w g kg vp s n cnt K S G hK).mono ?_
  rintro e w' (h | ⟨_, _, _, _, _, _, _, h, _⟩)
  · exact h
  · exact absurd hl h.armed
theorem gcommit1 (G : GT W w A t bt K d S T sp tm) (hK : K ≤ 60000) (hn : d.n ≤ 10000) (hl : d.s.left = -1) : Calls Tryz.prog 33 #[ptr t] w (ComDone W w A t bt K d (comA d.n sp tm S T) (comE d.n sp tm)) := by
  refine (gcommit G hK hn).mono ?_
  rintro e w' (h | ⟨_, _, _, _, _, _, _, _, h, _⟩)
  · exact h
  · exact absurd hl h.armed
theorem gckpt1 (G : GD W w A K d S) (hK : K ≤ 60000) (hl : d.s.left = -1) : Calls Tryz.prog 25 #[ptr A.x] w (CkDone W w A K d S) := by
  refine (gckpt G hK).mono ?_
  rintro e w' (h | ⟨_, _, _, _, _, _, h, _⟩)
  · exact h
  · exact absurd hl h.armed
theorem GD.disk (G : GD W w A K d S) (hc : d.cnt = (d.s.kept.length - d.n) / 8) (h4 : 4 ≤ d.cnt) (hp : 0 < W.heap.size) : GK W w A.g A.kg A.vp d.s d.n d.cnt K S := by
  have h := G.inv.dsk (fun _ => true)
  rw [Pd.KK_nil G.inv.pend] at h
  exact ⟨G.db.lp.dk, G.db.tab, G.inv.down, G.inv.pend, h, G.inv.dn, hc, h4, hp, G.bel, fun k hk => G.new k (A.ml (foot_lf A hk))⟩
theorem made_gk (g kg N n cnt : Nat) (hD : Dk w' g kg nil0 (Sc.made N)) (hT : Tab w) (hB : Below w.heap.size w w') (hg : w.heap.size ≤ g) (hkg : w.heap.size ≤ kg) (h2 : 2 ≤ n) (hc : cnt = (N - n) / 8) (hn : n ≤ N) (h4 : 4 ≤ cnt) (h1 : cnt ≤ 1000) : GK w w' g kg nil0 (Sc.made N) n cnt 0 Pd.Ab.init := by
  refine ⟨hD, hT.below hB hT.pos, rfl, rfl, Pd.made_dsk N n cnt h2 (by omega) (by omega) h1, Nat.le_refl _, ?_, h4, hT.pos, hB, fun k hk => ?_⟩
  · show cnt = ((List.replicate N Sc.zero64).length - n) / 8
    rw [List.length_replicate]; exact hc
  · simp [foot, Value.ownBlock] at hk
    omega
end
def txtAB : ByteArray := ⟨#[97, 98]⟩
def wT1 : Pd.Ab := alA Pd.Ab.init 20
def wT2 : Pd.Ab := wrA wT1 1 5 txtAB
def wT3 : Pd.Ab := srA wT2 0 1
def wM1 : Pd.Mp := alM Pd.Ab.init [] 20
def wM2 : Pd.Mp := wrM wT1 wM1 1 5 txtAB
def wM3 : Pd.Mp := srM wT2 wM2 0 1
theorem w_al : alR Pd.Ab.init 20 = 0 ∧ alI Pd.Ab.init 20 = 1 := by decide
theorem w_wr : wrR wT1 1 5 txtAB = 0 := by decide
theorem w_sr : setrootR 0 1 = 0 := by decide
theorem w_com : comE 40 false wM3 = 0 := by decide
theorem w_comA : comA 40 false wM3 Pd.Ab.init wT3 = wT3 := by unfold comA; rw [if_pos w_com]
theorem w_rd : (thereR wT3.pgs.length 1 (wT3.sh 1)).1.kind = 5 ∧ (thereR wT3.pgs.length 1 (wT3.sh 1)).1.body = txtAB ∧ (thereR wT3.pgs.length 1 (wT3.sh 1)).2 = 0 := ⟨by decide, rfl, by decide⟩
theorem w_rt : rootV wT3.stt 0 = 1 := by decide
theorem txtAB_list : txtAB.toList = [97, 98] := by rw [ByteArray.toList_eq]; rfl
set_option maxHeartbeats 4000000 in
set_option maxRecDepth 20000 in
theorem works_any (w : World) (hT : Tab w) : Calls Tryz.prog 20 #[] w fun e w' => e = .returned (.bool true) ∧ Below w.heap.size w w' := by
  have HT : Hid (Tab w) := hT
  clear hT
  go_enter Tryz.func20, Tryz.ntmps20
  go_wp2_with fail
  refine (new_any 200 w (by omega) (by omega)).mono ?_
  rintro e w0 ⟨g, kg, rfl, hD0, hB0, hg, hkg⟩
  have G0 : Hid (GK w w0 g kg nil0 (Sc.made 200) 40 20 0 Pd.Ab.init) := made_gk g kg 200 40 20 hD0 HT.out hB0 hg hkg (by omega) (by omega) (by omega) (by omega) (by omega)
  clear hD0 hB0 hg hkg
  go_wp2_with fail
  refine (gopen1 g kg nil0 (Sc.made 200) 40 20 G0.out (by omega) rfl).mono ?_
  rintro e w1 ⟨A1, d1, rfl, hAg, hAk, hG1, hn1, hc1, hl1, hlf1, hT1⟩
  have G1 : Hid (GD w w1 A1 (0 + 8 * 20 + 4) d1 Pd.Ab.init) := hG1
  have N1 : Hid (d1.n = 40 ∧ d1.cnt = 20 ∧ d1.s.left = -1 ∧ d1.s.kept.length = 200 ∧ A1.g = g ∧ A1.kg = kg) := ⟨hn1, hc1, hlf1 rfl, by rw [hl1]; exact List.length_replicate, hAg, hAk⟩
  clear hG1 hn1 hc1 hl1 hlf1 hT1 hAg hAk G0
  have HC := dcount_any (w := w1) (A := A1) (op := nilP) (d := d1) G1.out.db
  rw [N1.out.2.1] at HC
  go_wp2_with fail
  refine (HC).mono ?_
  rintro e wS ⟨rfl, hwS⟩
  rw [hwS]
  clear hwS wS
  clear HC
  go_wp2_with fail
  refine (gbegin G1.out).mono ?_
  rintro e w2 ⟨t, bt, rfl, hG2, _⟩
  have G2 : Hid (GT w w2 A1 t bt (0 + 8 * 20 + 4) d1 Pd.Ab.init Pd.Ab.init false []) := hG2
  clear hG2 G1
  have HA := galloc G2.out
  rw [N1.out.2.1, w_al.1, w_al.2] at HA
  go_wp2_with fail
  refine HA.mono ?_
  rintro e w3 ⟨rfl, hG3, _⟩
  have G3 : Hid (GT w w3 A1 t bt (0 + 8 * 20 + 4) d1 Pd.Ab.init wT1 false wM1) := hG3
  clear hG3 G2 HA
  have HW := gwrite 1 5 txtAB G3.out
  rw [w_wr] at HW
  go_wp2_with fail
  refine HW.mono ?_
  rintro e w4 ⟨rfl, hG4, _⟩
  have G4 : Hid (GT w w4 A1 t bt (0 + 8 * 20 + 4) d1 Pd.Ab.init wT2 false wM2) := hG4
  clear hG4 G3 HW
  have HS := gsetroot 0 1 G4.out
  rw [w_sr] at HS
  go_wp2_with fail
  refine HS.mono ?_
  rintro e w5 ⟨rfl, hG5, _⟩
  have G5 : Hid (GT w w5 A1 t bt (0 + 8 * 20 + 4) d1 Pd.Ab.init wT3 false wM3) := hG5
  clear hG5 G4 HS
  have HK := gcommit1 G5.out (by omega) (by rw [N1.out.1]; omega) N1.out.2.2.1
  rw [N1.out.1, w_comA, w_com] at HK
  go_wp2_with fail
  refine HK.mono ?_
  rintro e w6 ⟨rfl, vr, vw, vp, d2, hG6, hk, _, _⟩
  have G6 : Hid (GD w w6 (A1.to vr vw vp) (0 + 8 * 20 + 4 + 8 * d1.cnt + d1.n + 8) d2 wT3) := hG6
  have N2 : Hid (d2.n = 40 ∧ d2.cnt = 20 ∧ d2.s.left = -1 ∧ d2.s.kept.length = 200) := ⟨hk.n.trans N1.out.1, hk.cnt.trans N1.out.2.1, hk.left N1.out.2.2.1, hk.len.trans N1.out.2.2.2.1⟩
  have GQ := G6.out.disk (by rw [N2.out.2.1, N2.out.2.2.2, N2.out.1]) (by rw [N2.out.2.1]; omega) HT.out.pos
  rw [N2.out.1, N2.out.2.1, N1.out.1, N1.out.2.1] at GQ
  have G7 : Hid (GK w w6 g kg vp d2.s 40 20 372 wT3) := by rw [← N1.out.2.2.2.2.1, ← N1.out.2.2.2.2.2]; exact GQ
  clear hG6 hk G5 HK GQ G6
  go_wp2_with fail
  refine (gopen1 g kg vp d2.s 40 20 G7.out (by omega) N2.out.2.2.1).mono ?_
  rintro e w7 ⟨A3, d3, rfl, _, _, hG8, _, _, _, _, _⟩
  have G8 : Hid (GD w w7 A3 (372 + 8 * 20 + 4) d3 wT3) := hG8
  clear hG8 G7
  go_wp2_with fail
  refine (gbegin G8.out).mono ?_
  rintro e w8 ⟨t3, bt3, rfl, hG9, _⟩
  have G9 : Hid (GT w w8 A3 t3 bt3 (372 + 8 * 20 + 4) d3 wT3 wT3 false []) := hG9
  clear hG9 G8
  have HR := gread 1 G9.out
  have e1 : (1 : Int).toNat = 1 := rfl
  rw [e1, w_rd.1, w_rd.2.1, w_rd.2.2] at HR
  go_wp2_with fail
  refine HR.mono ?_
  rintro e w9 ⟨rfl, hB⟩
  have G10 : Hid (GT w w9 A3 t3 bt3 (372 + 8 * 20 + 4) d3 wT3 wT3 false []) := G9.out.below hB
  clear hB G9 HR
  have HO := groot 0 G10.out
  rw [w_rt] at HO
  go_wp2_with fail
  refine (HO).mono ?_
  rintro e wS ⟨rfl, hwS⟩
  rw [hwS]
  clear hwS wS
  clear HO
  have hab : txtAB.toList = [97, 98] := txtAB_list
  go_wp2_with fail
  go_ret
  exact ⟨rfl, G10.out.bel⟩
end Go.Proofs.YtcfninpokngmlaaGreatDoor
