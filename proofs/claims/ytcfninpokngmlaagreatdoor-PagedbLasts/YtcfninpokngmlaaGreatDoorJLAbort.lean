/- Proved: PagedbAborts' walk. -/
import Derived.Test.YtcfninpokngmlaaGreatDoorJLSm10
namespace Go.Proofs.YtcfninpokngmlaaGreatDoor
open Go.RowKit
/- a state that was told, in a box, beside a footprint -/
structure Wz (wr : World) (fs : List Nat) (u : Nat) (p f r : Value) (S : Pd.Ab) : Prop where
  box : wr.heap[u]? = some (.cells #[p, f, r] 39 (0, 0))
  sto : StO wr 0 p f r S
  au : u ∉ fs
  ab : ∀ k, p.ownBlock = some k ∨ f.ownBlock = some k ∨ r.ownBlock = some k → k ∉ fs
theorem Wz.step {wr w' : World} {fs : List Nat} {u : Nat} {p f r : Value} {S : Pd.Ab} (h : Wz wr fs u p f r S) (hC : Chg fs wr w') : Wz w' fs u p f r S :=
  ⟨(hC.block u (Array.getElem?_eq_some_iff.1 h.box).1 h.au).trans h.box, ⟨own_keep h.sto.pg (fun k hk => hC.block k (h.sto.pg.lt k hk).2 (h.ab k (.inl hk))), own_keep h.sto.fr (fun k hk => hC.block k (h.sto.fr.lt k hk).2 (h.ab k (.inr (.inl hk)))), own_keep h.sto.rt (fun k hk => hC.block k (h.sto.rt.lt k hk).2 (h.ab k (.inr (.inr hk))))⟩, h.au, h.ab⟩
theorem Wz.turn {wr w' : World} {fs gs : List Nat} {u : Nat} {p f r : Value} {S : Pd.Ab} (h : Wz wr fs u p f r S) (hT : Turn fs gs wr w') : Wz w' gs u p f r S := by
  have h1 := h.step hT.chg
  refine ⟨h1.box, h1.sto, fun hm => ?_, fun k hk hm => ?_⟩
  · rcases hT.grow _ hm with e | e
    · exact h.au e
    · have := (Array.getElem?_eq_some_iff.1 h.box).1; omega
  · rcases hT.grow _ hm with e | e
    · exact h.ab k hk e
    · have : k < wr.heap.size := by
        rcases hk with q | q | q
        · exact (h.sto.pg.lt k q).2
        · exact (h.sto.fr.lt k q).2
        · exact (h.sto.rt.lt k q).2
      omega
theorem Wz.cells {wr : World} {fs : List Nat} {u : Nat} {p f r : Value} {S : Pd.Ab} (h : Wz wr fs u p f r S) : wr.cell? ⟨u, 0, none⟩ = some p ∧ wr.cell? ⟨u, 1, none⟩ = some f ∧ wr.cell? ⟨u, 2, none⟩ = some r :=
  ⟨(cell_of_row wr u 0 _ _ (0, 0) h.box).trans rfl, (cell_of_row wr u 1 _ _ (0, 0) h.box).trans rfl, (cell_of_row wr u 2 _ _ (0, 0) h.box).trans rfl⟩
theorem wz_start {w3 : World} {B : Nat} {fs : List Nat} {p f r : Value} {S : Pd.Ab} (h : StO w3 B p f r S) (hlt : ∀ k ∈ fs, k < w3.heap.size) (hab : ∀ k, p.ownBlock = some k ∨ f.ownBlock = some k ∨ r.ownBlock = some k → k ∉ fs) : Wz (w3.alloc (.cells #[p, f, r] 39)) fs w3.heap.size p f r S :=
  ⟨heap_alloc_new w3 _, (h.below ((Below.refl _ _).alloc (Nat.le_refl _) _)).zero, fun hm => by have := hlt _ hm; omega, hab⟩
/- a transaction that has ended, beside a footprint -/
structure Gone (w : World) (fs : List Nat) (t : Nat) : Prop where
  row : TxEnd w t
  at_ : t ∉ fs
theorem Gone.turn {w w' : World} {fs gs : List Nat} {t : Nat} (h : Gone w fs t) (hT : Turn fs gs w w') : Gone w' gs t := by
  have hl := (Array.getElem?_eq_some_iff.1 h.row).1
  refine ⟨(hT.chg.block t hl h.at_).trans h.row, fun hm => ?_⟩
  rcases hT.grow _ hm with e | e
  · exact h.at_ e
  · omega
theorem Gone.shut {w : World} {fs : List Nat} {t : Nat} (h : Gone w fs t) : Shut w (ptr t) := .inr ⟨t, rfl, (cell_of_row w t 0 _ _ (0, 0) h.row).trans rfl⟩
/- what stands behind Abort -/
structure Beh (W w : World) (A : Ad) (K : Nat) (d : Pd.Db) (S : Pd.Ab) (t u : Nat) (p f r : Value) : Prop where
  gd : GD W w A K d S
  wz : Wz w A.ft u p f r S
  go : Gone w A.ft t
theorem Beh.below {W w w' : World} {A : Ad} {K : Nat} {d : Pd.Db} {S : Pd.Ab} {t u : Nat} {p f r : Value} (h : Beh W w A K d S t u p f r) (hB : Below w.heap.size w w') : Beh W w' A K d S t u p f r :=
  ⟨h.gd.below hB, h.wz.step (Chg.of_below hB), h.go.turn (Turn.of_below hB)⟩
set_option maxHeartbeats 8000000 in
set_option maxRecDepth 20000 in
theorem aborts_walk (a : Option Addr) (len cap : Nat) (a' : Option Addr) (len' cap' : Nat) (w : World) (hA : Acts w a len) (hlc : len ≤ cap) (hcm : cap ≤ 9223372036854775807) (hA' : Acts w a' len') (_hlc' : len' ≤ cap') (_hcm' : cap' ≤ 9223372036854775807) (hT : Tab w) :
    Calls Tryz.prog 7 #[.slice a len cap, .slice a' len' cap'] w fun e w' => e = .returned (.bool true) ∧ Below w.heap.size w w' := by
  have HT : Hid (Tab w) := hT
  have HAC : Hid (Acts w a len ∧ Acts w a' len') := ⟨hA, hA'⟩
  clear hT hA hA'
  go_enter Tryz.func7, Tryz.ntmps7
  go_wp2_with fail
  refine (new_any 156 w (by omega) (by omega)).mono ?_
  rintro e w0 ⟨g, kg, rfl, hD0, hB0, hg, hkg⟩
  have G0 : Hid (GK w w0 g kg nil0 (Sc.made 156) 60 12 0 Pd.Ab.init) := made_gk g kg 156 60 12 hD0 HT.out hB0 hg hkg (by omega) (by omega) (by omega) (by omega) (by omega)
  clear hD0 hB0 hg hkg
  go_wp2_with fail
  refine (gopen1 g kg nil0 (Sc.made 156) 60 12 G0.out (by omega) rfl).mono ?_
  rintro e w1 ⟨A1, d1, rfl, _, _, hG1, hn1, hc1, _, hlf1, _⟩
  have G1 : Hid (GD w w1 A1 (0 + 8 * 12 + 4) d1 Pd.Ab.init) := hG1
  have N1 : Hid (d1.n = 60 ∧ d1.cnt = 12 ∧ d1.s.left = -1) := ⟨hn1, hc1, hlf1 rfl⟩
  clear hG1 hn1 hc1 hlf1 G0
  have HBD := build_any a len cap 10 HAC.out.1 hlc hcm (by omega) G1.out N1.out.2.2 164 (by rw [N1.out.1, N1.out.2.1]) (by omega) (by rw [N1.out.1]; omega)
  go_wp2_with fail
  refine HBD.mono ?_
  rintro e w2 ⟨rfl, A2, d2, S, hB2⟩
  have hax : A2.x = A1.x := by obtain ⟨_, _, _, rfl⟩ := hB2.to; rfl
  have G2 : Hid (GD w w2 A2 1740 d2 S) := hB2.gd
  clear hB2 HBD G1
  have HST := state_any G2.out HT.out.pos
  rw [hax] at HST
  go_wp2_with fail
  refine HST.mono ?_
  rintro e w3 ⟨vP, vF, vR, rfl, hG3, hO3, hap, _⟩
  have hposS := hG3.inv.fnd.ok.pos
  have hmx : S.pgs.length ≤ 1000 := Nat.le_trans hG3.inv.fnd.ok.most hG3.inv.fnd.ok.small
  have hmf : S.freed.length ≤ 1000 := by have := hG3.inv.fnd.ok.free_lt; omega
  have HWB : Hid (Wz (w3.alloc (.cells #[vP, vF, vR] 39)) A2.ft w3.heap.size vP vF vR S) := wz_start hO3 hG3.db.lt hap
  obtain ⟨aP, cP, hvP⟩ := own_slice hO3.pg
  obtain ⟨aF, cF, hvF⟩ := own_slice hO3.fr
  obtain ⟨aR, cR, hvR⟩ := own_slice hO3.rt
  subst hvP hvF hvR
  have G3 : Hid (GD w (w3.alloc (.cells #[.slice aP S.pgs.length cP, .slice aF S.freed.length cF, .slice aR 4 cR] 39)) A2 1740 d2 S) := hG3.below ((Below.refl _ _).alloc (Nat.le_refl _) _)
  clear hG3 hO3 hap HST G2
  have HBE := gbegin G3.out
  rw [hax] at HBE
  go_wp2_with fail
  refine HBE.mono ?_
  rintro e w5 ⟨t, bt, rfl, hG5, hT5⟩
  have HW5 : Hid (Wz w5 (tft A2 t bt) w3.heap.size (.slice aP S.pgs.length cP) (.slice aF S.freed.length cF) (.slice aR 4 cR) S) := HWB.out.turn hT5
  have G5 : Hid (GT w w5 A2 t bt 1740 d2 S S false []) := hG5
  clear hG5 hT5 HBE HWB G3
  generalize w3.heap.size = u at *
  go_wp2_with fail
  go_loopw [13] (fun s13 wr => ∃ (j : Nat) (T : Pd.Ab) (tm : Pd.Mp), j ≤ 10 ∧ j ≤ len' ∧ s13 = .int .i64 (j : Int) ∧ Wz wr (tft A2 t bt) u (.slice aP S.pgs.length cP) (.slice aF S.freed.length cF) (.slice aR 4 cR) S ∧ GT w wr A2 t bt 1740 d2 S T false tm) (fun s13 _ => 10 - (intOf s13).toNat)
  case atStart => exact ⟨0, S, [], by omega, by omega, rfl, HW5.out, G5.out⟩
  case round =>
    clear HW5 G5
    obtain ⟨j, T, tm, hj, hjl, rfl, hWr, hGr⟩ := hrel
    have HWr : Hid (Wz wr (tft A2 t bt) u (.slice aP S.pgs.length cP) (.slice aF S.freed.length cF) (.slice aR 4 cR) S ∧ GT w wr A2 t bt 1740 d2 S T false tm) := ⟨hWr, hGr⟩
    clear hWr hGr
    by_cases hin : j < len' ∧ j < 10
    · obtain ⟨hl1, hl2⟩ := hin
      have q1 : decide ((j : Int) < (len' : Int)) = true := decide_eq_true (by omega)
      have q2 : decide ((j : Int) < 10) = true := decide_eq_true (by omega)
      have k0 : (0 : Int) ≤ (j : Int) := by omega
      have k1 : (j : Int) < (len' : Int) := by omega
      obtain ⟨b, off, rfl, x, hx, c0, c1, c2, c3, c4⟩ := HAC.out.2.at HWr.out.2.bel hl1
      obtain ⟨xk, xi, xd, xs, ka, kl, kc, xm⟩ := x
      have HCH := change_any xk xi xd xs (.slice ka kl kc) hx.s HWr.out.2
      clear hx
      simp only at c0 c1 c2 c3 c4
      unfold actV at HCH
      go_wp2_with fail
      refine HCH.mono ?_
      rintro e w6 ⟨rfl, ⟨tm2, hG6⟩, hT6⟩
      have HF : Hid (∃ (T : Pd.Ab) (tm : Pd.Mp), Wz w6 (tft A2 t bt) u (.slice aP S.pgs.length cP) (.slice aF S.freed.length cF) (.slice aR 4 cR) S ∧ GT w w6 A2 t bt 1740 d2 S T false tm) := ⟨_, _, HWr.out.1.turn hT6, hG6⟩
      clear hG6 hT6 HCH c0 c1 c2 c3 c4 HWr
      go_wp2
      go_roundw
      case rel =>
        obtain ⟨T', tm', h1, h2⟩ := HF.out
        exact ⟨j + 1, T', tm', by omega, by omega, by go_num, h1, h2⟩
      case measure => (simp [intOf]) <;> omega
    · by_cases hl1 : j < len'
      · have q1 : decide ((j : Int) < (len' : Int)) = true := decide_eq_true (by omega)
        have q2 : decide ((j : Int) < 10) = false := decide_eq_false (by omega)
        have HAB := gabort HWr.out.2
        go_wp2_with fail
        refine HAB.mono ?_
        rintro e w7 ⟨rfl, hG7, hE7, hT7⟩
        have HB7 : Hid (Beh w w7 A2 1740 d2 S t u (.slice aP S.pgs.length cP) (.slice aF S.freed.length cF) (.slice aR 4 cR)) := ⟨hG7, HWr.out.1.turn hT7, hE7, HWr.out.2.tx.ta⟩
        clear hG7 hE7 hT7 HAB HWr
        have HST := state_any HB7.out.gd HT.out.pos
        rw [hax] at HST
        go_wp2_with fail
        refine HST.mono ?_
        rintro e w8 ⟨vP', vF', vR', rfl, hG8, hO8, hap8, hT8⟩
        have HB8 : Hid (Beh w (w8.alloc (.cells #[vP', vF', vR'] 39)) A2 1740 d2 S t u (.slice aP S.pgs.length cP) (.slice aF S.freed.length cF) (.slice aR 4 cR)) := Beh.below ⟨hG8, HB7.out.wz.turn hT8, HB7.out.go.turn hT8⟩ ((Below.refl _ _).alloc (Nat.le_refl _) _)
        have HW8 : Hid (Wz (w8.alloc (.cells #[vP', vF', vR'] 39)) A2.ft w8.heap.size vP' vF' vR' S) := wz_start hO8 hG8.db.lt hap8
        obtain ⟨aP', cP', hvP'⟩ := own_slice hO8.pg
        obtain ⟨aF', cF', hvF'⟩ := own_slice hO8.fr
        obtain ⟨aR', cR', hvR'⟩ := own_slice hO8.rt
        subst hvP' hvF' hvR'
        clear hG8 hO8 hap8 hT8 HST HB7
        have HRD := read_nob _ _ 1 HB8.out.go.shut
        go_wp2_with fail
        refine HRD.mono ?_
        rintro e w9 ⟨rfl, hB9⟩
        have HB9 : Hid (Beh w w9 A2 1740 d2 S t u (.slice aP S.pgs.length cP) (.slice aF S.freed.length cF) (.slice aR 4 cR) ∧ Wz w9 A2.ft w8.heap.size (.slice aP' S.pgs.length cP') (.slice aF' S.freed.length cF') (.slice aR' 4 cR') S) := ⟨HB8.out.below hB9, HW8.out.step (Chg.of_below hB9)⟩
        clear hB9 HRD HB8 HW8
        generalize w8.heap.size = u' at *
        have HSM := rsame_any 0 0 _ _ _ _ _ _ S S w9 HB9.out.1.wz.sto HB9.out.2.sto hposS hmx hmf hposS
        obtain ⟨m0, m1, m2⟩ := HB9.out.1.wz.cells
        obtain ⟨n0, n1, n2⟩ := HB9.out.2.cells
        go_wp2_with fail
        refine HSM.mono ?_
        rintro e w10 ⟨⟨q, rfl, hq⟩, hB10⟩
        have hq := hq trivial
        subst hq
        have HB10 : Hid (Beh w w10 A2 1740 d2 S t u (.slice aP S.pgs.length cP) (.slice aF S.freed.length cF) (.slice aR 4 cR)) := HB9.out.1.below hB10
        clear hB10 HSM m0 m1 m2 n0 n1 n2 HB9
        have HCM := commit_nob _ _ HB10.out.go.shut
        go_wp2_with fail
        refine HCM.mono ?_
        rintro e w11 ⟨rfl, rfl⟩
        have HWK := works_any w11 HB10.out.gd.db.tab
        go_wp2_with fail
        refine HWK.mono ?_
        rintro e w12 ⟨rfl, hB12⟩
        have HFN : Hid (Below w.heap.size w w12) := HB10.out.gd.bel.trans (hB12.mono HB10.out.gd.bel.size)
        clear hB12 HWK HCM HB10
        go_wp2
        go_ret
        exact ⟨rfl, HFN.out⟩
      · have q1 : decide ((j : Int) < (len' : Int)) = false := decide_eq_false (by omega)
        have HAB := gabort HWr.out.2
        go_wp2_with fail
        refine HAB.mono ?_
        rintro e w7 ⟨rfl, hG7, hE7, hT7⟩
        have HB7 : Hid (Beh w w7 A2 1740 d2 S t u (.slice aP S.pgs.length cP) (.slice aF S.freed.length cF) (.slice aR 4 cR)) := ⟨hG7, HWr.out.1.turn hT7, hE7, HWr.out.2.tx.ta⟩
        clear hG7 hE7 hT7 HAB HWr
        have HST := state_any HB7.out.gd HT.out.pos
        rw [hax] at HST
        go_wp2_with fail
        refine HST.mono ?_
        rintro e w8 ⟨vP', vF', vR', rfl, hG8, hO8, hap8, hT8⟩
        have HB8 : Hid (Beh w (w8.alloc (.cells #[vP', vF', vR'] 39)) A2 1740 d2 S t u (.slice aP S.pgs.length cP) (.slice aF S.freed.length cF) (.slice aR 4 cR)) := Beh.below ⟨hG8, HB7.out.wz.turn hT8, HB7.out.go.turn hT8⟩ ((Below.refl _ _).alloc (Nat.le_refl _) _)
        have HW8 : Hid (Wz (w8.alloc (.cells #[vP', vF', vR'] 39)) A2.ft w8.heap.size vP' vF' vR' S) := wz_start hO8 hG8.db.lt hap8
        obtain ⟨aP', cP', hvP'⟩ := own_slice hO8.pg
        obtain ⟨aF', cF', hvF'⟩ := own_slice hO8.fr
        obtain ⟨aR', cR', hvR'⟩ := own_slice hO8.rt
        subst hvP' hvF' hvR'
        clear hG8 hO8 hap8 hT8 HST HB7
        have HRD := read_nob _ _ 1 HB8.out.go.shut
        go_wp2_with fail
        refine HRD.mono ?_
        rintro e w9 ⟨rfl, hB9⟩
        have HB9 : Hid (Beh w w9 A2 1740 d2 S t u (.slice aP S.pgs.length cP) (.slice aF S.freed.length cF) (.slice aR 4 cR) ∧ Wz w9 A2.ft w8.heap.size (.slice aP' S.pgs.length cP') (.slice aF' S.freed.length cF') (.slice aR' 4 cR') S) := ⟨HB8.out.below hB9, HW8.out.step (Chg.of_below hB9)⟩
        clear hB9 HRD HB8 HW8
        generalize w8.heap.size = u' at *
        have HSM := rsame_any 0 0 _ _ _ _ _ _ S S w9 HB9.out.1.wz.sto HB9.out.2.sto hposS hmx hmf hposS
        obtain ⟨m0, m1, m2⟩ := HB9.out.1.wz.cells
        obtain ⟨n0, n1, n2⟩ := HB9.out.2.cells
        go_wp2_with fail
        refine HSM.mono ?_
        rintro e w10 ⟨⟨q, rfl, hq⟩, hB10⟩
        have hq := hq trivial
        subst hq
        have HB10 : Hid (Beh w w10 A2 1740 d2 S t u (.slice aP S.pgs.length cP) (.slice aF S.freed.length cF) (.slice aR 4 cR)) := HB9.out.1.below hB10
        clear hB10 HSM m0 m1 m2 n0 n1 n2 HB9
        have HCM := commit_nob _ _ HB10.out.go.shut
        go_wp2_with fail
        refine HCM.mono ?_
        rintro e w11 ⟨rfl, rfl⟩
        have HWK := works_any w11 HB10.out.gd.db.tab
        go_wp2_with fail
        refine HWK.mono ?_
        rintro e w12 ⟨rfl, hB12⟩
        have HFN : Hid (Below w.heap.size w w12) := HB10.out.gd.bel.trans (hB12.mono HB10.out.gd.bel.size)
        clear hB12 HWK HCM HB10
        go_wp2
        go_ret
        exact ⟨rfl, HFN.out⟩
end Go.Proofs.YtcfninpokngmlaaGreatDoor
