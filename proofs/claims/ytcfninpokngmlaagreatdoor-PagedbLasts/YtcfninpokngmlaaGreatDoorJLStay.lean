/- Proved: PagedbStays' walk. -/
import Derived.Test.YtcfninpokngmlaaGreatDoorJLStt
namespace Go.Proofs.YtcfninpokngmlaaGreatDoor
open Go.RowKit
def txtM : ByteArray := ⟨#[109, 105, 110, 101]⟩
/- a page that is neither allocated nor written is as it was -/
theorem stays_sh {S : Pd.Ab} {cnt : Nat} (hS : S.Ok cnt) {o : Int} {j : Nat} (h1 : 1 ≤ j) (hj : j < S.pgs.length) (hid : j ≠ alI S cnt) (ho : (j : Int) ≠ o) :
    thereR (wrA (alA S cnt) o 9 txtM).pgs.length (j : Int) ((wrA (alA S cnt) o 9 txtM).sh j) = thereR S.pgs.length (j : Int) (S.sh j) := by
  have hA : S.pgs.length ≤ (alA S cnt).pgs.length ∧ (alA S cnt).sh j = S.sh j := by
    unfold alA
    by_cases hR : alR S cnt = 0
    · rw [if_pos hR]
      have hh := S.alloc_high
      have hlen : S.pgs.length ≤ S.alloc.pgs.length := by
        rw [hh]; split <;> omega
      refine ⟨hlen, ?_⟩
      rw [Pd.Ab.alloc_sh hS j h1 (by omega), if_neg]
      intro e
      apply hid
      unfold alI
      rw [if_pos hR]
      exact e
    · rw [if_neg hR]
      exact ⟨Nat.le_refl _, rfl⟩
  have hW : (wrA (alA S cnt) o 9 txtM).pgs.length = (alA S cnt).pgs.length ∧ (wrA (alA S cnt) o 9 txtM).sh j = (alA S cnt).sh j := by
    unfold wrA
    by_cases hR : wrR (alA S cnt) o 9 txtM = 0
    · rw [if_pos hR]
      obtain ⟨h2, h3, h4, _⟩ := there_zero (write_zero hR).1
      refine ⟨by show ((alA S cnt).pgs.set _ _).length = _; rw [List.length_set], ?_⟩
      rw [Pd.Ab.write_sh _ _ _ _ h2 h3, if_neg]
      intro e
      apply ho
      rw [e]
      exact h4.symm
    · rw [if_neg hR]
      exact ⟨rfl, rfl⟩
  rw [hW.1, hW.2, hA.2]
  unfold thereR
  have a1 : ¬ ((j : Int) < 1 ∨ ((alA S cnt).pgs.length : Int) ≤ (j : Int)) := by omega
  have a2 : ¬ ((j : Int) < 1 ∨ (S.pgs.length : Int) ≤ (j : Int)) := by omega
  rw [if_neg a1, if_neg a2]
/- a page that is allocated was not there -/
theorem stays_new {S : Pd.Ab} {cnt : Nat} (hS : S.Ok cnt) (hR : alR S cnt = 0) (hl : alI S cnt < S.pgs.length) : S.pgs[alI S cnt]? = some none := by
  unfold alI at hl ⊢
  rw [if_pos hR] at hl ⊢
  unfold Pd.Ab.allocI at hl ⊢
  by_cases hf : S.freed = []
  · rw [if_pos hf] at hl; omega
  · rw [if_neg hf]
    exact (hS.mem _).1 (Pd.last_mem_of hf)
theorem flat3 : ∀ (l : List (Option Pd.Sheet)) (j : Nat) (o : Option Pd.Sheet) (i : Nat) (u : Value), l[j]? = some o → (pgC o)[i]? = some u → (l.flatMap pgC)[j * 3 + i]? = some u
  | [], _, _, _, _, h, _ => by simp at h
  | a :: l, 0, o, i, u, h, hi => by
    have e : a = o := by simpa using h
    subst e
    rw [List.flatMap_cons, Nat.zero_mul, Nat.zero_add, List.getElem?_append_left (List.getElem?_eq_some_iff.1 hi).1]
    exact hi
  | a :: l, j + 1, o, i, u, h, hi => by
    have h' : l[j]? = some o := by simpa using h
    have ih := flat3 l j o i u h' hi
    rw [List.flatMap_cons, List.getElem?_append_right (by rw [pgC_length]; omega), pgC_length, show (j + 1) * 3 + i - 3 = j * 3 + i by omega]
    exact ih
/- the cells of a page that was told -/
theorem pg_cells {w : World} {B : Nat} {vP : Value} {l : List (Option Pd.Sheet)} (h : w.ownsRow B 83 3 vP l.length (l.flatMap pgC)) (h0 : 0 < l.length) : ∃ g cap, vP = .slice (some ⟨g, 0, none⟩) l.length cap ∧ l.length ≤ cap ∧ B ≤ g ∧ g < w.heap.size ∧ ∀ (j : Nat) (o : Option Pd.Sheet) (i : Nat) (u : Value), l[j]? = some o → (pgC o)[i]? = some u → w.cell? ⟨g, j * 3 + i, none⟩ = some u := by
  rcases h.2 with ⟨_, h1⟩ | ⟨g, cap, cur, rfl, hg, hb, h1, h2, h3, h4⟩
  · omega
  · refine ⟨g, cap, rfl, h1, hg, (Array.getElem?_eq_some_iff.1 hb).1, fun j o i u hj hi => ?_⟩
    have hi3 : i < 3 := by have := (List.getElem?_eq_some_iff.1 hi).1; rw [pgC_length] at this; exact this
    have hjl := (List.getElem?_eq_some_iff.1 hj).1
    have hfm : (l.flatMap pgC)[j * 3 + i]? = some u := flat3 l j o i u hj hi
    rw [← h4, List.getElem?_take_of_lt (by omega)] at hfm
    rw [cell_of_row w g _ _ _ (0, 0) hb, ← Array.getElem?_toList]
    exact hfm
theorem InB.up {W W' : World} {a : Option Addr} {len : Nat} {m : Nat → Bool} (h : InB W a len m) (hB : Below W.heap.size W W') : InB W' a len m := by
  rcases h with h | ⟨b, off, h1, h2⟩
  · exact .inl h
  · exact .inr ⟨b, off, h1, fun i hi => (hB.cell (p := ⟨b, off + i, none⟩) (block_lt_of_cell (h2 i hi))).trans (h2 i hi)⟩
theorem Acts.up {W W' : World} {a : Option Addr} {len : Nat} (h : Acts W a len) (hB : Below W.heap.size W W') : Acts W' a len := by
  rcases h with h | ⟨b, off, h1, h2⟩
  · exact .inl h
  · refine .inr ⟨b, off, h1, fun i hi => ?_⟩
    obtain ⟨x, hx, hr⟩ := h2 i hi
    refine ⟨x, ⟨hx.kind, hx.id, hx.kd, hx.s, hx.kl, hx.kc, hx.ks.up hB⟩, fun j u hj => ?_⟩
    have h3 := hr j u hj
    exact (hB.cell (block_lt_of_cell h3)).trans h3
/- a state that was told, in a box, beside a transaction -/
structure Was (wr : World) (fs : List Nat) (u g cap : Nat) (vF vR : Value) (S : Pd.Ab) : Prop where
  box : wr.heap[u]? = some (.cells #[.slice (some ⟨g, 0, none⟩) S.pgs.length cap, vF, vR] 39 (0, 0))
  row : wr.ownsRow 0 83 3 (.slice (some ⟨g, 0, none⟩) S.pgs.length cap) S.pgs.length (S.pgs.flatMap pgC)
  au : u ∉ fs
  ag : g ∉ fs
theorem Was.step {wr w' : World} {fs : List Nat} {u g cap : Nat} {vF vR : Value} {S : Pd.Ab} (h : Was wr fs u g cap vF vR S) (hC : Chg fs wr w') : Was w' fs u g cap vF vR S := by
  refine ⟨(hC.block u (Array.getElem?_eq_some_iff.1 h.box).1 h.au).trans h.box, own_keep h.row (fun k hk => ?_), h.au, h.ag⟩
  have : k = g := (Option.some.inj hk).symm
  subst this
  exact hC.block k (h.row.lt k rfl).2 h.ag
theorem Was.cells {wr : World} {fs : List Nat} {u g cap : Nat} {vF vR : Value} {S : Pd.Ab} (h : Was wr fs u g cap vF vR S) (h0 : 0 < S.pgs.length) (j : Nat) (o : Option Pd.Sheet) (hj : S.pgs[j]? = some o) (i : Nat) (x : Value) (hi : (pgC o)[i]? = some x) : wr.cell? ⟨g, j * 3 + i, none⟩ = some x := by
  obtain ⟨g', cap', e, _, _, _, hc⟩ := pg_cells h.row h0
  cases e
  exact hc j o i x hj hi
theorem Was.c0 {wr : World} {fs : List Nat} {u g cap : Nat} {vF vR : Value} {S : Pd.Ab} (h : Was wr fs u g cap vF vR S) : wr.cell? ⟨u, 0, none⟩ = some (.slice (some ⟨g, 0, none⟩) S.pgs.length cap) := (cell_of_row wr u 0 _ _ (0, 0) h.box).trans rfl
theorem was_begin {w3 w5 : World} {A : Ad} {t bt gP cP n : Nat} {vF vR : Value} {S : Pd.Ab} {B : Nat} (hn : n = S.pgs.length) (hO : w3.ownsRow B 83 3 (.slice (some ⟨gP, 0, none⟩) n cP) S.pgs.length (S.pgs.flatMap pgC)) (hlt : ∀ k ∈ A.ft, k < w3.heap.size) (hg : gP ∉ A.ft) (hT : Turn A.ft (tft A t bt) (w3.alloc (.cells #[.slice (some ⟨gP, 0, none⟩) n cP, vF, vR] 39)) w5) : Was w5 (tft A t bt) w3.heap.size gP cP vF vR S := by
  subst hn
  have s4 : (w3.alloc (.cells #[.slice (some ⟨gP, 0, none⟩) S.pgs.length cP, vF, vR] 39)).heap.size = w3.heap.size + 1 := by simp
  have hu : w3.heap.size ∉ A.ft := fun hm => by have := hlt _ hm; omega
  have hgl := (hO.lt gP rfl).2
  have h4 : Was (w3.alloc (.cells #[.slice (some ⟨gP, 0, none⟩) S.pgs.length cP, vF, vR] 39)) A.ft w3.heap.size gP cP vF vR S := ⟨heap_alloc_new w3 _, own_zero (own_alloc hO _), hu, hg⟩
  have h5 := h4.step hT.chg
  refine ⟨h5.box, h5.row, fun hm => ?_, fun hm => ?_⟩
  · rcases hT.grow _ hm with h | h
    · exact hu h
    · omega
  · rcases hT.grow _ hm with h | h
    · exact hg h
    · omega
set_option maxHeartbeats 8000000 in
set_option maxRecDepth 20000 in
theorem stays_walk (a : Option Addr) (len cap : Nat) (x : Actv) (w : World) (hA : Acts w a len) (hlc : len ≤ cap) (hcm : cap ≤ 9223372036854775807) (hx : x.Fits w) (hT : Tab w) :
    Calls Tryz.prog 8 #[.slice a len cap, .agg x.cells] w fun e w' => e = .returned (.bool true) ∧ Below w.heap.size w w' := by
  have HT : Hid (Tab w) := hT
  have hpos := hT.pos
  obtain ⟨xk, xi, xd, xs, ka, kl, kc, xm⟩ := x
  have HAC : Hid (Acts w a len) := hA
  clear hT hA hx
  unfold Actv.cells
  simp only
  obtain ⟨K9, hK9, e1, e2, b1, b2⟩ := mod_pos xi 9 (by omega)
  have e1 : (xi.tmod 9 + 9).tmod 9 = (K9 : Int) := e1
  have e2 : (xi.tmod 9 + 9) % 9 = (K9 : Int) := e2
  have hwr : IntKind.i64.wrap (xi.tmod 9 + 9) = xi.tmod 9 + 9 := by have b1 : -9 < xi.tmod 9 := b1; have b2 : xi.tmod 9 < 9 := b2; rw [IntKind.wrap_i64]; omega
  clear b1 b2
  obtain ⟨oth, hoth⟩ : ∃ oth : Nat, oth = K9 + 1 := ⟨_, rfl⟩
  have hq9 : 1 + (K9 : Int) = (oth : Int) := by omega
  clear hoth
  go_enter Tryz.func8, Tryz.ntmps8
  go_wp2_with fail
  have HB0 : Hid (Below w.heap.size w (w.alloc (.cells #[.int .i64 xk, .int .i64 xi, .int .i64 xd, .string xs, .slice ka kl kc] 28))) := (Below.refl _ _).alloc (Nat.le_refl _) _
  have HX0 : Hid ((w.alloc (.cells #[.int .i64 xk, .int .i64 xi, .int .i64 xd, .string xs, .slice ka kl kc] 28)).cell? ⟨w.heap.size, 1, none⟩ = some (.int .i64 xi) ∧ w.heap.size < (w.alloc (.cells #[.int .i64 xk, .int .i64 xi, .int .i64 xd, .string xs, .slice ka kl kc] 28)).heap.size) := ⟨(cell_of_row _ _ 1 _ _ (0, 0) (heap_alloc_new w _)).trans rfl, by simp⟩
  generalize World.alloc w _ = W at *
  have HTW : Hid (Tab W) := HT.out.below HB0.out hpos
  refine (new_any 156 W (by omega) (by omega)).mono ?_
  rintro e w0 ⟨g, kg, rfl, hD0, hB0, hg, hkg⟩
  have G0 : Hid (GK W w0 g kg nil0 (Sc.made 156) 60 12 0 Pd.Ab.init) := made_gk g kg 156 60 12 hD0 HTW.out hB0 hg hkg (by omega) (by omega) (by omega) (by omega) (by omega)
  clear hD0 hB0 hg hkg
  go_wp2_with fail
  refine (gopen1 g kg nil0 (Sc.made 156) 60 12 G0.out (by omega) rfl).mono ?_
  rintro e w1 ⟨A1, d1, rfl, _, _, hG1, hn1, hc1, _, hlf1, _⟩
  have G1 : Hid (GD W w1 A1 (0 + 8 * 12 + 4) d1 Pd.Ab.init) := hG1
  have N1 : Hid (d1.n = 60 ∧ d1.cnt = 12 ∧ d1.s.left = -1) := ⟨hn1, hc1, hlf1 rfl⟩
  clear hG1 hn1 hc1 hlf1 G0
  have HBD := build_any a len cap 10 (HAC.out.up HB0.out) hlc hcm (by omega) G1.out N1.out.2.2 164 (by rw [N1.out.1, N1.out.2.1]) (by omega) (by rw [N1.out.1]; omega)
  go_wp2_with fail
  refine HBD.mono ?_
  rintro e w2 ⟨rfl, A2, d2, S, hB2⟩
  have hax : A2.x = A1.x := by obtain ⟨_, _, _, rfl⟩ := hB2.to; rfl
  have G2 : Hid (GD W w2 A2 1740 d2 S) := hB2.gd
  clear hB2 HBD G1
  have HST := state_any G2.out HTW.out.pos
  rw [hax] at HST
  go_wp2_with fail
  refine HST.mono ?_
  rintro e w3 ⟨vP, vF, vR, rfl, hG3, hO3, hap, _⟩
  have hposS := hG3.inv.fnd.ok.pos
  have hmx : S.pgs.length ≤ 1000 := Nat.le_trans hG3.inv.fnd.ok.most hG3.inv.fnd.ok.small
  obtain ⟨gP, cP, hvP, hcP, _, hgl, _⟩ := pg_cells hO3.pg hposS
  subst hvP
  obtain ⟨aF, cF, hvF⟩ := own_slice hO3.fr
  obtain ⟨aR, cR, hvR⟩ := own_slice hO3.rt
  subst hvF
  subst hvR
  have HO3 : Hid (w3.ownsRow w2.heap.size 83 3 (.slice (some ⟨gP, 0, none⟩) S.pgs.length cP) S.pgs.length (S.pgs.flatMap pgC) ∧ gP ∉ A2.ft) := ⟨hO3.pg, hap gP (.inl rfl)⟩
  have HBX : Hid (∀ o, Below w3.heap.size w3 (w3.alloc o)) := fun o => (Below.refl _ _).alloc (Nat.le_refl _) o
  have G3 : Hid (GD W w3 A2 1740 d2 S) := hG3
  have HOK : Hid (S.Ok d2.cnt) := hG3.inv.fnd.ok
  clear hG3 hO3 hap HST G2
  have HBE := gbegin (G3.out.below (HBX.out (.cells #[.slice (some ⟨gP, 0, none⟩) S.pgs.length cP, .slice aF S.freed.length cF, .slice aR 4 cR] 39)))
  rw [hax] at HBE
  go_wp2_with fail
  refine HBE.mono ?_
  rintro e w5 ⟨t, bt, rfl, hG5, hT5⟩
  have HW5 := (show Hid (Was w5 (tft A2 t bt) w3.heap.size gP cP (.slice aF S.freed.length cF) (.slice aR 4 cR) S) from was_begin rfl HO3.out.1 G3.out.db.lt HO3.out.2 hT5)
  have G5 : Hid (GT W w5 A2 t bt 1740 d2 S S false []) := hG5
  clear hG5 hT5 HBE HBX G3 HO3
  generalize w3.heap.size = u at *
  have HA := galloc G5.out
  have HCS : Hid (alR S d2.cnt = 0 ∨ alR S d2.cnt = 7) := by
    unfold alR
    split
    · exact .inr rfl
    · exact .inl rfl
  by_cases hR : alR S d2.cnt = 0
  · rw [hR] at HA
    have HNW : Hid (alI S d2.cnt < S.pgs.length → S.pgs[alI S d2.cnt]? = some none) := fun h => stays_new HOK.out hR h
    go_wp2_with fail
    refine HA.mono ?_
    rintro e w6 ⟨rfl, hG6, hT6⟩
    have HW6 : Hid (Was w6 (tft A2 t bt) u gP cP (.slice aF S.freed.length cF) (.slice aR 4 cR) S) := HW5.out.step hT6.chg
    have HG6 := (show Hid (GT W w6 A2 t bt 1740 d2 S (alA S d2.cnt) false _) from hG6)
    clear hG6 hT6 HA HW5 G5 HCS
    generalize hid : alI S d2.cnt = id at *
    have HID : Hid (alI S d2.cnt = id) := hid
    clear hid
    have c0 := HW6.out.c0
    by_cases hil : id < S.pgs.length
    · have d1' : decide ((id : Int) < (S.pgs.length : Int)) = true := decide_eq_true (by omega)
      have k0 : (0 : Int) ≤ (id : Int) := by omega
      have k1 : (id : Int) < (S.pgs.length : Int) := by omega
      have p2 : w6.cell? ⟨gP, id * 3 + 2, none⟩ = some (.bool true) := HW6.out.cells (by omega) id none (HNW.out hil) 2 _ rfl
      have HT6 := (show Hid (alA S d2.cnt = alA S d2.cnt) from rfl)
      have c1 : w6.cell? ⟨w.heap.size, 1, none⟩ = some (.int .i64 xi) := (HG6.out.bel.cell (p := ⟨w.heap.size, 1, none⟩) HX0.out.2).trans HX0.out.1
      have HWT := gwrite (oth : Int) 9 txtM HG6.out
      go_wp2_with fail
      refine HWT.mono ?_
      rintro e w7 ⟨rfl, hG7, hT7⟩
      have HW7 : Hid (Was w7 (tft A2 t bt) u gP cP (.slice aF S.freed.length cF) (.slice aR 4 cR) S) := HW6.out.step hT7.chg
      have HG7 := (show Hid (GT W w7 A2 t bt 1740 d2 S (wrA (alA S d2.cnt) (oth : Int) 9 txtM) false _) from hG7)
      clear hG7 hT7 HWT HG6 HW6 c1 HT6
      have HTS : Hid (∀ j : Nat, 1 ≤ j → j < S.pgs.length → j ≠ id → (j : Int) ≠ (oth : Int) → thereR (wrA (alA S d2.cnt) (oth : Int) 9 txtM).pgs.length (j : Int) ((wrA (alA S d2.cnt) (oth : Int) 9 txtM).sh j) = thereR S.pgs.length (j : Int) (S.sh j)) := fun j h1 h2 h3 h4 => stays_sh HOK.out h1 h2 (by rw [HID.out]; exact h3) h4
      generalize wrM (alA S d2.cnt) _ _ _ _ = tm at *
      generalize wrA (alA S d2.cnt) (oth : Int) 9 txtM = T at *
      go_wp2_with fail
      try clear d1'
      try clear hil
      try clear k0 k1 p2
      try clear c0
      go_loopw [16, 17, 18, 19] (fun s16 _ _ _ wr => ∃ j : Nat, 1 ≤ j ∧ j ≤ S.pgs.length ∧ s16 = .int .i64 (j : Int) ∧ Was wr (tft A2 t bt) u gP cP (.slice aF S.freed.length cF) (.slice aR 4 cR) S ∧ GT W wr A2 t bt 1740 d2 S T false tm) (fun s16 _ _ _ _ => S.pgs.length - (intOf s16).toNat)
      case atStart => exact ⟨1, by omega, by omega, rfl, HW7.out, HG7.out⟩
      case round =>
        clear HW7 HG7
        obtain ⟨j, hj1, hj, rfl, hWr, hGr⟩ := hrel
        have HWr : Hid (Was wr (tft A2 t bt) u gP cP (.slice aF S.freed.length cF) (.slice aR 4 cR) S ∧ GT W wr A2 t bt 1740 d2 S T false tm) := ⟨hWr, hGr⟩
        clear hWr hGr
        have c0 := HWr.out.1.c0
        by_cases hjl : j < S.pgs.length
        · have dk : decide ((j : Int) < (S.pgs.length : Int)) = true := decide_eq_true (by omega)
          have k0 : (0 : Int) ≤ (j : Int) := by omega
          have k1 : (j : Int) < (S.pgs.length : Int) := by omega
          have HRD := gread (j : Int) HWr.out.2
          rw [Int.toNat_natCast] at HRD
          by_cases hs1 : j = id
          · subst hs1
            clear HTS HID
            go_wp2_with fail
            refine HRD.mono ?_
            rintro e w9 ⟨rfl, hB9⟩
            have HF := (show Hid (Was w9 (tft A2 t bt) u gP cP (.slice aF S.freed.length cF) (.slice aR 4 cR) S ∧ GT W w9 A2 t bt 1740 d2 S T false tm) from ⟨HWr.out.1.step (Chg.of_below hB9), HWr.out.2.below hB9⟩)
            clear hB9 HRD c0
            go_wp2
            go_roundw
            case rel => exact ⟨j + 1, by omega, by omega, by go_num, HF.out.1, HF.out.2⟩
            case measure => (simp [intOf]) <;> omega
          · have q1 : ¬ (j : Int) = (id : Int) := by omega
            have q2 : decide ((j : Int) = (id : Int)) = false := decide_eq_false q1
            have qb1 : ((j : Int) == (id : Int)) = false := by simpa using q1
            by_cases hs2 : j = oth
            · subst hs2
              clear HTS
              go_wp2_with fail
              refine HRD.mono ?_
              rintro e w9 ⟨rfl, hB9⟩
              have HF := (show Hid (Was w9 (tft A2 t bt) u gP cP (.slice aF S.freed.length cF) (.slice aR 4 cR) S ∧ GT W w9 A2 t bt 1740 d2 S T false tm) from ⟨HWr.out.1.step (Chg.of_below hB9), HWr.out.2.below hB9⟩)
              clear hB9 HRD c0
              go_wp2
              go_roundw
              case rel => exact ⟨j + 1, by omega, by omega, by go_num, HF.out.1, HF.out.2⟩
              case measure => (simp [intOf]) <;> omega
            · have q4 : ¬ (j : Int) = (oth : Int) := by omega
              have q3 : decide ((j : Int) = (oth : Int)) = false := decide_eq_false q4
              have qb2 : ((j : Int) == (oth : Int)) = false := by simpa using q4
              rw [HTS.out j hj1 hjl hs1 q4] at HRD
              obtain ⟨o, ho⟩ : ∃ o, S.pgs[j]? = some o := ⟨_, List.getElem?_eq_getElem hjl⟩
              obtain ⟨kd, b, E, hth, hor⟩ := read_pg (d := d2) HOK.out hj1 ho
              rw [hth] at HRD
              go_wp2_with fail
              refine HRD.mono ?_
              rintro e w9 ⟨rfl, hB9⟩
              have HF := (show Hid (Was w9 (tft A2 t bt) u gP cP (.slice aF S.freed.length cF) (.slice aR 4 cR) S ∧ GT W w9 A2 t bt 1740 d2 S T false tm) from ⟨HWr.out.1.step (Chg.of_below hB9), HWr.out.2.below hB9⟩)
              have c9 := HF.out.1.c0
              rcases hor with ⟨rfl, hpc⟩ | ⟨rfl, hpc⟩
              · have p0 : w9.cell? ⟨gP, j * 3, none⟩ = some (.int .i64 (kd : Int)) := HF.out.1.cells (by omega) j o ho 0 _ (by rw [hpc]; rfl)
                have p1 : w9.cell? ⟨gP, j * 3 + 1, none⟩ = some (.string b) := HF.out.1.cells (by omega) j o ho 1 _ (by rw [hpc]; rfl)
                have p2 : w9.cell? ⟨gP, j * 3 + 2, none⟩ = some (.bool false) := HF.out.1.cells (by omega) j o ho 2 _ (by rw [hpc]; rfl)
                clear hB9 HRD c0 hpc ho hth
                go_wp2
                go_roundw
                case rel => exact ⟨j + 1, by omega, by omega, by go_num, HF.out.1, HF.out.2⟩
                case measure => (simp [intOf]) <;> omega
              · have p2 : w9.cell? ⟨gP, j * 3 + 2, none⟩ = some (.bool true) := HF.out.1.cells (by omega) j o ho 2 _ (by rw [hpc]; rfl)
                clear hB9 HRD c0 hpc ho hth
                go_wp2
                go_roundw
                case rel => exact ⟨j + 1, by omega, by omega, by go_num, HF.out.1, HF.out.2⟩
                case measure => (simp [intOf]) <;> omega
        · have dk : decide ((j : Int) < (S.pgs.length : Int)) = false := decide_eq_false (by omega)
          have HBr : Hid (Below w.heap.size w wr) := HB0.out.trans (HWr.out.2.bel.mono HB0.out.size)
          have HWK := works_any wr HWr.out.2.tx.db.tab
          go_wp2_with fail
          refine HWK.mono ?_
          rintro e w9 ⟨rfl, hB9⟩
          have HFN : Hid (Below w.heap.size w w9) := HBr.out.trans (hB9.mono HBr.out.size)
          clear hB9 HWK c0
          go_wp2
          go_ret
          exact ⟨rfl, HFN.out⟩
    · have d1' : decide ((id : Int) < (S.pgs.length : Int)) = false := decide_eq_false (by omega)
      have HT6 := (show Hid (alA S d2.cnt = alA S d2.cnt) from rfl)
      have c1 : w6.cell? ⟨w.heap.size, 1, none⟩ = some (.int .i64 xi) := (HG6.out.bel.cell (p := ⟨w.heap.size, 1, none⟩) HX0.out.2).trans HX0.out.1
      have HWT := gwrite (oth : Int) 9 txtM HG6.out
      go_wp2_with fail
      refine HWT.mono ?_
      rintro e w7 ⟨rfl, hG7, hT7⟩
      have HW7 : Hid (Was w7 (tft A2 t bt) u gP cP (.slice aF S.freed.length cF) (.slice aR 4 cR) S) := HW6.out.step hT7.chg
      have HG7 := (show Hid (GT W w7 A2 t bt 1740 d2 S (wrA (alA S d2.cnt) (oth : Int) 9 txtM) false _) from hG7)
      clear hG7 hT7 HWT HG6 HW6 c1 HT6
      have HTS : Hid (∀ j : Nat, 1 ≤ j → j < S.pgs.length → j ≠ id → (j : Int) ≠ (oth : Int) → thereR (wrA (alA S d2.cnt) (oth : Int) 9 txtM).pgs.length (j : Int) ((wrA (alA S d2.cnt) (oth : Int) 9 txtM).sh j) = thereR S.pgs.length (j : Int) (S.sh j)) := fun j h1 h2 h3 h4 => stays_sh HOK.out h1 h2 (by rw [HID.out]; exact h3) h4
      generalize wrM (alA S d2.cnt) _ _ _ _ = tm at *
      generalize wrA (alA S d2.cnt) (oth : Int) 9 txtM = T at *
      go_wp2_with fail
      try clear d1'
      try clear hil
      try clear k0 k1 p2
      try clear c0
      go_loopw [16, 17, 18, 19] (fun s16 _ _ _ wr => ∃ j : Nat, 1 ≤ j ∧ j ≤ S.pgs.length ∧ s16 = .int .i64 (j : Int) ∧ Was wr (tft A2 t bt) u gP cP (.slice aF S.freed.length cF) (.slice aR 4 cR) S ∧ GT W wr A2 t bt 1740 d2 S T false tm) (fun s16 _ _ _ _ => S.pgs.length - (intOf s16).toNat)
      case atStart => exact ⟨1, by omega, by omega, rfl, HW7.out, HG7.out⟩
      case round =>
        clear HW7 HG7
        obtain ⟨j, hj1, hj, rfl, hWr, hGr⟩ := hrel
        have HWr : Hid (Was wr (tft A2 t bt) u gP cP (.slice aF S.freed.length cF) (.slice aR 4 cR) S ∧ GT W wr A2 t bt 1740 d2 S T false tm) := ⟨hWr, hGr⟩
        clear hWr hGr
        have c0 := HWr.out.1.c0
        by_cases hjl : j < S.pgs.length
        · have dk : decide ((j : Int) < (S.pgs.length : Int)) = true := decide_eq_true (by omega)
          have k0 : (0 : Int) ≤ (j : Int) := by omega
          have k1 : (j : Int) < (S.pgs.length : Int) := by omega
          have HRD := gread (j : Int) HWr.out.2
          rw [Int.toNat_natCast] at HRD
          by_cases hs1 : j = id
          · subst hs1
            clear HTS HID
            go_wp2_with fail
            refine HRD.mono ?_
            rintro e w9 ⟨rfl, hB9⟩
            have HF := (show Hid (Was w9 (tft A2 t bt) u gP cP (.slice aF S.freed.length cF) (.slice aR 4 cR) S ∧ GT W w9 A2 t bt 1740 d2 S T false tm) from ⟨HWr.out.1.step (Chg.of_below hB9), HWr.out.2.below hB9⟩)
            clear hB9 HRD c0
            go_wp2
            go_roundw
            case rel => exact ⟨j + 1, by omega, by omega, by go_num, HF.out.1, HF.out.2⟩
            case measure => (simp [intOf]) <;> omega
          · have q1 : ¬ (j : Int) = (id : Int) := by omega
            have q2 : decide ((j : Int) = (id : Int)) = false := decide_eq_false q1
            have qb1 : ((j : Int) == (id : Int)) = false := by simpa using q1
            by_cases hs2 : j = oth
            · subst hs2
              clear HTS
              go_wp2_with fail
              refine HRD.mono ?_
              rintro e w9 ⟨rfl, hB9⟩
              have HF := (show Hid (Was w9 (tft A2 t bt) u gP cP (.slice aF S.freed.length cF) (.slice aR 4 cR) S ∧ GT W w9 A2 t bt 1740 d2 S T false tm) from ⟨HWr.out.1.step (Chg.of_below hB9), HWr.out.2.below hB9⟩)
              clear hB9 HRD c0
              go_wp2
              go_roundw
              case rel => exact ⟨j + 1, by omega, by omega, by go_num, HF.out.1, HF.out.2⟩
              case measure => (simp [intOf]) <;> omega
            · have q4 : ¬ (j : Int) = (oth : Int) := by omega
              have q3 : decide ((j : Int) = (oth : Int)) = false := decide_eq_false q4
              have qb2 : ((j : Int) == (oth : Int)) = false := by simpa using q4
              rw [HTS.out j hj1 hjl hs1 q4] at HRD
              obtain ⟨o, ho⟩ : ∃ o, S.pgs[j]? = some o := ⟨_, List.getElem?_eq_getElem hjl⟩
              obtain ⟨kd, b, E, hth, hor⟩ := read_pg (d := d2) HOK.out hj1 ho
              rw [hth] at HRD
              go_wp2_with fail
              refine HRD.mono ?_
              rintro e w9 ⟨rfl, hB9⟩
              have HF := (show Hid (Was w9 (tft A2 t bt) u gP cP (.slice aF S.freed.length cF) (.slice aR 4 cR) S ∧ GT W w9 A2 t bt 1740 d2 S T false tm) from ⟨HWr.out.1.step (Chg.of_below hB9), HWr.out.2.below hB9⟩)
              have c9 := HF.out.1.c0
              rcases hor with ⟨rfl, hpc⟩ | ⟨rfl, hpc⟩
              · have p0 : w9.cell? ⟨gP, j * 3, none⟩ = some (.int .i64 (kd : Int)) := HF.out.1.cells (by omega) j o ho 0 _ (by rw [hpc]; rfl)
                have p1 : w9.cell? ⟨gP, j * 3 + 1, none⟩ = some (.string b) := HF.out.1.cells (by omega) j o ho 1 _ (by rw [hpc]; rfl)
                have p2 : w9.cell? ⟨gP, j * 3 + 2, none⟩ = some (.bool false) := HF.out.1.cells (by omega) j o ho 2 _ (by rw [hpc]; rfl)
                clear hB9 HRD c0 hpc ho hth
                go_wp2
                go_roundw
                case rel => exact ⟨j + 1, by omega, by omega, by go_num, HF.out.1, HF.out.2⟩
                case measure => (simp [intOf]) <;> omega
              · have p2 : w9.cell? ⟨gP, j * 3 + 2, none⟩ = some (.bool true) := HF.out.1.cells (by omega) j o ho 2 _ (by rw [hpc]; rfl)
                clear hB9 HRD c0 hpc ho hth
                go_wp2
                go_roundw
                case rel => exact ⟨j + 1, by omega, by omega, by go_num, HF.out.1, HF.out.2⟩
                case measure => (simp [intOf]) <;> omega
        · have dk : decide ((j : Int) < (S.pgs.length : Int)) = false := decide_eq_false (by omega)
          have HBr : Hid (Below w.heap.size w wr) := HB0.out.trans (HWr.out.2.bel.mono HB0.out.size)
          have HWK := works_any wr HWr.out.2.tx.db.tab
          go_wp2_with fail
          refine HWK.mono ?_
          rintro e w9 ⟨rfl, hB9⟩
          have HFN : Hid (Below w.heap.size w w9) := HBr.out.trans (hB9.mono HBr.out.size)
          clear hB9 HWK c0
          go_wp2
          go_ret
          exact ⟨rfl, HFN.out⟩
  · have hR7 : alR S d2.cnt = 7 := HCS.out.resolve_left hR
    rw [hR7] at HA
    go_wp2_with fail
    refine HA.mono ?_
    rintro e w6 ⟨rfl, hG6, hT6⟩
    have HW6 : Hid (Was w6 (tft A2 t bt) u gP cP (.slice aF S.freed.length cF) (.slice aR 4 cR) S) := HW5.out.step hT6.chg
    have HG6 := (show Hid (GT W w6 A2 t bt 1740 d2 S (alA S d2.cnt) false _) from hG6)
    clear hG6 hT6 HA HW5 G5 HCS
    generalize hid : alI S d2.cnt = id at *
    have HID : Hid (alI S d2.cnt = id) := hid
    clear hid
    have c0 := HW6.out.c0
    have HT6 := (show Hid (alA S d2.cnt = alA S d2.cnt) from rfl)
    have c1 : w6.cell? ⟨w.heap.size, 1, none⟩ = some (.int .i64 xi) := (HG6.out.bel.cell (p := ⟨w.heap.size, 1, none⟩) HX0.out.2).trans HX0.out.1
    have HWT := gwrite (oth : Int) 9 txtM HG6.out
    go_wp2_with fail
    refine HWT.mono ?_
    rintro e w7 ⟨rfl, hG7, hT7⟩
    have HW7 : Hid (Was w7 (tft A2 t bt) u gP cP (.slice aF S.freed.length cF) (.slice aR 4 cR) S) := HW6.out.step hT7.chg
    have HG7 := (show Hid (GT W w7 A2 t bt 1740 d2 S (wrA (alA S d2.cnt) (oth : Int) 9 txtM) false _) from hG7)
    clear hG7 hT7 HWT HG6 HW6 c1 HT6
    have HTS : Hid (∀ j : Nat, 1 ≤ j → j < S.pgs.length → j ≠ id → (j : Int) ≠ (oth : Int) → thereR (wrA (alA S d2.cnt) (oth : Int) 9 txtM).pgs.length (j : Int) ((wrA (alA S d2.cnt) (oth : Int) 9 txtM).sh j) = thereR S.pgs.length (j : Int) (S.sh j)) := fun j h1 h2 h3 h4 => stays_sh HOK.out h1 h2 (by rw [HID.out]; exact h3) h4
    generalize wrM (alA S d2.cnt) _ _ _ _ = tm at *
    generalize wrA (alA S d2.cnt) (oth : Int) 9 txtM = T at *
    go_wp2_with fail
    try clear d1'
    try clear hil
    try clear k0 k1 p2
    try clear c0
    go_loopw [16, 17, 18, 19] (fun s16 _ _ _ wr => ∃ j : Nat, 1 ≤ j ∧ j ≤ S.pgs.length ∧ s16 = .int .i64 (j : Int) ∧ Was wr (tft A2 t bt) u gP cP (.slice aF S.freed.length cF) (.slice aR 4 cR) S ∧ GT W wr A2 t bt 1740 d2 S T false tm) (fun s16 _ _ _ _ => S.pgs.length - (intOf s16).toNat)
    case atStart => exact ⟨1, by omega, by omega, rfl, HW7.out, HG7.out⟩
    case round =>
      clear HW7 HG7
      obtain ⟨j, hj1, hj, rfl, hWr, hGr⟩ := hrel
      have HWr : Hid (Was wr (tft A2 t bt) u gP cP (.slice aF S.freed.length cF) (.slice aR 4 cR) S ∧ GT W wr A2 t bt 1740 d2 S T false tm) := ⟨hWr, hGr⟩
      clear hWr hGr
      have c0 := HWr.out.1.c0
      by_cases hjl : j < S.pgs.length
      · have dk : decide ((j : Int) < (S.pgs.length : Int)) = true := decide_eq_true (by omega)
        have k0 : (0 : Int) ≤ (j : Int) := by omega
        have k1 : (j : Int) < (S.pgs.length : Int) := by omega
        have HRD := gread (j : Int) HWr.out.2
        rw [Int.toNat_natCast] at HRD
        by_cases hs1 : j = id
        · subst hs1
          clear HTS HID
          go_wp2_with fail
          refine HRD.mono ?_
          rintro e w9 ⟨rfl, hB9⟩
          have HF := (show Hid (Was w9 (tft A2 t bt) u gP cP (.slice aF S.freed.length cF) (.slice aR 4 cR) S ∧ GT W w9 A2 t bt 1740 d2 S T false tm) from ⟨HWr.out.1.step (Chg.of_below hB9), HWr.out.2.below hB9⟩)
          clear hB9 HRD c0
          go_wp2
          go_roundw
          case rel => exact ⟨j + 1, by omega, by omega, by go_num, HF.out.1, HF.out.2⟩
          case measure => (simp [intOf]) <;> omega
        · have q1 : ¬ (j : Int) = (id : Int) := by omega
          have q2 : decide ((j : Int) = (id : Int)) = false := decide_eq_false q1
          have qb1 : ((j : Int) == (id : Int)) = false := by simpa using q1
          by_cases hs2 : j = oth
          · subst hs2
            clear HTS
            go_wp2_with fail
            refine HRD.mono ?_
            rintro e w9 ⟨rfl, hB9⟩
            have HF := (show Hid (Was w9 (tft A2 t bt) u gP cP (.slice aF S.freed.length cF) (.slice aR 4 cR) S ∧ GT W w9 A2 t bt 1740 d2 S T false tm) from ⟨HWr.out.1.step (Chg.of_below hB9), HWr.out.2.below hB9⟩)
            clear hB9 HRD c0
            go_wp2
            go_roundw
            case rel => exact ⟨j + 1, by omega, by omega, by go_num, HF.out.1, HF.out.2⟩
            case measure => (simp [intOf]) <;> omega
          · have q4 : ¬ (j : Int) = (oth : Int) := by omega
            have q3 : decide ((j : Int) = (oth : Int)) = false := decide_eq_false q4
            have qb2 : ((j : Int) == (oth : Int)) = false := by simpa using q4
            rw [HTS.out j hj1 hjl hs1 q4] at HRD
            obtain ⟨o, ho⟩ : ∃ o, S.pgs[j]? = some o := ⟨_, List.getElem?_eq_getElem hjl⟩
            obtain ⟨kd, b, E, hth, hor⟩ := read_pg (d := d2) HOK.out hj1 ho
            rw [hth] at HRD
            go_wp2_with fail
            refine HRD.mono ?_
            rintro e w9 ⟨rfl, hB9⟩
            have HF := (show Hid (Was w9 (tft A2 t bt) u gP cP (.slice aF S.freed.length cF) (.slice aR 4 cR) S ∧ GT W w9 A2 t bt 1740 d2 S T false tm) from ⟨HWr.out.1.step (Chg.of_below hB9), HWr.out.2.below hB9⟩)
            have c9 := HF.out.1.c0
            rcases hor with ⟨rfl, hpc⟩ | ⟨rfl, hpc⟩
            · have p0 : w9.cell? ⟨gP, j * 3, none⟩ = some (.int .i64 (kd : Int)) := HF.out.1.cells (by omega) j o ho 0 _ (by rw [hpc]; rfl)
              have p1 : w9.cell? ⟨gP, j * 3 + 1, none⟩ = some (.string b) := HF.out.1.cells (by omega) j o ho 1 _ (by rw [hpc]; rfl)
              have p2 : w9.cell? ⟨gP, j * 3 + 2, none⟩ = some (.bool false) := HF.out.1.cells (by omega) j o ho 2 _ (by rw [hpc]; rfl)
              clear hB9 HRD c0 hpc ho hth
              go_wp2
              go_roundw
              case rel => exact ⟨j + 1, by omega, by omega, by go_num, HF.out.1, HF.out.2⟩
              case measure => (simp [intOf]) <;> omega
            · have p2 : w9.cell? ⟨gP, j * 3 + 2, none⟩ = some (.bool true) := HF.out.1.cells (by omega) j o ho 2 _ (by rw [hpc]; rfl)
              clear hB9 HRD c0 hpc ho hth
              go_wp2
              go_roundw
              case rel => exact ⟨j + 1, by omega, by omega, by go_num, HF.out.1, HF.out.2⟩
              case measure => (simp [intOf]) <;> omega
      · have dk : decide ((j : Int) < (S.pgs.length : Int)) = false := decide_eq_false (by omega)
        have HBr : Hid (Below w.heap.size w wr) := HB0.out.trans (HWr.out.2.bel.mono HB0.out.size)
        have HWK := works_any wr HWr.out.2.tx.db.tab
        go_wp2_with fail
        refine HWK.mono ?_
        rintro e w9 ⟨rfl, hB9⟩
        have HFN : Hid (Below w.heap.size w w9) := HBr.out.trans (hB9.mono HBr.out.size)
        clear hB9 HWK c0
        go_wp2
        go_ret
        exact ⟨rfl, HFN.out⟩
end Go.Proofs.YtcfninpokngmlaaGreatDoor
