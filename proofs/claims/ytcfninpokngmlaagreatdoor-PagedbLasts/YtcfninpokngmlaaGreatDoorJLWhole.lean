/- Proved: the law's helper whole: a state is what a transaction makes of another one. -/
import Derived.Test.YtcfninpokngmlaaGreatDoorJDSJ
import Derived.Test.YtcfninpokngmlaaGreatDoorJDPow
namespace Go.Proofs.YtcfninpokngmlaaGreatDoor
open Go.RowKit
/- what whole was given, in boxes -/
structure WB (W : World) (aN aW aL : Nat) (nP nF nR sP sF sR : Value) (R S : Pd.Ab) (ac : Array Value) : Prop where
  bn : W.heap[aN]? = some (.cells #[nP, nF, nR] 39 (0, 0))
  bs : W.heap[aW]? = some (.cells #[sP, sF, sR] 39 (0, 0))
  bl : W.heap[aL]? = some (.cells ac 28 (0, 0))
  sn : StO W 0 nP nF nR R
  ss : StO W 0 sP sF sR S
theorem WB.up {W wr : World} {aN aW aL : Nat} {nP nF nR sP sF sR : Value} {R S : Pd.Ab} {ac : Array Value} (h : WB W aN aW aL nP nF nR sP sF sR R S ac) (hB : Below W.heap.size W wr) : WB wr aN aW aL nP nF nR sP sF sR R S ac :=
  ⟨(hB.block _ (Array.getElem?_eq_some_iff.1 h.bn).1).trans h.bn, (hB.block _ (Array.getElem?_eq_some_iff.1 h.bs).1).trans h.bs, (hB.block _ (Array.getElem?_eq_some_iff.1 h.bl).1).trans h.bl, h.sn.below hB, h.ss.below hB⟩
theorem WB.cs {W : World} {aN aW aL : Nat} {nP nF nR sP sF sR : Value} {R S : Pd.Ab} {ac : Array Value} (h : WB W aN aW aL nP nF nR sP sF sR R S ac) : W.cell? ⟨aW, 0, none⟩ = some sP ∧ W.cell? ⟨aW, 1, none⟩ = some sF ∧ W.cell? ⟨aW, 2, none⟩ = some sR :=
  ⟨(cell_of_row W aW 0 _ _ (0, 0) h.bs).trans rfl, (cell_of_row W aW 1 _ _ (0, 0) h.bs).trans rfl, (cell_of_row W aW 2 _ _ (0, 0) h.bs).trans rfl⟩
theorem WB.cn {W : World} {aN aW aL : Nat} {nP nF nR sP sF sR : Value} {R S : Pd.Ab} {ac : Array Value} (h : WB W aN aW aL nP nF nR sP sF sR R S ac) : W.cell? ⟨aN, 0, none⟩ = some nP ∧ W.cell? ⟨aN, 1, none⟩ = some nF ∧ W.cell? ⟨aN, 2, none⟩ = some nR :=
  ⟨(cell_of_row W aN 0 _ _ (0, 0) h.bn).trans rfl, (cell_of_row W aN 1 _ _ (0, 0) h.bn).trans rfl, (cell_of_row W aN 2 _ _ (0, 0) h.bn).trans rfl⟩
theorem wb_start {w : World} {B B' : Nat} {nP nF nR sP sF sR : Value} {R S : Pd.Ab} (ac : Array Value) (h : StO w B nP nF nR R) (h' : StO w B' sP sF sR S) : WB (((w.alloc (.cells #[nP, nF, nR] 39)).alloc (.cells #[sP, sF, sR] 39)).alloc (.cells ac 28)) w.heap.size (w.heap.size + 1) (w.heap.size + 1 + 1) nP nF nR sP sF sR R S ac ∧ Below w.heap.size w (((w.alloc (.cells #[nP, nF, nR] 39)).alloc (.cells #[sP, sF, sR] 39)).alloc (.cells ac 28)) := by
  have s1 : (w.alloc (.cells #[nP, nF, nR] 39)).heap.size = w.heap.size + 1 := by simp
  have s2 : ((w.alloc (.cells #[nP, nF, nR] 39)).alloc (.cells #[sP, sF, sR] 39)).heap.size = w.heap.size + 1 + 1 := by simp
  have hB : Below w.heap.size w (((w.alloc (.cells #[nP, nF, nR] 39)).alloc (.cells #[sP, sF, sR] 39)).alloc (.cells ac 28)) := (((Below.refl _ w).alloc (Nat.le_refl _) _).alloc (by rw [s1]; omega) _).alloc (by rw [s2]; omega) _
  have h1 := heap_alloc_new w (.cells #[nP, nF, nR] 39)
  have h2 := heap_alloc_new (w.alloc (.cells #[nP, nF, nR] 39)) (.cells #[sP, sF, sR] 39)
  have h3 := heap_alloc_new ((w.alloc (.cells #[nP, nF, nR] 39)).alloc (.cells #[sP, sF, sR] 39)) (.cells ac 28)
  rw [s1] at h2
  rw [s2] at h3
  refine ⟨⟨?_, ?_, h3, (h.below hB).zero, (h'.below hB).zero⟩, hB⟩
  · rw [Below.heap_alloc _ _ _ (by rw [s2]; omega), Below.heap_alloc _ _ _ (by rw [s1]; omega)]
    exact h1
  · rw [Below.heap_alloc _ _ _ (by rw [s2]; omega)]
    exact h2
/- what one round of whole's writing reads -/
structure Wr1 (aW gS j : Nat) (vl : Value) (x0 : Nat) (x1 : ByteArray) (w : World) : Prop where
  c : w.cell? ⟨aW, 0, none⟩ = some vl
  p0 : w.cell? ⟨gS, j * 3, none⟩ = some (.int .i64 (x0 : Int))
  p1 : w.cell? ⟨gS, j * 3 + 1, none⟩ = some (.string x1)
theorem WB.wr1 {W : World} {aN aW aL gS l cS j x0 : Nat} {x1 : ByteArray} {x2 : Bool} {o : Option Pd.Sheet} {nP nF nR sF sR : Value} {R S : Pd.Ab} {ac : Array Value} (h : WB W aN aW aL nP nF nR (.slice (some ⟨gS, 0, none⟩) l cS) sF sR R S ac) (h0 : 0 < S.pgs.length) (ho : S.pgs[j]? = some o) (hx : pgC o = [.int .i64 (x0 : Int), .string x1, .bool x2]) : Wr1 aW gS j (.slice (some ⟨gS, 0, none⟩) l cS) x0 x1 W := by
  obtain ⟨g', c', e', _, _, _, hPc⟩ := pg_cells h.ss.pg h0
  cases e'
  have hPc := hPc j o
  rw [hx] at hPc
  exact ⟨h.cs.1, hPc 0 _ ho rfl, hPc 1 _ ho rfl⟩
theorem Wr1.drew {aW gS j x0 : Nat} {x1 : ByteArray} {vl : Value} {w : World} (h : Wr1 aW gS j vl x0 x1 w) : Wr1 aW gS j vl x0 x1 w.drew := ⟨h.c, h.p0, h.p1⟩
theorem WB.cl {W : World} {aN aW aL : Nat} {nP nF nR sP sF sR kp : Value} {R S : Pd.Ab} {k i n : Int} {t : ByteArray} (h : WB W aN aW aL nP nF nR sP sF sR R S #[.int .i64 k, .int .i64 i, .int .i64 n, .string t, kp]) : W.cell? ⟨aL, 0, none⟩ = some (.int .i64 k) ∧ W.cell? ⟨aL, 1, none⟩ = some (.int .i64 i) ∧ W.cell? ⟨aL, 2, none⟩ = some (.int .i64 n) ∧ W.cell? ⟨aL, 3, none⟩ = some (.string t) ∧ W.cell? ⟨aL, 4, none⟩ = some kp :=
  ⟨(cell_of_row W aL 0 _ _ (0, 0) h.bl).trans rfl, (cell_of_row W aL 1 _ _ (0, 0) h.bl).trans rfl, (cell_of_row W aL 2 _ _ (0, 0) h.bl).trans rfl, (cell_of_row W aL 3 _ _ (0, 0) h.bl).trans rfl, (cell_of_row W aL 4 _ _ (0, 0) h.bl).trans rfl⟩
theorem frs_one {R : Pd.Ab} {cnt : Nat} (h : R.Ok cnt) : frs R 1 = [] := by
  have := frs_next (R := R) (j := 0) h.one
  rw [this, if_neg (fun e => nomatch e)]
  rfl
theorem frs_le (R : Pd.Ab) (j : Nat) : (frs R j).length ≤ j := by
  have := List.length_filter_le (fun i => isN R.pgs[i]?) (List.range j)
  rw [List.length_range] at this
  exact this
/- the state that was told, with the other one's free pages -/
theorem sj_fin {W w5 : World} {A : Ad} {t bt K : Nat} {d : Pd.Db} {S0 S R : Pd.Ab} {tm : Pd.Mp} {q rb : Nat} {vP vF : Value} {fl : List Nat} {aN aW aL : Nat} {nP nF nR sP sF sR : Value} {ac : Array Value} (h : SJ W w5 A t bt K d S0 R tm q rb vP vF R.pgs.length fl) (hb : WB W aN aW aL nP nF nR sP sF sR R S ac) :
    StO (w5.setCell ⟨q, 1, none⟩ nF) 0 vP nF (.slice (some ⟨rb, 0, none⟩) 4 4) R ∧ StO (w5.setCell ⟨q, 1, none⟩ nF) 0 nP nF nR R ∧ Below W.heap.size W (w5.setCell ⟨q, 1, none⟩ nF) ∧ ¬ q = aN ∧ Tab (w5.setCell ⟨q, 1, none⟩ nF) := by
  have hb5 := hb.up h.g.bel
  have hc : Chg [q] w5 (w5.setCell ⟨q, 1, none⟩ nF) := Chg.setCell _ _ _ _
  have hqW : ∀ k ∈ [q], W.heap.size ≤ k := fun k hk => by rw [List.mem_singleton.1 hk]; exact h.hi.1
  have ho : ∀ k, k ≠ q → (w5.setCell ⟨q, 1, none⟩ nF).heap[k]? = w5.heap[k]? := fun k hk => heap_setCell_other _ _ _ _ (fun e => hk e)
  have hlow : ∀ k, k < W.heap.size → k ≠ q := fun k hk e => by have := h.hi.1; omega
  have hpg := h.pg
  rw [List.take_length] at hpg
  refine ⟨⟨own_zero (own_keep hpg (fun k hk => ho k (fun e => h.aP k hk (by simp [e])))), own_keep hb5.sn.fr (fun k hk => ho k (hlow k (hb.sn.fr.lt k hk).2)), own_zero (own_keep h.rt (fun k hk => ho k (fun e => ?_)))⟩, ⟨own_keep hb5.sn.pg (fun k hk => ho k (hlow k (hb.sn.pg.lt k hk).2)), own_keep hb5.sn.fr (fun k hk => ho k (hlow k (hb.sn.fr.lt k hk).2)), own_keep hb5.sn.rt (fun k hk => ho k (hlow k (hb.sn.rt.lt k hk).2))⟩, h.g.bel.trans (hc.below hqW h.g.bel.size), fun e => ?_, ?_⟩
  · have : k = rb := (Option.some.inj hk).symm
    subst this
    exact h.aq (by simp [e])
  · have := (Array.getElem?_eq_some_iff.1 hb.bn).1
    have := h.hi.1
    omega
  · exact h.g.tx.db.tab.of_block (hc.block 0 h.g.tx.db.tab.pos (fun hm => by have := hqW 0 hm; have := h.pos; omega))
set_option maxHeartbeats 8000000 in
set_option maxRecDepth 20000 in
theorem whole_any (B B' : Nat) (nP nF nR sP sF sR : Value) (R S : Pd.Ab) (k i n : Int) (s : ByteArray) (kp : Value) (m : Int) (w : World) (hT : Tab w) (hn : StO w B nP nF nR R) (hs : StO w B' sP sF sR S) (hok : S.Ok 12) (hRo : R.Ok 12) (hR : R = chA S 12 (chOf k i n s)) (hm : ¬ m.tmod 3 = 0) (hsz : s.size ≤ 9223372036854775807) :
    Calls Tryz.prog 39 #[.agg #[nP, nF, nR], .agg #[sP, sF, sR], actV k i n s kp, .int .i64 m] w fun e w' => e = .returned (.bool true) ∧ Below w.heap.size w w' := by
  have hlS := hok.pos
  have hmS := hok.most
  have hmR := hRo.most
  have hlR := hRo.pos
  have hfS := hok.free_lt
  have hfR := hRo.free_lt
  obtain ⟨gS, cS, hsP, _, _, _, _⟩ := pg_cells hs.pg hlS
  obtain ⟨gN, cN, hnP, _, _, _, _⟩ := pg_cells hn.pg hlR
  obtain ⟨aF, cF, hsF⟩ := own_slice hs.fr
  obtain ⟨aG, cG, hnF⟩ := own_slice hn.fr
  obtain ⟨gT, cT, hsR, _, _, _, _⟩ := int_cells hs.rt rfl (by omega)
  obtain ⟨gU, cU, hnR, _, _, _, _⟩ := int_cells hn.rt rfl (by omega)
  have HWB := (show Hid _ from wb_start (actC k i n s kp) hn hs)
  subst hsP hnP hsF hnF hsR hnR
  have HOK : Hid (S.Ok 12 ∧ R.Ok 12 ∧ R = chA S 12 (chOf k i n s)) := ⟨hok, hRo, hR⟩
  have HT : Hid (Tab w) := hT
  have m1 : decide (m.tmod 3 = 0) = false := decide_eq_false hm
  have m2 : (m.tmod 3 == 0) = false := by simp [hm]
  clear hok hRo hR hs hn hT
  unfold actV
  unfold actC at HWB
  go_enter Tryz.func39, Tryz.ntmps39
  go_wp2_with fail
  generalize World.alloc (World.alloc (World.alloc w _) _) _ = W at *
  have HTW : Hid (Tab W) := HT.out.below HWB.out.2 HT.out.pos
  obtain ⟨aN, haN⟩ : ∃ a, w.heap.size = a := ⟨_, rfl⟩
  obtain ⟨aW, haW⟩ : ∃ a, w.heap.size + 1 = a := ⟨_, rfl⟩
  obtain ⟨aL, haL⟩ : ∃ a, w.heap.size + 1 + 1 = a := ⟨_, rfl⟩
  rw [haL, haW, haN] at HWB
  rw [haL, haW, haN]
  have HB0 : Hid (Below w.heap.size w W) := by rw [haN]; exact HWB.out.2
  have HWW : Hid (WB W aN aW aL (.slice (some ⟨gN, 0, none⟩) R.pgs.length cN) (.slice aG R.freed.length cG) (.slice (some ⟨gU, 0, none⟩) 4 cU) (.slice (some ⟨gS, 0, none⟩) S.pgs.length cS) (.slice aF S.freed.length cF) (.slice (some ⟨gT, 0, none⟩) 4 cT) R S #[.int .i64 k, .int .i64 i, .int .i64 n, .string s, kp]) := HWB.out.1
  clear HWB haN haW haL
  refine (new_any 156 W (by omega) (by omega)).mono ?_
  rintro e w0 ⟨g, kg, rfl, hD0, hB0, hg, hkg⟩
  have G0 : Hid (GK W w0 g kg nil0 (Sc.made 156) 60 12 0 Pd.Ab.init) := made_gk g kg 156 60 12 hD0 HTW.out hB0 hg hkg (by omega) (by omega) (by omega) (by omega) (by omega)
  clear hD0 hB0 hg hkg
  go_wp2_with fail
  refine (gopen1 g kg nil0 (Sc.made 156) 60 12 G0.out (by omega) rfl).mono ?_
  rintro e w1 ⟨A, d, rfl, _, _, hG1, hn1, hc1, _, _, _⟩
  have G1 : Hid (GD W w1 A (0 + 8 * 12 + 4) d Pd.Ab.init) := hG1
  have hcn : d.cnt = 12 := hc1
  clear hG1 hn1 hc1 G0
  have HCN : Hid (d.cnt = 12) := hcn
  clear hcn
  have HBE := gbegin G1.out
  go_wp2_with fail
  refine HBE.mono ?_
  rintro e w2 ⟨t, bt, rfl, hG2, _⟩
  have G2 : Hid (GT W w2 A t bt (0 + 8 * 12 + 4) d Pd.Ab.init (Pd.T1 0) false []) := hG2
  clear hG2 HBE G1
  obtain ⟨M, hM⟩ : ∃ M, S.pgs.length = M + 1 := ⟨S.pgs.length - 1, by omega⟩
  have HM : Hid (S.pgs.length = M + 1) := hM
  have hq1 : (S.pgs.length : Int) - 1 = (M : Int) := by omega
  have hM12 : M + 1 ≤ 12 := by omega
  clear hM
  obtain ⟨s0, s1, s2⟩ := (HWW.out.up G2.out.bel).cs
  go_wp2_with fail
  clear s0 s1 s2
  go_loopw [49] (fun s49 wr => ∃ (j : Nat) (tm : Pd.Mp), j ≤ M ∧ s49 = .int .i64 (j : Int) ∧ GT W wr A t bt (0 + 8 * 12 + 4) d Pd.Ab.init (Pd.T1 j) false tm) (fun s49 _ => M - (intOf s49).toNat)
  case atStart => exact ⟨0, [], by omega, rfl, G2.out⟩
  case round =>
    clear G2
    obtain ⟨j, tm, hj, rfl, hG⟩ := hrel
    have HG : Hid (GT W wr A t bt (0 + 8 * 12 + 4) d Pd.Ab.init (Pd.T1 j) false tm) := hG
    clear hG
    by_cases hjl : j < M
    · have dk : decide ((j : Int) < (M : Int)) = true := decide_eq_true (by omega)
      have HA := galloc HG.out
      rw [HCN.out, wh1 (by omega)] at HA
      go_wp2_with fail
      refine HA.mono ?_
      rintro e w3 ⟨rfl, hG3, _⟩
      have HF := (show Hid _ from hG3)
      clear hG3 HA HG
      go_wp2
      go_roundw
      case rel => exact ⟨j + 1, _, by omega, by go_num, HF.out⟩
      case measure => (simp [intOf]) <;> omega
    · have dk : decide ((j : Int) < (M : Int)) = false := decide_eq_false (by omega)
      have HG2 : Hid (GT W wr A t bt (0 + 8 * 12 + 4) d Pd.Ab.init (Pd.T2 S 1) false tm) := by
        have e : Pd.T1 j = Pd.T2 S 1 := by rw [← Pd.T12 HOK.out.1, HM.out]; congr 1; omega
        rw [← e]; exact HG.out
      clear HG
      go_wp2_with fail
      clear hjl dk hj
      go_loopw [15] (fun s15 wr => ∃ (j : Nat) (tm : Pd.Mp), 1 ≤ j ∧ j ≤ S.pgs.length ∧ s15 = .int .i64 (j : Int) ∧ GT W wr A t bt (0 + 8 * 12 + 4) d Pd.Ab.init (Pd.T2 S j) false tm) (fun s15 _ => S.pgs.length - (intOf s15).toNat)
      case atStart => exact ⟨1, tm, by omega, by omega, rfl, HG2.out⟩
      case round =>
        clear HG2
        rename_i wr0 _ _
        obtain ⟨j, tm, hj1, hj, rfl, hG⟩ := hrel
        have HG : Hid (GT W wr A t bt (0 + 8 * 12 + 4) d Pd.Ab.init (Pd.T2 S j) false tm) := hG
        clear hG
        obtain ⟨s0, s1, s2⟩ := (HWW.out.up HG.out.bel).cs
        by_cases hjl : j < S.pgs.length
        · have dk : decide ((j : Int) < (S.pgs.length : Int)) = true := decide_eq_true (by omega)
          have k0 : (0 : Int) ≤ (j : Int) := by omega
          have k1 : (j : Int) < (S.pgs.length : Int) := by omega
          obtain ⟨o, ho⟩ : ∃ o, S.pgs[j]? = some o := ⟨_, List.getElem?_eq_getElem hjl⟩
          obtain ⟨x0, x1, x2, hx⟩ := pgC_three o
          have HWU : Hid (∀ w', Below W.heap.size W w' → Wr1 aW gS j (.slice (some ⟨gS, 0, none⟩) S.pgs.length cS) x0 x1 w') := fun w' hb => (HWW.out.up hb).wr1 hlS ho hx
          have HS : Hid (Wr1 aW gS j (.slice (some ⟨gS, 0, none⟩) S.pgs.length cS) x0 x1 wr.drew) := (HWU.out wr HG.out.bel).drew
          have HWA : Hid (wrA (Pd.T2 S j) (j : Int) ((max 1 x0 : Nat) : Int) x1 = Pd.T2 S (j + 1)) := wh2 HOK.out.1 hj1 ho hx
          clear hx ho s1 s2
          have HMX : Hid (max (1 : Int) (x0 : Int) = ((max 1 x0 : Nat) : Int)) := by show _ = _; omega
          go_wp2_with fail
          clear s0
          refine wp_region_held_drew (S := Wr1 aW gS j (.slice (some ⟨gS, 0, none⟩) S.pgs.length cS) x0 x1) (by kernel_rfl) HS.out (fun _ => ?_)
          refine heldTake 0 (some 61) (.pointer (some ⟨t, 0, none⟩)) rfl rfl (by kernel_rfl) (by kernel_rfl) (by kernel_rfl) (fun _ _ _ h => h) (Or.inl ⟨by rfl, fun w hS => ?_⟩) HS.out ?_
          · (go_simp)
          simp only [Act.put, List.setIfInBounds_toArray, List.set_cons_zero, List.set_cons_succ]
          refine heldTake 1 (some 62) (.int .i64 (j : Int)) rfl rfl (by kernel_rfl) (by kernel_rfl) (by kernel_rfl) (fun _ _ _ h => h) (Or.inl ⟨by rfl, fun w hS => ?_⟩) HS.out ?_
          · (go_simp)
          simp only [Act.put, List.setIfInBounds_toArray, List.set_cons_zero, List.set_cons_succ]
          refine heldTake 2 (some 63) (.pointer (some ⟨aW, 0, none⟩)) rfl rfl (by kernel_rfl) (by kernel_rfl) (by kernel_rfl) (fun _ _ _ h => h) (Or.inl ⟨by rfl, fun w hS => ?_⟩) HS.out ?_
          · (go_simp)
          simp only [Act.put, List.setIfInBounds_toArray, List.set_cons_zero, List.set_cons_succ]
          refine heldTake 3 (some 64) (.slice (some ⟨gS, 0, none⟩) S.pgs.length cS) rfl rfl (by kernel_rfl) (by kernel_rfl) (by kernel_rfl) (fun _ _ _ h => h) (Or.inl ⟨by rfl, fun w hS => ?_⟩) HS.out ?_
          · (have p0 := hS.c; clear hS; go_simp)
          simp only [Act.put, List.setIfInBounds_toArray, List.set_cons_zero, List.set_cons_succ]
          refine heldTake 4 (some 65) (.int .i64 (j : Int)) rfl rfl (by kernel_rfl) (by kernel_rfl) (by kernel_rfl) (fun _ _ _ h => h) (Or.inl ⟨by rfl, fun w hS => ?_⟩) HS.out ?_
          · (go_simp)
          simp only [Act.put, List.setIfInBounds_toArray, List.set_cons_zero, List.set_cons_succ]
          refine heldTake 5 (some 66) (.pointer (some ⟨gS, j * 3, none⟩)) rfl rfl (by kernel_rfl) (by kernel_rfl) (by kernel_rfl) (fun _ _ _ h => h) (Or.inl ⟨by rfl, fun w hS => ?_⟩) HS.out ?_
          · (go_simp)
          simp only [Act.put, List.setIfInBounds_toArray, List.set_cons_zero, List.set_cons_succ]
          refine heldTake 6 (some 67) (.pointer (some ⟨gS, j * 3, none⟩)) rfl rfl (by kernel_rfl) (by kernel_rfl) (by kernel_rfl) (fun _ _ _ h => h) (Or.inl ⟨by rfl, fun w hS => ?_⟩) HS.out ?_
          · (go_simp)
          simp only [Act.put, List.setIfInBounds_toArray, List.set_cons_zero, List.set_cons_succ]
          refine heldTake 7 (some 68) (.int .i64 (x0 : Int)) rfl rfl (by kernel_rfl) (by kernel_rfl) (by kernel_rfl) (fun _ _ _ h => h) (Or.inl ⟨by rfl, fun w hS => ?_⟩) HS.out ?_
          · (have p0 := hS.p0; clear hS; go_simp)
          simp only [Act.put, List.setIfInBounds_toArray, List.set_cons_zero, List.set_cons_succ]
          refine heldTake 8 (some 69) (.int .i64 ((max 1 x0 : Nat) : Int)) rfl rfl (by kernel_rfl) (by kernel_rfl) (by kernel_rfl) (fun _ _ _ h => h) (Or.inl ⟨by rfl, fun w hS => ?_⟩) HS.out ?_
          · (have hmx := HMX.out; clear hS; go_simp)
          simp only [Act.put, List.setIfInBounds_toArray, List.set_cons_zero, List.set_cons_succ]
          refine heldTake 9 (some 70) (.pointer (some ⟨aW, 0, none⟩)) rfl rfl (by kernel_rfl) (by kernel_rfl) (by kernel_rfl) (fun _ _ _ h => h) (Or.inl ⟨by rfl, fun w hS => ?_⟩) HS.out ?_
          · (go_simp)
          simp only [Act.put, List.setIfInBounds_toArray, List.set_cons_zero, List.set_cons_succ]
          refine heldTake 10 (some 71) (.slice (some ⟨gS, 0, none⟩) S.pgs.length cS) rfl rfl (by kernel_rfl) (by kernel_rfl) (by kernel_rfl) (fun _ _ _ h => h) (Or.inl ⟨by rfl, fun w hS => ?_⟩) HS.out ?_
          · (have p0 := hS.c; clear hS; go_simp)
          simp only [Act.put, List.setIfInBounds_toArray, List.set_cons_zero, List.set_cons_succ]
          refine heldTake 11 (some 72) (.int .i64 (j : Int)) rfl rfl (by kernel_rfl) (by kernel_rfl) (by kernel_rfl) (fun _ _ _ h => h) (Or.inl ⟨by rfl, fun w hS => ?_⟩) HS.out ?_
          · (go_simp)
          simp only [Act.put, List.setIfInBounds_toArray, List.set_cons_zero, List.set_cons_succ]
          refine heldTake 12 (some 73) (.pointer (some ⟨gS, j * 3, none⟩)) rfl rfl (by kernel_rfl) (by kernel_rfl) (by kernel_rfl) (fun _ _ _ h => h) (Or.inl ⟨by rfl, fun w hS => ?_⟩) HS.out ?_
          · (go_simp)
          simp only [Act.put, List.setIfInBounds_toArray, List.set_cons_zero, List.set_cons_succ]
          refine heldTake 13 (some 74) (.pointer (some ⟨gS, j * 3 + 1, none⟩)) rfl rfl (by kernel_rfl) (by kernel_rfl) (by kernel_rfl) (fun _ _ _ h => h) (Or.inl ⟨by rfl, fun w hS => ?_⟩) HS.out ?_
          · (go_simp)
          simp only [Act.put, List.setIfInBounds_toArray, List.set_cons_zero, List.set_cons_succ]
          refine heldTake 14 (some 75) (.string x1) rfl rfl (by kernel_rfl) (by kernel_rfl) (by kernel_rfl) (fun _ _ _ h => h) (Or.inl ⟨by rfl, fun w hS => ?_⟩) HS.out ?_
          · (have p0 := hS.p1; clear hS; go_simp)
          simp only [Act.put, List.setIfInBounds_toArray, List.set_cons_zero, List.set_cons_succ]
          refine heldOne 15 (by kernel_rfl) rfl (by rfl) (fun KK hK => ?_)
          go_simp
          go_at_call 30
          have HWT := gwrite (w := wr.drew) (j : Int) ((max 1 x0 : Nat) : Int) x1 (HG.out.below ⟨rfl, rfl, rfl, Nat.le_refl _, fun _ _ => rfl⟩)
          rw [HWA.out] at HWT
          refine HWT.mono ?_
          rintro e w3 ⟨rfl, hG3, _⟩
          have HF := (show Hid _ from hG3)
          have HS3 : Hid (Wr1 aW gS j (.slice (some ⟨gS, 0, none⟩) S.pgs.length cS) x0 x1 w3) := HWU.out w3 hG3.bel
          clear hG3 HWT
          refine hK.out _ _ HS3.out ?_
          clear hK KK
          refine wpAnyH_done (by kernel_rfl) ?_ _
          go_wp2
          go_roundw
          case rel => exact ⟨j + 1, _, by omega, by omega, by go_num, HF.out⟩
          case measure => (simp [intOf]) <;> omega
        · have dk : decide ((j : Int) < (S.pgs.length : Int)) = false := decide_eq_false (by omega)
          have HG3 : Hid (GT W wr A t bt (0 + 8 * 12 + 4) d Pd.Ab.init (Pd.T3 S 0) false tm) := by
            have e : Pd.T2 S j = Pd.T3 S 0 := by rw [← Pd.T23 S]; congr 1; omega
            rw [← e]; exact HG.out
          clear HG
          go_wp2_with fail
          clear hjl dk hj hj1 s0 s1 s2
          go_loopw [17, 80] (fun _ s80 wr => ∃ (j : Nat) (tm : Pd.Mp), j ≤ S.freed.length ∧ s80 = .int .i64 (j : Int) ∧ GT W wr A t bt (0 + 8 * 12 + 4) d Pd.Ab.init (Pd.T3 S j) false tm) (fun _ s80 _ => S.freed.length - (intOf s80).toNat)
          case atStart => exact ⟨0, tm, by omega, rfl, HG3.out⟩
          case round =>
            clear HG3
            obtain ⟨j, tm, hj, rfl, hG⟩ := hrel
            have HG : Hid (GT W wr A t bt (0 + 8 * 12 + 4) d Pd.Ab.init (Pd.T3 S j) false tm) := hG
            clear hG
            by_cases hjl : j < S.freed.length
            · have dk : decide ((j : Int) < (S.freed.length : Int)) = true := decide_eq_true (by omega)
              have k0 : (0 : Int) ≤ (j : Int) := by omega
              have k1 : (j : Int) < (S.freed.length : Int) := by omega
              obtain ⟨x, hx⟩ : ∃ x, S.freed[j]? = some x := ⟨_, List.getElem?_eq_getElem hjl⟩
              obtain ⟨g1, c1, e1, _, _, _, hc1⟩ := int_cells (HWW.out.up HG.out.bel).ss.fr rfl (by omega)
              have p0 := hc1 j x hx
              have HFR := gfree (x : Int) HG.out
              rw [wh3 HOK.out.1 hx] at HFR
              clear hc1 hx
              injection e1 with e1 _ e3
              subst e1 e3
              go_wp2_with fail
              refine HFR.mono ?_
              rintro e w3 ⟨rfl, hG3, _⟩
              have HF := (show Hid _ from hG3)
              clear hG3 HFR HG p0
              go_wp2
              go_roundw
              case rel => exact ⟨j + 1, _, by omega, by go_num, HF.out⟩
              case measure => (simp [intOf]) <;> omega
            · have dk : decide ((j : Int) < (S.freed.length : Int)) = false := decide_eq_false (by omega)
              have HG4 : Hid (GT W wr A t bt (0 + 8 * 12 + 4) d Pd.Ab.init (Pd.T4 S 0) false tm) := by
                have e : Pd.T3 S j = Pd.T4 S 0 := by rw [← Pd.T34 HOK.out.1]; congr 1; omega
                rw [← e]; exact HG.out
              clear HG
              go_wp2_with fail
              clear hjl dk hj
              go_loopw [18, 88] (fun _ s88 wr => ∃ (j : Nat) (tm : Pd.Mp), j ≤ 4 ∧ s88 = .int .i64 (j : Int) ∧ GT W wr A t bt (0 + 8 * 12 + 4) d Pd.Ab.init (Pd.T4 S j) false tm) (fun _ s88 _ => 4 - (intOf s88).toNat)
              case atStart => exact ⟨0, tm, by omega, rfl, HG4.out⟩
              case round =>
                clear HG4
                obtain ⟨j, tm, hj, rfl, hG⟩ := hrel
                have HG : Hid (GT W wr A t bt (0 + 8 * 12 + 4) d Pd.Ab.init (Pd.T4 S j) false tm) := hG
                clear hG
                by_cases hjl : j < 4
                · have dk : decide ((j : Int) < 4) = true := decide_eq_true (by omega)
                  have k0 : (0 : Int) ≤ (j : Int) := by omega
                  have k1 : (j : Int) < 4 := by omega
                  obtain ⟨s0, s1, s2⟩ := (HWW.out.up HG.out.bel).cs
                  obtain ⟨x, hx⟩ : ∃ x, [S.r0, S.r1, S.r2, S.r3][j]? = some x := ⟨_, List.getElem?_eq_getElem hjl⟩
                  obtain ⟨g1, c1, e1, _, _, _, hc1⟩ := int_cells (HWW.out.up HG.out.bel).ss.rt rfl (by omega)
                  have p0 := hc1 j x hx
                  have HSR := gsetroot (j : Int) (x : Int) HG.out
                  rw [wh4 HOK.out.1 hjl x hx] at HSR
                  clear hc1 hx
                  cases e1
                  go_wp2_with fail
                  refine HSR.mono ?_
                  rintro e w3 ⟨rfl, hG3, _⟩
                  have HF := (show Hid _ from hG3)
                  clear hG3 HSR HG p0 s0 s1 s2
                  go_wp2
                  go_roundw
                  case rel => exact ⟨j + 1, _, by omega, by go_num, HF.out⟩
                  case measure => (simp [intOf]) <;> omega
                · have dk : decide ((j : Int) < 4) = false := decide_eq_false (by omega)
                  have HG5 : Hid (GT W wr A t bt (0 + 8 * 12 + 4) d Pd.Ab.init S false tm) := by
                    have e : Pd.T4 S j = S := by rw [show j = 4 by omega]; rfl
                    rw [← e]; exact HG.out
                  clear HG hjl hj
                  obtain ⟨l0, l1, l2, l3, l4⟩ := (HWW.out.up HG5.out.bel).cl
                  have HCH := change_any k i n s kp hsz HG5.out
                  rw [HCN.out, ← HOK.out.2.2] at HCH
                  unfold actV at HCH
                  go_wp2_with fail
                  refine HCH.mono ?_
                  rintro e w3 ⟨rfl, ⟨tm3, hG3⟩, _⟩
                  have HG3 : Hid (GT W w3 A t bt (0 + 8 * 12 + 4) d Pd.Ab.init R false tm3) := hG3
                  clear hG3 HCH HG5 l0 l1 l2 l3 l4 dk
                  have HSJ := (show Hid _ from sj_start HG3.out HTW.out.pos HOK.out.2.1.one)
                  have HRT : Hid (∀ i : Int, Calls Tryz.prog 16 #[.pointer (some ⟨t, 0, none⟩), .int .i64 i] (w3.alloc (.cells #[.int .i64 0, .string ⟨#[]⟩, .bool false] 83)) fun e w' => e = .returned (.int .i64 (rootV R.stt i : Int)) ∧ w' = (w3.alloc (.cells #[.int .i64 0, .string ⟨#[]⟩, .bool false] 83))) := fun i => groot i (HG3.out.below ((Below.refl _ _).alloc (Nat.le_refl _) _))
                  go_wp2_with (go_at_call 16; refine (HRT.out _).mono ?_; rintro e wS ⟨rfl, hwS⟩; rw [hwS]; clear hwS wS)
                  clear HRT HG3
                  generalize World.alloc (World.alloc (World.alloc w3 _) _) _ = w4 at *
                  generalize (.slice (some ⟨w3.heap.size, 0, none⟩) 1 1 : Value) = vP0 at *
                  generalize w3.heap.size + 1 + 1 = q at *
                  generalize w3.heap.size + 1 = rb at *
                  go_loopw [20, 21, 22, 23] (fun s20 _ _ _ wr => ∃ (j : Nat) (vP vF : Value), 1 ≤ j ∧ j ≤ R.pgs.length ∧ s20 = .int .i64 (j : Int) ∧ SJ W wr A t bt (0 + 8 * 12 + 4) d Pd.Ab.init R tm3 q rb vP vF j (frs R j)) (fun s20 _ _ _ _ => 12 - (intOf s20).toNat)
                  case atStart => exact ⟨1, vP0, .slice none 0 0, by omega, by omega, rfl, by rw [frs_one HOK.out.2.1]; exact HSJ.out⟩
                  case round =>
                    clear HSJ
                    obtain ⟨j, vP, vF, hj1, hj, rfl, hJ⟩ := hrel
                    have HJ : Hid (SJ W wr A t bt (0 + 8 * 12 + 4) d Pd.Ab.init R tm3 q rb vP vF j (frs R j)) := hJ
                    clear hJ
                    by_cases hj12 : j < 12
                    · have dk : decide ((j : Int) < 12) = true := decide_eq_true (by omega)
                      have HRD := gread (j : Int) HJ.out.g
                      rw [Int.toNat_natCast] at HRD
                      by_cases hjl : j < R.pgs.length
                      · obtain ⟨o, ho⟩ : ∃ o, R.pgs[j]? = some o := ⟨_, List.getElem?_eq_getElem hjl⟩
                        obtain ⟨kd, b, E, hth, hor⟩ := read_pg (d := { d with cnt := 12 }) HOK.out.2.1 hj1 ho
                        rw [hth] at HRD
                        clear hth
                        have HO : Hid (R.pgs[j]? = some o) := ho
                        clear ho
                        go_wp2_with fail
                        refine HRD.mono ?_
                        rintro e w5 ⟨rfl, hB5⟩
                        have HJ5 : Hid (SJ W w5 A t bt (0 + 8 * 12 + 4) d Pd.Ab.init R tm3 q rb vP vF j (frs R j)) := HJ.out.below hB5
                        clear hB5 HRD HJ
                        rcases hor with ⟨rfl, hpc⟩ | ⟨rfl, hpc⟩
                        · have c0 : w5.cell? ⟨q, 0, none⟩ = some vP := (cell_of_row w5 q 0 _ _ (0, 0) HJ5.out.box).trans rfl
                          have HNN : Hid (¬ o = none) := by
                            intro e
                            rw [e] at hpc
                            simp [pgC] at hpc
                          obtain ⟨v', w6, hr, hO6, hg6, hv6⟩ := app_pg (w5.alloc (.cells (pgC o).toArray 83)) W.heap.size vP (R.pgs.take j) o w5.heap.size (own_alloc HJ5.out.pg _) (by rw [List.length_take]; omega) (by have := HJ5.out.g.bel.size; simp; omega) (heap_alloc_new _ _)
                          obtain ⟨ad6, cp6, hve⟩ := own_slice hO6
                          rw [hve] at hO6 hv6 hr
                          have HPG : Hid (SJ W (w6.setCell ⟨q, 0, none⟩ (.slice ad6 (R.pgs.take j ++ [o]).length cp6)) A t bt (0 + 8 * 12 + 4) d Pd.Ab.init R tm3 q rb (.slice ad6 (R.pgs.take j ++ [o]).length cp6) vF (j + 1) (frs R j)) := HJ5.out.page HO.out hO6 hg6 hv6
                          have hq6 : w6.heap[q]? = some (.cells (st3 vP vF rb) 39 (0, 0)) := by
                            rw [hg6.block q (by have := HJ5.out.lt q (by simp); simp; omega) (fun e => HJ5.out.aP q e.symm (by simp)), Below.heap_alloc _ _ _ (HJ5.out.lt q (by simp))]
                            exact HJ5.out.box
                          have c6 : w6.cell? ⟨q, 0, none⟩ = some vP := (cell_of_row w6 q 0 _ _ (0, 0) hq6).trans rfl
                          have z6 : w6.frozen? ⟨q, 0, none⟩ = false := frozen_of_row w6 q 0 _ _ hq6
                          rw [hpc] at hr
                          have HR6 := (show Hid _ from hr)
                          clear hO6 hg6 hv6 hq6 HJ5 hpc hr hve
                          have HFN : Hid (SJ W (w6.setCell ⟨q, 0, none⟩ (.slice ad6 (R.pgs.take j ++ [o]).length cp6)) A t bt (0 + 8 * 12 + 4) d Pd.Ab.init R tm3 q rb (.slice ad6 (R.pgs.take j ++ [o]).length cp6) vF (j + 1) (frs R (j + 1))) := by
                            rw [frs_next HO.out, if_neg HNN.out]
                            exact HPG.out
                          clear HPG HNN
                          generalize (R.pgs.take j ++ [o]).length = ln6 at *
                          go_wp2_with (at_builtin; refine wpList_run_append rfl _ _ 36 rfl _ _ _ w6 rfl rfl HR6.out ?_)
                          go_roundw
                          case rel => exact ⟨j + 1, _, vF, by omega, by omega, by go_num, HFN.out⟩
                          case measure => (simp [intOf]) <;> omega
                        · have c0 : w5.cell? ⟨q, 0, none⟩ = some vP := (cell_of_row w5 q 0 _ _ (0, 0) HJ5.out.box).trans rfl
                          have HNN : Hid (o = none) := by
                            cases o with
                            | none => rfl
                            | some x => simp [pgC] at hpc
                          obtain ⟨v', w6, hr, hO6, hg6, hv6⟩ := app_pg (w5.alloc (.cells (pgC o).toArray 83)) W.heap.size vP (R.pgs.take j) o w5.heap.size (own_alloc HJ5.out.pg _) (by rw [List.length_take]; omega) (by have := HJ5.out.g.bel.size; simp; omega) (heap_alloc_new _ _)
                          obtain ⟨ad6, cp6, hve⟩ := own_slice hO6
                          rw [hve] at hO6 hv6 hr
                          have HPG : Hid (SJ W (w6.setCell ⟨q, 0, none⟩ (.slice ad6 (R.pgs.take j ++ [o]).length cp6)) A t bt (0 + 8 * 12 + 4) d Pd.Ab.init R tm3 q rb (.slice ad6 (R.pgs.take j ++ [o]).length cp6) vF (j + 1) (frs R j)) := HJ5.out.page HO.out hO6 hg6 hv6
                          have hq6 : w6.heap[q]? = some (.cells (st3 vP vF rb) 39 (0, 0)) := by
                            rw [hg6.block q (by have := HJ5.out.lt q (by simp); simp; omega) (fun e => HJ5.out.aP q e.symm (by simp)), Below.heap_alloc _ _ _ (HJ5.out.lt q (by simp))]
                            exact HJ5.out.box
                          have c6 : w6.cell? ⟨q, 0, none⟩ = some vP := (cell_of_row w6 q 0 _ _ (0, 0) hq6).trans rfl
                          have z6 : w6.frozen? ⟨q, 0, none⟩ = false := frozen_of_row w6 q 0 _ _ hq6
                          rw [hpc] at hr
                          have HR6 := (show Hid _ from hr)
                          clear hO6 hg6 hv6 hq6 HJ5 hpc hr hve
                          generalize hln : (R.pgs.take j ++ [o]).length = ln6 at *
                          clear hln
                          have c1 : (w6.setCell ⟨q, 0, none⟩ (.slice ad6 ln6 cp6)).cell? ⟨q, 1, none⟩ = some vF := (cell_of_row _ q 1 _ _ (0, 0) HPG.out.box).trans rfl
                          have hs6 : (w6.setCell ⟨q, 0, none⟩ (.slice ad6 ln6 cp6)).heap.size = w6.heap.size := by simp
                          have hy7 := heap_alloc_new (w6.setCell ⟨q, 0, none⟩ (.slice ad6 ln6 cp6)) (.cells #[.int .i64 (j : Int)] 3)
                          rw [hs6] at hy7
                          obtain ⟨v'', w7, hr7, hO7, hg7, hv7⟩ := app_iend ((w6.setCell ⟨q, 0, none⟩ (.slice ad6 ln6 cp6)).alloc (.cells #[.int .i64 (j : Int)] 3)) W.heap.size vF (frs R j) j w6.heap.size (own_alloc HPG.out.fr _) (by have := frs_le R j; omega) (by have := HPG.out.g.bel.size; simp; simp at this; omega) hy7
                          obtain ⟨ad7, cp7, hve7⟩ := own_slice hO7
                          rw [hve7] at hO7 hv7 hr7
                          have HFN : Hid (SJ W (w7.setCell ⟨q, 1, none⟩ (.slice ad7 (frs R j ++ [j]).length cp7)) A t bt (0 + 8 * 12 + 4) d Pd.Ab.init R tm3 q rb (.slice ad6 ln6 cp6) (.slice ad7 (frs R j ++ [j]).length cp7) (j + 1) (frs R (j + 1))) := by
                            rw [frs_next HO.out, if_pos HNN.out]
                            exact HPG.out.behind hO7 hg7 hv7
                          have HBX : Hid (w7.heap[q]? = some (.cells (st3 (.slice ad6 ln6 cp6) vF rb) 39 (0, 0))) := by
                            have hql := HPG.out.lt q (by simp)
                            show _ = _
                            rw [hg7.block q (by simp; simp at hql; omega) (fun e => HPG.out.aF q e.symm (by simp)), Below.heap_alloc _ _ _ hql]
                            exact HPG.out.box
                          have c7 : w7.cell? ⟨q, 1, none⟩ = some vF := (cell_of_row w7 q 1 _ _ (0, 0) HBX.out).trans rfl
                          have z7 : w7.frozen? ⟨q, 1, none⟩ = false := frozen_of_row w7 q 1 _ _ HBX.out
                          have HR7 := (show Hid _ from hr7)
                          clear hO7 hg7 hv7 hr7 hve7 HPG HNN HBX hs6 hy7
                          generalize (frs R j ++ [j]).length = ln7 at *
                          go_wp2_with (first | (at_builtin; refine wpList_run_append rfl _ _ 36 rfl _ _ _ w6 rfl rfl HR6.out ?_) | (at_builtin; refine wpList_run_append rfl _ _ 37 rfl _ _ _ w7 rfl rfl HR7.out ?_))
                          go_roundw
                          case rel => exact ⟨j + 1, _, _, by omega, by omega, by go_num, HFN.out⟩
                          case measure => (simp [intOf]) <;> omega
                      · have hth : thereR R.pgs.length (j : Int) (R.sh j) = (sh00, 2) := by
                          unfold thereR
                          rw [if_pos (by omega)]
                        rw [hth] at HRD
                        have hjj : j = R.pgs.length := by omega
                        subst hjj
                        go_wp2_with fail
                        refine HRD.mono ?_
                        rintro e w5 ⟨rfl, hB5⟩
                        have HJ5 : Hid (SJ W w5 A t bt (0 + 8 * 12 + 4) d Pd.Ab.init R tm3 q rb vP vF R.pgs.length (frs R R.pgs.length)) := HJ.out.below hB5
                        clear hB5 HRD HJ hth
                        obtain ⟨aV, cV, hvF⟩ := own_slice HJ5.out.fr
                        rw [frs_length HOK.out.2.1] at hvF
                        obtain ⟨aP5, cP5, hvP⟩ := own_slice HJ5.out.pg
                        rw [List.take_length] at hvP
                        subst hvF hvP
                        have c0 : w5.cell? ⟨q, 0, none⟩ = some (.slice aP5 R.pgs.length cP5) := (cell_of_row w5 q 0 _ _ (0, 0) HJ5.out.box).trans rfl
                        have c1 : w5.cell? ⟨q, 1, none⟩ = some (.slice aV R.freed.length cV) := (cell_of_row w5 q 1 _ _ (0, 0) HJ5.out.box).trans rfl
                        have c2 : w5.cell? ⟨q, 2, none⟩ = some (.slice (some ⟨rb, 0, none⟩) 4 4) := (cell_of_row w5 q 2 _ _ (0, 0) HJ5.out.box).trans rfl
                        have z1 : w5.frozen? ⟨q, 1, none⟩ = false := frozen_of_row w5 q 1 _ _ HJ5.out.box
                        obtain ⟨n0, n1, n2⟩ := (HWW.out.up HJ5.out.g.bel).cn
                        have HFI := (show Hid _ from sj_fin HJ5.out HWW.out)
                        have hqn : ¬ q = aN := HFI.out.2.2.2.1
                        have hqn2 : ¬ aN = q := fun e => hqn e.symm
                        have HSM := rsame_any 0 0 _ _ _ _ _ _ R R _ HFI.out.1 HFI.out.2.1 hlR (by omega) (by omega) hlR
                        have HBW : Hid (Below w.heap.size w (w5.setCell ⟨q, 1, none⟩ (.slice aG R.freed.length cG))) := HB0.out.trans (HFI.out.2.2.1.mono HB0.out.size)
                        clear HJ5 HFI
                        go_wp2_with fail
                        refine HSM.mono ?_
                        rintro e w8 ⟨⟨qq, rfl, hqq⟩, hB8⟩
                        have hqq := hqq trivial
                        subst hqq
                        have HFN : Hid (Below w.heap.size w w8) := HBW.out.trans (hB8.mono HBW.out.size)
                        clear hB8 HSM HBW
                        go_wp2
                        go_ret
                        exact ⟨rfl, HFN.out⟩
                    · have dk : decide ((j : Int) < 12) = false := decide_eq_false (by omega)
                      have hjj : j = R.pgs.length := by omega
                      subst hjj
                      have HJ5 : Hid (SJ W wr A t bt (0 + 8 * 12 + 4) d Pd.Ab.init R tm3 q rb vP vF R.pgs.length (frs R R.pgs.length)) := HJ.out
                      clear HJ
                      generalize wr = w5 at *
                      obtain ⟨aV, cV, hvF⟩ := own_slice HJ5.out.fr
                      rw [frs_length HOK.out.2.1] at hvF
                      obtain ⟨aP5, cP5, hvP⟩ := own_slice HJ5.out.pg
                      rw [List.take_length] at hvP
                      subst hvF hvP
                      have c0 : w5.cell? ⟨q, 0, none⟩ = some (.slice aP5 R.pgs.length cP5) := (cell_of_row w5 q 0 _ _ (0, 0) HJ5.out.box).trans rfl
                      have c1 : w5.cell? ⟨q, 1, none⟩ = some (.slice aV R.freed.length cV) := (cell_of_row w5 q 1 _ _ (0, 0) HJ5.out.box).trans rfl
                      have c2 : w5.cell? ⟨q, 2, none⟩ = some (.slice (some ⟨rb, 0, none⟩) 4 4) := (cell_of_row w5 q 2 _ _ (0, 0) HJ5.out.box).trans rfl
                      have z1 : w5.frozen? ⟨q, 1, none⟩ = false := frozen_of_row w5 q 1 _ _ HJ5.out.box
                      obtain ⟨n0, n1, n2⟩ := (HWW.out.up HJ5.out.g.bel).cn
                      have HFI := (show Hid _ from sj_fin HJ5.out HWW.out)
                      have hqn : ¬ q = aN := HFI.out.2.2.2.1
                      have hqn2 : ¬ aN = q := fun e => hqn e.symm
                      have HSM := rsame_any 0 0 _ _ _ _ _ _ R R _ HFI.out.1 HFI.out.2.1 hlR (by omega) (by omega) hlR
                      have HBW : Hid (Below w.heap.size w (w5.setCell ⟨q, 1, none⟩ (.slice aG R.freed.length cG))) := HB0.out.trans (HFI.out.2.2.1.mono HB0.out.size)
                      clear HJ5 HFI
                      go_wp2_with fail
                      refine HSM.mono ?_
                      rintro e w8 ⟨⟨qq, rfl, hqq⟩, hB8⟩
                      have hqq := hqq trivial
                      subst hqq
                      have HFN : Hid (Below w.heap.size w w8) := HBW.out.trans (hB8.mono HBW.out.size)
                      clear hB8 HSM HBW
                      go_wp2
                      go_ret
                      exact ⟨rfl, HFN.out⟩
end Go.Proofs.YtcfninpokngmlaaGreatDoor
