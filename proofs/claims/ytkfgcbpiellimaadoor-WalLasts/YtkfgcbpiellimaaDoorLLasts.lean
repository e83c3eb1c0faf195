/- Proved: the law of a loss of power within a sync or a reset. -/
import Derived.Test.YtkfgcbpiellimaaDoorLSteps
import Derived.Test.YtkfgcbpiellimaaDoorMathO
import Derived.Deep.CutBlock
import Derived.Deep.CutRange
namespace Go.Proofs.YtkfgcbpiellimaaDoor
open Go.RowKit
theorem mod20 (n : Int) : ∃ K : Nat, K < 20 ∧ (n.tmod 20 + 20).tmod 20 = (K : Int) ∧ (n.tmod 20 + 20) % 20 = (K : Int) ∧ -20 < n.tmod 20 ∧ n.tmod 20 < 20 := by
  have h1 := Int.tmod_lt_of_pos n (show (0 : Int) < 20 by omega)
  have h2 : -20 < n.tmod 20 := by
    have := Int.lt_tmod_of_pos n (show (0 : Int) < 20 by omega)
    omega
  have h3 : (n.tmod 20 + 20).tmod 20 = (n.tmod 20 + 20) % 20 := Int.tmod_eq_emod_of_nonneg (by omega)
  refine ⟨((n.tmod 20 + 20) % 20).toNat, ?_, ?_, ?_, h2, h1⟩
  · omega
  · rw [h3]; omega
  · omega
set_option maxHeartbeats 400000 in
theorem lsync_lost (q g : Nat) (vr vw : Value) (l : Wl.Lg) (w : World) (H : Pk w q g vr vw l) (hl : l.lost = true) : Calls Tryd.prog 10 #[ptr q] w fun e w' => e = .returned (.int .i64 10) ∧ w' = w := by
  have HM := lready_any q g vr vw l w H
  unfold lreadyE at HM
  rw [if_pos hl] at HM
  clear H hl
  go_enter Tryd.func10, Tryd.ntmps10
  go_wp2_with (go_at_call 29; refine HM.mono ?_; rintro e w' ⟨rfl, rfl⟩)
  go_ret
  exact ⟨rfl, rfl⟩
set_option maxHeartbeats 400000 in
theorem lreset_lost (q g : Nat) (vr vw : Value) (l : Wl.Lg) (w : World) (H : Pk w q g vr vw l) (hl : l.lost = true) : Calls Tryd.prog 11 #[ptr q] w fun e w' => e = .returned (.int .i64 10) ∧ w' = w := by
  have HM := lready_any q g vr vw l w H
  unfold lreadyE at HM
  rw [if_pos hl] at HM
  clear H hl
  go_enter Tryd.func11, Tryd.ntmps11
  go_wp2_with (go_at_call 29; refine HM.mono ?_; rintro e w' ⟨rfl, rfl⟩)
  go_ret
  exact ⟨rfl, rfl⟩
set_option maxHeartbeats 400000 in
theorem ladd_lost (q g : Nat) (vr vw : Value) (l : Wl.Lg) (u : Value) (w : World) (H : Pk w q g vr vw l) (hl : l.lost = true) : Calls Tryd.prog 9 #[ptr q, u] w fun e w' => e = .returned (.int .i64 10) ∧ w' = w := by
  have HM := lready_any q g vr vw l w H
  unfold lreadyE at HM
  rw [if_pos hl] at HM
  clear H hl
  go_enter Tryd.func9, Tryd.ntmps9
  go_wp2_with (go_at_call 29; refine HM.mono ?_; rintro e w' ⟨rfl, rfl⟩)
  go_ret
  exact ⟨rfl, rfl⟩
/- one bool behind a list of the call's own -/
theorem info_bool : Tryd.prog.info? 4 = some Tryd.t4 := by kernel_rfl
theorem app_bool {ops : Array Oper} {rest : List Oper} {o : Oper} {a : Go.Act} {Q : Exit → Go.Act → World → Prop} (hgd : o.guard = none) (sl x : Operand)
    (ho : o.op = .call { callee := .builtin .append, args := #[sl, x], argTypes := #[38, 38] }) (W : World) (N : Nat) (v : Value) (n : Nat) (bs : List Bool) (hs : a.eval sl = v) (hown : W.ownsRow N 4 1 v n (bs.map Value.bool)) (ad : Addr) (c : Nat) (t : Bool)
    (hx : a.eval x = .slice (some ad) 1 c) (hnews : ∀ j u, [Value.bool t][j]? = some u → W.cell? (ad.add j) = some u) (hb : n + 1 ≤ 1000000) (hN : N ≤ W.heap.size)
    (h : ∀ v' w', w'.ownsRow N 4 1 v' (n + 1) ((bs ++ [t]).map Value.bool) → Below N W w' → wpList Tryd.prog ops Q rest (a.put o.dst v') w') : wpList Tryd.prog ops Q (o :: rest) a W := by
  refine wpList_plain hgd fun K hK => ?_
  obtain ⟨v', w', hr, h2, h3, h4, h5⟩ := run_append_own_at (P := Tryd.prog) W N 38 o.type 4 Tryd.t4 (.bool false) 1 1 Tryd.underlying38 info_bool rfl rfl rfl rfl (by omega) v n (bs.map Value.bool) hown ad 1 c [.bool t] rfl hnews (fun u hu => by rw [List.mem_singleton.1 hu]; rfl) (by unfold maxLen; omega) (by omega) hN
  unfold Oper.wp execOp
  simp only [ho, resolve, invoke, builtin, Sem.run_bind, Sem.run_pure, Result.andThen_ok, List.map_toArray, List.map_cons, List.map_nil, hs, hx, hr]
  exact hK _ _ (h v' w' (by rw [List.map_append]; exact h2) ((Below.refl _ _).grown h3 hN (fun k hk => (hown.lt k hk).1)))
theorem bools_own {w : World} {N n : Nat} {v : Value} {bs : List Bool} {fs : List Nat} (h : w.ownsRow N 4 1 v n (bs.map Value.bool)) (hf : ∀ k ∈ fs, k < N) : ∃ a c, v = .slice a n c ∧ n ≤ c ∧ c ≤ 9223372036854775807 ∧ Bools fs w a n (fun i => bs.getD i false) := by
  have hl : bs.length = n := by have := h.1; simpa using this
  rcases h.2 with ⟨h1, h2⟩ | ⟨g, cap, cur, hv, hN, hh, hc, hm, hs, ht⟩
  · exact ⟨none, 0, by rw [h2]; exact h1, by omega, by omega, .inl h2⟩
  · unfold maxLen at hm
    refine ⟨_, cap, hv, hc, by omega, .inr ⟨g, 0, rfl, fun hmem => by have := hf g hmem; omega, fun i hi => ?_⟩⟩
    rw [cell_of_row w g _ cur _ (0, 0) hh, ← Array.getElem?_toList, Nat.zero_add]
    have e : (cur.toList.take (n * 1))[i]? = (bs.map Value.bool)[i]? := by rw [ht]
    rw [List.getElem?_take_of_lt (by omega)] at e
    rw [e, List.getElem?_map, List.getElem?_eq_getElem (by omega)]
    show some (Value.bool bs[i]) = some (Value.bool (bs.getD i false))
    rw [List.getD_eq_getElem?_getD, List.getElem?_eq_getElem (by omega)]
    rfl
structure LR (w0 : World) (N q g kg : Nat) (vr vw : Value) (l : Wl.Lg) (vp : Value) (s : Sc.St) (uw : Value) (was : List ByteArray) (ui : Value) (now : List ByteArray) (wr : World) : Prop where
  good : Good wr q g vr vw l kg vp s 20
  held : Held wr N uw was ui now (lfoot q g vr vw kg vp)
  bel : Below w0.heap.size w0 wr
  ft : ∀ k ∈ lfoot q g vr vw kg vp, w0.heap.size ≤ k
  pend : s.pend = []
  dn : s.dn ≤ 1000
  base : l.base = 2 ∧ l.n = 16
  ep : l.epoch ≤ 25
  sz : N ≤ wr.heap.size
/- behind the call: what the rest of the law needs -/
structure LE (w0 : World) (N q g kg : Nat) (vr vw : Value) (l : Wl.Lg) (vp : Value) (s : Sc.St) (e : Int) (uw : Value) (was : List ByteArray) (ui : Value) (now : List ByteArray) (wr : World) : Prop where
  lp : LP wr q g vr vw l kg vp s
  res : Wl.Res was now s e
  lost : e ≠ 0 → l.lost = true
  held : Held wr N uw was ui now (lfoot q g vr vw kg vp)
  bel : Below w0.heap.size w0 wr
  ft : ∀ k ∈ lfoot q g vr vw kg vp, w0.heap.size ≤ k
  safe : Safe wr (lfoot q g vr vw kg vp)
/- behind the loss of power: the disk alone -/
structure LF (w0 : World) (N g kg : Nat) (vp : Value) (s : Sc.St) (uw : Value) (was : List ByteArray) (ui : Value) (now : List ByteArray) (wr : World) : Prop where
  dk : Dk wr g kg vp s
  held : Held wr N uw was ui now (foot g kg vp)
  bel : Below w0.heap.size w0 wr
  ft : ∀ k ∈ foot g kg vp, w0.heap.size ≤ k
  safe : Safe wr (foot g kg vp)
section
variable {w0 w w' : World} {N q g kg : Nat} {vr vw vr' vw' vp vp' uw ui ui' : Value} {l l' : Wl.Lg} {s s' : Sc.St} {was now now' : List ByteArray} {e : Int}
theorem LR.below (A : LR w0 N q g kg vr vw l vp s uw was ui now w) (hB : Below w.heap.size w w') : LR w0 N q g kg vr vw l vp s uw was ui now w' := ⟨A.good.below hB, A.held.below hB, A.bel.trans (hB.mono A.bel.size), A.ft, A.pend, A.dn, A.base, A.ep, Nat.le_trans A.sz hB.size⟩
theorem LR.log (A : LR w0 N q g kg vr vw l vp s uw was ui now w) (hG : Good w' q g vr' vw' l' kg vp s 20) (hT : Turn (lfoot q g vr vw kg vp) (lfoot q g vr' vw' kg vp) w w') (hb : l'.base = l.base ∧ l'.n = l.n) (he : l'.epoch = l.epoch) : LR w0 N q g kg vr' vw' l' vp s uw was ui now w' := ⟨hG, A.held.turn hT, A.bel.trans (hT.below A.ft A.bel.size), hT.above A.ft A.bel.size, A.pend, A.dn, ⟨hb.1.trans A.base.1, hb.2.trans A.base.2⟩, by rw [he]; exact A.ep, Nat.le_trans A.sz hT.chg.size⟩
theorem LR.app (A : LR w0 N q g kg vr vw l vp s uw was ui now w) (hN : w0.heap.size ≤ N) (hG : w.grownBy w' ui.ownBlock) (hO : OwnS w' N ui' now') (hv : ui'.ownBlock = ui.ownBlock ∨ ui'.ownBlock = some w.heap.size) (h0 : 0 < N) : LR w0 N q g kg vr vw l vp s uw was ui' now' w' := ⟨A.good.grown hG A.held.bf (fun k hk => by have := (A.held.b.lt k hk).1; omega), A.held.app_b (fun k hk => A.good.lp.lt k hk) hG hO hv, A.bel.trans ((Below.refl _ _).grown hG A.bel.size (fun k hk => by have := (A.held.b.lt k hk).1; omega)), A.ft, A.pend, A.dn, A.base, A.ep, Nat.le_trans A.sz hG.size⟩
theorem LE.disk (A : LE w0 N q g kg vr vw l vp s e uw was ui now w) : LF w0 N g kg vp s uw was ui now w := ⟨A.lp.dk, ⟨A.held.a, A.held.b, A.held.ab, fun k hk hm => A.held.af k hk (List.mem_append.2 (.inr hm)), fun k hk hm => A.held.bf k hk (List.mem_append.2 (.inr hm))⟩, A.bel, fun k hk => A.ft k (List.mem_append.2 (.inr hk)), A.safe.of (fun _ hk => List.mem_append.2 (.inr hk))⟩
theorem LF.below (A : LF w0 N g kg vp s uw was ui now w) (hB : Below w.heap.size w w') : LF w0 N g kg vp s uw was ui now w' := ⟨A.dk.below hB, A.held.below hB, A.bel.trans (hB.mono A.bel.size), A.ft, A.safe.below hB⟩
theorem LF.turn (A : LF w0 N g kg vp s uw was ui now w) (hD : Dk w' g kg vp' s') (hT : Turn (foot g kg vp) (foot g kg vp') w w') : LF w0 N g kg vp' s' uw was ui now w' := ⟨hD, A.held.turn hT, A.bel.trans (hT.below A.ft A.bel.size), hT.above A.ft A.bel.size, A.safe.turn hT⟩
end
set_option maxHeartbeats 32000000 in
set_option maxRecDepth 40000 in
theorem lasts_walk (a1 : Option Addr) (len1 cap1 : Nat) (a2 : Option Addr) (len2 cap2 : Nat) (rl : Nat → ByteArray) (x0 x1 x2 : Int) (w : World) (hA1 : Acts w a1 len1) (hlc1 : len1 ≤ cap1) (hcm1 : cap1 ≤ 9223372036854775807) (hS2 : Strs w a2 len2 rl) (_hlc2 : len2 ≤ cap2) (_hcm2 : cap2 ≤ 9223372036854775807) (_hx0 : In64 x0) (_hx1 : In64 x1) (_hx2 : In64 x2) (hT : Tab w) :
    Calls Tryd.prog 5 #[.slice a1 len1 cap1, .slice a2 len2 cap2, .agg #[.int .i64 x0, .int .i64 x1, .int .i64 x2]] w fun e w' => e = .returned (.bool true) ∧ Below w.heap.size w w' := by
  have HA1 : Hid (Acts w a1 len1) := hA1
  have HS2 : Hid (Strs w a2 len2 rl) := hS2
  have hpos := hT.pos
  have HB0 : Hid (Below w.heap.size w (w.alloc (.cells #[.int .i64 x0, .int .i64 x1, .int .i64 x2] 46))) := (Below.refl _ _).alloc (Nat.le_refl _) _
  have HR3 : Hid ((w.alloc (.cells #[.int .i64 x0, .int .i64 x1, .int .i64 x2] 46)).heap[w.heap.size]? = some (.cells #[.int .i64 x0, .int .i64 x1, .int .i64 x2] 46 (0, 0))) := heap_alloc_new w _
  have HTB : Hid (Tab w) := hT
  clear hA1 hS2 hT
  go_enter Tryd.func5, Tryd.ntmps5
  go_wp2_with fail
  generalize World.alloc w _ = w0 at *
  have hw0 := HB0.out.size
  have hB3 : w.heap.size < w0.heap.size := (Array.getElem?_eq_some_iff.1 HR3.out).1
  have H3 : Hid (∀ W, Below w0.heap.size w0 W → W.cell? ⟨w.heap.size, 0, none⟩ = some (.int .i64 x0) ∧ W.cell? ⟨w.heap.size, 1, none⟩ = some (.int .i64 x1) ∧ W.cell? ⟨w.heap.size, 2, none⟩ = some (.int .i64 x2)) := fun W hB => by
    have h : W.heap[w.heap.size]? = some (.cells #[.int .i64 x0, .int .i64 x1, .int .i64 x2] 46 (0, 0)) := (hB.block _ hB3).trans HR3.out
    exact ⟨by rw [cell_of_row _ _ _ _ _ (0, 0) h]; rfl, by rw [cell_of_row _ _ _ _ _ (0, 0) h]; rfl, by rw [cell_of_row _ _ _ _ _ (0, 0) h]; rfl⟩
  have HBG := begin_any w0 (HTB.out.below HB0.out hpos)
  refine HBG.mono ?_
  rintro e w1 ⟨g, kg, q, vr, rfl, hG1, hB1, hF1⟩
  have HB1 : Hid (Below w0.heap.size w0 w1) := hB1
  have HF1 : Hid (∀ k ∈ lfoot q g vr nil0 kg nil0, w0.heap.size ≤ k) := hF1
  have hs1 := hB1.size
  have HST := steps_any w q g kg vr nil0 lgB (Sc.made 20) a1 len1 cap1 25 w1 hG1 HA1.out hlc1 hcm1 (HB0.out.trans (hB1.mono hw0)) (fun k hk => by have := hF1 k hk; omega) rfl rfl rfl rfl rfl rfl (by decide) (by omega)
  clear hG1 hB1 hF1 HBG HR3
  go_wp2_with fail
  refine HST.mono ?_
  rintro e w2 ⟨vr2, vw2, vp, l, s, uw, v9, rfl, hR⟩
  have HR : Hid (SR w1 q g kg (lfoot q g vr nil0 kg nil0) (Sc.made 20).dn 25 vr2 vw2 l vp s uw v9 w2) := hR
  have HB2 : Hid (Below w0.heap.size w0 w2) := HB1.out.trans (hR.turn.below HF1.out hs1)
  have HF2 : Hid (∀ k ∈ lfoot q g vr2 vw2 kg vp, w0.heap.size ≤ k) := hR.turn.above HF1.out hs1
  have hs2 := HB2.out.size
  clear hR HST
  go_wp2_with fail
  refine (ldrop_any q g vr2 vw2 l w2 HR.out.good.lp.pk).mono ?_
  rintro e w3 ⟨rfl, hP3, hT3⟩
  obtain ⟨hL3, hTT3⟩ := HR.out.good.lp.p hP3 hT3 rfl rfl
  have HG3 : Hid (Good w3 q g vr2 nil0 (dropL l) kg vp s 20) := ⟨hL3, HR.out.good.up, HR.out.good.on, HR.out.good.lost, HR.out.good.safe.turn hTT3⟩
  have HH3 : Hid (Held w3 w1.heap.size uw l.recs nil0 [] (lfoot q g vr2 nil0 kg vp)) := (HR.out.held.turn hTT3).nil_b
  have HB3 : Hid (Below w0.heap.size w0 w3) := HB2.out.trans (hTT3.below HF2.out hs2)
  have HF3 : Hid (∀ k ∈ lfoot q g vr2 nil0 kg vp, w0.heap.size ≤ k) := hTT3.above HF2.out hs2
  have hs3 := HB3.out.size
  have hw13 : w1.heap.size ≤ w3.heap.size := Nat.le_trans HR.out.turn.chg.size hTT3.chg.size
  have hrl := HR.out.good.lp.pk.rlen
  have HSR : Hid (s.pend = [] ∧ s.dn ≤ 1000 ∧ (l.base = 2 ∧ l.n = 16) ∧ l.epoch ≤ 25) := ⟨HR.out.pend, by have h1 := HR.out.dn; have h2 : (Sc.made 20).dn = 0 := rfl; omega, ⟨HR.out.base, HR.out.n⟩, HR.out.ep⟩
  clear hP3 hT3 hL3 hTT3 HR HB2 HF2
  have qq1 : ([] : List ByteArray).length + l.recs.length ≤ 10000000 := by simp; omega
  have qq2 : ∀ o, w1.heap.size ≤ (w3.alloc o).heap.size := fun o => by simp; omega
  cases hz : (x0.tmod 2 != 0)
  · go_upto_block 0 with (first | (refine app_many rfl (.tmp 43) (.tmp 44) rfl _ w1.heap.size _ _ [] l.recs rfl (own_empty hw13 (heap_alloc_new w3 _)) rfl (own_zero (own_alloc HH3.out.a _)) qq1 (qq2 _) ?_; intro ui w4 hO4 hG4 hv4; have HLR : Hid (LR w0 w1.heap.size q g kg vr2 nil0 (dropL l) vp s uw l.recs ui l.recs w4) := (by
      have hBA : Below w3.heap.size w3 (w3.alloc (.cells #[] 9)) := (Below.refl _ _).alloc (Nat.le_refl _) _
      have hO4' : OwnS w4 w1.heap.size ui l.recs := hO4
      have hH0 : Held (w3.alloc (.cells #[] 9)) w1.heap.size uw l.recs (.slice (some ⟨w3.heap.size, 0, none⟩) 0 0) [] (lfoot q g vr2 nil0 kg vp) := ⟨(HH3.out.below hBA).a, own_empty hw13 (heap_alloc_new w3 _), fun k hk e => by have h1 := (HH3.out.a.lt k hk).2; have h2 : w3.heap.size = k := Option.some.inj e; omega, (HH3.out.below hBA).af, fun k hk hm => by have h1 := HG3.out.lp.lt k hm; have h2 : w3.heap.size = k := Option.some.inj hk; omega⟩
      have hG5 := (HG3.out.below hBA).grown hG4 hH0.bf (fun k hk => by have h2 : w3.heap.size = k := Option.some.inj hk; omega)
      exact ⟨hG5, hH0.app_b (fun k hk => (HG3.out.below hBA).lp.lt k hk) hG4 hO4' hv4, (HB3.out.trans (hBA.mono hs3)).trans (below_grown hG4 (own_empty (N := w0.heap.size) hs3 (heap_alloc_new w3 _)) (by simp; omega)), HF3.out, HSR.out.1, HSR.out.2.1, HSR.out.2.2.1, HSR.out.2.2.2, Nat.le_trans (qq2 (.cells #[] 9)) hG4.size⟩); have HZ := H3.out w4 HLR.out.bel; have z0 := HZ.1; clear hO4 hG4 hv4 HZ))
    clear HG3 HH3 HB3 HF3 HSR qq1 qq2
    have HLN := (show Hid (LR w0 w1.heap.size q g kg vr2 nil0 (dropL l) vp s uw (dropL l).recs ui ((dropL l).recs ++ (dropL l).wait) w4) from (by show LR _ _ _ _ _ _ _ _ _ _ _ _ _ (l.recs ++ []) _; rw [List.append_nil]; exact HLR.out))
    clear HLR
    go_cut [11, 13, 14] from 51 (fun s11 _ _ wx => ∃ (vr vw : Value) (l' : Wl.Lg), LR w0 w1.heap.size q g kg vr vw l' vp s uw l'.recs s11 (l'.recs ++ l'.wait) wx )
    case first =>
      go_wp2_with fail
      go_loopw [11, 13, 14] (fun s11 s13 _ wr => ∃ (k : Nat) (vr vw : Value) (l' : Wl.Lg), k ≤ 5 ∧ s13 = .int .i64 (k : Int) ∧ LR w0 w1.heap.size q g kg vr vw l' vp s uw l'.recs s11 (l'.recs ++ l'.wait) wr) (fun _ s13 _ _ => 5 - (intOf s13).toNat)
      case atStart => exact ⟨0, vr2, nil0, dropL l, by omega, rfl, HLN.out⟩
      case round =>
        obtain ⟨k, vr3, vw3, l3, hk, rfl, hR⟩ := hrel
        have HR := (show Hid (LR w0 w1.heap.size q g kg vr3 vw3 l3 vp s uw l3.recs _ (l3.recs ++ l3.wait) wr) from hR)
        clear hR HLN z0
        by_cases hin : k < len2 ∧ k < 5
        · obtain ⟨hl1, hl2⟩ := hin
          have d1 : decide ((k : Int) < (len2 : Int)) = true := decide_eq_true (by omega)
          have d2 : decide ((k : Int) < 5) = true := decide_eq_true (by omega)
          have k0 : (0 : Int) ≤ (k : Int) := by omega
          have k1 : (k : Int) < (len2 : Int) := by omega
          have HBr : Hid (Below w.heap.size w wr) := HB0.out.trans (HR.out.bel.mono hw0)
          obtain ⟨b, off, rfl, sx, c2⟩ : ∃ b off, a2 = some ⟨b, off, none⟩ ∧ ∃ sx, wr.cell? ⟨b, off + k, none⟩ = some (.string sx) := by
            rcases HS2.out with h | ⟨b, off, h1, hc⟩
            · omega
            · have hcc := (hc k hl1).1
              exact ⟨b, off, h1, rl k, (HBr.out.cell (p := ⟨b, off + k, none⟩) (block_lt_of_cell hcc)).trans hcc⟩
          obtain ⟨n, hn1, hn2, hmin⟩ : ∃ n : Nat, n ≤ sx.size ∧ n ≤ 150 ∧ min (sx.size : Int) 150 = (n : Int) := ⟨min sx.size 150, by omega, by omega, by omega⟩
          have hcs : (sx.extract 0 n).size = n := cut_size sx n hn1
          have n0 : (0 : Int) ≤ (n : Int) := by omega
          have n1 : (n : Int) ≤ (sx.size : Int) := by omega
          go_wp2_with fail
          go_quiet (fail)
          have HRq := (show Hid (LR w0 w1.heap.size q g kg vr3 vw3 l3 vp s uw l3.recs _ (l3.recs ++ l3.wait) (wr.drewN nq)) from HR.out.below (below_drewN wr nq))
          generalize wr.drewN nq = U at *
          generalize sx.extract 0 n = sy at *
          clear HR HBr c2 hmin
          have hlost := HRq.out.good.lost
          have HAD := gadd sy HRq.out.good (by omega)
          obtain ⟨hb1, hb2, hb3, hb4, hb5, hb6⟩ := Wl.addS_base l3 sy
          by_cases hfull : Wl.room l3 - 8 < (n : Int)
          · have e1 : Wl.addE l3 sy = 7 := by unfold Wl.addE; rw [hlost, if_neg (by decide), if_neg (by omega), if_pos (by omega)]
            have e2 : Wl.addS l3 sy = l3 := by unfold Wl.addS; rw [e1, if_neg (by decide)]
            rw [e1, e2] at HAD
            clear e1 e2 hb1 hb2 hb3 hb4 hb5 hb6
            go_wp2_with fail
            refine HAD.mono ?_
            rintro e wB ⟨vrB, vwB, rfl, hGB, hTB⟩
            have HFN := (show Hid (∃ (k' : Nat) (vr vw : Value) (l' : Wl.Lg), k' ≤ 5 ∧ Value.int .i64 ((k : Int) + 1) = .int .i64 (k' : Int) ∧ LR w0 w1.heap.size q g kg vr vw l' vp s uw l'.recs _ (l'.recs ++ l'.wait) wB) from ⟨k + 1, vrB, vwB, l3, by omega, by go_num, HRq.out.log hGB hTB ⟨rfl, rfl⟩ rfl⟩)
            clear hGB hTB HAD HRq
            go_wp2
            go_roundw
            case rel => first | exact HFN.out | ((repeat apply Exists.intro); exact ⟨HFN.out, rfl⟩)
            case measure => (simp [intOf]) <;> omega
          · have e1 : Wl.addE l3 sy = 0 := by unfold Wl.addE; rw [hlost, if_neg (by decide), if_neg (by omega), if_neg (by omega)]
            have e2 : Wl.addS l3 sy = { l3 with wait := l3.wait ++ [sy] } := by unfold Wl.addS; rw [e1, if_pos rfl]
            rw [e1, e2] at HAD
            have hrl3 := HRq.out.good.lp.pk.rlen
            have hwl3 := HRq.out.good.lp.pk.wlen
            clear e1 e2 hb1 hb2 hb3 hb4 hb5 hb6
            go_wp2_with fail
            refine HAD.mono ?_
            rintro e wB ⟨vrB, vwB, rfl, hGB, hTB⟩
            have HRB := (show Hid (LR w0 w1.heap.size q g kg vrB vwB { l3 with wait := l3.wait ++ [sy] } vp s uw l3.recs _ (l3.recs ++ l3.wait) wB) from HRq.out.log hGB hTB ⟨rfl, rfl⟩ rfl)
            clear hGB hTB HAD HRq
            have hwB : w0.heap.size ≤ wB.heap.size := HRB.out.bel.size
            have qq1 : (l3.recs ++ l3.wait).length + [sy].length ≤ 10000000 := by simp; omega
            have hNB : w1.heap.size ≤ wB.heap.size := HRB.out.sz
            have qq2 : ∀ o, w1.heap.size ≤ (wB.alloc o).heap.size := fun o => by simp; omega
            have HRA := (show Hid (LR w0 w1.heap.size q g kg vrB vwB { l3 with wait := l3.wait ++ [sy] } vp s uw l3.recs _ (l3.recs ++ l3.wait) (wB.alloc (.cells #[.string sy] 9))) from HRB.out.below ((Below.refl _ _).alloc (Nat.le_refl _) _))
            go_wp2_with (first | (refine app_many rfl (.tmp 80) (.tmp 82) rfl _ w1.heap.size _ _ (l3.recs ++ l3.wait) [sy] rfl HRA.out.held.b rfl (own_new wB sy) qq1 (qq2 _) ?_; intro v3 wD hO3 hG3 hv3; have HFN := (show Hid (∃ (k' : Nat) (vr vw : Value) (l' : Wl.Lg), k' ≤ 5 ∧ Value.int .i64 ((k : Int) + 1) = .int .i64 (k' : Int) ∧ LR w0 w1.heap.size q g kg vr vw l' vp s uw l'.recs v3 (l'.recs ++ l'.wait) wD) from ⟨k + 1, vrB, vwB, { l3 with wait := l3.wait ++ [sy] }, by omega, by go_num, HRA.out.app hs1 hG3 (by rw [List.append_assoc] at hO3; exact hO3) hv3 (by omega)⟩); clear hO3 hG3 hv3))
            go_roundw
            case rel => first | exact HFN.out | ((repeat apply Exists.intro); exact ⟨HFN.out, rfl⟩)
            case measure => (simp [intOf]) <;> omega
        · have HFN := (show Hid (∃ (vr vw : Value) (l' : Wl.Lg), LR w0 w1.heap.size q g kg vr vw l' vp s uw l'.recs _ (l'.recs ++ l'.wait) wr) from ⟨vr3, vw3, l3, HR.out⟩)
          clear HR
          by_cases hl1 : k < len2
          · have d1 : decide ((k : Int) < (len2 : Int)) = true := decide_eq_true (by omega)
            have d2 : decide ((k : Int) < 5) = false := decide_eq_false (by omega)
            have hk3 : ¬ k < 5 := by omega
            clear hin
            go_wp2
            go_meet
            case rel => exact HFN.out
          · have d1 : decide ((k : Int) < (len2 : Int)) = false := decide_eq_false (by omega)
            have d2 : ¬ k < len2 := hl1
            clear hin
            go_wp2
            go_meet
            case rel => exact HFN.out
    case rest =>
      obtain ⟨vrc, vwc, lc, hLR⟩ := hcut
      have HLR := (show Hid (LR w0 w1.heap.size q g kg vrc vwc lc vp s uw lc.recs _ (lc.recs ++ lc.wait) wc) from hLR)
      have z1 := (H3.out wc hLR.bel).2.1
      clear hLR HLN z0
      obtain ⟨K, hK20, hm1, hm2, hb1, hb2⟩ := mod20 x1
      have hwr : IntKind.i64.wrap (x1.tmod 20 + 20) = x1.tmod 20 + 20 := by rw [IntKind.wrap_i64]; omega
      have HAR := arm_any g kg vp s (K : Int) wc HLR.out.good.lp.dk (by omega)
      have hdw := HLR.out.good.up.down
      have HAS : Hid (Sc.armS s (K : Int) = Sc.armed s (K : Int)) := by show _ = _; unfold Sc.armS; rw [hdw]; rfl
      rw [HAS.out] at HAR
      have HAM : Hid (Wl.Arm (Sc.armed s (K : Int))) := ⟨hdw, HLR.out.pend, HLR.out.good.up.len⟩
      have HKL : Hid ((Sc.armed s (K : Int)).kept.length = s.kept.length ∧ (Sc.armed s (K : Int)).dn ≤ 1000 ∧ Wl.On (Sc.armed s (K : Int)).kept lc.base lc.n lc.epoch lc.bytes) := ⟨rfl, HLR.out.dn, by
        have := HLR.out.good.on
        rw [Wl.flat_nil HLR.out.pend] at this
        exact this⟩
      clear hdw HAS
      generalize Sc.armed s (K : Int) = s5 at *
      go_wp2_with fail
      refine HAR.mono ?_
      rintro e w5 ⟨vp5, rfl, hD5, hT5⟩
      obtain ⟨hL5, hTT5⟩ := HLR.out.good.lp.d hD5 hT5 HKL.out.1
      have HL5 : Hid (LP w5 q g vrc vwc lc kg vp5 s5) := hL5
      have HH5 := (show Hid (Held w5 w1.heap.size uw lc.recs _ (lc.recs ++ lc.wait) (lfoot q g vrc vwc kg vp5)) from HLR.out.held.turn hTT5)
      have HB5 : Hid (Below w0.heap.size w0 w5) := HLR.out.bel.trans (hTT5.below HLR.out.ft HLR.out.bel.size)
      have HF5 : Hid (∀ k ∈ lfoot q g vrc vwc kg vp5, w0.heap.size ≤ k) := hTT5.above HLR.out.ft HLR.out.bel.size
      have HS5 : Hid (Safe w5 (lfoot q g vrc vwc kg vp5)) := HLR.out.good.safe.turn hTT5
      have hlo := HLR.out.good.lost
      have hbb := HLR.out.base
      have hee := HLR.out.ep
      clear hD5 hT5 hL5 hTT5 HAR z1 hm1 hm2 hb1 hb2 hwr
      have HCL := lsync_any q g vrc vwc lc kg vp5 s5 w5 HL5.out HS5.out (fun _ _ => ⟨HAM.out.down, fun j hj => by
        have hon := HKL.out.2.2
        rw [← Wl.flat_nil HAM.out.pend] at hon
        exact hon.tail (i := lc.bytes.size / 64) (by omega) (by omega)⟩) (by have := HKL.out.2.1; have := hbb.2; omega) (by rw [HAM.out.pend]; have := hbb.2; show 0 + lc.n ≤ _; omega)
      obtain ⟨hres, hlst⟩ := Wl.sync_res HAM.out HL5.out.pk.ok hlo hbb HKL.out.2.2
      go_wp2_with fail
      refine HCL.mono ?_
      rintro e w6 ⟨vr6, vw6, vp6, rfl, hL6, hT6⟩
      have HE := (show Hid (LE w0 w1.heap.size q g kg vr6 vw6 (Wl.sycL lc s5) vp6 (Wl.sycS lc s5) (Wl.sycE lc s5) uw lc.recs _ (lc.recs ++ lc.wait) w6) from ⟨hL6, hres, hlst, HH5.out.turn hT6, HB5.out.trans (hT6.below HF5.out HB5.out.size), hT6.above HF5.out HB5.out.size, HS5.out.turn hT6⟩)
      clear hL6 hT6 HCL hres hlst HL5 HH5 HB5 HF5 HS5 HKL HAM hlo hbb hee HLR
      generalize Wl.sycL lc s5 = l6 at *
      generalize Wl.sycS lc s5 = s6 at *
      generalize Wl.sycE lc s5 = e6 at *
      clear s5
      have HRS : Hid (Wl.Res lc.recs (lc.recs ++ lc.wait) s6 e6) := HE.out.res
      rcases HE.out.res.told with ⟨he, hdn⟩ | ⟨he, hdn⟩
      · subst he
        have HDN := down_any g kg vp6 s6 w6 HE.out.lp.dk
        rw [hdn] at HDN
        go_wp2_with fail
        refine HDN.mono ?_
        rintro e w' ⟨rfl, hw⟩
        rw [hw]
        clear hw w' HDN
        have HOF := off_any g kg vp6 s6 w6 HE.out.lp.dk
        go_wp2_with fail
        refine HOF.mono ?_
        rintro e w7 ⟨vp7, rfl, hD7, hT7⟩
        have HF := (show Hid (LF w0 w1.heap.size g kg vp7 (Sc.offS s6) uw lc.recs _ (lc.recs ++ lc.wait) w7) from HE.out.disk.turn hD7 hT7)
        clear hD7 hT7 HOF HE hdn
        go_wp2_with fail
        go_loopw [16, 17, 122] (fun s16 _ s122 wr => ∃ (k : Nat) (bs : List Bool), k ≤ 20 ∧ s122 = .int .i64 (k : Int) ∧ wr.ownsRow w7.heap.size 4 1 s16 k (bs.map Value.bool) ∧ Below w7.heap.size w7 wr) (fun _ _ s122 _ => 20 - (intOf s122).toNat)
        case atStart => exact ⟨0, [], by omega, rfl, World.ownsRow_nil _ _ _ _, Below.refl _ _⟩
        case round =>
          obtain ⟨k, bs, hk, rfl, hO, hB⟩ := hrel
          have HO := (show Hid (wr.ownsRow w7.heap.size 4 1 _ k (bs.map Value.bool)) from hO)
          have HBk : Hid (Below w7.heap.size w7 wr) := hB
          have hsk := hB.size
          have z2 := (H3.out wr (HF.out.bel.trans (hB.mono HF.out.bel.size))).2.2
          clear hO hB
          by_cases hk20 : k < 20
          · have dk : decide ((k : Int) < 20) = true := decide_eq_true (by omega)
            have k0 : (0 : Int) ≤ (k : Int) := by omega
            have k1 : (k : Int) < 20 := by omega
            have hk1m : k + 1 ≤ 1000000 := by omega
            have hskA : ∀ o, w7.heap.size ≤ (wr.alloc o).heap.size := fun o => by simp; omega
            go_wp2_with (first | (refine app_bool rfl (.tmp 125) (.tmp 132) rfl _ w7.heap.size _ k bs rfl (own_alloc HO.out _) ⟨wr.heap.size, 0, none⟩ 1 (bits BinOp.and IntKind.i64 (x2 / 2 ^ k) 1 == 1) rfl (fun j u hj => by rw [Addr.add_mid]; exact range_all (cs := [.bool (bits BinOp.and IntKind.i64 (x2 / 2 ^ k) 1 == 1)]) (heap_alloc_new wr _) j u hj) hk1m (hskA _) ?_; intro v3 wD hO3 hB3))
            have HFN := (show Hid (∃ (k' : Nat) (bs' : List Bool), k' ≤ 20 ∧ Value.int .i64 ((k : Int) + 1) = .int .i64 (k' : Int) ∧ wD.ownsRow w7.heap.size 4 1 v3 k' (bs'.map Value.bool) ∧ Below w7.heap.size w7 wD) from ⟨k + 1, _, by omega, by go_num, hO3, HBk.out.trans (((Below.refl _ _).alloc hsk _).trans hB3)⟩)
            clear hO3 hB3
            go_roundw
            case rel => first | exact HFN.out | ((repeat apply Exists.intro); exact ⟨HFN.out, rfl⟩)
            case measure => (simp [intOf]) <;> omega
          · have dk : decide ((k : Int) < 20) = false := decide_eq_false (by omega)
            have hk3 : ¬ (k : Int) < 20 := by omega
            obtain ⟨ka, kc, hkv, hkc1, hkc2, hBl⟩ := bools_own (fs := foot g kg vp7) HO.out (fun j hj => HF.out.dk.lt j hj)
            have HF7 := (show Hid (LF w0 w1.heap.size g kg vp7 (Sc.offS s6) uw lc.recs _ (lc.recs ++ lc.wait) wr) from HF.out.below HBk.out)
            have HOO := on_any g kg vp7 (Sc.offS s6) ka k kc (fun i => bs.getD i false) wr HF7.out.dk hBl hkc1 hkc2
            obtain ⟨e1, hUp, rs, ep, hft, hon, hor⟩ := Wl.res_back HRS.out (marks k (fun i => bs.getD i false))
            rw [e1] at HOO
            have HUP : Hid (Wl.Up 20 (Sc.onS (Sc.offS s6) (marks k (fun i => bs.getD i false)))) := hUp
            have HFT : Hid (Wl.Fit rs) := hft
            have HON : Hid (Wl.On (Wl.flat (Sc.onS (Sc.offS s6) (marks k (fun i => bs.getD i false)))) 2 16 ep (Wl.frames rs)) := hon
            have HOR := (show Hid _ from hor)
            generalize Sc.onS (Sc.offS s6) (marks k (fun i => bs.getD i false)) = s8 at *
            clear hBl hUp hft hon hor e1 HF HBk HO z2 hsk HRS
            subst hkv
            go_wp2_with fail
            refine HOO.mono ?_
            rintro e w8 ⟨vp8, rfl, hD8, hT8⟩
            have HF8 := (show Hid (LF w0 w1.heap.size g kg vp8 s8 uw lc.recs _ (lc.recs ++ lc.wait) w8) from HF7.out.turn hD8 hT8)
            clear hD8 hT8 HOO HF7
            go_wp2_with fail
            refine (gopen g kg vp8 s8 2 16 ep 20 rs w8 HF8.out.dk HUP.out HF8.out.safe HFT.out HON.out).mono ?_
            rintro e w9 ⟨q9, vr9, rfl, hG9, hB9, _⟩
            have HG9 : Hid (Good w9 q9 g vr9 nil0 (opened 2 16 ep rs) kg vp8 s8 20) := hG9
            have HF9 := (show Hid (LF w0 w1.heap.size g kg vp8 s8 uw lc.recs _ (lc.recs ++ lc.wait) w9) from HF8.out.below hB9)
            clear hG9 hB9 HF8
            go_wp2_with fail
            refine (gopen g kg vp8 s8 2 16 ep 20 rs w9 HF9.out.dk HUP.out HF9.out.safe HFT.out HON.out).mono ?_
            rintro e wA ⟨qA, vrA, rfl, hGA, hBA, _⟩
            have HGA : Hid (Good wA qA g vrA nil0 (opened 2 16 ep rs) kg vp8 s8 20) := hGA
            have HGm : Hid (Good wA q9 g vr9 nil0 (opened 2 16 ep rs) kg vp8 s8 20) := HG9.out.below hBA
            have HFA := (show Hid (LF w0 w1.heap.size g kg vp8 s8 uw lc.recs _ (lc.recs ++ lc.wait) wA) from HF9.out.below hBA)
            clear hGA hBA HF9 HG9
            go_wp2_with fail
            refine (lrecords_any q9 g vr9 nil0 _ wA HGm.out.lp.pk).mono ?_
            rintro e wB ⟨uB, rfl, hOB, hBB⟩
            have HOB : Hid (OwnS wB 0 uB rs) := own_zero hOB
            have HGn : Hid (Good wB qA g vrA nil0 (opened 2 16 ep rs) kg vp8 s8 20) := HGA.out.below hBB
            have HGm2 : Hid (Good wB q9 g vr9 nil0 (opened 2 16 ep rs) kg vp8 s8 20) := HGm.out.below hBB
            have HFB := (show Hid (LF w0 w1.heap.size g kg vp8 s8 uw lc.recs _ (lc.recs ++ lc.wait) wB) from HFA.out.below hBB)
            clear hOB hBB HFA HGA HGm
            go_wp2_with fail
            refine (lrecords_any qA g vrA nil0 _ wB HGn.out.lp.pk).mono ?_
            rintro e wC ⟨uC, rfl, hOC, hBC⟩
            have HOC : Hid (OwnS wC 0 uC rs) := own_zero hOC
            have HOB2 : Hid (OwnS wC 0 uB rs) := own_below HOB.out hBC
            have HGm3 : Hid (Good wC q9 g vr9 nil0 (opened 2 16 ep rs) kg vp8 s8 20) := HGm2.out.below hBC
            have HFC := (show Hid (LF w0 w1.heap.size g kg vp8 s8 uw lc.recs _ (lc.recs ++ lc.wait) wC) from HFB.out.below hBC)
            have HSM := same_any uB uC rs rs wC HOB2.out HOC.out
            rw [decide_eq_true rfl] at HSM
            clear hOC hBC HFB HGm2 HGn HOB
            go_wp2_with fail
            refine HSM.mono ?_
            rintro e wD ⟨rfl, hBD, _⟩
            have HGm4 : Hid (Good wD q9 g vr9 nil0 (opened 2 16 ep rs) kg vp8 s8 20) := HGm3.out.below hBD
            have HFD := (show Hid (LF w0 w1.heap.size g kg vp8 s8 uw lc.recs _ (lc.recs ++ lc.wait) wD) from HFC.out.below hBD)
            clear hBD HSM HFC HGm3 HOC HOB2
            go_wp2_with fail
            refine (lrecords_any q9 g vr9 nil0 _ wD HGm4.out.lp.pk).mono ?_
            rintro e wE ⟨uE, rfl, hOE, hBE⟩
            have HGm5 : Hid (Good wE q9 g vr9 nil0 (opened 2 16 ep rs) kg vp8 s8 20) := HGm4.out.below hBE
            have HFE := (show Hid (LF w0 w1.heap.size g kg vp8 s8 uw lc.recs _ (lc.recs ++ lc.wait) wE) from HFD.out.below hBE)
            have HSE := same_any uE _ rs (lc.recs ++ lc.wait) wE (own_zero hOE) (own_zero HFE.out.held.b)
            clear hOE hBE HFD HGm4
            go_wp2_with fail
            refine HSE.mono ?_
            rintro e wF ⟨rfl, hBF, _⟩
            have HGm6 : Hid (Good wF q9 g vr9 nil0 (opened 2 16 ep rs) kg vp8 s8 20) := HGm5.out.below hBF
            have HFF := (show Hid (LF w0 w1.heap.size g kg vp8 s8 uw lc.recs _ (lc.recs ++ lc.wait) wF) from HFE.out.below hBF)
            clear hBF HSE HFE HGm5
            have hri := HOR.out.resolve_right (fun h => absurd rfl h.1)
            · rw [decide_eq_true hri]
              have HWK := works_any wF HFF.out.safe.tab
              have HBF : Hid (Below w.heap.size w wF) := HB0.out.trans (HFF.out.bel.mono hw0)
              have hsF := HBF.out.size
              clear HOR hri
              go_wp2_with fail
              refine HWK.mono ?_
              rintro e wG ⟨rfl, hBG⟩
              have HFN : Hid (Below w.heap.size w wG) := HBF.out.trans (hBG.mono hsF)
              clear hBG HWK
              go_wp2
              go_ret
              exact ⟨rfl, HFN.out⟩
      · subst he
        have hlt := HE.out.lost (by decide)
        have HAD := ladd_lost q g vr6 vw6 l6 (.string ⟨#[]⟩) w6 HE.out.lp.pk hlt
        have HSY := lsync_lost q g vr6 vw6 l6 w6 HE.out.lp.pk hlt
        have HRE := lreset_lost q g vr6 vw6 l6 w6 HE.out.lp.pk hlt
        have HDN := down_any g kg vp6 s6 w6 HE.out.lp.dk
        rw [hdn] at HDN
        have hof : Sc.offS s6 = s6 := by unfold Sc.offS; rw [hdn]; rfl
        have HF := (show Hid (LF w0 w1.heap.size g kg vp6 (Sc.offS s6) uw lc.recs _ (lc.recs ++ lc.wait) w6) from (by rw [hof]; exact HE.out.disk))
        clear HE hdn hlt hof
        go_wp2_with fail
        refine HAD.mono ?_
        rintro e w' ⟨rfl, hw⟩
        rw [hw]
        clear hw w' HAD
        go_wp2_with fail
        refine HSY.mono ?_
        rintro e w' ⟨rfl, hw⟩
        rw [hw]
        clear hw w' HSY
        go_wp2_with fail
        refine HRE.mono ?_
        rintro e w' ⟨rfl, hw⟩
        rw [hw]
        clear hw w' HRE
        go_wp2_with fail
        refine HDN.mono ?_
        rintro e w' ⟨rfl, hw⟩
        rw [hw]
        clear hw w' HDN
        go_wp2_with fail
        go_loopw [16, 17, 122] (fun s16 _ s122 wr => ∃ (k : Nat) (bs : List Bool), k ≤ 20 ∧ s122 = .int .i64 (k : Int) ∧ wr.ownsRow w6.heap.size 4 1 s16 k (bs.map Value.bool) ∧ Below w6.heap.size w6 wr) (fun _ _ s122 _ => 20 - (intOf s122).toNat)
        case atStart => exact ⟨0, [], by omega, rfl, World.ownsRow_nil _ _ _ _, Below.refl _ _⟩
        case round =>
          obtain ⟨k, bs, hk, rfl, hO, hB⟩ := hrel
          have HO := (show Hid (wr.ownsRow w6.heap.size 4 1 _ k (bs.map Value.bool)) from hO)
          have HBk : Hid (Below w6.heap.size w6 wr) := hB
          have hsk := hB.size
          have z2 := (H3.out wr (HF.out.bel.trans (hB.mono HF.out.bel.size))).2.2
          clear hO hB
          by_cases hk20 : k < 20
          · have dk : decide ((k : Int) < 20) = true := decide_eq_true (by omega)
            have k0 : (0 : Int) ≤ (k : Int) := by omega
            have k1 : (k : Int) < 20 := by omega
            have hk1m : k + 1 ≤ 1000000 := by omega
            have hskA : ∀ o, w6.heap.size ≤ (wr.alloc o).heap.size := fun o => by simp; omega
            go_wp2_with (first | (refine app_bool rfl (.tmp 125) (.tmp 132) rfl _ w6.heap.size _ k bs rfl (own_alloc HO.out _) ⟨wr.heap.size, 0, none⟩ 1 (bits BinOp.and IntKind.i64 (x2 / 2 ^ k) 1 == 1) rfl (fun j u hj => by rw [Addr.add_mid]; exact range_all (cs := [.bool (bits BinOp.and IntKind.i64 (x2 / 2 ^ k) 1 == 1)]) (heap_alloc_new wr _) j u hj) hk1m (hskA _) ?_; intro v3 wD hO3 hB3))
            have HFN := (show Hid (∃ (k' : Nat) (bs' : List Bool), k' ≤ 20 ∧ Value.int .i64 ((k : Int) + 1) = .int .i64 (k' : Int) ∧ wD.ownsRow w6.heap.size 4 1 v3 k' (bs'.map Value.bool) ∧ Below w6.heap.size w6 wD) from ⟨k + 1, _, by omega, by go_num, hO3, HBk.out.trans (((Below.refl _ _).alloc hsk _).trans hB3)⟩)
            clear hO3 hB3
            go_roundw
            case rel => first | exact HFN.out | ((repeat apply Exists.intro); exact ⟨HFN.out, rfl⟩)
            case measure => (simp [intOf]) <;> omega
          · have dk : decide ((k : Int) < 20) = false := decide_eq_false (by omega)
            have hk3 : ¬ (k : Int) < 20 := by omega
            obtain ⟨ka, kc, hkv, hkc1, hkc2, hBl⟩ := bools_own (fs := foot g kg vp6) HO.out (fun j hj => HF.out.dk.lt j hj)
            have HF7 := (show Hid (LF w0 w1.heap.size g kg vp6 (Sc.offS s6) uw lc.recs _ (lc.recs ++ lc.wait) wr) from HF.out.below HBk.out)
            have HOO := on_any g kg vp6 (Sc.offS s6) ka k kc (fun i => bs.getD i false) wr HF7.out.dk hBl hkc1 hkc2
            obtain ⟨e1, hUp, rs, ep, hft, hon, hor⟩ := Wl.res_back HRS.out (marks k (fun i => bs.getD i false))
            rw [e1] at HOO
            have HUP : Hid (Wl.Up 20 (Sc.onS (Sc.offS s6) (marks k (fun i => bs.getD i false)))) := hUp
            have HFT : Hid (Wl.Fit rs) := hft
            have HON : Hid (Wl.On (Wl.flat (Sc.onS (Sc.offS s6) (marks k (fun i => bs.getD i false)))) 2 16 ep (Wl.frames rs)) := hon
            have HOR := (show Hid _ from hor)
            generalize Sc.onS (Sc.offS s6) (marks k (fun i => bs.getD i false)) = s8 at *
            clear hBl hUp hft hon hor e1 HF HBk HO z2 hsk HRS
            subst hkv
            go_wp2_with fail
            refine HOO.mono ?_
            rintro e w8 ⟨vp8, rfl, hD8, hT8⟩
            have HF8 := (show Hid (LF w0 w1.heap.size g kg vp8 s8 uw lc.recs _ (lc.recs ++ lc.wait) w8) from HF7.out.turn hD8 hT8)
            clear hD8 hT8 HOO HF7
            go_wp2_with fail
            refine (gopen g kg vp8 s8 2 16 ep 20 rs w8 HF8.out.dk HUP.out HF8.out.safe HFT.out HON.out).mono ?_
            rintro e w9 ⟨q9, vr9, rfl, hG9, hB9, _⟩
            have HG9 : Hid (Good w9 q9 g vr9 nil0 (opened 2 16 ep rs) kg vp8 s8 20) := hG9
            have HF9 := (show Hid (LF w0 w1.heap.size g kg vp8 s8 uw lc.recs _ (lc.recs ++ lc.wait) w9) from HF8.out.below hB9)
            clear hG9 hB9 HF8
            go_wp2_with fail
            refine (gopen g kg vp8 s8 2 16 ep 20 rs w9 HF9.out.dk HUP.out HF9.out.safe HFT.out HON.out).mono ?_
            rintro e wA ⟨qA, vrA, rfl, hGA, hBA, _⟩
            have HGA : Hid (Good wA qA g vrA nil0 (opened 2 16 ep rs) kg vp8 s8 20) := hGA
            have HGm : Hid (Good wA q9 g vr9 nil0 (opened 2 16 ep rs) kg vp8 s8 20) := HG9.out.below hBA
            have HFA := (show Hid (LF w0 w1.heap.size g kg vp8 s8 uw lc.recs _ (lc.recs ++ lc.wait) wA) from HF9.out.below hBA)
            clear hGA hBA HF9 HG9
            go_wp2_with fail
            refine (lrecords_any q9 g vr9 nil0 _ wA HGm.out.lp.pk).mono ?_
            rintro e wB ⟨uB, rfl, hOB, hBB⟩
            have HOB : Hid (OwnS wB 0 uB rs) := own_zero hOB
            have HGn : Hid (Good wB qA g vrA nil0 (opened 2 16 ep rs) kg vp8 s8 20) := HGA.out.below hBB
            have HGm2 : Hid (Good wB q9 g vr9 nil0 (opened 2 16 ep rs) kg vp8 s8 20) := HGm.out.below hBB
            have HFB := (show Hid (LF w0 w1.heap.size g kg vp8 s8 uw lc.recs _ (lc.recs ++ lc.wait) wB) from HFA.out.below hBB)
            clear hOB hBB HFA HGA HGm
            go_wp2_with fail
            refine (lrecords_any qA g vrA nil0 _ wB HGn.out.lp.pk).mono ?_
            rintro e wC ⟨uC, rfl, hOC, hBC⟩
            have HOC : Hid (OwnS wC 0 uC rs) := own_zero hOC
            have HOB2 : Hid (OwnS wC 0 uB rs) := own_below HOB.out hBC
            have HGm3 : Hid (Good wC q9 g vr9 nil0 (opened 2 16 ep rs) kg vp8 s8 20) := HGm2.out.below hBC
            have HFC := (show Hid (LF w0 w1.heap.size g kg vp8 s8 uw lc.recs _ (lc.recs ++ lc.wait) wC) from HFB.out.below hBC)
            have HSM := same_any uB uC rs rs wC HOB2.out HOC.out
            rw [decide_eq_true rfl] at HSM
            clear hOC hBC HFB HGm2 HGn HOB
            go_wp2_with fail
            refine HSM.mono ?_
            rintro e wD ⟨rfl, hBD, _⟩
            have HGm4 : Hid (Good wD q9 g vr9 nil0 (opened 2 16 ep rs) kg vp8 s8 20) := HGm3.out.below hBD
            have HFD := (show Hid (LF w0 w1.heap.size g kg vp8 s8 uw lc.recs _ (lc.recs ++ lc.wait) wD) from HFC.out.below hBD)
            clear hBD HSM HFC HGm3 HOC HOB2
            go_wp2_with fail
            refine (lrecords_any q9 g vr9 nil0 _ wD HGm4.out.lp.pk).mono ?_
            rintro e wE ⟨uE, rfl, hOE, hBE⟩
            have HGm5 : Hid (Good wE q9 g vr9 nil0 (opened 2 16 ep rs) kg vp8 s8 20) := HGm4.out.below hBE
            have HFE := (show Hid (LF w0 w1.heap.size g kg vp8 s8 uw lc.recs _ (lc.recs ++ lc.wait) wE) from HFD.out.below hBE)
            have HSE := same_any uE _ rs (lc.recs ++ lc.wait) wE (own_zero hOE) (own_zero HFE.out.held.b)
            clear hOE hBE HFD HGm4
            go_wp2_with fail
            refine HSE.mono ?_
            rintro e wF ⟨rfl, hBF, _⟩
            have HGm6 : Hid (Good wF q9 g vr9 nil0 (opened 2 16 ep rs) kg vp8 s8 20) := HGm5.out.below hBF
            have HFF := (show Hid (LF w0 w1.heap.size g kg vp8 s8 uw lc.recs _ (lc.recs ++ lc.wait) wF) from HFE.out.below hBF)
            clear hBF HSE HFE HGm5
            rcases HOR.out with hri | ⟨_, hri⟩
            · rw [decide_eq_true hri]
              have HWK := works_any wF HFF.out.safe.tab
              have HBF : Hid (Below w.heap.size w wF) := HB0.out.trans (HFF.out.bel.mono hw0)
              have hsF := HBF.out.size
              clear HOR hri
              go_wp2_with fail
              refine HWK.mono ?_
              rintro e wG ⟨rfl, hBG⟩
              have HFN : Hid (Below w.heap.size w wG) := HBF.out.trans (hBG.mono hsF)
              clear hBG HWK
              go_wp2
              go_ret
              exact ⟨rfl, HFN.out⟩
            · by_cases hrn : rs = (lc.recs ++ lc.wait)
              · rw [decide_eq_true hrn]
                have HWK := works_any wF HFF.out.safe.tab
                have HBF : Hid (Below w.heap.size w wF) := HB0.out.trans (HFF.out.bel.mono hw0)
                have hsF := HBF.out.size
                clear HOR hri hrn
                go_wp2_with fail
                refine HWK.mono ?_
                rintro e wG ⟨rfl, hBG⟩
                have HFN : Hid (Below w.heap.size w wG) := HBF.out.trans (hBG.mono hsF)
                clear hBG HWK
                go_wp2
                go_ret
                exact ⟨rfl, HFN.out⟩
              · rw [decide_eq_false hrn]
                clear HOR hrn
                go_wp2_with fail
                refine (lrecords_any q9 g vr9 nil0 _ wF HGm6.out.lp.pk).mono ?_
                rintro e wG ⟨uG, rfl, hOG, hBG⟩
                have HFG := (show Hid (LF w0 w1.heap.size g kg vp8 s8 uw lc.recs _ (lc.recs ++ lc.wait) wG) from HFF.out.below hBG)
                have HSG := same_any uG uw rs lc.recs wG (own_zero hOG) (own_zero HFG.out.held.a)
                rw [decide_eq_true hri] at HSG
                clear hOG hBG HFF HGm6 hri
                go_wp2_with fail
                refine HSG.mono ?_
                rintro e wH ⟨rfl, hBH, _⟩
                have HFH := (show Hid (LF w0 w1.heap.size g kg vp8 s8 uw lc.recs _ (lc.recs ++ lc.wait) wH) from HFG.out.below hBH)
                have HWK := works_any wH HFH.out.safe.tab
                have HBF : Hid (Below w.heap.size w wH) := HB0.out.trans (HFH.out.bel.mono hw0)
                have hsF := HBF.out.size
                clear hBH HSG HFG
                go_wp2_with fail
                refine HWK.mono ?_
                rintro e wI ⟨rfl, hBI⟩
                have HFN : Hid (Below w.heap.size w wI) := HBF.out.trans (hBI.mono hsF)
                clear hBI HWK
                go_wp2
                go_ret
                exact ⟨rfl, HFN.out⟩
  
  
  · go_upto_block 0 with (first | (refine app_many rfl (.tmp 43) (.tmp 44) rfl _ w1.heap.size _ _ [] l.recs rfl (own_empty hw13 (heap_alloc_new w3 _)) rfl (own_zero (own_alloc HH3.out.a _)) qq1 (qq2 _) ?_; intro ui w4 hO4 hG4 hv4; have HLR : Hid (LR w0 w1.heap.size q g kg vr2 nil0 (dropL l) vp s uw l.recs ui l.recs w4) := (by
      have hBA : Below w3.heap.size w3 (w3.alloc (.cells #[] 9)) := (Below.refl _ _).alloc (Nat.le_refl _) _
      have hO4' : OwnS w4 w1.heap.size ui l.recs := hO4
      have hH0 : Held (w3.alloc (.cells #[] 9)) w1.heap.size uw l.recs (.slice (some ⟨w3.heap.size, 0, none⟩) 0 0) [] (lfoot q g vr2 nil0 kg vp) := ⟨(HH3.out.below hBA).a, own_empty hw13 (heap_alloc_new w3 _), fun k hk e => by have h1 := (HH3.out.a.lt k hk).2; have h2 : w3.heap.size = k := Option.some.inj e; omega, (HH3.out.below hBA).af, fun k hk hm => by have h1 := HG3.out.lp.lt k hm; have h2 : w3.heap.size = k := Option.some.inj hk; omega⟩
      have hG5 := (HG3.out.below hBA).grown hG4 hH0.bf (fun k hk => by have h2 : w3.heap.size = k := Option.some.inj hk; omega)
      exact ⟨hG5, hH0.app_b (fun k hk => (HG3.out.below hBA).lp.lt k hk) hG4 hO4' hv4, (HB3.out.trans (hBA.mono hs3)).trans (below_grown hG4 (own_empty (N := w0.heap.size) hs3 (heap_alloc_new w3 _)) (by simp; omega)), HF3.out, HSR.out.1, HSR.out.2.1, HSR.out.2.2.1, HSR.out.2.2.2, Nat.le_trans (qq2 (.cells #[] 9)) hG4.size⟩); have HZ := H3.out w4 HLR.out.bel; have z0 := HZ.1; clear hO4 hG4 hv4 HZ))
    clear HG3 HH3 HB3 HF3 HSR qq1 qq2
    have HLN := (show Hid (LR w0 w1.heap.size q g kg vr2 nil0 (dropL l) vp s uw (dropL l).recs nil0 [] w4 ∧ (dropL l).wait = []) from ⟨⟨HLR.out.good, HLR.out.held.nil_b, HLR.out.bel, HLR.out.ft, HLR.out.pend, HLR.out.dn, HLR.out.base, HLR.out.ep, HLR.out.sz⟩, rfl⟩)
    clear HLR
    go_cut [11, 13, 14] from 51 (fun s11 _ _ wx => ∃ (vr vw : Value) (l' : Wl.Lg), LR w0 w1.heap.size q g kg vr vw l' vp s uw l'.recs s11 ([]) wx ∧ l'.wait = [])
    case first =>
      go_wp2_with fail
      go_loopw [11, 13, 14] (fun s11 s13 _ wr => s11 = nil0 ∧ s13 = .int .i64 0 ∧ wr = w4) (fun _ _ _ _ => 0)
      case atStart => exact ⟨rfl, rfl, rfl⟩
      case round =>
        obtain ⟨rfl, rfl, hwr⟩ := hrel
        subst hwr
        by_cases hl0 : 0 < len2
        · have d1 : decide ((0 : Int) < (len2 : Int)) = true := decide_eq_true (by omega)
          go_wp2
          go_meet
          case rel => exact ⟨_, _, _, HLN.out⟩
        · have d1 : ¬ 0 < len2 := hl0
          go_wp2
          go_meet
          case rel => exact ⟨_, _, _, HLN.out⟩
    case rest =>
      obtain ⟨vrc, vwc, lc, hLR, hwt⟩ := hcut
      have HLR := (show Hid (LR w0 w1.heap.size q g kg vrc vwc lc vp s uw lc.recs _ [] wc) from hLR)
      have z1 := (H3.out wc hLR.bel).2.1
      clear hLR HLN z0
      obtain ⟨K, hK20, hm1, hm2, hb1, hb2⟩ := mod20 x1
      have hwr : IntKind.i64.wrap (x1.tmod 20 + 20) = x1.tmod 20 + 20 := by rw [IntKind.wrap_i64]; omega
      have HAR := arm_any g kg vp s (K : Int) wc HLR.out.good.lp.dk (by omega)
      have hdw := HLR.out.good.up.down
      have HAS : Hid (Sc.armS s (K : Int) = Sc.armed s (K : Int)) := by show _ = _; unfold Sc.armS; rw [hdw]; rfl
      rw [HAS.out] at HAR
      have HAM : Hid (Wl.Arm (Sc.armed s (K : Int))) := ⟨hdw, HLR.out.pend, HLR.out.good.up.len⟩
      have HKL : Hid ((Sc.armed s (K : Int)).kept.length = s.kept.length ∧ (Sc.armed s (K : Int)).dn ≤ 1000 ∧ Wl.On (Sc.armed s (K : Int)).kept lc.base lc.n lc.epoch lc.bytes) := ⟨rfl, HLR.out.dn, by
        have := HLR.out.good.on
        rw [Wl.flat_nil HLR.out.pend] at this
        exact this⟩
      clear hdw HAS
      generalize Sc.armed s (K : Int) = s5 at *
      go_wp2_with fail
      refine HAR.mono ?_
      rintro e w5 ⟨vp5, rfl, hD5, hT5⟩
      obtain ⟨hL5, hTT5⟩ := HLR.out.good.lp.d hD5 hT5 HKL.out.1
      have HL5 : Hid (LP w5 q g vrc vwc lc kg vp5 s5) := hL5
      have HH5 := (show Hid (Held w5 w1.heap.size uw lc.recs _ [] (lfoot q g vrc vwc kg vp5)) from HLR.out.held.turn hTT5)
      have HB5 : Hid (Below w0.heap.size w0 w5) := HLR.out.bel.trans (hTT5.below HLR.out.ft HLR.out.bel.size)
      have HF5 : Hid (∀ k ∈ lfoot q g vrc vwc kg vp5, w0.heap.size ≤ k) := hTT5.above HLR.out.ft HLR.out.bel.size
      have HS5 : Hid (Safe w5 (lfoot q g vrc vwc kg vp5)) := HLR.out.good.safe.turn hTT5
      have hlo := HLR.out.good.lost
      have hbb := HLR.out.base
      have hee := HLR.out.ep
      clear hD5 hT5 hL5 hTT5 HAR z1 hm1 hm2 hb1 hb2 hwr
      have HCL := lreset_any q g vrc vwc lc kg vp5 s5 w5 HL5.out HS5.out.tab (by have := HKL.out.2.1; omega) (by rw [HAM.out.pend]; exact Nat.zero_le _)
      obtain ⟨hres, hlst⟩ := Wl.reset_res HAM.out HL5.out.pk.ok hlo hwt hbb (by omega) HKL.out.2.2
      go_wp2_with fail
      refine HCL.mono ?_
      rintro e w6 ⟨vr6, vw6, vp6, rfl, hL6, hT6⟩
      have HE := (show Hid (LE w0 w1.heap.size q g kg vr6 vw6 (Wl.resetL lc s5) vp6 (Wl.resetS lc s5) (Wl.resetE lc s5) uw lc.recs _ [] w6) from ⟨hL6, hres, hlst, HH5.out.turn hT6, HB5.out.trans (hT6.below HF5.out HB5.out.size), hT6.above HF5.out HB5.out.size, HS5.out.turn hT6⟩)
      clear hL6 hT6 HCL hres hlst HL5 HH5 HB5 HF5 HS5 HKL HAM hlo hbb hee HLR
      generalize Wl.resetL lc s5 = l6 at *
      generalize Wl.resetS lc s5 = s6 at *
      generalize Wl.resetE lc s5 = e6 at *
      clear s5
      have HRS : Hid (Wl.Res lc.recs [] s6 e6) := HE.out.res
      rcases HE.out.res.told with ⟨he, hdn⟩ | ⟨he, hdn⟩
      · subst he
        have HDN := down_any g kg vp6 s6 w6 HE.out.lp.dk
        rw [hdn] at HDN
        go_wp2_with fail
        refine HDN.mono ?_
        rintro e w' ⟨rfl, hw⟩
        rw [hw]
        clear hw w' HDN
        have HOF := off_any g kg vp6 s6 w6 HE.out.lp.dk
        go_wp2_with fail
        refine HOF.mono ?_
        rintro e w7 ⟨vp7, rfl, hD7, hT7⟩
        have HF := (show Hid (LF w0 w1.heap.size g kg vp7 (Sc.offS s6) uw lc.recs _ [] w7) from HE.out.disk.turn hD7 hT7)
        clear hD7 hT7 HOF HE hdn
        go_wp2_with fail
        go_loopw [16, 17, 122] (fun s16 _ s122 wr => ∃ (k : Nat) (bs : List Bool), k ≤ 20 ∧ s122 = .int .i64 (k : Int) ∧ wr.ownsRow w7.heap.size 4 1 s16 k (bs.map Value.bool) ∧ Below w7.heap.size w7 wr) (fun _ _ s122 _ => 20 - (intOf s122).toNat)
        case atStart => exact ⟨0, [], by omega, rfl, World.ownsRow_nil _ _ _ _, Below.refl _ _⟩
        case round =>
          obtain ⟨k, bs, hk, rfl, hO, hB⟩ := hrel
          have HO := (show Hid (wr.ownsRow w7.heap.size 4 1 _ k (bs.map Value.bool)) from hO)
          have HBk : Hid (Below w7.heap.size w7 wr) := hB
          have hsk := hB.size
          have z2 := (H3.out wr (HF.out.bel.trans (hB.mono HF.out.bel.size))).2.2
          clear hO hB
          by_cases hk20 : k < 20
          · have dk : decide ((k : Int) < 20) = true := decide_eq_true (by omega)
            have k0 : (0 : Int) ≤ (k : Int) := by omega
            have k1 : (k : Int) < 20 := by omega
            have hk1m : k + 1 ≤ 1000000 := by omega
            have hskA : ∀ o, w7.heap.size ≤ (wr.alloc o).heap.size := fun o => by simp; omega
            go_wp2_with (first | (refine app_bool rfl (.tmp 125) (.tmp 132) rfl _ w7.heap.size _ k bs rfl (own_alloc HO.out _) ⟨wr.heap.size, 0, none⟩ 1 (bits BinOp.and IntKind.i64 (x2 / 2 ^ k) 1 == 1) rfl (fun j u hj => by rw [Addr.add_mid]; exact range_all (cs := [.bool (bits BinOp.and IntKind.i64 (x2 / 2 ^ k) 1 == 1)]) (heap_alloc_new wr _) j u hj) hk1m (hskA _) ?_; intro v3 wD hO3 hB3))
            have HFN := (show Hid (∃ (k' : Nat) (bs' : List Bool), k' ≤ 20 ∧ Value.int .i64 ((k : Int) + 1) = .int .i64 (k' : Int) ∧ wD.ownsRow w7.heap.size 4 1 v3 k' (bs'.map Value.bool) ∧ Below w7.heap.size w7 wD) from ⟨k + 1, _, by omega, by go_num, hO3, HBk.out.trans (((Below.refl _ _).alloc hsk _).trans hB3)⟩)
            clear hO3 hB3
            go_roundw
            case rel => first | exact HFN.out | ((repeat apply Exists.intro); exact ⟨HFN.out, rfl⟩)
            case measure => (simp [intOf]) <;> omega
          · have dk : decide ((k : Int) < 20) = false := decide_eq_false (by omega)
            have hk3 : ¬ (k : Int) < 20 := by omega
            obtain ⟨ka, kc, hkv, hkc1, hkc2, hBl⟩ := bools_own (fs := foot g kg vp7) HO.out (fun j hj => HF.out.dk.lt j hj)
            have HF7 := (show Hid (LF w0 w1.heap.size g kg vp7 (Sc.offS s6) uw lc.recs _ [] wr) from HF.out.below HBk.out)
            have HOO := on_any g kg vp7 (Sc.offS s6) ka k kc (fun i => bs.getD i false) wr HF7.out.dk hBl hkc1 hkc2
            obtain ⟨e1, hUp, rs, ep, hft, hon, hor⟩ := Wl.res_back HRS.out (marks k (fun i => bs.getD i false))
            rw [e1] at HOO
            have HUP : Hid (Wl.Up 20 (Sc.onS (Sc.offS s6) (marks k (fun i => bs.getD i false)))) := hUp
            have HFT : Hid (Wl.Fit rs) := hft
            have HON : Hid (Wl.On (Wl.flat (Sc.onS (Sc.offS s6) (marks k (fun i => bs.getD i false)))) 2 16 ep (Wl.frames rs)) := hon
            have HOR := (show Hid _ from hor)
            generalize Sc.onS (Sc.offS s6) (marks k (fun i => bs.getD i false)) = s8 at *
            clear hBl hUp hft hon hor e1 HF HBk HO z2 hsk HRS
            subst hkv
            go_wp2_with fail
            refine HOO.mono ?_
            rintro e w8 ⟨vp8, rfl, hD8, hT8⟩
            have HF8 := (show Hid (LF w0 w1.heap.size g kg vp8 s8 uw lc.recs _ [] w8) from HF7.out.turn hD8 hT8)
            clear hD8 hT8 HOO HF7
            go_wp2_with fail
            refine (gopen g kg vp8 s8 2 16 ep 20 rs w8 HF8.out.dk HUP.out HF8.out.safe HFT.out HON.out).mono ?_
            rintro e w9 ⟨q9, vr9, rfl, hG9, hB9, _⟩
            have HG9 : Hid (Good w9 q9 g vr9 nil0 (opened 2 16 ep rs) kg vp8 s8 20) := hG9
            have HF9 := (show Hid (LF w0 w1.heap.size g kg vp8 s8 uw lc.recs _ [] w9) from HF8.out.below hB9)
            clear hG9 hB9 HF8
            go_wp2_with fail
            refine (gopen g kg vp8 s8 2 16 ep 20 rs w9 HF9.out.dk HUP.out HF9.out.safe HFT.out HON.out).mono ?_
            rintro e wA ⟨qA, vrA, rfl, hGA, hBA, _⟩
            have HGA : Hid (Good wA qA g vrA nil0 (opened 2 16 ep rs) kg vp8 s8 20) := hGA
            have HGm : Hid (Good wA q9 g vr9 nil0 (opened 2 16 ep rs) kg vp8 s8 20) := HG9.out.below hBA
            have HFA := (show Hid (LF w0 w1.heap.size g kg vp8 s8 uw lc.recs _ [] wA) from HF9.out.below hBA)
            clear hGA hBA HF9 HG9
            go_wp2_with fail
            refine (lrecords_any q9 g vr9 nil0 _ wA HGm.out.lp.pk).mono ?_
            rintro e wB ⟨uB, rfl, hOB, hBB⟩
            have HOB : Hid (OwnS wB 0 uB rs) := own_zero hOB
            have HGn : Hid (Good wB qA g vrA nil0 (opened 2 16 ep rs) kg vp8 s8 20) := HGA.out.below hBB
            have HGm2 : Hid (Good wB q9 g vr9 nil0 (opened 2 16 ep rs) kg vp8 s8 20) := HGm.out.below hBB
            have HFB := (show Hid (LF w0 w1.heap.size g kg vp8 s8 uw lc.recs _ [] wB) from HFA.out.below hBB)
            clear hOB hBB HFA HGA HGm
            go_wp2_with fail
            refine (lrecords_any qA g vrA nil0 _ wB HGn.out.lp.pk).mono ?_
            rintro e wC ⟨uC, rfl, hOC, hBC⟩
            have HOC : Hid (OwnS wC 0 uC rs) := own_zero hOC
            have HOB2 : Hid (OwnS wC 0 uB rs) := own_below HOB.out hBC
            have HGm3 : Hid (Good wC q9 g vr9 nil0 (opened 2 16 ep rs) kg vp8 s8 20) := HGm2.out.below hBC
            have HFC := (show Hid (LF w0 w1.heap.size g kg vp8 s8 uw lc.recs _ [] wC) from HFB.out.below hBC)
            have HSM := same_any uB uC rs rs wC HOB2.out HOC.out
            rw [decide_eq_true rfl] at HSM
            clear hOC hBC HFB HGm2 HGn HOB
            go_wp2_with fail
            refine HSM.mono ?_
            rintro e wD ⟨rfl, hBD, _⟩
            have HGm4 : Hid (Good wD q9 g vr9 nil0 (opened 2 16 ep rs) kg vp8 s8 20) := HGm3.out.below hBD
            have HFD := (show Hid (LF w0 w1.heap.size g kg vp8 s8 uw lc.recs _ [] wD) from HFC.out.below hBD)
            clear hBD HSM HFC HGm3 HOC HOB2
            go_wp2_with fail
            refine (lrecords_any q9 g vr9 nil0 _ wD HGm4.out.lp.pk).mono ?_
            rintro e wE ⟨uE, rfl, hOE, hBE⟩
            have HGm5 : Hid (Good wE q9 g vr9 nil0 (opened 2 16 ep rs) kg vp8 s8 20) := HGm4.out.below hBE
            have HFE := (show Hid (LF w0 w1.heap.size g kg vp8 s8 uw lc.recs _ [] wE) from HFD.out.below hBE)
            have HSE := same_any uE _ rs [] wE (own_zero hOE) (own_zero HFE.out.held.b)
            clear hOE hBE HFD HGm4
            go_wp2_with fail
            refine HSE.mono ?_
            rintro e wF ⟨rfl, hBF, _⟩
            have HGm6 : Hid (Good wF q9 g vr9 nil0 (opened 2 16 ep rs) kg vp8 s8 20) := HGm5.out.below hBF
            have HFF := (show Hid (LF w0 w1.heap.size g kg vp8 s8 uw lc.recs _ [] wF) from HFE.out.below hBF)
            clear hBF HSE HFE HGm5
            have hri := HOR.out.resolve_right (fun h => absurd rfl h.1)
            · rw [decide_eq_true hri]
              have HWK := works_any wF HFF.out.safe.tab
              have HBF : Hid (Below w.heap.size w wF) := HB0.out.trans (HFF.out.bel.mono hw0)
              have hsF := HBF.out.size
              clear HOR hri
              go_wp2_with fail
              refine HWK.mono ?_
              rintro e wG ⟨rfl, hBG⟩
              have HFN : Hid (Below w.heap.size w wG) := HBF.out.trans (hBG.mono hsF)
              clear hBG HWK
              go_wp2
              go_ret
              exact ⟨rfl, HFN.out⟩
      · subst he
        have hlt := HE.out.lost (by decide)
        have HAD := ladd_lost q g vr6 vw6 l6 (.string ⟨#[]⟩) w6 HE.out.lp.pk hlt
        have HSY := lsync_lost q g vr6 vw6 l6 w6 HE.out.lp.pk hlt
        have HRE := lreset_lost q g vr6 vw6 l6 w6 HE.out.lp.pk hlt
        have HDN := down_any g kg vp6 s6 w6 HE.out.lp.dk
        rw [hdn] at HDN
        have hof : Sc.offS s6 = s6 := by unfold Sc.offS; rw [hdn]; rfl
        have HF := (show Hid (LF w0 w1.heap.size g kg vp6 (Sc.offS s6) uw lc.recs _ [] w6) from (by rw [hof]; exact HE.out.disk))
        clear HE hdn hlt hof
        go_wp2_with fail
        refine HAD.mono ?_
        rintro e w' ⟨rfl, hw⟩
        rw [hw]
        clear hw w' HAD
        go_wp2_with fail
        refine HSY.mono ?_
        rintro e w' ⟨rfl, hw⟩
        rw [hw]
        clear hw w' HSY
        go_wp2_with fail
        refine HRE.mono ?_
        rintro e w' ⟨rfl, hw⟩
        rw [hw]
        clear hw w' HRE
        go_wp2_with fail
        refine HDN.mono ?_
        rintro e w' ⟨rfl, hw⟩
        rw [hw]
        clear hw w' HDN
        go_wp2_with fail
        go_loopw [16, 17, 122] (fun s16 _ s122 wr => ∃ (k : Nat) (bs : List Bool), k ≤ 20 ∧ s122 = .int .i64 (k : Int) ∧ wr.ownsRow w6.heap.size 4 1 s16 k (bs.map Value.bool) ∧ Below w6.heap.size w6 wr) (fun _ _ s122 _ => 20 - (intOf s122).toNat)
        case atStart => exact ⟨0, [], by omega, rfl, World.ownsRow_nil _ _ _ _, Below.refl _ _⟩
        case round =>
          obtain ⟨k, bs, hk, rfl, hO, hB⟩ := hrel
          have HO := (show Hid (wr.ownsRow w6.heap.size 4 1 _ k (bs.map Value.bool)) from hO)
          have HBk : Hid (Below w6.heap.size w6 wr) := hB
          have hsk := hB.size
          have z2 := (H3.out wr (HF.out.bel.trans (hB.mono HF.out.bel.size))).2.2
          clear hO hB
          by_cases hk20 : k < 20
          · have dk : decide ((k : Int) < 20) = true := decide_eq_true (by omega)
            have k0 : (0 : Int) ≤ (k : Int) := by omega
            have k1 : (k : Int) < 20 := by omega
            have hk1m : k + 1 ≤ 1000000 := by omega
            have hskA : ∀ o, w6.heap.size ≤ (wr.alloc o).heap.size := fun o => by simp; omega
            go_wp2_with (first | (refine app_bool rfl (.tmp 125) (.tmp 132) rfl _ w6.heap.size _ k bs rfl (own_alloc HO.out _) ⟨wr.heap.size, 0, none⟩ 1 (bits BinOp.and IntKind.i64 (x2 / 2 ^ k) 1 == 1) rfl (fun j u hj => by rw [Addr.add_mid]; exact range_all (cs := [.bool (bits BinOp.and IntKind.i64 (x2 / 2 ^ k) 1 == 1)]) (heap_alloc_new wr _) j u hj) hk1m (hskA _) ?_; intro v3 wD hO3 hB3))
            have HFN := (show Hid (∃ (k' : Nat) (bs' : List Bool), k' ≤ 20 ∧ Value.int .i64 ((k : Int) + 1) = .int .i64 (k' : Int) ∧ wD.ownsRow w6.heap.size 4 1 v3 k' (bs'.map Value.bool) ∧ Below w6.heap.size w6 wD) from ⟨k + 1, _, by omega, by go_num, hO3, HBk.out.trans (((Below.refl _ _).alloc hsk _).trans hB3)⟩)
            clear hO3 hB3
            go_roundw
            case rel => first | exact HFN.out | ((repeat apply Exists.intro); exact ⟨HFN.out, rfl⟩)
            case measure => (simp [intOf]) <;> omega
          · have dk : decide ((k : Int) < 20) = false := decide_eq_false (by omega)
            have hk3 : ¬ (k : Int) < 20 := by omega
            obtain ⟨ka, kc, hkv, hkc1, hkc2, hBl⟩ := bools_own (fs := foot g kg vp6) HO.out (fun j hj => HF.out.dk.lt j hj)
            have HF7 := (show Hid (LF w0 w1.heap.size g kg vp6 (Sc.offS s6) uw lc.recs _ [] wr) from HF.out.below HBk.out)
            have HOO := on_any g kg vp6 (Sc.offS s6) ka k kc (fun i => bs.getD i false) wr HF7.out.dk hBl hkc1 hkc2
            obtain ⟨e1, hUp, rs, ep, hft, hon, hor⟩ := Wl.res_back HRS.out (marks k (fun i => bs.getD i false))
            rw [e1] at HOO
            have HUP : Hid (Wl.Up 20 (Sc.onS (Sc.offS s6) (marks k (fun i => bs.getD i false)))) := hUp
            have HFT : Hid (Wl.Fit rs) := hft
            have HON : Hid (Wl.On (Wl.flat (Sc.onS (Sc.offS s6) (marks k (fun i => bs.getD i false)))) 2 16 ep (Wl.frames rs)) := hon
            have HOR := (show Hid _ from hor)
            generalize Sc.onS (Sc.offS s6) (marks k (fun i => bs.getD i false)) = s8 at *
            clear hBl hUp hft hon hor e1 HF HBk HO z2 hsk HRS
            subst hkv
            go_wp2_with fail
            refine HOO.mono ?_
            rintro e w8 ⟨vp8, rfl, hD8, hT8⟩
            have HF8 := (show Hid (LF w0 w1.heap.size g kg vp8 s8 uw lc.recs _ [] w8) from HF7.out.turn hD8 hT8)
            clear hD8 hT8 HOO HF7
            go_wp2_with fail
            refine (gopen g kg vp8 s8 2 16 ep 20 rs w8 HF8.out.dk HUP.out HF8.out.safe HFT.out HON.out).mono ?_
            rintro e w9 ⟨q9, vr9, rfl, hG9, hB9, _⟩
            have HG9 : Hid (Good w9 q9 g vr9 nil0 (opened 2 16 ep rs) kg vp8 s8 20) := hG9
            have HF9 := (show Hid (LF w0 w1.heap.size g kg vp8 s8 uw lc.recs _ [] w9) from HF8.out.below hB9)
            clear hG9 hB9 HF8
            go_wp2_with fail
            refine (gopen g kg vp8 s8 2 16 ep 20 rs w9 HF9.out.dk HUP.out HF9.out.safe HFT.out HON.out).mono ?_
            rintro e wA ⟨qA, vrA, rfl, hGA, hBA, _⟩
            have HGA : Hid (Good wA qA g vrA nil0 (opened 2 16 ep rs) kg vp8 s8 20) := hGA
            have HGm : Hid (Good wA q9 g vr9 nil0 (opened 2 16 ep rs) kg vp8 s8 20) := HG9.out.below hBA
            have HFA := (show Hid (LF w0 w1.heap.size g kg vp8 s8 uw lc.recs _ [] wA) from HF9.out.below hBA)
            clear hGA hBA HF9 HG9
            go_wp2_with fail
            refine (lrecords_any q9 g vr9 nil0 _ wA HGm.out.lp.pk).mono ?_
            rintro e wB ⟨uB, rfl, hOB, hBB⟩
            have HOB : Hid (OwnS wB 0 uB rs) := own_zero hOB
            have HGn : Hid (Good wB qA g vrA nil0 (opened 2 16 ep rs) kg vp8 s8 20) := HGA.out.below hBB
            have HGm2 : Hid (Good wB q9 g vr9 nil0 (opened 2 16 ep rs) kg vp8 s8 20) := HGm.out.below hBB
            have HFB := (show Hid (LF w0 w1.heap.size g kg vp8 s8 uw lc.recs _ [] wB) from HFA.out.below hBB)
            clear hOB hBB HFA HGA HGm
            go_wp2_with fail
            refine (lrecords_any qA g vrA nil0 _ wB HGn.out.lp.pk).mono ?_
            rintro e wC ⟨uC, rfl, hOC, hBC⟩
            have HOC : Hid (OwnS wC 0 uC rs) := own_zero hOC
            have HOB2 : Hid (OwnS wC 0 uB rs) := own_below HOB.out hBC
            have HGm3 : Hid (Good wC q9 g vr9 nil0 (opened 2 16 ep rs) kg vp8 s8 20) := HGm2.out.below hBC
            have HFC := (show Hid (LF w0 w1.heap.size g kg vp8 s8 uw lc.recs _ [] wC) from HFB.out.below hBC)
            have HSM := same_any uB uC rs rs wC HOB2.out HOC.out
            rw [decide_eq_true rfl] at HSM
            clear hOC hBC HFB HGm2 HGn HOB
            go_wp2_with fail
            refine HSM.mono ?_
            rintro e wD ⟨rfl, hBD, _⟩
            have HGm4 : Hid (Good wD q9 g vr9 nil0 (opened 2 16 ep rs) kg vp8 s8 20) := HGm3.out.below hBD
            have HFD := (show Hid (LF w0 w1.heap.size g kg vp8 s8 uw lc.recs _ [] wD) from HFC.out.below hBD)
            clear hBD HSM HFC HGm3 HOC HOB2
            go_wp2_with fail
            refine (lrecords_any q9 g vr9 nil0 _ wD HGm4.out.lp.pk).mono ?_
            rintro e wE ⟨uE, rfl, hOE, hBE⟩
            have HGm5 : Hid (Good wE q9 g vr9 nil0 (opened 2 16 ep rs) kg vp8 s8 20) := HGm4.out.below hBE
            have HFE := (show Hid (LF w0 w1.heap.size g kg vp8 s8 uw lc.recs _ [] wE) from HFD.out.below hBE)
            have HSE := same_any uE _ rs [] wE (own_zero hOE) (own_zero HFE.out.held.b)
            clear hOE hBE HFD HGm4
            go_wp2_with fail
            refine HSE.mono ?_
            rintro e wF ⟨rfl, hBF, _⟩
            have HGm6 : Hid (Good wF q9 g vr9 nil0 (opened 2 16 ep rs) kg vp8 s8 20) := HGm5.out.below hBF
            have HFF := (show Hid (LF w0 w1.heap.size g kg vp8 s8 uw lc.recs _ [] wF) from HFE.out.below hBF)
            clear hBF HSE HFE HGm5
            rcases HOR.out with hri | ⟨_, hri⟩
            · rw [decide_eq_true hri]
              have HWK := works_any wF HFF.out.safe.tab
              have HBF : Hid (Below w.heap.size w wF) := HB0.out.trans (HFF.out.bel.mono hw0)
              have hsF := HBF.out.size
              clear HOR hri
              go_wp2_with fail
              refine HWK.mono ?_
              rintro e wG ⟨rfl, hBG⟩
              have HFN : Hid (Below w.heap.size w wG) := HBF.out.trans (hBG.mono hsF)
              clear hBG HWK
              go_wp2
              go_ret
              exact ⟨rfl, HFN.out⟩
            · by_cases hrn : rs = []
              · rw [decide_eq_true hrn]
                have HWK := works_any wF HFF.out.safe.tab
                have HBF : Hid (Below w.heap.size w wF) := HB0.out.trans (HFF.out.bel.mono hw0)
                have hsF := HBF.out.size
                clear HOR hri hrn
                go_wp2_with fail
                refine HWK.mono ?_
                rintro e wG ⟨rfl, hBG⟩
                have HFN : Hid (Below w.heap.size w wG) := HBF.out.trans (hBG.mono hsF)
                clear hBG HWK
                go_wp2
                go_ret
                exact ⟨rfl, HFN.out⟩
              · rw [decide_eq_false hrn]
                clear HOR hrn
                go_wp2_with fail
                refine (lrecords_any q9 g vr9 nil0 _ wF HGm6.out.lp.pk).mono ?_
                rintro e wG ⟨uG, rfl, hOG, hBG⟩
                have HFG := (show Hid (LF w0 w1.heap.size g kg vp8 s8 uw lc.recs _ [] wG) from HFF.out.below hBG)
                have HSG := same_any uG uw rs lc.recs wG (own_zero hOG) (own_zero HFG.out.held.a)
                rw [decide_eq_true hri] at HSG
                clear hOG hBG HFF HGm6 hri
                go_wp2_with fail
                refine HSG.mono ?_
                rintro e wH ⟨rfl, hBH, _⟩
                have HFH := (show Hid (LF w0 w1.heap.size g kg vp8 s8 uw lc.recs _ [] wH) from HFG.out.below hBH)
                have HWK := works_any wH HFH.out.safe.tab
                have HBF : Hid (Below w.heap.size w wH) := HB0.out.trans (HFH.out.bel.mono hw0)
                have hsF := HBF.out.size
                clear hBH HSG HFG
                go_wp2_with fail
                refine HWK.mono ?_
                rintro e wI ⟨rfl, hBI⟩
                have HFN : Hid (Below w.heap.size w wI) := HBF.out.trans (hBI.mono hsF)
                clear hBI HWK
                go_wp2
                go_ret
                exact ⟨rfl, HFN.out⟩
  
  
end Go.Proofs.YtkfgcbpiellimaaDoor
