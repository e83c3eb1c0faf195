/- Proved: the document's copy of a state (stage 10). -/
import Derived.Test.YtcfninpokngmlaaGreatDoorM17
namespace Go.Proofs.YtcfninpokngmlaaGreatDoor
open Go.RowKit
section
variable {P : Program} {ops : Array Oper} {Q : Exit → Act → World → Prop} {md : Region.Mode} {S : World → Prop}
theorem heldThree (i j k : Nat) {o o' o'' : Oper} {fuel : Nat} {listed : Array Bool} {a : Act} {w : World} (hr : Region.ready md ops listed = [i, j, k]) (ho : ops[i]? = some o) (ho' : ops[j]? = some o') (ho'' : ops[k]? = some o'') (hw : Region.wanted o (yielded ops a.tmps) = true) (hw' : Region.wanted o' (yielded ops a.tmps) = true) (hw'' : Region.wanted o'' (yielded ops a.tmps) = true)
    (h : ∀ K : Act → World → Prop, Go.Shut (∀ a' w', S w' → wpAnyH P md ops Q S fuel (listed.setIfInBounds i true) a' w' → K a' w') → Oper.wp P o a w K Q)
    (h' : ∀ K : Act → World → Prop, Go.Shut (∀ a' w', S w' → wpAnyH P md ops Q S fuel (listed.setIfInBounds j true) a' w' → K a' w') → Oper.wp P o' a w K Q)
    (h'' : ∀ K : Act → World → Prop, Go.Shut (∀ a' w', S w' → wpAnyH P md ops Q S fuel (listed.setIfInBounds k true) a' w' → K a' w') → Oper.wp P o'' a w K Q) : wpAnyH P md ops Q S (fuel + 1) listed a w := by
  refine wpAnyH_ready hr (by simp) (AllReadyH.cons ho (fun K hK => ?_) (AllReadyH.cons ho' (fun K hK => ?_) (AllReadyH.cons ho'' (fun K hK => ?_) AllReadyH.nil)))
  · rw [if_pos hw]
    exact h K (fun a' w' h1 h2 => hK.out a' w' h1 (fun _ => h2))
  · rw [if_pos hw']
    exact h' K (fun a' w' h1 h2 => hK.out a' w' h1 (fun _ => h2))
  · rw [if_pos hw'']
    exact h'' K (fun a' w' h1 h2 => hK.out a' w' h1 (fun _ => h2))
end
/- a box is filled anew -/
def sv3 (w : World) (u : Nat) (a b c : Value) : World := ((w.setCell ⟨u, 0, none⟩ a).setCell ⟨u, 1, none⟩ b).setCell ⟨u, 2, none⟩ c
theorem sv3_chg (w : World) (u : Nat) (a b c : Value) : Chg [u] w (sv3 w u a b c) := ((Chg.setCell _ _ _ _).trans (Chg.setCell _ _ _ _)).trans (Chg.setCell _ _ _ _)
theorem sv3_row {w : World} {u : Nat} {x y z a b c : Value} (h : w.heap[u]? = some (.cells #[x, y, z] 39 (0, 0))) : (sv3 w u a b c).heap[u]? = some (.cells #[a, b, c] 39 (0, 0)) := by
  have h1 := heap_setCell_same w u 0 _ _ a h
  have h2 := heap_setCell_same _ u 1 _ _ b h1
  have h3 := heap_setCell_same _ u 2 _ _ c h2
  exact h3.trans rfl
theorem oper_append {P : Program} {o : Oper} {a : Act} {w : World} {K : Act → World → Prop} {Q : Exit → Act → World → Prop} (s x : Operand) (t : TypeId) (hop : o.op = Op.call { callee := Callee.builtin Builtin.append, args := #[s, x], argTypes := #[t, t] })
    (v u v' : Value) (w' : World) (hs : a.eval s = v) (hx : a.eval x = u) (hr : ∀ ty, (Builtin.append_ #[t, t] ty #[v, u]).run P w = .ok v' w') (hK : K (a.put o.dst v') w') : Oper.wp P o a w K Q := by
  have hrun := hr o.type
  unfold Oper.wp
  simp [execOp, hop, resolve, invoke, builtin, hs, hx, hrun, Result.andThen]
  exact hK
theorem results_st1 {fn : Func} {p : Tmp} (h : fn.results = #[.cell p 39]) (tmps : Array Value) (w : World) (g t : Nat) (x y z : Value) (hp : tmps.getD p undef = .pointer (some ⟨g, 0, none⟩)) (hg : w.heap[g]? = some (.cells #[x, y, z] t (0, 0))) :
    (results fn tmps).run Tryz.prog w = .ok (.agg #[x, y, z]) w := by
  have hp' : tmps[p]?.getD undef = .pointer (some ⟨g, 0, none⟩) := by simpa using hp
  simp [results, h, hp', asAddr, run_loadVar_row w g t 39 #[x, y, z] (0, 0) _ hg Tryz.underlying39 rfl sizeRs]
theorem own_low {w : World} {b b' e k n : Nat} {v : Value} {xs : List Value} (h : w.ownsRow b e k v n xs) (hb : b' ≤ b) : w.ownsRow b' e k v n xs := ⟨h.1, h.2.imp id fun ⟨g, cap, cur, h1, h2, h3⟩ => ⟨g, cap, cur, h1, Nat.le_trans hb h2, h3⟩⟩
/- both boxes of copied -/
structure Cb (w w1 : World) (p f r : Value) : Prop where
  bel : Below w.heap.size w w1
  bi : w1.heap[w.heap.size]? = some (.cells #[p, f, r] 39 (0, 0))
  bo : w1.heap[w.heap.size + 1]? = some (.cells nil3 39 (0, 0))
  sz : w1.heap.size = w.heap.size + 1 + 1
theorem cb_start (w : World) (p f r : Value) : Cb w ((w.alloc (.cells #[p, f, r] 39)).alloc (.cells #[.slice none 0 0, .slice none 0 0, .slice none 0 0] 39)) p f r := by
  have s1 : (w.alloc (.cells #[p, f, r] 39)).heap.size = w.heap.size + 1 := by simp
  have h1 := heap_alloc_new w (.cells #[p, f, r] 39)
  have h2 := heap_alloc_new (w.alloc (.cells #[p, f, r] 39)) (.cells #[.slice none 0 0, .slice none 0 0, .slice none 0 0] 39)
  rw [s1] at h2
  refine ⟨((Below.refl _ w).alloc (Nat.le_refl _) _).alloc (by rw [s1]; omega) _, ?_, h2, by simp⟩
  rw [Below.heap_alloc _ _ _ (by rw [s1]; omega)]
  exact h1
theorem Cb.cells {w w1 w' : World} {p f r : Value} (h : Cb w w1 p f r) (hB : Below w1.heap.size w1 w') : w'.cell? ⟨w.heap.size, 0, none⟩ = some p ∧ w'.cell? ⟨w.heap.size, 1, none⟩ = some f ∧ w'.cell? ⟨w.heap.size, 2, none⟩ = some r := by
  have hr : w'.heap[w.heap.size]? = some (.cells #[p, f, r] 39 (0, 0)) := (hB.block _ (heap_lt h.bi)).trans h.bi
  exact ⟨(cell_of_row w' _ 0 _ _ (0, 0) hr).trans rfl, (cell_of_row w' _ 1 _ _ (0, 0) hr).trans rfl, (cell_of_row w' _ 2 _ _ (0, 0) hr).trans rfl⟩
theorem Cb.out {w w1 w' : World} {p f r : Value} (h : Cb w w1 p f r) (hB : Below w1.heap.size w1 w') : w'.heap[w.heap.size + 1]? = some (.cells nil3 39 (0, 0)) := (hB.block _ (heap_lt h.bo)).trans h.bo
/- what copied answers -/
def CpPost (w : World) (S : Pd.Ab) (e : Ending) (w' : World) : Prop := ∃ vP vF vR, e = .returned (.agg #[vP, vF, vR]) ∧ Below w.heap.size w w' ∧ StO w' w.heap.size vP vF vR S ∧ (∀ k ∈ bl vP, k ∉ bl vF) ∧ (∀ k ∈ bl vP, k ∉ bl vR) ∧ (∀ k ∈ bl vF, k ∉ bl vR)
theorem cp_fin {w w1 w2 : World} {p f r : Value} {S : Pd.Ab} {vP vF vR : Value} (hb : Cb w w1 p f r) (h : Cw w1 w2 p f r S none none none (some vP) (some vF) (some vR)) : (sv3 w2 (w.heap.size + 1) vP vF vR).heap[w.heap.size + 1]? = some (.cells #[vP, vF, vR] 39 (0, 0)) ∧ CpPost w S (.returned (.agg #[vP, vF, vR])) (sv3 w2 (w.heap.size + 1) vP vF vR) := by
  have hc := sv3_chg w2 (w.heap.size + 1) vP vF vR
  have hw : w.heap.size + 1 < w1.heap.size := heap_lt hb.bo
  have hk : ∀ v : Value, (∀ k, v.ownBlock = some k → w1.heap.size ≤ k ∧ k < w2.heap.size) → ∀ k, v.ownBlock = some k → (sv3 w2 (w.heap.size + 1) vP vF vR).heap[k]? = w2.heap[k]? := fun v hv k hk => hc.block k (hv k hk).2 (fun hm => by have := List.mem_singleton.1 hm; have := (hv k hk).1; omega)
  have d1 := h.d04
  have d2 := h.d08
  have d3 := h.d48
  simp only [Option.toList_none, List.nil_append, blO] at d1 d2 d3
  refine ⟨sv3_row (hb.out h.bel), vP, vF, vR, rfl, hb.bel.trans ((h.bel.mono hb.bel.size).trans (hc.below (B := w.heap.size) (fun k hk => by rw [List.mem_singleton.1 hk]; omega) (by have := h.bel.size; have := hb.bel.size; omega))), ?_, d1, d2, d3⟩
  have o1 := own_keep (h.o0 vP rfl) (hk vP (fun k e => ⟨((h.o0 vP rfl).lt k e).1, ((h.o0 vP rfl).lt k e).2⟩))
  have o2 := own_keep (h.o4 vF rfl) (hk vF (fun k e => ⟨((h.o4 vF rfl).lt k e).1, ((h.o4 vF rfl).lt k e).2⟩))
  have o3 := own_keep (h.o8 vR rfl) (hk vR (fun k e => ⟨((h.o8 vR rfl).lt k e).1, ((h.o8 vR rfl).lt k e).2⟩))
  exact ⟨own_low o1 hb.bel.size, own_low o2 hb.bel.size, own_low o3 hb.bel.size⟩
set_option maxHeartbeats 8000000 in
set_option maxRecDepth 20000 in
theorem rcopied_any (B : Nat) (p f r : Value) (S : Pd.Ab) (w : World) (h : StO w B p f r S) (hpos : 0 < S.pgs.length) (hmx : S.pgs.length ≤ 1000) (hmf : S.freed.length ≤ 1000) :
    Calls Tryz.prog 71 #[.agg #[p, f, r]] w (CpPost w S) := by
  have HB := (show Hid _ from cb_start w p f r)
  have HST : Hid (StO w 0 p f r S) := h.zero
  have hl1 : S.pgs.length ≤ 100000 := by omega
  have hl2 : S.freed.length ≤ 100000 := by omega
  obtain ⟨aP, cP, hvP⟩ := own_slice h.pg
  obtain ⟨aF, cF, hvF⟩ := own_slice h.fr
  obtain ⟨aR, cR, hvR⟩ := own_slice h.rt
  subst hvP hvF hvR
  clear h
  go_enter Tryz.func71, Tryz.ntmps71
  go_wp2_with fail
  generalize World.alloc (World.alloc w _) _ = w1 at *
  have HC : Hid (Cw w1 w1.drew (.slice aP S.pgs.length cP) (.slice aF S.freed.length cF) (.slice aR 4 cR) S none none none none none none) := ⟨⟨rfl, rfl, rfl, Nat.le_refl _, fun _ _ => rfl⟩, (HST.out.below HB.out.bel).zero, (fun y e => nomatch e), (fun y e => nomatch e), (fun y e => nomatch e), (fun y e => nomatch e), (fun y e => nomatch e), (fun y e => nomatch e), (by intro k hk; simp [blO] at hk), (by intro k hk; simp [blO] at hk), (by intro k hk; simp [blO] at hk)⟩
  have HBI : Hid (∀ w', Below w1.heap.size w1 w' → w'.heap[w.heap.size]? = some (.cells #[.slice aP S.pgs.length cP, .slice aF S.freed.length cF, .slice aR 4 cR] 39 (0, 0))) := fun w' hB => (hB.block _ (heap_lt HB.out.bi)).trans HB.out.bi
  have HS0 := (show Hid _ from HBI.out _ HC.out.bel)
  refine wp_region_held_drew (S := fun wz => wz.heap[w.heap.size]? = some (.cells #[.slice aP S.pgs.length cP, .slice aF S.freed.length cF, .slice aR 4 cR] 39 (0, 0))) (by kernel_rfl) (HBI.out _ HC.out.bel) (fun _ => ?_)
  refine heldTake 1 (some 4) (.pointer (some ⟨w.heap.size, 0, none⟩)) rfl rfl (by kernel_rfl) (by kernel_rfl) (by kernel_rfl) (fun _ _ _ h => h) (Or.inl ⟨by rfl, fun w hS => ?_⟩) HS0.out ?_
  · (go_simp)
  simp only [Act.put, List.setIfInBounds_toArray, List.set_cons_zero, List.set_cons_succ]
  refine heldTake 2 (some 5) (.slice aP S.pgs.length cP) rfl rfl (by kernel_rfl) (by kernel_rfl) (by kernel_rfl) (fun _ _ _ h => h) (Or.inl ⟨by rfl, fun w hS => ?_⟩) HS0.out ?_
  · (have p0 := (cell_of_row w _ 0 _ _ (0, 0) hS); clear hS; go_simp)
  simp only [Act.put, List.setIfInBounds_toArray, List.set_cons_zero, List.set_cons_succ]
  refine heldTake 5 (some 8) (.pointer (some ⟨w.heap.size, 1, none⟩)) rfl rfl (by kernel_rfl) (by kernel_rfl) (by kernel_rfl) (fun _ _ _ h => h) (Or.inl ⟨by rfl, fun w hS => ?_⟩) HS0.out ?_
  · (go_simp)
  simp only [Act.put, List.setIfInBounds_toArray, List.set_cons_zero, List.set_cons_succ]
  refine heldTake 6 (some 9) (.slice aF S.freed.length cF) rfl rfl (by kernel_rfl) (by kernel_rfl) (by kernel_rfl) (fun _ _ _ h => h) (Or.inl ⟨by rfl, fun w hS => ?_⟩) HS0.out ?_
  · (have p0 := (cell_of_row w _ 1 _ _ (0, 0) hS); clear hS; go_simp)
  simp only [Act.put, List.setIfInBounds_toArray, List.set_cons_zero, List.set_cons_succ]
  refine heldTake 9 (some 12) (.pointer (some ⟨w.heap.size, 2, none⟩)) rfl rfl (by kernel_rfl) (by kernel_rfl) (by kernel_rfl) (fun _ _ _ h => h) (Or.inl ⟨by rfl, fun w hS => ?_⟩) HS0.out ?_
  · (go_simp)
  simp only [Act.put, List.setIfInBounds_toArray, List.set_cons_zero, List.set_cons_succ]
  refine heldTake 10 (some 13) (.slice aR 4 cR) rfl rfl (by kernel_rfl) (by kernel_rfl) (by kernel_rfl) (fun _ _ _ h => h) (Or.inl ⟨by rfl, fun w hS => ?_⟩) HS0.out ?_
  · (have p0 := (cell_of_row w _ 2 _ _ (0, 0) hS); clear hS; go_simp)
  simp only [Act.put, List.setIfInBounds_toArray, List.set_cons_zero, List.set_cons_succ]
  have HCu0 := HC
  generalize w1.drew = u0 at *
  refine heldThree 0 4 8 (by kernel_rfl) rfl rfl rfl (by rfl) (by rfl) (by rfl) (fun KK hK => ?_) (fun KK hK => ?_) (fun KK hK => ?_)
  · skip
    have HCu1 := (show Hid _ from HCu0.out.build0)
    go_simp
    generalize World.alloc u0 (.cells #[] 83) = u1 at *
    generalize u0.heap.size = y0 at *
    refine hK.out _ _ (HBI.out _ HCu1.out.bel) ?_
    clear hK KK
    clear HCu0
    refine heldThree 3 4 8 (by kernel_rfl) rfl rfl rfl (by rfl) (by rfl) (by rfl) (fun KK hK => ?_) (fun KK hK => ?_) (fun KK hK => ?_)
    · skip
      obtain ⟨v0, u2, hr0, hC0⟩ := HCu1.out.app0 hpos hl1
      have HCu2 : Hid (Cw w1 u2 (.slice aP S.pgs.length cP) (.slice aF S.freed.length cF) (.slice aR 4 cR) S none none none (some v0) none none) := hC0
      refine oper_append (.tmp 3) (.tmp 5) 36 rfl _ _ v0 u2 rfl rfl hr0 ?_
      refine hK.out _ _ (HBI.out _ HCu2.out.bel) ?_
      clear hK KK hr0 hC0 HCu1
      refine heldTwo 4 8 (by kernel_rfl) rfl rfl (by rfl) (by rfl) (fun KK hK => ?_) (fun KK hK => ?_)
      · skip
        have HCu3 := (show Hid _ from HCu2.out.build4)
        go_simp
        generalize World.alloc u2 (.cells #[] 3) = u3 at *
        generalize u2.heap.size = y4 at *
        refine hK.out _ _ (HBI.out _ HCu3.out.bel) ?_
        clear hK KK
        clear HCu2
        refine heldTwo 7 8 (by kernel_rfl) rfl rfl (by rfl) (by rfl) (fun KK hK => ?_) (fun KK hK => ?_)
        · skip
          obtain ⟨v4, u4, hr4, hC4⟩ := HCu3.out.app4 hl2
          have HCu4 : Hid (Cw w1 u4 (.slice aP S.pgs.length cP) (.slice aF S.freed.length cF) (.slice aR 4 cR) S none none none (some v0) (some v4) none) := hC4
          refine oper_append (.tmp 7) (.tmp 9) 37 rfl _ _ v4 u4 rfl rfl hr4 ?_
          refine hK.out _ _ (HBI.out _ HCu4.out.bel) ?_
          clear hK KK hr4 hC4 HCu3
          refine heldOne 8 (by kernel_rfl) rfl (by rfl) (fun KK hK => ?_)
          have HCu5 := (show Hid _ from HCu4.out.build8)
          go_simp
          generalize World.alloc u4 (.cells #[] 3) = u5 at *
          generalize u4.heap.size = y8 at *
          refine hK.out _ _ (HBI.out _ HCu5.out.bel) ?_
          clear hK KK
          clear HCu4
          refine heldOne 11 (by kernel_rfl) rfl (by rfl) (fun KK hK => ?_)
          obtain ⟨v8, u6, hr8, hC8⟩ := HCu5.out.app8
          have HCu6 : Hid (Cw w1 u6 (.slice aP S.pgs.length cP) (.slice aF S.freed.length cF) (.slice aR 4 cR) S none none none (some v0) (some v4) (some v8)) := hC8
          refine oper_append (.tmp 11) (.tmp 13) 37 rfl _ _ v8 u6 rfl rfl hr8 ?_
          refine hK.out _ _ (HBI.out _ HCu6.out.bel) ?_
          clear hK KK hr8 hC8 HCu5
          obtain ⟨a0, c0, hv0⟩ := own_slice (HCu6.out.o0 v0 rfl)
          obtain ⟨a4, c4, hv4⟩ := own_slice (HCu6.out.o4 v4 rfl)
          obtain ⟨a8, c8, hv8⟩ := own_slice (HCu6.out.o8 v8 rfl)
          subst hv0 hv4 hv8
          have HS0 := (show Hid _ from HBI.out _ HCu6.out.bel)
          refine heldTake 12 (some 15) (.agg #[.slice a0 S.pgs.length c0, .slice a4 S.freed.length c4, .slice a8 4 c8]) rfl rfl (by kernel_rfl) (by kernel_rfl) (by kernel_rfl) (fun _ _ _ h => h) (Or.inl ⟨by rfl, fun w hS => ?_⟩) HS0.out ?_
          · (go_simp)
          simp only [Act.put, List.setIfInBounds_toArray]
          have HFN := (show Hid _ from cp_fin HB.out HCu6.out)
          have hrow := HB.out.out HCu6.out.bel
          have HFB := (show Hid ((sv3 u6 (w.heap.size + 1) (.slice a0 S.pgs.length c0) (.slice a4 S.freed.length c4) (.slice a8 4 c8)).heap[w.heap.size]? = _) from ((sv3_chg u6 (w.heap.size + 1) _ _ _).block _ (heap_lt (HBI.out _ HCu6.out.bel)) (fun hm => by have := List.mem_singleton.1 hm; omega)).trans (HBI.out _ HCu6.out.bel))
          have t0 : u6.cell? ⟨w.heap.size + 1, 0, none⟩ = some (.slice none 0 0) := (cell_of_row u6 _ 0 _ _ (0, 0) hrow).trans rfl
          have t1 : u6.cell? ⟨w.heap.size + 1, 1, none⟩ = some (.slice none 0 0) := (cell_of_row u6 _ 1 _ _ (0, 0) hrow).trans rfl
          have t2 : u6.cell? ⟨w.heap.size + 1, 2, none⟩ = some (.slice none 0 0) := (cell_of_row u6 _ 2 _ _ (0, 0) hrow).trans rfl
          have tz : ∀ i, u6.frozen? ⟨w.heap.size + 1, i, none⟩ = false := fun i => frozen_of_row u6 _ i _ _ hrow
          refine heldOne 13 (by kernel_rfl) rfl (by rfl) (fun KK hK => ?_)
          go_simp
          refine hK.out _ _ HFB.out ?_
          clear hK KK
          refine wpAnyH_done (by kernel_rfl) ?_ _
          go_wp2
          refine bodyPost_ret (results_st1 Tryz.results71 _ _ (w.heap.size + 1) 39 _ _ _ rfl HFN.out.1) rfl ?_
          exact HFN.out.2
        · skip
          have HCu4 := (show Hid _ from HCu3.out.build8)
          go_simp
          generalize World.alloc u3 (.cells #[] 3) = u4 at *
          generalize u3.heap.size = y8 at *
          refine hK.out _ _ (HBI.out _ HCu4.out.bel) ?_
          clear hK KK
          clear HCu3
          refine heldOne 7 (by kernel_rfl) rfl (by rfl) (fun KK hK => ?_)
          obtain ⟨v4, u5, hr4, hC4⟩ := HCu4.out.app4 hl2
          have HCu5 : Hid (Cw w1 u5 (.slice aP S.pgs.length cP) (.slice aF S.freed.length cF) (.slice aR 4 cR) S none none (some y8) (some v0) (some v4) none) := hC4
          refine oper_append (.tmp 7) (.tmp 9) 37 rfl _ _ v4 u5 rfl rfl hr4 ?_
          refine hK.out _ _ (HBI.out _ HCu5.out.bel) ?_
          clear hK KK hr4 hC4 HCu4
          refine heldOne 11 (by kernel_rfl) rfl (by rfl) (fun KK hK => ?_)
          obtain ⟨v8, u6, hr8, hC8⟩ := HCu5.out.app8
          have HCu6 : Hid (Cw w1 u6 (.slice aP S.pgs.length cP) (.slice aF S.freed.length cF) (.slice aR 4 cR) S none none none (some v0) (some v4) (some v8)) := hC8
          refine oper_append (.tmp 11) (.tmp 13) 37 rfl _ _ v8 u6 rfl rfl hr8 ?_
          refine hK.out _ _ (HBI.out _ HCu6.out.bel) ?_
          clear hK KK hr8 hC8 HCu5
          obtain ⟨a0, c0, hv0⟩ := own_slice (HCu6.out.o0 v0 rfl)
          obtain ⟨a4, c4, hv4⟩ := own_slice (HCu6.out.o4 v4 rfl)
          obtain ⟨a8, c8, hv8⟩ := own_slice (HCu6.out.o8 v8 rfl)
          subst hv0 hv4 hv8
          have HS0 := (show Hid _ from HBI.out _ HCu6.out.bel)
          refine heldTake 12 (some 15) (.agg #[.slice a0 S.pgs.length c0, .slice a4 S.freed.length c4, .slice a8 4 c8]) rfl rfl (by kernel_rfl) (by kernel_rfl) (by kernel_rfl) (fun _ _ _ h => h) (Or.inl ⟨by rfl, fun w hS => ?_⟩) HS0.out ?_
          · (go_simp)
          simp only [Act.put, List.setIfInBounds_toArray]
          have HFN := (show Hid _ from cp_fin HB.out HCu6.out)
          have hrow := HB.out.out HCu6.out.bel
          have HFB := (show Hid ((sv3 u6 (w.heap.size + 1) (.slice a0 S.pgs.length c0) (.slice a4 S.freed.length c4) (.slice a8 4 c8)).heap[w.heap.size]? = _) from ((sv3_chg u6 (w.heap.size + 1) _ _ _).block _ (heap_lt (HBI.out _ HCu6.out.bel)) (fun hm => by have := List.mem_singleton.1 hm; omega)).trans (HBI.out _ HCu6.out.bel))
          have t0 : u6.cell? ⟨w.heap.size + 1, 0, none⟩ = some (.slice none 0 0) := (cell_of_row u6 _ 0 _ _ (0, 0) hrow).trans rfl
          have t1 : u6.cell? ⟨w.heap.size + 1, 1, none⟩ = some (.slice none 0 0) := (cell_of_row u6 _ 1 _ _ (0, 0) hrow).trans rfl
          have t2 : u6.cell? ⟨w.heap.size + 1, 2, none⟩ = some (.slice none 0 0) := (cell_of_row u6 _ 2 _ _ (0, 0) hrow).trans rfl
          have tz : ∀ i, u6.frozen? ⟨w.heap.size + 1, i, none⟩ = false := fun i => frozen_of_row u6 _ i _ _ hrow
          refine heldOne 13 (by kernel_rfl) rfl (by rfl) (fun KK hK => ?_)
          go_simp
          refine hK.out _ _ HFB.out ?_
          clear hK KK
          refine wpAnyH_done (by kernel_rfl) ?_ _
          go_wp2
          refine bodyPost_ret (results_st1 Tryz.results71 _ _ (w.heap.size + 1) 39 _ _ _ rfl HFN.out.1) rfl ?_
          exact HFN.out.2
      · skip
        have HCu3 := (show Hid _ from HCu2.out.build8)
        go_simp
        generalize World.alloc u2 (.cells #[] 3) = u3 at *
        generalize u2.heap.size = y8 at *
        refine hK.out _ _ (HBI.out _ HCu3.out.bel) ?_
        clear hK KK
        clear HCu2
        refine heldOne 4 (by kernel_rfl) rfl (by rfl) (fun KK hK => ?_)
        have HCu4 := (show Hid _ from HCu3.out.build4)
        go_simp
        generalize World.alloc u3 (.cells #[] 3) = u4 at *
        generalize u3.heap.size = y4 at *
        refine hK.out _ _ (HBI.out _ HCu4.out.bel) ?_
        clear hK KK
        clear HCu3
        refine heldOne 7 (by kernel_rfl) rfl (by rfl) (fun KK hK => ?_)
        obtain ⟨v4, u5, hr4, hC4⟩ := HCu4.out.app4 hl2
        have HCu5 : Hid (Cw w1 u5 (.slice aP S.pgs.length cP) (.slice aF S.freed.length cF) (.slice aR 4 cR) S none none (some y8) (some v0) (some v4) none) := hC4
        refine oper_append (.tmp 7) (.tmp 9) 37 rfl _ _ v4 u5 rfl rfl hr4 ?_
        refine hK.out _ _ (HBI.out _ HCu5.out.bel) ?_
        clear hK KK hr4 hC4 HCu4
        refine heldOne 11 (by kernel_rfl) rfl (by rfl) (fun KK hK => ?_)
        obtain ⟨v8, u6, hr8, hC8⟩ := HCu5.out.app8
        have HCu6 : Hid (Cw w1 u6 (.slice aP S.pgs.length cP) (.slice aF S.freed.length cF) (.slice aR 4 cR) S none none none (some v0) (some v4) (some v8)) := hC8
        refine oper_append (.tmp 11) (.tmp 13) 37 rfl _ _ v8 u6 rfl rfl hr8 ?_
        refine hK.out _ _ (HBI.out _ HCu6.out.bel) ?_
        clear hK KK hr8 hC8 HCu5
        obtain ⟨a0, c0, hv0⟩ := own_slice (HCu6.out.o0 v0 rfl)
        obtain ⟨a4, c4, hv4⟩ := own_slice (HCu6.out.o4 v4 rfl)
        obtain ⟨a8, c8, hv8⟩ := own_slice (HCu6.out.o8 v8 rfl)
        subst hv0 hv4 hv8
        have HS0 := (show Hid _ from HBI.out _ HCu6.out.bel)
        refine heldTake 12 (some 15) (.agg #[.slice a0 S.pgs.length c0, .slice a4 S.freed.length c4, .slice a8 4 c8]) rfl rfl (by kernel_rfl) (by kernel_rfl) (by kernel_rfl) (fun _ _ _ h => h) (Or.inl ⟨by rfl, fun w hS => ?_⟩) HS0.out ?_
        · (go_simp)
        simp only [Act.put, List.setIfInBounds_toArray]
        have HFN := (show Hid _ from cp_fin HB.out HCu6.out)
        have hrow := HB.out.out HCu6.out.bel
        have HFB := (show Hid ((sv3 u6 (w.heap.size + 1) (.slice a0 S.pgs.length c0) (.slice a4 S.freed.length c4) (.slice a8 4 c8)).heap[w.heap.size]? = _) from ((sv3_chg u6 (w.heap.size + 1) _ _ _).block _ (heap_lt (HBI.out _ HCu6.out.bel)) (fun hm => by have := List.mem_singleton.1 hm; omega)).trans (HBI.out _ HCu6.out.bel))
        have t0 : u6.cell? ⟨w.heap.size + 1, 0, none⟩ = some (.slice none 0 0) := (cell_of_row u6 _ 0 _ _ (0, 0) hrow).trans rfl
        have t1 : u6.cell? ⟨w.heap.size + 1, 1, none⟩ = some (.slice none 0 0) := (cell_of_row u6 _ 1 _ _ (0, 0) hrow).trans rfl
        have t2 : u6.cell? ⟨w.heap.size + 1, 2, none⟩ = some (.slice none 0 0) := (cell_of_row u6 _ 2 _ _ (0, 0) hrow).trans rfl
        have tz : ∀ i, u6.frozen? ⟨w.heap.size + 1, i, none⟩ = false := fun i => frozen_of_row u6 _ i _ _ hrow
        refine heldOne 13 (by kernel_rfl) rfl (by rfl) (fun KK hK => ?_)
        go_simp
        refine hK.out _ _ HFB.out ?_
        clear hK KK
        refine wpAnyH_done (by kernel_rfl) ?_ _
        go_wp2
        refine bodyPost_ret (results_st1 Tryz.results71 _ _ (w.heap.size + 1) 39 _ _ _ rfl HFN.out.1) rfl ?_
        exact HFN.out.2
    · skip
      have HCu2 := (show Hid _ from HCu1.out.build4)
      go_simp
      generalize World.alloc u1 (.cells #[] 3) = u2 at *
      generalize u1.heap.size = y4 at *
      refine hK.out _ _ (HBI.out _ HCu2.out.bel) ?_
      clear hK KK
      clear HCu1
      refine heldTwo 3 8 (by kernel_rfl) rfl rfl (by rfl) (by rfl) (fun KK hK => ?_) (fun KK hK => ?_)
      · skip
        obtain ⟨v0, u3, hr0, hC0⟩ := HCu2.out.app0 hpos hl1
        have HCu3 : Hid (Cw w1 u3 (.slice aP S.pgs.length cP) (.slice aF S.freed.length cF) (.slice aR 4 cR) S none (some y4) none (some v0) none none) := hC0
        refine oper_append (.tmp 3) (.tmp 5) 36 rfl _ _ v0 u3 rfl rfl hr0 ?_
        refine hK.out _ _ (HBI.out _ HCu3.out.bel) ?_
        clear hK KK hr0 hC0 HCu2
        refine heldTwo 7 8 (by kernel_rfl) rfl rfl (by rfl) (by rfl) (fun KK hK => ?_) (fun KK hK => ?_)
        · skip
          obtain ⟨v4, u4, hr4, hC4⟩ := HCu3.out.app4 hl2
          have HCu4 : Hid (Cw w1 u4 (.slice aP S.pgs.length cP) (.slice aF S.freed.length cF) (.slice aR 4 cR) S none none none (some v0) (some v4) none) := hC4
          refine oper_append (.tmp 7) (.tmp 9) 37 rfl _ _ v4 u4 rfl rfl hr4 ?_
          refine hK.out _ _ (HBI.out _ HCu4.out.bel) ?_
          clear hK KK hr4 hC4 HCu3
          refine heldOne 8 (by kernel_rfl) rfl (by rfl) (fun KK hK => ?_)
          have HCu5 := (show Hid _ from HCu4.out.build8)
          go_simp
          generalize World.alloc u4 (.cells #[] 3) = u5 at *
          generalize u4.heap.size = y8 at *
          refine hK.out _ _ (HBI.out _ HCu5.out.bel) ?_
          clear hK KK
          clear HCu4
          refine heldOne 11 (by kernel_rfl) rfl (by rfl) (fun KK hK => ?_)
          obtain ⟨v8, u6, hr8, hC8⟩ := HCu5.out.app8
          have HCu6 : Hid (Cw w1 u6 (.slice aP S.pgs.length cP) (.slice aF S.freed.length cF) (.slice aR 4 cR) S none none none (some v0) (some v4) (some v8)) := hC8
          refine oper_append (.tmp 11) (.tmp 13) 37 rfl _ _ v8 u6 rfl rfl hr8 ?_
          refine hK.out _ _ (HBI.out _ HCu6.out.bel) ?_
          clear hK KK hr8 hC8 HCu5
          obtain ⟨a0, c0, hv0⟩ := own_slice (HCu6.out.o0 v0 rfl)
          obtain ⟨a4, c4, hv4⟩ := own_slice (HCu6.out.o4 v4 rfl)
          obtain ⟨a8, c8, hv8⟩ := own_slice (HCu6.out.o8 v8 rfl)
          subst hv0 hv4 hv8
          have HS0 := (show Hid _ from HBI.out _ HCu6.out.bel)
          refine heldTake 12 (some 15) (.agg #[.slice a0 S.pgs.length c0, .slice a4 S.freed.length c4, .slice a8 4 c8]) rfl rfl (by kernel_rfl) (by kernel_rfl) (by kernel_rfl) (fun _ _ _ h => h) (Or.inl ⟨by rfl, fun w hS => ?_⟩) HS0.out ?_
          · (go_simp)
          simp only [Act.put, List.setIfInBounds_toArray]
          have HFN := (show Hid _ from cp_fin HB.out HCu6.out)
          have hrow := HB.out.out HCu6.out.bel
          have HFB := (show Hid ((sv3 u6 (w.heap.size + 1) (.slice a0 S.pgs.length c0) (.slice a4 S.freed.length c4) (.slice a8 4 c8)).heap[w.heap.size]? = _) from ((sv3_chg u6 (w.heap.size + 1) _ _ _).block _ (heap_lt (HBI.out _ HCu6.out.bel)) (fun hm => by have := List.mem_singleton.1 hm; omega)).trans (HBI.out _ HCu6.out.bel))
          have t0 : u6.cell? ⟨w.heap.size + 1, 0, none⟩ = some (.slice none 0 0) := (cell_of_row u6 _ 0 _ _ (0, 0) hrow).trans rfl
          have t1 : u6.cell? ⟨w.heap.size + 1, 1, none⟩ = some (.slice none 0 0) := (cell_of_row u6 _ 1 _ _ (0, 0) hrow).trans rfl
          have t2 : u6.cell? ⟨w.heap.size + 1, 2, none⟩ = some (.slice none 0 0) := (cell_of_row u6 _ 2 _ _ (0, 0) hrow).trans rfl
          have tz : ∀ i, u6.frozen? ⟨w.heap.size + 1, i, none⟩ = false := fun i => frozen_of_row u6 _ i _ _ hrow
          refine heldOne 13 (by kernel_rfl) rfl (by rfl) (fun KK hK => ?_)
          go_simp
          refine hK.out _ _ HFB.out ?_
          clear hK KK
          refine wpAnyH_done (by kernel_rfl) ?_ _
          go_wp2
          refine bodyPost_ret (results_st1 Tryz.results71 _ _ (w.heap.size + 1) 39 _ _ _ rfl HFN.out.1) rfl ?_
          exact HFN.out.2
        · skip
          have HCu4 := (show Hid _ from HCu3.out.build8)
          go_simp
          generalize World.alloc u3 (.cells #[] 3) = u4 at *
          generalize u3.heap.size = y8 at *
          refine hK.out _ _ (HBI.out _ HCu4.out.bel) ?_
          clear hK KK
          clear HCu3
          refine heldOne 7 (by kernel_rfl) rfl (by rfl) (fun KK hK => ?_)
          obtain ⟨v4, u5, hr4, hC4⟩ := HCu4.out.app4 hl2
          have HCu5 : Hid (Cw w1 u5 (.slice aP S.pgs.length cP) (.slice aF S.freed.length cF) (.slice aR 4 cR) S none none (some y8) (some v0) (some v4) none) := hC4
          refine oper_append (.tmp 7) (.tmp 9) 37 rfl _ _ v4 u5 rfl rfl hr4 ?_
          refine hK.out _ _ (HBI.out _ HCu5.out.bel) ?_
          clear hK KK hr4 hC4 HCu4
          refine heldOne 11 (by kernel_rfl) rfl (by rfl) (fun KK hK => ?_)
          obtain ⟨v8, u6, hr8, hC8⟩ := HCu5.out.app8
          have HCu6 : Hid (Cw w1 u6 (.slice aP S.pgs.length cP) (.slice aF S.freed.length cF) (.slice aR 4 cR) S none none none (some v0) (some v4) (some v8)) := hC8
          refine oper_append (.tmp 11) (.tmp 13) 37 rfl _ _ v8 u6 rfl rfl hr8 ?_
          refine hK.out _ _ (HBI.out _ HCu6.out.bel) ?_
          clear hK KK hr8 hC8 HCu5
          obtain ⟨a0, c0, hv0⟩ := own_slice (HCu6.out.o0 v0 rfl)
          obtain ⟨a4, c4, hv4⟩ := own_slice (HCu6.out.o4 v4 rfl)
          obtain ⟨a8, c8, hv8⟩ := own_slice (HCu6.out.o8 v8 rfl)
          subst hv0 hv4 hv8
          have HS0 := (show Hid _ from HBI.out _ HCu6.out.bel)
          refine heldTake 12 (some 15) (.agg #[.slice a0 S.pgs.length c0, .slice a4 S.freed.length c4, .slice a8 4 c8]) rfl rfl (by kernel_rfl) (by kernel_rfl) (by kernel_rfl) (fun _ _ _ h => h) (Or.inl ⟨by rfl, fun w hS => ?_⟩) HS0.out ?_
          · (go_simp)
          simp only [Act.put, List.setIfInBounds_toArray]
          have HFN := (show Hid _ from cp_fin HB.out HCu6.out)
          have hrow := HB.out.out HCu6.out.bel
          have HFB := (show Hid ((sv3 u6 (w.heap.size + 1) (.slice a0 S.pgs.length c0) (.slice a4 S.freed.length c4) (.slice a8 4 c8)).heap[w.heap.size]? = _) from ((sv3_chg u6 (w.heap.size + 1) _ _ _).block _ (heap_lt (HBI.out _ HCu6.out.bel)) (fun hm => by have := List.mem_singleton.1 hm; omega)).trans (HBI.out _ HCu6.out.bel))
          have t0 : u6.cell? ⟨w.heap.size + 1, 0, none⟩ = some (.slice none 0 0) := (cell_of_row u6 _ 0 _ _ (0, 0) hrow).trans rfl
          have t1 : u6.cell? ⟨w.heap.size + 1, 1, none⟩ = some (.slice none 0 0) := (cell_of_row u6 _ 1 _ _ (0, 0) hrow).trans rfl
          have t2 : u6.cell? ⟨w.heap.size + 1, 2, none⟩ = some (.slice none 0 0) := (cell_of_row u6 _ 2 _ _ (0, 0) hrow).trans rfl
          have tz : ∀ i, u6.frozen? ⟨w.heap.size + 1, i, none⟩ = false := fun i => frozen_of_row u6 _ i _ _ hrow
          refine heldOne 13 (by kernel_rfl) rfl (by rfl) (fun KK hK => ?_)
          go_simp
          refine hK.out _ _ HFB.out ?_
          clear hK KK
          refine wpAnyH_done (by kernel_rfl) ?_ _
          go_wp2
          refine bodyPost_ret (results_st1 Tryz.results71 _ _ (w.heap.size + 1) 39 _ _ _ rfl HFN.out.1) rfl ?_
          exact HFN.out.2
      · skip
        have HCu3 := (show Hid _ from HCu2.out.build8)
        go_simp
        generalize World.alloc u2 (.cells #[] 3) = u3 at *
        generalize u2.heap.size = y8 at *
        refine hK.out _ _ (HBI.out _ HCu3.out.bel) ?_
        clear hK KK
        clear HCu2
        refine heldOne 3 (by kernel_rfl) rfl (by rfl) (fun KK hK => ?_)
        obtain ⟨v0, u4, hr0, hC0⟩ := HCu3.out.app0 hpos hl1
        have HCu4 : Hid (Cw w1 u4 (.slice aP S.pgs.length cP) (.slice aF S.freed.length cF) (.slice aR 4 cR) S none (some y4) (some y8) (some v0) none none) := hC0
        refine oper_append (.tmp 3) (.tmp 5) 36 rfl _ _ v0 u4 rfl rfl hr0 ?_
        refine hK.out _ _ (HBI.out _ HCu4.out.bel) ?_
        clear hK KK hr0 hC0 HCu3
        refine heldOne 7 (by kernel_rfl) rfl (by rfl) (fun KK hK => ?_)
        obtain ⟨v4, u5, hr4, hC4⟩ := HCu4.out.app4 hl2
        have HCu5 : Hid (Cw w1 u5 (.slice aP S.pgs.length cP) (.slice aF S.freed.length cF) (.slice aR 4 cR) S none none (some y8) (some v0) (some v4) none) := hC4
        refine oper_append (.tmp 7) (.tmp 9) 37 rfl _ _ v4 u5 rfl rfl hr4 ?_
        refine hK.out _ _ (HBI.out _ HCu5.out.bel) ?_
        clear hK KK hr4 hC4 HCu4
        refine heldOne 11 (by kernel_rfl) rfl (by rfl) (fun KK hK => ?_)
        obtain ⟨v8, u6, hr8, hC8⟩ := HCu5.out.app8
        have HCu6 : Hid (Cw w1 u6 (.slice aP S.pgs.length cP) (.slice aF S.freed.length cF) (.slice aR 4 cR) S none none none (some v0) (some v4) (some v8)) := hC8
        refine oper_append (.tmp 11) (.tmp 13) 37 rfl _ _ v8 u6 rfl rfl hr8 ?_
        refine hK.out _ _ (HBI.out _ HCu6.out.bel) ?_
        clear hK KK hr8 hC8 HCu5
        obtain ⟨a0, c0, hv0⟩ := own_slice (HCu6.out.o0 v0 rfl)
        obtain ⟨a4, c4, hv4⟩ := own_slice (HCu6.out.o4 v4 rfl)
        obtain ⟨a8, c8, hv8⟩ := own_slice (HCu6.out.o8 v8 rfl)
        subst hv0 hv4 hv8
        have HS0 := (show Hid _ from HBI.out _ HCu6.out.bel)
        refine heldTake 12 (some 15) (.agg #[.slice a0 S.pgs.length c0, .slice a4 S.freed.length c4, .slice a8 4 c8]) rfl rfl (by kernel_rfl) (by kernel_rfl) (by kernel_rfl) (fun _ _ _ h => h) (Or.inl ⟨by rfl, fun w hS => ?_⟩) HS0.out ?_
        · (go_simp)
        simp only [Act.put, List.setIfInBounds_toArray]
        have HFN := (show Hid _ from cp_fin HB.out HCu6.out)
        have hrow := HB.out.out HCu6.out.bel
        have HFB := (show Hid ((sv3 u6 (w.heap.size + 1) (.slice a0 S.pgs.length c0) (.slice a4 S.freed.length c4) (.slice a8 4 c8)).heap[w.heap.size]? = _) from ((sv3_chg u6 (w.heap.size + 1) _ _ _).block _ (heap_lt (HBI.out _ HCu6.out.bel)) (fun hm => by have := List.mem_singleton.1 hm; omega)).trans (HBI.out _ HCu6.out.bel))
        have t0 : u6.cell? ⟨w.heap.size + 1, 0, none⟩ = some (.slice none 0 0) := (cell_of_row u6 _ 0 _ _ (0, 0) hrow).trans rfl
        have t1 : u6.cell? ⟨w.heap.size + 1, 1, none⟩ = some (.slice none 0 0) := (cell_of_row u6 _ 1 _ _ (0, 0) hrow).trans rfl
        have t2 : u6.cell? ⟨w.heap.size + 1, 2, none⟩ = some (.slice none 0 0) := (cell_of_row u6 _ 2 _ _ (0, 0) hrow).trans rfl
        have tz : ∀ i, u6.frozen? ⟨w.heap.size + 1, i, none⟩ = false := fun i => frozen_of_row u6 _ i _ _ hrow
        refine heldOne 13 (by kernel_rfl) rfl (by rfl) (fun KK hK => ?_)
        go_simp
        refine hK.out _ _ HFB.out ?_
        clear hK KK
        refine wpAnyH_done (by kernel_rfl) ?_ _
        go_wp2
        refine bodyPost_ret (results_st1 Tryz.results71 _ _ (w.heap.size + 1) 39 _ _ _ rfl HFN.out.1) rfl ?_
        exact HFN.out.2
    · skip
      have HCu2 := (show Hid _ from HCu1.out.build8)
      go_simp
      generalize World.alloc u1 (.cells #[] 3) = u2 at *
      generalize u1.heap.size = y8 at *
      refine hK.out _ _ (HBI.out _ HCu2.out.bel) ?_
      clear hK KK
      clear HCu1
      refine heldTwo 3 4 (by kernel_rfl) rfl rfl (by rfl) (by rfl) (fun KK hK => ?_) (fun KK hK => ?_)
      · skip
        obtain ⟨v0, u3, hr0, hC0⟩ := HCu2.out.app0 hpos hl1
        have HCu3 : Hid (Cw w1 u3 (.slice aP S.pgs.length cP) (.slice aF S.freed.length cF) (.slice aR 4 cR) S none none (some y8) (some v0) none none) := hC0
        refine oper_append (.tmp 3) (.tmp 5) 36 rfl _ _ v0 u3 rfl rfl hr0 ?_
        refine hK.out _ _ (HBI.out _ HCu3.out.bel) ?_
        clear hK KK hr0 hC0 HCu2
        refine heldOne 4 (by kernel_rfl) rfl (by rfl) (fun KK hK => ?_)
        have HCu4 := (show Hid _ from HCu3.out.build4)
        go_simp
        generalize World.alloc u3 (.cells #[] 3) = u4 at *
        generalize u3.heap.size = y4 at *
        refine hK.out _ _ (HBI.out _ HCu4.out.bel) ?_
        clear hK KK
        clear HCu3
        refine heldOne 7 (by kernel_rfl) rfl (by rfl) (fun KK hK => ?_)
        obtain ⟨v4, u5, hr4, hC4⟩ := HCu4.out.app4 hl2
        have HCu5 : Hid (Cw w1 u5 (.slice aP S.pgs.length cP) (.slice aF S.freed.length cF) (.slice aR 4 cR) S none none (some y8) (some v0) (some v4) none) := hC4
        refine oper_append (.tmp 7) (.tmp 9) 37 rfl _ _ v4 u5 rfl rfl hr4 ?_
        refine hK.out _ _ (HBI.out _ HCu5.out.bel) ?_
        clear hK KK hr4 hC4 HCu4
        refine heldOne 11 (by kernel_rfl) rfl (by rfl) (fun KK hK => ?_)
        obtain ⟨v8, u6, hr8, hC8⟩ := HCu5.out.app8
        have HCu6 : Hid (Cw w1 u6 (.slice aP S.pgs.length cP) (.slice aF S.freed.length cF) (.slice aR 4 cR) S none none none (some v0) (some v4) (some v8)) := hC8
        refine oper_append (.tmp 11) (.tmp 13) 37 rfl _ _ v8 u6 rfl rfl hr8 ?_
        refine hK.out _ _ (HBI.out _ HCu6.out.bel) ?_
        clear hK KK hr8 hC8 HCu5
        obtain ⟨a0, c0, hv0⟩ := own_slice (HCu6.out.o0 v0 rfl)
        obtain ⟨a4, c4, hv4⟩ := own_slice (HCu6.out.o4 v4 rfl)
        obtain ⟨a8, c8, hv8⟩ := own_slice (HCu6.out.o8 v8 rfl)
        subst hv0 hv4 hv8
        have HS0 := (show Hid _ from HBI.out _ HCu6.out.bel)
        refine heldTake 12 (some 15) (.agg #[.slice a0 S.pgs.length c0, .slice a4 S.freed.length c4, .slice a8 4 c8]) rfl rfl (by kernel_rfl) (by kernel_rfl) (by kernel_rfl) (fun _ _ _ h => h) (Or.inl ⟨by rfl, fun w hS => ?_⟩) HS0.out ?_
        · (go_simp)
        simp only [Act.put, List.setIfInBounds_toArray]
        have HFN := (show Hid _ from cp_fin HB.out HCu6.out)
        have hrow := HB.out.out HCu6.out.bel
        have HFB := (show Hid ((sv3 u6 (w.heap.size + 1) (.slice a0 S.pgs.length c0) (.slice a4 S.freed.length c4) (.slice a8 4 c8)).heap[w.heap.size]? = _) from ((sv3_chg u6 (w.heap.size + 1) _ _ _).block _ (heap_lt (HBI.out _ HCu6.out.bel)) (fun hm => by have := List.mem_singleton.1 hm; omega)).trans (HBI.out _ HCu6.out.bel))
        have t0 : u6.cell? ⟨w.heap.size + 1, 0, none⟩ = some (.slice none 0 0) := (cell_of_row u6 _ 0 _ _ (0, 0) hrow).trans rfl
        have t1 : u6.cell? ⟨w.heap.size + 1, 1, none⟩ = some (.slice none 0 0) := (cell_of_row u6 _ 1 _ _ (0, 0) hrow).trans rfl
        have t2 : u6.cell? ⟨w.heap.size + 1, 2, none⟩ = some (.slice none 0 0) := (cell_of_row u6 _ 2 _ _ (0, 0) hrow).trans rfl
        have tz : ∀ i, u6.frozen? ⟨w.heap.size + 1, i, none⟩ = false := fun i => frozen_of_row u6 _ i _ _ hrow
        refine heldOne 13 (by kernel_rfl) rfl (by rfl) (fun KK hK => ?_)
        go_simp
        refine hK.out _ _ HFB.out ?_
        clear hK KK
        refine wpAnyH_done (by kernel_rfl) ?_ _
        go_wp2
        refine bodyPost_ret (results_st1 Tryz.results71 _ _ (w.heap.size + 1) 39 _ _ _ rfl HFN.out.1) rfl ?_
        exact HFN.out.2
      · skip
        have HCu3 := (show Hid _ from HCu2.out.build4)
        go_simp
        generalize World.alloc u2 (.cells #[] 3) = u3 at *
        generalize u2.heap.size = y4 at *
        refine hK.out _ _ (HBI.out _ HCu3.out.bel) ?_
        clear hK KK
        clear HCu2
        refine heldOne 3 (by kernel_rfl) rfl (by rfl) (fun KK hK => ?_)
        obtain ⟨v0, u4, hr0, hC0⟩ := HCu3.out.app0 hpos hl1
        have HCu4 : Hid (Cw w1 u4 (.slice aP S.pgs.length cP) (.slice aF S.freed.length cF) (.slice aR 4 cR) S none (some y4) (some y8) (some v0) none none) := hC0
        refine oper_append (.tmp 3) (.tmp 5) 36 rfl _ _ v0 u4 rfl rfl hr0 ?_
        refine hK.out _ _ (HBI.out _ HCu4.out.bel) ?_
        clear hK KK hr0 hC0 HCu3
        refine heldOne 7 (by kernel_rfl) rfl (by rfl) (fun KK hK => ?_)
        obtain ⟨v4, u5, hr4, hC4⟩ := HCu4.out.app4 hl2
        have HCu5 : Hid (Cw w1 u5 (.slice aP S.pgs.length cP) (.slice aF S.freed.length cF) (.slice aR 4 cR) S none none (some y8) (some v0) (some v4) none) := hC4
        refine oper_append (.tmp 7) (.tmp 9) 37 rfl _ _ v4 u5 rfl rfl hr4 ?_
        refine hK.out _ _ (HBI.out _ HCu5.out.bel) ?_
        clear hK KK hr4 hC4 HCu4
        refine heldOne 11 (by kernel_rfl) rfl (by rfl) (fun KK hK => ?_)
        obtain ⟨v8, u6, hr8, hC8⟩ := HCu5.out.app8
        have HCu6 : Hid (Cw w1 u6 (.slice aP S.pgs.length cP) (.slice aF S.freed.length cF) (.slice aR 4 cR) S none none none (some v0) (some v4) (some v8)) := hC8
        refine oper_append (.tmp 11) (.tmp 13) 37 rfl _ _ v8 u6 rfl rfl hr8 ?_
        refine hK.out _ _ (HBI.out _ HCu6.out.bel) ?_
        clear hK KK hr8 hC8 HCu5
        obtain ⟨a0, c0, hv0⟩ := own_slice (HCu6.out.o0 v0 rfl)
        obtain ⟨a4, c4, hv4⟩ := own_slice (HCu6.out.o4 v4 rfl)
        obtain ⟨a8, c8, hv8⟩ := own_slice (HCu6.out.o8 v8 rfl)
        subst hv0 hv4 hv8
        have HS0 := (show Hid _ from HBI.out _ HCu6.out.bel)
        refine heldTake 12 (some 15) (.agg #[.slice a0 S.pgs.length c0, .slice a4 S.freed.length c4, .slice a8 4 c8]) rfl rfl (by kernel_rfl) (by kernel_rfl) (by kernel_rfl) (fun _ _ _ h => h) (Or.inl ⟨by rfl, fun w hS => ?_⟩) HS0.out ?_
        · (go_simp)
        simp only [Act.put, List.setIfInBounds_toArray]
        have HFN := (show Hid _ from cp_fin HB.out HCu6.out)
        have hrow := HB.out.out HCu6.out.bel
        have HFB := (show Hid ((sv3 u6 (w.heap.size + 1) (.slice a0 S.pgs.length c0) (.slice a4 S.freed.length c4) (.slice a8 4 c8)).heap[w.heap.size]? = _) from ((sv3_chg u6 (w.heap.size + 1) _ _ _).block _ (heap_lt (HBI.out _ HCu6.out.bel)) (fun hm => by have := List.mem_singleton.1 hm; omega)).trans (HBI.out _ HCu6.out.bel))
        have t0 : u6.cell? ⟨w.heap.size + 1, 0, none⟩ = some (.slice none 0 0) := (cell_of_row u6 _ 0 _ _ (0, 0) hrow).trans rfl
        have t1 : u6.cell? ⟨w.heap.size + 1, 1, none⟩ = some (.slice none 0 0) := (cell_of_row u6 _ 1 _ _ (0, 0) hrow).trans rfl
        have t2 : u6.cell? ⟨w.heap.size + 1, 2, none⟩ = some (.slice none 0 0) := (cell_of_row u6 _ 2 _ _ (0, 0) hrow).trans rfl
        have tz : ∀ i, u6.frozen? ⟨w.heap.size + 1, i, none⟩ = false := fun i => frozen_of_row u6 _ i _ _ hrow
        refine heldOne 13 (by kernel_rfl) rfl (by rfl) (fun KK hK => ?_)
        go_simp
        refine hK.out _ _ HFB.out ?_
        clear hK KK
        refine wpAnyH_done (by kernel_rfl) ?_ _
        go_wp2
        refine bodyPost_ret (results_st1 Tryz.results71 _ _ (w.heap.size + 1) 39 _ _ _ rfl HFN.out.1) rfl ?_
        exact HFN.out.2
  · skip
    have HCu1 := (show Hid _ from HCu0.out.build4)
    go_simp
    generalize World.alloc u0 (.cells #[] 3) = u1 at *
    generalize u0.heap.size = y4 at *
    refine hK.out _ _ (HBI.out _ HCu1.out.bel) ?_
    clear hK KK
    clear HCu0
    refine heldTwo 0 8 (by kernel_rfl) rfl rfl (by rfl) (by rfl) (fun KK hK => ?_) (fun KK hK => ?_)
    · skip
      have HCu2 := (show Hid _ from HCu1.out.build0)
      go_simp
      generalize World.alloc u1 (.cells #[] 83) = u2 at *
      generalize u1.heap.size = y0 at *
      refine hK.out _ _ (HBI.out _ HCu2.out.bel) ?_
      clear hK KK
      clear HCu1
      refine heldTwo 3 8 (by kernel_rfl) rfl rfl (by rfl) (by rfl) (fun KK hK => ?_) (fun KK hK => ?_)
      · skip
        obtain ⟨v0, u3, hr0, hC0⟩ := HCu2.out.app0 hpos hl1
        have HCu3 : Hid (Cw w1 u3 (.slice aP S.pgs.length cP) (.slice aF S.freed.length cF) (.slice aR 4 cR) S none (some y4) none (some v0) none none) := hC0
        refine oper_append (.tmp 3) (.tmp 5) 36 rfl _ _ v0 u3 rfl rfl hr0 ?_
        refine hK.out _ _ (HBI.out _ HCu3.out.bel) ?_
        clear hK KK hr0 hC0 HCu2
        refine heldTwo 7 8 (by kernel_rfl) rfl rfl (by rfl) (by rfl) (fun KK hK => ?_) (fun KK hK => ?_)
        · skip
          obtain ⟨v4, u4, hr4, hC4⟩ := HCu3.out.app4 hl2
          have HCu4 : Hid (Cw w1 u4 (.slice aP S.pgs.length cP) (.slice aF S.freed.length cF) (.slice aR 4 cR) S none none none (some v0) (some v4) none) := hC4
          refine oper_append (.tmp 7) (.tmp 9) 37 rfl _ _ v4 u4 rfl rfl hr4 ?_
          refine hK.out _ _ (HBI.out _ HCu4.out.bel) ?_
          clear hK KK hr4 hC4 HCu3
          refine heldOne 8 (by kernel_rfl) rfl (by rfl) (fun KK hK => ?_)
          have HCu5 := (show Hid _ from HCu4.out.build8)
          go_simp
          generalize World.alloc u4 (.cells #[] 3) = u5 at *
          generalize u4.heap.size = y8 at *
          refine hK.out _ _ (HBI.out _ HCu5.out.bel) ?_
          clear hK KK
          clear HCu4
          refine heldOne 11 (by kernel_rfl) rfl (by rfl) (fun KK hK => ?_)
          obtain ⟨v8, u6, hr8, hC8⟩ := HCu5.out.app8
          have HCu6 : Hid (Cw w1 u6 (.slice aP S.pgs.length cP) (.slice aF S.freed.length cF) (.slice aR 4 cR) S none none none (some v0) (some v4) (some v8)) := hC8
          refine oper_append (.tmp 11) (.tmp 13) 37 rfl _ _ v8 u6 rfl rfl hr8 ?_
          refine hK.out _ _ (HBI.out _ HCu6.out.bel) ?_
          clear hK KK hr8 hC8 HCu5
          obtain ⟨a0, c0, hv0⟩ := own_slice (HCu6.out.o0 v0 rfl)
          obtain ⟨a4, c4, hv4⟩ := own_slice (HCu6.out.o4 v4 rfl)
          obtain ⟨a8, c8, hv8⟩ := own_slice (HCu6.out.o8 v8 rfl)
          subst hv0 hv4 hv8
          have HS0 := (show Hid _ from HBI.out _ HCu6.out.bel)
          refine heldTake 12 (some 15) (.agg #[.slice a0 S.pgs.length c0, .slice a4 S.freed.length c4, .slice a8 4 c8]) rfl rfl (by kernel_rfl) (by kernel_rfl) (by kernel_rfl) (fun _ _ _ h => h) (Or.inl ⟨by rfl, fun w hS => ?_⟩) HS0.out ?_
          · (go_simp)
          simp only [Act.put, List.setIfInBounds_toArray]
          have HFN := (show Hid _ from cp_fin HB.out HCu6.out)
          have hrow := HB.out.out HCu6.out.bel
          have HFB := (show Hid ((sv3 u6 (w.heap.size + 1) (.slice a0 S.pgs.length c0) (.slice a4 S.freed.length c4) (.slice a8 4 c8)).heap[w.heap.size]? = _) from ((sv3_chg u6 (w.heap.size + 1) _ _ _).block _ (heap_lt (HBI.out _ HCu6.out.bel)) (fun hm => by have := List.mem_singleton.1 hm; omega)).trans (HBI.out _ HCu6.out.bel))
          have t0 : u6.cell? ⟨w.heap.size + 1, 0, none⟩ = some (.slice none 0 0) := (cell_of_row u6 _ 0 _ _ (0, 0) hrow).trans rfl
          have t1 : u6.cell? ⟨w.heap.size + 1, 1, none⟩ = some (.slice none 0 0) := (cell_of_row u6 _ 1 _ _ (0, 0) hrow).trans rfl
          have t2 : u6.cell? ⟨w.heap.size + 1, 2, none⟩ = some (.slice none 0 0) := (cell_of_row u6 _ 2 _ _ (0, 0) hrow).trans rfl
          have tz : ∀ i, u6.frozen? ⟨w.heap.size + 1, i, none⟩ = false := fun i => frozen_of_row u6 _ i _ _ hrow
          refine heldOne 13 (by kernel_rfl) rfl (by rfl) (fun KK hK => ?_)
          go_simp
          refine hK.out _ _ HFB.out ?_
          clear hK KK
          refine wpAnyH_done (by kernel_rfl) ?_ _
          go_wp2
          refine bodyPost_ret (results_st1 Tryz.results71 _ _ (w.heap.size + 1) 39 _ _ _ rfl HFN.out.1) rfl ?_
          exact HFN.out.2
        · skip
          have HCu4 := (show Hid _ from HCu3.out.build8)
          go_simp
          generalize World.alloc u3 (.cells #[] 3) = u4 at *
          generalize u3.heap.size = y8 at *
          refine hK.out _ _ (HBI.out _ HCu4.out.bel) ?_
          clear hK KK
          clear HCu3
          refine heldOne 7 (by kernel_rfl) rfl (by rfl) (fun KK hK => ?_)
          obtain ⟨v4, u5, hr4, hC4⟩ := HCu4.out.app4 hl2
          have HCu5 : Hid (Cw w1 u5 (.slice aP S.pgs.length cP) (.slice aF S.freed.length cF) (.slice aR 4 cR) S none none (some y8) (some v0) (some v4) none) := hC4
          refine oper_append (.tmp 7) (.tmp 9) 37 rfl _ _ v4 u5 rfl rfl hr4 ?_
          refine hK.out _ _ (HBI.out _ HCu5.out.bel) ?_
          clear hK KK hr4 hC4 HCu4
          refine heldOne 11 (by kernel_rfl) rfl (by rfl) (fun KK hK => ?_)
          obtain ⟨v8, u6, hr8, hC8⟩ := HCu5.out.app8
          have HCu6 : Hid (Cw w1 u6 (.slice aP S.pgs.length cP) (.slice aF S.freed.length cF) (.slice aR 4 cR) S none none none (some v0) (some v4) (some v8)) := hC8
          refine oper_append (.tmp 11) (.tmp 13) 37 rfl _ _ v8 u6 rfl rfl hr8 ?_
          refine hK.out _ _ (HBI.out _ HCu6.out.bel) ?_
          clear hK KK hr8 hC8 HCu5
          obtain ⟨a0, c0, hv0⟩ := own_slice (HCu6.out.o0 v0 rfl)
          obtain ⟨a4, c4, hv4⟩ := own_slice (HCu6.out.o4 v4 rfl)
          obtain ⟨a8, c8, hv8⟩ := own_slice (HCu6.out.o8 v8 rfl)
          subst hv0 hv4 hv8
          have HS0 := (show Hid _ from HBI.out _ HCu6.out.bel)
          refine heldTake 12 (some 15) (.agg #[.slice a0 S.pgs.length c0, .slice a4 S.freed.length c4, .slice a8 4 c8]) rfl rfl (by kernel_rfl) (by kernel_rfl) (by kernel_rfl) (fun _ _ _ h => h) (Or.inl ⟨by rfl, fun w hS => ?_⟩) HS0.out ?_
          · (go_simp)
          simp only [Act.put, List.setIfInBounds_toArray]
          have HFN := (show Hid _ from cp_fin HB.out HCu6.out)
          have hrow := HB.out.out HCu6.out.bel
          have HFB := (show Hid ((sv3 u6 (w.heap.size + 1) (.slice a0 S.pgs.length c0) (.slice a4 S.freed.length c4) (.slice a8 4 c8)).heap[w.heap.size]? = _) from ((sv3_chg u6 (w.heap.size + 1) _ _ _).block _ (heap_lt (HBI.out _ HCu6.out.bel)) (fun hm => by have := List.mem_singleton.1 hm; omega)).trans (HBI.out _ HCu6.out.bel))
          have t0 : u6.cell? ⟨w.heap.size + 1, 0, none⟩ = some (.slice none 0 0) := (cell_of_row u6 _ 0 _ _ (0, 0) hrow).trans rfl
          have t1 : u6.cell? ⟨w.heap.size + 1, 1, none⟩ = some (.slice none 0 0) := (cell_of_row u6 _ 1 _ _ (0, 0) hrow).trans rfl
          have t2 : u6.cell? ⟨w.heap.size + 1, 2, none⟩ = some (.slice none 0 0) := (cell_of_row u6 _ 2 _ _ (0, 0) hrow).trans rfl
          have tz : ∀ i, u6.frozen? ⟨w.heap.size + 1, i, none⟩ = false := fun i => frozen_of_row u6 _ i _ _ hrow
          refine heldOne 13 (by kernel_rfl) rfl (by rfl) (fun KK hK => ?_)
          go_simp
          refine hK.out _ _ HFB.out ?_
          clear hK KK
          refine wpAnyH_done (by kernel_rfl) ?_ _
          go_wp2
          refine bodyPost_ret (results_st1 Tryz.results71 _ _ (w.heap.size + 1) 39 _ _ _ rfl HFN.out.1) rfl ?_
          exact HFN.out.2
      · skip
        have HCu3 := (show Hid _ from HCu2.out.build8)
        go_simp
        generalize World.alloc u2 (.cells #[] 3) = u3 at *
        generalize u2.heap.size = y8 at *
        refine hK.out _ _ (HBI.out _ HCu3.out.bel) ?_
        clear hK KK
        clear HCu2
        refine heldOne 3 (by kernel_rfl) rfl (by rfl) (fun KK hK => ?_)
        obtain ⟨v0, u4, hr0, hC0⟩ := HCu3.out.app0 hpos hl1
        have HCu4 : Hid (Cw w1 u4 (.slice aP S.pgs.length cP) (.slice aF S.freed.length cF) (.slice aR 4 cR) S none (some y4) (some y8) (some v0) none none) := hC0
        refine oper_append (.tmp 3) (.tmp 5) 36 rfl _ _ v0 u4 rfl rfl hr0 ?_
        refine hK.out _ _ (HBI.out _ HCu4.out.bel) ?_
        clear hK KK hr0 hC0 HCu3
        refine heldOne 7 (by kernel_rfl) rfl (by rfl) (fun KK hK => ?_)
        obtain ⟨v4, u5, hr4, hC4⟩ := HCu4.out.app4 hl2
        have HCu5 : Hid (Cw w1 u5 (.slice aP S.pgs.length cP) (.slice aF S.freed.length cF) (.slice aR 4 cR) S none none (some y8) (some v0) (some v4) none) := hC4
        refine oper_append (.tmp 7) (.tmp 9) 37 rfl _ _ v4 u5 rfl rfl hr4 ?_
        refine hK.out _ _ (HBI.out _ HCu5.out.bel) ?_
        clear hK KK hr4 hC4 HCu4
        refine heldOne 11 (by kernel_rfl) rfl (by rfl) (fun KK hK => ?_)
        obtain ⟨v8, u6, hr8, hC8⟩ := HCu5.out.app8
        have HCu6 : Hid (Cw w1 u6 (.slice aP S.pgs.length cP) (.slice aF S.freed.length cF) (.slice aR 4 cR) S none none none (some v0) (some v4) (some v8)) := hC8
        refine oper_append (.tmp 11) (.tmp 13) 37 rfl _ _ v8 u6 rfl rfl hr8 ?_
        refine hK.out _ _ (HBI.out _ HCu6.out.bel) ?_
        clear hK KK hr8 hC8 HCu5
        obtain ⟨a0, c0, hv0⟩ := own_slice (HCu6.out.o0 v0 rfl)
        obtain ⟨a4, c4, hv4⟩ := own_slice (HCu6.out.o4 v4 rfl)
        obtain ⟨a8, c8, hv8⟩ := own_slice (HCu6.out.o8 v8 rfl)
        subst hv0 hv4 hv8
        have HS0 := (show Hid _ from HBI.out _ HCu6.out.bel)
        refine heldTake 12 (some 15) (.agg #[.slice a0 S.pgs.length c0, .slice a4 S.freed.length c4, .slice a8 4 c8]) rfl rfl (by kernel_rfl) (by kernel_rfl) (by kernel_rfl) (fun _ _ _ h => h) (Or.inl ⟨by rfl, fun w hS => ?_⟩) HS0.out ?_
        · (go_simp)
        simp only [Act.put, List.setIfInBounds_toArray]
        have HFN := (show Hid _ from cp_fin HB.out HCu6.out)
        have hrow := HB.out.out HCu6.out.bel
        have HFB := (show Hid ((sv3 u6 (w.heap.size + 1) (.slice a0 S.pgs.length c0) (.slice a4 S.freed.length c4) (.slice a8 4 c8)).heap[w.heap.size]? = _) from ((sv3_chg u6 (w.heap.size + 1) _ _ _).block _ (heap_lt (HBI.out _ HCu6.out.bel)) (fun hm => by have := List.mem_singleton.1 hm; omega)).trans (HBI.out _ HCu6.out.bel))
        have t0 : u6.cell? ⟨w.heap.size + 1, 0, none⟩ = some (.slice none 0 0) := (cell_of_row u6 _ 0 _ _ (0, 0) hrow).trans rfl
        have t1 : u6.cell? ⟨w.heap.size + 1, 1, none⟩ = some (.slice none 0 0) := (cell_of_row u6 _ 1 _ _ (0, 0) hrow).trans rfl
        have t2 : u6.cell? ⟨w.heap.size + 1, 2, none⟩ = some (.slice none 0 0) := (cell_of_row u6 _ 2 _ _ (0, 0) hrow).trans rfl
        have tz : ∀ i, u6.frozen? ⟨w.heap.size + 1, i, none⟩ = false := fun i => frozen_of_row u6 _ i _ _ hrow
        refine heldOne 13 (by kernel_rfl) rfl (by rfl) (fun KK hK => ?_)
        go_simp
        refine hK.out _ _ HFB.out ?_
        clear hK KK
        refine wpAnyH_done (by kernel_rfl) ?_ _
        go_wp2
        refine bodyPost_ret (results_st1 Tryz.results71 _ _ (w.heap.size + 1) 39 _ _ _ rfl HFN.out.1) rfl ?_
        exact HFN.out.2
    · skip
      have HCu2 := (show Hid _ from HCu1.out.build8)
      go_simp
      generalize World.alloc u1 (.cells #[] 3) = u2 at *
      generalize u1.heap.size = y8 at *
      refine hK.out _ _ (HBI.out _ HCu2.out.bel) ?_
      clear hK KK
      clear HCu1
      refine heldOne 0 (by kernel_rfl) rfl (by rfl) (fun KK hK => ?_)
      have HCu3 := (show Hid _ from HCu2.out.build0)
      go_simp
      generalize World.alloc u2 (.cells #[] 83) = u3 at *
      generalize u2.heap.size = y0 at *
      refine hK.out _ _ (HBI.out _ HCu3.out.bel) ?_
      clear hK KK
      clear HCu2
      refine heldOne 3 (by kernel_rfl) rfl (by rfl) (fun KK hK => ?_)
      obtain ⟨v0, u4, hr0, hC0⟩ := HCu3.out.app0 hpos hl1
      have HCu4 : Hid (Cw w1 u4 (.slice aP S.pgs.length cP) (.slice aF S.freed.length cF) (.slice aR 4 cR) S none (some y4) (some y8) (some v0) none none) := hC0
      refine oper_append (.tmp 3) (.tmp 5) 36 rfl _ _ v0 u4 rfl rfl hr0 ?_
      refine hK.out _ _ (HBI.out _ HCu4.out.bel) ?_
      clear hK KK hr0 hC0 HCu3
      refine heldOne 7 (by kernel_rfl) rfl (by rfl) (fun KK hK => ?_)
      obtain ⟨v4, u5, hr4, hC4⟩ := HCu4.out.app4 hl2
      have HCu5 : Hid (Cw w1 u5 (.slice aP S.pgs.length cP) (.slice aF S.freed.length cF) (.slice aR 4 cR) S none none (some y8) (some v0) (some v4) none) := hC4
      refine oper_append (.tmp 7) (.tmp 9) 37 rfl _ _ v4 u5 rfl rfl hr4 ?_
      refine hK.out _ _ (HBI.out _ HCu5.out.bel) ?_
      clear hK KK hr4 hC4 HCu4
      refine heldOne 11 (by kernel_rfl) rfl (by rfl) (fun KK hK => ?_)
      obtain ⟨v8, u6, hr8, hC8⟩ := HCu5.out.app8
      have HCu6 : Hid (Cw w1 u6 (.slice aP S.pgs.length cP) (.slice aF S.freed.length cF) (.slice aR 4 cR) S none none none (some v0) (some v4) (some v8)) := hC8
      refine oper_append (.tmp 11) (.tmp 13) 37 rfl _ _ v8 u6 rfl rfl hr8 ?_
      refine hK.out _ _ (HBI.out _ HCu6.out.bel) ?_
      clear hK KK hr8 hC8 HCu5
      obtain ⟨a0, c0, hv0⟩ := own_slice (HCu6.out.o0 v0 rfl)
      obtain ⟨a4, c4, hv4⟩ := own_slice (HCu6.out.o4 v4 rfl)
      obtain ⟨a8, c8, hv8⟩ := own_slice (HCu6.out.o8 v8 rfl)
      subst hv0 hv4 hv8
      have HS0 := (show Hid _ from HBI.out _ HCu6.out.bel)
      refine heldTake 12 (some 15) (.agg #[.slice a0 S.pgs.length c0, .slice a4 S.freed.length c4, .slice a8 4 c8]) rfl rfl (by kernel_rfl) (by kernel_rfl) (by kernel_rfl) (fun _ _ _ h => h) (Or.inl ⟨by rfl, fun w hS => ?_⟩) HS0.out ?_
      · (go_simp)
      simp only [Act.put, List.setIfInBounds_toArray]
      have HFN := (show Hid _ from cp_fin HB.out HCu6.out)
      have hrow := HB.out.out HCu6.out.bel
      have HFB := (show Hid ((sv3 u6 (w.heap.size + 1) (.slice a0 S.pgs.length c0) (.slice a4 S.freed.length c4) (.slice a8 4 c8)).heap[w.heap.size]? = _) from ((sv3_chg u6 (w.heap.size + 1) _ _ _).block _ (heap_lt (HBI.out _ HCu6.out.bel)) (fun hm => by have := List.mem_singleton.1 hm; omega)).trans (HBI.out _ HCu6.out.bel))
      have t0 : u6.cell? ⟨w.heap.size + 1, 0, none⟩ = some (.slice none 0 0) := (cell_of_row u6 _ 0 _ _ (0, 0) hrow).trans rfl
      have t1 : u6.cell? ⟨w.heap.size + 1, 1, none⟩ = some (.slice none 0 0) := (cell_of_row u6 _ 1 _ _ (0, 0) hrow).trans rfl
      have t2 : u6.cell? ⟨w.heap.size + 1, 2, none⟩ = some (.slice none 0 0) := (cell_of_row u6 _ 2 _ _ (0, 0) hrow).trans rfl
      have tz : ∀ i, u6.frozen? ⟨w.heap.size + 1, i, none⟩ = false := fun i => frozen_of_row u6 _ i _ _ hrow
      refine heldOne 13 (by kernel_rfl) rfl (by rfl) (fun KK hK => ?_)
      go_simp
      refine hK.out _ _ HFB.out ?_
      clear hK KK
      refine wpAnyH_done (by kernel_rfl) ?_ _
      go_wp2
      refine bodyPost_ret (results_st1 Tryz.results71 _ _ (w.heap.size + 1) 39 _ _ _ rfl HFN.out.1) rfl ?_
      exact HFN.out.2
  · skip
    have HCu1 := (show Hid _ from HCu0.out.build8)
    go_simp
    generalize World.alloc u0 (.cells #[] 3) = u1 at *
    generalize u0.heap.size = y8 at *
    refine hK.out _ _ (HBI.out _ HCu1.out.bel) ?_
    clear hK KK
    clear HCu0
    refine heldTwo 0 4 (by kernel_rfl) rfl rfl (by rfl) (by rfl) (fun KK hK => ?_) (fun KK hK => ?_)
    · skip
      have HCu2 := (show Hid _ from HCu1.out.build0)
      go_simp
      generalize World.alloc u1 (.cells #[] 83) = u2 at *
      generalize u1.heap.size = y0 at *
      refine hK.out _ _ (HBI.out _ HCu2.out.bel) ?_
      clear hK KK
      clear HCu1
      refine heldTwo 3 4 (by kernel_rfl) rfl rfl (by rfl) (by rfl) (fun KK hK => ?_) (fun KK hK => ?_)
      · skip
        obtain ⟨v0, u3, hr0, hC0⟩ := HCu2.out.app0 hpos hl1
        have HCu3 : Hid (Cw w1 u3 (.slice aP S.pgs.length cP) (.slice aF S.freed.length cF) (.slice aR 4 cR) S none none (some y8) (some v0) none none) := hC0
        refine oper_append (.tmp 3) (.tmp 5) 36 rfl _ _ v0 u3 rfl rfl hr0 ?_
        refine hK.out _ _ (HBI.out _ HCu3.out.bel) ?_
        clear hK KK hr0 hC0 HCu2
        refine heldOne 4 (by kernel_rfl) rfl (by rfl) (fun KK hK => ?_)
        have HCu4 := (show Hid _ from HCu3.out.build4)
        go_simp
        generalize World.alloc u3 (.cells #[] 3) = u4 at *
        generalize u3.heap.size = y4 at *
        refine hK.out _ _ (HBI.out _ HCu4.out.bel) ?_
        clear hK KK
        clear HCu3
        refine heldOne 7 (by kernel_rfl) rfl (by rfl) (fun KK hK => ?_)
        obtain ⟨v4, u5, hr4, hC4⟩ := HCu4.out.app4 hl2
        have HCu5 : Hid (Cw w1 u5 (.slice aP S.pgs.length cP) (.slice aF S.freed.length cF) (.slice aR 4 cR) S none none (some y8) (some v0) (some v4) none) := hC4
        refine oper_append (.tmp 7) (.tmp 9) 37 rfl _ _ v4 u5 rfl rfl hr4 ?_
        refine hK.out _ _ (HBI.out _ HCu5.out.bel) ?_
        clear hK KK hr4 hC4 HCu4
        refine heldOne 11 (by kernel_rfl) rfl (by rfl) (fun KK hK => ?_)
        obtain ⟨v8, u6, hr8, hC8⟩ := HCu5.out.app8
        have HCu6 : Hid (Cw w1 u6 (.slice aP S.pgs.length cP) (.slice aF S.freed.length cF) (.slice aR 4 cR) S none none none (some v0) (some v4) (some v8)) := hC8
        refine oper_append (.tmp 11) (.tmp 13) 37 rfl _ _ v8 u6 rfl rfl hr8 ?_
        refine hK.out _ _ (HBI.out _ HCu6.out.bel) ?_
        clear hK KK hr8 hC8 HCu5
        obtain ⟨a0, c0, hv0⟩ := own_slice (HCu6.out.o0 v0 rfl)
        obtain ⟨a4, c4, hv4⟩ := own_slice (HCu6.out.o4 v4 rfl)
        obtain ⟨a8, c8, hv8⟩ := own_slice (HCu6.out.o8 v8 rfl)
        subst hv0 hv4 hv8
        have HS0 := (show Hid _ from HBI.out _ HCu6.out.bel)
        refine heldTake 12 (some 15) (.agg #[.slice a0 S.pgs.length c0, .slice a4 S.freed.length c4, .slice a8 4 c8]) rfl rfl (by kernel_rfl) (by kernel_rfl) (by kernel_rfl) (fun _ _ _ h => h) (Or.inl ⟨by rfl, fun w hS => ?_⟩) HS0.out ?_
        · (go_simp)
        simp only [Act.put, List.setIfInBounds_toArray]
        have HFN := (show Hid _ from cp_fin HB.out HCu6.out)
        have hrow := HB.out.out HCu6.out.bel
        have HFB := (show Hid ((sv3 u6 (w.heap.size + 1) (.slice a0 S.pgs.length c0) (.slice a4 S.freed.length c4) (.slice a8 4 c8)).heap[w.heap.size]? = _) from ((sv3_chg u6 (w.heap.size + 1) _ _ _).block _ (heap_lt (HBI.out _ HCu6.out.bel)) (fun hm => by have := List.mem_singleton.1 hm; omega)).trans (HBI.out _ HCu6.out.bel))
        have t0 : u6.cell? ⟨w.heap.size + 1, 0, none⟩ = some (.slice none 0 0) := (cell_of_row u6 _ 0 _ _ (0, 0) hrow).trans rfl
        have t1 : u6.cell? ⟨w.heap.size + 1, 1, none⟩ = some (.slice none 0 0) := (cell_of_row u6 _ 1 _ _ (0, 0) hrow).trans rfl
        have t2 : u6.cell? ⟨w.heap.size + 1, 2, none⟩ = some (.slice none 0 0) := (cell_of_row u6 _ 2 _ _ (0, 0) hrow).trans rfl
        have tz : ∀ i, u6.frozen? ⟨w.heap.size + 1, i, none⟩ = false := fun i => frozen_of_row u6 _ i _ _ hrow
        refine heldOne 13 (by kernel_rfl) rfl (by rfl) (fun KK hK => ?_)
        go_simp
        refine hK.out _ _ HFB.out ?_
        clear hK KK
        refine wpAnyH_done (by kernel_rfl) ?_ _
        go_wp2
        refine bodyPost_ret (results_st1 Tryz.results71 _ _ (w.heap.size + 1) 39 _ _ _ rfl HFN.out.1) rfl ?_
        exact HFN.out.2
      · skip
        have HCu3 := (show Hid _ from HCu2.out.build4)
        go_simp
        generalize World.alloc u2 (.cells #[] 3) = u3 at *
        generalize u2.heap.size = y4 at *
        refine hK.out _ _ (HBI.out _ HCu3.out.bel) ?_
        clear hK KK
        clear HCu2
        refine heldOne 3 (by kernel_rfl) rfl (by rfl) (fun KK hK => ?_)
        obtain ⟨v0, u4, hr0, hC0⟩ := HCu3.out.app0 hpos hl1
        have HCu4 : Hid (Cw w1 u4 (.slice aP S.pgs.length cP) (.slice aF S.freed.length cF) (.slice aR 4 cR) S none (some y4) (some y8) (some v0) none none) := hC0
        refine oper_append (.tmp 3) (.tmp 5) 36 rfl _ _ v0 u4 rfl rfl hr0 ?_
        refine hK.out _ _ (HBI.out _ HCu4.out.bel) ?_
        clear hK KK hr0 hC0 HCu3
        refine heldOne 7 (by kernel_rfl) rfl (by rfl) (fun KK hK => ?_)
        obtain ⟨v4, u5, hr4, hC4⟩ := HCu4.out.app4 hl2
        have HCu5 : Hid (Cw w1 u5 (.slice aP S.pgs.length cP) (.slice aF S.freed.length cF) (.slice aR 4 cR) S none none (some y8) (some v0) (some v4) none) := hC4
        refine oper_append (.tmp 7) (.tmp 9) 37 rfl _ _ v4 u5 rfl rfl hr4 ?_
        refine hK.out _ _ (HBI.out _ HCu5.out.bel) ?_
        clear hK KK hr4 hC4 HCu4
        refine heldOne 11 (by kernel_rfl) rfl (by rfl) (fun KK hK => ?_)
        obtain ⟨v8, u6, hr8, hC8⟩ := HCu5.out.app8
        have HCu6 : Hid (Cw w1 u6 (.slice aP S.pgs.length cP) (.slice aF S.freed.length cF) (.slice aR 4 cR) S none none none (some v0) (some v4) (some v8)) := hC8
        refine oper_append (.tmp 11) (.tmp 13) 37 rfl _ _ v8 u6 rfl rfl hr8 ?_
        refine hK.out _ _ (HBI.out _ HCu6.out.bel) ?_
        clear hK KK hr8 hC8 HCu5
        obtain ⟨a0, c0, hv0⟩ := own_slice (HCu6.out.o0 v0 rfl)
        obtain ⟨a4, c4, hv4⟩ := own_slice (HCu6.out.o4 v4 rfl)
        obtain ⟨a8, c8, hv8⟩ := own_slice (HCu6.out.o8 v8 rfl)
        subst hv0 hv4 hv8
        have HS0 := (show Hid _ from HBI.out _ HCu6.out.bel)
        refine heldTake 12 (some 15) (.agg #[.slice a0 S.pgs.length c0, .slice a4 S.freed.length c4, .slice a8 4 c8]) rfl rfl (by kernel_rfl) (by kernel_rfl) (by kernel_rfl) (fun _ _ _ h => h) (Or.inl ⟨by rfl, fun w hS => ?_⟩) HS0.out ?_
        · (go_simp)
        simp only [Act.put, List.setIfInBounds_toArray]
        have HFN := (show Hid _ from cp_fin HB.out HCu6.out)
        have hrow := HB.out.out HCu6.out.bel
        have HFB := (show Hid ((sv3 u6 (w.heap.size + 1) (.slice a0 S.pgs.length c0) (.slice a4 S.freed.length c4) (.slice a8 4 c8)).heap[w.heap.size]? = _) from ((sv3_chg u6 (w.heap.size + 1) _ _ _).block _ (heap_lt (HBI.out _ HCu6.out.bel)) (fun hm => by have := List.mem_singleton.1 hm; omega)).trans (HBI.out _ HCu6.out.bel))
        have t0 : u6.cell? ⟨w.heap.size + 1, 0, none⟩ = some (.slice none 0 0) := (cell_of_row u6 _ 0 _ _ (0, 0) hrow).trans rfl
        have t1 : u6.cell? ⟨w.heap.size + 1, 1, none⟩ = some (.slice none 0 0) := (cell_of_row u6 _ 1 _ _ (0, 0) hrow).trans rfl
        have t2 : u6.cell? ⟨w.heap.size + 1, 2, none⟩ = some (.slice none 0 0) := (cell_of_row u6 _ 2 _ _ (0, 0) hrow).trans rfl
        have tz : ∀ i, u6.frozen? ⟨w.heap.size + 1, i, none⟩ = false := fun i => frozen_of_row u6 _ i _ _ hrow
        refine heldOne 13 (by kernel_rfl) rfl (by rfl) (fun KK hK => ?_)
        go_simp
        refine hK.out _ _ HFB.out ?_
        clear hK KK
        refine wpAnyH_done (by kernel_rfl) ?_ _
        go_wp2
        refine bodyPost_ret (results_st1 Tryz.results71 _ _ (w.heap.size + 1) 39 _ _ _ rfl HFN.out.1) rfl ?_
        exact HFN.out.2
    · skip
      have HCu2 := (show Hid _ from HCu1.out.build4)
      go_simp
      generalize World.alloc u1 (.cells #[] 3) = u2 at *
      generalize u1.heap.size = y4 at *
      refine hK.out _ _ (HBI.out _ HCu2.out.bel) ?_
      clear hK KK
      clear HCu1
      refine heldOne 0 (by kernel_rfl) rfl (by rfl) (fun KK hK => ?_)
      have HCu3 := (show Hid _ from HCu2.out.build0)
      go_simp
      generalize World.alloc u2 (.cells #[] 83) = u3 at *
      generalize u2.heap.size = y0 at *
      refine hK.out _ _ (HBI.out _ HCu3.out.bel) ?_
      clear hK KK
      clear HCu2
      refine heldOne 3 (by kernel_rfl) rfl (by rfl) (fun KK hK => ?_)
      obtain ⟨v0, u4, hr0, hC0⟩ := HCu3.out.app0 hpos hl1
      have HCu4 : Hid (Cw w1 u4 (.slice aP S.pgs.length cP) (.slice aF S.freed.length cF) (.slice aR 4 cR) S none (some y4) (some y8) (some v0) none none) := hC0
      refine oper_append (.tmp 3) (.tmp 5) 36 rfl _ _ v0 u4 rfl rfl hr0 ?_
      refine hK.out _ _ (HBI.out _ HCu4.out.bel) ?_
      clear hK KK hr0 hC0 HCu3
      refine heldOne 7 (by kernel_rfl) rfl (by rfl) (fun KK hK => ?_)
      obtain ⟨v4, u5, hr4, hC4⟩ := HCu4.out.app4 hl2
      have HCu5 : Hid (Cw w1 u5 (.slice aP S.pgs.length cP) (.slice aF S.freed.length cF) (.slice aR 4 cR) S none none (some y8) (some v0) (some v4) none) := hC4
      refine oper_append (.tmp 7) (.tmp 9) 37 rfl _ _ v4 u5 rfl rfl hr4 ?_
      refine hK.out _ _ (HBI.out _ HCu5.out.bel) ?_
      clear hK KK hr4 hC4 HCu4
      refine heldOne 11 (by kernel_rfl) rfl (by rfl) (fun KK hK => ?_)
      obtain ⟨v8, u6, hr8, hC8⟩ := HCu5.out.app8
      have HCu6 : Hid (Cw w1 u6 (.slice aP S.pgs.length cP) (.slice aF S.freed.length cF) (.slice aR 4 cR) S none none none (some v0) (some v4) (some v8)) := hC8
      refine oper_append (.tmp 11) (.tmp 13) 37 rfl _ _ v8 u6 rfl rfl hr8 ?_
      refine hK.out _ _ (HBI.out _ HCu6.out.bel) ?_
      clear hK KK hr8 hC8 HCu5
      obtain ⟨a0, c0, hv0⟩ := own_slice (HCu6.out.o0 v0 rfl)
      obtain ⟨a4, c4, hv4⟩ := own_slice (HCu6.out.o4 v4 rfl)
      obtain ⟨a8, c8, hv8⟩ := own_slice (HCu6.out.o8 v8 rfl)
      subst hv0 hv4 hv8
      have HS0 := (show Hid _ from HBI.out _ HCu6.out.bel)
      refine heldTake 12 (some 15) (.agg #[.slice a0 S.pgs.length c0, .slice a4 S.freed.length c4, .slice a8 4 c8]) rfl rfl (by kernel_rfl) (by kernel_rfl) (by kernel_rfl) (fun _ _ _ h => h) (Or.inl ⟨by rfl, fun w hS => ?_⟩) HS0.out ?_
      · (go_simp)
      simp only [Act.put, List.setIfInBounds_toArray]
      have HFN := (show Hid _ from cp_fin HB.out HCu6.out)
      have hrow := HB.out.out HCu6.out.bel
      have HFB := (show Hid ((sv3 u6 (w.heap.size + 1) (.slice a0 S.pgs.length c0) (.slice a4 S.freed.length c4) (.slice a8 4 c8)).heap[w.heap.size]? = _) from ((sv3_chg u6 (w.heap.size + 1) _ _ _).block _ (heap_lt (HBI.out _ HCu6.out.bel)) (fun hm => by have := List.mem_singleton.1 hm; omega)).trans (HBI.out _ HCu6.out.bel))
      have t0 : u6.cell? ⟨w.heap.size + 1, 0, none⟩ = some (.slice none 0 0) := (cell_of_row u6 _ 0 _ _ (0, 0) hrow).trans rfl
      have t1 : u6.cell? ⟨w.heap.size + 1, 1, none⟩ = some (.slice none 0 0) := (cell_of_row u6 _ 1 _ _ (0, 0) hrow).trans rfl
      have t2 : u6.cell? ⟨w.heap.size + 1, 2, none⟩ = some (.slice none 0 0) := (cell_of_row u6 _ 2 _ _ (0, 0) hrow).trans rfl
      have tz : ∀ i, u6.frozen? ⟨w.heap.size + 1, i, none⟩ = false := fun i => frozen_of_row u6 _ i _ _ hrow
      refine heldOne 13 (by kernel_rfl) rfl (by rfl) (fun KK hK => ?_)
      go_simp
      refine hK.out _ _ HFB.out ?_
      clear hK KK
      refine wpAnyH_done (by kernel_rfl) ?_ _
      go_wp2
      refine bodyPost_ret (results_st1 Tryz.results71 _ _ (w.heap.size + 1) 39 _ _ _ rfl HFN.out.1) rfl ?_
      exact HFN.out.2
end Go.Proofs.YtcfninpokngmlaaGreatDoor
