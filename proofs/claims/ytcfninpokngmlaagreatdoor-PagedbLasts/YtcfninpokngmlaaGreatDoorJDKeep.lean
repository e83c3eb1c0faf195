/- Proved: what stands beside a disk whose power goes and comes: a list of bools of the call's own, states that were told (stage 10). -/
import Derived.Test.YtcfninpokngmlaaGreatDoorJLWhole
namespace Go.Proofs.YtcfninpokngmlaaGreatDoor
open Go.RowKit
/- one bool behind a list of the call's own -/
theorem info_bool : Tryz.prog.info? 4 = some Tryz.t4 := by kernel_rfl
theorem app_bool {ops : Array Oper} {rest : List Oper} {o : Oper} {a : Go.Act} {Q : Exit → Go.Act → World → Prop} (hgd : o.guard = none) (sl x : Operand)
    (ho : o.op = .call { callee := .builtin .append, args := #[sl, x], argTypes := #[26, 26] }) (W : World) (N : Nat) (v : Value) (n : Nat) (bs : List Bool) (hs : a.eval sl = v) (hown : W.ownsRow N 4 1 v n (bs.map Value.bool)) (ad : Addr) (c : Nat) (t : Bool)
    (hx : a.eval x = .slice (some ad) 1 c) (hnews : ∀ j u, [Value.bool t][j]? = some u → W.cell? (ad.add j) = some u) (hb : n + 1 ≤ 1000000) (hN : N ≤ W.heap.size)
    (h : ∀ v' w', w'.ownsRow N 4 1 v' (n + 1) ((bs ++ [t]).map Value.bool) → Below N W w' → wpList Tryz.prog ops Q rest (a.put o.dst v') w') : wpList Tryz.prog ops Q (o :: rest) a W := by
  refine wpList_plain hgd fun K hK => ?_
  obtain ⟨v', w', hr, h2, h3, h4, h5⟩ := run_append_own_at (P := Tryz.prog) W N 26 o.type 4 Tryz.t4 (.bool false) 1 1 Tryz.underlying26 info_bool rfl rfl rfl rfl (by omega) v n (bs.map Value.bool) hown ad 1 c [.bool t] rfl hnews (fun u hu => by rw [List.mem_singleton.1 hu]; rfl) (by unfold maxLen; omega) (by omega) hN
  unfold Oper.wp execOp
  simp only [ho, resolve, invoke, builtin, Sem.run_bind, Sem.run_pure, Result.andThen_ok, List.map_toArray, List.map_cons, List.map_nil, hs, hx, hr]
  exact hK _ _ (h v' w' (by rw [List.map_append]; exact h2) ((Below.refl _ _).grown h3 hN (fun k hk => (hown.lt k hk).1)))
/- that list, beside a footprint -/
structure Kp (w : World) (fs : List Nat) (b c : Nat) (m : Nat → Bool) : Prop where
  cs : ∀ i, i < 62 → w.cell? ⟨b, i, none⟩ = some (.bool (m i))
  ab : b ∉ fs
  cap : 62 ≤ c ∧ c ≤ 9223372036854775807
theorem Kp.turn {w w' : World} {fs gs : List Nat} {b c : Nat} {m : Nat → Bool} (h : Kp w fs b c m) (hT : Turn fs gs w w') : Kp w' gs b c m := by
  have hl : b < w.heap.size := block_lt_of_cell (h.cs 0 (by omega))
  refine ⟨fun i hi => ?_, fun hm => ?_, h.cap⟩
  · rw [World.cell?_of_block (hT.chg.block b hl h.ab)]
    exact h.cs i hi
  · rcases hT.grow _ hm with e | e
    · exact h.ab e
    · omega
theorem Kp.less {w : World} {fs gs : List Nat} {b c : Nat} {m : Nat → Bool} (h : Kp w fs b c m) (hs : ∀ k ∈ gs, k ∈ fs) : Kp w gs b c m := ⟨h.cs, fun hm => h.ab (hs _ hm), h.cap⟩
theorem Kp.bools {w : World} {fs : List Nat} {b c : Nat} {m : Nat → Bool} (h : Kp w fs b c m) (j : Nat) (_hj : j ≤ 62) : Bools fs w (some ⟨b, j, none⟩) (62 - j) (fun i => m (j + i)) :=
  .inr ⟨b, j, rfl, h.ab, fun i hi => h.cs (j + i) (by omega)⟩
theorem kp_own {w : World} {N : Nat} {v : Value} {bs : List Bool} {fs : List Nat} (h : w.ownsRow N 4 1 v 62 (bs.map Value.bool)) (hf : ∀ k ∈ fs, k < N) : ∃ b c, v = .slice (some ⟨b, 0, none⟩) 62 c ∧ Kp w fs b c (fun i => bs.getD i false) := by
  have hl : bs.length = 62 := by have := h.1; simpa using this
  rcases h.2 with ⟨_, h2⟩ | ⟨g, cap, cur, hv, hN, hh, hc, hm, hs, ht⟩
  · omega
  · unfold maxLen at hm
    refine ⟨g, cap, hv, fun i hi => ?_, fun hmem => by have := hf g hmem; omega, hc, by omega⟩
    rw [cell_of_row w g _ cur _ (0, 0) hh, ← Array.getElem?_toList]
    have e : (cur.toList.take (62 * 1))[i]? = (bs.map Value.bool)[i]? := by rw [ht]
    rw [List.getElem?_take_of_lt (by omega)] at e
    rw [e, List.getElem?_map, List.getElem?_eq_getElem (by omega)]
    show some (Value.bool bs[i]) = some (Value.bool (bs.getD i false))
    rw [List.getD_eq_getElem?_getD, List.getElem?_eq_getElem (by omega)]
    rfl
theorem Wz.less {wr : World} {fs gs : List Nat} {u : Nat} {p f r : Value} {S : Pd.Ab} (h : Wz wr fs u p f r S) (hs : ∀ k ∈ gs, k ∈ fs) : Wz wr gs u p f r S := ⟨h.box, h.sto, fun hm => h.au (hs _ hm), fun k hk hm => h.ab k hk (hs _ hm)⟩
theorem Wz.below {wr w' : World} {fs : List Nat} {u : Nat} {p f r : Value} {S : Pd.Ab} (h : Wz wr fs u p f r S) (hB : Below wr.heap.size wr w') : Wz w' fs u p f r S := h.step (Chg.of_below hB)
section
variable {W w w' : World} {A : Ad} {t bt K : Nat} {d : Pd.Db} {S T : Pd.Ab} {sp : Bool} {tm : Pd.Mp} {g kg n cnt : Nat} {vp : Value} {s : Sc.St} {R R' : Pd.Ab} {u : Nat} {p f r : Value}
theorem foot_tft (A : Ad) (t bt : Nat) : ∀ k ∈ foot A.g A.kg A.vp, k ∈ tft A t bt := fun k hk => tft_a (foot_ft A k hk)
/- the power went within Commit -/
theorem pw_com {e : Ending} (G : GT W w A t bt K d S T sp tm) (h : ComFell w A t bt K d S T e w') (hp : 0 < W.heap.size) (hn : d.n = 60 ∧ d.cnt = 12 ∧ d.s.kept.length = 156) (hz : Wz w (tft A t bt) u p f r S) (hK : K + 8 * d.cnt + d.n + 8 ≤ 2100) : e = .returned (.int .i64 10) ∧ ∃ vp s, Pw W w' A.g A.kg vp s 60 12 2100 S T ∧ s.kept.length = 156 ∧ Wz w' (foot A.g A.kg vp) u p f r S := by
  obtain ⟨rfl, vr, vw, vp, s, hD, hF, hT⟩ := h
  have hn0 : (0 : Nat) ∉ tft A t bt := fun hm => by have := G.new 0 hm; omega
  have hab := hT.above G.new G.bel.size
  refine ⟨rfl, vp, s, ⟨hD, G.tx.db.tab.of_block (hT.chg.block 0 G.tx.db.tab.pos hn0), hF.down, Nat.le_trans hF.dn hK, fun f => ?_, by rw [hF.len, hn.2.2], by omega, hp, G.bel.trans (hT.below G.new G.bel.size), fun k hk => hab k (foot_tft (A.to vr vw vp) t bt k hk)⟩, by rw [hF.len, hn.2.2], (hz.turn hT).less (foot_tft (A.to vr vw vp) t bt)⟩
  rw [← hn.1, ← hn.2.1]
  rcases hF.found f with h | h
  · exact .inl (h.up hK)
  · exact .inr (h.up hK)
/- the power went within Checkpoint -/
theorem pw_ck {e : Ending} (G : GD W w A K d T) (h : CkFell w A K d T e w') (hp : 0 < W.heap.size) (hn : d.n = 60 ∧ d.cnt = 12 ∧ d.s.kept.length = 156) (hz : Wz w A.ft u p f r S) (hK : K + 8 * d.cnt + 4 ≤ 2100) : e = .returned (.int .i64 10) ∧ ∃ vp s, Pw W w' A.g A.kg vp s 60 12 2100 S T ∧ s.kept.length = 156 ∧ Wz w' (foot A.g A.kg vp) u p f r S := by
  obtain ⟨rfl, vr, vw, vp, s, hD, hF, hT⟩ := h
  have hn0 : (0 : Nat) ∉ A.ft := fun hm => by have := G.new 0 hm; omega
  have hab := hT.above G.new G.bel.size
  refine ⟨rfl, vp, s, ⟨hD, G.db.tab.of_block (hT.chg.block 0 G.db.tab.pos hn0), hF.down, Nat.le_trans hF.dn hK, fun f => ?_, by rw [hF.len, hn.2.2], by omega, hp, G.bel.trans (hT.below G.new G.bel.size), fun k hk => hab k (foot_ft (A.to vr vw vp) k hk)⟩, by rw [hF.len, hn.2.2], (hz.turn hT).less (foot_ft (A.to vr vw vp))⟩
  rw [← hn.1, ← hn.2.1]
  rcases hF.found f with h | h
  · exact .inr (h.up hK)
  · exact .inr (h.up hK)
theorem GD.raise (G : GD W w A K d S) {K' : Nat} (h : K ≤ K') : GD W w A K' d S := ⟨G.db, G.inv.up h, G.bel, G.new⟩
/- behind Commit and Checkpoint: a database, or a disk without power -/
def AftC (W wx : World) (A0 : Ad) (gg : Int) (S T : Pd.Ab) (u : Nat) (p f r : Value) : Prop :=
  (∃ A d I, A.x = A0.x ∧ A.g = A0.g ∧ A.kg = A0.kg ∧ GD W wx A 2100 d I ∧ (d.n = 60 ∧ d.cnt = 12 ∧ d.s.kept.length = 156) ∧ (gg = 0 ∨ gg = 7) ∧ Wz wx A.ft u p f r S) ∨
  (gg = 10 ∧ ∃ vp s, Pw W wx A0.g A0.kg vp s 60 12 2100 S T ∧ s.kept.length = 156 ∧ Wz wx (foot A0.g A0.kg vp) u p f r S)
/- what is to be found -/
def Fin (gg : Int) (S T I R : Pd.Ab) : Prop := ((gg = 0 ∨ gg = 7) ∧ R = I) ∨ (gg = 10 ∧ (R = S ∨ R = T))
/- behind the loss of power: the disk alone, and both states that were told -/
def AftO (W wx : World) (g kg : Nat) (gg : Int) (S T : Pd.Ab) (u : Nat) (p f r : Value) (u2 : Nat) : Prop :=
  ∃ vp s I p2 f2 r2 R0 R1, Pw W wx g kg vp s 60 12 2100 R0 R1 ∧ s.kept.length = 156 ∧ Wz wx (foot g kg vp) u p f r S ∧ Wz wx (foot g kg vp) u2 p2 f2 r2 I ∧ (0 < I.pgs.length ∧ I.pgs.length ≤ 1000 ∧ I.freed.length ≤ 1000) ∧ Fin gg S T I R0 ∧ Fin gg S T I R1
theorem ok_small {I : Pd.Ab} {c : Nat} (h : I.Ok c) : 0 < I.pgs.length ∧ I.pgs.length ≤ 1000 ∧ I.freed.length ≤ 1000 := by
  have h1 := h.pos
  have h2 := h.most
  have h3 := h.small
  have h4 := h.free_lt
  omega
theorem GD.keep (G : GD W w A K d S) {fs : List Nat} (hc : Chg fs w w') (ha : ∀ k ∈ A.ft, k ∉ fs) (hW : ∀ k ∈ fs, W.heap.size ≤ k) (hp : 0 < W.heap.size) : GD W w' A K d S :=
  ⟨G.db.keep hc ha (fun h => by have := hW 0 h; omega), G.inv, G.bel.trans (hc.below hW G.bel.size), G.new⟩
/- a box is filled anew -/
def set3 (w : World) (u : Nat) (a b c : Value) : World := ((w.setCell ⟨u, 0, none⟩ a).setCell ⟨u, 1, none⟩ b).setCell ⟨u, 2, none⟩ c
theorem set3_chg (w : World) (u : Nat) (a b c : Value) : Chg [u] w (set3 w u a b c) := ((Chg.setCell _ _ _ _).trans (Chg.setCell _ _ _ _)).trans (Chg.setCell _ _ _ _)
theorem set3_row {w : World} {u : Nat} {x y z a b c : Value} (h : w.heap[u]? = some (.cells #[x, y, z] 39 (0, 0))) : (set3 w u a b c).heap[u]? = some (.cells #[a, b, c] 39 (0, 0)) := by
  have h1 := heap_setCell_same w u 0 _ _ a h
  have h2 := heap_setCell_same _ u 1 _ _ b h1
  have h3 := heap_setCell_same _ u 2 _ _ c h2
  exact h3.trans rfl
/- the state behind the call is told, and put into the box that held the one ahead of it -/
theorem aft_up {wc w10 : World} {I : Pd.Ab} {p2 f2 r2 : Value} (hG : GD W wc A K d I) (hz : Wz wc A.ft u p f r S) (hp : 0 < W.heap.size)
    (hG10 : GD W w10 A K d I) (hO : StO w10 (wc.alloc (.cells #[p, f, r] 39)).heap.size p2 f2 r2 I) (hap : ∀ k, p2.ownBlock = some k ∨ f2.ownBlock = some k ∨ r2.ownBlock = some k → k ∉ A.ft) (hT : Turn A.ft A.ft (wc.alloc (.cells #[p, f, r] 39)) w10) :
    w10.heap[wc.heap.size]? = some (.cells #[p, f, r] 39 (0, 0)) ∧ GD W (set3 w10 wc.heap.size p2 f2 r2) A K d I ∧ Wz (set3 w10 wc.heap.size p2 f2 r2) A.ft u p f r S ∧ Wz (set3 w10 wc.heap.size p2 f2 r2) A.ft wc.heap.size p2 f2 r2 I := by
  have s1 : (wc.alloc (.cells #[p, f, r] 39)).heap.size = wc.heap.size + 1 := by simp
  have hlt := hG.db.lt
  have hna : wc.heap.size ∉ A.ft := fun hm => by have := hlt _ hm; omega
  have hrow : w10.heap[wc.heap.size]? = some (.cells #[p, f, r] 39 (0, 0)) := (hT.chg.block _ (by omega) hna).trans (heap_alloc_new wc _)
  have hz10 := (hz.below ((Below.refl _ _).alloc (Nat.le_refl _) (.cells #[p, f, r] 39))).turn hT
  have hc := set3_chg w10 wc.heap.size p2 f2 r2
  have hul := (Array.getElem?_eq_some_iff.1 hz.box).1
  have hbl : ∀ k, p.ownBlock = some k ∨ f.ownBlock = some k ∨ r.ownBlock = some k → k < wc.heap.size := fun k hk => by
    rcases hk with q | q | q
    · exact (hz.sto.pg.lt k q).2
    · exact (hz.sto.fr.lt k q).2
    · exact (hz.sto.rt.lt k q).2
  have hb2 : ∀ k, p2.ownBlock = some k ∨ f2.ownBlock = some k ∨ r2.ownBlock = some k → k ≠ wc.heap.size := fun k hk e => by
    rcases hk with q | q | q
    · have := (hO.pg.lt k q).1; omega
    · have := (hO.fr.lt k q).1; omega
    · have := (hO.rt.lt k q).1; omega
  have hoth : ∀ k, k < w10.heap.size → k ≠ wc.heap.size → (set3 w10 wc.heap.size p2 f2 r2).heap[k]? = w10.heap[k]? := fun k h1 h2 => hc.block k h1 (fun hm => h2 (List.mem_singleton.1 hm))
  have hws : wc.heap.size + 1 ≤ w10.heap.size := by have := hT.chg.size; omega
  refine ⟨hrow, hG10.keep hc (fun k hk hm => hna (by rw [← List.mem_singleton.1 hm]; exact hk)) (fun k hk => by rw [List.mem_singleton.1 hk]; exact hG.bel.size) hp, ⟨(hoth u (by omega) (by omega)).trans hz10.box, ⟨own_keep hz10.sto.pg (fun k hk => hoth k (hz10.sto.pg.lt k hk).2 (by have := hbl k (.inl hk); omega)), own_keep hz10.sto.fr (fun k hk => hoth k (hz10.sto.fr.lt k hk).2 (by have := hbl k (.inr (.inl hk)); omega)), own_keep hz10.sto.rt (fun k hk => hoth k (hz10.sto.rt.lt k hk).2 (by have := hbl k (.inr (.inr hk)); omega))⟩, hz.au, hz.ab⟩, ⟨set3_row hrow, ?_, hna, hap⟩⟩
  exact StO.zero ⟨own_keep hO.pg (fun k hk => hoth k (hO.pg.lt k hk).2 (hb2 k (.inl hk))), own_keep hO.fr (fun k hk => hoth k (hO.fr.lt k hk).2 (hb2 k (.inr (.inl hk)))), own_keep hO.rt (fun k hk => hoth k (hO.rt.lt k hk).2 (hb2 k (.inr (.inr hk))))⟩
/- a second box with the same state -/
theorem wz_copy {wc : World} {fs : List Nat} (hz : Wz wc fs u p f r S) (hlt : ∀ k ∈ fs, k < wc.heap.size) : Wz (wc.alloc (.cells #[p, f, r] 39)) fs u p f r S ∧ Wz (wc.alloc (.cells #[p, f, r] 39)) fs wc.heap.size p f r S :=
  ⟨hz.below ((Below.refl _ _).alloc (Nat.le_refl _) _), wz_start hz.sto hlt hz.ab⟩
end
end Go.Proofs.YtcfninpokngmlaaGreatDoor
