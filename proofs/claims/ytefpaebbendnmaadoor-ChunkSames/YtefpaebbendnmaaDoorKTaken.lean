/- Proved: taken answers the eight words behind a block. Conditions: eight words below 2^32, 64 bytes, a length from 0 to 2^63 - 1, and the two tables. -/
import Derived.Test.YtefpaebbendnmaaDoorKMixed
import Derived.Deep.DeepCutAuto
namespace Go.Proofs.YtefpaebbendnmaaDoor.BK
open Go.RowKit
theorem range_below {w w' : World} {g o B : Nat} {l : List Value} (h : w.rangeAt g o l) (hb : Below B w w') (hg : g < B) : w'.rangeAt g o l := fun j v hv => (hb.cell (p := ⟨g, o + j, none⟩) hg).trans (h j v hv)
theorem range_of_row8 {w : World} {g t : Nat} {v : List Nat} (h : Row8 w g t v) : w.rangeAt g 0 (v.map V8) := fun j x hx => by
  rw [cell_of_row w g (0 + j) _ t (0, 0) h, Nat.zero_add]; unfold arr8; rw [List.getElem?_toArray]; exact hx
theorem eight {h : List Nat} (hl : h.length = 8) : ∃ a0 a1 a2 a3 a4 a5 a6 a7 : Nat, h = [a0, a1, a2, a3, a4, a5, a6, a7] := by
  match h, hl with
  | [a0, a1, a2, a3, a4, a5, a6, a7], _ => exact ⟨a0, a1, a2, a3, a4, a5, a6, a7, rfl⟩
/- eight words at block N, 64 bytes behind it, and nothing below N + 3 has turned since w1 -/
def Held (N : Nat) (w1 : World) (a0 a1 a2 a3 a4 a5 a6 a7 : Nat) (l2 : List Value) (w' : World) : Prop :=
  w'.cell? ⟨N, 0, none⟩ = some (.int .u32 (a0 : Nat)) ∧ w'.cell? ⟨N, 1, none⟩ = some (.int .u32 (a1 : Nat)) ∧ w'.cell? ⟨N, 2, none⟩ = some (.int .u32 (a2 : Nat)) ∧ w'.cell? ⟨N, 3, none⟩ = some (.int .u32 (a3 : Nat)) ∧ w'.cell? ⟨N, 4, none⟩ = some (.int .u32 (a4 : Nat)) ∧ w'.cell? ⟨N, 5, none⟩ = some (.int .u32 (a5 : Nat)) ∧ w'.cell? ⟨N, 6, none⟩ = some (.int .u32 (a6 : Nat)) ∧ w'.cell? ⟨N, 7, none⟩ = some (.int .u32 (a7 : Nat)) ∧ w'.rangeAt (N + 1) 0 l2 ∧ Below (N + 3) w1 w'
theorem Held.go {N : Nat} {w1 w' w'' : World} {a0 a1 a2 a3 a4 a5 a6 a7 : Nat} {l2 : List Value} (h : Held N w1 a0 a1 a2 a3 a4 a5 a6 a7 l2 w') (hb : Below (N + 3) w' w'') : Held N w1 a0 a1 a2 a3 a4 a5 a6 a7 l2 w'' := by
  obtain ⟨h0, h1, h2, h3, h4, h5, h6, h7, hr, hB⟩ := h
  have e : ∀ i, w''.cell? ⟨N, i, none⟩ = w'.cell? ⟨N, i, none⟩ := fun i => hb.cell (p := ⟨N, i, none⟩) (show N < N + 3 by omega)
  exact ⟨(e 0).trans h0, (e 1).trans h1, (e 2).trans h2, (e 3).trans h3, (e 4).trans h4, (e 5).trans h5, (e 6).trans h6, (e 7).trans h7, range_below hr hb (by omega), hB.trans hb⟩
/- a block with room for sixteen words -/
def Made (w : World) (g : Nat) : Prop := ∃ cs : Array Value, w.heap[g]? = some (.cells cs 78 (0, 0)) ∧ cs.size = 16
theorem Made.below {w w' : World} (hb : Below w.heap.size w w') : ∀ g, Made w g → Made w' g := fun g h => by
  obtain ⟨cs, hg, hs⟩ := h
  exact ⟨cs, (hb.block g (Array.getElem?_eq_some_iff.1 hg).1).trans hg, hs⟩
theorem Made.drew (w : World) (g : Nat) (h : Made w g) : Made w.drew g := h
theorem Made.there (w : World) (g : Nat) (h : Made w g) : w.there g 0 16 := by
  obtain ⟨cs, hg, hs⟩ := h
  intro j hj
  rw [cell_of_row w g (0 + j) cs 78 (0, 0) hg, Array.getElem?_eq_getElem (by omega)]
  exact ⟨rfl, frozen_of_row w g (0 + j) cs 78 hg⟩
theorem Made.base (W : World) (cs : Array Value) (hs : cs.size = 16) : Made (W.alloc (.cells cs 78)) W.heap.size := ⟨cs, heap_alloc_new W _, hs⟩
theorem splice_step {α : Type} (L : List α) (o : Nat) (v : α) (vs : List α) (h : o < L.length) : splice (L.set o v) (o + 1) vs = splice L o (v :: vs) := by
  unfold splice
  rw [List.take_succ_eq_append_getElem (by rw [List.length_set]; exact h), List.take_set_of_le (Nat.le_refl _), List.getElem_set_self, List.drop_set_of_lt (by omega), List.append_assoc, List.length_cons, show o + 1 + vs.length = o + (vs.length + 1) by omega]
  rfl
theorem setCells_splice (g t : Nat) : ∀ (l : List Value) (o : Nat) (cur : List Value) (w : World), w.heap[g]? = some (.cells cur.toArray t (0, 0)) → o + l.length ≤ cur.length → (w.setCells g o l).heap[g]? = some (.cells (splice cur o l).toArray t (0, 0))
  | [], o, cur, w, hg, _ => by
    have e : splice cur o [] = cur := by simp [splice]
    rw [e]; exact hg
  | v :: vs, o, cur, w, hg, hl => by
    rw [List.length_cons] at hl
    rw [← splice_step cur o v vs (by omega)]
    refine setCells_splice g t vs (o + 1) (cur.set o v) (w.setCell ⟨g, o, none⟩ v) ?_ (by rw [List.length_set]; omega)
    rw [heap_setCell_same w g o _ t _ hg, List.setIfInBounds_toArray]
theorem setCells_only (g : Nat) : ∀ (l : List Value) (o : Nat) (w : World), Only g w (w.setCells g o l)
  | [], _, w => Only.refl g w
  | v :: vs, o, w => ((Only.refl g w).setCell (p := ⟨g, o, none⟩) rfl v).trans (setCells_only g vs (o + 1) (w.setCell ⟨g, o, none⟩ v))
theorem splice_all {α : Type} (L l : List α) (h : L.length = l.length) : splice L 0 l = l := by
  unfold splice
  rw [List.take_zero, List.nil_append, List.drop_eq_nil_of_le (by omega), List.append_nil]
theorem Made.store {g : Nat} {w : World} {v : List Nat} (h : Made w g) (hv : v.length = 16) : Row (w.setCells g 0 (v.map V32)) g 78 v [] := by
  obtain ⟨cs, hg, hs⟩ := h
  have := setCells_splice g 78 (v.map V32) 0 cs.toList w hg (by simp; omega)
  rw [splice_all _ _ (by simp; omega)] at this
  exact row_arr.2 this
theorem Held.call {N : Nat} {w1 w' w'' : World} {a0 a1 a2 a3 a4 a5 a6 a7 : Nat} {l2 : List Value} (h : Held N w1 a0 a1 a2 a3 a4 a5 a6 a7 l2 w') (hz : w1.heap.size = N + 3) (hb : Below w'.heap.size w' w'') : Held N w1 a0 a1 a2 a3 a4 a5 a6 a7 l2 w'' := by
  have hs := h.2.2.2.2.2.2.2.2.2.size
  exact h.go (hb.mono (by omega))
theorem Held.bel {N : Nat} {w1 w' : World} {a0 a1 a2 a3 a4 a5 a6 a7 : Nat} {l2 : List Value} (h : Held N w1 a0 a1 a2 a3 a4 a5 a6 a7 l2 w') : Below (N + 3) w1 w' := h.2.2.2.2.2.2.2.2.2
theorem Held.tab {N : Nat} {w1 w' : World} {a0 a1 a2 a3 a4 a5 a6 a7 : Nat} {l2 : List Value} (h : Held N w1 a0 a1 a2 a3 a4 a5 a6 a7 l2 w') (hT : Tab w1) (hN : 3 < N) : Tab w' := hT.below (B := N + 3) (by omega) h.2.2.2.2.2.2.2.2.2
theorem Held.pos {N : Nat} {w1 w' : World} {a0 a1 a2 a3 a4 a5 a6 a7 : Nat} {l2 : List Value} (h : Held N w1 a0 a1 a2 a3 a4 a5 a6 a7 l2 w') (hz : w1.heap.size = N + 3) : N + 3 ≤ w'.heap.size := by
  have hs := h.2.2.2.2.2.2.2.2.2.size
  omega
theorem World.size_alloc' (w : World) (o : Obj) : (w.alloc o).heap.size = w.heap.size + 1 := by simp
theorem World.size_drew' (w : World) : w.drew.heap.size = w.heap.size := rfl
/- an equation that no tactic looks into -/
structure Is {α : Type} (a b : α) : Prop where
  eq : a = b
set_option maxHeartbeats 1000000 in
set_option maxRecDepth 20000 in
theorem taken_any (h b : List Nat) (n : Nat) (last : Bool) (w : World) (hh : Bl.Words 8 h) (hb : Bl.Bytes8 64 b) (hn : n < 9223372036854775808) (hT : Tab w) (h0 : 3 < w.heap.size) :
    Calls Tryd.prog 40 #[.agg (arr h), .agg (arr8 b), .int .i64 (n : Int), .bool last] w fun e w' => e = .returned (.agg (arr (Bl.taken h b n last))) ∧ Below w.heap.size w w' := by
  have HH : Hid (Bl.Words 8 h) := hh
  have HB : Hid (Bl.Bytes8 64 b) := hb
  have HT : Hid (Tab w) := hT
  obtain ⟨a0, a1, a2, a3, a4, a5, a6, a7, ha⟩ := eight hh.1
  have HA : Hid (h = [a0, a1, a2, a3, a4, a5, a6, a7]) := ha
  clear hh hb hT ha
  obtain ⟨Z, hZ⟩ : ∃ Z, Z = Bl.taken h b n last := ⟨_, rfl⟩
  rw [← hZ]
  have HZ : Is Z (Bl.taken h b n last) := ⟨hZ⟩
  clear hZ
  obtain ⟨X, hX⟩ : ∃ X, X = Bl.mixed h b n last := ⟨_, rfl⟩
  have HX : Is (Bl.rounds (Bl.begin h n last) (Bl.words b) 10) X := ⟨by rw [hX]; unfold Bl.mixed; rfl⟩
  have HZX : Is (Bl.taken h b n last) ((List.range 8).map (Bl.out h X)) := ⟨by rw [hX]; unfold Bl.taken; rfl⟩
  have hXW : Hid (Bl.Words 16 X) := by rw [hX]; exact Bl.mixed_words HH.out HB.out (by omega) last
  clear hX
  have MX : ∀ W : World, Tab W → 3 < W.heap.size → Calls Tryd.prog 48 #[.agg (arr (Bl.begin h n last)), .agg (arr (Bl.words b))] W fun e w' => e = .returned (.agg (arr X)) ∧ Below W.heap.size W w' := fun W hT hz => by
    rw [← HX.eq]; exact mixed_any _ _ W (Bl.begin_words HH.out (by omega) last) (Bl.words_words HB.out) hT hz
  have MXH : Hid (∀ W : World, Tab W → 3 < W.heap.size → Calls Tryd.prog 48 #[.agg (arr (Bl.begin h n last)), .agg (arr (Bl.words b))] W fun e w' => e = .returned (.agg (arr X)) ∧ Below W.heap.size W w') := MX
  have BGH : Hid (∀ W : World, Tab W → 3 < W.heap.size → Calls Tryd.prog 47 #[.agg #[.int .u32 ((a0 : Nat) : Int), .int .u32 ((a1 : Nat) : Int), .int .u32 ((a2 : Nat) : Int), .int .u32 ((a3 : Nat) : Int), .int .u32 ((a4 : Nat) : Int), .int .u32 ((a5 : Nat) : Int), .int .u32 ((a6 : Nat) : Int), .int .u32 ((a7 : Nat) : Int)], .int .u64 (n : Int), .bool last] W fun e w' => e = .returned (.agg (arr (Bl.begin h n last))) ∧ Below W.heap.size W w') := fun W hT hz => by
    have hc := begun_any h n last W HH.out (by omega) hT hz
    rw [HA.out] at hc ⊢
    exact hc
  have WDH : Hid (∀ W : World, Calls Tryd.prog 49 #[.agg (b.map V8).toArray] W fun e w' => e = .returned (.agg (arr (Bl.words b))) ∧ Below W.heap.size W w') := fun W => wordsOf_any b W HB.out
  clear MX HX
  have wu : IntKind.u64.wrap (n : Int) = (n : Int) := by rw [IntKind.wrap_u64]; omega
  generalize Bl.begin h n last = BG at *
  generalize Bl.words b = WD at *
  go_enter Tryd.func40, Tryd.ntmps40
  go_upto_region 1 with fail
  have e8 : arr (Bl.zeros 8) = #[.int .u32 0, .int .u32 0, .int .u32 0, .int .u32 0, .int .u32 0, .int .u32 0, .int .u32 0, .int .u32 0] := rfl
  rw [← e8]
  clear e8
  obtain ⟨g0, g1, g2, gz, gB⟩ := alloc3 w (.cells (arr h) 66) (.cells (arr8 b) 67) (.cells (arr (Bl.zeros 8)) 66)
  generalize World.alloc (World.alloc (World.alloc w _) _) (.cells (arr (Bl.zeros 8)) 66) = w1 at *
  have HR1 : Hid (Held w.heap.size w1 a0 a1 a2 a3 a4 a5 a6 a7 (b.map V8) w1) := by
    have c : ∀ i, i < h.length → w1.cell? ⟨w.heap.size, i, none⟩ = some (.int .u32 (h.getD i 0 : Nat)) := fun i hi => ((row_arr.2 g0).at i hi).1
    rw [HA.out] at c
    exact ⟨c 0 (by simp), c 1 (by simp), c 2 (by simp), c 3 (by simp), c 4 (by simp), c 5 (by simp), c 6 (by simp), c 7 (by simp), range_of_row8 g1, Below.refl _ _⟩
  have HT1 : Hid (Tab w1) := HT.out.below h0 gB
  have GZ : Hid (w1.heap.size = w.heap.size + 3) := gz
  have G0 : Hid (w1.heap[w.heap.size]? = some (.cells (arr h) 66 (0, 0))) := g0
  have G2 : Hid (w1.heap[w.heap.size + 2]? = some (.cells (arr (Bl.zeros 8)) 66 (0, 0))) := g2
  have GB : Hid (Below w.heap.size w w1) := gB
  clear g0 g1 g2 gz gB HT
  have u48 := Tryd.underlying67
  have i48 : (Tryd.prog.info? 67).map (·.size) = some (b.map V8).length := by rw [size48, List.length_map, HB.out.1]
  have lX : (X.map V32).length = 16 := by rw [List.length_map]; exact hXW.out.1
  have oX : ∀ v ∈ X.map V32, v.oneCell' = true := v32_one X
  have i65 : (Tryd.prog.info? 78).map (·.size) = some (X.map V32).length := by rw [size65, lX]
  have hth := Made.there
  have hdr := Made.drew
  have hbs : ∀ W : World, Made (W.alloc (.cells #[.int .u32 0, .int .u32 0, .int .u32 0, .int .u32 0, .int .u32 0, .int .u32 0, .int .u32 0, .int .u32 0, .int .u32 0, .int .u32 0, .int .u32 0, .int .u32 0, .int .u32 0, .int .u32 0, .int .u32 0, .int .u32 0] 78)) W.heap.size := fun W => Made.base W _ rfl
  go_cut [9] (fun s wx => ∃ g, s = .pointer (some ⟨g, 0, none⟩) ∧ w.heap.size + 3 ≤ g ∧ Row wx g 78 X [] ∧ Below (w.heap.size + 3) w1 wx)
  case first =>
    go_region_held3 (fun w' => w'.cell? ⟨w.heap.size, 0, none⟩ = some (.int .u32 (a0 : Nat)) ∧ w'.cell? ⟨w.heap.size, 1, none⟩ = some (.int .u32 (a1 : Nat)) ∧ w'.cell? ⟨w.heap.size, 2, none⟩ = some (.int .u32 (a2 : Nat)) ∧ w'.cell? ⟨w.heap.size, 3, none⟩ = some (.int .u32 (a3 : Nat)) ∧ w'.cell? ⟨w.heap.size, 4, none⟩ = some (.int .u32 (a4 : Nat)) ∧ w'.cell? ⟨w.heap.size, 5, none⟩ = some (.int .u32 (a5 : Nat)) ∧ w'.cell? ⟨w.heap.size, 6, none⟩ = some (.int .u32 (a6 : Nat)) ∧ w'.cell? ⟨w.heap.size, 7, none⟩ = some (.int .u32 (a7 : Nat)) ∧ w'.rangeAt (w.heap.size + 1) 0 (b.map V8) ∧ Below (w.heap.size + 3) w1 w')
      (first | exact Held.go HR1.out (Below.refl _ _).drew | assumption | exact Held.call (by assumption) GZ.out (by assumption) | exact Held.go (by assumption) ((Below.refl _ _).alloc (Held.pos (by assumption) GZ.out) _) | exact Held.go (by assumption) ((setCells_only _ _ _ _).below (by first | exact Held.pos (by assumption) GZ.out | (have q1 := GZ.out; omega))))
      (first
        | (go_at_call 47; have hz30 := Held.pos (by assumption) GZ.out; refine (BGH.out _ ?_ ?_).mono ?_; exact Held.tab (by assumption) HT1.out h0; exact Nat.lt_of_lt_of_le (by omega) hz30; rintro e w' ⟨rfl, hbb⟩; have hs30 := hbb.size; (try have hM := Made.below hbb _ (Made.drew _ _ (hbs _))); (try have hM := Made.below hbb _ (hbs _)); (try have hM := Made.below hbb _ (by assumption)); (try simp only [World.size_alloc', World.size_drew'] at hs30 hz30))
        | (go_at_call 49; have hz32 := Held.pos (by assumption) GZ.out; refine (WDH.out _ ).mono ?_; rintro e w' ⟨rfl, hbw⟩; have hs32 := hbw.size; (try have hM := Made.below hbw _ (Made.drew _ _ (hbs _))); (try have hM := Made.below hbw _ (hbs _)); (try have hM := Made.below hbw _ (by assumption)); (try simp only [World.size_alloc'] at hs32 hz32))
        | (go_at_call 48; have hz31 := Held.pos (by assumption) GZ.out; refine (MXH.out _ ?_ ?_).mono ?_; exact Held.tab (by assumption) HT1.out h0; exact Nat.lt_of_lt_of_le (by omega) hz31; rintro e w' ⟨rfl, hbm⟩; have hs31 := hbm.size; (try have hM := Made.below hbm _ (Made.drew _ _ (hbs _))); (try have hM := Made.below hbm _ (hbs _)); (try have hM := Made.below hbm _ (by assumption)); (try simp only [World.size_alloc'] at hs31 hz31)))
    all_goals go_wp2_with fail
    all_goals go_meet
    all_goals (case rel => exact ⟨_, rfl, (by first | exact Held.pos (by assumption) GZ.out | (have q1 := GZ.out; omega)), Made.store (by first | assumption | exact hbs _) hXW.out.1, Held.bel (by assumption)⟩)
  case rest =>
    obtain ⟨g, rfl, hg, hRX, hB1⟩ := hcut
    have HN0 : Hid (wc.heap[w.heap.size]? = some (.cells (arr h) 66 (0, 0))) := (hB1.block _ (by omega)).trans G0.out
    have HN2 : Hid (wc.heap[w.heap.size + 2]? = some (.cells (arr (Bl.zeros 8)) 66 (0, 0))) := (hB1.block _ (by omega)).trans G2.out
    have HBW : Hid (Below w.heap.size w wc) := GB.out.trans (hB1.mono (by omega))
    have HRX : Hid (Row wc g 78 X []) := hRX
    have HZl : Hid (Z.length = 8) := by show _ = _; rw [HZ.eq, HZX.eq]; simp
    have HZa : Hid (∀ i, i < 8 → Z.getD i 0 = h.getD i 0 ^^^ X.getD i 0 ^^^ X.getD (8 + i) 0) := fun i hi => by
      rw [HZ.eq, HZX.eq, List.getD_eq_getElem?_getD, List.getElem?_map, List.getElem?_range hi, Option.map_some, Option.getD_some]; rfl
    clear hRX hB1 G0 G2 GB HR1 HT1 GZ HA MXH WDH BGH lX oX i65 hth hdr hbs u48 i48 HZ HZX wu
    go_wp2_with fail
    go_loopw [10, 19] (fun _ i wr => ∃ k : Nat, k ≤ 8 ∧ i = .int .i64 k ∧ Row wr w.heap.size 66 (Bl.part Z h k) [] ∧ Row wr g 78 X [] ∧ wr.heap[w.heap.size + 2]? = some (.cells (arr (Bl.zeros 8)) 66 (0, 0)) ∧ Below w.heap.size w wr) (fun _ i _ => 8 - (intOf i).toNat)
    case atStart => exact ⟨0, by omega, rfl, by rw [Bl.part_zero]; exact row_arr.2 HN0.out, HRX.out, HN2.out, HBW.out⟩
    case round =>
      obtain ⟨k, hk, rfl, hr, hx, hres, hB⟩ := hrel
      by_cases hlt : k < 8
      · have hs := Bl.part_set HZl.out HH.out.1 hlt
        obtain ⟨hc, hf⟩ := hr.at k (by rw [Bl.part_length HZl.out HH.out.1 hk]; exact hlt)
        rw [Bl.part_at HZl.out HH.out.1 hlt] at hc
        obtain ⟨hc1, _⟩ := hx.at k (by rw [hXW.out.1]; omega)
        obtain ⟨hc2, _⟩ := hx.at (8 + k) (by rw [hXW.out.1]; omega)
        rw [HZa.out k hlt] at hs
        have lh := HH.out.at k
        have lx := hXW.out.at k
        have ly := hXW.out.at (8 + k)
        have HS : Hid ((Bl.part Z h k).set k (h.getD k 0 ^^^ X.getD k 0 ^^^ X.getD (8 + k) 0) = Bl.part Z h (k + 1)) := hs
        have HL : Hid (k < (Bl.part Z h k).length) := by show _ < _; rw [Bl.part_length HZl.out HH.out.1 hk]; exact hlt
        have HR : Hid (Row wr w.heap.size 66 (Bl.part Z h k) []) := hr
        have HX : Hid (Row wr g 78 X []) := hx
        have HRES : Hid (wr.heap[w.heap.size + 2]? = some (.cells (arr (Bl.zeros 8)) 66 (0, 0))) := hres
        clear hs hr hx hres
        generalize h.getD k 0 = p at *
        generalize X.getD k 0 = q at *
        generalize X.getD (8 + k) 0 = s at *
        have x1 := u32_xor_nat q s lx ly
        have x2 := u32_xor_nat p (q ^^^ s) lh (Bl.xor_lt lx ly)
        rw [← Nat.xor_assoc] at x2
        have k0 : (0 : Int) ≤ (k : Int) := Int.natCast_nonneg _
        obtain ⟨k8, hk8⟩ : ∃ k8 : Nat, k8 = 8 + k := ⟨_, rfl⟩
        rw [← hk8] at hc2
        have e8 : (8 : Int) + (k : Int) = (k8 : Int) := by omega
        have b8 : (k8 : Int) < 16 := by omega
        have k80 : (0 : Int) ≤ (k8 : Int) := Int.natCast_nonneg _
        have w8 := wrap64 k8 (by omega)
        clear hk8
        go_wp2_with fail
        go_region
        go_wp2
        go_roundw
        case rel => exact ⟨k + 1, by omega, by go_num, by rw [← HS.out]; exact (HR.out.set _ _ HL.out), (heap_setCell_other _ _ _ _ (by show g ≠ w.heap.size; omega)).trans HX.out, (heap_setCell_other _ _ _ _ (by show w.heap.size + 2 ≠ w.heap.size; omega)).trans HRES.out, (hB.setCell (Nat.le_refl _) _).drew⟩
        case measure => (simp [intOf]) <;> omega
      · have hk8 : k = 8 := by omega
        subst hk8
        rw [Bl.part_all HZl.out HH.out.1] at hr
        have hi : Hid ((Tryd.prog.info? 66).map (·.size) = some (arr Z).size) := by show _ = _; rw [size47, arr_size, HZl.out]
        have he : Hid ((arr (Bl.zeros 8)).size = (arr Z).size) := by show _ = _; rw [arr_size, arr_size, HZl.out]; rfl
        have H1 : Hid ((arr Z).all (·.oneCell') = true) := arr_one _
        have HG0 : Hid (wr.heap[w.heap.size + 2]? = some (.cells (arr (Bl.zeros 8)) 66 (0, 0))) := hres
        have HG : Hid (wr.heap[w.heap.size]? = some (.cells (arr Z) 66 (0, 0))) := row_arr.1 hr
        clear hr hres HZa
        go_wp2_with (first | (refine wpList_load_row rfl 66 _ rfl w.heap.size rfl 66 (arr Z) (0, 0) _ HG.out Tryd.underlying66 rfl hi.out ?_) | (refine store_row rfl rfl 66 _ _ rfl (w.heap.size + 2) (arr Z) rfl rfl 66 (arr (Bl.zeros 8)) HG0.out hi.out he.out H1.out ?_))
        refine bodyPost_ret (v := .agg (arr Z)) ?_ rfl ⟨rfl, below_setRow hB (by omega) _⟩
        exact results_cell_row Tryd.results40 _ _ (w.heap.size + 2) 66 _ (0, 0) _ rfl (setRow_heap _ _ (arr (Bl.zeros 8)) _ _ _ HG0.out) Tryd.underlying66 rfl hi.out
end Go.Proofs.YtefpaebbendnmaaDoor.BK
