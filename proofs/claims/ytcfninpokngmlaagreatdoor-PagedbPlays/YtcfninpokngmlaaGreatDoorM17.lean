/- Proved: the document's database in memory, and how its own cells are written (stage 10). -/
import Derived.Test.YtcfninpokngmlaaGreatDoorM16
namespace Go.Proofs.YtcfninpokngmlaaGreatDoor
open Go.RowKit
structure Rv where
  sP : Value
  sF : Value
  sR : Value
  tP : Value
  tF : Value
  tR : Value
  tc : Value
def rdA (cnt log : Nat) (v : Rv) (op mk sp : Bool) : Array Value := #[.int .i64 (cnt : Int), .int .i64 (log : Int), v.sP, v.sF, v.sR, .bool op, v.tP, v.tF, v.tR, v.tc, .bool mk, .bool sp]
def bl (v : Value) : List Nat := v.ownBlock.toList
theorem mem_bl {v : Value} {k : Nat} : k ∈ bl v ↔ v.ownBlock = some k := by unfold bl; simp
def rS (h : Nat) (v : Rv) : List Nat := h :: (bl v.sP ++ bl v.sF ++ bl v.sR)
def rT (h : Nat) (v : Rv) : List Nat := rS h v ++ (bl v.tP ++ bl v.tF ++ bl v.tR ++ bl v.tc)
/- no transaction is open -/
structure RC (w : World) (h cnt log : Nat) (v : Rv) (S : Pd.Ab) (mk sp : Bool) : Prop where
  row : w.heap[h]? = some (.cells (rdA cnt log v false mk sp) 41 (0, 0))
  st : StO w 0 v.sP v.sF v.sR S
  ah : h ∉ bl v.sP ++ bl v.sF ++ bl v.sR
  sl : ∃ a n c, v.tc = .slice a n c ∧ n ≤ 100000
/- one is open -/
structure RO (w : World) (h cnt log : Nat) (v : Rv) (S T : Pd.Ab) (tb : List Bool) (mk sp : Bool) : Prop where
  row : w.heap[h]? = some (.cells (rdA cnt log v true mk sp) 41 (0, 0))
  st : StO w 0 v.sP v.sF v.sR S
  tt : StO w 0 v.tP v.tF v.tR T
  tc : w.ownsRow 0 4 1 v.tc (cnt + 1) (tb.map Value.bool)
  ah : h ∉ bl v.sP ++ bl v.sF ++ bl v.sR ++ bl v.tP ++ bl v.tF ++ bl v.tR ++ bl v.tc
  aP : ∀ k ∈ bl v.tP, k ∉ bl v.sP ++ bl v.sF ++ bl v.sR ++ bl v.tF ++ bl v.tR ++ bl v.tc
  aR : ∀ k ∈ bl v.tR, k ∉ bl v.sP ++ bl v.sF ++ bl v.sR ++ bl v.tP ++ bl v.tF ++ bl v.tc
  aC : ∀ k ∈ bl v.tc, k ∉ bl v.sP ++ bl v.sF ++ bl v.sR ++ bl v.tP ++ bl v.tF ++ bl v.tR
section
variable {w w' : World} {h cnt log : Nat} {v : Rv} {S T : Pd.Ab} {tb : List Bool} {mk sp : Bool}
theorem StO.keep {B : Nat} {p f r : Value} (H : StO w B p f r S) (hb : ∀ k, k ∈ bl p ++ bl f ++ bl r → w'.heap[k]? = w.heap[k]?) : StO w' B p f r S :=
  ⟨own_keep H.pg (fun k hk => hb k (by simp [mem_bl, hk])), own_keep H.fr (fun k hk => hb k (by simp [mem_bl, hk])), own_keep H.rt (fun k hk => hb k (by simp [mem_bl, hk]))⟩
theorem RC.cell (H : RC w h cnt log v S mk sp) (i : Nat) : w.cell? ⟨h, i, none⟩ = (rdA cnt log v false mk sp)[i]? := cell_of_row w h i _ _ (0, 0) H.row
theorem RO.cell (H : RO w h cnt log v S T tb mk sp) (i : Nat) : w.cell? ⟨h, i, none⟩ = (rdA cnt log v true mk sp)[i]? := cell_of_row w h i _ _ (0, 0) H.row
theorem RC.fz (H : RC w h cnt log v S mk sp) (i : Nat) : w.frozen? ⟨h, i, none⟩ = false := frozen_of_row w h i _ _ H.row
theorem RO.fz (H : RO w h cnt log v S T tb mk sp) (i : Nat) : w.frozen? ⟨h, i, none⟩ = false := frozen_of_row w h i _ _ H.row
theorem RC.hlt (H : RC w h cnt log v S mk sp) : h < w.heap.size := (Array.getElem?_eq_some_iff.1 H.row).1
theorem RO.hlt (H : RO w h cnt log v S T tb mk sp) : h < w.heap.size := (Array.getElem?_eq_some_iff.1 H.row).1
theorem StO.lt {B : Nat} {p f r : Value} (H : StO w B p f r S) : ∀ k ∈ bl p ++ bl f ++ bl r, k < w.heap.size := fun k hk => by
  simp [mem_bl] at hk
  rcases hk with e | e | e
  · exact (H.pg.lt k e).2
  · exact (H.fr.lt k e).2
  · exact (H.rt.lt k e).2
theorem RC.lt (H : RC w h cnt log v S mk sp) : ∀ k ∈ rS h v, k < w.heap.size := fun k hk => by
  rcases List.mem_cons.1 hk with rfl | e
  · exact H.hlt
  · exact H.st.lt k e
theorem RO.lt (H : RO w h cnt log v S T tb mk sp) : ∀ k ∈ rT h v, k < w.heap.size := fun k hk => by
  unfold rT rS at hk
  rcases List.mem_append.1 hk with hk | hk
  · rcases List.mem_cons.1 hk with rfl | e
    · exact H.hlt
    · exact H.st.lt k e
  · rcases List.mem_append.1 hk with hk | hk
    · exact H.tt.lt k hk
    · exact (H.tc.lt k (mem_bl.1 hk)).2
theorem RC.keep (H : RC w h cnt log v S mk sp) {fs : List Nat} (hc : Chg fs w w') (ha : ∀ k ∈ rS h v, k ∉ fs) : RC w' h cnt log v S mk sp :=
  ⟨(hc.block h H.hlt (ha h List.mem_cons_self)).trans H.row, H.st.keep (fun k hk => hc.block k (H.st.lt k hk) (ha k (List.mem_cons_of_mem _ hk))), H.ah, H.sl⟩
theorem RO.keep (H : RO w h cnt log v S T tb mk sp) {fs : List Nat} (hc : Chg fs w w') (ha : ∀ k ∈ rT h v, k ∉ fs) : RO w' h cnt log v S T tb mk sp :=
  ⟨(hc.block h H.hlt (ha h (List.mem_append_left _ List.mem_cons_self))).trans H.row, H.st.keep (fun k hk => hc.block k (H.st.lt k hk) (ha k (List.mem_append_left _ (List.mem_cons_of_mem _ hk)))), H.tt.keep (fun k hk => hc.block k (H.tt.lt k hk) (ha k (List.mem_append_right _ (List.mem_append_left _ hk)))), own_keep H.tc (fun k hk => hc.block k (H.tc.lt k hk).2 (ha k (List.mem_append_right _ (List.mem_append_right _ (mem_bl.2 hk))))), H.ah, H.aP, H.aR, H.aC⟩
theorem RC.below (H : RC w h cnt log v S mk sp) (hB : Below w.heap.size w w') : RC w' h cnt log v S mk sp := H.keep (fs := []) (Chg.of_below hB) (by simp)
theorem RO.below (H : RO w h cnt log v S T tb mk sp) (hB : Below w.heap.size w w') : RO w' h cnt log v S T tb mk sp := H.keep (fs := []) (Chg.of_below hB) (by simp)
/- one cell of a row of the call's own is written -/
theorem own_set {B e k n g cap : Nat} {xs : List Value} (H : w.ownsRow B e k (.slice (some ⟨g, 0, none⟩) n cap) n xs) (i : Nat) (u : Value) : (w.setCell ⟨g, i, none⟩ u).ownsRow B e k (.slice (some ⟨g, 0, none⟩) n cap) n (xs.set i u) := by
  rcases H.2 with ⟨h1, h2⟩ | ⟨g', cap', cur, hv, hg, hb, h1, h2, h3, h4⟩
  · cases h1
  · cases hv
    refine ⟨by rw [List.length_set]; exact H.1, .inr ⟨g, cap, cur.setIfInBounds i u, rfl, hg, heap_setCell_same w g i _ _ u hb, h1, h2, by rw [Array.size_setIfInBounds]; exact h3, ?_⟩⟩
    rw [Array.toList_setIfInBounds, List.take_set, h4]
theorem own_frozen {B e k n g cap : Nat} {xs : List Value} (H : w.ownsRow B e k (.slice (some ⟨g, 0, none⟩) n cap) n xs) (i : Nat) : w.frozen? ⟨g, i, none⟩ = false := by
  rcases H.2 with ⟨h1, h2⟩ | ⟨g', cap', cur, hv, hg, hb, h1, h2, h3, h4⟩
  · cases h1
  · cases hv
    exact frozen_of_row w g i _ _ hb
theorem pgs_set : ∀ (l : List (Option Pd.Sheet)) (j : Nat) (o : Option Pd.Sheet) (a b c : Value), pgC o = [a, b, c] → j < l.length → (((l.flatMap pgC).set (j * 3) a).set (j * 3 + 1) b).set (j * 3 + 2) c = (l.set j o).flatMap pgC
  | [], _, _, _, _, _, _, hj => by simp at hj
  | x :: l, 0, o, a, b, c, e, _ => by
    obtain ⟨k, s, f, hx⟩ := pgC_three x
    simp [hx, e]
  | x :: l, j + 1, o, a, b, c, e, hj => by
    have ih := pgs_set l j o a b c e (by simpa using hj)
    have hl := pgC_length x
    simp only [List.flatMap_cons, List.set_cons_succ]
    rw [← ih]
    rw [List.set_append_right _ _ (by rw [hl]; omega), List.set_append_right _ _ (by rw [hl]; omega), List.set_append_right _ _ (by rw [hl]; omega), hl]
    congr 1
    congr 1
    · congr 1
      · congr 1
        omega
      · omega
    · omega
/- the blocks of a transaction of the document's -/
theorem rT_h : h ∈ rT h v := List.mem_append_left _ List.mem_cons_self
theorem rT_P {k : Nat} (e : k ∈ bl v.tP) : k ∈ rT h v := by unfold rT rS; simp [e]
theorem rT_F {k : Nat} (e : k ∈ bl v.tF) : k ∈ rT h v := by unfold rT rS; simp [e]
theorem rT_R {k : Nat} (e : k ∈ bl v.tR) : k ∈ rT h v := by unfold rT rS; simp [e]
theorem rT_C {k : Nat} (e : k ∈ bl v.tc) : k ∈ rT h v := by unfold rT rS; simp [e]
theorem rT_S {k : Nat} (e : k ∈ rS h v) : k ∈ rT h v := List.mem_append_left _ e
/- its pages -/
theorem RO.page (H : RO w h cnt log v S T tb mk sp) {g cap : Nat} (hv : v.tP = .slice (some ⟨g, 0, none⟩) T.pgs.length cap) (j : Nat) (hj : j < T.pgs.length) (o : Option Pd.Sheet) {a b c : Value} (e : pgC o = [a, b, c]) :
    RO (((w.setCell ⟨g, j * 3, none⟩ a).setCell ⟨g, j * 3 + 1, none⟩ b).setCell ⟨g, j * 3 + 2, none⟩ c) h cnt log v S { T with pgs := T.pgs.set j o } tb mk sp ∧ Turn (rT h v) (rT h v) w (((w.setCell ⟨g, j * 3, none⟩ a).setCell ⟨g, j * 3 + 1, none⟩ b).setCell ⟨g, j * 3 + 2, none⟩ c) := by
  have hgP : g ∈ bl v.tP := by rw [hv]; exact mem_bl.2 rfl
  have hna := H.aP g hgP
  have hc : Chg [g] w (((w.setCell ⟨g, j * 3, none⟩ a).setCell ⟨g, j * 3 + 1, none⟩ b).setCell ⟨g, j * 3 + 2, none⟩ c) := ((Chg.setCell _ _ _ _).trans (Chg.setCell _ _ _ _)).trans (Chg.setCell _ _ _ _)
  have hb : ∀ k, k < w.heap.size → k ≠ g → (((w.setCell ⟨g, j * 3, none⟩ a).setCell ⟨g, j * 3 + 1, none⟩ b).setCell ⟨g, j * 3 + 2, none⟩ c).heap[k]? = w.heap[k]? := fun k h1 h2 => hc.block k h1 (fun hm => h2 (List.mem_singleton.1 hm))
  have hgh : h ≠ g := fun e => H.ah (by rw [e]; simp [hgP])
  have hpg := H.tt.pg
  rw [hv] at hpg
  have hpg2 := own_set (own_set (own_set hpg (j * 3) a) (j * 3 + 1) b) (j * 3 + 2) c
  rw [pgs_set _ j o a b c e hj] at hpg2
  simp only [List.mem_append, not_or] at hna
  obtain ⟨⟨⟨⟨⟨n1, n2⟩, n3⟩, n4⟩, n5⟩, n6⟩ := hna
  refine ⟨⟨(hb h H.hlt hgh).trans H.row, H.st.keep (fun k hk => hb k (H.st.lt k hk) (fun e => ?_)), ⟨?_, own_keep H.tt.fr (fun k hk => hb k (H.tt.fr.lt k hk).2 (fun e => n4 (by rw [← e]; exact mem_bl.2 hk))), own_keep H.tt.rt (fun k hk => hb k (H.tt.rt.lt k hk).2 (fun e => n5 (by rw [← e]; exact mem_bl.2 hk)))⟩, own_keep H.tc (fun k hk => hb k (H.tc.lt k hk).2 (fun e => n6 (by rw [← e]; exact mem_bl.2 hk))), H.ah, H.aP, H.aR, H.aC⟩, hc.mono (fun k hk => by rw [List.mem_singleton.1 hk]; exact rT_P hgP), fun k hk => .inl hk⟩
  · subst e
    simp only [List.mem_append] at hk
    rcases hk with (hk | hk) | hk
    · exact n1 hk
    · exact n2 hk
    · exact n3 hk
  · show World.ownsRow _ 0 83 3 v.tP (T.pgs.set j o).length _
    rw [hv, List.length_set]
    exact hpg2
/- what it touched -/
theorem RO.touch (H : RO w h cnt log v S T tb mk sp) {g cap : Nat} (hv : v.tc = .slice (some ⟨g, 0, none⟩) (cnt + 1) cap) (i : Nat) :
    RO (w.setCell ⟨g, i, none⟩ (.bool true)) h cnt log v S T (tb.set i true) mk sp ∧ Turn (rT h v) (rT h v) w (w.setCell ⟨g, i, none⟩ (.bool true)) := by
  have hgP : g ∈ bl v.tc := by rw [hv]; exact mem_bl.2 rfl
  have hna := H.aC g hgP
  have hc : Chg [g] w (w.setCell ⟨g, i, none⟩ (.bool true)) := Chg.setCell _ _ _ _
  have hb : ∀ k, k < w.heap.size → k ≠ g → (w.setCell ⟨g, i, none⟩ (.bool true)).heap[k]? = w.heap[k]? := fun k h1 h2 => hc.block k h1 (fun hm => h2 (List.mem_singleton.1 hm))
  have hgh : h ≠ g := fun e => H.ah (by rw [e]; simp [hgP])
  have htc := H.tc
  rw [hv] at htc
  have htc2 := own_set htc i (.bool true)
  simp only [List.mem_append, not_or] at hna
  obtain ⟨⟨⟨⟨⟨n1, n2⟩, n3⟩, n4⟩, n5⟩, n6⟩ := hna
  refine ⟨⟨(hb h H.hlt hgh).trans H.row, H.st.keep (fun k hk => hb k (H.st.lt k hk) (fun e => ?_)), H.tt.keep (fun k hk => hb k (H.tt.lt k hk) (fun e => ?_)), ?_, H.ah, H.aP, H.aR, H.aC⟩, hc.mono (fun k hk => by rw [List.mem_singleton.1 hk]; exact rT_C hgP), fun k hk => .inl hk⟩
  · subst e
    simp only [List.mem_append] at hk
    rcases hk with (hk | hk) | hk
    · exact n1 hk
    · exact n2 hk
    · exact n3 hk
  · subst e
    simp only [List.mem_append] at hk
    rcases hk with (hk | hk) | hk
    · exact n4 hk
    · exact n5 hk
    · exact n6 hk
  · rw [hv, List.map_set]
    exact htc2
/- its roots -/
theorem roots_set (T : Pd.Ab) (i n : Nat) (hi : i < 4) : [T.r0, T.r1, T.r2, T.r3].set i n = [(T.root i n).r0, (T.root i n).r1, (T.root i n).r2, (T.root i n).r3] := by
  rcases (by omega : i = 0 ∨ i = 1 ∨ i = 2 ∨ i = 3) with rfl | rfl | rfl | rfl <;> rfl
theorem RO.setroot (H : RO w h cnt log v S T tb mk sp) {g cap : Nat} (hv : v.tR = .slice (some ⟨g, 0, none⟩) 4 cap) (i n : Nat) (hi : i < 4) :
    RO (w.setCell ⟨g, i, none⟩ (.int .i64 (n : Int))) h cnt log v S (T.root i n) tb mk sp ∧ Turn (rT h v) (rT h v) w (w.setCell ⟨g, i, none⟩ (.int .i64 (n : Int))) := by
  have hgP : g ∈ bl v.tR := by rw [hv]; exact mem_bl.2 rfl
  have hna := H.aR g hgP
  have hc : Chg [g] w (w.setCell ⟨g, i, none⟩ (.int .i64 (n : Int))) := Chg.setCell _ _ _ _
  have hb : ∀ k, k < w.heap.size → k ≠ g → (w.setCell ⟨g, i, none⟩ (.int .i64 (n : Int))).heap[k]? = w.heap[k]? := fun k h1 h2 => hc.block k h1 (fun hm => h2 (List.mem_singleton.1 hm))
  have hgh : h ≠ g := fun e => H.ah (by rw [e]; simp [hgP])
  have hrt := H.tt.rt
  rw [hv] at hrt
  have hrt2 := own_set hrt i (.int .i64 (n : Int))
  have hse : (intC [T.r0, T.r1, T.r2, T.r3]).set i (.int .i64 (n : Int)) = intC [(T.root i n).r0, (T.root i n).r1, (T.root i n).r2, (T.root i n).r3] := by
    rw [← roots_set T i n hi]
    unfold intC
    rw [List.map_set]
  rw [hse] at hrt2
  obtain ⟨e1, e2⟩ := Pd.Ab.root_pgs T i n
  simp only [List.mem_append, not_or] at hna
  obtain ⟨⟨⟨⟨⟨n1, n2⟩, n3⟩, n4⟩, n5⟩, n6⟩ := hna
  refine ⟨⟨(hb h H.hlt hgh).trans H.row, H.st.keep (fun k hk => hb k (H.st.lt k hk) (fun e => ?_)), ⟨?_, ?_, by rw [hv]; exact hrt2⟩, own_keep H.tc (fun k hk => hb k (H.tc.lt k hk).2 (fun e => n6 (by rw [← e]; exact mem_bl.2 hk))), H.ah, H.aP, H.aR, H.aC⟩, hc.mono (fun k hk => by rw [List.mem_singleton.1 hk]; exact rT_R hgP), fun k hk => .inl hk⟩
  · subst e
    simp only [List.mem_append] at hk
    rcases hk with (hk | hk) | hk
    · exact n1 hk
    · exact n2 hk
    · exact n3 hk
  · rw [e1]
    exact own_keep H.tt.pg (fun k hk => hb k (H.tt.pg.lt k hk).2 (fun e => n4 (by rw [← e]; exact mem_bl.2 hk)))
  · rw [e2]
    exact own_keep H.tt.fr (fun k hk => hb k (H.tt.fr.lt k hk).2 (fun e => n5 (by rw [← e]; exact mem_bl.2 hk)))
/- its own cells -/
theorem RO.cells (H : RO w h cnt log v S T tb mk sp) {mk' sp' : Bool} (hc : Chg [h] w w') (hr : w'.heap[h]? = some (.cells (rdA cnt log v true mk' sp') 41 (0, 0))) : RO w' h cnt log v S T tb mk' sp' ∧ Turn (rT h v) (rT h v) w w' := by
  have hb : ∀ k, k < w.heap.size → k ≠ h → w'.heap[k]? = w.heap[k]? := fun k h1 h2 => hc.block k h1 (fun hm => h2 (List.mem_singleton.1 hm))
  have hah := H.ah
  simp only [List.mem_append, not_or] at hah
  obtain ⟨⟨⟨⟨⟨⟨n1, n2⟩, n3⟩, n4⟩, n5⟩, n6⟩, n7⟩ := hah
  refine ⟨⟨hr, H.st.keep (fun k hk => hb k (H.st.lt k hk) (fun e => ?_)), H.tt.keep (fun k hk => hb k (H.tt.lt k hk) (fun e => ?_)), own_keep H.tc (fun k hk => hb k (H.tc.lt k hk).2 (fun e => n7 (by rw [← e]; exact mem_bl.2 hk))), H.ah, H.aP, H.aR, H.aC⟩, hc.mono (fun k hk => by rw [List.mem_singleton.1 hk]; exact rT_h), fun k hk => .inl hk⟩
  · subst e
    simp only [List.mem_append] at hk
    rcases hk with (hk | hk) | hk
    · exact n1 hk
    · exact n2 hk
    · exact n3 hk
  · subst e
    simp only [List.mem_append] at hk
    rcases hk with (hk | hk) | hk
    · exact n4 hk
    · exact n5 hk
    · exact n6 hk
theorem RO.mark (H : RO w h cnt log v S T tb mk sp) : RO (w.setCell ⟨h, 10, none⟩ (.bool true)) h cnt log v S T tb true sp ∧ Turn (rT h v) (rT h v) w (w.setCell ⟨h, 10, none⟩ (.bool true)) :=
  H.cells (Chg.setCell _ _ _ _) ((heap_setCell_same w h 10 _ _ _ H.row).trans rfl)
theorem RO.spoil (H : RO w h cnt log v S T tb mk sp) : RO (w.setCell ⟨h, 11, none⟩ (.bool true)) h cnt log v S T tb mk true ∧ Turn (rT h v) (rT h v) w (w.setCell ⟨h, 11, none⟩ (.bool true)) :=
  H.cells (Chg.setCell _ _ _ _) ((heap_setCell_same w h 11 _ _ _ H.row).trans rfl)
theorem RO.slc (H : RO w h cnt log v S T tb mk sp) (hcn : cnt ≤ 1000) : ∃ a n c, v.tc = .slice a n c ∧ n ≤ 100000 := by
  obtain ⟨a, c, e⟩ := own_slice H.tc
  exact ⟨a, _, c, e, by omega⟩
theorem RO.abort (H : RO w h cnt log v S T tb mk sp) (hcn : cnt ≤ 1000) : RC (w.setCell ⟨h, 5, none⟩ (.bool false)) h cnt log v S mk sp ∧ Turn (rT h v) (rS h v) w (w.setCell ⟨h, 5, none⟩ (.bool false)) := by
  have hc : Chg [h] w (w.setCell ⟨h, 5, none⟩ (.bool false)) := Chg.setCell _ _ _ _
  have hah := H.ah
  simp only [List.mem_append, not_or] at hah
  obtain ⟨⟨⟨⟨⟨⟨n1, n2⟩, n3⟩, n4⟩, n5⟩, n6⟩, n7⟩ := hah
  have hsn : h ∉ bl v.sP ++ bl v.sF ++ bl v.sR := by simp [n1, n2, n3]
  refine ⟨⟨(heap_setCell_same w h 5 _ _ _ H.row).trans rfl, H.st.keep (fun k hk => hc.block k (H.st.lt k hk) (fun hm => hsn (by rw [← List.mem_singleton.1 hm]; exact hk))), hsn, H.slc hcn⟩, hc.mono (fun k hk => by rw [List.mem_singleton.1 hk]; exact rT_h), fun k hk => .inl (rT_S hk)⟩
theorem RC.abort (H : RC w h cnt log v S mk sp) : RC (w.setCell ⟨h, 5, none⟩ (.bool false)) h cnt log v S mk sp ∧ Turn (rS h v) (rS h v) w (w.setCell ⟨h, 5, none⟩ (.bool false)) := by
  have hc : Chg [h] w (w.setCell ⟨h, 5, none⟩ (.bool false)) := Chg.setCell _ _ _ _
  refine ⟨⟨(heap_setCell_same w h 5 _ _ _ H.row).trans rfl, H.st.keep (fun k hk => hc.block k (H.st.lt k hk) (fun hm => H.ah (by rw [← List.mem_singleton.1 hm]; exact hk))), H.ah, H.sl⟩, hc.mono (fun k hk => by rw [List.mem_singleton.1 hk]; exact List.mem_cons_self), fun k hk => .inl hk⟩
theorem RC.spoil (H : RC w h cnt log v S mk sp) : RC (w.setCell ⟨h, 11, none⟩ (.bool false)) h cnt log v S mk false ∧ Turn (rS h v) (rS h v) w (w.setCell ⟨h, 11, none⟩ (.bool false)) := by
  have hc : Chg [h] w (w.setCell ⟨h, 11, none⟩ (.bool false)) := Chg.setCell _ _ _ _
  refine ⟨⟨(heap_setCell_same w h 11 _ _ _ H.row).trans rfl, H.st.keep (fun k hk => hc.block k (H.st.lt k hk) (fun hm => H.ah (by rw [← List.mem_singleton.1 hm]; exact hk))), H.ah, H.sl⟩, hc.mono (fun k hk => by rw [List.mem_singleton.1 hk]; exact List.mem_cons_self), fun k hk => .inl hk⟩
/- the transaction's state becomes the database's -/
def Rv.com (v : Rv) : Rv := { v with sP := v.tP, sF := v.tF, sR := v.tR }
theorem RO.commit (H : RO w h cnt log v S T tb mk sp) (hcn : cnt ≤ 1000) : RC ((((w.setCell ⟨h, 5, none⟩ (.bool false)).setCell ⟨h, 2, none⟩ v.tP).setCell ⟨h, 3, none⟩ v.tF).setCell ⟨h, 4, none⟩ v.tR) h cnt log v.com T mk sp ∧ Turn (rT h v) (rS h v.com) w ((((w.setCell ⟨h, 5, none⟩ (.bool false)).setCell ⟨h, 2, none⟩ v.tP).setCell ⟨h, 3, none⟩ v.tF).setCell ⟨h, 4, none⟩ v.tR) := by
  have hc : Chg [h] w ((((w.setCell ⟨h, 5, none⟩ (.bool false)).setCell ⟨h, 2, none⟩ v.tP).setCell ⟨h, 3, none⟩ v.tF).setCell ⟨h, 4, none⟩ v.tR) := (((Chg.setCell _ _ _ _).trans (Chg.setCell _ _ _ _)).trans (Chg.setCell _ _ _ _)).trans (Chg.setCell _ _ _ _)
  have h1 := heap_setCell_same w h 5 _ _ (.bool false) H.row
  have h2 := heap_setCell_same _ h 2 _ _ v.tP h1
  have h3 := heap_setCell_same _ h 3 _ _ v.tF h2
  have h4 := heap_setCell_same _ h 4 _ _ v.tR h3
  have hah := H.ah
  simp only [List.mem_append, not_or] at hah
  obtain ⟨⟨⟨⟨⟨⟨n1, n2⟩, n3⟩, n4⟩, n5⟩, n6⟩, n7⟩ := hah
  have hsn : h ∉ bl v.tP ++ bl v.tF ++ bl v.tR := by simp [n4, n5, n6]
  refine ⟨⟨h4.trans rfl, H.tt.keep (fun k hk => hc.block k (H.tt.lt k hk) (fun hm => hsn (by rw [← List.mem_singleton.1 hm]; exact hk))), hsn, H.slc hcn⟩, hc.mono (fun k hk => by rw [List.mem_singleton.1 hk]; exact rT_h), fun k hk => .inl ?_⟩
  unfold rS at hk
  rcases List.mem_cons.1 hk with rfl | hk
  · exact rT_h
  · have hk : k ∈ bl v.tP ++ bl v.tF ++ bl v.tR := hk
    simp only [List.mem_append] at hk
    rcases hk with (hk | hk) | hk
    · exact rT_P hk
    · exact rT_F hk
    · exact rT_R hk
end
end Go.Proofs.YtcfninpokngmlaaGreatDoor
/- Proved: what the document's database answers: there, Read, Root, Changed (stage 10). -/
namespace Go.Proofs.YtcfninpokngmlaaGreatDoor
open Go.RowKit
/- what a page's number tells -/
theorem read_pgc {T : Pd.Ab} {cnt : Nat} {o : Option Pd.Sheet} {j : Nat} (hk : T.Ok cnt) (h1 : 1 ≤ j) (ho : T.pgs[j]? = some o) : ∃ (kd : Nat) (b : ByteArray) (E : Int), thereR T.pgs.length (j : Int) (T.sh j) = (⟨kd, b⟩, E) ∧ (E = 0 ∧ pgC o = [.int .i64 (kd : Int), .string b, .bool false] ∨ E = 8 ∧ pgC o = [.int .i64 (kd : Int), .string b, .bool true]) := by
  have hl := (List.getElem?_eq_some_iff.1 ho).1
  unfold thereR
  rw [if_neg (by omega)]
  cases o with
  | none =>
    rw [Pd.Ab.sh_free h1 ho, if_pos (show (Pd.freeSheet (Pd.prev T.freed j)).kind = 255 from rfl)]
    exact ⟨0, ⟨#[]⟩, 8, rfl, .inr ⟨rfl, rfl⟩⟩
  | some x =>
    obtain ⟨e, hne⟩ := Pd.Ab.sh_there hk h1 ho
    rw [e, if_neg hne]
    exact ⟨x.kind, x.body, 0, rfl, .inl ⟨rfl, rfl⟩⟩
section
variable {w w' : World} {h cnt log : Nat} {v : Rv} {S T : Pd.Ab} {tb : List Bool} {mk sp : Bool}
theorem RC.c5 (H : RC w h cnt log v S mk sp) : w.cell? ⟨h, 5, none⟩ = some (.bool false) := by rw [H.cell]; rfl
theorem RO.c0 (H : RO w h cnt log v S T tb mk sp) : w.cell? ⟨h, 0, none⟩ = some (.int .i64 (cnt : Int)) := by rw [H.cell]; rfl
theorem RO.c1 (H : RO w h cnt log v S T tb mk sp) : w.cell? ⟨h, 1, none⟩ = some (.int .i64 (log : Int)) := by rw [H.cell]; rfl
theorem RO.c5 (H : RO w h cnt log v S T tb mk sp) : w.cell? ⟨h, 5, none⟩ = some (.bool true) := by rw [H.cell]; rfl
theorem RO.c6 (H : RO w h cnt log v S T tb mk sp) : w.cell? ⟨h, 6, none⟩ = some v.tP := by rw [H.cell]; rfl
theorem RO.c7 (H : RO w h cnt log v S T tb mk sp) : w.cell? ⟨h, 7, none⟩ = some v.tF := by rw [H.cell]; rfl
theorem RO.c8 (H : RO w h cnt log v S T tb mk sp) : w.cell? ⟨h, 8, none⟩ = some v.tR := by rw [H.cell]; rfl
theorem RO.c9 (H : RO w h cnt log v S T tb mk sp) : w.cell? ⟨h, 9, none⟩ = some v.tc := by rw [H.cell]; rfl
theorem RO.c10 (H : RO w h cnt log v S T tb mk sp) : w.cell? ⟨h, 10, none⟩ = some (.bool mk) := by rw [H.cell]; rfl
theorem RO.c11 (H : RO w h cnt log v S T tb mk sp) : w.cell? ⟨h, 11, none⟩ = some (.bool sp) := by rw [H.cell]; rfl
set_option maxHeartbeats 400000 in
theorem rthere_no (H : RC w h cnt log v S mk sp) (id : Int) : Calls Tryz.prog 72 #[ptr h, .int .i64 id] w fun e w' => e = .returned (.int .i64 1) ∧ w' = w := by
  have c5 := H.c5
  clear H
  unfold ptr
  go_enter Tryz.func72, Tryz.ntmps72
  go_wp2
  go_ret
  exact ⟨rfl, rfl⟩
set_option maxHeartbeats 2000000 in
theorem rthere_any (H : RO w h cnt log v S T tb mk sp) (hok : T.Ok cnt) (id : Int) : Calls Tryz.prog 72 #[ptr h, .int .i64 id] w fun e w' => e = .returned (.int .i64 (thereR T.pgs.length id (T.sh id.toNat)).2) ∧ w' = w := by
  have hpos := hok.pos
  have hm := Nat.le_trans hok.most hok.small
  obtain ⟨g, cap, hv, _, _, _, hc⟩ := pg_cells H.tt.pg hpos
  have c5 := H.c5
  have c6 := H.c6
  rw [hv] at c6
  have HE : Hid (∀ E : Int, (thereR T.pgs.length id (T.sh id.toNat)).2 = E → Ending.returned (.int .i64 E) = .returned (.int .i64 (thereR T.pgs.length id (T.sh id.toNat)).2)) := fun E e => by rw [e]
  unfold ptr
  by_cases h1 : id < 1
  · have d1 : decide (id < 1) = true := decide_eq_true h1
    have HF : Hid ((thereR T.pgs.length id (T.sh id.toNat)).2 = 2) := by show _ = _; unfold thereR; rw [if_pos (.inl h1)]
    clear H hok hv hc
    go_enter Tryz.func72, Tryz.ntmps72
    go_wp2
    go_ret
    exact ⟨HE.out 2 HF.out, rfl⟩
  · have d1 : decide (id < 1) = false := decide_eq_false h1
    by_cases h2 : (T.pgs.length : Int) ≤ id
    · have d2 : decide ((T.pgs.length : Int) ≤ id) = true := decide_eq_true h2
      have HF : Hid ((thereR T.pgs.length id (T.sh id.toNat)).2 = 2) := by show _ = _; unfold thereR; rw [if_pos (.inr h2)]
      clear H hok hv hc
      go_enter Tryz.func72, Tryz.ntmps72
      go_wp2
      go_ret
      exact ⟨HE.out 2 HF.out, rfl⟩
    · have d2 : decide ((T.pgs.length : Int) ≤ id) = false := decide_eq_false h2
      obtain ⟨j, rfl⟩ := Int.eq_ofNat_of_zero_le (show 0 ≤ id by omega)
      have hj1 : 1 ≤ j := by omega
      obtain ⟨o, ho⟩ : ∃ o, T.pgs[j]? = some o := ⟨_, List.getElem?_eq_getElem (by omega)⟩
      have k0 : (0 : Int) ≤ (j : Int) := by omega
      have k1 : (j : Int) < (T.pgs.length : Int) := by omega
      obtain ⟨kd, b, E, hth, hor⟩ := read_pgc hok hj1 ho
      have HF : Hid ((thereR T.pgs.length (j : Int) (T.sh ((j : Int)).toNat)).2 = E) := by show _ = _; rw [Int.toNat_natCast, hth]
      rcases hor with ⟨rfl, hpc⟩ | ⟨rfl, hpc⟩
      · have p2 : w.cell? ⟨g, j * 3 + 2, none⟩ = some (.bool false) := hc j o 2 _ ho (by rw [hpc]; rfl)
        clear H hok hv hc hpc hth ho
        go_enter Tryz.func72, Tryz.ntmps72
        go_wp2
        go_ret
        exact ⟨HE.out 0 HF.out, rfl⟩
      · have p2 : w.cell? ⟨g, j * 3 + 2, none⟩ = some (.bool true) := hc j o 2 _ ho (by rw [hpc]; rfl)
        clear H hok hv hc hpc hth ho
        go_enter Tryz.func72, Tryz.ntmps72
        go_wp2
        go_ret
        exact ⟨HE.out 8 HF.out, rfl⟩
set_option maxHeartbeats 400000 in
theorem rread_no (H : RC w h cnt log v S mk sp) (id : Int) : Calls Tryz.prog 42 #[ptr h, .int .i64 id] w fun e w' => e = .returned (.tuple #[.int .i64 0, .string ⟨#[]⟩, .int .i64 1]) ∧ w' = w := by
  have HC := rthere_no H id
  clear H
  unfold ptr at *
  go_enter Tryz.func42, Tryz.ntmps42
  go_wp2_with (go_at_call 72; refine HC.mono ?_; rintro e wS ⟨rfl, hwS⟩; rw [hwS]; clear hwS wS)
  go_ret3
  exact ⟨rfl, rfl⟩
set_option maxHeartbeats 2000000 in
theorem rread_any (H : RO w h cnt log v S T tb mk sp) (hok : T.Ok cnt) (id : Int) : Calls Tryz.prog 42 #[ptr h, .int .i64 id] w fun e w' => e = .returned (.tuple #[.int .i64 ((thereR T.pgs.length id (T.sh id.toNat)).1.kind : Int), .string (thereR T.pgs.length id (T.sh id.toNat)).1.body, .int .i64 (thereR T.pgs.length id (T.sh id.toNat)).2]) ∧ Below w.heap.size w w' := by
  have HC := rthere_any H hok id
  have hpos := hok.pos
  have hm := Nat.le_trans hok.most hok.small
  obtain ⟨g, cap, hv, _, _, _, hc⟩ := pg_cells H.tt.pg hpos
  have c6 := H.c6
  rw [hv] at c6
  by_cases hE : (thereR T.pgs.length id (T.sh id.toNat)).2 = 0
  · obtain ⟨h1, h2, h3, y, h4⟩ := there_zero hE
    obtain ⟨j, rfl⟩ := Int.eq_ofNat_of_zero_le (show 0 ≤ id by omega)
    rw [Int.toNat_natCast] at h1 h2 h4 HC hE ⊢
    obtain ⟨kd, b, E, hth, hor⟩ := read_pgc hok h1 h4
    rw [hth] at HC hE ⊢
    have hE : E = 0 := hE
    subst hE
    have hpc : pgC (some y) = [.int .i64 (kd : Int), .string b, .bool false] := by
      rcases hor with ⟨_, e⟩ | ⟨e, _⟩
      · exact e
      · omega
    have k0 : (0 : Int) ≤ (j : Int) := by omega
    have k1 : (j : Int) < (T.pgs.length : Int) := by omega
    have p0 : w.cell? ⟨g, j * 3, none⟩ = some (.int .i64 (kd : Int)) := hc j _ 0 _ h4 (by rw [hpc]; rfl)
    have p1 : w.cell? ⟨g, j * 3 + 1, none⟩ = some (.string b) := hc j _ 1 _ h4 (by rw [hpc]; rfl)
    clear H hok hc hpc hor hth h4 h3
    unfold ptr at *
    go_enter Tryz.func42, Tryz.ntmps42
    go_wp2_with (go_at_call 72; refine HC.mono ?_; rintro e wS ⟨rfl, hwS⟩; rw [hwS]; clear hwS wS)
    go_quiet (fail)
    go_wp2
    go_ret3
    exact ⟨rfl, drew_below _ _ _ (Below.refl _ _)⟩
  · obtain ⟨E, hE1⟩ : ∃ E, (thereR T.pgs.length id (T.sh id.toNat)).2 = E := ⟨_, rfl⟩
    have hth : thereR T.pgs.length id (T.sh id.toNat) = (sh00, E) := by
      have h2 := hE
      unfold thereR at hE1 h2 ⊢
      by_cases q1 : id < 1 ∨ (T.pgs.length : Int) ≤ id
      · rw [if_pos q1] at hE1 ⊢; rw [← hE1]
      · rw [if_neg q1] at hE1 h2 ⊢
        by_cases q2 : (T.sh id.toNat).kind = 255
        · rw [if_pos q2] at hE1 ⊢; rw [← hE1]
        · rw [if_neg q2] at h2; exact absurd rfl h2
    rw [hE1] at hE
    rw [hth] at HC ⊢
    have f1 : (E != 0) = true := by simp [hE]
    have HS : Hid (sh00.kind = 0 ∧ sh00.body = ⟨#[]⟩) := ⟨rfl, rfl⟩
    clear H hok hc hth hE1 c6
    unfold ptr at *
    go_enter Tryz.func42, Tryz.ntmps42
    go_wp2_with (go_at_call 72; refine HC.mono ?_; rintro e wS ⟨rfl, hwS⟩; rw [hwS]; clear hwS wS)
    go_ret3
    exact ⟨rfl, Below.refl _ _⟩
set_option maxHeartbeats 400000 in
theorem rroot_no (H : RC w h cnt log v S mk sp) (i : Int) : Calls Tryz.prog 17 #[ptr h, .int .i64 i] w fun e w' => e = .returned (.int .i64 0) ∧ w' = w := by
  have c5 := H.c5
  clear H
  unfold ptr
  go_enter Tryz.func17, Tryz.ntmps17
  go_wp2
  go_ret
  exact ⟨rfl, rfl⟩
set_option maxHeartbeats 1000000 in
theorem rroot_any (H : RO w h cnt log v S T tb mk sp) (i : Int) : Calls Tryz.prog 17 #[ptr h, .int .i64 i] w fun e w' => e = .returned (.int .i64 (rootV T.stt i : Int)) ∧ w' = w := by
  have c5 := H.c5
  have c8 := H.c8
  obtain ⟨g, cap, hv, _, _, _, hc⟩ := int_cells H.tt.rt rfl (by omega)
  rw [hv] at c8
  unfold ptr
  by_cases h1 : i < 0
  · have d1 : decide (i < 0) = true := decide_eq_true h1
    have HF : Hid (rootV T.stt i = 0) := by show _ = _; unfold rootV; rw [if_neg (by omega), if_neg (by omega), if_neg (by omega), if_neg (by omega)]
    clear H hv hc c8
    go_enter Tryz.func17, Tryz.ntmps17
    go_wp2
    go_ret
    exact ⟨by rw [HF.out]; rfl, rfl⟩
  · have d1 : decide (i < 0) = false := decide_eq_false h1
    by_cases h2 : 3 < i
    · have d2 : decide (3 < i) = true := decide_eq_true h2
      have HF : Hid (rootV T.stt i = 0) := by show _ = _; unfold rootV; rw [if_neg (by omega), if_neg (by omega), if_neg (by omega), if_neg (by omega)]
      clear H hv hc c8
      go_enter Tryz.func17, Tryz.ntmps17
      go_wp2
      go_ret
      exact ⟨by rw [HF.out]; rfl, rfl⟩
    · have d2 : decide (3 < i) = false := decide_eq_false h2
      obtain ⟨j, rfl⟩ := Int.eq_ofNat_of_zero_le (show 0 ≤ i by omega)
      obtain ⟨x, hx⟩ : ∃ x, [T.r0, T.r1, T.r2, T.r3][j]? = some x := ⟨_, List.getElem?_eq_getElem (show j < 4 by omega)⟩
      have p0 := hc j x hx
      have k0 : (0 : Int) ≤ (j : Int) := by omega
      have k1 : (j : Int) < 4 := by omega
      have HF : Hid (rootV T.stt (j : Int) = x) := by
        show _ = _
        rcases (by omega : j = 0 ∨ j = 1 ∨ j = 2 ∨ j = 3) with rfl | rfl | rfl | rfl <;> simp at hx <;> rw [← hx] <;> rfl
      clear H hv hc hx
      go_enter Tryz.func17, Tryz.ntmps17
      go_wp2
      go_ret
      exact ⟨by rw [HF.out]; rfl, rfl⟩
end
end Go.Proofs.YtcfninpokngmlaaGreatDoor
/- Proved: what the document's database answers: Changed, SetRoot, Write, Abort, Commit (stage 10). -/
namespace Go.Proofs.YtcfninpokngmlaaGreatDoor
open Go.RowKit
theorem bool_cells {w : World} {B : Nat} {v : Value} {l : List Bool} {n : Nat} (h : w.ownsRow B 4 1 v n (l.map Value.bool)) (h0 : 0 < n) : ∃ g cap, v = .slice (some ⟨g, 0, none⟩) n cap ∧ l.length = n ∧ ∀ (j : Nat) (x : Bool), l[j]? = some x → w.cell? ⟨g, j, none⟩ = some (.bool x) := by
  have hl : l.length = n := by have := h.1; simpa using this
  rcases h.2 with ⟨_, h1⟩ | ⟨g, cap, cur, rfl, hg, hb, h1, h2, h3, h4⟩
  · omega
  · refine ⟨g, cap, rfl, hl, fun j x hj => ?_⟩
    have hjl := (List.getElem?_eq_some_iff.1 hj).1
    have hfm : (l.map Value.bool)[j]? = some (.bool x) := by rw [List.getElem?_map, hj]; rfl
    rw [← h4, List.getElem?_take_of_lt (by omega)] at hfm
    rw [cell_of_row w g _ _ _ (0, 0) hb, ← Array.getElem?_toList]
    exact hfm
def chC (tb : List Bool) (mk : Bool) : Nat := tb.count true + if mk = true then 1 else 0
section
variable {w w' : World} {h cnt log : Nat} {v : Rv} {S T : Pd.Ab} {tb : List Bool} {mk sp : Bool}
set_option maxHeartbeats 1000000 in
theorem rchanged_no (H : RC w h cnt log v S mk sp) : Calls Tryz.prog 15 #[ptr h] w fun e w' => e = .returned (.int .i64 0) ∧ w' = w := by
  have c5 := H.c5
  have c9 : w.cell? ⟨h, 9, none⟩ = some v.tc := by rw [H.cell]; rfl
  obtain ⟨a, n, c, hv, hn⟩ := H.sl
  rw [hv] at c9
  clear H hv
  unfold ptr
  go_enter Tryz.func15, Tryz.ntmps15
  go_wp2_with fail
  go_loopw [3, 4] (fun s3 s4 wr => s3 = .int .i64 0 ∧ s4 = .int .i64 0 ∧ wr = w) (fun _ _ _ => 0)
  case atStart => exact ⟨rfl, rfl, rfl⟩
  case round =>
    obtain ⟨rfl, rfl, hwr⟩ := hrel
    subst hwr
    by_cases h0 : 0 < n
    · have d1 : decide ((0 : Int) < (n : Int)) = true := decide_eq_true (by omega)
      go_wp2
      go_ret
      exact ⟨rfl, rfl⟩
    · have d1 : decide ((0 : Int) < (n : Int)) = false := decide_eq_false (by omega)
      have d2 : ¬ 0 < n := h0
      go_wp2
      go_ret
      exact ⟨rfl, rfl⟩
set_option maxHeartbeats 2000000 in
theorem rchanged_any (H : RO w h cnt log v S T tb mk sp) (hcn : cnt ≤ 1000) : Calls Tryz.prog 15 #[ptr h] w fun e w' => e = .returned (.int .i64 (chC tb mk : Int)) ∧ w' = w := by
  have c5 := H.c5
  have c9 := H.c9
  have c10 := H.c10
  obtain ⟨g, cap, hv, hl, hc⟩ := bool_cells H.tc (by omega)
  rw [hv] at c9
  have HC : Hid (∀ (j : Nat) (x : Bool), tb[j]? = some x → w.cell? ⟨g, j, none⟩ = some (.bool x)) := hc
  have HL : Hid (tb.length = cnt + 1) := hl
  obtain ⟨N, hN⟩ : ∃ N, cnt + 1 = N := ⟨_, rfl⟩
  rw [hN] at c9 HL
  have hN1 : N ≤ 1001 := by omega
  clear H hv hc hl hN hcn
  unfold ptr
  go_enter Tryz.func15, Tryz.ntmps15
  go_wp2_with fail
  go_loopw [3, 4] (fun s3 s4 wr => ∃ (i q : Nat), i ≤ N ∧ q ≤ i ∧ s3 = .int .i64 (q : Int) ∧ s4 = .int .i64 (i : Int) ∧ wr = w ∧ q = (tb.take i).count true) (fun _ s4 _ => N - (intOf s4).toNat)
  case atStart => exact ⟨0, 0, by omega, by omega, rfl, rfl, rfl, by simp⟩
  case round =>
    obtain ⟨i, q, hi, hqi, rfl, rfl, hwr, hq⟩ := hrel
    subst hwr
    have HQ : Hid (q = (tb.take i).count true) := hq
    clear hq
    by_cases hin : i < N
    · have d1 : decide ((i : Int) < (N : Int)) = true := decide_eq_true (by omega)
      have k0 : (0 : Int) ≤ (i : Int) := by omega
      have k1 : (i : Int) < (N : Int) := by omega
      obtain ⟨x, hx⟩ : ∃ x, tb[i]? = some x := ⟨_, List.getElem?_eq_getElem (by have := HL.out; omega)⟩
      have p0 := HC.out i x hx
      have HN : Hid ((tb.take (i + 1)).count true = q + if x = true then 1 else 0) := by
        show _ = _
        rw [List.take_add_one, hx, List.count_append, HQ.out]
        cases x <;> simp
      clear hx
      cases x with
      | true =>
        go_wp2
        go_roundw
        case rel => exact ⟨i + 1, q + 1, by omega, by omega, by go_num, by go_num, by trivial, by have := HN.out; simp at this; omega⟩
        case measure => (simp [intOf]) <;> omega
      | false =>
        go_wp2
        go_roundw
        case rel => exact ⟨i + 1, q, by omega, by omega, rfl, by go_num, by trivial, by have := HN.out; simp at this; omega⟩
        case measure => (simp [intOf]) <;> omega
    · have d1 : decide ((i : Int) < (N : Int)) = false := decide_eq_false (by omega)
      have HF : Hid (tb.count true = q) := by
        have h1 := HQ.out
        rw [List.take_of_length_le (by have := HL.out; omega)] at h1
        exact h1.symm
      cases mk with
      | true =>
        have HE : Hid ((chC tb true : Int) = (q : Int) + 1) := by show _ = _; unfold chC; rw [if_pos rfl, HF.out]; omega
        go_wp2
        go_ret
        exact ⟨by rw [HE.out]; rfl, rfl⟩
      | false =>
        have HE : Hid ((chC tb false : Int) = (q : Int)) := by show _ = _; unfold chC; rw [if_neg (by decide), HF.out]; omega
        go_wp2
        go_ret
        exact ⟨by rw [HE.out]; rfl, rfl⟩
set_option maxHeartbeats 400000 in
theorem rsetroot_no (H : RC w h cnt log v S mk sp) (i n : Int) : Calls Tryz.prog 46 #[ptr h, .int .i64 i, .int .i64 n] w fun e w' => e = .returned (.int .i64 1) ∧ w' = w := by
  have c5 := H.c5
  clear H
  unfold ptr
  go_enter Tryz.func46, Tryz.ntmps46
  go_wp2
  go_ret
  exact ⟨rfl, rfl⟩
set_option maxHeartbeats 400000 in
theorem rwrite_no (H : RC w h cnt log v S mk sp) (id k : Int) (b : ByteArray) : Calls Tryz.prog 43 #[ptr h, .int .i64 id, .int .i64 k, .string b] w fun e w' => e = .returned (.int .i64 1) ∧ w' = w := by
  have HC := rthere_no H id
  clear H
  unfold ptr at *
  go_enter Tryz.func43, Tryz.ntmps43
  go_wp2_with (go_at_call 72; refine HC.mono ?_; rintro e wS ⟨rfl, hwS⟩; rw [hwS]; clear hwS wS)
  go_ret
  exact ⟨rfl, rfl⟩
set_option maxHeartbeats 400000 in
theorem rfree_no (H : RC w h cnt log v S mk sp) (id : Int) : Calls Tryz.prog 45 #[ptr h, .int .i64 id] w fun e w' => e = .returned (.int .i64 1) ∧ w' = w := by
  have HC := rthere_no H id
  clear H
  unfold ptr at *
  go_enter Tryz.func45, Tryz.ntmps45
  go_wp2_with (go_at_call 72; refine HC.mono ?_; rintro e wS ⟨rfl, hwS⟩; rw [hwS]; clear hwS wS)
  go_ret
  exact ⟨rfl, rfl⟩
set_option maxHeartbeats 400000 in
theorem ralloc_no (H : RC w h cnt log v S mk sp) : Calls Tryz.prog 44 #[ptr h] w fun e w' => e = .returned (.tuple #[.int .i64 0, .int .i64 1]) ∧ w' = w := by
  have c5 := H.c5
  clear H
  unfold ptr
  go_enter Tryz.func44, Tryz.ntmps44
  go_wp2
  go_ret2
  exact ⟨rfl, rfl⟩
set_option maxHeartbeats 400000 in
theorem rcommit_no (H : RC w h cnt log v S mk sp) : Calls Tryz.prog 47 #[ptr h] w fun e w' => e = .returned (.int .i64 1) ∧ w' = w := by
  have c5 := H.c5
  clear H
  unfold ptr
  go_enter Tryz.func47, Tryz.ntmps47
  go_wp2
  go_ret
  exact ⟨rfl, rfl⟩
set_option maxHeartbeats 400000 in
theorem rbegin_no (H : RO w h cnt log v S T tb mk sp) : Calls Tryz.prog 41 #[ptr h] w fun e w' => e = .returned (.int .i64 9) ∧ w' = w := by
  have c5 := H.c5
  clear H
  unfold ptr
  go_enter Tryz.func41, Tryz.ntmps41
  go_wp2
  go_ret
  exact ⟨rfl, rfl⟩
set_option maxHeartbeats 400000 in
theorem rabort_no (H : RC w h cnt log v S mk sp) : Calls Tryz.prog 48 #[ptr h] w fun e w' => e = .returned (.tuple #[]) ∧ RC w' h cnt log v S mk sp ∧ Turn (rS h v) (rS h v) w w' := by
  have c5 := H.c5
  have f5 := H.fz 5
  have HF := (show Hid _ from H.abort)
  clear H
  unfold ptr
  go_enter Tryz.func48, Tryz.ntmps48
  go_wp2
  go_end0
  exact ⟨rfl, HF.out⟩
set_option maxHeartbeats 400000 in
theorem rabort_any (H : RO w h cnt log v S T tb mk sp) (hcn : cnt ≤ 1000) : Calls Tryz.prog 48 #[ptr h] w fun e w' => e = .returned (.tuple #[]) ∧ RC w' h cnt log v S mk sp ∧ Turn (rT h v) (rS h v) w w' := by
  have c5 := H.c5
  have f5 := H.fz 5
  have HF := (show Hid _ from H.abort hcn)
  clear H
  unfold ptr
  go_enter Tryz.func48, Tryz.ntmps48
  go_wp2
  go_end0
  exact ⟨rfl, HF.out⟩
end
end Go.Proofs.YtcfninpokngmlaaGreatDoor
/- Proved: SetRoot, Write and Commit of the document's database with a transaction (stage 10). -/
namespace Go.Proofs.YtcfninpokngmlaaGreatDoor
open Go.RowKit
section
variable {w w' : World} {h cnt log : Nat} {v : Rv} {S T : Pd.Ab} {tb : List Bool} {mk sp : Bool}
def srK (i n : Int) (mk : Bool) : Bool := if setrootR i n = 0 then true else mk
set_option maxHeartbeats 2000000 in
theorem rsetroot_any (H : RO w h cnt log v S T tb mk sp) (i n : Int) : Calls Tryz.prog 46 #[ptr h, .int .i64 i, .int .i64 n] w fun e w' => e = .returned (.int .i64 (setrootR i n)) ∧ RO w' h cnt log v S (srA T i n) tb (srK i n mk) sp ∧ Turn (rT h v) (rT h v) w w' := by
  have c5 := H.c5
  have c8 := H.c8
  have c10 := H.c10
  obtain ⟨g, cap, hv, _, _, _, hc⟩ := int_cells H.tt.rt rfl (by omega)
  rw [hv] at c8
  have hgR : g ∈ bl v.tR := by rw [hv]; exact mem_bl.2 rfl
  have n1 : ¬ h = g := fun e => H.ah (by rw [e]; simp [hgR])
  have n2 : ¬ g = h := fun e => n1 e.symm
  have f10 := H.fz 10
  have HH : Hid (RO w h cnt log v S T tb mk sp) := H
  have HV : Hid (v.tR = .slice (some ⟨g, 0, none⟩) 4 cap) := hv
  have hrt := H.tt.rt
  rw [hv] at hrt
  have HFZ : Hid (∀ i, w.frozen? ⟨g, i, none⟩ = false) := fun i => own_frozen hrt i
  have HNO : Hid (∀ E : Int, setrootR i n = E → E ≠ 0 → Ending.returned (.int .i64 E) = .returned (.int .i64 (setrootR i n)) ∧ RO w h cnt log v S (srA T i n) tb (srK i n mk) sp ∧ Turn (rT h v) (rT h v) w w) := fun E e hE => by
    have e0 : ¬ setrootR i n = 0 := by rw [e]; exact hE
    unfold srA srK
    rw [if_neg e0, if_neg e0, e]
    exact ⟨rfl, H, Turn.refl _ _⟩
  clear H hv hrt
  unfold ptr
  by_cases h1 : i < 0
  · have d1 : decide (i < 0) = true := decide_eq_true h1
    have HF : Hid (setrootR i n = 2) := by show _ = _; unfold setrootR; rw [if_pos (.inl (by unfold isR; simp; omega))]
    clear hc
    go_enter Tryz.func46, Tryz.ntmps46
    go_wp2
    go_ret
    exact HNO.out 2 HF.out (by decide)
  · have d1 : decide (i < 0) = false := decide_eq_false h1
    by_cases h2 : 3 < i
    · have d2 : decide (3 < i) = true := decide_eq_true h2
      have HF : Hid (setrootR i n = 2) := by show _ = _; unfold setrootR; rw [if_pos (.inl (by unfold isR; simp; omega))]
      clear hc
      go_enter Tryz.func46, Tryz.ntmps46
      go_wp2
      go_ret
      exact HNO.out 2 HF.out (by decide)
    · have d2 : decide (3 < i) = false := decide_eq_false h2
      by_cases h3 : n < 0
      · have d3 : decide (n < 0) = true := decide_eq_true h3
        have HF : Hid (setrootR i n = 2) := by show _ = _; unfold setrootR; rw [if_pos (.inr (.inl h3))]
        clear hc
        go_enter Tryz.func46, Tryz.ntmps46
        go_wp2
        go_ret
        exact HNO.out 2 HF.out (by decide)
      · have d3 : decide (n < 0) = false := decide_eq_false h3
        by_cases h4 : 2147483647 < n
        · have d4 : decide (2147483647 < n) = true := decide_eq_true h4
          have HF : Hid (setrootR i n = 2) := by show _ = _; unfold setrootR; rw [if_pos (.inr (.inr h4))]
          clear hc
          go_enter Tryz.func46, Tryz.ntmps46
          go_wp2
          go_ret
          exact HNO.out 2 HF.out (by decide)
        · have d4 : decide (2147483647 < n) = false := decide_eq_false h4
          obtain ⟨j, rfl⟩ := Int.eq_ofNat_of_zero_le (show 0 ≤ i by omega)
          obtain ⟨m, rfl⟩ := Int.eq_ofNat_of_zero_le (show 0 ≤ n by omega)
          obtain ⟨x, hx⟩ : ∃ x, [T.r0, T.r1, T.r2, T.r3][j]? = some x := ⟨_, List.getElem?_eq_getElem (show j < 4 by omega)⟩
          have p0 := hc j x hx
          have fz := HFZ.out j
          have k0 : (0 : Int) ≤ (j : Int) := by omega
          have k1 : (j : Int) < 4 := by omega
          have HF : Hid (setrootR (j : Int) (m : Int) = 0) := by
            show _ = _
            unfold setrootR
            rw [if_neg]
            rintro (e | e | e)
            · unfold isR at e; simp at e; omega
            · omega
            · omega
          have HFN : Hid (Ending.returned (.int .i64 0) = .returned (.int .i64 (setrootR (j : Int) (m : Int))) ∧ RO ((w.setCell ⟨g, j, none⟩ (.int .i64 (m : Int))).setCell ⟨h, 10, none⟩ (.bool true)) h cnt log v S (srA T (j : Int) (m : Int)) tb (srK (j : Int) (m : Int) mk) sp ∧ Turn (rT h v) (rT h v) w ((w.setCell ⟨g, j, none⟩ (.int .i64 (m : Int))).setCell ⟨h, 10, none⟩ (.bool true))) := by
            obtain ⟨q1, t1⟩ := HH.out.setroot HV.out j m (by omega)
            obtain ⟨q2, t2⟩ := q1.mark
            unfold srA srK
            rw [if_pos HF.out, if_pos HF.out, HF.out, Int.toNat_natCast, Int.toNat_natCast]
            exact ⟨rfl, q2, t1.trans t2⟩
          clear hc hx HH HNO HF HV HFZ
          go_enter Tryz.func46, Tryz.ntmps46
          go_wp2
          go_ret
          exact HFN.out
def wrK (T : Pd.Ab) (id k : Int) (b : ByteArray) (tb : List Bool) : List Bool := if wrR T id k b = 0 then tb.set id.toNat true else tb
set_option maxHeartbeats 2000000 in
theorem rwrite_any (H : RO w h cnt log v S T tb mk sp) (hok : T.Ok cnt) (id k : Int) (b : ByteArray) (hb : b.size ≤ 9223372036854775807) : Calls Tryz.prog 43 #[ptr h, .int .i64 id, .int .i64 k, .string b] w fun e w' => e = .returned (.int .i64 (wrR T id k b)) ∧ RO w' h cnt log v S (wrA T id k b) (wrK T id k b tb) mk sp ∧ Turn (rT h v) (rT h v) w w' := by
  have HC := rthere_any H hok id
  have hpos := hok.pos
  have hm := hok.most
  have hms := hok.small
  have HNO : Hid (∀ E : Int, wrR T id k b = E → E ≠ 0 → Ending.returned (.int .i64 E) = .returned (.int .i64 (wrR T id k b)) ∧ RO w h cnt log v S (wrA T id k b) (wrK T id k b tb) mk sp ∧ Turn (rT h v) (rT h v) w w) := fun E e hE => by
    have e0 : ¬ wrR T id k b = 0 := by rw [e]; exact hE
    unfold wrA wrK
    rw [if_neg e0, if_neg e0, e]
    exact ⟨rfl, H, Turn.refl _ _⟩
  by_cases hE : (thereR T.pgs.length id (T.sh id.toNat)).2 = 0
  · obtain ⟨h1, h2, h3, y, h4⟩ := there_zero hE
    rw [hE] at HC
    by_cases hk : k < 1
    · have d1 : decide (k < 1) = true := decide_eq_true hk
      have HF : Hid (wrR T id k b = 2) := by show _ = _; unfold wrR writeR; rw [hE, if_neg (by decide), if_pos (.inl hk)]
      clear H hok h4 hE h3
      unfold ptr at *
      go_enter Tryz.func43, Tryz.ntmps43
      go_wp2_with (go_at_call 72; refine HC.mono ?_; rintro e wS ⟨rfl, hwS⟩; rw [hwS]; clear hwS wS)
      go_ret
      exact HNO.out 2 HF.out (by decide)
    · have d1 : decide (k < 1) = false := decide_eq_false hk
      by_cases hk2 : 254 < k
      · have d2 : decide (254 < k) = true := decide_eq_true hk2
        have HF : Hid (wrR T id k b = 2) := by show _ = _; unfold wrR writeR; rw [hE, if_neg (by decide), if_pos (.inr (by omega))]
        clear H hok h4 hE h3
        unfold ptr at *
        go_enter Tryz.func43, Tryz.ntmps43
        go_wp2_with (go_at_call 72; refine HC.mono ?_; rintro e wS ⟨rfl, hwS⟩; rw [hwS]; clear hwS wS)
        go_ret
        exact HNO.out 2 HF.out (by decide)
      · have d2 : decide (254 < k) = false := decide_eq_false hk2
        by_cases hbs : 500 < b.size
        · have d3 : decide ((500 : Int) < (b.size : Int)) = true := decide_eq_true (by omega)
          have HF : Hid (wrR T id k b = 3) := by show _ = _; unfold wrR writeR; rw [hE, if_neg (by decide), if_neg (by omega), if_pos hbs]
          clear H hok h4 hE h3
          unfold ptr at *
          go_enter Tryz.func43, Tryz.ntmps43
          go_wp2_with (go_at_call 72; refine HC.mono ?_; rintro e wS ⟨rfl, hwS⟩; rw [hwS]; clear hwS wS)
          go_ret
          exact HNO.out 3 HF.out (by decide)
        · have d3 : decide ((500 : Int) < (b.size : Int)) = false := decide_eq_false (by omega)
          have HF : Hid (wrR T id k b = 0) := by show _ = _; unfold wrR writeR; rw [hE, if_neg (by decide), if_neg (by omega), if_neg hbs]
          obtain ⟨j, rfl⟩ := Int.eq_ofNat_of_zero_le (show 0 ≤ id by omega)
          obtain ⟨kk, rfl⟩ := Int.eq_ofNat_of_zero_le (show 0 ≤ k by omega)
          rw [Int.toNat_natCast] at h1 h2 h4
          obtain ⟨g, cap, hv, _, _, _, hc⟩ := pg_cells H.tt.pg hpos
          obtain ⟨g2, cap2, hv2, hl2, hc2⟩ := bool_cells H.tc (by omega)
          have c6 := H.c6
          have c9 := H.c9
          rw [hv] at c6
          rw [hv2] at c9
          obtain ⟨x0, x1, x2, hx⟩ := pgC_three (some y)
          have p0 : w.cell? ⟨g, j * 3, none⟩ = some (.int .i64 (x0 : Int)) := hc j _ 0 _ h4 (by rw [hx]; rfl)
          have p1 : w.cell? ⟨g, j * 3 + 1, none⟩ = some (.string x1) := hc j _ 1 _ h4 (by rw [hx]; rfl)
          have p2 : w.cell? ⟨g, j * 3 + 2, none⟩ = some (.bool x2) := hc j _ 2 _ h4 (by rw [hx]; rfl)
          obtain ⟨t0, ht0⟩ : ∃ t, tb[j]? = some t := ⟨_, List.getElem?_eq_getElem (by omega)⟩
          have p3 := hc2 j t0 ht0
          have hpg := H.tt.pg
          rw [hv] at hpg
          have htc := H.tc
          rw [hv2] at htc
          have z0 := own_frozen hpg (j * 3)
          have z1 := own_frozen hpg (j * 3 + 1)
          have z2 := own_frozen hpg (j * 3 + 2)
          have z3 := own_frozen htc j
          have hgP : g ∈ bl v.tP := by rw [hv]; exact mem_bl.2 rfl
          have hgC : g2 ∈ bl v.tc := by rw [hv2]; exact mem_bl.2 rfl
          have m1 : ¬ h = g := fun e => H.ah (by rw [e]; simp [hgP])
          have m2 : ¬ g = h := fun e => m1 e.symm
          have m3 : ¬ g = g2 := fun e => H.aP g hgP (by rw [e]; simp [hgC])
          have m4 : ¬ g2 = g := fun e => m3 e.symm
          have k0 : (0 : Int) ≤ (j : Int) := by omega
          have k1 : (j : Int) < (T.pgs.length : Int) := by omega
          have k2 : (j : Int) < ((cnt + 1 : Nat) : Int) := by omega
          have HFN : Hid (Ending.returned (.int .i64 0) = .returned (.int .i64 (wrR T (j : Int) (kk : Int) b)) ∧ RO ((((w.setCell ⟨g, j * 3, none⟩ (.int .i64 (kk : Int))).setCell ⟨g, j * 3 + 1, none⟩ (.string b)).setCell ⟨g, j * 3 + 2, none⟩ (.bool false)).setCell ⟨g2, j, none⟩ (.bool true)) h cnt log v S (wrA T (j : Int) (kk : Int) b) (wrK T (j : Int) (kk : Int) b tb) mk sp ∧ Turn (rT h v) (rT h v) w ((((w.setCell ⟨g, j * 3, none⟩ (.int .i64 (kk : Int))).setCell ⟨g, j * 3 + 1, none⟩ (.string b)).setCell ⟨g, j * 3 + 2, none⟩ (.bool false)).setCell ⟨g2, j, none⟩ (.bool true))) := by
            obtain ⟨q1, t1⟩ := H.page hv j h2 (some ⟨kk, b⟩) (a := .int .i64 (kk : Int)) (b := .string b) (c := .bool false) rfl
            obtain ⟨q2, t2⟩ := q1.touch hv2 j
            unfold wrA wrK
            rw [if_pos HF.out, if_pos HF.out, HF.out, Int.toNat_natCast, Int.toNat_natCast]
            exact ⟨rfl, q2, t1.trans t2⟩
          clear H hok h4 hE hc hc2 hx hpg htc ht0 hgP hgC HNO HF h3
          try clear hv
          try clear hv2
          unfold ptr at *
          obtain ⟨N1, hN1⟩ : ∃ N, cnt + 1 = N := ⟨_, rfl⟩
          rw [hN1] at c9 k2
          clear hN1
          go_enter Tryz.func43, Tryz.ntmps43
          go_wp2_with (go_at_call 72; refine HC.mono ?_; rintro e wS ⟨rfl, hwS⟩; rw [hwS]; clear hwS wS)
          go_ret
          exact HFN.out
  · obtain ⟨E, hE1⟩ : ∃ E, (thereR T.pgs.length id (T.sh id.toNat)).2 = E := ⟨_, rfl⟩
    have HF : Hid (wrR T id k b = E) := by show _ = _; unfold wrR writeR; rw [if_pos hE, hE1]
    rw [hE1] at HC hE
    have f1 : (E != 0) = true := by simp [hE]
    have HNE : Hid (E ≠ 0) := hE
    clear H hok hE1 hE
    unfold ptr at *
    go_enter Tryz.func43, Tryz.ntmps43
    go_wp2_with (go_at_call 72; refine HC.mono ?_; rintro e wS ⟨rfl, hwS⟩; rw [hwS]; clear hwS wS)
    go_ret
    exact HNO.out E HF.out HNE.out
end
end Go.Proofs.YtcfninpokngmlaaGreatDoor
/- Proved: copies of lists of pages and of numbers, in memory of the call's own (stage 10). -/
namespace Go.Proofs.YtcfninpokngmlaaGreatDoor
open Go.RowKit
theorem flat_len (l : List (Option Pd.Sheet)) : (l.flatMap pgC).length = l.length * 3 := by
  induction l with
  | nil => rfl
  | cons a l ih => rw [List.flatMap_cons, List.length_append, ih, pgC_length, List.length_cons]; omega
theorem flat_one (l : List (Option Pd.Sheet)) : ∀ u ∈ l.flatMap pgC, u.oneCell' = true := fun u hu => by
  obtain ⟨o, _, h⟩ := List.mem_flatMap.1 hu
  exact pgC_one o u h
theorem app_pcopy (W : World) (B C : Nat) (v : Value) (xs : List (Option Pd.Sheet)) (y : Nat) (hown : W.ownsRow C 83 3 v xs.length (xs.flatMap pgC)) (hp : 0 < xs.length) (hl : xs.length ≤ 100000) (hBy : B ≤ y) (hB : B ≤ W.heap.size) (hy : W.heap[y]? = some (.cells #[] 83 (0, 0))) :
    ∃ v' w', (∀ ty, (Builtin.append_ #[36, 36] ty #[.slice (some ⟨y, 0, none⟩) 0 0, v]).run Tryz.prog W = .ok v' w') ∧ w'.ownsRow B 83 3 v' xs.length (xs.flatMap pgC) ∧ W.grownBy w' (some y) ∧ (v'.ownBlock = some y ∨ v'.ownBlock = some W.heap.size) := by
  obtain ⟨i0, hi, hz0, hz1, hz2⟩ := info_parts info_pg
  have hrow : W.ownsRow B 83 3 (.slice (some ⟨y, 0, none⟩) 0 0) 0 [] := ⟨rfl, .inr ⟨y, 0, #[], rfl, hBy, hy, Nat.le_refl _, by unfold maxLen; omega, rfl, rfl⟩⟩
  rcases hown.2 with ⟨_, h0⟩ | ⟨g, cap, cur, rfl, hg, hb, h1, h2, h3, h4⟩
  · omega
  · obtain ⟨v', w', hr, h2', h3', h4', h5'⟩ := run_append_own_at (P := Tryz.prog) W B 36 0 83 i0 (.agg #[.int .i64 0, .string ⟨#[]⟩, .bool false]) 3 32 Tryz.underlying36 hi hz0 hz1 hz2 rfl (by omega) _ 0 [] hrow ⟨g, 0, none⟩ xs.length cap (xs.flatMap pgC) (flat_len xs) (fun j u hj => by
      rw [Addr.add_mid, cell_of_row W g _ _ _ (0, 0) hb]
      have hlt : j < (xs.flatMap pgC).length := (List.getElem?_eq_some_iff.1 hj).1
      rw [flat_len] at hlt
      rw [← h4] at hj
      rw [Nat.zero_add, ← Array.getElem?_toList]
      rw [List.getElem?_take_of_lt hlt] at hj
      exact hj) (flat_one xs) (by unfold maxLen; omega) (by omega) hB
    refine ⟨v', w', fun _ => hr, ?_, h3', h5'⟩
    rw [Nat.zero_add] at h2'
    exact h2'
theorem app_icopy (W : World) (B C : Nat) (v : Value) (fl : List Nat) (y : Nat) (hown : W.ownsRow C 3 1 v fl.length (intC fl)) (hl : fl.length ≤ 100000) (hBy : B ≤ y) (hB : B ≤ W.heap.size) (hy : W.heap[y]? = some (.cells #[] 3 (0, 0))) :
    ∃ v' w', (∀ ty, (Builtin.append_ #[37, 37] ty #[.slice (some ⟨y, 0, none⟩) 0 0, v]).run Tryz.prog W = .ok v' w') ∧ w'.ownsRow B 3 1 v' fl.length (intC fl) ∧ W.grownBy w' (some y) ∧ (v'.ownBlock = some y ∨ v'.ownBlock = some W.heap.size) := by
  obtain ⟨i0, hi, hz0, hz1, hz2⟩ := info_parts infoInt
  have hrow : W.ownsRow B 3 1 (.slice (some ⟨y, 0, none⟩) 0 0) 0 (intC []) := ⟨rfl, .inr ⟨y, 0, #[], rfl, hBy, hy, Nat.le_refl _, by unfold maxLen; omega, rfl, rfl⟩⟩
  rcases hown.2 with ⟨rfl, h0⟩ | ⟨g, cap, cur, rfl, hg, hb, h1, h2, h3, h4⟩
  · have hfl : fl = [] := List.length_eq_zero_iff.1 h0
    subst hfl
    have hS := Src.ofNil (P := Tryz.prog) W (size := i0.size) (tx := 37) Tryz.underlying37 0
    have hr := run_append_room_src (P := Tryz.prog) W 37 37 0 3 i0 Tryz.underlying37 hi y 0 0 0 (.slice none 0 0) 0 [] hS (Nat.le_refl _) (fun j hj => by cases hj) (fun j hj => by cases hj)
    refine ⟨_, _, fun _ => hr, ?_, ⟨rfl, rfl, rfl, Nat.le_refl _, fun _ _ _ => rfl⟩, .inl rfl⟩
    exact hrow
  · obtain ⟨v', w', hr, h2', h3', h4', h5'⟩ := run_append_own_at (P := Tryz.prog) W B 37 0 3 i0 (.int .i64 0) 1 8 Tryz.underlying37 hi hz0 hz1 hz2 rfl (by omega) _ 0 (intC []) hrow ⟨g, 0, none⟩ fl.length cap (intC fl) (by unfold intC; rw [List.length_map]; omega) (fun j u hj => by
      rw [Addr.add_mid, cell_of_row W g _ _ _ (0, 0) hb]
      have hlt : j < (intC fl).length := (List.getElem?_eq_some_iff.1 hj).1
      rw [← h4] at hj
      rw [Nat.zero_add, ← Array.getElem?_toList]
      rw [List.getElem?_take_of_lt (by unfold intC at hlt; rw [List.length_map] at hlt; omega)] at hj
      exact hj) (intC_one fl) (by unfold maxLen; omega) (by omega) hB
    refine ⟨v', w', fun _ => hr, ?_, h3', h5'⟩
    rw [Nat.zero_add] at h2'
    exact h2'
/- a state that is being copied: of each list nothing yet, an empty block, or its copy -/
def blO : Option Value → List Nat
  | none => []
  | some v => bl v
structure Cw (w0 w : World) (p f r : Value) (S : Pd.Ab) (y0 y4 y8 : Option Nat) (q0 q4 q8 : Option Value) : Prop where
  bel : Below w0.heap.size w0 w
  src : StO w0 0 p f r S
  e0 : ∀ y, y0 = some y → w.heap[y]? = some (.cells #[] 83 (0, 0)) ∧ w0.heap.size ≤ y
  e4 : ∀ y, y4 = some y → w.heap[y]? = some (.cells #[] 3 (0, 0)) ∧ w0.heap.size ≤ y
  e8 : ∀ y, y8 = some y → w.heap[y]? = some (.cells #[] 3 (0, 0)) ∧ w0.heap.size ≤ y
  o0 : ∀ v, q0 = some v → w.ownsRow w0.heap.size 83 3 v S.pgs.length (S.pgs.flatMap pgC)
  o4 : ∀ v, q4 = some v → w.ownsRow w0.heap.size 3 1 v S.freed.length (intC S.freed)
  o8 : ∀ v, q8 = some v → w.ownsRow w0.heap.size 3 1 v 4 (intC [S.r0, S.r1, S.r2, S.r3])
  d04 : ∀ k ∈ y0.toList ++ blO q0, k ∉ y4.toList ++ blO q4
  d08 : ∀ k ∈ y0.toList ++ blO q0, k ∉ y8.toList ++ blO q8
  d48 : ∀ k ∈ y4.toList ++ blO q4, k ∉ y8.toList ++ blO q8
section
variable {w0 w w' : World} {p f r : Value} {S : Pd.Ab} {y0 y4 y8 : Option Nat} {q0 q4 q8 : Option Value}
theorem heap_lt {o : Obj} {k : Nat} (e : w.heap[k]? = some o) : k < w.heap.size := (Array.getElem?_eq_some_iff.1 e).1
theorem Cw.lt0 (h : Cw w0 w p f r S y0 y4 y8 q0 q4 q8) : ∀ k ∈ y0.toList ++ blO q0, k < w.heap.size ∧ w0.heap.size ≤ k := fun k hk => by
  rcases List.mem_append.1 hk with hk | hk
  · exact ⟨heap_lt (h.e0 k (by simpa using hk)).1, (h.e0 k (by simpa using hk)).2⟩
  · cases q0 with
    | none => cases hk
    | some v => exact ⟨((h.o0 v rfl).lt k (mem_bl.1 hk)).2, ((h.o0 v rfl).lt k (mem_bl.1 hk)).1⟩
theorem Cw.lt4 (h : Cw w0 w p f r S y0 y4 y8 q0 q4 q8) : ∀ k ∈ y4.toList ++ blO q4, k < w.heap.size ∧ w0.heap.size ≤ k := fun k hk => by
  rcases List.mem_append.1 hk with hk | hk
  · exact ⟨heap_lt (h.e4 k (by simpa using hk)).1, (h.e4 k (by simpa using hk)).2⟩
  · cases q4 with
    | none => cases hk
    | some v => exact ⟨((h.o4 v rfl).lt k (mem_bl.1 hk)).2, ((h.o4 v rfl).lt k (mem_bl.1 hk)).1⟩
theorem Cw.lt8 (h : Cw w0 w p f r S y0 y4 y8 q0 q4 q8) : ∀ k ∈ y8.toList ++ blO q8, k < w.heap.size ∧ w0.heap.size ≤ k := fun k hk => by
  rcases List.mem_append.1 hk with hk | hk
  · exact ⟨heap_lt (h.e8 k (by simpa using hk)).1, (h.e8 k (by simpa using hk)).2⟩
  · cases q8 with
    | none => cases hk
    | some v => exact ⟨((h.o8 v rfl).lt k (mem_bl.1 hk)).2, ((h.o8 v rfl).lt k (mem_bl.1 hk)).1⟩
/- what is apart from the change stays -/
theorem Cw.step {fs : List Nat} (h : Cw w0 w p f r S y0 y4 y8 q0 q4 q8) (hc : Chg fs w w') (hW : ∀ k ∈ fs, w0.heap.size ≤ k) (h0 : ∀ k ∈ y0.toList ++ blO q0, k ∉ fs) (h4 : ∀ k ∈ y4.toList ++ blO q4, k ∉ fs) (h8 : ∀ k ∈ y8.toList ++ blO q8, k ∉ fs) : Cw w0 w' p f r S y0 y4 y8 q0 q4 q8 := by
  refine ⟨h.bel.trans (hc.below hW h.bel.size), h.src, fun y e => ⟨(hc.block y (heap_lt (h.e0 y e).1) (h0 y (by simp [e]))).trans (h.e0 y e).1, (h.e0 y e).2⟩, fun y e => ⟨(hc.block y (heap_lt (h.e4 y e).1) (h4 y (by simp [e]))).trans (h.e4 y e).1, (h.e4 y e).2⟩, fun y e => ⟨(hc.block y (heap_lt (h.e8 y e).1) (h8 y (by simp [e]))).trans (h.e8 y e).1, (h.e8 y e).2⟩, fun v e => own_keep (h.o0 v e) (fun k hk => hc.block k ((h.o0 v e).lt k hk).2 (h0 k (by rw [e]; exact List.mem_append_right _ (mem_bl.2 hk)))), fun v e => own_keep (h.o4 v e) (fun k hk => hc.block k ((h.o4 v e).lt k hk).2 (h4 k (by rw [e]; exact List.mem_append_right _ (mem_bl.2 hk)))), fun v e => own_keep (h.o8 v e) (fun k hk => hc.block k ((h.o8 v e).lt k hk).2 (h8 k (by rw [e]; exact List.mem_append_right _ (mem_bl.2 hk)))), h.d04, h.d08, h.d48⟩
theorem Cw.below (h : Cw w0 w p f r S y0 y4 y8 q0 q4 q8) (hB : Below w.heap.size w w') : Cw w0 w' p f r S y0 y4 y8 q0 q4 q8 := h.step (fs := []) (Chg.of_below hB) (by simp) (by simp) (by simp) (by simp)
theorem Cw.build0 (h : Cw w0 w p f r S none y4 y8 none q4 q8) : Cw w0 (w.alloc (.cells #[] 83)) p f r S (some w.heap.size) y4 y8 none q4 q8 := by
  have h2 := h.below ((Below.refl _ w).alloc (Nat.le_refl _) (.cells #[] 83))
  have f1 : ∀ k ∈ (some w.heap.size).toList ++ blO none, k = w.heap.size := fun k hk => by
    rcases List.mem_append.1 hk with hk | hk
    · simp at hk; exact hk
    · cases hk
  refine ⟨h2.bel, h2.src, fun y e => ⟨by rw [← Option.some.inj e]; exact heap_alloc_new w _, by rw [← Option.some.inj e]; exact h.bel.size⟩, h2.e4, h2.e8, (fun v e => nomatch e), h2.o4, h2.o8, ?_, ?_, ?_⟩
  · exact fun k hk hm => by have e := f1 k hk; have := (h.lt4 k hm).1; omega
  · exact fun k hk hm => by have e := f1 k hk; have := (h.lt8 k hm).1; omega
  · exact h2.d48
theorem Cw.app0 {y : Nat} (h : Cw w0 w p f r S (some y) y4 y8 none q4 q8) (hp : 0 < S.pgs.length) (hl : S.pgs.length ≤ 100000) : ∃ v' w', (∀ ty, (Builtin.append_ #[36, 36] ty #[.slice (some ⟨y, 0, none⟩) 0 0, p]).run Tryz.prog w = .ok v' w') ∧ Cw w0 w' p f r S none y4 y8 (some v') q4 q8 := by
  obtain ⟨v', w', hr, hO, hG, hv⟩ := app_pcopy w w0.heap.size 0 p S.pgs y (own_keep h.src.pg (fun k hk => h.bel.block k (h.src.pg.lt k hk).2)) hp hl (h.e0 y rfl).2 h.bel.size (h.e0 y rfl).1
  have hc : Chg [y] w w' := Chg.grown hG
  have hyl := heap_lt (h.e0 y rfl).1
  have hx : Cw w0 w p f r S none y4 y8 none q4 q8 := ⟨h.bel, h.src, (fun y e => nomatch e), h.e4, h.e8, h.o0, h.o4, h.o8, (by intro k hk; simp [blO] at hk), (by intro k hk; simp [blO] at hk), h.d48⟩
  have h2 : Cw w0 w' p f r S none y4 y8 none q4 q8 := hx.step hc (fun k hk => by rw [List.mem_singleton.1 hk]; exact (h.e0 y rfl).2) (by intro k hk; simp [blO] at hk) (fun k hk hm => h.d04 y (by simp) (by rw [← List.mem_singleton.1 hm]; exact hk)) (fun k hk hm => h.d08 y (by simp) (by rw [← List.mem_singleton.1 hm]; exact hk))
  have f1 : ∀ k ∈ (none : Option Nat).toList ++ blO (some v'), k = y ∨ k = w.heap.size := fun k hk => by
    rcases List.mem_append.1 hk with hk | hk
    · cases hk
    · have := mem_bl.1 hk
      rcases hv with e | e
      · rw [e] at this; exact .inl (Option.some.inj this).symm
      · rw [e] at this; exact .inr (Option.some.inj this).symm
  refine ⟨v', w', hr, h2.bel, h2.src, (fun y e => nomatch e), h2.e4, h2.e8, fun v e => by rw [← Option.some.inj e]; exact hO, h2.o4, h2.o8, ?_, ?_, ?_⟩
  · exact fun k hk hm => by
      rcases f1 k hk with e | e
      · exact h.d04 y (by simp) (by rw [← e]; exact hm)
      · have := (h.lt4 k hm).1; omega
  · exact fun k hk hm => by
      rcases f1 k hk with e | e
      · exact h.d08 y (by simp) (by rw [← e]; exact hm)
      · have := (h.lt8 k hm).1; omega
  · exact h2.d48
theorem Cw.build4 (h : Cw w0 w p f r S y0 none y8 q0 none q8) : Cw w0 (w.alloc (.cells #[] 3)) p f r S y0 (some w.heap.size) y8 q0 none q8 := by
  have h2 := h.below ((Below.refl _ w).alloc (Nat.le_refl _) (.cells #[] 3))
  have f1 : ∀ k ∈ (some w.heap.size).toList ++ blO none, k = w.heap.size := fun k hk => by
    rcases List.mem_append.1 hk with hk | hk
    · simp at hk; exact hk
    · cases hk
  refine ⟨h2.bel, h2.src, h2.e0, fun y e => ⟨by rw [← Option.some.inj e]; exact heap_alloc_new w _, by rw [← Option.some.inj e]; exact h.bel.size⟩, h2.e8, h2.o0, (fun v e => nomatch e), h2.o8, ?_, ?_, ?_⟩
  · exact fun k hk hm => by have e := f1 k hm; have := (h.lt0 k hk).1; omega
  · exact h2.d08
  · exact fun k hk hm => by have e := f1 k hk; have := (h.lt8 k hm).1; omega
theorem Cw.app4 {y : Nat} (h : Cw w0 w p f r S y0 (some y) y8 q0 none q8) (hl : S.freed.length ≤ 100000) : ∃ v' w', (∀ ty, (Builtin.append_ #[37, 37] ty #[.slice (some ⟨y, 0, none⟩) 0 0, f]).run Tryz.prog w = .ok v' w') ∧ Cw w0 w' p f r S y0 none y8 q0 (some v') q8 := by
  obtain ⟨v', w', hr, hO, hG, hv⟩ := app_icopy w w0.heap.size 0 f S.freed y (own_keep h.src.fr (fun k hk => h.bel.block k (h.src.fr.lt k hk).2)) hl (h.e4 y rfl).2 h.bel.size (h.e4 y rfl).1
  have hc : Chg [y] w w' := Chg.grown hG
  have hyl := heap_lt (h.e4 y rfl).1
  have hx : Cw w0 w p f r S y0 none y8 q0 none q8 := ⟨h.bel, h.src, h.e0, (fun y e => nomatch e), h.e8, h.o0, h.o4, h.o8, (by intro k hk hm; simp [blO] at hm), h.d08, (by intro k hk; simp [blO] at hk)⟩
  have h2 : Cw w0 w' p f r S y0 none y8 q0 none q8 := hx.step hc (fun k hk => by rw [List.mem_singleton.1 hk]; exact (h.e4 y rfl).2) (fun k hk hm => h.d04 k hk (by rw [List.mem_singleton.1 hm]; simp)) (by intro k hk; simp [blO] at hk) (fun k hk hm => h.d48 y (by simp) (by rw [← List.mem_singleton.1 hm]; exact hk))
  have f1 : ∀ k ∈ (none : Option Nat).toList ++ blO (some v'), k = y ∨ k = w.heap.size := fun k hk => by
    rcases List.mem_append.1 hk with hk | hk
    · cases hk
    · have := mem_bl.1 hk
      rcases hv with e | e
      · rw [e] at this; exact .inl (Option.some.inj this).symm
      · rw [e] at this; exact .inr (Option.some.inj this).symm
  refine ⟨v', w', hr, h2.bel, h2.src, h2.e0, (fun y e => nomatch e), h2.e8, h2.o0, fun v e => by rw [← Option.some.inj e]; exact hO, h2.o8, ?_, ?_, ?_⟩
  · exact fun k hk hm => by
      rcases f1 k hm with e | e
      · exact h.d04 k hk (by rw [e]; simp)
      · have := (h.lt0 k hk).1; omega
  · exact h2.d08
  · exact fun k hk hm => by
      rcases f1 k hk with e | e
      · exact h.d48 y (by simp) (by rw [← e]; exact hm)
      · have := (h.lt8 k hm).1; omega
theorem Cw.build8 (h : Cw w0 w p f r S y0 y4 none q0 q4 none) : Cw w0 (w.alloc (.cells #[] 3)) p f r S y0 y4 (some w.heap.size) q0 q4 none := by
  have h2 := h.below ((Below.refl _ w).alloc (Nat.le_refl _) (.cells #[] 3))
  have f1 : ∀ k ∈ (some w.heap.size).toList ++ blO none, k = w.heap.size := fun k hk => by
    rcases List.mem_append.1 hk with hk | hk
    · simp at hk; exact hk
    · cases hk
  refine ⟨h2.bel, h2.src, h2.e0, h2.e4, fun y e => ⟨by rw [← Option.some.inj e]; exact heap_alloc_new w _, by rw [← Option.some.inj e]; exact h.bel.size⟩, h2.o0, h2.o4, (fun v e => nomatch e), ?_, ?_, ?_⟩
  · exact h2.d04
  · exact fun k hk hm => by have e := f1 k hm; have := (h.lt0 k hk).1; omega
  · exact fun k hk hm => by have e := f1 k hm; have := (h.lt4 k hk).1; omega
theorem Cw.app8 {y : Nat} (h : Cw w0 w p f r S y0 y4 (some y) q0 q4 none) : ∃ v' w', (∀ ty, (Builtin.append_ #[37, 37] ty #[.slice (some ⟨y, 0, none⟩) 0 0, r]).run Tryz.prog w = .ok v' w') ∧ Cw w0 w' p f r S y0 y4 none q0 q4 (some v') := by
  obtain ⟨v', w', hr, hO, hG, hv⟩ := app_icopy w w0.heap.size 0 r [S.r0, S.r1, S.r2, S.r3] y (own_keep h.src.rt (fun k hk => h.bel.block k (h.src.rt.lt k hk).2)) (show 4 ≤ 100000 by omega) (h.e8 y rfl).2 h.bel.size (h.e8 y rfl).1
  have hc : Chg [y] w w' := Chg.grown hG
  have hyl := heap_lt (h.e8 y rfl).1
  have hx : Cw w0 w p f r S y0 y4 none q0 q4 none := ⟨h.bel, h.src, h.e0, h.e4, (fun y e => nomatch e), h.o0, h.o4, h.o8, h.d04, (by intro k hk hm; simp [blO] at hm), (by intro k hk hm; simp [blO] at hm)⟩
  have h2 : Cw w0 w' p f r S y0 y4 none q0 q4 none := hx.step hc (fun k hk => by rw [List.mem_singleton.1 hk]; exact (h.e8 y rfl).2) (fun k hk hm => h.d08 k hk (by rw [List.mem_singleton.1 hm]; simp)) (fun k hk hm => h.d48 k hk (by rw [List.mem_singleton.1 hm]; simp)) (by intro k hk; simp [blO] at hk)
  have f1 : ∀ k ∈ (none : Option Nat).toList ++ blO (some v'), k = y ∨ k = w.heap.size := fun k hk => by
    rcases List.mem_append.1 hk with hk | hk
    · cases hk
    · have := mem_bl.1 hk
      rcases hv with e | e
      · rw [e] at this; exact .inl (Option.some.inj this).symm
      · rw [e] at this; exact .inr (Option.some.inj this).symm
  refine ⟨v', w', hr, h2.bel, h2.src, h2.e0, h2.e4, (fun y e => nomatch e), h2.o0, h2.o4, fun v e => by rw [← Option.some.inj e]; exact hO, ?_, ?_, ?_⟩
  · exact h2.d04
  · exact fun k hk hm => by
      rcases f1 k hm with e | e
      · exact h.d08 k hk (by rw [e]; simp)
      · have := (h.lt0 k hk).1; omega
  · exact fun k hk hm => by
      rcases f1 k hm with e | e
      · exact h.d48 k hk (by rw [e]; simp)
      · have := (h.lt4 k hk).1; omega
end
end Go.Proofs.YtcfninpokngmlaaGreatDoor
