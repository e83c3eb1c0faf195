/- Proved: Begin, Commit and New of the document's database (stage 10). -/
import Derived.Test.YtcfninpokngmlaaGreatDoorM18
import Derived.Test.YtcfninpokngmlaaGreatDoorM16
namespace Go.Proofs.YtcfninpokngmlaaGreatDoor
open Go.RowKit
section
variable {w w' : World} {h cnt log : Nat} {v : Rv} {S T : Pd.Ab} {tb : List Bool} {mk sp : Bool}
def cmE (n : Nat) (sp : Bool) (m : Nat) : Int := if sp = true then 9 else if holdsB n m = false then 7 else 0
def cmV (v : Rv) (E : Int) : Rv := if E = 0 then v.com else v
def cmS (S T : Pd.Ab) (E : Int) : Pd.Ab := if E = 0 then T else S
set_option maxHeartbeats 4000000 in
theorem rcommit_any (H : RO w h cnt log v S T tb mk sp) (hcn : cnt ≤ 1000) (hlo : 2 ≤ log) (hlog : log ≤ 10000) (m : Nat) (hm : chC tb mk = m) (hmm : m ≤ 1001) : Calls Tryz.prog 47 #[ptr h] w fun e w' => e = .returned (.int .i64 (cmE log sp m)) ∧ RC w' h cnt log (cmV v (cmE log sp m)) (cmS S T (cmE log sp m)) mk sp ∧ Turn (rT h v) (rS h (cmV v (cmE log sp m))) w w' := by
  have HC := rchanged_any H hcn
  rw [hm] at HC
  have c1 := H.c1
  have c5 := H.c5
  have c11 := H.c11
  have c6 := H.c6
  have c7 := H.c7
  have c8 := H.c8
  have c2 : w.cell? ⟨h, 2, none⟩ = some v.sP := by rw [H.cell]; rfl
  have c3 : w.cell? ⟨h, 3, none⟩ = some v.sF := by rw [H.cell]; rfl
  have c4 : w.cell? ⟨h, 4, none⟩ = some v.sR := by rw [H.cell]; rfl
  have fz := H.fz
  obtain ⟨a1, b1, e1⟩ := own_slice H.tt.pg
  obtain ⟨a2, b2, e2⟩ := own_slice H.tt.fr
  obtain ⟨a3, b3, e3⟩ := own_slice H.tt.rt
  have HNO : Hid (∀ E : Int, cmE log sp m = E → E ≠ 0 → Ending.returned (.int .i64 E) = .returned (.int .i64 (cmE log sp m)) ∧ RC (w.setCell ⟨h, 5, none⟩ (.bool false)) h cnt log (cmV v (cmE log sp m)) (cmS S T (cmE log sp m)) mk sp ∧ Turn (rT h v) (rS h (cmV v (cmE log sp m))) w (w.setCell ⟨h, 5, none⟩ (.bool false))) := fun E e hE => by
    rw [e]
    unfold cmV cmS
    rw [if_neg hE, if_neg hE]
    exact ⟨rfl, H.abort hcn⟩
  cases sp with
  | true =>
    have HF : Hid (cmE log true m = 9) := by show _ = _; unfold cmE; rw [if_pos rfl]
    clear H hm
    unfold ptr at *
    go_enter Tryz.func47, Tryz.ntmps47
    go_wp2_with (go_at_call 15; refine HC.mono ?_; rintro e wS ⟨rfl, hwS⟩; rw [hwS]; clear hwS wS)
    go_ret
    exact HNO.out 9 HF.out (by decide)
  | false =>
    by_cases hh : 4 + 516 * m ≤ 65536 ∧ 12 + 516 * m ≤ 64 * (log - 1)
    · have HF : Hid (cmE log false m = 0) := by
        show _ = _
        unfold cmE
        have : holdsB log m = true := by unfold holdsB; simp; exact hh
        rw [if_neg (by decide), this, if_neg (by decide)]
      have HFN : Hid (Ending.returned (.int .i64 0) = .returned (.int .i64 (cmE log false m)) ∧ RC ((((w.setCell ⟨h, 5, none⟩ (.bool false)).setCell ⟨h, 2, none⟩ v.tP).setCell ⟨h, 3, none⟩ v.tF).setCell ⟨h, 4, none⟩ v.tR) h cnt log (cmV v (cmE log false m)) (cmS S T (cmE log false m)) mk false ∧ Turn (rT h v) (rS h (cmV v (cmE log false m))) w ((((w.setCell ⟨h, 5, none⟩ (.bool false)).setCell ⟨h, 2, none⟩ v.tP).setCell ⟨h, 3, none⟩ v.tF).setCell ⟨h, 4, none⟩ v.tR)) := by
        rw [HF.out]
        unfold cmV cmS
        rw [if_pos rfl, if_pos rfl]
        exact ⟨rfl, H.commit hcn⟩
      rw [e1, e2, e3] at HFN
      rw [e1] at c6
      rw [e2] at c7
      rw [e3] at c8
      have d2 : decide (64 * ((log : Int) - 1) < 12 + 516 * (m : Int)) = false := decide_eq_false (by omega)
      have d3 : decide ((65536 : Int) < 4 + 516 * (m : Int)) = false := decide_eq_false (by omega)
      clear H hm HNO HF e1 e2 e3
      by_cases h0 : 0 < m
      · have d1 : decide ((0 : Int) < (m : Int)) = true := decide_eq_true (by omega)
        unfold ptr at *
        go_enter Tryz.func47, Tryz.ntmps47
        go_wp2_with (go_at_call 15; refine HC.mono ?_; rintro e wS ⟨rfl, hwS⟩; rw [hwS]; clear hwS wS)
        go_ret
        exact HFN.out
      · have d1 : decide ((0 : Int) < (m : Int)) = false := decide_eq_false (by omega)
        unfold ptr at *
        go_enter Tryz.func47, Tryz.ntmps47
        go_wp2_with (go_at_call 15; refine HC.mono ?_; rintro e wS ⟨rfl, hwS⟩; rw [hwS]; clear hwS wS)
        go_ret
        exact HFN.out
    · have HF : Hid (cmE log false m = 7) := by
        show _ = _
        unfold cmE
        have : holdsB log m = false := by unfold holdsB; simp; omega
        rw [if_neg (by decide), this, if_pos rfl]
      have h0 : 0 < m := by omega
      have d1 : decide ((0 : Int) < (m : Int)) = true := decide_eq_true (by omega)
      clear H hm e1 e2 e3
      by_cases h2 : 64 * (log - 1) < 12 + 516 * m
      · have d2 : decide (64 * ((log : Int) - 1) < 12 + 516 * (m : Int)) = true := decide_eq_true (by omega)
        unfold ptr at *
        go_enter Tryz.func47, Tryz.ntmps47
        go_wp2_with (go_at_call 15; refine HC.mono ?_; rintro e wS ⟨rfl, hwS⟩; rw [hwS]; clear hwS wS)
        go_ret
        exact HNO.out 7 HF.out (by decide)
      · have d2 : decide (64 * ((log : Int) - 1) < 12 + 516 * (m : Int)) = false := decide_eq_false (by omega)
        have d3 : decide ((65536 : Int) < 4 + 516 * (m : Int)) = true := decide_eq_true (by omega)
        unfold ptr at *
        go_enter Tryz.func47, Tryz.ntmps47
        go_wp2_with (go_at_call 15; refine HC.mono ?_; rintro e wS ⟨rfl, hwS⟩; rw [hwS]; clear hwS wS)
        go_ret
        exact HNO.out 7 HF.out (by decide)
end
end Go.Proofs.YtcfninpokngmlaaGreatDoor
/- Proved: Begin and New of the document's database (stage 10). -/
namespace Go.Proofs.YtcfninpokngmlaaGreatDoor
open Go.RowKit
theorem info_bool10 : Tryz.prog.info? 4 = some Tryz.t4 := by kernel_rfl
theorem made_bools (n : Nat) : (madeCells (Value.bool false).cells (n * 1)).toList = (List.replicate n false).map Value.bool := by
  unfold madeCells
  apply List.ext_getElem?
  intro j
  rw [Array.toList_map, List.getElem?_map, List.getElem?_map, List.getElem?_replicate, Array.toList_range]
  by_cases hj : j < n
  · rw [if_pos hj, List.getElem?_range (by omega)]
    show some _ = some _
    congr 1
    show (#[Value.bool false])[j % 1]! = _
    rw [Nat.mod_one]
    rfl
  · rw [if_neg hj, List.getElem?_eq_none (by rw [List.length_range]; omega)]
    rfl
section
variable {w w' : World} {h cnt log : Nat} {v : Rv} {S T : Pd.Ab} {tb : List Bool} {mk sp : Bool}
def Rv.beg (v : Rv) (p f r c : Value) : Rv := { v with tP := p, tF := f, tR := r, tc := c }
def beg3 (h : Nat) (w : World) (p f r : Value) : World := ((w.setCell ⟨h, 6, none⟩ p).setCell ⟨h, 7, none⟩ f).setCell ⟨h, 8, none⟩ r
def beg7 (h : Nat) (w : World) (c : Value) : World := ((w.setCell ⟨h, 9, none⟩ c).setCell ⟨h, 10, none⟩ (.bool false)).setCell ⟨h, 11, none⟩ (.bool false)
theorem beg3_row {w2 : World} {p f r : Value} (h2 : w2.heap[h]? = some (.cells (rdA cnt log v true mk sp) 41 (0, 0))) : (beg3 h w2 p f r).heap[h]? = some (.cells (rdA cnt log (v.beg p f r v.tc) true mk sp) 41 (0, 0)) := by
  have a1 := heap_setCell_same w2 h 6 _ _ p h2
  have a2 := heap_setCell_same _ h 7 _ _ f a1
  have a3 := heap_setCell_same _ h 8 _ _ r a2
  exact a3.trans rfl
theorem RC.begins (H : RC w h cnt log v S mk sp) {w2 w4 : World} {p f r : Value} (hB : Below w.heap.size (w.setCell ⟨h, 5, none⟩ (.bool true)) w2) (hO : StO w2 w.heap.size p f r S) (d1 : ∀ k ∈ bl p, k ∉ bl f) (d2 : ∀ k ∈ bl p, k ∉ bl r) (d3 : ∀ k ∈ bl f, k ∉ bl r)
    (hG : (beg3 h w2 p f r).grownBy w4 none) (hC : w4.ownsRow 0 4 1 (.slice (some ⟨w2.heap.size, 0, none⟩) (cnt + 1) (cnt + 1)) (cnt + 1) ((List.replicate (cnt + 1) false).map Value.bool)) :
    RO (beg7 h w4 (.slice (some ⟨w2.heap.size, 0, none⟩) (cnt + 1) (cnt + 1))) h cnt log (v.beg p f r (.slice (some ⟨w2.heap.size, 0, none⟩) (cnt + 1) (cnt + 1))) S S (List.replicate (cnt + 1) false) false false ∧ Turn (rS h v) (rT h (v.beg p f r (.slice (some ⟨w2.heap.size, 0, none⟩) (cnt + 1) (cnt + 1)))) w (beg7 h w4 (.slice (some ⟨w2.heap.size, 0, none⟩) (cnt + 1) (cnt + 1))) ∧ w4.heap[h]? = some (.cells (rdA cnt log (v.beg p f r v.tc) true mk sp) 41 (0, 0)) := by
  have hh := H.hlt
  have s1 : (w.setCell ⟨h, 5, none⟩ (.bool true)).heap.size = w.heap.size := by simp
  have s2 : (beg3 h w2 p f r).heap.size = w2.heap.size := by unfold beg3; simp
  have hsz := hB.size
  have r1 : (w.setCell ⟨h, 5, none⟩ (.bool true)).heap[h]? = some (.cells (rdA cnt log v true mk sp) 41 (0, 0)) := (heap_setCell_same w h 5 _ _ _ H.row).trans rfl
  have r2 := (hB.block h hh).trans r1
  have r3 := beg3_row (p := p) (f := f) (r := r) r2
  have r4 := (hG.block h (by rw [s2]; omega) (fun e => nomatch e)).trans r3
  have a5 := heap_setCell_same w4 h 9 _ _ (.slice (some ⟨w2.heap.size, 0, none⟩) (cnt + 1) (cnt + 1)) r4
  have a6 := heap_setCell_same _ h 10 _ _ (.bool false) a5
  have a7 := heap_setCell_same _ h 11 _ _ (.bool false) a6
  have c1 : Chg [h] w (w.setCell ⟨h, 5, none⟩ (.bool true)) := Chg.setCell _ _ _ _
  have c3 : Chg [h] w2 (beg3 h w2 p f r) := ((Chg.setCell _ _ _ _).trans (Chg.setCell _ _ _ _)).trans (Chg.setCell _ _ _ _)
  have c7 : Chg [h] w4 (beg7 h w4 (.slice (some ⟨w2.heap.size, 0, none⟩) (cnt + 1) (cnt + 1))) := ((Chg.setCell _ _ _ _).trans (Chg.setCell _ _ _ _)).trans (Chg.setCell _ _ _ _)
  have hs4 := hG.size
  rw [s2] at hs4
  have b24 : ∀ k, k < w2.heap.size → k ≠ h → (beg7 h w4 (.slice (some ⟨w2.heap.size, 0, none⟩) (cnt + 1) (cnt + 1))).heap[k]? = w2.heap[k]? := fun k h1 h2 => by
    rw [c7.block k (by omega) (fun hm => h2 (List.mem_singleton.1 hm)), hG.block k (by rw [s2]; exact h1) (fun e => nomatch e), c3.block k h1 (fun hm => h2 (List.mem_singleton.1 hm))]
  have b04 : ∀ k, k < w.heap.size → k ≠ h → (beg7 h w4 (.slice (some ⟨w2.heap.size, 0, none⟩) (cnt + 1) (cnt + 1))).heap[k]? = w.heap[k]? := fun k h1 h2 => by
    rw [b24 k (by omega) h2, hB.block k h1, c1.block k h1 (fun hm => h2 (List.mem_singleton.1 hm))]
  have hold : ∀ k ∈ bl v.sP ++ bl v.sF ++ bl v.sR, k < w.heap.size ∧ k ≠ h := fun k hk => ⟨H.st.lt k hk, fun e => H.ah (by rw [← e]; exact hk)⟩
  have nP : ∀ k ∈ bl p, w.heap.size ≤ k ∧ k < w2.heap.size := fun k hk => hO.pg.lt k (mem_bl.1 hk)
  have nF : ∀ k ∈ bl f, w.heap.size ≤ k ∧ k < w2.heap.size := fun k hk => hO.fr.lt k (mem_bl.1 hk)
  have nR : ∀ k ∈ bl r, w.heap.size ≤ k ∧ k < w2.heap.size := fun k hk => hO.rt.lt k (mem_bl.1 hk)
  have nC : ∀ k ∈ bl (.slice (some ⟨w2.heap.size, 0, none⟩) (cnt + 1) (cnt + 1) : Value), k = w2.heap.size := fun k hk => (Option.some.inj (mem_bl.1 hk)).symm
  have o1 : ∀ k ∈ bl v.sP, k < w.heap.size ∧ k ≠ h := fun k hk => hold k (by simp [hk])
  have o2 : ∀ k ∈ bl v.sF, k < w.heap.size ∧ k ≠ h := fun k hk => hold k (by simp [hk])
  have o3 : ∀ k ∈ bl v.sR, k < w.heap.size ∧ k ≠ h := fun k hk => hold k (by simp [hk])
  refine ⟨⟨a7.trans rfl, H.st.keep (fun k hk => b04 k (hold k hk).1 (hold k hk).2), ⟨own_zero (own_keep hO.pg (fun k hk => b24 k (hO.pg.lt k hk).2 (by have := (hO.pg.lt k hk).1; omega))), own_zero (own_keep hO.fr (fun k hk => b24 k (hO.fr.lt k hk).2 (by have := (hO.fr.lt k hk).1; omega))), own_zero (own_keep hO.rt (fun k hk => b24 k (hO.rt.lt k hk).2 (by have := (hO.rt.lt k hk).1; omega)))⟩, own_keep hC (fun k hk => c7.block k (hC.lt k hk).2 (fun hm => by have e1 := List.mem_singleton.1 hm; have e2 := nC k (mem_bl.2 hk); omega)), ?_, ?_, ?_, ?_⟩, ⟨⟨?_, ?_, ?_, ?_, ?_⟩, ?_⟩, r4⟩
  · intro hm
    simp only [List.mem_append] at hm
    rcases hm with (((((hm | hm) | hm) | hm) | hm) | hm) | hm
    · exact (o1 h hm).2 rfl
    · exact (o2 h hm).2 rfl
    · exact (o3 h hm).2 rfl
    · have := nP h hm; omega
    · have := nF h hm; omega
    · have := nR h hm; omega
    · have := nC h hm; omega
  · intro k hk hm
    have q := nP k hk
    simp only [List.mem_append] at hm
    rcases hm with ((((hm | hm) | hm) | hm) | hm) | hm
    · have := o1 k hm; omega
    · have := o2 k hm; omega
    · have := o3 k hm; omega
    · exact d1 k hk hm
    · exact d2 k hk hm
    · have := nC k hm; omega
  · intro k hk hm
    have q := nR k hk
    simp only [List.mem_append] at hm
    rcases hm with ((((hm | hm) | hm) | hm) | hm) | hm
    · have := o1 k hm; omega
    · have := o2 k hm; omega
    · have := o3 k hm; omega
    · exact d2 k hm hk
    · exact d3 k hm hk
    · have := nC k hm; omega
  · intro k hk hm
    have q := nC k hk
    simp only [List.mem_append] at hm
    rcases hm with ((((hm | hm) | hm) | hm) | hm) | hm
    · have := o1 k hm; omega
    · have := o2 k hm; omega
    · have := o3 k hm; omega
    · have := nP k hm; omega
    · have := nF k hm; omega
    · have := nR k hm; omega
  · exact c7.os.trans (hG.os.trans (c3.os.trans (hB.os.trans c1.os)))
  · exact c7.tape.trans (hG.tape.trans (c3.tape.trans (hB.tape.trans c1.tape)))
  · exact c7.output.trans (hG.output.trans (c3.output.trans (hB.output.trans c1.output)))
  · have := c7.size; omega
  · exact fun k h1 h2 => b04 k h1 (fun e => h2 (by rw [e]; exact List.mem_cons_self))
  · intro k hk
    unfold rT at hk
    rcases List.mem_append.1 hk with hk | hk
    · exact .inl hk
    · right
      simp only [List.mem_append] at hk
      rcases hk with ((hk | hk) | hk) | hk
      · exact (nP k hk).1
      · exact (nF k hk).1
      · exact (nR k hk).1
      · have := nC k hk; omega
set_option maxHeartbeats 4000000 in
set_option maxRecDepth 20000 in
theorem rbegin_any (H : RC w h cnt log v S mk sp) (hcn : cnt ≤ 1000) (hpos : 0 < S.pgs.length) (hmx : S.pgs.length ≤ 1000) (hmf : S.freed.length ≤ 1000) : Calls Tryz.prog 41 #[ptr h] w fun e w' => e = .returned (.int .i64 0) ∧ ∃ v', RO w' h cnt log v' S S (List.replicate (cnt + 1) false) false false ∧ Turn (rS h v) (rT h v') w w' := by
  have c5 := H.c5
  have c2 : w.cell? ⟨h, 2, none⟩ = some v.sP := by rw [H.cell]; rfl
  have c3 : w.cell? ⟨h, 3, none⟩ = some v.sF := by rw [H.cell]; rfl
  have c4 : w.cell? ⟨h, 4, none⟩ = some v.sR := by rw [H.cell]; rfl
  have f5 := H.fz 5
  have HH : Hid (RC w h cnt log v S mk sp) := H
  have HR1 : Hid ((w.setCell ⟨h, 5, none⟩ (.bool true)).heap[h]? = some (.cells (rdA cnt log v true mk sp) 41 (0, 0))) := (heap_setCell_same w h 5 _ _ _ H.row).trans rfl
  have hst : StO (w.setCell ⟨h, 5, none⟩ (.bool true)) 0 v.sP v.sF v.sR S := H.st.keep (fun k hk => (Chg.setCell w h 5 (.bool true)).block k (H.st.lt k hk) (fun hm => H.ah (by rw [← List.mem_singleton.1 hm]; exact hk)))
  have HCP := rcopied_any 0 v.sP v.sF v.sR S _ hst hpos hmx hmf
  obtain ⟨a1, b1, e1⟩ := own_slice H.st.pg
  obtain ⟨a2, b2, e2⟩ := own_slice H.st.fr
  obtain ⟨a3, b3, e3⟩ := own_slice H.st.rt
  rw [e1] at c2
  rw [e2] at c3
  rw [e3] at c4
  rw [e1, e2, e3] at HCP
  have HTC : Hid (∃ a n c, v.tc = .slice a n c ∧ n ≤ 100000) := H.sl
  clear H hst e1 e2 e3
  unfold ptr
  go_enter Tryz.func41, Tryz.ntmps41
  go_wp2_with fail
  refine HCP.mono ?_
  rintro e w2 ⟨vP, vF, vR, rfl, hB2, hO2, d1, d2, d3⟩
  rw [show (w.setCell ⟨h, 5, none⟩ (.bool true)).heap.size = w.heap.size by simp] at hB2 hO2
  obtain ⟨a4, b4, e4⟩ := own_slice hO2.pg
  obtain ⟨a5, b5, e5⟩ := own_slice hO2.fr
  obtain ⟨a6, b6, e6⟩ := own_slice hO2.rt
  subst e4 e5 e6
  have hr2 : w2.heap[h]? = some (.cells (rdA cnt log v true mk sp) 41 (0, 0)) := (hB2.block h HH.out.hlt).trans HR1.out
  have q0 : w2.cell? ⟨h, 0, none⟩ = some (.int .i64 (cnt : Int)) := (cell_of_row w2 h 0 _ _ (0, 0) hr2).trans rfl
  have q6 : w2.cell? ⟨h, 6, none⟩ = some v.tP := (cell_of_row w2 h 6 _ _ (0, 0) hr2).trans rfl
  have q7 : w2.cell? ⟨h, 7, none⟩ = some v.tF := (cell_of_row w2 h 7 _ _ (0, 0) hr2).trans rfl
  have q8 : w2.cell? ⟨h, 8, none⟩ = some v.tR := (cell_of_row w2 h 8 _ _ (0, 0) hr2).trans rfl
  have qz : ∀ i, w2.frozen? ⟨h, i, none⟩ = false := fun i => frozen_of_row w2 h i _ _ hr2
  have HBG : Hid (∀ w4, (beg3 h w2 (.slice a4 S.pgs.length b4) (.slice a5 S.freed.length b5) (.slice a6 4 b6)).grownBy w4 none → w4.ownsRow 0 4 1 (.slice (some ⟨w2.heap.size, 0, none⟩) (cnt + 1) (cnt + 1)) (cnt + 1) ((List.replicate (cnt + 1) false).map Value.bool) → _) := fun w4 hG hC => HH.out.begins hB2 hO2 d1 d2 d3 hG hC
  obtain ⟨N, hN⟩ : ∃ N, cnt + 1 = N := ⟨_, rfl⟩
  have HN : Hid (cnt + 1 = N) := hN
  have hq : (cnt : Int) + 1 = (N : Int) := by omega
  have hN1 : N ≤ 1001 := by omega
  clear hN
  clear hB2 hO2 d1 d2 d3 hr2 HCP c2 c3 c4 c5 f5 HR1
  have hs3 : (((w2.setCell ⟨h, 6, none⟩ (.slice a4 S.pgs.length b4)).setCell ⟨h, 7, none⟩ (.slice a5 S.freed.length b5)).setCell ⟨h, 8, none⟩ (.slice a6 4 b6)).heap.size = w2.heap.size := by simp
  have HS3 := (show Hid _ from hs3)
  clear hs3
  obtain ⟨ta, tn, tcc, htc, _⟩ := HTC.out
  have HTV : Hid (v.tc = .slice ta tn tcc) := htc
  clear htc HTC
  go_wp2_with (at_make; refine wpList_make_full _ rfl _ _ 26 rfl 0 4 Tryz.t4 (.bool false) 1 Tryz.underlying26 info_bool10 rfl rfl _ _ _ _ N rfl rfl rfl rfl (by show 1 * N ≤ _; omega) (by unfold maxLen; omega) (Nat.zero_le _) ?_; intro w4 hO4 hG4; rw [made_bools, HS3.out, ← HN.out] at hO4; rw [HS3.out, ← HN.out]; have HF := (show Hid _ from HBG.out w4 hG4 hO4); have p9 : w4.cell? ⟨h, 9, none⟩ = some v.tc := (cell_of_row w4 h 9 _ _ (0, 0) HF.out.2.2).trans rfl; have p10 : w4.cell? ⟨h, 10, none⟩ = some (.bool mk) := (cell_of_row w4 h 10 _ _ (0, 0) HF.out.2.2).trans rfl; have p11 : w4.cell? ⟨h, 11, none⟩ = some (.bool sp) := (cell_of_row w4 h 11 _ _ (0, 0) HF.out.2.2).trans rfl; have pz : ∀ i, w4.frozen? ⟨h, i, none⟩ = false := fun i => frozen_of_row w4 h i _ _ HF.out.2.2; rw [HTV.out] at p9; clear hO4 hG4 q0 q6 q7 q8 qz)
  go_ret
  exact ⟨rfl, _, HF.out.1, HF.out.2.1⟩
end
end Go.Proofs.YtcfninpokngmlaaGreatDoor
/- Proved: PagedbAborts' walk. -/
namespace Go.Proofs.YtcfninpokngmlaaGreatDoor
open Go.RowKit
/- a state that was told, in a box, beside a footprint -/
structure Wz (wr : World) (fs : List Nat) (u : Nat) (p f r : Value) (S : Pd.Ab) : Prop where
  box : wr.heap[u]? = some (.cells #[p, f, r] 39 (0, 0))
  sto : StO wr 0 p f r S
  au : u ∉ fs
  ab : ∀ k, p.ownBlock = some k ∨ f.ownBlock = some k ∨ r.ownBlock = some k → k ∉ fs
theorem Wz.step {wr w' : World} {fs : List Nat} {u : Nat} {p f r : Value} {S : Pd.Ab} (h : Wz wr fs u p f r S) (hC : Chg fs wr w') : Wz w' fs u p f r S :=
  ⟨(hC.block u (Array.getElem?_eq_some_iff.1 h.box).1 h.au).trans h.box, ⟨own_keep h.sto.pg (fun k hk => hC.block k (h.sto.pg.lt k hk).2 (h.ab k (.inl hk))), own_keep h.sto.fr (fun k hk => hC.block k (h.sto.fr.lt k hk).2 (h.ab k (.inr (.inl hk)))), own_keep h.sto.rt (fun k hk => hC.block k (h.sto.rt.lt k hk).2 (h.ab k (.inr (.inr hk))))⟩, h.au, h.ab⟩
theorem Wz.turn {wr w' : World} {fs gs : List Nat} {u : Nat} {p f r : Value} {S : Pd.Ab} (h : Wz wr fs u p f r S) (hT : Turn fs gs wr w') : Wz w' gs u p f r S := by
  have h1 := h.step hT.chg
  refine ⟨h1.box, h1.sto, fun hm => ?_, fun k hk hm => ?_⟩
  · rcases hT.grow _ hm with e | e
    · exact h.au e
    · have := (Array.getElem?_eq_some_iff.1 h.box).1; omega
  · rcases hT.grow _ hm with e | e
    · exact h.ab k hk e
    · have : k < wr.heap.size := by
        rcases hk with q | q | q
        · exact (h.sto.pg.lt k q).2
        · exact (h.sto.fr.lt k q).2
        · exact (h.sto.rt.lt k q).2
      omega
theorem Wz.cells {wr : World} {fs : List Nat} {u : Nat} {p f r : Value} {S : Pd.Ab} (h : Wz wr fs u p f r S) : wr.cell? ⟨u, 0, none⟩ = some p ∧ wr.cell? ⟨u, 1, none⟩ = some f ∧ wr.cell? ⟨u, 2, none⟩ = some r :=
  ⟨(cell_of_row wr u 0 _ _ (0, 0) h.box).trans rfl, (cell_of_row wr u 1 _ _ (0, 0) h.box).trans rfl, (cell_of_row wr u 2 _ _ (0, 0) h.box).trans rfl⟩
/- a transaction that has ended, beside a footprint -/
structure Gone (w : World) (fs : List Nat) (t : Nat) : Prop where
  row : TxEnd w t
  at_ : t ∉ fs
theorem Gone.turn {w w' : World} {fs gs : List Nat} {t : Nat} (h : Gone w fs t) (hT : Turn fs gs w w') : Gone w' gs t := by
  have hl := (Array.getElem?_eq_some_iff.1 h.row).1
  refine ⟨(hT.chg.block t hl h.at_).trans h.row, fun hm => ?_⟩
  rcases hT.grow _ hm with e | e
  · exact h.at_ e
  · omega
theorem Gone.shut {w : World} {fs : List Nat} {t : Nat} (h : Gone w fs t) : Shut w (ptr t) := .inr ⟨t, rfl, (cell_of_row w t 0 _ _ (0, 0) h.row).trans rfl⟩
/- what stands behind Abort -/
structure Beh (W w : World) (A : Ad) (K : Nat) (d : Pd.Db) (S : Pd.Ab) (t u : Nat) (p f r : Value) : Prop where
  gd : GD W w A K d S
  wz : Wz w A.ft u p f r S
  go : Gone w A.ft t
theorem Beh.below {W w w' : World} {A : Ad} {K : Nat} {d : Pd.Db} {S : Pd.Ab} {t u : Nat} {p f r : Value} (h : Beh W w A K d S t u p f r) (hB : Below w.heap.size w w') : Beh W w' A K d S t u p f r :=
  ⟨h.gd.below hB, h.wz.step (Chg.of_below hB), h.go.turn (Turn.of_below hB)⟩
end Go.Proofs.YtcfninpokngmlaaGreatDoor
/- Proved: a state is made anew by allocating, writing, freeing and setting roots (stage 10; mathematics). -/
namespace Pd
def fil (o : Option Sheet) : Option Sheet := some (o.getD page1)
def T1 (j : Nat) : Ab := ⟨some page00 :: List.replicate j (some page1), [], 0, 0, 0, 0⟩
def T2 (S : Ab) (j : Nat) : Ab := ⟨(S.pgs.take j).map fil ++ List.replicate (S.pgs.length - j) (some page1), [], 0, 0, 0, 0⟩
def sets : List Nat → List (Option Sheet) → List (Option Sheet)
  | [], l => l
  | i :: is, l => sets is (l.set i none)
def T3 (S : Ab) (k : Nat) : Ab := ⟨sets (S.freed.take k) (S.pgs.map fil), S.freed.take k, 0, 0, 0, 0⟩
def T4 (S : Ab) (k : Nat) : Ab := ⟨S.pgs, S.freed, if 0 < k then S.r0 else 0, if 1 < k then S.r1 else 0, if 2 < k then S.r2 else 0, if 3 < k then S.r3 else 0⟩
end Pd
namespace Go.Proofs.YtcfninpokngmlaaGreatDoor
open Go.RowKit
/- the free pages of a state, in the order of their numbers -/
def isN : Option (Option Pd.Sheet) → Bool
  | some none => true
  | _ => false
def frs (R : Pd.Ab) (j : Nat) : List Nat := (List.range j).filter fun i => isN R.pgs[i]?
theorem nodup_sub : ∀ (l l' : List Nat), l.Nodup → (∀ i ∈ l, i ∈ l') → l.length ≤ l'.length
  | [], _, _, _ => Nat.zero_le _
  | a :: l, l', hn, h => by
    have hn' := List.nodup_cons.1 hn
    have ha := h a List.mem_cons_self
    have ih := nodup_sub l (l'.erase a) hn'.2 (fun i hi => (List.mem_erase_of_ne (fun e => hn'.1 (by rw [← e]; exact hi))).2 (h i (List.mem_cons_of_mem _ hi)))
    rw [List.length_erase_of_mem ha] at ih
    have := List.length_pos_of_mem ha
    rw [List.length_cons]
    omega
end Go.Proofs.YtcfninpokngmlaaGreatDoor
/- Proved: a state that is being told, beside a transaction: a page more, a free page's number more (stage 10). -/
namespace Go.Proofs.YtcfninpokngmlaaGreatDoor
open Go.RowKit
theorem app_iend (W : World) (B : Nat) (v : Value) (fl : List Nat) (id y : Nat) (hown : W.ownsRow B 3 1 v fl.length (intC fl)) (hl : fl.length ≤ 100000) (hB : B ≤ W.heap.size) (hy : W.heap[y]? = some (.cells #[.int .i64 (id : Int)] 3 (0, 0))) :
    ∃ v' w', (∀ ty, (Builtin.append_ #[37, 37] ty #[v, .slice (some ⟨y, 0, none⟩) 1 1]).run Tryz.prog W = .ok v' w') ∧ w'.ownsRow B 3 1 v' (fl ++ [id]).length (intC (fl ++ [id])) ∧ W.grownBy w' v.ownBlock ∧ (v'.ownBlock = v.ownBlock ∨ v'.ownBlock = some W.heap.size) := by
  obtain ⟨i0, hi, hz0, hz1, hz2⟩ := info_parts infoInt
  obtain ⟨v', w', hr, h2, h3, h4, h5⟩ := run_append_own_at (P := Tryz.prog) W B 37 0 3 i0 (.int .i64 0) 1 8 Tryz.underlying37 hi hz0 hz1 hz2 rfl (by omega) v fl.length (intC fl) hown ⟨y, 0, none⟩ 1 1 (intC [id]) rfl (fun j u hj => by rw [Addr.add_mid]; exact range_all hy j u hj) (intC_one [id]) (by unfold maxLen; omega) (by omega) hB
  refine ⟨v', w', fun _ => hr, ?_, h3, h5⟩
  have e : intC (fl ++ [id]) = intC fl ++ intC [id] := by unfold intC; rw [List.map_append]
  rw [e, List.length_append]
  exact h2
section
variable {W wr w' : World} {A : Ad} {t bt K : Nat} {d : Pd.Db} {S T : Pd.Ab} {tm : Pd.Mp}
structure SJ (W wr : World) (A : Ad) (t bt K : Nat) (d : Pd.Db) (S T : Pd.Ab) (tm : Pd.Mp) (q rb : Nat) (vP vF : Value) (np : Nat) (fl : List Nat) : Prop where
  g : GT W wr A t bt K d S T false tm
  box : wr.heap[q]? = some (.cells (st3 vP vF rb) 39 (0, 0))
  pg : wr.ownsRow W.heap.size 83 3 vP (T.pgs.take np).length ((T.pgs.take np).flatMap pgC)
  fr : wr.ownsRow W.heap.size 3 1 vF fl.length (intC fl)
  rt : wr.ownsRow W.heap.size 3 1 (.slice (some ⟨rb, 0, none⟩) 4 4) 4 (intC [T.r0, T.r1, T.r2, T.r3])
  aq : q ∉ rb :: tft A t bt
  ab : rb ∉ tft A t bt
  aP : ∀ k, vP.ownBlock = some k → k ∉ q :: rb :: tft A t bt
  aF : ∀ k, vF.ownBlock = some k → k ∉ q :: rb :: tft A t bt
  pf : ∀ k, vP.ownBlock = some k → vF.ownBlock ≠ some k
  hi : W.heap.size ≤ q ∧ W.heap.size ≤ rb
  pos : 0 < W.heap.size
variable {q rb np : Nat} {vP vF : Value} {fl : List Nat}
theorem SJ.lt (h : SJ W wr A t bt K d S T tm q rb vP vF np fl) : ∀ k ∈ q :: rb :: tft A t bt, k < wr.heap.size := fun k hk => by
  rcases List.mem_cons.1 hk with rfl | hk
  · exact (Array.getElem?_eq_some_iff.1 h.box).1
  · rcases List.mem_cons.1 hk with rfl | hk
    · exact (h.rt.lt k rfl).2
    · exact h.g.tx.lt k hk
theorem SJ.below (h : SJ W wr A t bt K d S T tm q rb vP vF np fl) (hB : Below wr.heap.size wr w') : SJ W w' A t bt K d S T tm q rb vP vF np fl :=
  ⟨h.g.below hB, (hB.block q (h.lt q (by simp))).trans h.box, own_below h.pg hB, own_below h.fr hB, own_below h.rt hB, h.aq, h.ab, h.aP, h.aF, h.pf, h.hi, h.pos⟩
/- a page more -/
theorem SJ.page {o : Option Pd.Sheet} {v' : Value} {w3 : World} (h : SJ W wr A t bt K d S T tm q rb vP vF np fl) (ho : T.pgs[np]? = some o)
    (hO : w3.ownsRow W.heap.size 83 3 v' (T.pgs.take np ++ [o]).length ((T.pgs.take np ++ [o]).flatMap pgC)) (hG : (wr.alloc (.cells (pgC o).toArray 83)).grownBy w3 vP.ownBlock) (hv : v'.ownBlock = vP.ownBlock ∨ v'.ownBlock = some (wr.alloc (.cells (pgC o).toArray 83)).heap.size) :
    SJ W (w3.setCell ⟨q, 0, none⟩ v') A t bt K d S T tm q rb v' vF (np + 1) fl := by
  have hl := h.lt
  have s2 : (wr.alloc (.cells (pgC o).toArray 83)).heap.size = wr.heap.size + 1 := by simp
  have h2 := h.below ((Below.refl _ wr).alloc (Nat.le_refl _) (.cells (pgC o).toArray 83))
  have htk : T.pgs.take np ++ [o] = T.pgs.take (np + 1) := by
    rw [List.take_add_one, ho]
    rfl
  rw [htk] at hO
  have hcg : Chg vP.ownBlock.toList (wr.alloc (.cells (pgC o).toArray 83)) w3 := Chg.grown hG
  have hqP : q ∉ vP.ownBlock.toList := fun hm => h.aP q (by simpa using hm) (by simp)
  have hc3 : Chg (q :: vP.ownBlock.toList) (wr.alloc (.cells (pgC o).toArray 83)) (w3.setCell ⟨q, 0, none⟩ v') := (hcg.mono (fun k hk => List.mem_cons_of_mem _ hk)).trans ((Chg.setCell w3 q 0 v').mono (fun k hk => by rw [List.mem_singleton.1 hk]; exact List.mem_cons_self))
  have hq3 : w3.heap[q]? = some (.cells (st3 vP vF rb) 39 (0, 0)) := (hcg.block q (h2.lt q (by simp)) hqP).trans h2.box
  have hne : ∀ k, v'.ownBlock = some k → k ∉ q :: rb :: tft A t bt := fun k hk hm => by
    rcases hv with e | e
    · exact h.aP k (e ▸ hk) hm
    · rw [e] at hk
      have := Option.some.inj hk
      have := hl k hm
      omega
  have hbl : ∀ k, k < wr.heap.size + 1 → k ≠ q → vP.ownBlock ≠ some k → (w3.setCell ⟨q, 0, none⟩ v').heap[k]? = (wr.alloc (.cells (pgC o).toArray 83)).heap[k]? := fun k h1 h2 h3 => hc3.block k (by rw [s2]; exact h1) (fun hm => by
    rcases List.mem_cons.1 hm with e | e
    · exact h2 e
    · exact h3 (by simpa using e))
  have hfs : ∀ k ∈ q :: vP.ownBlock.toList, W.heap.size ≤ k := fun k hk => by
    rcases List.mem_cons.1 hk with rfl | hk
    · exact h.hi.1
    · exact (h.pg.lt k (by simpa using hk)).1
  have hft : ∀ k ∈ tft A t bt, k ∉ q :: vP.ownBlock.toList := fun k hk hm => by
    rcases List.mem_cons.1 hm with rfl | e
    · exact h.aq (by simp [hk])
    · exact h.aP k (by simpa using e) (by simp [hk])
  refine ⟨h2.g.keep hc3 hft hfs h.pos, ?_, ?_, ?_, ?_, h.aq, h.ab, hne, h.aF, fun k hk => ?_, h.hi, h.pos⟩
  · exact (heap_setCell_same w3 q 0 _ _ v' hq3).trans rfl
  · exact own_keep hO (fun k hk => heap_setCell_other _ _ _ _ (fun e => hne k hk (by simp [e])))
  · refine own_keep h2.fr (fun k hk => hbl k (by have := (h.fr.lt k hk).2; omega) (fun e => h.aF k hk (by simp [e])) (fun e => h.pf k e hk))
  · refine own_keep h2.rt (fun k hk => ?_)
    have : k = rb := (Option.some.inj hk).symm
    subst this
    exact hbl k (by have := hl k (by simp); omega) (fun e => h.aq (by simp [← e])) (fun e => h.aP k e (by simp))
  · rcases hv with e | e
    · exact h.pf k (e ▸ hk)
    · rw [e] at hk
      have h1 := Option.some.inj hk
      intro h3
      have := (h.fr.lt k h3).2
      omega
end
end Go.Proofs.YtcfninpokngmlaaGreatDoor
/- Proved: Free of the document's database (stage 10). -/
namespace Go.Proofs.YtcfninpokngmlaaGreatDoor
open Go.RowKit
section
variable {w w' : World} {h cnt log : Nat} {v : Rv} {S T : Pd.Ab} {tb : List Bool} {mk sp : Bool}
/- the numbers of the free pages are put anew -/
theorem RO.freed (H : RO w h cnt log v S T tb mk sp) {v' : Value} {fl : List Nat} (hO : w.ownsRow 0 3 1 v' fl.length (intC fl)) (ha : ∀ k ∈ bl v', k ≠ h ∧ k ∉ bl v.tP ∧ k ∉ bl v.tR ∧ k ∉ bl v.tc) :
    RO (w.setCell ⟨h, 7, none⟩ v') h cnt log { v with tF := v' } S { T with freed := fl } tb mk sp := by
  have hc : Chg [h] w (w.setCell ⟨h, 7, none⟩ v') := Chg.setCell _ _ _ _
  have hb : ∀ k, k < w.heap.size → k ≠ h → (w.setCell ⟨h, 7, none⟩ v').heap[k]? = w.heap[k]? := fun k h1 h2 => hc.block k h1 (fun hm => h2 (List.mem_singleton.1 hm))
  have hah := H.ah
  simp only [List.mem_append, not_or] at hah
  obtain ⟨⟨⟨⟨⟨⟨n1, n2⟩, n3⟩, n4⟩, n5⟩, n6⟩, n7⟩ := hah
  refine ⟨(heap_setCell_same w h 7 _ _ v' H.row).trans rfl, H.st.keep (fun k hk => hb k (H.st.lt k hk) (fun e => ?_)), ⟨own_keep H.tt.pg (fun k hk => hb k (H.tt.pg.lt k hk).2 (fun e => n4 (by rw [← e]; exact mem_bl.2 hk))), own_keep hO (fun k hk => hb k (hO.lt k hk).2 (ha k (mem_bl.2 hk)).1), own_keep H.tt.rt (fun k hk => hb k (H.tt.rt.lt k hk).2 (fun e => n6 (by rw [← e]; exact mem_bl.2 hk)))⟩, own_keep H.tc (fun k hk => hb k (H.tc.lt k hk).2 (fun e => n7 (by rw [← e]; exact mem_bl.2 hk))), ?_, fun k hk hm => ?_, fun k hk hm => ?_, fun k hk hm => ?_⟩
  · subst e
    simp only [List.mem_append] at hk
    rcases hk with (hk | hk) | hk
    · exact n1 hk
    · exact n2 hk
    · exact n3 hk
  · intro hm
    simp only [List.mem_append] at hm
    rcases hm with (((((hm | hm) | hm) | hm) | hm) | hm) | hm
    · exact n1 hm
    · exact n2 hm
    · exact n3 hm
    · exact n4 hm
    · exact (ha h hm).1 rfl
    · exact n6 hm
    · exact n7 hm
  · have q := H.aP k hk
    simp only [List.mem_append, not_or] at q hm
    rcases hm with ((((hm | hm) | hm) | hm) | hm) | hm
    · exact q.1.1.1.1.1 hm
    · exact q.1.1.1.1.2 hm
    · exact q.1.1.1.2 hm
    · exact (ha k hm).2.1 hk
    · exact q.1.2 hm
    · exact q.2 hm
  · have q := H.aR k hk
    simp only [List.mem_append, not_or] at q hm
    rcases hm with ((((hm | hm) | hm) | hm) | hm) | hm
    · exact q.1.1.1.1.1 hm
    · exact q.1.1.1.1.2 hm
    · exact q.1.1.1.2 hm
    · exact q.1.1.2 hm
    · exact (ha k hm).2.2.1 hk
    · exact q.2 hm
  · have q := H.aC k hk
    simp only [List.mem_append, not_or] at q hm
    rcases hm with ((((hm | hm) | hm) | hm) | hm) | hm
    · exact q.1.1.1.1.1 hm
    · exact q.1.1.1.1.2 hm
    · exact q.1.1.1.2 hm
    · exact q.1.1.2 hm
    · exact (ha k hm).2.2.2 hk
    · exact q.2 hm
/- a turn of the document's transaction out of its parts -/
theorem rturn {v2 : Rv} {fs : List Nat} (hc : Chg fs w w') (h1 : ∀ k ∈ fs, k < w.heap.size → k ∈ rT h v) (h2 : ∀ k ∈ rT h v2, k ∈ rT h v ∨ w.heap.size ≤ k) : Turn (rT h v) (rT h v2) w w' :=
  ⟨⟨hc.os, hc.tape, hc.output, hc.size, fun k hk hn => hc.block k hk (fun hm => hn (h1 k hm hk))⟩, h2⟩
def frK (T : Pd.Ab) (id : Int) (tb : List Bool) : List Bool := if frR T id = 0 then tb.set id.toNat true else tb
def frB (T : Pd.Ab) (id : Int) (mk : Bool) : Bool := if frR T id = 0 then true else mk
end
end Go.Proofs.YtcfninpokngmlaaGreatDoor
/- Proved: Free of the document's database with a transaction (stage 10). -/
namespace Go.Proofs.YtcfninpokngmlaaGreatDoor
open Go.RowKit
section
variable {w w' : World} {h cnt log : Nat} {v : Rv} {S T : Pd.Ab} {tb : List Bool} {mk sp : Bool}
def pg0 (w : World) (g j : Nat) : World := ((w.setCell ⟨g, j * 3, none⟩ (.int .i64 0)).setCell ⟨g, j * 3 + 1, none⟩ (.string ⟨#[]⟩)).setCell ⟨g, j * 3 + 2, none⟩ (.bool true)
/- the worlds of Free, one behind another -/
theorem free_worlds (H : RO w h cnt log v S T tb mk sp) {g cap g2 cap2 : Nat} (hv : v.tP = .slice (some ⟨g, 0, none⟩) T.pgs.length cap) (hv2 : v.tc = .slice (some ⟨g2, 0, none⟩) (cnt + 1) cap2) (j : Nat) (hj : j < T.pgs.length) (hl : T.freed.length ≤ 1000) :
    ∃ v3 w3 v5 w5, (∀ ty, (Builtin.append_ #[37, 37] ty #[.slice (some ⟨w.heap.size, 0, none⟩) 0 0, v.tF]).run Tryz.prog ((pg0 w g j).alloc (.cells #[] 3)) = .ok v3 w3) ∧
      (∀ ty, (Builtin.append_ #[37, 37] ty #[v3, .slice (some ⟨w3.heap.size, 0, none⟩) 1 1]).run Tryz.prog (w3.alloc (.cells #[.int .i64 (j : Int)] 3)) = .ok v5 w5) ∧
      (∃ a c, v3 = .slice a T.freed.length c) ∧ (∃ a c, v5 = .slice a (T.freed.length + 1) c) ∧
      RO ((pg0 w g j).alloc (.cells #[] 3)) h cnt log v S { T with pgs := T.pgs.set j none } tb mk sp ∧ RO w5 h cnt log v S { T with pgs := T.pgs.set j none } tb mk sp ∧
      RO (((w5.setCell ⟨h, 7, none⟩ v5).setCell ⟨g2, j, none⟩ (.bool true)).setCell ⟨h, 10, none⟩ (.bool true)) h cnt log { v with tF := v5 } S (T.free j) (tb.set j true) true sp ∧
      Turn (rT h v) (rT h { v with tF := v5 }) w (((w5.setCell ⟨h, 7, none⟩ v5).setCell ⟨g2, j, none⟩ (.bool true)).setCell ⟨h, 10, none⟩ (.bool true)) := by
  obtain ⟨q1, t1⟩ := H.page hv j hj none (a := .int .i64 0) (b := .string ⟨#[]⟩) (c := .bool true) rfl
  have s1 : (pg0 w g j).heap.size = w.heap.size := by unfold pg0; simp
  have q1 : RO (pg0 w g j) h cnt log v S { T with pgs := T.pgs.set j none } tb mk sp := q1
  have t1 : Turn (rT h v) (rT h v) w (pg0 w g j) := t1
  have q2 := q1.below ((Below.refl _ (pg0 w g j)).alloc (Nat.le_refl _) (.cells #[] 3))
  have s2 : ((pg0 w g j).alloc (.cells #[] 3)).heap.size = w.heap.size + 1 := by simp [s1]
  have hy := heap_alloc_new (pg0 w g j) (.cells #[] 3)
  rw [s1] at hy
  have hlt := H.lt
  obtain ⟨v3, w3, hr3, hO3, hG3, hv3⟩ := app_icopy ((pg0 w g j).alloc (.cells #[] 3)) w.heap.size 0 v.tF T.freed w.heap.size q2.tt.fr (by omega) (Nat.le_refl _) (by omega) hy
  rw [s2] at hv3
  have c3 : Chg [w.heap.size] ((pg0 w g j).alloc (.cells #[] 3)) w3 := Chg.grown hG3
  have q3 := q2.keep c3 (fun k hk hm => by have := hlt k hk; have := List.mem_singleton.1 hm; omega)
  have hs3 := hG3.size
  rw [s2] at hs3
  have q4 := q3.below ((Below.refl _ w3).alloc (Nat.le_refl _) (.cells #[.int .i64 (j : Int)] 3))
  have s4 : (w3.alloc (.cells #[.int .i64 (j : Int)] 3)).heap.size = w3.heap.size + 1 := by simp
  obtain ⟨v5, w5, hr5, hO5, hG5, hv5⟩ := app_iend (w3.alloc (.cells #[.int .i64 (j : Int)] 3)) w.heap.size v3 T.freed j w3.heap.size (own_alloc hO3 _) (by omega) (by omega) (heap_alloc_new w3 _)
  rw [s4] at hv5
  have b3 : ∀ k, v3.ownBlock = some k → w.heap.size ≤ k := fun k hk => (hO3.lt k hk).1
  have c5 : Chg v3.ownBlock.toList (w3.alloc (.cells #[.int .i64 (j : Int)] 3)) w5 := Chg.grown hG5
  have q5 := q4.keep c5 (fun k hk hm => by have := hlt k hk; have := b3 k (by simpa using hm); omega)
  have b5 : ∀ k ∈ bl v5, w.heap.size ≤ k := fun k hk => (hO5.lt k (mem_bl.1 hk)).1
  have q6 := q5.freed (own_zero hO5) (fun k hk => by
    have hk5 := b5 k hk
    refine ⟨fun e => ?_, fun e => ?_, fun e => ?_, fun e => ?_⟩
    · have := hlt h rT_h; omega
    · have := hlt k (rT_P e); omega
    · have := hlt k (rT_R e); omega
    · have := hlt k (rT_C e); omega)
  obtain ⟨q7, t7⟩ := q6.touch hv2 j
  obtain ⟨q8, t8⟩ := q7.mark
  refine ⟨v3, w3, v5, w5, hr3, hr5, own_slice hO3, ?_, q2, q5, q8, ?_⟩
  · obtain ⟨a, c, e⟩ := own_slice hO5
    exact ⟨a, c, by rw [e]; simp⟩
  · have ch1 : Chg (rT h v ++ [w.heap.size] ++ v3.ownBlock.toList ++ [h] ++ rT h { v with tF := v5 }) w (((w5.setCell ⟨h, 7, none⟩ v5).setCell ⟨g2, j, none⟩ (.bool true)).setCell ⟨h, 10, none⟩ (.bool true)) := by
      refine (((((t1.chg.mono ?_).trans (Chg.alloc _ _ _)).trans (c3.mono ?_)).trans (Chg.alloc _ _ _)).trans (c5.mono ?_)).trans (((Chg.setCell w5 h 7 v5).mono ?_).trans ((t7.chg.mono ?_).trans (t8.chg.mono ?_)))
      · intro k hk; simp [hk]
      · intro k hk; simp at hk; simp [hk]
      · intro k hk; simp only [List.mem_append]; exact .inl (.inl (.inr hk))
      · intro k hk; simp at hk; simp [hk]
      · intro k hk; simp [hk]
      · intro k hk; simp [hk]
    refine rturn ch1 (fun k hm hk => ?_) (fun k hk => ?_)
    · simp only [List.mem_append] at hm
      rcases hm with (((hm | hm) | hm) | hm) | hm
      · exact hm
      · have := List.mem_singleton.1 hm; omega
      · have := b3 k (by simpa using hm); omega
      · rw [List.mem_singleton.1 hm]; exact rT_h
      · unfold rT rS at hm
        simp only [List.mem_append, List.mem_cons] at hm
        rcases hm with (hm | (hm | hm) | hm) | ((hm | hm) | hm) | hm
        · rw [hm]; exact rT_h
        · exact rT_S (by unfold rS; simp [hm])
        · exact rT_S (by unfold rS; simp [hm])
        · exact rT_S (by unfold rS; simp [hm])
        · exact rT_P hm
        · have := b5 k hm; omega
        · exact rT_R hm
        · exact rT_C hm
    · unfold rT rS at hk
      simp only [List.mem_append, List.mem_cons] at hk
      rcases hk with (hk | (hk | hk) | hk) | ((hk | hk) | hk) | hk
      · rw [hk]; exact .inl rT_h
      · exact .inl (rT_S (by unfold rS; simp [hk]))
      · exact .inl (rT_S (by unfold rS; simp [hk]))
      · exact .inl (rT_S (by unfold rS; simp [hk]))
      · exact .inl (rT_P hk)
      · exact .inr (b5 k hk)
      · exact .inl (rT_R hk)
      · exact .inl (rT_C hk)
set_option maxHeartbeats 4000000 in
set_option maxRecDepth 20000 in
theorem rfree_any (H : RO w h cnt log v S T tb mk sp) (hok : T.Ok cnt) (id : Int) : Calls Tryz.prog 45 #[ptr h, .int .i64 id] w fun e w' => e = .returned (.int .i64 (frR T id)) ∧ ∃ v', RO w' h cnt log v' S (frA T id) (frK T id tb) (frB T id mk) sp ∧ Turn (rT h v) (rT h v') w w' := by
  have HC := rthere_any H hok id
  have hpos := hok.pos
  have hm := hok.most
  have hms := hok.small
  have hfl := hok.free_lt
  by_cases hE : (thereR T.pgs.length id (T.sh id.toNat)).2 = 0
  · obtain ⟨h1, h2, h3, y, h4⟩ := there_zero hE
    rw [hE] at HC
    obtain ⟨j, rfl⟩ := Int.eq_ofNat_of_zero_le (show 0 ≤ id by omega)
    rw [Int.toNat_natCast] at h1 h2 h4
    have HF : Hid (frR T (j : Int) = 0) := hE
    obtain ⟨g, cap, hv, _, _, _, hc⟩ := pg_cells H.tt.pg hpos
    obtain ⟨g2, cap2, hv2, hl2, hc2⟩ := bool_cells H.tc (by omega)
    obtain ⟨v3, w3, v5, w5, hr3, hr5, ⟨a3, b3, e3⟩, ⟨a5, b5, e5⟩, q2, q5, q8, hT⟩ := free_worlds H hv hv2 j h2 (by omega)
    have HFN : Hid (Ending.returned (.int .i64 0) = .returned (.int .i64 (frR T (j : Int))) ∧ ∃ v', RO (((w5.setCell ⟨h, 7, none⟩ v5).setCell ⟨g2, j, none⟩ (.bool true)).setCell ⟨h, 10, none⟩ (.bool true)) h cnt log v' S (frA T (j : Int)) (frK T (j : Int) tb) (frB T (j : Int) mk) sp ∧ Turn (rT h v) (rT h v') w (((w5.setCell ⟨h, 7, none⟩ v5).setCell ⟨g2, j, none⟩ (.bool true)).setCell ⟨h, 10, none⟩ (.bool true))) := by
      unfold frA frK frB
      rw [if_pos HF.out, if_pos HF.out, if_pos HF.out, HF.out, Int.toNat_natCast]
      exact ⟨rfl, _, q8, hT⟩
    have c6 := H.c6
    rw [hv] at c6
    obtain ⟨x0, x1, x2, hx⟩ := pgC_three (some y)
    have p0 : w.cell? ⟨g, j * 3, none⟩ = some (.int .i64 (x0 : Int)) := hc j _ 0 _ h4 (by rw [hx]; rfl)
    have p1 : w.cell? ⟨g, j * 3 + 1, none⟩ = some (.string x1) := hc j _ 1 _ h4 (by rw [hx]; rfl)
    have p2 : w.cell? ⟨g, j * 3 + 2, none⟩ = some (.bool x2) := hc j _ 2 _ h4 (by rw [hx]; rfl)
    have hpg := H.tt.pg
    rw [hv] at hpg
    have z0 := own_frozen hpg (j * 3)
    have z1 := own_frozen hpg (j * 3 + 1)
    have z2 := own_frozen hpg (j * 3 + 2)
    have hgP : g ∈ bl v.tP := by rw [hv]; exact mem_bl.2 rfl
    have hgC : g2 ∈ bl v.tc := by rw [hv2]; exact mem_bl.2 rfl
    have m1 : ¬ h = g := fun e => H.ah (by rw [e]; simp [hgP])
    have m2 : ¬ g = h := fun e => m1 e.symm
    have m5 : ¬ h = g2 := fun e => H.ah (by rw [e]; simp [hgC])
    have m6 : ¬ g2 = h := fun e => m5 e.symm
    obtain ⟨aF, cF, hvF⟩ := own_slice H.tt.fr
    have c7 : ((((w.setCell ⟨g, j * 3, none⟩ (.int .i64 0)).setCell ⟨g, j * 3 + 1, none⟩ (.string ⟨#[]⟩)).setCell ⟨g, j * 3 + 2, none⟩ (.bool true)).alloc (.cells #[] 3)).cell? ⟨h, 7, none⟩ = some v.tF := q2.c7
    unfold pg0 at hr3
    rw [hvF] at c7 hr3
    have u7 := q5.c7
    have u9 := q5.c9
    have u10 := q5.c10
    have uz := q5.fz
    rw [hvF] at u7
    rw [hv2] at u9
    obtain ⟨g2', cap2', hv2', hl2', hc2'⟩ := bool_cells q5.tc (by omega)
    rw [hv2] at hv2'
    cases hv2'
    obtain ⟨t0, ht0⟩ : ∃ t, tb[j]? = some t := ⟨_, List.getElem?_eq_getElem (by omega)⟩
    have u3 := hc2' j t0 ht0
    have htc5 := q5.tc
    rw [hv2] at htc5
    have uz3 := own_frozen htc5 j
    have k0 : (0 : Int) ≤ (j : Int) := by omega
    have k1 : (j : Int) < (T.pgs.length : Int) := by omega
    have k2 : (j : Int) < ((cnt + 1 : Nat) : Int) := by omega
    obtain ⟨N1, hN1⟩ : ∃ N, cnt + 1 = N := ⟨_, rfl⟩
    rw [hN1] at u9 k2
    subst e3 e5
    have HR3 := (show Hid _ from hr3)
    have HR5 := (show Hid _ from hr5)
    clear H hok h4 hE hc hc2 hc2' hx hpg htc5 ht0 hgP hgC HF h3 q2 q5 q8 hT hr3 hr5 hN1 hl2 hl2'
    try clear hv
    try clear hv2
    try clear hvF
    generalize T.freed.length + 1 = nf at *
    unfold ptr at *
    go_enter Tryz.func45, Tryz.ntmps45
    go_wp2_with (first | (go_at_call 72; refine HC.mono ?_; rintro e wS ⟨rfl, hwS⟩; rw [hwS]; clear hwS wS) | (at_builtin; refine wpList_run_append rfl _ _ 37 rfl _ _ _ w3 rfl rfl HR3.out ?_) | (at_builtin; refine wpList_run_append rfl _ _ 37 rfl _ _ _ w5 rfl rfl HR5.out ?_))
    go_ret
    exact HFN.out
  · obtain ⟨E, hE1⟩ : ∃ E, (thereR T.pgs.length id (T.sh id.toNat)).2 = E := ⟨_, rfl⟩
    have HF : Hid (frR T id = E) := hE1
    rw [hE1] at HC hE
    have f1 : (E != 0) = true := by simp [hE]
    have HNO : Hid (Ending.returned (.int .i64 E) = .returned (.int .i64 (frR T id)) ∧ ∃ v', RO w h cnt log v' S (frA T id) (frK T id tb) (frB T id mk) sp ∧ Turn (rT h v) (rT h v') w w) := by
      have e0 : ¬ frR T id = 0 := by rw [HF.out]; exact hE
      unfold frA frK frB
      rw [if_neg e0, if_neg e0, if_neg e0, HF.out]
      exact ⟨rfl, v, H, Turn.refl _ _⟩
    clear H hok hE1 hE
    unfold ptr at *
    go_enter Tryz.func45, Tryz.ntmps45
    go_wp2_with (go_at_call 72; refine HC.mono ?_; rintro e wS ⟨rfl, hwS⟩; rw [hwS]; clear hwS wS)
    go_ret
    exact HNO.out
end
end Go.Proofs.YtcfninpokngmlaaGreatDoor
/- Proved: Alloc and New of the document's database (stage 10). -/
namespace Go.Proofs.YtcfninpokngmlaaGreatDoor
open Go.RowKit
section
variable {w w' : World} {h cnt log : Nat} {v : Rv} {S T : Pd.Ab} {tb : List Bool} {mk sp : Bool}
theorem own_take {B e k n g cap m : Nat} {xs : List Value} (H : w.ownsRow B e k (.slice (some ⟨g, 0, none⟩) n cap) n xs) (hm : m ≤ n) : w.ownsRow B e k (.slice (some ⟨g, 0, none⟩) m cap) m (xs.take (m * k)) := by
  have hmk : m * k ≤ n * k := Nat.mul_le_mul_right k hm
  rcases H.2 with ⟨h1, h2⟩ | ⟨g', cap', cur, hv, hg, hb, h1, h2, h3, h4⟩
  · cases h1
  · cases hv
    refine ⟨by rw [List.length_take, H.1]; omega, .inr ⟨g, cap, cur, rfl, hg, hb, by omega, h2, h3, ?_⟩⟩
    rw [← h4, List.take_take, Nat.min_eq_left hmk]
def alK (T : Pd.Ab) (cnt : Nat) (tb : List Bool) : List Bool := if alR T cnt = 0 then tb.set (alI T cnt) true else tb
def alB (T : Pd.Ab) (cnt : Nat) (mk : Bool) : Bool := if alR T cnt = 0 then true else mk
def pg1 (w : World) (g j : Nat) : World := ((w.setCell ⟨g, j * 3, none⟩ (.int .i64 1)).setCell ⟨g, j * 3 + 1, none⟩ (.string ⟨#[]⟩)).setCell ⟨g, j * 3 + 2, none⟩ (.bool false)
/- a page that was free -/
theorem alloc_old (H : RO w h cnt log v S T tb mk sp) (hok : T.Ok cnt) {g cap g2 cap2 gF cF : Nat} (hv : v.tP = .slice (some ⟨g, 0, none⟩) T.pgs.length cap) (hv2 : v.tc = .slice (some ⟨g2, 0, none⟩) (cnt + 1) cap2) (hvF : v.tF = .slice (some ⟨gF, 0, none⟩) T.freed.length cF) (m x : Nat) (hn : T.freed.length = m + 1) (hx : T.freed[m]? = some x) :
    RO (w.setCell ⟨h, 7, none⟩ (.slice (some ⟨gF, 0, none⟩) m cF)) h cnt log { v with tF := .slice (some ⟨gF, 0, none⟩) m cF } S { T with freed := T.freed.dropLast } tb mk sp ∧ RO (((pg1 (w.setCell ⟨h, 7, none⟩ (.slice (some ⟨gF, 0, none⟩) m cF)) g x).setCell ⟨g2, x, none⟩ (.bool true)).setCell ⟨h, 10, none⟩ (.bool true)) h cnt log { v with tF := .slice (some ⟨gF, 0, none⟩) m cF } S (alA T cnt) (alK T cnt tb) (alB T cnt mk) sp ∧ Turn (rT h v) (rT h { v with tF := .slice (some ⟨gF, 0, none⟩) m cF }) w (((pg1 (w.setCell ⟨h, 7, none⟩ (.slice (some ⟨gF, 0, none⟩) m cF)) g x).setCell ⟨g2, x, none⟩ (.bool true)).setCell ⟨h, 10, none⟩ (.bool true)) ∧ alI T cnt = x ∧ alR T cnt = 0 ∧ x < T.pgs.length := by
  have hne : T.freed ≠ [] := fun e => by rw [e] at hn; simp at hn
  have hR : alR T cnt = 0 := by unfold alR; rw [if_neg (fun e => hne e.1)]
  have hlast : T.freed.getLast?.getD 0 = x := by
    rw [List.getLast?_eq_getElem?, hn, Nat.add_sub_cancel, hx]
    rfl
  have hI : alI T cnt = x := by
    unfold alI
    rw [if_pos hR]
    unfold Pd.Ab.allocI
    rw [if_neg hne]
    exact hlast
  have hxl := (hok.flt (List.mem_of_getElem? hx)).2
  have hgF : gF ∈ bl v.tF := by rw [hvF]; exact mem_bl.2 rfl
  have hbv : bl (.slice (some ⟨gF, 0, none⟩) m cF : Value) = bl v.tF := by rw [hvF]; rfl
  have hO : w.ownsRow 0 3 1 (.slice (some ⟨gF, 0, none⟩) m cF) T.freed.dropLast.length (intC T.freed.dropLast) := by
    have h1 := H.tt.fr
    rw [hvF] at h1
    have h2 := own_take h1 (m := m) (by omega)
    have e1 : T.freed.dropLast.length = m := by rw [List.length_dropLast, hn]; rfl
    have e2 : (intC T.freed).take (m * 1) = intC T.freed.dropLast := by
      unfold intC
      rw [← List.map_take, Nat.mul_one, List.dropLast_eq_take, hn]
      rfl
    rw [e1, ← e2]
    exact h2
  have q1 := H.freed hO (fun k hk => by
    rw [hbv] at hk
    refine ⟨fun e => H.ah (by rw [← e]; simp [hk]), fun e => H.aP k e (by simp [hk]), fun e => H.aR k e (by simp [hk]), fun e => H.aC k e (by simp [hk])⟩)
  obtain ⟨q2, t2⟩ := q1.page hv x hxl (some Pd.page1) (a := .int .i64 1) (b := .string ⟨#[]⟩) (c := .bool false) rfl
  obtain ⟨q3, t3⟩ := q2.touch hv2 x
  obtain ⟨q4, t4⟩ := q3.mark
  have hA : alA T cnt = { T with pgs := T.pgs.set x (some Pd.page1), freed := T.freed.dropLast } := by
    unfold alA
    rw [if_pos hR]
    unfold Pd.Ab.alloc
    rw [if_neg hne, hlast]
  have hfoot : ∀ k, k ∈ rT h { v with tF := .slice (some ⟨gF, 0, none⟩) m cF } ↔ k ∈ rT h v := fun k => by
    unfold rT rS
    show k ∈ _ ++ (bl v.tP ++ bl (.slice (some ⟨gF, 0, none⟩) m cF : Value) ++ bl v.tR ++ bl v.tc) ↔ _
    rw [hbv]
  refine ⟨q1, ?_, ?_, hI, hR, hxl⟩
  · unfold alK alB
    rw [if_pos hR, if_pos hR, hI, hA]
    exact q4
  · refine ⟨((Chg.setCell w h 7 _).mono (fun k hk => by rw [List.mem_singleton.1 hk]; exact rT_h)).trans (((t2.chg.mono (fun k hk => (hfoot k).1 hk)).trans (t3.chg.mono (fun k hk => (hfoot k).1 hk))).trans (t4.chg.mono (fun k hk => (hfoot k).1 hk))), fun k hk => .inl ((hfoot k).1 hk)⟩
/- a page that is new -/
theorem alloc_new (H : RO w h cnt log v S T tb mk sp) (hok : T.Ok cnt) {g2 cap2 : Nat} (hv2 : v.tc = .slice (some ⟨g2, 0, none⟩) (cnt + 1) cap2) (hf : T.freed = []) (hl : T.pgs.length < cnt) :
    ∃ v3 w3, (∀ ty, (Builtin.append_ #[36, 36] ty #[v.tP, .slice (some ⟨w.heap.size, 0, none⟩) 1 1]).run Tryz.prog (w.alloc (.cells #[.int .i64 1, .string ⟨#[]⟩, .bool false] 83)) = .ok v3 w3) ∧ (∃ a c, v3 = .slice a (T.pgs.length + 1) c) ∧
      w3.heap[h]? = some (.cells (rdA cnt log v true mk sp) 41 (0, 0)) ∧ w3.ownsRow 0 4 1 v.tc (cnt + 1) (tb.map Value.bool) ∧
      RO (((w3.setCell ⟨h, 6, none⟩ v3).setCell ⟨g2, T.pgs.length, none⟩ (.bool true)).setCell ⟨h, 10, none⟩ (.bool true)) h cnt log { v with tP := v3 } S (alA T cnt) (alK T cnt tb) (alB T cnt mk) sp ∧ Turn (rT h v) (rT h { v with tP := v3 }) w (((w3.setCell ⟨h, 6, none⟩ v3).setCell ⟨g2, T.pgs.length, none⟩ (.bool true)).setCell ⟨h, 10, none⟩ (.bool true)) ∧ alI T cnt = T.pgs.length ∧ alR T cnt = 0 := by
  have hR : alR T cnt = 0 := by unfold alR; rw [if_neg (fun e => by omega)]
  have hI : alI T cnt = T.pgs.length := by
    unfold alI
    rw [if_pos hR]
    unfold Pd.Ab.allocI
    rw [if_pos hf]
  have hA : alA T cnt = { T with pgs := T.pgs ++ [some Pd.page1] } := by
    unfold alA
    rw [if_pos hR]
    unfold Pd.Ab.alloc
    rw [if_pos hf]
  have hms := hok.small
  have hlt := H.lt
  have s1 : (w.alloc (.cells #[.int .i64 1, .string ⟨#[]⟩, .bool false] 83)).heap.size = w.heap.size + 1 := by simp
  have q1 := H.below ((Below.refl _ w).alloc (Nat.le_refl _) (.cells #[.int .i64 1, .string ⟨#[]⟩, .bool false] 83))
  obtain ⟨v3, w3, hr, hO, hG, hv3⟩ := app_pg (w.alloc (.cells #[.int .i64 1, .string ⟨#[]⟩, .bool false] 83)) 0 v.tP T.pgs (some Pd.page1) w.heap.size q1.tt.pg (by omega) (Nat.zero_le _) (heap_alloc_new w _)
  rw [s1] at hv3
  have c3 : Chg v.tP.ownBlock.toList (w.alloc (.cells #[.int .i64 1, .string ⟨#[]⟩, .bool false] 83)) w3 := Chg.grown hG
  have hs3 := hG.size
  rw [s1] at hs3
  have hb3 : ∀ k, k < w.heap.size → k ∉ bl v.tP → w3.heap[k]? = w.heap[k]? := fun k h1 h2 => by
    rw [c3.block k (by omega) h2]
    exact Below.heap_alloc _ _ _ h1
  have hah := H.ah
  simp only [List.mem_append, not_or] at hah
  obtain ⟨⟨⟨⟨⟨⟨n1, n2⟩, n3⟩, n4⟩, n5⟩, n6⟩, n7⟩ := hah
  have nP : ∀ k ∈ bl v.sP ++ bl v.sF ++ bl v.sR ++ bl v.tF ++ bl v.tR ++ bl v.tc, k ∉ bl v.tP := fun k hk hm => H.aP k hm hk
  have hrow := (hb3 h H.hlt n4).trans H.row
  have htc := own_keep H.tc (fun k hk => hb3 k (H.tc.lt k hk).2 (nP k (by simp [mem_bl, hk])))
  have hb6 : ∀ k, k < w.heap.size → k ≠ h → k ∉ bl v.tP → (w3.setCell ⟨h, 6, none⟩ v3).heap[k]? = w.heap[k]? := fun k h1 h2 h3 => by
    rw [heap_setCell_other _ _ _ _ (fun e => h2 e)]
    exact hb3 k h1 h3
  have b3 : ∀ k ∈ bl v3, k ∈ bl v.tP ∨ k = w.heap.size + 1 := fun k hk => by
    rcases hv3 with e | e
    · exact .inl (by unfold bl at hk ⊢; rw [← e]; exact hk)
    · exact .inr (by have := mem_bl.1 hk; rw [e] at this; exact (Option.some.inj this).symm)
  have hl3 : ∀ k ∈ bl v3, k ≠ h := fun k hk e => by
    rcases b3 k hk with q | q
    · exact n4 (by rw [← e]; exact q)
    · have := H.hlt; omega
  have q6 : RO (w3.setCell ⟨h, 6, none⟩ v3) h cnt log { v with tP := v3 } S { T with pgs := T.pgs ++ [some Pd.page1] } tb mk sp := by
    refine ⟨(heap_setCell_same w3 h 6 _ _ v3 hrow).trans rfl, H.st.keep (fun k hk => ?_), ⟨own_keep hO (fun k hk => heap_setCell_other _ _ _ _ (fun e => hl3 k (mem_bl.2 hk) e)), own_keep H.tt.fr (fun k hk => hb6 k (H.tt.fr.lt k hk).2 (fun e => n5 (by rw [← e]; exact mem_bl.2 hk)) (nP k (by simp [mem_bl, hk]))), own_keep H.tt.rt (fun k hk => hb6 k (H.tt.rt.lt k hk).2 (fun e => n6 (by rw [← e]; exact mem_bl.2 hk)) (nP k (by simp [mem_bl, hk])))⟩, own_keep H.tc (fun k hk => hb6 k (H.tc.lt k hk).2 (fun e => n7 (by rw [← e]; exact mem_bl.2 hk)) (nP k (by simp [mem_bl, hk]))), ?_, fun k hk hm => ?_, fun k hk hm => ?_, fun k hk hm => ?_⟩
    · refine hb6 k (H.st.lt k hk) (fun e => ?_) (nP k ?_)
      · subst e
        simp only [List.mem_append] at hk
        rcases hk with (hk | hk) | hk
        · exact n1 hk
        · exact n2 hk
        · exact n3 hk
      · simp only [List.mem_append] at hk ⊢
        rcases hk with (hk | hk) | hk <;> simp [hk]
    · intro hm
      simp only [List.mem_append] at hm
      rcases hm with (((((hm | hm) | hm) | hm) | hm) | hm) | hm
      · exact n1 hm
      · exact n2 hm
      · exact n3 hm
      · exact hl3 h hm rfl
      · exact n5 hm
      · exact n6 hm
      · exact n7 hm
    · have hm : k ∈ bl v.sP ++ bl v.sF ++ bl v.sR ++ bl v.tF ++ bl v.tR ++ bl v.tc := hm
      rcases b3 k hk with q | q
      · exact H.aP k q hm
      · have : k ∈ rT h v := by
          unfold rT rS
          simp only [List.mem_append, List.mem_cons] at hm ⊢
          rcases hm with ((((hm | hm) | hm) | hm) | hm) | hm <;> simp [hm]
        have := hlt k this
        omega
    · have q := H.aR k hk
      simp only [List.mem_append, not_or] at q hm
      rcases hm with ((((hm | hm) | hm) | hm) | hm) | hm
      · exact q.1.1.1.1.1 hm
      · exact q.1.1.1.1.2 hm
      · exact q.1.1.1.2 hm
      · rcases b3 k hm with e | e
        · exact q.1.1.2 e
        · have := hlt k (rT_R hk); omega
      · exact q.1.2 hm
      · exact q.2 hm
    · have q := H.aC k hk
      simp only [List.mem_append, not_or] at q hm
      rcases hm with ((((hm | hm) | hm) | hm) | hm) | hm
      · exact q.1.1.1.1.1 hm
      · exact q.1.1.1.1.2 hm
      · exact q.1.1.1.2 hm
      · rcases b3 k hm with e | e
        · exact q.1.1.2 e
        · have := hlt k (rT_C hk); omega
      · exact q.1.2 hm
      · exact q.2 hm
  obtain ⟨q7, t7⟩ := q6.touch hv2 T.pgs.length
  obtain ⟨q8, t8⟩ := q7.mark
  refine ⟨v3, w3, hr, ?_, hrow, htc, ?_, ?_, hI, hR⟩
  · obtain ⟨a, c, e⟩ := own_slice hO
    exact ⟨a, c, by rw [e]; simp⟩
  · unfold alK alB
    rw [if_pos hR, if_pos hR, hI, hA]
    exact q8
  · have hfoot : ∀ k, k ∈ rT h { v with tP := v3 } → k ∈ rT h v ∨ w.heap.size ≤ k := fun k hk => by
      unfold rT rS at hk
      simp only [List.mem_append, List.mem_cons] at hk
      rcases hk with (hk | (hk | hk) | hk) | ((hk | hk) | hk) | hk
      · rw [hk]; exact .inl rT_h
      · exact .inl (rT_S (by unfold rS; simp [hk]))
      · exact .inl (rT_S (by unfold rS; simp [hk]))
      · exact .inl (rT_S (by unfold rS; simp [hk]))
      · rcases b3 k hk with e | e
        · exact .inl (rT_P e)
        · exact .inr (by omega)
      · exact .inl (rT_F hk)
      · exact .inl (rT_R hk)
      · exact .inl (rT_C hk)
    have ch1 : Chg (bl v.tP ++ [h] ++ rT h { v with tP := v3 }) w (((w3.setCell ⟨h, 6, none⟩ v3).setCell ⟨g2, T.pgs.length, none⟩ (.bool true)).setCell ⟨h, 10, none⟩ (.bool true)) := by
      refine ((Chg.alloc _ w (.cells #[.int .i64 1, .string ⟨#[]⟩, .bool false] 83)).trans (c3.mono ?_)).trans (((Chg.setCell w3 h 6 v3).mono ?_).trans ((t7.chg.mono ?_).trans (t8.chg.mono ?_)))
      · intro k hk; exact List.mem_append_left _ (List.mem_append_left _ hk)
      · intro k hk; simp at hk; simp [hk]
      · intro k hk; simp [hk]
      · intro k hk; simp [hk]
    refine rturn ch1 (fun k hm hk => ?_) hfoot
    simp only [List.mem_append] at hm
    rcases hm with (hm | hm) | hm
    · exact rT_P hm
    · rw [List.mem_singleton.1 hm]; exact rT_h
    · rcases hfoot k hm with e | e
      · exact e
      · omega
end
end Go.Proofs.YtcfninpokngmlaaGreatDoor
/- Proved: Alloc and New of the document's database, walked (stage 10). -/
namespace Go.Proofs.YtcfninpokngmlaaGreatDoor
open Go.RowKit
section
variable {w w' : World} {h cnt log : Nat} {v : Rv} {S T : Pd.Ab} {tb : List Bool} {mk sp : Bool}
set_option maxHeartbeats 4000000 in
set_option maxRecDepth 20000 in
theorem ralloc_any (H : RO w h cnt log v S T tb mk sp) (hok : T.Ok cnt) : Calls Tryz.prog 44 #[ptr h] w fun e w' => e = .returned (.tuple #[.int .i64 (alI T cnt : Int), .int .i64 (alR T cnt)]) ∧ ∃ v', RO w' h cnt log v' S (alA T cnt) (alK T cnt tb) (alB T cnt mk) sp ∧ Turn (rT h v) (rT h v') w w' := by
  have hpos := hok.pos
  have hm := hok.most
  have hms := hok.small
  have hfl := hok.free_lt
  have c0 := H.c0
  have c5 := H.c5
  have c6 := H.c6
  have c7 := H.c7
  have c9 := H.c9
  have c10 := H.c10
  have fz := H.fz
  obtain ⟨g, cap, hv, _, _, _, hc⟩ := pg_cells H.tt.pg hpos
  obtain ⟨g2, cap2, hv2, hl2, hc2⟩ := bool_cells H.tc (by omega)
  rw [hv] at c6
  rw [hv2] at c9
  have hgP : g ∈ bl v.tP := by rw [hv]; exact mem_bl.2 rfl
  have hgC : g2 ∈ bl v.tc := by rw [hv2]; exact mem_bl.2 rfl
  have m1 : ¬ h = g := fun e => H.ah (by rw [e]; simp [hgP])
  have m2 : ¬ g = h := fun e => m1 e.symm
  have m3 : ¬ g = g2 := fun e => H.aP g hgP (by rw [e]; simp [hgC])
  have m4 : ¬ g2 = g := fun e => m3 e.symm
  have m5 : ¬ h = g2 := fun e => H.ah (by rw [e]; simp [hgC])
  have m6 : ¬ g2 = h := fun e => m5 e.symm
  by_cases hf : T.freed = []
  · obtain ⟨aF, cF, hvF⟩ := own_slice H.tt.fr
    have hf0 : T.freed.length = 0 := by rw [hf]; rfl
    rw [hvF, hf0] at c7
    by_cases hl : T.pgs.length = cnt
    · have hR : alR T cnt = 7 := by unfold alR; rw [if_pos ⟨hf, by omega⟩]
      have HFN : Hid (Ending.returned (.tuple #[.int .i64 0, .int .i64 7]) = .returned (.tuple #[.int .i64 (alI T cnt : Int), .int .i64 (alR T cnt)]) ∧ ∃ v', RO w h cnt log v' S (alA T cnt) (alK T cnt tb) (alB T cnt mk) sp ∧ Turn (rT h v) (rT h v') w w) := by
        have n0 : ¬ alR T cnt = 0 := by rw [hR]; decide
        unfold alI alA alK alB
        rw [if_neg n0, if_neg n0, if_neg n0, if_neg n0, hR]
        exact ⟨rfl, v, H, Turn.refl _ _⟩
      have d1 : ((T.pgs.length : Int) == (cnt : Int)) = true := by simp [hl]
      have d2 : decide ((T.pgs.length : Int) = (cnt : Int)) = true := by simp [hl]
      generalize T.pgs.length = PL at *
      clear H hok hc hc2 hl hR hf hvF hv hv2 hl2 hf0
      subst_vars
      unfold ptr at *
      go_enter Tryz.func44, Tryz.ntmps44
      go_wp2
      go_ret2
      exact HFN.out
    · obtain ⟨v3, w3, hr, ⟨a3, b3, e3⟩, hrow, htc, q8, hT, hI, hR⟩ := alloc_new H hok hv2 hf (by omega)
      have HFN : Hid (Ending.returned (.tuple #[.int .i64 (T.pgs.length : Int), .int .i64 0]) = .returned (.tuple #[.int .i64 (alI T cnt : Int), .int .i64 (alR T cnt)]) ∧ ∃ v', RO (((w3.setCell ⟨h, 6, none⟩ v3).setCell ⟨g2, T.pgs.length, none⟩ (.bool true)).setCell ⟨h, 10, none⟩ (.bool true)) h cnt log v' S (alA T cnt) (alK T cnt tb) (alB T cnt mk) sp ∧ Turn (rT h v) (rT h v') w (((w3.setCell ⟨h, 6, none⟩ v3).setCell ⟨g2, T.pgs.length, none⟩ (.bool true)).setCell ⟨h, 10, none⟩ (.bool true))) := by
        rw [hI, hR]
        exact ⟨rfl, _, q8, hT⟩
      have d1 : ((T.pgs.length : Int) == (cnt : Int)) = false := by simp; omega
      have d2 : decide ((T.pgs.length : Int) = (cnt : Int)) = false := decide_eq_false (by omega)
      have d3 : ¬ (T.pgs.length : Int) = (cnt : Int) := by omega
      have u6 : w3.cell? ⟨h, 6, none⟩ = some v.tP := (cell_of_row w3 h 6 _ _ (0, 0) hrow).trans rfl
      have u9 : w3.cell? ⟨h, 9, none⟩ = some v.tc := (cell_of_row w3 h 9 _ _ (0, 0) hrow).trans rfl
      have u10 : w3.cell? ⟨h, 10, none⟩ = some (.bool mk) := (cell_of_row w3 h 10 _ _ (0, 0) hrow).trans rfl
      have uz : ∀ i, w3.frozen? ⟨h, i, none⟩ = false := fun i => frozen_of_row w3 h i _ _ hrow
      rw [hv] at u6 hr
      rw [hv2] at u9 htc
      obtain ⟨g', cap', hv', _, hc'⟩ := bool_cells htc (by omega)
      cases hv'
      obtain ⟨t0, ht0⟩ : ∃ t, tb[T.pgs.length]? = some t := ⟨_, List.getElem?_eq_getElem (by omega)⟩
      have u3 := hc' _ t0 ht0
      have uz3 := own_frozen htc T.pgs.length
      have k0 : (0 : Int) ≤ (T.pgs.length : Int) := by omega
      have k2 : (T.pgs.length : Int) < ((cnt + 1 : Nat) : Int) := by omega
      obtain ⟨N1, hN1⟩ : ∃ N, cnt + 1 = N := ⟨_, rfl⟩
      rw [hN1] at u9 k2 c9
      subst e3
      have HR := (show Hid _ from hr)
      clear H hok hc hc2 hc' hl hR hf hvF hl2 hf0 hr hrow htc q8 hT hI ht0 hN1 hgP hgC
      try clear hv
      try clear hv2
      generalize T.pgs.length + 1 = np at *
      unfold ptr at *
      go_enter Tryz.func44, Tryz.ntmps44
      go_wp2_with (at_builtin; refine wpList_run_append rfl _ _ 36 rfl _ _ _ w3 rfl rfl HR.out ?_)
      go_ret2
      exact HFN.out
  · have hn0 : 0 < T.freed.length := List.length_pos_iff.2 hf
    obtain ⟨gF, cF, hvF, _, _, _, hcF⟩ := int_cells H.tt.fr rfl hn0
    obtain ⟨m, hmn⟩ : ∃ m, T.freed.length = m + 1 := ⟨T.freed.length - 1, by omega⟩
    obtain ⟨x, hx⟩ : ∃ x, T.freed[m]? = some x := ⟨_, List.getElem?_eq_getElem (by omega)⟩
    obtain ⟨q1, q8, hT, hI, hR, hxl⟩ := alloc_old H hok hv hv2 hvF m x hmn hx
    have HFN : Hid (Ending.returned (.tuple #[.int .i64 (x : Int), .int .i64 0]) = .returned (.tuple #[.int .i64 (alI T cnt : Int), .int .i64 (alR T cnt)]) ∧ ∃ v', RO (((pg1 (w.setCell ⟨h, 7, none⟩ (.slice (some ⟨gF, 0, none⟩) m cF)) g x).setCell ⟨g2, x, none⟩ (.bool true)).setCell ⟨h, 10, none⟩ (.bool true)) h cnt log v' S (alA T cnt) (alK T cnt tb) (alB T cnt mk) sp ∧ Turn (rT h v) (rT h v') w (((pg1 (w.setCell ⟨h, 7, none⟩ (.slice (some ⟨gF, 0, none⟩) m cF)) g x).setCell ⟨g2, x, none⟩ (.bool true)).setCell ⟨h, 10, none⟩ (.bool true))) := by
      rw [hI, hR]
      exact ⟨rfl, _, q8, hT⟩
    unfold pg1 at HFN
    have pF := hcF m x hx
    rw [hvF] at c7
    obtain ⟨o, ho⟩ : ∃ o, T.pgs[x]? = some o := ⟨_, List.getElem?_eq_getElem hxl⟩
    obtain ⟨x0, x1, x2, hxo⟩ := pgC_three o
    have p0 : w.cell? ⟨g, x * 3, none⟩ = some (.int .i64 (x0 : Int)) := hc x _ 0 _ ho (by rw [hxo]; rfl)
    have p1 : w.cell? ⟨g, x * 3 + 1, none⟩ = some (.string x1) := hc x _ 1 _ ho (by rw [hxo]; rfl)
    have p2 : w.cell? ⟨g, x * 3 + 2, none⟩ = some (.bool x2) := hc x _ 2 _ ho (by rw [hxo]; rfl)
    have hpg := H.tt.pg
    rw [hv] at hpg
    have htc := H.tc
    rw [hv2] at htc
    have z0 := own_frozen hpg (x * 3)
    have z1 := own_frozen hpg (x * 3 + 1)
    have z2 := own_frozen hpg (x * 3 + 2)
    have z3 := own_frozen htc x
    obtain ⟨t0, ht0⟩ : ∃ t, tb[x]? = some t := ⟨_, List.getElem?_eq_getElem (by omega)⟩
    have p3 := hc2 x t0 ht0
    obtain ⟨L, hL⟩ : ∃ L, T.freed.length = L := ⟨_, rfl⟩
    rw [hL] at c7 hmn
    have hq1 : (L : Int) - 1 = (m : Int) := by omega
    have d1 : decide ((0 : Int) < (L : Int)) = true := decide_eq_true (by omega)
    have k0 : (0 : Int) ≤ (m : Int) := by omega
    have k1 : (m : Int) < (L : Int) := by omega
    have k1b : (m : Int) ≤ (L : Int) := by omega
    have k3 : (0 : Int) ≤ (x : Int) := by omega
    have k4 : (x : Int) < (T.pgs.length : Int) := by omega
    have k5 : (x : Int) < ((cnt + 1 : Nat) : Int) := by omega
    have hLm : L ≤ 1000 := by omega
    obtain ⟨N1, hN1⟩ : ∃ N, cnt + 1 = N := ⟨_, rfl⟩
    rw [hN1] at c9 k5
    have hmc : m ≤ cF := by
      have h1 := H.tt.fr
      rw [hvF] at h1
      rcases h1.2 with ⟨e, _⟩ | ⟨_, _, _, e, _, _, e2, _⟩
      · cases e
      · cases e; omega
    have k6 : (m : Int) ≤ (cF : Int) := by omega
    clear H hok hc hc2 hR hf hl2 q1 q8 hT hI ht0 hN1 hgP hgC hpg htc ho hxo hx hL hmn hcF hn0
    try clear hv
    try clear hv2
    try clear hvF
    unfold ptr at *
    go_enter Tryz.func44, Tryz.ntmps44
    go_wp2
    go_ret2
    exact HFN.out
/- New -/
def rv0 (w : World) : Rv := ⟨.slice (some ⟨w.heap.size, 0, none⟩) 1 1, .slice none 0 0, .slice (some ⟨w.heap.size + 1, 0, none⟩) 4 4, .slice none 0 0, .slice none 0 0, .slice none 0 0, .slice none 0 0⟩
theorem new_worlds (w : World) (cnt log : Nat) : RC (((w.alloc (.cells #[.int .i64 0, .string ⟨#[]⟩, .bool false] 83)).alloc (.cells #[.int .i64 0, .int .i64 0, .int .i64 0, .int .i64 0] 3)).alloc (.cells (rdA cnt log (rv0 w) false false false) 41)) (w.heap.size + 1 + 1) cnt log (rv0 w) Pd.Ab.init false false ∧ Below w.heap.size w (((w.alloc (.cells #[.int .i64 0, .string ⟨#[]⟩, .bool false] 83)).alloc (.cells #[.int .i64 0, .int .i64 0, .int .i64 0, .int .i64 0] 3)).alloc (.cells (rdA cnt log (rv0 w) false false false) 41)) ∧ ∀ k ∈ rS (w.heap.size + 1 + 1) (rv0 w), w.heap.size ≤ k := by
  have s1 : (w.alloc (.cells #[.int .i64 0, .string ⟨#[]⟩, .bool false] 83)).heap.size = w.heap.size + 1 := by simp
  have s2 : ((w.alloc (.cells #[.int .i64 0, .string ⟨#[]⟩, .bool false] 83)).alloc (.cells #[.int .i64 0, .int .i64 0, .int .i64 0, .int .i64 0] 3)).heap.size = w.heap.size + 1 + 1 := by simp
  have h1 := heap_alloc_new w (.cells #[.int .i64 0, .string ⟨#[]⟩, .bool false] 83)
  have h2 := heap_alloc_new (w.alloc (.cells #[.int .i64 0, .string ⟨#[]⟩, .bool false] 83)) (.cells #[.int .i64 0, .int .i64 0, .int .i64 0, .int .i64 0] 3)
  have h3 := heap_alloc_new ((w.alloc (.cells #[.int .i64 0, .string ⟨#[]⟩, .bool false] 83)).alloc (.cells #[.int .i64 0, .int .i64 0, .int .i64 0, .int .i64 0] 3)) (.cells (rdA cnt log (rv0 w) false false false) 41)
  rw [s1] at h2
  rw [s2] at h3
  have bP : ∀ k ∈ bl (rv0 w).sP, k = w.heap.size := fun k hk => (Option.some.inj (mem_bl.1 hk)).symm
  have bF : ∀ k ∈ bl (rv0 w).sF, False := fun k hk => nomatch (mem_bl.1 hk)
  have bR : ∀ k ∈ bl (rv0 w).sR, k = w.heap.size + 1 := fun k hk => (Option.some.inj (mem_bl.1 hk)).symm
  refine ⟨⟨h3, ⟨⟨rfl, .inr ⟨w.heap.size, 1, #[.int .i64 0, .string ⟨#[]⟩, .bool false], rfl, Nat.zero_le _, ?_, Nat.le_refl _, by unfold maxLen; omega, rfl, rfl⟩⟩, ⟨rfl, .inl ⟨rfl, rfl⟩⟩, ⟨rfl, .inr ⟨w.heap.size + 1, 4, #[.int .i64 0, .int .i64 0, .int .i64 0, .int .i64 0], rfl, Nat.zero_le _, ?_, Nat.le_refl _, by unfold maxLen; omega, rfl, rfl⟩⟩⟩, fun hm => ?_, ⟨none, 0, 0, rfl, by omega⟩⟩, (((Below.refl _ w).alloc (Nat.le_refl _) _).alloc (by rw [s1]; omega) _).alloc (by rw [s2]; omega) _, fun k hk => ?_⟩
  · rw [Below.heap_alloc _ _ _ (by rw [s2]; omega), Below.heap_alloc _ _ _ (by rw [s1]; omega)]
    exact h1
  · rw [Below.heap_alloc _ _ _ (by rw [s2]; omega)]
    exact h2
  · simp only [List.mem_append] at hm
    rcases hm with (hm | hm) | hm
    · have := bP _ hm; omega
    · exact bF _ hm
    · have := bR _ hm; omega
  · unfold rS at hk
    simp only [List.mem_append, List.mem_cons] at hk
    rcases hk with hk | (hk | hk) | hk
    · omega
    · have := bP _ hk; omega
    · exact absurd hk (fun e => bF _ e)
    · have := bR _ hk; omega
set_option maxHeartbeats 1000000 in
theorem rnew_any (w : World) (cnt log : Nat) : Calls Tryz.prog 40 #[.int .i64 (cnt : Int), .int .i64 (log : Int)] w fun e w' => ∃ h v, e = .returned (ptr h) ∧ RC w' h cnt log v Pd.Ab.init false false ∧ Below w.heap.size w w' ∧ ∀ k ∈ rS h v, w.heap.size ≤ k := by
  have HF := (show Hid _ from new_worlds w cnt log)
  unfold rdA rv0 at HF
  go_enter Tryz.func40, Tryz.ntmps40
  go_wp2
  go_ret
  exact ⟨w.heap.size + 1 + 1, rfl, rv0 w, HF.out.1, HF.out.2.1, HF.out.2.2⟩
end
end Go.Proofs.YtcfninpokngmlaaGreatDoor
