/- Proved: what the document's comparison of two states answers (the document's Same; stage 10). -/
import Derived.Test.YtcfninpokngmlaaGreatDoorJLStay
namespace Go.Proofs.YtcfninpokngmlaaGreatDoor
open Go.RowKit
theorem int_cells {w : World} {B : Nat} {v : Value} {l : List Nat} {n : Nat} (h : w.ownsRow B 3 1 v n (intC l)) (hn : n = l.length) (h0 : 0 < n) : ∃ g cap, v = .slice (some ⟨g, 0, none⟩) n cap ∧ n ≤ cap ∧ B ≤ g ∧ g < w.heap.size ∧ ∀ (j x : Nat), l[j]? = some x → w.cell? ⟨g, j, none⟩ = some (.int .i64 (x : Int)) := by
  rcases h.2 with ⟨_, h1⟩ | ⟨g, cap, cur, rfl, hg, hb, h1, h2, h3, h4⟩
  · omega
  · refine ⟨g, cap, rfl, h1, hg, (Array.getElem?_eq_some_iff.1 hb).1, fun j x hj => ?_⟩
    have hjl := (List.getElem?_eq_some_iff.1 hj).1
    have hfm : (intC l)[j]? = some (.int .i64 (x : Int)) := by
      show (l.map _)[j]? = _
      rw [List.getElem?_map, hj]
      rfl
    rw [← h4, List.getElem?_take_of_lt (by omega)] at hfm
    rw [cell_of_row w g _ _ _ (0, 0) hb, ← Array.getElem?_toList]
    exact hfm
/- a page's three cells -/
theorem pgC_three (o : Option Pd.Sheet) : ∃ (k : Nat) (b : ByteArray) (f : Bool), pgC o = [.int .i64 (k : Int), .string b, .bool f] := by
  cases o with
  | none => exact ⟨0, ⟨#[]⟩, true, rfl⟩
  | some x => exact ⟨x.kind, x.body, false, rfl⟩
/- two boxes of states -/
structure Two (w w2 : World) (a b : Nat) (p p' : Value) (f f' r r' : Value) (S S' : Pd.Ab) : Prop where
  bel : Below w.heap.size w w2
  ca : w2.heap[a]? = some (.cells #[p, f, r] 39 (0, 0))
  cb : w2.heap[b]? = some (.cells #[p', f', r'] 39 (0, 0))
  sa : StO w2 0 p f r S
  sb : StO w2 0 p' f' r' S'
theorem StO.below {w w' : World} {B : Nat} {p f r : Value} {S : Pd.Ab} (h : StO w B p f r S) (hB : Below w.heap.size w w') : StO w' B p f r S := ⟨own_below h.pg hB, own_below h.fr hB, own_below h.rt hB⟩
theorem StO.zero {w : World} {B : Nat} {p f r : Value} {S : Pd.Ab} (h : StO w B p f r S) : StO w 0 p f r S := ⟨own_zero h.pg, own_zero h.fr, own_zero h.rt⟩
theorem two_start {w : World} {B B' : Nat} {p p' f f' r r' : Value} {S S' : Pd.Ab} (h : StO w B p f r S) (h' : StO w B' p' f' r' S') : Two w ((w.alloc (.cells #[p, f, r] 39)).alloc (.cells #[p', f', r'] 39)) w.heap.size (w.heap.size + 1) p p' f f' r r' S S' := by
  have s1 : (w.alloc (.cells #[p, f, r] 39)).heap.size = w.heap.size + 1 := by simp
  have hB : Below w.heap.size w ((w.alloc (.cells #[p, f, r] 39)).alloc (.cells #[p', f', r'] 39)) := ((Below.refl _ w).alloc (Nat.le_refl _) _).alloc (by rw [s1]; omega) _
  have h1 := heap_alloc_new w (.cells #[p, f, r] 39)
  have h2 := heap_alloc_new (w.alloc (.cells #[p, f, r] 39)) (.cells #[p', f', r'] 39)
  rw [s1] at h2
  refine ⟨hB, ?_, h2, (h.below hB).zero, (h'.below hB).zero⟩
  rw [Below.heap_alloc _ _ _ (by rw [s1]; omega)]
  exact h1
theorem Two.cells {w w2 : World} {a b : Nat} {p p' f f' r r' : Value} {S S' : Pd.Ab} (h : Two w w2 a b p p' f f' r r' S S') : (w2.cell? ⟨a, 0, none⟩ = some p ∧ w2.cell? ⟨a, 1, none⟩ = some f ∧ w2.cell? ⟨a, 2, none⟩ = some r) ∧ (w2.cell? ⟨b, 0, none⟩ = some p' ∧ w2.cell? ⟨b, 1, none⟩ = some f' ∧ w2.cell? ⟨b, 2, none⟩ = some r') :=
  ⟨⟨(cell_of_row w2 a 0 _ _ (0, 0) h.ca).trans rfl, (cell_of_row w2 a 1 _ _ (0, 0) h.ca).trans rfl, (cell_of_row w2 a 2 _ _ (0, 0) h.ca).trans rfl⟩, (cell_of_row w2 b 0 _ _ (0, 0) h.cb).trans rfl, (cell_of_row w2 b 1 _ _ (0, 0) h.cb).trans rfl, (cell_of_row w2 b 2 _ _ (0, 0) h.cb).trans rfl⟩
theorem Two.drew {w w2 : World} {a b : Nat} {p p' f f' r r' : Value} {S S' : Pd.Ab} (h : Two w w2 a b p p' f f' r r' S S') (n : Nat) : Two w (w2.drewN n) a b p p' f f' r r' S S' := by
  have hB : Below w2.heap.size w2 (w2.drewN n) := ⟨rfl, rfl, rfl, Nat.le_refl _, fun _ _ => rfl⟩
  exact ⟨h.bel.trans (hB.mono h.bel.size), h.ca, h.cb, h.sa.below hB, h.sb.below hB⟩
theorem Two.pcell {w w2 : World} {a b gP n cP : Nat} {p' f f' r r' : Value} {S S' : Pd.Ab} (h : Two w w2 a b (.slice (some ⟨gP, 0, none⟩) n cP) p' f f' r r' S S') (h0 : 0 < S.pgs.length) (j : Nat) (o : Option Pd.Sheet) (hj : S.pgs[j]? = some o) (i : Nat) (u : Value) (hi : (pgC o)[i]? = some u) : w2.cell? ⟨gP, j * 3 + i, none⟩ = some u := by
  obtain ⟨g, c, e, _, _, _, hc⟩ := pg_cells h.sa.pg h0
  cases e
  exact hc j o i u hj hi
theorem Two.qcell {w w2 : World} {a b gP n cP : Nat} {p f f' r r' : Value} {S S' : Pd.Ab} (h : Two w w2 a b p (.slice (some ⟨gP, 0, none⟩) n cP) f f' r r' S S') (h0 : 0 < S'.pgs.length) (j : Nat) (o : Option Pd.Sheet) (hj : S'.pgs[j]? = some o) (i : Nat) (u : Value) (hi : (pgC o)[i]? = some u) : w2.cell? ⟨gP, j * 3 + i, none⟩ = some u := by
  obtain ⟨g, c, e, _, _, _, hc⟩ := pg_cells h.sb.pg h0
  cases e
  exact hc j o i u hj hi
/- beside a state, drawn orders do nothing -/
theorem drew_below (w w2 : World) (n : Nat) (h : Below w.heap.size w w2) : Below w.heap.size w (w2.drewN n) := by
  have hB : Below w2.heap.size w2 (w2.drewN n) := ⟨rfl, rfl, rfl, Nat.le_refl _, fun _ _ => rfl⟩
  exact h.trans (hB.mono h.size)
set_option maxHeartbeats 8000000 in
set_option maxRecDepth 20000 in
theorem rsame_any (B B' : Nat) (p p' f f' r r' : Value) (S S' : Pd.Ab) (w : World) (h : StO w B p f r S) (h' : StO w B' p' f' r' S') (hpos : 0 < S.pgs.length) (hmx : S.pgs.length ≤ 1000) (hmf : S.freed.length ≤ 1000) (hpos' : 0 < S'.pgs.length) :
    Calls Tryz.prog 19 #[.agg #[p, f, r], .agg #[p', f', r']] w fun e w' => (∃ q : Bool, e = .returned (.bool q) ∧ (S = S' → q = true)) ∧ Below w.heap.size w w' := by
  have HW : Hid (Two w ((w.alloc (.cells #[p, f, r] 39)).alloc (.cells #[p', f', r'] 39)) w.heap.size (w.heap.size + 1) p p' f f' r r' S S') := two_start h h'
  obtain ⟨gP, cP, hp, hcP, _, _, _⟩ := pg_cells h.pg hpos
  obtain ⟨gQ, cQ, hp', hcQ, _, _, _⟩ := pg_cells h'.pg hpos'
  obtain ⟨aF, cF, hf⟩ := own_slice h.fr
  obtain ⟨aG, cG, hf'⟩ := own_slice h'.fr
  obtain ⟨gR, cR, hr, hcR, _, _, _⟩ := int_cells h.rt rfl (by omega)
  obtain ⟨gT, cT, hr', hcT, _, _, _⟩ := int_cells h'.rt rfl (by omega)
  subst hp hp' hf hf' hr hr'
  clear h h'
  have HNE : Hid (¬ S.pgs.length = S'.pgs.length ∨ ¬ S.freed.length = S'.freed.length → ¬ S = S') := fun hh e => by rw [e] at hh; simp at hh
  by_cases hl : S.pgs.length = S'.pgs.length
  · have hb1 : ((S.pgs.length : Int) != (S'.pgs.length : Int)) = false := by simp [hl]
    by_cases hlf : S.freed.length = S'.freed.length
    · have hb2 : ((S.freed.length : Int) != (S'.freed.length : Int)) = false := by simp [hlf]
      have HL : Hid (S.pgs.length = S'.pgs.length ∧ S.freed.length = S'.freed.length) := ⟨hl, hlf⟩
      clear hl hlf HNE
      go_enter Tryz.func19, Tryz.ntmps19
      go_wp2_with fail
      generalize (w.alloc (.cells #[.slice (some ⟨gP, 0, none⟩) S.pgs.length cP, .slice aF S.freed.length cF, .slice (some ⟨gR, 0, none⟩) 4 cR] 39)).alloc (.cells #[.slice (some ⟨gQ, 0, none⟩) S'.pgs.length cQ, .slice aG S'.freed.length cG, .slice (some ⟨gT, 0, none⟩) 4 cT] 39) = w2 at *
      obtain ⟨aa, haa⟩ : ∃ aa, w.heap.size = aa := ⟨_, rfl⟩
      obtain ⟨bb, hbb⟩ : ∃ bb, w.heap.size + 1 = bb := ⟨_, rfl⟩
      rw [hbb, haa]
      rw [hbb, haa] at HW
      clear hbb haa
      go_loopw [5] (fun s5 wr => ∃ j : Nat, j ≤ S.pgs.length ∧ s5 = .int .i64 (j : Int) ∧ Two w wr aa bb (.slice (some ⟨gP, 0, none⟩) S.pgs.length cP) (.slice (some ⟨gQ, 0, none⟩) S'.pgs.length cQ) (.slice aF S.freed.length cF) (.slice aG S'.freed.length cG) (.slice (some ⟨gR, 0, none⟩) 4 cR) (.slice (some ⟨gT, 0, none⟩) 4 cT) S S') (fun s5 _ => S.pgs.length - (intOf s5).toNat)
      case atStart => exact ⟨0, by omega, rfl, HW.out⟩
      case round =>
        clear HW hb1 hb2
        obtain ⟨j, hj, rfl, hWr⟩ := hrel
        have HWr : Hid (Two w wr aa bb (.slice (some ⟨gP, 0, none⟩) S.pgs.length cP) (.slice (some ⟨gQ, 0, none⟩) S'.pgs.length cQ) (.slice aF S.freed.length cF) (.slice aG S'.freed.length cG) (.slice (some ⟨gR, 0, none⟩) 4 cR) (.slice (some ⟨gT, 0, none⟩) 4 cT) S S') := hWr
        obtain ⟨⟨ca0, ca1, ca2⟩, cb0, cb1, cb2⟩ := hWr.cells
        clear hWr
        by_cases hjl : j < S.pgs.length
        · have dk : decide ((j : Int) < (S.pgs.length : Int)) = true := decide_eq_true (by omega)
          have k0 : (0 : Int) ≤ (j : Int) := by omega
          have k1 : (j : Int) < (S.pgs.length : Int) := by omega
          have k2 : (j : Int) < (S'.pgs.length : Int) := by have := HL.out.1; omega
          obtain ⟨o, ho⟩ : ∃ o, S.pgs[j]? = some o := ⟨_, List.getElem?_eq_getElem hjl⟩
          obtain ⟨o', ho'⟩ : ∃ o, S'.pgs[j]? = some o := ⟨_, List.getElem?_eq_getElem (by have := HL.out.1; omega)⟩
          obtain ⟨x0, x1, x2, hx⟩ := pgC_three o
          obtain ⟨y0, y1, y2, hy⟩ := pgC_three o'
          have hPc := HWr.out.pcell hpos j o ho
          have hQc := HWr.out.qcell hpos' j o' ho'
          rw [hx] at hPc
          rw [hy] at hQc
          have p0 : wr.cell? ⟨gP, j * 3, none⟩ = some (.int .i64 (x0 : Int)) := hPc 0 _ rfl
          have p1 : wr.cell? ⟨gP, j * 3 + 1, none⟩ = some (.string x1) := hPc 1 _ rfl
          have p2 : wr.cell? ⟨gP, j * 3 + 2, none⟩ = some (.bool x2) := hPc 2 _ rfl
          have p3 : wr.cell? ⟨gQ, j * 3, none⟩ = some (.int .i64 (y0 : Int)) := hQc 0 _ rfl
          have p4 : wr.cell? ⟨gQ, j * 3 + 1, none⟩ = some (.string y1) := hQc 1 _ rfl
          have p5 : wr.cell? ⟨gQ, j * 3 + 2, none⟩ = some (.bool y2) := hQc 2 _ rfl
          have HNS : Hid (¬ (x0 = y0 ∧ x1 = y1 ∧ x2 = y2) → ¬ S = S') := fun hh e => by
            rw [e, ho'] at ho
            have := Option.some.inj ho
            rw [this, hx] at hy
            simp at hy
            exact hh ⟨by omega, hy.2.1, hy.2.2⟩
          clear hPc hQc hx hy ho ho'
          by_cases he : x0 = y0 ∧ x1 = y1 ∧ x2 = y2
          · obtain ⟨rfl, rfl, rfl⟩ := he
            clear HNS
            have HFN : Hid (∀ W, (∃ n, W = wr.drewN n) → ∃ j' : Nat, j' ≤ S.pgs.length ∧ Value.int .i64 ((j : Int) + 1) = .int .i64 (j' : Int) ∧ Two w W aa bb (.slice (some ⟨gP, 0, none⟩) S.pgs.length cP) (.slice (some ⟨gQ, 0, none⟩) S'.pgs.length cQ) (.slice aF S.freed.length cF) (.slice aG S'.freed.length cG) (.slice (some ⟨gR, 0, none⟩) 4 cR) (.slice (some ⟨gT, 0, none⟩) 4 cT) S S') := fun W ⟨n, hW⟩ => ⟨j + 1, by omega, by go_num, by rw [hW]; exact HWr.out.drew n⟩
            go_wp2_with fail
            go_quiet (fail)
            go_wp2
            go_roundw
            case rel => first | exact HFN.out _ ⟨_, rfl⟩ | ((repeat apply Exists.intro); exact ⟨HFN.out _ ⟨_, rfl⟩, rfl⟩)
            case measure => (simp [intOf]) <;> omega
          · have HN : Hid (¬ S = S') := HNS.out he
            have HFN : Hid (∀ n, Below w.heap.size w (wr.drewN n)) := fun n => drew_below _ _ n HWr.out.bel
            clear HNS
            have hcs : ¬ x0 = y0 ∨ (x0 = y0 ∧ ¬ x1 = y1) ∨ (x0 = y0 ∧ x1 = y1 ∧ ¬ x2 = y2) := by
              by_cases e0 : x0 = y0
              · by_cases e1 : x1 = y1
                · exact .inr (.inr ⟨e0, e1, fun e2 => he ⟨e0, e1, e2⟩⟩)
                · exact .inr (.inl ⟨e0, e1⟩)
              · exact .inl e0
            clear he
            rcases hcs with e0 | ⟨rfl, e1⟩ | ⟨rfl, rfl, e2⟩
            · have f1 : ((x0 : Int) == (y0 : Int)) = false := by simp; omega
              have f2 : decide ((x0 : Int) = (y0 : Int)) = false := decide_eq_false (by omega)
              have f3 : ¬ (x0 : Int) = (y0 : Int) := by omega
              have f4 : (x0 == y0) = false := by simp; omega
              go_wp2_with fail
              go_quiet (fail)
              go_wp2
              go_ret
              exact ⟨⟨false, rfl, fun e => absurd e HN.out⟩, HFN.out nq⟩
            · have hne := toList_ne e1
              go_wp2_with fail
              go_quiet (fail)
              go_wp2
              go_ret
              exact ⟨⟨false, rfl, fun e => absurd e HN.out⟩, HFN.out nq⟩
            · have f4 : (x2 == y2) = false := by simp [e2]
              go_wp2_with fail
              go_quiet (fail)
              go_wp2
              go_ret
              exact ⟨⟨false, rfl, fun e => absurd e HN.out⟩, HFN.out nq⟩
        · have dk : decide ((j : Int) < (S.pgs.length : Int)) = false := decide_eq_false (by omega)
          go_wp2_with fail
          clear ca0 ca1 ca2 cb0 cb1 cb2
          go_loopw [6] (fun s6 wr => ∃ i : Nat, i ≤ S.freed.length ∧ s6 = .int .i64 (i : Int) ∧ Two w wr aa bb (.slice (some ⟨gP, 0, none⟩) S.pgs.length cP) (.slice (some ⟨gQ, 0, none⟩) S'.pgs.length cQ) (.slice aF S.freed.length cF) (.slice aG S'.freed.length cG) (.slice (some ⟨gR, 0, none⟩) 4 cR) (.slice (some ⟨gT, 0, none⟩) 4 cT) S S') (fun s6 _ => S.freed.length - (intOf s6).toNat)
          case atStart => exact ⟨0, by omega, rfl, HWr.out⟩
          case round =>
            rename_i wr0 _ _
            clear HWr
            obtain ⟨i, hi, rfl, hWr⟩ := hrel
            have HWr : Hid (Two w wr aa bb (.slice (some ⟨gP, 0, none⟩) S.pgs.length cP) (.slice (some ⟨gQ, 0, none⟩) S'.pgs.length cQ) (.slice aF S.freed.length cF) (.slice aG S'.freed.length cG) (.slice (some ⟨gR, 0, none⟩) 4 cR) (.slice (some ⟨gT, 0, none⟩) 4 cT) S S') := hWr
            obtain ⟨⟨ca0, ca1, ca2⟩, cb0, cb1, cb2⟩ := hWr.cells
            clear hWr
            by_cases hil : i < S.freed.length
            · have dk2 : decide ((i : Int) < (S.freed.length : Int)) = true := decide_eq_true (by omega)
              have k0 : (0 : Int) ≤ (i : Int) := by omega
              have k1 : (i : Int) < (S.freed.length : Int) := by omega
              have k2 : (i : Int) < (S'.freed.length : Int) := by have := HL.out.2; omega
              obtain ⟨x, hx⟩ : ∃ x, S.freed[i]? = some x := ⟨_, List.getElem?_eq_getElem hil⟩
              obtain ⟨y, hy⟩ : ∃ x, S'.freed[i]? = some x := ⟨_, List.getElem?_eq_getElem (by have := HL.out.2; omega)⟩
              obtain ⟨g1, c1, e1, _, _, _, hc1⟩ := int_cells HWr.out.sa.fr rfl (by omega)
              obtain ⟨g2, c2, e2, _, _, _, hc2⟩ := int_cells HWr.out.sb.fr rfl (by have := HL.out.2; omega)
              have p0 := hc1 i x hx
              have p1 := hc2 i y hy
              have HNS : Hid (¬ x = y → ¬ S = S') := fun hh e => by
                rw [e, hy] at hx
                exact hh (Option.some.inj hx).symm
              clear hc1 hc2 hx hy
              injection e1 with e1 _ e3
              injection e2 with e2 _ e4
              subst e1 e2 e3 e4
              by_cases he : x = y
              · subst he
                clear HNS
                have HFN : Hid (∀ W, (∃ n, W = wr.drewN n) → ∃ i' : Nat, i' ≤ S.freed.length ∧ Value.int .i64 ((i : Int) + 1) = .int .i64 (i' : Int) ∧ Two w W aa bb (.slice (some ⟨gP, 0, none⟩) S.pgs.length cP) (.slice (some ⟨gQ, 0, none⟩) S'.pgs.length cQ) (.slice (some ⟨g1, 0, none⟩) S.freed.length cF) (.slice (some ⟨g2, 0, none⟩) S'.freed.length cG) (.slice (some ⟨gR, 0, none⟩) 4 cR) (.slice (some ⟨gT, 0, none⟩) 4 cT) S S') := fun W ⟨n, hW⟩ => ⟨i + 1, by omega, by go_num, by rw [hW]; exact HWr.out.drew n⟩
                go_wp2_with fail
                go_quiet (fail)
                go_wp2
                go_roundw
                case rel => first | exact HFN.out _ ⟨_, rfl⟩ | ((repeat apply Exists.intro); exact ⟨HFN.out _ ⟨_, rfl⟩, rfl⟩)
                case measure => (simp [intOf]) <;> omega
              · have HN : Hid (¬ S = S') := HNS.out he
                have HFN : Hid (∀ n, Below w.heap.size w (wr.drewN n)) := fun n => drew_below _ _ n HWr.out.bel
                clear HNS
                have f1 : ((x : Int) == (y : Int)) = false := by simp; omega
                have f2 : decide ((x : Int) = (y : Int)) = false := decide_eq_false (by omega)
                have f3 : ¬ (x : Int) = (y : Int) := by omega
                have f5 : ((x : Int) != (y : Int)) = true := by simp; omega
                go_wp2_with fail
                go_quiet (fail)
                go_wp2
                go_ret
                exact ⟨⟨false, rfl, fun e => absurd e HN.out⟩, HFN.out nq⟩
            · have dk2 : decide ((i : Int) < (S.freed.length : Int)) = false := decide_eq_false (by omega)
              go_wp2_with fail
              clear ca0 ca1 ca2 cb0 cb1 cb2
              go_loopw [7] (fun s7 wr => ∃ i : Nat, i ≤ 4 ∧ s7 = .int .i64 (i : Int) ∧ Two w wr aa bb (.slice (some ⟨gP, 0, none⟩) S.pgs.length cP) (.slice (some ⟨gQ, 0, none⟩) S'.pgs.length cQ) (.slice aF S.freed.length cF) (.slice aG S'.freed.length cG) (.slice (some ⟨gR, 0, none⟩) 4 cR) (.slice (some ⟨gT, 0, none⟩) 4 cT) S S') (fun s7 _ => 4 - (intOf s7).toNat)
              case atStart => exact ⟨0, by omega, rfl, HWr.out⟩
              case round =>
                rename_i wr1 _ _
                clear HWr
                obtain ⟨r, hr, rfl, hWr⟩ := hrel
                have HWr : Hid (Two w wr aa bb (.slice (some ⟨gP, 0, none⟩) S.pgs.length cP) (.slice (some ⟨gQ, 0, none⟩) S'.pgs.length cQ) (.slice aF S.freed.length cF) (.slice aG S'.freed.length cG) (.slice (some ⟨gR, 0, none⟩) 4 cR) (.slice (some ⟨gT, 0, none⟩) 4 cT) S S') := hWr
                obtain ⟨⟨ca0, ca1, ca2⟩, cb0, cb1, cb2⟩ := hWr.cells
                clear hWr
                by_cases hrl : r < 4
                · have dk3 : decide ((r : Int) < 4) = true := decide_eq_true (by omega)
                  have k0 : (0 : Int) ≤ (r : Int) := by omega
                  have k1 : (r : Int) < 4 := by omega
                  obtain ⟨x, hx⟩ : ∃ x, [S.r0, S.r1, S.r2, S.r3][r]? = some x := ⟨_, List.getElem?_eq_getElem hrl⟩
                  obtain ⟨y, hy⟩ : ∃ x, [S'.r0, S'.r1, S'.r2, S'.r3][r]? = some x := ⟨_, List.getElem?_eq_getElem hrl⟩
                  obtain ⟨g1, c1, e1, _, _, _, hc1⟩ := int_cells HWr.out.sa.rt rfl (by omega)
                  obtain ⟨g2, c2, e2, _, _, _, hc2⟩ := int_cells HWr.out.sb.rt rfl (by omega)
                  have p0 := hc1 r x hx
                  have p1 := hc2 r y hy
                  have HNS : Hid (¬ x = y → ¬ S = S') := fun hh e => by
                    rw [e, hy] at hx
                    exact hh (Option.some.inj hx).symm
                  clear hc1 hc2 hx hy
                  cases e1
                  cases e2
                  by_cases he : x = y
                  · subst he
                    clear HNS
                    have HFN : Hid (∀ W, (∃ n, W = wr.drewN n) → ∃ i' : Nat, i' ≤ 4 ∧ Value.int .i64 ((r : Int) + 1) = .int .i64 (i' : Int) ∧ Two w W aa bb (.slice (some ⟨gP, 0, none⟩) S.pgs.length cP) (.slice (some ⟨gQ, 0, none⟩) S'.pgs.length cQ) (.slice aF S.freed.length cF) (.slice aG S'.freed.length cG) (.slice (some ⟨gR, 0, none⟩) 4 cR) (.slice (some ⟨gT, 0, none⟩) 4 cT) S S') := fun W ⟨n, hW⟩ => ⟨r + 1, by omega, by go_num, by rw [hW]; exact HWr.out.drew n⟩
                    go_wp2_with fail
                    go_quiet (fail)
                    go_wp2
                    go_roundw
                    case rel => first | exact HFN.out _ ⟨_, rfl⟩ | ((repeat apply Exists.intro); exact ⟨HFN.out _ ⟨_, rfl⟩, rfl⟩)
                    case measure => (simp [intOf]) <;> omega
                  · have HN : Hid (¬ S = S') := HNS.out he
                    have HFN : Hid (∀ n, Below w.heap.size w (wr.drewN n)) := fun n => drew_below _ _ n HWr.out.bel
                    clear HNS
                    have f1 : ((x : Int) == (y : Int)) = false := by simp; omega
                    have f2 : decide ((x : Int) = (y : Int)) = false := decide_eq_false (by omega)
                    have f3 : ¬ (x : Int) = (y : Int) := by omega
                    have f5 : ((x : Int) != (y : Int)) = true := by simp; omega
                    go_wp2_with fail
                    go_quiet (fail)
                    go_wp2
                    go_ret
                    exact ⟨⟨false, rfl, fun e => absurd e HN.out⟩, HFN.out nq⟩
                · have dk3 : decide ((r : Int) < 4) = false := decide_eq_false (by omega)
                  have HFN : Hid (Below w.heap.size w wr) := HWr.out.bel
                  go_wp2
                  go_ret
                  exact ⟨⟨true, rfl, fun _ => rfl⟩, HFN.out⟩
    · have hb2 : ((S.freed.length : Int) != (S'.freed.length : Int)) = true := by simp; omega
      have HB : Hid (Below w.heap.size w ((w.alloc (.cells #[.slice (some ⟨gP, 0, none⟩) S.pgs.length cP, .slice aF S.freed.length cF, .slice (some ⟨gR, 0, none⟩) 4 cR] 39)).alloc (.cells #[.slice (some ⟨gQ, 0, none⟩) S'.pgs.length cQ, .slice aG S'.freed.length cG, .slice (some ⟨gT, 0, none⟩) 4 cT] 39))) := HW.out.bel
      have HN : Hid (¬ S = S') := HNE.out (.inr hlf)
      clear HNE hl hlf HW
      go_enter Tryz.func19, Tryz.ntmps19
      go_wp2
      go_ret
      exact ⟨⟨false, rfl, fun e => absurd e HN.out⟩, HB.out⟩
  · have hb1 : ((S.pgs.length : Int) != (S'.pgs.length : Int)) = true := by simp; omega
    have HB : Hid (Below w.heap.size w ((w.alloc (.cells #[.slice (some ⟨gP, 0, none⟩) S.pgs.length cP, .slice aF S.freed.length cF, .slice (some ⟨gR, 0, none⟩) 4 cR] 39)).alloc (.cells #[.slice (some ⟨gQ, 0, none⟩) S'.pgs.length cQ, .slice aG S'.freed.length cG, .slice (some ⟨gT, 0, none⟩) 4 cT] 39))) := HW.out.bel
    have HN : Hid (¬ S = S') := HNE.out (.inl hl)
    clear HNE hl HW
    go_enter Tryz.func19, Tryz.ntmps19
    go_wp2
    go_ret
    exact ⟨⟨false, rfl, fun e => absurd e HN.out⟩, HB.out⟩
end Go.Proofs.YtcfninpokngmlaaGreatDoor
