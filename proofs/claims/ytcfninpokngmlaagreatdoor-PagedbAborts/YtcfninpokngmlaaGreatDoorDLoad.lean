/- Proved: what a database's load and look tell. -/
import Derived.Test.YtcfninpokngmlaaGreatDoorDRec2
namespace Go.Proofs.YtcfninpokngmlaaGreatDoor
open Go.RowKit
/- the seven cells of a state are written -/
def st7 (w : World) (x o : Nat) (t : Pd.Stt) : World := ((((((w.setCell ⟨x, o, none⟩ (.int .i64 (t.high : Int))).setCell ⟨x, o + 1, none⟩ (.int .i64 (t.free : Int))).setCell ⟨x, o + 2, none⟩ (.int .i64 (t.last : Int))).setCell ⟨x, o + 3, none⟩ (.int .i64 (t.r0 : Int))).setCell ⟨x, o + 4, none⟩ (.int .i64 (t.r1 : Int))).setCell ⟨x, o + 5, none⟩ (.int .i64 (t.r2 : Int))).setCell ⟨x, o + 6, none⟩ (.int .i64 (t.r3 : Int))
theorem st7_cells (w : World) (x o : Nat) (t : Pd.Stt) : st7 w x o t = w.setCells x o [.int .i64 (t.high : Int), .int .i64 (t.free : Int), .int .i64 (t.last : Int), .int .i64 (t.r0 : Int), .int .i64 (t.r1 : Int), .int .i64 (t.r2 : Int), .int .i64 (t.r3 : Int)] := rfl
theorem Dbw.setSt {w : World} {A : Ad} {op : Value} {d : Pd.Db} (H : Dbw w A op d) (t : Pd.Stt) : Dbw (st7 w A.x 4 t) A op { d with st := t } ∧ Turn A.ft A.ft w (st7 w A.x 4 t) := by
  refine H.cells ?_ ?_ rfl rfl rfl
  · rw [st7_cells]
    exact Chg.setCells A.x _ _ w
  · rw [st7_cells]
    have hr := H.row
    have e : dbA A op d = [ptr A.g, ptr A.q, .int .i64 (d.n : Int), .int .i64 (d.cnt : Int), .int .i64 (d.st.high : Int), .int .i64 (d.st.free : Int), .int .i64 (d.st.last : Int), .int .i64 (d.st.r0 : Int), .int .i64 (d.st.r1 : Int), .int .i64 (d.st.r2 : Int), .int .i64 (d.st.r3 : Int), .map (some A.b), op, .bool d.lost].toArray := rfl
    rw [e] at hr
    rw [setCells_splice A.x 61 _ 4 _ w hr (by simp)]
    rfl
theorem place_open {i : Nat} {x : Pd.Sheet} (h : x.Fine) (hi : i ≤ 2147483647) (W : World) (hT : Tab W) : Calls Tryz.prog 83 #[.int .i64 (i : Int), .string (Pd.pageOf i x)] W fun e w' => e = .returned (.tuple #[.int .i64 (x.kind : Int), .string x.body, .int .i64 0]) ∧ Below W.heap.size W w' := by
  have h1 := pg_open_any (i : Int) (Pd.pageOf i x) W hT
  obtain ⟨e1, e2, e3⟩ := Pd.pageOf_open (i := i) h hi
  rw [e1, e2, e3] at h1
  exact h1
def stt1 : Pd.Stt := ⟨1, 0, 0, 0, 0, 0, 0⟩
set_option maxHeartbeats 4000000 in
set_option maxRecDepth 100000 in
theorem load_blank (A : Ad) (op : Value) (d : Pd.Db) (w : World) (H : Dbw w A op d) (hdn : d.s.down = false) (hl : d.n + 8 ≤ d.s.kept.length) (hp : Pd.plc (Wl.flat d.s) d.n 0 = Pg.blank) :
    Calls Tryz.prog 58 #[ptr A.x] w fun e w' => e = .returned (.int .i64 0) ∧ Dbw w' A op { d with st := stt1 } ∧ Turn A.ft A.ft w w' := by
  have HRD : Hid (Calls Tryz.prog 81 #[.pointer (some ⟨A.x, 0, none⟩), .int .i64 0] w fun e w' => e = .returned (.tuple #[.string Pg.blank, .int .i64 0]) ∧ Below w.heap.size w w') := by
    have := dread_any A op d 0 w H hdn (by omega) (by omega)
    rw [hp] at this
    exact this
  have HBL : Hid (∀ W, Calls Tryz.prog 82 #[.string Pg.blank] W fun e w' => e = .returned (.bool true) ∧ Below W.heap.size W w') := fun W => by
    have := blank_any Pg.blank W
    rw [decide_eq_true rfl] at this
    exact this
  have HH : Hid (Dbw w A op d) := H
  clear H hp
  generalize Pg.blank = bl at *
  unfold ptr
  go_enter Tryz.func58, Tryz.ntmps58
  go_wp2_with fail
  refine HRD.out.mono ?_
  rintro e w1 ⟨rfl, hB1⟩
  have HB1 : Hid (Below w.heap.size w w1) := hB1
  clear hB1 HRD
  go_wp2_with fail
  refine (HBL.out w1).mono ?_
  rintro e w2 ⟨rfl, hB2⟩
  have HB2 : Hid (Below w.heap.size w w2) := below_next HB1.out hB2 HB1.out.size
  have HD2 : Hid (Dbw w2 A op d) := HH.out.below HB2.out
  clear hB2 HBL HB1
  have c4 := HD2.out.c4
  have c5 := HD2.out.c5
  have c6 := HD2.out.c6
  have c7 := HD2.out.c7
  have c8 := HD2.out.c8
  have c9 := HD2.out.c9
  have c10 := HD2.out.c10
  have f4 := HD2.out.fz 4
  have f5 := HD2.out.fz 5
  have f6 := HD2.out.fz 6
  have f7 := HD2.out.fz 7
  have f8 := HD2.out.fz 8
  have f9 := HD2.out.fz 9
  have f10 := HD2.out.fz 10
  go_wp2
  go_ret
  obtain ⟨h1, h2⟩ := HD2.out.setSt stt1
  exact ⟨rfl, h1, (Turn.of_below HB2.out).trans h2⟩
set_option maxHeartbeats 4000000 in
set_option maxRecDepth 100000 in
theorem load_state (A : Ad) (op : Value) (d : Pd.Db) (t : Pd.Stt) (w : World) (H : Dbw w A op d) (hdn : d.s.down = false) (hl : d.n + 8 ≤ d.s.kept.length) (hc : d.cnt ≤ 1000) (ht : t.Small d.cnt) (hp : Pd.plc (Wl.flat d.s) d.n 0 = Pd.pageOf 0 t.sheet) :
    Calls Tryz.prog 58 #[ptr A.x] w fun e w' => e = .returned (.int .i64 0) ∧ Dbw w' A op { d with st := t } ∧ Turn A.ft A.ft w w' := by
  have hfine : t.sheet.Fine := ⟨Nat.le_refl _, by show 1 ≤ 255; omega, by show t.text.size ≤ 500; rw [Pd.Stt.text_size]; omega⟩
  have hnb := Pd.pageOf_ne (i := 0) hfine
  have HRD : Hid (Calls Tryz.prog 81 #[.pointer (some ⟨A.x, 0, none⟩), .int .i64 0] w fun e w' => e = .returned (.tuple #[.string (Pd.pageOf 0 t.sheet), .int .i64 0]) ∧ Below w.heap.size w w') := by
    have := dread_any A op d 0 w H hdn (by omega) (by omega)
    rw [hp] at this
    exact this
  have HBL : Hid (∀ W, Calls Tryz.prog 82 #[.string (Pd.pageOf 0 t.sheet)] W fun e w' => e = .returned (.bool false) ∧ Below W.heap.size W w') := fun W => by
    have := blank_any (Pd.pageOf 0 t.sheet) W
    rw [decide_eq_false hnb] at this
    exact this
  have HPO : Hid (∀ W, Tab W → Calls Tryz.prog 83 #[.int .i64 0, .string (Pd.pageOf 0 t.sheet)] W fun e w' => e = .returned (.tuple #[.int .i64 1, .string t.text, .int .i64 0]) ∧ Below W.heap.size W w') := fun W hW => place_open (i := 0) hfine (by omega) W hW
  have HRS : Hid (∀ W, Calls Tryz.prog 84 #[.agg #[.int .i64 1, .string t.text], .int .i64 (d.cnt : Int)] W fun e w' => e = .returned (.tuple #[stV t, .bool true]) ∧ Below W.heap.size W w') := fun W => rstate_any t d.cnt W ht hc
  have HH : Hid (Dbw w A op d) := H
  clear H hp hfine hnb ht
  generalize Pd.pageOf 0 t.sheet = pg at *
  unfold stV stA at HRS
  unfold ptr
  go_enter Tryz.func58, Tryz.ntmps58
  go_wp2_with fail
  refine HRD.out.mono ?_
  rintro e w1 ⟨rfl, hB1⟩
  have HB1 : Hid (Below w.heap.size w w1) := hB1
  clear hB1 HRD
  go_wp2_with fail
  refine (HBL.out w1).mono ?_
  rintro e w2 ⟨rfl, hB2⟩
  have HB2 : Hid (Below w.heap.size w w2) := below_next HB1.out hB2 HB1.out.size
  clear hB2 HBL HB1
  go_wp2_with fail
  refine (HPO.out w2 (HH.out.below HB2.out).tab).mono ?_
  rintro e w3 ⟨rfl, hB3⟩
  have HB3 : Hid (Below w.heap.size w w3) := below_next HB2.out hB3 HB2.out.size
  clear hB3 HPO HB2
  have c3 : w3.cell? ⟨A.x, 3, none⟩ = some (.int .i64 (d.cnt : Int)) := (HH.out.below HB3.out).c3
  go_wp2_with fail
  refine (HRS.out w3).mono ?_
  rintro e w4 ⟨rfl, hB4⟩
  have HB4 : Hid (Below w.heap.size w w4) := below_next HB3.out hB4 HB3.out.size
  clear hB4 HRS HB3 c3
  have HD4 : Hid (Dbw w4 A op d) := HH.out.below HB4.out
  have hx4 : A.x < w4.heap.size := HD4.out.xlt
  have c4 := HD4.out.c4
  have f4 := HD4.out.fz 4
  have c5 := HD4.out.c5
  have f5 := HD4.out.fz 5
  have c6 := HD4.out.c6
  have f6 := HD4.out.fz 6
  have c7 := HD4.out.c7
  have f7 := HD4.out.fz 7
  have c8 := HD4.out.c8
  have f8 := HD4.out.fz 8
  have c9 := HD4.out.c9
  have f9 := HD4.out.fz 9
  have c10 := HD4.out.c10
  have f10 := HD4.out.fz 10
  have hz := zeroSt
  go_wp2
  go_ret
  obtain ⟨h1, h2⟩ := HD4.out.setSt t
  exact ⟨rfl, h1.alloc _, ((Turn.of_below HB4.out).trans h2).trans (Turn.of_below ((Below.refl _ _).alloc (Nat.le_refl _) _))⟩
end Go.Proofs.YtcfninpokngmlaaGreatDoor
