/- Proved: what a database's load and look tell. -/
import Derived.Test.YtcfninpokngmlaaGreatDoorJ14
namespace Go.Proofs.YtcfninpokngmlaaGreatDoor
open Go.RowKit
/- the seven cells of a state are written -/
def st7 (w : World) (x o : Nat) (t : Pd.Stt) : World := ((((((w.setCell ⟨x, o, none⟩ (.int .i64 (t.high : Int))).setCell ⟨x, o + 1, none⟩ (.int .i64 (t.free : Int))).setCell ⟨x, o + 2, none⟩ (.int .i64 (t.last : Int))).setCell ⟨x, o + 3, none⟩ (.int .i64 (t.r0 : Int))).setCell ⟨x, o + 4, none⟩ (.int .i64 (t.r1 : Int))).setCell ⟨x, o + 5, none⟩ (.int .i64 (t.r2 : Int))).setCell ⟨x, o + 6, none⟩ (.int .i64 (t.r3 : Int))
theorem st7_cells (w : World) (x o : Nat) (t : Pd.Stt) : st7 w x o t = w.setCells x o [.int .i64 (t.high : Int), .int .i64 (t.free : Int), .int .i64 (t.last : Int), .int .i64 (t.r0 : Int), .int .i64 (t.r1 : Int), .int .i64 (t.r2 : Int), .int .i64 (t.r3 : Int)] := rfl
theorem Dbw.setSt {w : World} {A : Ad} {op : Value} {d : Pd.Db} (H : Dbw w A op d) (t : Pd.Stt) : Dbw (st7 w A.x 4 t) A op { d with st := t } ∧ Turn A.ft A.ft w (st7 w A.x 4 t) := by
  refine H.cells ?_ ?_ rfl rfl rfl
  · rw [st7_cells]
    exact Chg.setCells A.x _ _ w
  · rw [st7_cells]
    have hr := H.row
    have e : dbA A op d = [ptr A.g, ptr A.q, .int .i64 (d.n : Int), .int .i64 (d.cnt : Int), .int .i64 (d.st.high : Int), .int .i64 (d.st.free : Int), .int .i64 (d.st.last : Int), .int .i64 (d.st.r0 : Int), .int .i64 (d.st.r1 : Int), .int .i64 (d.st.r2 : Int), .int .i64 (d.st.r3 : Int), .map (some A.b), op, .bool d.lost].toArray := rfl
    rw [e] at hr
    rw [setCells_splice A.x 61 _ 4 _ w hr (by simp)]
    rfl
theorem place_open {i : Nat} {x : Pd.Sheet} (h : x.Fine) (hi : i ≤ 2147483647) (W : World) (hT : Tab W) : Calls Tryz.prog 83 #[.int .i64 (i : Int), .string (Pd.pageOf i x)] W fun e w' => e = .returned (.tuple #[.int .i64 (x.kind : Int), .string x.body, .int .i64 0]) ∧ Below W.heap.size W w' := by
  have h1 := pg_open_any (i : Int) (Pd.pageOf i x) W hT
  obtain ⟨e1, e2, e3⟩ := Pd.pageOf_open (i := i) h hi
  rw [e1, e2, e3] at h1
  exact h1
def stt1 : Pd.Stt := ⟨1, 0, 0, 0, 0, 0, 0⟩
set_option maxHeartbeats 4000000 in
set_option maxRecDepth 100000 in
theorem load_blank (A : Ad) (op : Value) (d : Pd.Db) (w : World) (H : Dbw w A op d) (hdn : d.s.down = false) (hl : d.n + 8 ≤ d.s.kept.length) (hp : Pd.plc (Wl.flat d.s) d.n 0 = Pg.blank) :
    Calls Tryz.prog 58 #[ptr A.x] w fun e w' => e = .returned (.int .i64 0) ∧ Dbw w' A op { d with st := stt1 } ∧ Turn A.ft A.ft w w' := by
  have HRD : Hid (Calls Tryz.prog 81 #[.pointer (some ⟨A.x, 0, none⟩), .int .i64 0] w fun e w' => e = .returned (.tuple #[.string Pg.blank, .int .i64 0]) ∧ Below w.heap.size w w') := by
    have := dread_any A op d 0 w H hdn (by omega) (by omega)
    rw [hp] at this
    exact this
  have HBL : Hid (∀ W, Calls Tryz.prog 82 #[.string Pg.blank] W fun e w' => e = .returned (.bool true) ∧ Below W.heap.size W w') := fun W => by
    have := blank_any Pg.blank W
    rw [decide_eq_true rfl] at this
    exact this
  have HH : Hid (Dbw w A op d) := H
  clear H hp
  generalize Pg.blank = bl at *
  unfold ptr
  go_enter Tryz.func58, Tryz.ntmps58
  go_wp2_with fail
  refine HRD.out.mono ?_
  rintro e w1 ⟨rfl, hB1⟩
  have HB1 : Hid (Below w.heap.size w w1) := hB1
  clear hB1 HRD
  go_wp2_with fail
  refine (HBL.out w1).mono ?_
  rintro e w2 ⟨rfl, hB2⟩
  have HB2 : Hid (Below w.heap.size w w2) := below_next HB1.out hB2 HB1.out.size
  have HD2 : Hid (Dbw w2 A op d) := HH.out.below HB2.out
  clear hB2 HBL HB1
  have c4 := HD2.out.c4
  have c5 := HD2.out.c5
  have c6 := HD2.out.c6
  have c7 := HD2.out.c7
  have c8 := HD2.out.c8
  have c9 := HD2.out.c9
  have c10 := HD2.out.c10
  have f4 := HD2.out.fz 4
  have f5 := HD2.out.fz 5
  have f6 := HD2.out.fz 6
  have f7 := HD2.out.fz 7
  have f8 := HD2.out.fz 8
  have f9 := HD2.out.fz 9
  have f10 := HD2.out.fz 10
  go_wp2
  go_ret
  obtain ⟨h1, h2⟩ := HD2.out.setSt stt1
  exact ⟨rfl, h1, (Turn.of_below HB2.out).trans h2⟩
set_option maxHeartbeats 4000000 in
set_option maxRecDepth 100000 in
theorem load_state (A : Ad) (op : Value) (d : Pd.Db) (t : Pd.Stt) (w : World) (H : Dbw w A op d) (hdn : d.s.down = false) (hl : d.n + 8 ≤ d.s.kept.length) (hc : d.cnt ≤ 1000) (ht : t.Small d.cnt) (hp : Pd.plc (Wl.flat d.s) d.n 0 = Pd.pageOf 0 t.sheet) :
    Calls Tryz.prog 58 #[ptr A.x] w fun e w' => e = .returned (.int .i64 0) ∧ Dbw w' A op { d with st := t } ∧ Turn A.ft A.ft w w' := by
  have hfine : t.sheet.Fine := ⟨Nat.le_refl _, by show 1 ≤ 255; omega, by show t.text.size ≤ 500; rw [Pd.Stt.text_size]; omega⟩
  have hnb := Pd.pageOf_ne (i := 0) hfine
  have HRD : Hid (Calls Tryz.prog 81 #[.pointer (some ⟨A.x, 0, none⟩), .int .i64 0] w fun e w' => e = .returned (.tuple #[.string (Pd.pageOf 0 t.sheet), .int .i64 0]) ∧ Below w.heap.size w w') := by
    have := dread_any A op d 0 w H hdn (by omega) (by omega)
    rw [hp] at this
    exact this
  have HBL : Hid (∀ W, Calls Tryz.prog 82 #[.string (Pd.pageOf 0 t.sheet)] W fun e w' => e = .returned (.bool false) ∧ Below W.heap.size W w') := fun W => by
    have := blank_any (Pd.pageOf 0 t.sheet) W
    rw [decide_eq_false hnb] at this
    exact this
  have HPO : Hid (∀ W, Tab W → Calls Tryz.prog 83 #[.int .i64 0, .string (Pd.pageOf 0 t.sheet)] W fun e w' => e = .returned (.tuple #[.int .i64 1, .string t.text, .int .i64 0]) ∧ Below W.heap.size W w') := fun W hW => place_open (i := 0) hfine (by omega) W hW
  have HRS : Hid (∀ W, Calls Tryz.prog 84 #[.agg #[.int .i64 1, .string t.text], .int .i64 (d.cnt : Int)] W fun e w' => e = .returned (.tuple #[stV t, .bool true]) ∧ Below W.heap.size W w') := fun W => rstate_any t d.cnt W ht hc
  have HH : Hid (Dbw w A op d) := H
  clear H hp hfine hnb ht
  generalize Pd.pageOf 0 t.sheet = pg at *
  unfold stV stA at HRS
  unfold ptr
  go_enter Tryz.func58, Tryz.ntmps58
  go_wp2_with fail
  refine HRD.out.mono ?_
  rintro e w1 ⟨rfl, hB1⟩
  have HB1 : Hid (Below w.heap.size w w1) := hB1
  clear hB1 HRD
  go_wp2_with fail
  refine (HBL.out w1).mono ?_
  rintro e w2 ⟨rfl, hB2⟩
  have HB2 : Hid (Below w.heap.size w w2) := below_next HB1.out hB2 HB1.out.size
  clear hB2 HBL HB1
  go_wp2_with fail
  refine (HPO.out w2 (HH.out.below HB2.out).tab).mono ?_
  rintro e w3 ⟨rfl, hB3⟩
  have HB3 : Hid (Below w.heap.size w w3) := below_next HB2.out hB3 HB2.out.size
  clear hB3 HPO HB2
  have c3 : w3.cell? ⟨A.x, 3, none⟩ = some (.int .i64 (d.cnt : Int)) := (HH.out.below HB3.out).c3
  go_wp2_with fail
  refine (HRS.out w3).mono ?_
  rintro e w4 ⟨rfl, hB4⟩
  have HB4 : Hid (Below w.heap.size w w4) := below_next HB3.out hB4 HB3.out.size
  clear hB4 HRS HB3 c3
  have HD4 : Hid (Dbw w4 A op d) := HH.out.below HB4.out
  have hx4 : A.x < w4.heap.size := HD4.out.xlt
  have c4 := HD4.out.c4
  have f4 := HD4.out.fz 4
  have c5 := HD4.out.c5
  have f5 := HD4.out.fz 5
  have c6 := HD4.out.c6
  have f6 := HD4.out.fz 6
  have c7 := HD4.out.c7
  have f7 := HD4.out.fz 7
  have c8 := HD4.out.c8
  have f8 := HD4.out.fz 8
  have c9 := HD4.out.c9
  have f9 := HD4.out.fz 9
  have c10 := HD4.out.c10
  have f10 := HD4.out.fz 10
  have hz := zeroSt
  go_wp2
  go_ret
  obtain ⟨h1, h2⟩ := HD4.out.setSt t
  exact ⟨rfl, h1.alloc _, ((Turn.of_below HB4.out).trans h2).trans (Turn.of_below ((Below.refl _ _).alloc (Nat.le_refl _) _))⟩
end Go.Proofs.YtcfninpokngmlaaGreatDoor
/- Proved: what a database tells of a page that was committed. -/
namespace Pd
/- a page that was committed: it stands in the map, or at its place -/
def Sees (d : Db) (id : Nat) (x : Sheet) : Prop := get d.m id = some x ∨ (get d.m id = none ∧ plc (Wl.flat d.s) d.n id = pageOf id x ∧ x.Fine)
end Pd
namespace Go.Proofs.YtcfninpokngmlaaGreatDoor
open Go.RowKit
theorem shv_eq (x : Pd.Sheet) : shV x = .agg #[.int .i64 (x.kind : Int), .string x.body] := rfl
set_option maxHeartbeats 4000000 in
set_option maxRecDepth 100000 in
theorem dlook_any (A : Ad) (op : Value) (d : Pd.Db) (id : Nat) (x : Pd.Sheet) (w : World) (H : Dbw w A op d) (hdn : d.s.down = false) (hl : d.n + 8 * id + 8 ≤ d.s.kept.length) (hi : id ≤ 1000000) (hx : Pd.Sees d id x) :
    Calls Tryz.prog 119 #[ptr A.x, .int .i64 (id : Int)] w fun e w' => e = .returned (.tuple #[shV x, .int .i64 0]) ∧ Below w.heap.size w w' := by
  have HH : Hid (Dbw w A op d) := H
  have hz := zeroSh
  unfold shV sh00 Pd.none0 at hz
  have HR0 : Hid ((w.alloc (.cells #[.int .i64 0, .string ⟨#[]⟩] 102)).heap[w.heap.size]? = some (.cells #[.int .i64 0, .string ⟨#[]⟩] 102 (0, 0))) := heap_alloc_new w _
  have HB0 : Hid (Below w.heap.size w (w.alloc (.cells #[.int .i64 0, .string ⟨#[]⟩] 102))) := (Below.refl _ _).alloc (Nat.le_refl _) _
  have hs0 : (w.alloc (.cells #[.int .i64 0, .string ⟨#[]⟩] 102)).heap.size = w.heap.size + 1 := by simp
  have HD0 : Hid (Dbw (w.alloc (.cells #[.int .i64 0, .string ⟨#[]⟩] 102)) A op d) := H.alloc _
  have c11 : (w.alloc (.cells #[.int .i64 0, .string ⟨#[]⟩] 102)).cell? ⟨A.x, 11, none⟩ = some (.map (some A.b)) := HD0.out.c11
  have c11w : w.cell? ⟨A.x, 11, none⟩ = some (.map (some A.b)) := H.c11
  have hxl := H.xlt
  rw [shv_eq]
  rcases hx with hm | ⟨hm, hp, hf⟩
  · have HG : Hid ((Pd.get d.m id) = some x) := hm
    clear H hm
    unfold ptr
    go_enter Tryz.func119, Tryz.ntmps119
    go_wp2_with (at_lookup; refine mp_look_ok _ rfl _ _ rfl A.b d.m rfl HD0.out.mp id (by omega) rfl ?_; rw [HG.out]; simp only [Option.getD_some, Option.isSome_some, shv_eq])
    refine bodyPost_ret (results_she Tryz.results119 _ _ w.heap.size 102 _ _ _ rfl rfl ((heap_alloc_old _ _ (by simp)).trans (heap_alloc_new w _))) rfl ⟨rfl, ((Below.refl _ _).alloc (Nat.le_refl _) _).alloc (by simp) _⟩
  · have HG : Hid ((Pd.get d.m id) = none) := hm
    have HRD : Hid (∀ U, Dbw U A op d → Calls Tryz.prog 81 #[.pointer (some ⟨A.x, 0, none⟩), .int .i64 (id : Int)] U fun e w' => e = .returned (.tuple #[.string (Pd.pageOf id x), .int .i64 0]) ∧ Below U.heap.size U w') := fun U hU => by
      have := dread_any A op d id U hU hdn hl hi
      rw [hp] at this
      exact this
    have HPO : Hid (∀ W, Tab W → Calls Tryz.prog 83 #[.int .i64 (id : Int), .string (Pd.pageOf id x)] W fun e w' => e = .returned (.tuple #[.int .i64 (x.kind : Int), .string x.body, .int .i64 0]) ∧ Below W.heap.size W w') := fun W hW => place_open hf (by omega) W hW
    clear H hm hp
    generalize Pd.pageOf id x = pg at *
    unfold ptr
    go_enter Tryz.func119, Tryz.ntmps119
    go_wp2_with (at_lookup; refine mp_look_ok _ rfl _ _ rfl A.b d.m rfl HD0.out.mp id (by omega) rfl ?_; rw [HG.out]; simp only [Option.getD_none, Option.isSome_none, shv_eq, sh00, Pd.none0])
    have HR1 : Hid (((w.alloc (.cells #[.int .i64 0, .string ⟨#[]⟩] 102)).alloc (.cells #[.int .i64 0, .string ⟨#[]⟩] 102)).heap[w.heap.size]? = some (.cells #[.int .i64 0, .string ⟨#[]⟩] 102 (0, 0))) := (heap_alloc_old _ _ (by simp)).trans HR0.out
    have HB1 : Hid (Below w.heap.size w ((w.alloc (.cells #[.int .i64 0, .string ⟨#[]⟩] 102)).alloc (.cells #[.int .i64 0, .string ⟨#[]⟩] 102))) := HB0.out.alloc HB0.out.size _
    have HD1 : Hid (Dbw ((w.alloc (.cells #[.int .i64 0, .string ⟨#[]⟩] 102)).alloc (.cells #[.int .i64 0, .string ⟨#[]⟩] 102)) A op d) := HD0.out.alloc _
    generalize hw1 : World.alloc (World.alloc w _) _ = w1 at *
    clear hw1 HR0 HB0 HD0 c11 c11w hs0
    refine (HRD.out w1 HD1.out).mono ?_
    rintro e w2 ⟨rfl, hB2⟩
    have HR2 : Hid (w2.heap[w.heap.size]? = some (.cells #[.int .i64 0, .string ⟨#[]⟩] 102 (0, 0))) := heap_next HR1.out hB2
    have HB2 : Hid (Below w.heap.size w w2) := below_next HB1.out hB2 HB1.out.size
    clear hB2 HRD HR1 HB1 HD1
    go_wp2_with fail
    refine (HPO.out w2 (HH.out.below HB2.out).tab).mono ?_
    rintro e w3 ⟨rfl, hB3⟩
    have HR3 : Hid (w3.heap[w.heap.size]? = some (.cells #[.int .i64 0, .string ⟨#[]⟩] 102 (0, 0))) := heap_next HR2.out hB3
    have HB3 : Hid (Below w.heap.size w w3) := below_next HB2.out hB3 HB2.out.size
    clear hB3 HPO HR2 HB2
    have f0 := frozen_of_row w3 w.heap.size 0 _ _ HR3.out
    have f1 := frozen_of_row w3 w.heap.size 1 _ _ HR3.out
    have c0 : w3.cell? ⟨w.heap.size, 0, none⟩ = some (.int .i64 0) := cell_of_row _ _ _ _ _ (0, 0) HR3.out
    have c1 : w3.cell? ⟨w.heap.size, 1, none⟩ = some (.string ⟨#[]⟩) := cell_of_row _ _ _ _ _ (0, 0) HR3.out
    go_wp2
    exact bodyPost_ret (results_she Tryz.results119 _ _ w.heap.size 102 _ _ _ rfl rfl (row2 HR3.out _ _)) rfl ⟨rfl, (HB3.out.setCell (by simp) _).setCell (by simp) _⟩
end Go.Proofs.YtcfninpokngmlaaGreatDoor
/- Proved: what a database's take makes of it, on any disk. -/
namespace Pd
def takeA (d : Db) (tm : Mp) : Db × Int := if Wl.room d.l < ((12 + 516 * tm.length : Nat) : Int) then setT d else (d, 0)
def takeT (d : Db) (tm : Mp) (t : Stt) : Db × Int :=
  if (takeA d tm).2 = 0 then
    if Wl.addE (takeA d tm).1.l (recText d.n tm) = 0 then
      if Wl.sycE (Wl.addS (takeA d tm).1.l (recText d.n tm)) (takeA d tm).1.s = 0 then ({ (takeA d tm).1 with st := t, m := copy (takeA d tm).1.m tm, l := Wl.sycL (Wl.addS (takeA d tm).1.l (recText d.n tm)) (takeA d tm).1.s, s := Wl.sycS (Wl.addS (takeA d tm).1.l (recText d.n tm)) (takeA d tm).1.s }, 0)
      else ({ (takeA d tm).1 with l := Wl.sycL (Wl.addS (takeA d tm).1.l (recText d.n tm)) (takeA d tm).1.s, s := Wl.sycS (Wl.addS (takeA d tm).1.l (recText d.n tm)) (takeA d tm).1.s }, Wl.sycE (Wl.addS (takeA d tm).1.l (recText d.n tm)) (takeA d tm).1.s)
    else ({ (takeA d tm).1 with l := Wl.addS (takeA d tm).1.l (recText d.n tm) }, Wl.addE (takeA d tm).1.l (recText d.n tm))
  else takeA d tm
theorem setT_n (d : Db) : (setT d).1.n = d.n ∧ (setT d).1.cnt = d.cnt ∧ (setT d).1.st = d.st ∧ (setT d).1.lost = d.lost ∧ ((setT d).1.m = d.m ∨ (setT d).1.m = []) := by
  unfold setT
  split
  · exact ⟨rfl, rfl, rfl, rfl, .inl rfl⟩
  · split
    · split
      · exact ⟨rfl, rfl, rfl, rfl, .inr rfl⟩
      · exact ⟨rfl, rfl, rfl, rfl, .inl rfl⟩
    · exact ⟨rfl, rfl, rfl, rfl, .inl rfl⟩
theorem takeA_n (d : Db) (tm : Mp) : (takeA d tm).1.n = d.n ∧ (takeA d tm).1.cnt = d.cnt ∧ (takeA d tm).1.st = d.st ∧ (takeA d tm).1.lost = d.lost ∧ ((takeA d tm).1.m = d.m ∨ (takeA d tm).1.m = []) := by
  unfold takeA
  split
  · exact setT_n d
  · exact ⟨rfl, rfl, rfl, rfl, .inl rfl⟩
end Pd
namespace Go.Proofs.YtcfninpokngmlaaGreatDoor
open Go.RowKit
theorem DDoes.below {w w1 w' : World} {A : Ad} {op : Value} {d : Pd.Db} {n : Int} {e : Ending} (h : DDoes w1 A op d n e w') (hB : Below w.heap.size w w1) : DDoes w A op d n e w' := by
  obtain ⟨vr, vw, vp, h1, h2, h3⟩ := h
  exact ⟨vr, vw, vp, h1, h2, (Turn.of_below hB).trans h3⟩
set_option maxHeartbeats 8000000 in
set_option maxRecDepth 100000 in
theorem dtake_any (A : Ad) (op : Value) (d : Pd.Db) (bt : Nat) (tm : Pd.Mp) (t : Pd.Stt) (w : World) (H : Dbw w A op d) (hM : MpAt w bt tm) (hbt : bt ∉ A.ft) (hF : Pd.Fine d.cnt d.m) (hFt : Pd.Fine d.cnt tm) (hc : d.cnt ≤ 1000) (hn : d.n ≤ 65536)
    (h1 : d.s.dn + 8 * d.m.length + 10 ≤ 80000) (h2 : d.s.pend.length + 8 * d.m.length + 10 ≤ 18000) (h3 : (Pd.takeA d tm).1.s.dn + (Pd.takeA d tm).1.l.n ≤ 90000) (h4 : (Pd.takeA d tm).1.s.pend.length + (Pd.takeA d tm).1.l.n ≤ 19000)
    (htl : (Pd.takeA d tm).2 = 0 → Wl.addE (Pd.takeA d tm).1.l (Pd.recText d.n tm) = 0 → (Pd.takeA d tm).1.s.down = false ∧ ∀ j, j < (Pd.takeA d tm).1.l.bytes.size % 64 → (Sc.now (Pd.takeA d tm).1.s ((Pd.takeA d tm).1.l.base + 1 + (Pd.takeA d tm).1.l.bytes.size / 64)).data.toList[j]? = (Pd.takeA d tm).1.l.bytes.data.toList[64 * ((Pd.takeA d tm).1.l.bytes.size / 64) + j]?) :
    Calls Tryz.prog 68 #[ptr A.x, .map (some bt), stV t] w (DDoes w A op (Pd.takeT d tm t).1 (Pd.takeT d tm t).2) := by
  have hml := Pd.fine_length H.mp.up hF
  have html := Pd.fine_length hM.up hFt
  have hsz := Pd.recText_size (n := d.n) hFt
  have HH : Hid (Dbw w A op d) := H
  have HM : Hid (MpAt w bt tm ∧ bt ∉ A.ft ∧ Pd.Fine d.cnt tm ∧ Pd.Fine d.cnt d.m) := ⟨hM, hbt, hFt, hF⟩
  have HB0 : Hid (Below w.heap.size w (w.alloc (.cells (stA t) 58))) := (Below.refl _ _).alloc (Nat.le_refl _) _
  have HR0 : Hid ((w.alloc (.cells (stA t) 58)).heap[w.heap.size]? = some (.cells (stA t) 58 (0, 0))) := heap_alloc_new w _
  have HTL : Hid ((Pd.takeA d tm).2 = 0 → Wl.addE (Pd.takeA d tm).1.l (Pd.recText d.n tm) = 0 → (Pd.takeA d tm).1.s.down = false ∧ ∀ j, j < (Pd.takeA d tm).1.l.bytes.size % 64 → (Sc.now (Pd.takeA d tm).1.s ((Pd.takeA d tm).1.l.base + 1 + (Pd.takeA d tm).1.l.bytes.size / 64)).data.toList[j]? = (Pd.takeA d tm).1.l.bytes.data.toList[64 * ((Pd.takeA d tm).1.l.bytes.size / 64) + j]?) := htl
  have HTT : Hid (Pd.takeT d tm t = if (Pd.takeA d tm).2 = 0 then
    if Wl.addE (Pd.takeA d tm).1.l (Pd.recText d.n tm) = 0 then
      if Wl.sycE (Wl.addS (Pd.takeA d tm).1.l (Pd.recText d.n tm)) (Pd.takeA d tm).1.s = 0 then ({ (Pd.takeA d tm).1 with st := t, m := Pd.copy (Pd.takeA d tm).1.m tm, l := Wl.sycL (Wl.addS (Pd.takeA d tm).1.l (Pd.recText d.n tm)) (Pd.takeA d tm).1.s, s := Wl.sycS (Wl.addS (Pd.takeA d tm).1.l (Pd.recText d.n tm)) (Pd.takeA d tm).1.s }, 0)
      else ({ (Pd.takeA d tm).1 with l := Wl.sycL (Wl.addS (Pd.takeA d tm).1.l (Pd.recText d.n tm)) (Pd.takeA d tm).1.s, s := Wl.sycS (Wl.addS (Pd.takeA d tm).1.l (Pd.recText d.n tm)) (Pd.takeA d tm).1.s }, Wl.sycE (Wl.addS (Pd.takeA d tm).1.l (Pd.recText d.n tm)) (Pd.takeA d tm).1.s)
    else ({ (Pd.takeA d tm).1 with l := Wl.addS (Pd.takeA d tm).1.l (Pd.recText d.n tm) }, Wl.addE (Pd.takeA d tm).1.l (Pd.recText d.n tm))
  else Pd.takeA d tm) := rfl
  have HTA : Hid (Pd.takeA d tm = if Wl.room d.l < ((12 + 516 * tm.length : Nat) : Int) then Pd.setT d else (d, 0)) := rfl
  obtain ⟨n1, n2, n3, n4, n5⟩ := Pd.takeA_n d tm
  have HN : Hid ((Pd.takeA d tm).1.n = d.n ∧ (Pd.takeA d tm).1.cnt = d.cnt ∧ ((Pd.takeA d tm).1.m = d.m ∨ (Pd.takeA d tm).1.m = [])) := ⟨n1, n2, n5⟩
  have HRS := rsize_any tm.length
  have HSZ : Hid ((Pd.recText d.n tm).size = 4 + 516 * tm.length) := hsz
  clear H hM hbt hF hFt htl n1 n2 n3 n4 n5 hsz
  change Calls Tryz.prog 68 #[.pointer (some ⟨A.x, 0, none⟩), .map (some bt), .agg (stA t)] w _
  unfold stA at *
  go_enter Tryz.func68, Tryz.ntmps68
  go_wp2_with fail
  generalize hw0 : World.alloc w _ = w0 at *
  clear hw0
  have HD0 : Hid (Dbw w0 A op d) := HH.out.below HB0.out
  have HM0 : Hid (MpAt w0 bt tm) := HM.out.1.below HB0.out
  have HS : Hid ((fun U : World => MpAt U bt tm ∧ U.cell? ⟨A.x, 1, none⟩ = some (.pointer (some ⟨A.q, 0, none⟩))) w0.drew) := ⟨HM0.out.keep rfl, HD0.out.drew.c1⟩
  refine wp_region_held_drew (S := fun U : World => MpAt U bt tm ∧ U.cell? ⟨A.x, 1, none⟩ = some (.pointer (some ⟨A.q, 0, none⟩))) (by kernel_rfl) HS.out (fun _ => ?_)
  refine heldTake 0 (some 10) (.map (some bt)) rfl rfl (by kernel_rfl) (by kernel_rfl) (by kernel_rfl) (fun _ _ _ h => h) (Or.inl ⟨by rfl, fun w hS => ?_⟩) HS.out ?_
  · (go_simp)
  simp only [Act.put, List.setIfInBounds_toArray, List.set_cons_zero, List.set_cons_succ]
  refine heldTake 1 (some 11) (.int .i64 (tm.length : Int)) rfl rfl (by kernel_rfl) (by kernel_rfl) (by kernel_rfl) (fun _ _ _ h => h) (Or.inl ⟨by rfl, fun w hS => ?_⟩) HS.out ?_
  · (obtain ⟨p0, p1⟩ := hS; have hl9 := fun ty => p0.own.len Tryz.underlying59 ty; rw [size_dM] at hl9; go_simp)
  simp only [Act.put, List.setIfInBounds_toArray, List.set_cons_zero, List.set_cons_succ]
  refine heldTake 4 (some 14) (.pointer (some ⟨A.x, 0, none⟩)) rfl rfl (by kernel_rfl) (by kernel_rfl) (by kernel_rfl) (fun _ _ _ h => h) (Or.inl ⟨by rfl, fun w hS => ?_⟩) HS.out ?_
  · (go_simp)
  simp only [Act.put, List.setIfInBounds_toArray, List.set_cons_zero, List.set_cons_succ]
  refine heldTake 5 (some 15) (.pointer (some ⟨A.x, 0, none⟩)) rfl rfl (by kernel_rfl) (by kernel_rfl) (by kernel_rfl) (fun _ _ _ h => h) (Or.inl ⟨by rfl, fun w hS => ?_⟩) HS.out ?_
  · (go_simp)
  simp only [Act.put, List.setIfInBounds_toArray, List.set_cons_zero, List.set_cons_succ]
  refine heldTake 6 (some 16) (.pointer (some ⟨A.x, 1, none⟩)) rfl rfl (by kernel_rfl) (by kernel_rfl) (by kernel_rfl) (fun _ _ _ h => h) (Or.inl ⟨by rfl, fun w hS => ?_⟩) HS.out ?_
  · (go_simp)
  simp only [Act.put, List.setIfInBounds_toArray, List.set_cons_zero, List.set_cons_succ]
  refine heldTake 7 (some 17) (.pointer (some ⟨A.q, 0, none⟩)) rfl rfl (by kernel_rfl) (by kernel_rfl) (by kernel_rfl) (fun _ _ _ h => h) (Or.inl ⟨by rfl, fun w hS => ?_⟩) HS.out ?_
  · (obtain ⟨p0, p1⟩ := hS; go_simp)
  simp only [Act.put, List.setIfInBounds_toArray, List.set_cons_zero, List.set_cons_succ]
  refine heldOne 2 (by kernel_rfl) rfl (by rfl) (fun KK hK => ?_)
  go_simp
  go_at_call 91
  refine (HRS w0.drew (by omega)).mono ?_
  rintro e wS ⟨rfl, hwS⟩
  rw [hwS]
  clear hwS wS HRS
  refine hK.out _ _ HS.out ?_
  clear hK KK
  refine heldTake 3 (some 13) (.int .i64 ((12 + 516 * tm.length : Nat) : Int)) rfl rfl (by kernel_rfl) (by kernel_rfl) (by kernel_rfl) (fun _ _ _ h => h) (Or.inl ⟨by rfl, fun w hS => ?_⟩) HS.out ?_
  · (go_simp; rw [IntKind.wrap_i64]; omega)
  simp only [Act.put, List.setIfInBounds_toArray, List.set_cons_zero, List.set_cons_succ]
  refine heldOne 8 (by kernel_rfl) rfl (by rfl) (fun KK hK => ?_)
  go_simp
  go_at_call 92
  refine (show Calls _ _ _ _ _ from lroom_any A.q A.g A.vr A.vw d.l w0.drew HD0.out.drew.lp.pk).mono ?_
  rintro e wS ⟨rfl, nq, hwS⟩
  have HD1 : Hid (Dbw wS A op d) := by show Dbw wS A op d; rw [hwS]; exact HD0.out.drew.drewN nq
  have HB1 : Hid (Below w.heap.size w wS) := by show Below _ _ _; rw [hwS]; exact ⟨HB0.out.os, HB0.out.tape, HB0.out.output, HB0.out.size, HB0.out.block⟩
  have HM1 : Hid (MpAt wS bt tm) := by show MpAt _ _ _; rw [hwS]; exact HM0.out.keep rfl
  have HR1 : Hid (wS.heap[w.heap.size]? = some (.cells #[.int .i64 (t.high : Int), .int .i64 (t.free : Int), .int .i64 (t.last : Int), .int .i64 (t.r0 : Int), .int .i64 (t.r1 : Int), .int .i64 (t.r2 : Int), .int .i64 (t.r3 : Int)] 58 (0, 0))) := by show _ = _; rw [hwS]; exact HR0.out
  have HS1 : Hid ((fun U : World => MpAt U bt tm ∧ U.cell? ⟨A.x, 1, none⟩ = some (.pointer (some ⟨A.q, 0, none⟩))) wS) := ⟨HM1.out, HD1.out.c1⟩
  clear hwS HD0 HB0 HM0 HR0 HS
  refine hK.out _ _ HS1.out ?_
  clear hK KK
  refine heldTake 9 (some 19) (.bool (decide (Wl.room d.l < ((12 + 516 * tm.length : Nat) : Int)))) rfl rfl (by kernel_rfl) (by kernel_rfl) (by kernel_rfl) (fun _ _ _ h => h) (Or.inl ⟨by rfl, fun w hS => ?_⟩) HS1.out ?_
  · (go_simp)
  simp only [Act.put, List.setIfInBounds_toArray, List.set_cons_zero, List.set_cons_succ]
  refine wpAnyH_done (by kernel_rfl) ?_ _
  clear HS1
  by_cases hroom : Wl.room d.l < ((12 + 516 * tm.length : Nat) : Int)
  · have dr : decide (Wl.room d.l < ((12 + 516 * tm.length : Nat) : Int)) = true := decide_eq_true hroom
    rw [dr]
    rw [if_pos hroom] at HTA
    clear dr hroom
    have HST : Hid (Calls Tryz.prog 57 #[.pointer (some ⟨A.x, 0, none⟩)] wS (DDoes wS A op (Pd.setT d).1 (Pd.setT d).2)) := settle_any A op d wS HD1.out HM.out.2.2.2 hc (by omega) (by omega) (by omega) (by omega)
    rw [← HTA.out] at HST
    go_wp2_with fail
    refine HST.out.mono ?_
    rintro e w2 ⟨vr, vw, vp, rfl, hD2, hT2⟩
    have HD2 : Hid (Dbw w2 (A.to vr vw vp) op (Pd.takeA d tm).1) := hD2
    have HT2 : Hid (Turn A.ft (A.to vr vw vp).ft w w2) := (Turn.of_below HB1.out).trans hT2
    have HM2 : Hid (MpAt w2 bt tm) := HM1.out.chg hT2.chg HM.out.2.1
    have HR2 : Hid (w2.heap[w.heap.size]? = some (.cells #[.int .i64 (t.high : Int), .int .i64 (t.free : Int), .int .i64 (t.last : Int), .int .i64 (t.r0 : Int), .int .i64 (t.r1 : Int), .int .i64 (t.r2 : Int), .int .i64 (t.r3 : Int)] 58 (0, 0))) := heap_turn HR1.out hT2 (fun hm => by have := HH.out.lt _ hm; omega)
    have HT2p : Hid (w.heap.size ∉ (A.to vr vw vp).ft ∧ bt ∉ (A.to vr vw vp).ft) := ⟨hT2.apart (rs := [w.heap.size]) (fun k hk => by rw [List.mem_singleton.1 hk]; intro hm; have := HH.out.lt _ hm; omega) (fun k hk => by rw [List.mem_singleton.1 hk]; exact (Array.getElem?_eq_some_iff.1 HR1.out).1) _ List.mem_cons_self, hT2.apart (rs := [bt]) (fun k hk => by rw [List.mem_singleton.1 hk]; exact HM.out.2.1) (fun k hk => by rw [List.mem_singleton.1 hk]; exact HM1.out.lt) _ List.mem_cons_self⟩
    clear hD2 hT2 HST HD1 HB1 HM1 HR1
    by_cases hz : (Pd.takeA d tm).2 = 0
    · have HLN : Hid (w.heap.size ∉ (A.to vr vw vp).ft) := HT2p.out.1
      have HLB : Hid (bt ∉ (A.to vr vw vp).ft) := HT2p.out.2
      clear HT2p
      rw [if_pos hz] at HTT
      have HTL2 := (show Hid _ from HTL.out hz)
      clear HTL
      generalize hd1 : (Pd.takeA d tm).1 = d1 at *
      clear hd1
      obtain ⟨hn1, hn2, hn3⟩ := HN.out
      have c1 : w2.cell? ⟨A.x, 1, none⟩ = some (.pointer (some ⟨A.q, 0, none⟩)) := HD2.out.c1
      have c2 : w2.cell? ⟨A.x, 2, none⟩ = some (.int .i64 (d.n : Int)) := by rw [← hn1]; exact HD2.out.c2
      have HS : Hid ((fun U : World => U.cell? ⟨A.x, 1, none⟩ = some (.pointer (some ⟨A.q, 0, none⟩)) ∧ U.cell? ⟨A.x, 2, none⟩ = some (.int .i64 (d.n : Int))) w2) := ⟨c1, c2⟩
      have HRT : Hid (Calls Tryz.prog 94 #[.int .i64 (d.n : Int), .map (some bt)] w2.drew fun e w' => e = .returned (.string (Pd.recText d.n tm)) ∧ Below w2.drew.heap.size w2.drew w') := rtext_any d.n bt d.cnt tm w2.drew (HM2.out.keep rfl) HM.out.2.2.1 hc (by omega) HD2.out.drew.tab
      have hsz := HSZ.out
      clear c1 c2
      go_wp2_with fail
      clear hz
      refine wp_region_held_drew (S := (fun U : World => U.cell? ⟨A.x, 1, none⟩ = some (.pointer (some ⟨A.q, 0, none⟩)) ∧ U.cell? ⟨A.x, 2, none⟩ = some (.int .i64 (d.n : Int)))) (by kernel_rfl) HS.out (fun _ => ?_)
      refine heldTake 0 (some 25) (.pointer (some ⟨A.x, 0, none⟩)) rfl rfl (by kernel_rfl) (by kernel_rfl) (by kernel_rfl) (fun _ _ _ h => h) (Or.inl ⟨by rfl, fun w hS => ?_⟩) HS.out ?_
      · (go_simp)
      simp only [Act.put, List.setIfInBounds_toArray, List.set_cons_zero, List.set_cons_succ]
      refine heldTake 1 (some 26) (.pointer (some ⟨A.x, 0, none⟩)) rfl rfl (by kernel_rfl) (by kernel_rfl) (by kernel_rfl) (fun _ _ _ h => h) (Or.inl ⟨by rfl, fun w hS => ?_⟩) HS.out ?_
      · (go_simp)
      simp only [Act.put, List.setIfInBounds_toArray, List.set_cons_zero, List.set_cons_succ]
      refine heldTake 2 (some 27) (.pointer (some ⟨A.x, 1, none⟩)) rfl rfl (by kernel_rfl) (by kernel_rfl) (by kernel_rfl) (fun _ _ _ h => h) (Or.inl ⟨by rfl, fun w hS => ?_⟩) HS.out ?_
      · (go_simp)
      simp only [Act.put, List.setIfInBounds_toArray, List.set_cons_zero, List.set_cons_succ]
      refine heldTake 3 (some 28) (.pointer (some ⟨A.q, 0, none⟩)) rfl rfl (by kernel_rfl) (by kernel_rfl) (by kernel_rfl) (fun _ _ _ h => h) (Or.inl ⟨by rfl, fun w hS => ?_⟩) HS.out ?_
      · (obtain ⟨p0, p1⟩ := hS; go_simp)
      simp only [Act.put, List.setIfInBounds_toArray, List.set_cons_zero, List.set_cons_succ]
      refine heldTake 4 (some 29) (.pointer (some ⟨A.x, 0, none⟩)) rfl rfl (by kernel_rfl) (by kernel_rfl) (by kernel_rfl) (fun _ _ _ h => h) (Or.inl ⟨by rfl, fun w hS => ?_⟩) HS.out ?_
      · (go_simp)
      simp only [Act.put, List.setIfInBounds_toArray, List.set_cons_zero, List.set_cons_succ]
      refine heldTake 5 (some 30) (.pointer (some ⟨A.x, 0, none⟩)) rfl rfl (by kernel_rfl) (by kernel_rfl) (by kernel_rfl) (fun _ _ _ h => h) (Or.inl ⟨by rfl, fun w hS => ?_⟩) HS.out ?_
      · (go_simp)
      simp only [Act.put, List.setIfInBounds_toArray, List.set_cons_zero, List.set_cons_succ]
      refine heldTake 6 (some 31) (.pointer (some ⟨A.x, 2, none⟩)) rfl rfl (by kernel_rfl) (by kernel_rfl) (by kernel_rfl) (fun _ _ _ h => h) (Or.inl ⟨by rfl, fun w hS => ?_⟩) HS.out ?_
      · (go_simp)
      simp only [Act.put, List.setIfInBounds_toArray, List.set_cons_zero, List.set_cons_succ]
      refine heldTake 7 (some 32) (.int .i64 (d.n : Int)) rfl rfl (by kernel_rfl) (by kernel_rfl) (by kernel_rfl) (fun _ _ _ h => h) (Or.inl ⟨by rfl, fun w hS => ?_⟩) HS.out ?_
      · (obtain ⟨p0, p1⟩ := hS; go_simp)
      simp only [Act.put, List.setIfInBounds_toArray, List.set_cons_zero, List.set_cons_succ]
      refine heldTake 8 (some 33) (.map (some bt)) rfl rfl (by kernel_rfl) (by kernel_rfl) (by kernel_rfl) (fun _ _ _ h => h) (Or.inl ⟨by rfl, fun w hS => ?_⟩) HS.out ?_
      · (go_simp)
      simp only [Act.put, List.setIfInBounds_toArray, List.set_cons_zero, List.set_cons_succ]
      refine heldOne 9 (by kernel_rfl) rfl (by rfl) (fun KK hK => ?_)
      go_simp
      go_at_call 94
      refine HRT.out.mono ?_
      rintro e w3 ⟨rfl, hB3⟩
      have hB3' := below_drew hB3
      have HD3 : Hid (Dbw w3 (A.to vr vw vp) op d1) := HD2.out.below hB3'
      have HT3 : Hid (Turn A.ft (A.to vr vw vp).ft w w3) := HT2.out.trans (Turn.of_below hB3')
      have HM3 : Hid (MpAt w3 bt tm) := HM2.out.below hB3'
      have HR3 : Hid (w3.heap[w.heap.size]? = some (.cells #[.int .i64 (t.high : Int), .int .i64 (t.free : Int), .int .i64 (t.last : Int), .int .i64 (t.r0 : Int), .int .i64 (t.r1 : Int), .int .i64 (t.r2 : Int), .int .i64 (t.r3 : Int)] 58 (0, 0))) := heap_next HR2.out hB3'
      have HS3 : Hid ((fun U : World => U.cell? ⟨A.x, 1, none⟩ = some (.pointer (some ⟨A.q, 0, none⟩)) ∧ U.cell? ⟨A.x, 2, none⟩ = some (.int .i64 (d.n : Int))) w3) := ⟨HD3.out.c1, by rw [← hn1]; exact HD3.out.c2⟩
      have HLF : Hid (w.heap.size ∉ (A.to vr vw vp).ft ∧ bt ∉ (A.to vr vw vp).ft) := ⟨HLN.out, HLB.out⟩
      clear hB3 hB3' HRT HD2 HT2 HM2 HR2 HS HLN HLB
      refine hK.out _ _ HS3.out ?_
      clear hK KK
      generalize hX : Pd.recText d.n tm = X at *
      clear hX
      have HAD : Hid (Calls Tryz.prog 93 #[.pointer (some ⟨A.q, 0, none⟩), .string X] w3 (PDoes w3 A.q A.g vr vw (Wl.addS d1.l X) (Wl.addE d1.l X))) := ladd_any A.q A.g vr vw d1.l X w3 HD3.out.lp.pk (by omega)
      obtain ⟨b1, b2, b3, b4, b5, b6⟩ := Wl.addS_base d1.l X
      have HBS : Hid ((Wl.addS d1.l X).base = d1.l.base ∧ (Wl.addS d1.l X).n = d1.l.n ∧ (Wl.addS d1.l X).bytes = d1.l.bytes) := ⟨b1, b2, b4⟩
      clear b1 b2 b3 b4 b5 b6
      generalize hl2 : Wl.addS d1.l X = l2 at *
      clear hl2
      generalize he2 : Wl.addE d1.l X = e2 at *
      clear he2
      refine heldOne 10 (by kernel_rfl) rfl (by rfl) (fun KK hK => ?_)
      go_simp
      go_at_call 93
      refine HAD.out.mono ?_
      rintro e w4 ⟨vr4, vw4, rfl, hP4, hT4⟩
      obtain ⟨hL4, hTL4⟩ := HD3.out.lp.p hP4 hT4 HBS.out.1 HBS.out.2.1
      obtain ⟨hD4, hTD4⟩ := HD3.out.turn (vr := vr4) (vw := vw4) (vp := vp) hL4 hTL4
      have HD4 : Hid (Dbw w4 (A.to vr4 vw4 vp) op { d1 with l := l2 }) := hD4
      have HT4 : Hid (Turn A.ft (A.to vr4 vw4 vp).ft w w4) := HT3.out.trans hTD4
      have HM4 : Hid (MpAt w4 bt tm) := HM3.out.chg hTD4.chg HLF.out.2
      have HR4 : Hid (w4.heap[w.heap.size]? = some (.cells #[.int .i64 (t.high : Int), .int .i64 (t.free : Int), .int .i64 (t.last : Int), .int .i64 (t.r0 : Int), .int .i64 (t.r1 : Int), .int .i64 (t.r2 : Int), .int .i64 (t.r3 : Int)] 58 (0, 0))) := heap_turn HR3.out hTD4 HLF.out.1
      have HLF4 : Hid (w.heap.size ∉ (A.to vr4 vw4 vp).ft ∧ bt ∉ (A.to vr4 vw4 vp).ft) := ⟨hTD4.apart (rs := [w.heap.size]) (fun k hk => by rw [List.mem_singleton.1 hk]; exact HLF.out.1) (fun k hk => by rw [List.mem_singleton.1 hk]; exact (Array.getElem?_eq_some_iff.1 HR3.out).1) _ List.mem_cons_self, hTD4.apart (rs := [bt]) (fun k hk => by rw [List.mem_singleton.1 hk]; exact HLF.out.2) (fun k hk => by rw [List.mem_singleton.1 hk]; exact HM3.out.lt) _ List.mem_cons_self⟩
      have HS4 : Hid ((fun U : World => U.cell? ⟨A.x, 1, none⟩ = some (.pointer (some ⟨A.q, 0, none⟩)) ∧ U.cell? ⟨A.x, 2, none⟩ = some (.int .i64 (d.n : Int))) w4) := ⟨hD4.c1, by rw [← hn1]; exact hD4.c2⟩
      clear hP4 hT4 hL4 hTL4 hD4 hTD4 HAD HD3 HT3 HM3 HR3 HS3 HLF
      refine hK.out _ _ HS4.out ?_
      clear hK KK
      refine heldTake 11 (some 8) (.int .i64 e2) rfl rfl (by kernel_rfl) (by kernel_rfl) (by kernel_rfl) (fun _ _ _ h => h) (Or.inl ⟨by rfl, fun w hS => ?_⟩) HS4.out ?_
      · (go_simp)
      simp only [Act.put, List.setIfInBounds_toArray, List.set_cons_zero, List.set_cons_succ]
      refine wpAnyH_done (by kernel_rfl) ?_ _
      clear HS4
      by_cases hz2 : e2 = 0
      · subst hz2
        rw [if_pos rfl] at HTT
        have htl := HTL2.out rfl
        have HSY : Hid (Calls Tryz.prog 95 #[.pointer (some ⟨A.q, 0, none⟩)] w4 (LDoes w4 A.q A.g vr4 vw4 A.kg vp (Wl.sycL l2 d1.s) (Wl.sycS l2 d1.s) (Wl.sycE l2 d1.s))) := lsync_any A.q A.g vr4 vw4 l2 A.kg vp d1.s w4 HD4.out.lp (HD4.out.safe.of (fun k hk => (A.to vr4 vw4 vp).ml hk)) (fun _ _ => ⟨htl.1, by rw [HBS.out.1, HBS.out.2.2]; exact htl.2⟩) (by rw [HBS.out.2.1]; omega) (by rw [HBS.out.2.1]; omega)
        have c1 : w4.cell? ⟨A.x, 1, none⟩ = some (.pointer (some ⟨A.q, 0, none⟩)) := HD4.out.c1
        clear htl HTL2
        generalize hl3 : Wl.sycL l2 d1.s = l3 at *
        clear hl3
        generalize hs3 : Wl.sycS l2 d1.s = s3 at *
        clear hs3
        generalize he3 : Wl.sycE l2 d1.s = e3 at *
        clear he3
        go_wp2_with fail
        refine HSY.out.mono ?_
        rintro e w5 ⟨vr5, vw5, vp5, rfl, hL5, hT5⟩
        obtain ⟨hD5, hTD5⟩ := HD4.out.turn (vr := vr5) (vw := vw5) (vp := vp5) hL5 hT5
        have HD5 : Hid (Dbw w5 (A.to vr5 vw5 vp5) op { d1 with l := l3, s := s3 }) := hD5
        have HT5 : Hid (Turn A.ft (A.to vr5 vw5 vp5).ft w w5) := HT4.out.trans hTD5
        have HM5 : Hid (MpAt w5 bt tm) := HM4.out.chg hTD5.chg HLF4.out.2
        have HR5 : Hid (w5.heap[w.heap.size]? = some (.cells #[.int .i64 (t.high : Int), .int .i64 (t.free : Int), .int .i64 (t.last : Int), .int .i64 (t.r0 : Int), .int .i64 (t.r1 : Int), .int .i64 (t.r2 : Int), .int .i64 (t.r3 : Int)] 58 (0, 0))) := heap_turn HR4.out hTD5 HLF4.out.1
        have HLF5 : Hid (w.heap.size ∉ (A.to vr5 vw5 vp5).ft ∧ bt ∉ (A.to vr5 vw5 vp5).ft) := ⟨hTD5.apart (rs := [w.heap.size]) (fun k hk => by rw [List.mem_singleton.1 hk]; exact HLF4.out.1) (fun k hk => by rw [List.mem_singleton.1 hk]; exact (Array.getElem?_eq_some_iff.1 HR4.out).1) _ List.mem_cons_self, hTD5.apart (rs := [bt]) (fun k hk => by rw [List.mem_singleton.1 hk]; exact HLF4.out.2) (fun k hk => by rw [List.mem_singleton.1 hk]; exact HM4.out.lt) _ List.mem_cons_self⟩
        clear hL5 hT5 hD5 hTD5 HSY HD4 HT4 HM4 HR4 HLF4 c1
        by_cases hz3 : e3 = 0
        · subst hz3
          rw [if_pos rfl] at HTT
          have c11 : w5.cell? ⟨A.x, 11, none⟩ = some (.map (some A.b)) := HD5.out.c11
          have hdl : d1.m.length + tm.length ≤ 100000 := by
            rcases hn3 with e | e
            · rw [e]; omega
            · rw [e]; simp; omega
          go_wp2_with fail
          refine (show Calls _ _ _ _ _ from mcopy_any A.b bt d1.m tm w5 HD5.out.mp HM5.out (fun e => HLF5.out.2 (by rw [← e]; exact (A.to vr5 vw5 vp5).mb)) hdl (fun p hp => by have := (HM.out.2.2.1 p hp).1; omega)).mono ?_
          rintro e w6 ⟨rfl, hM6, hg6⟩
          obtain ⟨hD6, hTD6⟩ := HD5.out.map hM6 hg6
          have HD6 : Hid (Dbw w6 (A.to vr5 vw5 vp5) op { d1 with m := Pd.copy d1.m tm, l := l3, s := s3 }) := hD6
          have HT6 : Hid (Turn A.ft (A.to vr5 vw5 vp5).ft w w6) := HT5.out.trans hTD6
          have HR6 : Hid (w6.heap[w.heap.size]? = some (.cells #[.int .i64 (t.high : Int), .int .i64 (t.free : Int), .int .i64 (t.last : Int), .int .i64 (t.r0 : Int), .int .i64 (t.r1 : Int), .int .i64 (t.r2 : Int), .int .i64 (t.r3 : Int)] 58 (0, 0))) := heap_turn HR5.out hTD6 HLF5.out.1
          clear hM6 hg6 hD6 hTD6 HD5 HT5 HM5 HR5 HLF5 c11 hdl
          have c4 : w6.cell? ⟨A.x, 4, none⟩ = some (.int .i64 (d1.st.high : Int)) := HD6.out.c4
          have f4 : w6.frozen? ⟨A.x, 4, none⟩ = false := HD6.out.fz 4
          have c5 : w6.cell? ⟨A.x, 5, none⟩ = some (.int .i64 (d1.st.free : Int)) := HD6.out.c5
          have f5 : w6.frozen? ⟨A.x, 5, none⟩ = false := HD6.out.fz 5
          have c6 : w6.cell? ⟨A.x, 6, none⟩ = some (.int .i64 (d1.st.last : Int)) := HD6.out.c6
          have f6 : w6.frozen? ⟨A.x, 6, none⟩ = false := HD6.out.fz 6
          have c7 : w6.cell? ⟨A.x, 7, none⟩ = some (.int .i64 (d1.st.r0 : Int)) := HD6.out.c7
          have f7 : w6.frozen? ⟨A.x, 7, none⟩ = false := HD6.out.fz 7
          have c8 : w6.cell? ⟨A.x, 8, none⟩ = some (.int .i64 (d1.st.r1 : Int)) := HD6.out.c8
          have f8 : w6.frozen? ⟨A.x, 8, none⟩ = false := HD6.out.fz 8
          have c9 : w6.cell? ⟨A.x, 9, none⟩ = some (.int .i64 (d1.st.r2 : Int)) := HD6.out.c9
          have f9 : w6.frozen? ⟨A.x, 9, none⟩ = false := HD6.out.fz 9
          have c10 : w6.cell? ⟨A.x, 10, none⟩ = some (.int .i64 (d1.st.r3 : Int)) := HD6.out.c10
          have f10 : w6.frozen? ⟨A.x, 10, none⟩ = false := HD6.out.fz 10
          have s0 : w6.cell? ⟨w.heap.size, 0, none⟩ = some (.int .i64 (t.high : Int)) := cell_of_row _ _ _ _ _ (0, 0) HR6.out
          have s1 : w6.cell? ⟨w.heap.size, 1, none⟩ = some (.int .i64 (t.free : Int)) := cell_of_row _ _ _ _ _ (0, 0) HR6.out
          have s2 : w6.cell? ⟨w.heap.size, 2, none⟩ = some (.int .i64 (t.last : Int)) := cell_of_row _ _ _ _ _ (0, 0) HR6.out
          have s3 : w6.cell? ⟨w.heap.size, 3, none⟩ = some (.int .i64 (t.r0 : Int)) := cell_of_row _ _ _ _ _ (0, 0) HR6.out
          have s4 : w6.cell? ⟨w.heap.size, 4, none⟩ = some (.int .i64 (t.r1 : Int)) := cell_of_row _ _ _ _ _ (0, 0) HR6.out
          have s5 : w6.cell? ⟨w.heap.size, 5, none⟩ = some (.int .i64 (t.r2 : Int)) := cell_of_row _ _ _ _ _ (0, 0) HR6.out
          have s6 : w6.cell? ⟨w.heap.size, 6, none⟩ = some (.int .i64 (t.r3 : Int)) := cell_of_row _ _ _ _ _ (0, 0) HR6.out
          go_wp2
          go_ret
          obtain ⟨y1, y2⟩ := HD6.out.setSt t
          rw [HTT.out]
          exact ⟨vr5, vw5, vp5, rfl, y1, HT6.out.trans y2⟩
        · have hb : (e3 != 0) = true := by simp [hz3]
          rw [if_neg hz3] at HTT
          have HFN : Hid (DDoes w A op (Pd.takeT d tm t).1 (Pd.takeT d tm t).2 (.returned (.int .i64 e3)) w5) := by
            rw [HTT.out]
            exact ⟨vr5, vw5, vp5, rfl, HD5.out, HT5.out⟩
          go_wp2
          go_ret
          exact HFN.out
      · have hb : (e2 != 0) = true := by simp [hz2]
        rw [if_neg hz2] at HTT
        have HFN : Hid (DDoes w A op (Pd.takeT d tm t).1 (Pd.takeT d tm t).2 (.returned (.int .i64 e2)) w4) := by
          rw [HTT.out]
          exact ⟨vr4, vw4, vp, rfl, HD4.out, HT4.out⟩
        go_wp2
        go_ret
        exact HFN.out
    · have hb : ((Pd.takeA d tm).2 != 0) = true := by simp [hz]
      have HFN : Hid (DDoes w A op (Pd.takeT d tm t).1 (Pd.takeT d tm t).2 (.returned (.int .i64 (Pd.takeA d tm).2)) w2) := by
        rw [HTT.out, if_neg hz]
        exact ⟨vr, vw, vp, rfl, HD2.out, HT2.out⟩
      generalize (Pd.takeA d tm).2 = ee at *
      go_wp2
      go_ret
      exact HFN.out
  · have dr : decide (Wl.room d.l < ((12 + 516 * tm.length : Nat) : Int)) = false := decide_eq_false hroom
    rw [dr]
    rw [if_neg hroom] at HTA
    clear dr hroom
    have hz : (Pd.takeA d tm).2 = 0 := by rw [HTA.out]
    obtain ⟨vr, hvr⟩ : ∃ v, v = A.vr := ⟨_, rfl⟩
    obtain ⟨vw, hvw⟩ : ∃ v, v = A.vw := ⟨_, rfl⟩
    obtain ⟨vp, hvp⟩ : ∃ v, v = A.vp := ⟨_, rfl⟩
    have HTo : Hid (A.to vr vw vp = A) := by show _ = _; rw [hvr, hvw, hvp]; rfl
    clear hvr hvw hvp
    have HD2 : Hid (Dbw wS (A.to vr vw vp) op (Pd.takeA d tm).1) := by show Dbw _ _ _ _; rw [HTo.out, HTA.out]; exact HD1.out
    have HT2 : Hid (Turn A.ft (A.to vr vw vp).ft w wS) := by show Turn _ _ _ _; rw [HTo.out]; exact Turn.of_below HB1.out
    have HLN : Hid (w.heap.size ∉ (A.to vr vw vp).ft) := by show _ ∉ _; rw [HTo.out]; intro hm; have := HH.out.lt _ hm; omega
    have HLB : Hid (bt ∉ (A.to vr vw vp).ft) := by show _ ∉ _; rw [HTo.out]; exact HM.out.2.1
    have HM2 : Hid (MpAt wS bt tm) := HM1.out
    have HR2 := (show Hid _ from HR1.out)
    clear HD1 HB1 HM1 HR1 HTA HTo
    rw [if_pos hz] at HTT
    have HTL2 := (show Hid _ from HTL.out hz)
    clear HTL
    generalize hd1 : (Pd.takeA d tm).1 = d1 at *
    clear hd1
    obtain ⟨hn1, hn2, hn3⟩ := HN.out
    have c1 : wS.cell? ⟨A.x, 1, none⟩ = some (.pointer (some ⟨A.q, 0, none⟩)) := HD2.out.c1
    have c2 : wS.cell? ⟨A.x, 2, none⟩ = some (.int .i64 (d.n : Int)) := by rw [← hn1]; exact HD2.out.c2
    have HS : Hid ((fun U : World => U.cell? ⟨A.x, 1, none⟩ = some (.pointer (some ⟨A.q, 0, none⟩)) ∧ U.cell? ⟨A.x, 2, none⟩ = some (.int .i64 (d.n : Int))) wS) := ⟨c1, c2⟩
    have HRT : Hid (Calls Tryz.prog 94 #[.int .i64 (d.n : Int), .map (some bt)] wS.drew fun e w' => e = .returned (.string (Pd.recText d.n tm)) ∧ Below wS.drew.heap.size wS.drew w') := rtext_any d.n bt d.cnt tm wS.drew (HM2.out.keep rfl) HM.out.2.2.1 hc (by omega) HD2.out.drew.tab
    have hsz := HSZ.out
    clear c1 c2
    go_wp2_with fail
    clear hz
    refine wp_region_held_drew (S := (fun U : World => U.cell? ⟨A.x, 1, none⟩ = some (.pointer (some ⟨A.q, 0, none⟩)) ∧ U.cell? ⟨A.x, 2, none⟩ = some (.int .i64 (d.n : Int)))) (by kernel_rfl) HS.out (fun _ => ?_)
    refine heldTake 0 (some 25) (.pointer (some ⟨A.x, 0, none⟩)) rfl rfl (by kernel_rfl) (by kernel_rfl) (by kernel_rfl) (fun _ _ _ h => h) (Or.inl ⟨by rfl, fun w hS => ?_⟩) HS.out ?_
    · (go_simp)
    simp only [Act.put, List.setIfInBounds_toArray, List.set_cons_zero, List.set_cons_succ]
    refine heldTake 1 (some 26) (.pointer (some ⟨A.x, 0, none⟩)) rfl rfl (by kernel_rfl) (by kernel_rfl) (by kernel_rfl) (fun _ _ _ h => h) (Or.inl ⟨by rfl, fun w hS => ?_⟩) HS.out ?_
    · (go_simp)
    simp only [Act.put, List.setIfInBounds_toArray, List.set_cons_zero, List.set_cons_succ]
    refine heldTake 2 (some 27) (.pointer (some ⟨A.x, 1, none⟩)) rfl rfl (by kernel_rfl) (by kernel_rfl) (by kernel_rfl) (fun _ _ _ h => h) (Or.inl ⟨by rfl, fun w hS => ?_⟩) HS.out ?_
    · (go_simp)
    simp only [Act.put, List.setIfInBounds_toArray, List.set_cons_zero, List.set_cons_succ]
    refine heldTake 3 (some 28) (.pointer (some ⟨A.q, 0, none⟩)) rfl rfl (by kernel_rfl) (by kernel_rfl) (by kernel_rfl) (fun _ _ _ h => h) (Or.inl ⟨by rfl, fun w hS => ?_⟩) HS.out ?_
    · (obtain ⟨p0, p1⟩ := hS; go_simp)
    simp only [Act.put, List.setIfInBounds_toArray, List.set_cons_zero, List.set_cons_succ]
    refine heldTake 4 (some 29) (.pointer (some ⟨A.x, 0, none⟩)) rfl rfl (by kernel_rfl) (by kernel_rfl) (by kernel_rfl) (fun _ _ _ h => h) (Or.inl ⟨by rfl, fun w hS => ?_⟩) HS.out ?_
    · (go_simp)
    simp only [Act.put, List.setIfInBounds_toArray, List.set_cons_zero, List.set_cons_succ]
    refine heldTake 5 (some 30) (.pointer (some ⟨A.x, 0, none⟩)) rfl rfl (by kernel_rfl) (by kernel_rfl) (by kernel_rfl) (fun _ _ _ h => h) (Or.inl ⟨by rfl, fun w hS => ?_⟩) HS.out ?_
    · (go_simp)
    simp only [Act.put, List.setIfInBounds_toArray, List.set_cons_zero, List.set_cons_succ]
    refine heldTake 6 (some 31) (.pointer (some ⟨A.x, 2, none⟩)) rfl rfl (by kernel_rfl) (by kernel_rfl) (by kernel_rfl) (fun _ _ _ h => h) (Or.inl ⟨by rfl, fun w hS => ?_⟩) HS.out ?_
    · (go_simp)
    simp only [Act.put, List.setIfInBounds_toArray, List.set_cons_zero, List.set_cons_succ]
    refine heldTake 7 (some 32) (.int .i64 (d.n : Int)) rfl rfl (by kernel_rfl) (by kernel_rfl) (by kernel_rfl) (fun _ _ _ h => h) (Or.inl ⟨by rfl, fun w hS => ?_⟩) HS.out ?_
    · (obtain ⟨p0, p1⟩ := hS; go_simp)
    simp only [Act.put, List.setIfInBounds_toArray, List.set_cons_zero, List.set_cons_succ]
    refine heldTake 8 (some 33) (.map (some bt)) rfl rfl (by kernel_rfl) (by kernel_rfl) (by kernel_rfl) (fun _ _ _ h => h) (Or.inl ⟨by rfl, fun w hS => ?_⟩) HS.out ?_
    · (go_simp)
    simp only [Act.put, List.setIfInBounds_toArray, List.set_cons_zero, List.set_cons_succ]
    refine heldOne 9 (by kernel_rfl) rfl (by rfl) (fun KK hK => ?_)
    go_simp
    go_at_call 94
    refine HRT.out.mono ?_
    rintro e w3 ⟨rfl, hB3⟩
    have hB3' := below_drew hB3
    have HD3 : Hid (Dbw w3 (A.to vr vw vp) op d1) := HD2.out.below hB3'
    have HT3 : Hid (Turn A.ft (A.to vr vw vp).ft w w3) := HT2.out.trans (Turn.of_below hB3')
    have HM3 : Hid (MpAt w3 bt tm) := HM2.out.below hB3'
    have HR3 : Hid (w3.heap[w.heap.size]? = some (.cells #[.int .i64 (t.high : Int), .int .i64 (t.free : Int), .int .i64 (t.last : Int), .int .i64 (t.r0 : Int), .int .i64 (t.r1 : Int), .int .i64 (t.r2 : Int), .int .i64 (t.r3 : Int)] 58 (0, 0))) := heap_next HR2.out hB3'
    have HS3 : Hid ((fun U : World => U.cell? ⟨A.x, 1, none⟩ = some (.pointer (some ⟨A.q, 0, none⟩)) ∧ U.cell? ⟨A.x, 2, none⟩ = some (.int .i64 (d.n : Int))) w3) := ⟨HD3.out.c1, by rw [← hn1]; exact HD3.out.c2⟩
    have HLF : Hid (w.heap.size ∉ (A.to vr vw vp).ft ∧ bt ∉ (A.to vr vw vp).ft) := ⟨HLN.out, HLB.out⟩
    clear hB3 hB3' HRT HD2 HT2 HM2 HR2 HS HLN HLB
    refine hK.out _ _ HS3.out ?_
    clear hK KK
    generalize hX : Pd.recText d.n tm = X at *
    clear hX
    have HAD : Hid (Calls Tryz.prog 93 #[.pointer (some ⟨A.q, 0, none⟩), .string X] w3 (PDoes w3 A.q A.g vr vw (Wl.addS d1.l X) (Wl.addE d1.l X))) := ladd_any A.q A.g vr vw d1.l X w3 HD3.out.lp.pk (by omega)
    obtain ⟨b1, b2, b3, b4, b5, b6⟩ := Wl.addS_base d1.l X
    have HBS : Hid ((Wl.addS d1.l X).base = d1.l.base ∧ (Wl.addS d1.l X).n = d1.l.n ∧ (Wl.addS d1.l X).bytes = d1.l.bytes) := ⟨b1, b2, b4⟩
    clear b1 b2 b3 b4 b5 b6
    generalize hl2 : Wl.addS d1.l X = l2 at *
    clear hl2
    generalize he2 : Wl.addE d1.l X = e2 at *
    clear he2
    refine heldOne 10 (by kernel_rfl) rfl (by rfl) (fun KK hK => ?_)
    go_simp
    go_at_call 93
    refine HAD.out.mono ?_
    rintro e w4 ⟨vr4, vw4, rfl, hP4, hT4⟩
    obtain ⟨hL4, hTL4⟩ := HD3.out.lp.p hP4 hT4 HBS.out.1 HBS.out.2.1
    obtain ⟨hD4, hTD4⟩ := HD3.out.turn (vr := vr4) (vw := vw4) (vp := vp) hL4 hTL4
    have HD4 : Hid (Dbw w4 (A.to vr4 vw4 vp) op { d1 with l := l2 }) := hD4
    have HT4 : Hid (Turn A.ft (A.to vr4 vw4 vp).ft w w4) := HT3.out.trans hTD4
    have HM4 : Hid (MpAt w4 bt tm) := HM3.out.chg hTD4.chg HLF.out.2
    have HR4 : Hid (w4.heap[w.heap.size]? = some (.cells #[.int .i64 (t.high : Int), .int .i64 (t.free : Int), .int .i64 (t.last : Int), .int .i64 (t.r0 : Int), .int .i64 (t.r1 : Int), .int .i64 (t.r2 : Int), .int .i64 (t.r3 : Int)] 58 (0, 0))) := heap_turn HR3.out hTD4 HLF.out.1
    have HLF4 : Hid (w.heap.size ∉ (A.to vr4 vw4 vp).ft ∧ bt ∉ (A.to vr4 vw4 vp).ft) := ⟨hTD4.apart (rs := [w.heap.size]) (fun k hk => by rw [List.mem_singleton.1 hk]; exact HLF.out.1) (fun k hk => by rw [List.mem_singleton.1 hk]; exact (Array.getElem?_eq_some_iff.1 HR3.out).1) _ List.mem_cons_self, hTD4.apart (rs := [bt]) (fun k hk => by rw [List.mem_singleton.1 hk]; exact HLF.out.2) (fun k hk => by rw [List.mem_singleton.1 hk]; exact HM3.out.lt) _ List.mem_cons_self⟩
    have HS4 : Hid ((fun U : World => U.cell? ⟨A.x, 1, none⟩ = some (.pointer (some ⟨A.q, 0, none⟩)) ∧ U.cell? ⟨A.x, 2, none⟩ = some (.int .i64 (d.n : Int))) w4) := ⟨hD4.c1, by rw [← hn1]; exact hD4.c2⟩
    clear hP4 hT4 hL4 hTL4 hD4 hTD4 HAD HD3 HT3 HM3 HR3 HS3 HLF
    refine hK.out _ _ HS4.out ?_
    clear hK KK
    refine heldTake 11 (some 8) (.int .i64 e2) rfl rfl (by kernel_rfl) (by kernel_rfl) (by kernel_rfl) (fun _ _ _ h => h) (Or.inl ⟨by rfl, fun w hS => ?_⟩) HS4.out ?_
    · (go_simp)
    simp only [Act.put, List.setIfInBounds_toArray, List.set_cons_zero, List.set_cons_succ]
    refine wpAnyH_done (by kernel_rfl) ?_ _
    clear HS4
    by_cases hz2 : e2 = 0
    · subst hz2
      rw [if_pos rfl] at HTT
      have htl := HTL2.out rfl
      have HSY : Hid (Calls Tryz.prog 95 #[.pointer (some ⟨A.q, 0, none⟩)] w4 (LDoes w4 A.q A.g vr4 vw4 A.kg vp (Wl.sycL l2 d1.s) (Wl.sycS l2 d1.s) (Wl.sycE l2 d1.s))) := lsync_any A.q A.g vr4 vw4 l2 A.kg vp d1.s w4 HD4.out.lp (HD4.out.safe.of (fun k hk => (A.to vr4 vw4 vp).ml hk)) (fun _ _ => ⟨htl.1, by rw [HBS.out.1, HBS.out.2.2]; exact htl.2⟩) (by rw [HBS.out.2.1]; omega) (by rw [HBS.out.2.1]; omega)
      have c1 : w4.cell? ⟨A.x, 1, none⟩ = some (.pointer (some ⟨A.q, 0, none⟩)) := HD4.out.c1
      clear htl HTL2
      generalize hl3 : Wl.sycL l2 d1.s = l3 at *
      clear hl3
      generalize hs3 : Wl.sycS l2 d1.s = s3 at *
      clear hs3
      generalize he3 : Wl.sycE l2 d1.s = e3 at *
      clear he3
      go_wp2_with fail
      refine HSY.out.mono ?_
      rintro e w5 ⟨vr5, vw5, vp5, rfl, hL5, hT5⟩
      obtain ⟨hD5, hTD5⟩ := HD4.out.turn (vr := vr5) (vw := vw5) (vp := vp5) hL5 hT5
      have HD5 : Hid (Dbw w5 (A.to vr5 vw5 vp5) op { d1 with l := l3, s := s3 }) := hD5
      have HT5 : Hid (Turn A.ft (A.to vr5 vw5 vp5).ft w w5) := HT4.out.trans hTD5
      have HM5 : Hid (MpAt w5 bt tm) := HM4.out.chg hTD5.chg HLF4.out.2
      have HR5 : Hid (w5.heap[w.heap.size]? = some (.cells #[.int .i64 (t.high : Int), .int .i64 (t.free : Int), .int .i64 (t.last : Int), .int .i64 (t.r0 : Int), .int .i64 (t.r1 : Int), .int .i64 (t.r2 : Int), .int .i64 (t.r3 : Int)] 58 (0, 0))) := heap_turn HR4.out hTD5 HLF4.out.1
      have HLF5 : Hid (w.heap.size ∉ (A.to vr5 vw5 vp5).ft ∧ bt ∉ (A.to vr5 vw5 vp5).ft) := ⟨hTD5.apart (rs := [w.heap.size]) (fun k hk => by rw [List.mem_singleton.1 hk]; exact HLF4.out.1) (fun k hk => by rw [List.mem_singleton.1 hk]; exact (Array.getElem?_eq_some_iff.1 HR4.out).1) _ List.mem_cons_self, hTD5.apart (rs := [bt]) (fun k hk => by rw [List.mem_singleton.1 hk]; exact HLF4.out.2) (fun k hk => by rw [List.mem_singleton.1 hk]; exact HM4.out.lt) _ List.mem_cons_self⟩
      clear hL5 hT5 hD5 hTD5 HSY HD4 HT4 HM4 HR4 HLF4 c1
      by_cases hz3 : e3 = 0
      · subst hz3
        rw [if_pos rfl] at HTT
        have c11 : w5.cell? ⟨A.x, 11, none⟩ = some (.map (some A.b)) := HD5.out.c11
        have hdl : d1.m.length + tm.length ≤ 100000 := by
          rcases hn3 with e | e
          · rw [e]; omega
          · rw [e]; simp; omega
        go_wp2_with fail
        refine (show Calls _ _ _ _ _ from mcopy_any A.b bt d1.m tm w5 HD5.out.mp HM5.out (fun e => HLF5.out.2 (by rw [← e]; exact (A.to vr5 vw5 vp5).mb)) hdl (fun p hp => by have := (HM.out.2.2.1 p hp).1; omega)).mono ?_
        rintro e w6 ⟨rfl, hM6, hg6⟩
        obtain ⟨hD6, hTD6⟩ := HD5.out.map hM6 hg6
        have HD6 : Hid (Dbw w6 (A.to vr5 vw5 vp5) op { d1 with m := Pd.copy d1.m tm, l := l3, s := s3 }) := hD6
        have HT6 : Hid (Turn A.ft (A.to vr5 vw5 vp5).ft w w6) := HT5.out.trans hTD6
        have HR6 : Hid (w6.heap[w.heap.size]? = some (.cells #[.int .i64 (t.high : Int), .int .i64 (t.free : Int), .int .i64 (t.last : Int), .int .i64 (t.r0 : Int), .int .i64 (t.r1 : Int), .int .i64 (t.r2 : Int), .int .i64 (t.r3 : Int)] 58 (0, 0))) := heap_turn HR5.out hTD6 HLF5.out.1
        clear hM6 hg6 hD6 hTD6 HD5 HT5 HM5 HR5 HLF5 c11 hdl
        have c4 : w6.cell? ⟨A.x, 4, none⟩ = some (.int .i64 (d1.st.high : Int)) := HD6.out.c4
        have f4 : w6.frozen? ⟨A.x, 4, none⟩ = false := HD6.out.fz 4
        have c5 : w6.cell? ⟨A.x, 5, none⟩ = some (.int .i64 (d1.st.free : Int)) := HD6.out.c5
        have f5 : w6.frozen? ⟨A.x, 5, none⟩ = false := HD6.out.fz 5
        have c6 : w6.cell? ⟨A.x, 6, none⟩ = some (.int .i64 (d1.st.last : Int)) := HD6.out.c6
        have f6 : w6.frozen? ⟨A.x, 6, none⟩ = false := HD6.out.fz 6
        have c7 : w6.cell? ⟨A.x, 7, none⟩ = some (.int .i64 (d1.st.r0 : Int)) := HD6.out.c7
        have f7 : w6.frozen? ⟨A.x, 7, none⟩ = false := HD6.out.fz 7
        have c8 : w6.cell? ⟨A.x, 8, none⟩ = some (.int .i64 (d1.st.r1 : Int)) := HD6.out.c8
        have f8 : w6.frozen? ⟨A.x, 8, none⟩ = false := HD6.out.fz 8
        have c9 : w6.cell? ⟨A.x, 9, none⟩ = some (.int .i64 (d1.st.r2 : Int)) := HD6.out.c9
        have f9 : w6.frozen? ⟨A.x, 9, none⟩ = false := HD6.out.fz 9
        have c10 : w6.cell? ⟨A.x, 10, none⟩ = some (.int .i64 (d1.st.r3 : Int)) := HD6.out.c10
        have f10 : w6.frozen? ⟨A.x, 10, none⟩ = false := HD6.out.fz 10
        have s0 : w6.cell? ⟨w.heap.size, 0, none⟩ = some (.int .i64 (t.high : Int)) := cell_of_row _ _ _ _ _ (0, 0) HR6.out
        have s1 : w6.cell? ⟨w.heap.size, 1, none⟩ = some (.int .i64 (t.free : Int)) := cell_of_row _ _ _ _ _ (0, 0) HR6.out
        have s2 : w6.cell? ⟨w.heap.size, 2, none⟩ = some (.int .i64 (t.last : Int)) := cell_of_row _ _ _ _ _ (0, 0) HR6.out
        have s3 : w6.cell? ⟨w.heap.size, 3, none⟩ = some (.int .i64 (t.r0 : Int)) := cell_of_row _ _ _ _ _ (0, 0) HR6.out
        have s4 : w6.cell? ⟨w.heap.size, 4, none⟩ = some (.int .i64 (t.r1 : Int)) := cell_of_row _ _ _ _ _ (0, 0) HR6.out
        have s5 : w6.cell? ⟨w.heap.size, 5, none⟩ = some (.int .i64 (t.r2 : Int)) := cell_of_row _ _ _ _ _ (0, 0) HR6.out
        have s6 : w6.cell? ⟨w.heap.size, 6, none⟩ = some (.int .i64 (t.r3 : Int)) := cell_of_row _ _ _ _ _ (0, 0) HR6.out
        go_wp2
        go_ret
        obtain ⟨y1, y2⟩ := HD6.out.setSt t
        rw [HTT.out]
        exact ⟨vr5, vw5, vp5, rfl, y1, HT6.out.trans y2⟩
      · have hb : (e3 != 0) = true := by simp [hz3]
        rw [if_neg hz3] at HTT
        have HFN : Hid (DDoes w A op (Pd.takeT d tm t).1 (Pd.takeT d tm t).2 (.returned (.int .i64 e3)) w5) := by
          rw [HTT.out]
          exact ⟨vr5, vw5, vp5, rfl, HD5.out, HT5.out⟩
        go_wp2
        go_ret
        exact HFN.out
    · have hb : (e2 != 0) = true := by simp [hz2]
      rw [if_neg hz2] at HTT
      have HFN : Hid (DDoes w A op (Pd.takeT d tm t).1 (Pd.takeT d tm t).2 (.returned (.int .i64 e2)) w4) := by
        rw [HTT.out]
        exact ⟨vr4, vw4, vp, rfl, HD4.out, HT4.out⟩
      go_wp2
      go_ret
      exact HFN.out
end Go.Proofs.YtcfninpokngmlaaGreatDoor
