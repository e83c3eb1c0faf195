/- Proved: a database in memory, its log, its disk and its map of pages: what stays while other things change. -/
import Derived.Test.YtcfninpokngmlaaGreatDoorDRrc
namespace Pd
/- a database: how many sectors its log has, how many pages there are, its state, what the log tells of pages, whether it is lost, its log, its disk -/
structure Db where
  n : Nat
  cnt : Nat
  st : Stt
  m : Mp
  lost : Bool
  l : Wl.Lg
  s : Sc.St
end Pd
namespace Go.Proofs.YtcfninpokngmlaaGreatDoor
open Go.RowKit
/- where a database lies -/
structure Ad where
  x : Nat
  g : Nat
  q : Nat
  b : Nat
  kg : Nat
  vr : Value
  vw : Value
  vp : Value
def Ad.lf (A : Ad) : List Nat := lfoot A.q A.g A.vr A.vw A.kg A.vp
def Ad.ft (A : Ad) : List Nat := A.x :: A.b :: A.lf
def Ad.to (A : Ad) (vr vw vp : Value) : Ad := { A with vr := vr, vw := vw, vp := vp }
def dbA (A : Ad) (op : Value) (d : Pd.Db) : Array Value := #[ptr A.g, ptr A.q, .int .i64 (d.n : Int), .int .i64 (d.cnt : Int), .int .i64 (d.st.high : Int), .int .i64 (d.st.free : Int), .int .i64 (d.st.last : Int), .int .i64 (d.st.r0 : Int), .int .i64 (d.st.r1 : Int), .int .i64 (d.st.r2 : Int), .int .i64 (d.st.r3 : Int), .map (some A.b), op, .bool d.lost]
structure Dbw (w : World) (A : Ad) (op : Value) (d : Pd.Db) : Prop where
  row : w.heap[A.x]? = some (.cells (dbA A op d) 61 (0, 0))
  mp : MpAt w A.b d.m
  lp : LP w A.q A.g A.vr A.vw d.l A.kg A.vp d.s
  safe : Safe w A.ft
  ax : A.x ∉ A.lf
  ab : A.b ∉ A.lf
  xb : A.x ≠ A.b
section
variable {w w' : World} {A : Ad} {op : Value} {d : Pd.Db}
theorem Dbw.cell (H : Dbw w A op d) (i : Nat) : w.cell? ⟨A.x, i, none⟩ = (dbA A op d)[i]? := cell_of_row w A.x i _ _ (0, 0) H.row
theorem Dbw.c0 (H : Dbw w A op d) : w.cell? ⟨A.x, 0, none⟩ = some (ptr A.g) := by rw [H.cell]; rfl
theorem Dbw.c1 (H : Dbw w A op d) : w.cell? ⟨A.x, 1, none⟩ = some (ptr A.q) := by rw [H.cell]; rfl
theorem Dbw.c2 (H : Dbw w A op d) : w.cell? ⟨A.x, 2, none⟩ = some (.int .i64 (d.n : Int)) := by rw [H.cell]; rfl
theorem Dbw.c3 (H : Dbw w A op d) : w.cell? ⟨A.x, 3, none⟩ = some (.int .i64 (d.cnt : Int)) := by rw [H.cell]; rfl
theorem Dbw.c4 (H : Dbw w A op d) : w.cell? ⟨A.x, 4, none⟩ = some (.int .i64 (d.st.high : Int)) := by rw [H.cell]; rfl
theorem Dbw.c5 (H : Dbw w A op d) : w.cell? ⟨A.x, 5, none⟩ = some (.int .i64 (d.st.free : Int)) := by rw [H.cell]; rfl
theorem Dbw.c6 (H : Dbw w A op d) : w.cell? ⟨A.x, 6, none⟩ = some (.int .i64 (d.st.last : Int)) := by rw [H.cell]; rfl
theorem Dbw.c7 (H : Dbw w A op d) : w.cell? ⟨A.x, 7, none⟩ = some (.int .i64 (d.st.r0 : Int)) := by rw [H.cell]; rfl
theorem Dbw.c8 (H : Dbw w A op d) : w.cell? ⟨A.x, 8, none⟩ = some (.int .i64 (d.st.r1 : Int)) := by rw [H.cell]; rfl
theorem Dbw.c9 (H : Dbw w A op d) : w.cell? ⟨A.x, 9, none⟩ = some (.int .i64 (d.st.r2 : Int)) := by rw [H.cell]; rfl
theorem Dbw.c10 (H : Dbw w A op d) : w.cell? ⟨A.x, 10, none⟩ = some (.int .i64 (d.st.r3 : Int)) := by rw [H.cell]; rfl
theorem Dbw.c11 (H : Dbw w A op d) : w.cell? ⟨A.x, 11, none⟩ = some (.map (some A.b)) := by rw [H.cell]; rfl
theorem Dbw.c12 (H : Dbw w A op d) : w.cell? ⟨A.x, 12, none⟩ = some op := by rw [H.cell]; rfl
theorem Dbw.c13 (H : Dbw w A op d) : w.cell? ⟨A.x, 13, none⟩ = some (.bool d.lost) := by rw [H.cell]; rfl
theorem Dbw.fz (H : Dbw w A op d) (i : Nat) : w.frozen? ⟨A.x, i, none⟩ = false := frozen_of_row w A.x i _ _ H.row
theorem Dbw.xlt (H : Dbw w A op d) : A.x < w.heap.size := (Array.getElem?_eq_some_iff.1 H.row).1
theorem Dbw.tab (H : Dbw w A op d) : Tab w := H.safe.tab
theorem Dbw.lt (H : Dbw w A op d) : ∀ k ∈ A.ft, k < w.heap.size := fun k hk => by
  rcases List.mem_cons.1 hk with rfl | hk
  · exact H.xlt
  · rcases List.mem_cons.1 hk with rfl | hk
    · exact H.mp.lt
    · exact H.lp.lt k hk
theorem Ad.mx (A : Ad) : A.x ∈ A.ft := List.mem_cons_self
theorem Ad.mb (A : Ad) : A.b ∈ A.ft := List.mem_cons_of_mem _ List.mem_cons_self
theorem Ad.ml (A : Ad) {k : Nat} (h : k ∈ A.lf) : k ∈ A.ft := List.mem_cons_of_mem _ (List.mem_cons_of_mem _ h)
theorem Dbw.keep (H : Dbw w A op d) {fs : List Nat} (hc : Chg fs w w') (ha : ∀ k ∈ A.ft, k ∉ fs) (h0 : 0 ∉ fs) : Dbw w' A op d :=
  ⟨(hc.block A.x H.xlt (ha _ A.mx)).trans H.row, H.mp.chg hc (ha _ A.mb), H.lp.keep hc (fun k hk => ha k (A.ml hk)), ⟨H.safe.tab.of_block (hc.block 0 H.safe.tab.pos h0), H.safe.no⟩, H.ax, H.ab, H.xb⟩
theorem Dbw.below (H : Dbw w A op d) (hB : Below w.heap.size w w') : Dbw w' A op d := H.keep (fs := []) (Chg.of_below hB) (by simp) (by simp)
theorem Dbw.alloc (H : Dbw w A op d) (o : Obj) : Dbw (w.alloc o) A op d := H.keep (Chg.alloc [] w o) (by simp) (by simp)
theorem Dbw.drewN (H : Dbw w A op d) (n : Nat) : Dbw (w.drewN n) A op d := H.keep (fs := []) ⟨rfl, rfl, rfl, Nat.le_refl _, fun _ _ _ => rfl⟩ (by simp) (by simp)
theorem Dbw.drew (H : Dbw w A op d) : Dbw w.drew A op d := H.keep (fs := []) ⟨rfl, rfl, rfl, Nat.le_refl _, fun _ _ _ => rfl⟩ (by simp) (by simp)
/- the log or the disk turn -/
theorem Dbw.turn (H : Dbw w A op d) {vr vw vp : Value} {l : Wl.Lg} {s : Sc.St} (hL : LP w' A.q A.g vr vw l A.kg vp s) (hT : Turn A.lf (A.to vr vw vp).lf w w') :
    Dbw w' (A.to vr vw vp) op { d with l := l, s := s } ∧ Turn A.ft (A.to vr vw vp).ft w w' := by
  have hTT : Turn A.ft (A.to vr vw vp).ft w w' := by
    refine ⟨hT.chg.mono (fun k hk => A.ml hk), fun k hk => ?_⟩
    rcases List.mem_cons.1 hk with rfl | hk
    · exact .inl A.mx
    · rcases List.mem_cons.1 hk with rfl | hk
      · exact .inl A.mb
      · rcases hT.grow k hk with h | h
        · exact .inl (A.ml h)
        · exact .inr h
  refine ⟨⟨(hT.chg.block A.x H.xlt H.ax).trans H.row, H.mp.chg hT.chg H.ab, hL, H.safe.turn hTT, ?_, ?_, H.xb⟩, hTT⟩
  · exact hT.apart (rs := [A.x]) (fun k hk => by rw [List.mem_singleton.1 hk]; exact H.ax) (fun k hk => by rw [List.mem_singleton.1 hk]; exact H.xlt) A.x List.mem_cons_self
  · exact hT.apart (rs := [A.b]) (fun k hk => by rw [List.mem_singleton.1 hk]; exact H.ab) (fun k hk => by rw [List.mem_singleton.1 hk]; exact H.mp.lt) A.b List.mem_cons_self
/- the database's own cells are written -/
theorem Dbw.cells (H : Dbw w A op d) {op' : Value} {d' : Pd.Db} (hc : Chg [A.x] w w') (hr : w'.heap[A.x]? = some (.cells (dbA A op' d') 61 (0, 0))) (hm : d'.m = d.m) (hl : d'.l = d.l) (hs : d'.s = d.s) : Dbw w' A op' d' ∧ Turn A.ft A.ft w w' := by
  have h0 : (0 : Nat) ∉ [A.x] := fun hm => H.safe.no (by rw [List.mem_singleton.1 hm]; exact A.mx)
  refine ⟨⟨hr, ?_, ?_, ⟨H.safe.tab.of_block (hc.block 0 H.safe.tab.pos h0), H.safe.no⟩, H.ax, H.ab, H.xb⟩, ⟨hc.mono (fun k hk => by rw [List.mem_singleton.1 hk]; exact A.mx), fun k hk => .inl hk⟩⟩
  · rw [hm]
    exact H.mp.chg hc (fun e => H.xb (List.mem_singleton.1 e).symm)
  · rw [hl, hs]
    exact H.lp.keep hc (fun k hk e => H.ax (by rw [← List.mem_singleton.1 e]; exact hk))
theorem Dbw.set (H : Dbw w A op d) {op' : Value} {d' : Pd.Db} (i : Nat) (v : Value) (e : (dbA A op d).setIfInBounds i v = dbA A op' d') (hm : d'.m = d.m) (hl : d'.l = d.l) (hs : d'.s = d.s) : Dbw (w.setCell ⟨A.x, i, none⟩ v) A op' d' ∧ Turn A.ft A.ft w (w.setCell ⟨A.x, i, none⟩ v) :=
  H.cells (Chg.setCell w A.x i v) (by rw [heap_setCell_same w A.x i _ _ _ H.row, e]) hm hl hs
/- its map turns -/
theorem Dbw.map (H : Dbw w A op d) {m : Pd.Mp} (hM : MpAt w' A.b m) (hg : w.grownBy w' (some A.b)) : Dbw w' A op { d with m := m } ∧ Turn A.ft A.ft w w' := by
  have hc : Chg [A.b] w w' := (Chg.grown hg).mono (fun k hk => by simpa using hk)
  have h0 : (0 : Nat) ∉ [A.b] := fun hm => H.safe.no (by rw [List.mem_singleton.1 hm]; exact A.mb)
  refine ⟨⟨(hc.block A.x H.xlt (fun e => H.xb (List.mem_singleton.1 e))).trans H.row, hM, H.lp.keep hc (fun k hk e => H.ab (by rw [← List.mem_singleton.1 e]; exact hk)), ⟨H.safe.tab.of_block (hc.block 0 H.safe.tab.pos h0), H.safe.no⟩, H.ax, H.ab, H.xb⟩, ⟨hc.mono (fun k hk => by rw [List.mem_singleton.1 hk]; exact A.mb), fun k hk => .inl hk⟩⟩
end
end Go.Proofs.YtcfninpokngmlaaGreatDoor
