/- Proved: what pagedb's sealed, freeSheet, readFree, and its states' sound, sheet and readState answer. -/
import Derived.Test.YtcfninpokngmlaaGreatDoorDNum
import Derived.Test.YtcfninpokngmlaaGreatDoorDMem
import Derived.LoopN
import Derived.Handy
namespace Go.Proofs.YtcfninpokngmlaaGreatDoor
open Go.RowKit
def shA (x : Pd.Sheet) : Array Value := #[.int .i64 (x.kind : Int), .string x.body]
def stA (t : Pd.Stt) : Array Value := #[.int .i64 (t.high : Int), .int .i64 (t.free : Int), .int .i64 (t.last : Int), .int .i64 (t.r0 : Int), .int .i64 (t.r1 : Int), .int .i64 (t.r2 : Int), .int .i64 (t.r3 : Int)]
def stV (t : Pd.Stt) : Value := .agg (stA t)
theorem sizeSh : (Tryz.prog.info? 102).map (·.size) = some 2 := by kernel_rfl
theorem sizeSt : (Tryz.prog.info? 58).map (·.size) = some 7 := by kernel_rfl
theorem row2 {w : World} {g t : Nat} {a b : Value} (h : w.heap[g]? = some (.cells #[a, b] t (0, 0))) (x y : Value) : ((w.setCell ⟨g, 0, none⟩ x).setCell ⟨g, 1, none⟩ y).heap[g]? = some (.cells #[x, y] t (0, 0)) := setCells_splice g t [x, y] 0 [a, b] w h (by simp)
theorem row7 {w : World} {g t : Nat} {a0 a1 a2 a3 a4 a5 a6 : Value} (h : w.heap[g]? = some (.cells #[a0, a1, a2, a3, a4, a5, a6] t (0, 0))) (x0 x1 x2 x3 x4 x5 x6 : Value) : (w.setCells g 0 [x0, x1, x2, x3, x4, x5, x6]).heap[g]? = some (.cells #[x0, x1, x2, x3, x4, x5, x6] t (0, 0)) := setCells_splice g t [x0, x1, x2, x3, x4, x5, x6] 0 [a0, a1, a2, a3, a4, a5, a6] w h (by simp)
theorem results_sh {fn : Func} {p : Tmp} (h : fn.results = #[.cell p 102]) (tmps : Array Value) (w : World) (g t : Nat) (x y : Value) (hp : tmps.getD p undef = .pointer (some ⟨g, 0, none⟩)) (hg : w.heap[g]? = some (.cells #[x, y] t (0, 0))) :
    (results fn tmps).run Tryz.prog w = .ok (.agg #[x, y]) w := results_cell_row h tmps w g t #[x, y] (0, 0) _ hp hg Tryz.underlying102 rfl sizeSh
theorem results_she {fn : Func} {p u : Tmp} (h : fn.results = #[.cell p 102, .tmp u]) (tmps : Array Value) (w : World) (g t : Nat) (x y v : Value) (hp : tmps.getD p undef = .pointer (some ⟨g, 0, none⟩)) (hv : tmps.getD u undef = v) (hg : w.heap[g]? = some (.cells #[x, y] t (0, 0))) :
    (results fn tmps).run Tryz.prog w = .ok (.tuple #[.agg #[x, y], v]) w := by
  have hp' : tmps[p]?.getD undef = .pointer (some ⟨g, 0, none⟩) := by simpa using hp
  have hv' : tmps[u]?.getD undef = v := by simpa using hv
  simp [results, h, hp', hv', asAddr, run_loadVar_row w g t 102 #[x, y] (0, 0) _ hg Tryz.underlying102 rfl sizeSh]
theorem results_stb {fn : Func} {p u : Tmp} (h : fn.results = #[.cell p 58, .tmp u]) (tmps : Array Value) (w : World) (g t : Nat) (s : Pd.Stt) (v : Value) (hp : tmps.getD p undef = .pointer (some ⟨g, 0, none⟩)) (hv : tmps.getD u undef = v) (hg : w.heap[g]? = some (.cells (stA s) t (0, 0))) :
    (results fn tmps).run Tryz.prog w = .ok (.tuple #[stV s, v]) w := by
  have hp' : tmps[p]?.getD undef = .pointer (some ⟨g, 0, none⟩) := by simpa using hp
  have hv' : tmps[u]?.getD undef = v := by simpa using hv
  have hl := run_loadVar_row w g t 58 (stA s) (0, 0) _ hg Tryz.underlying58 rfl sizeSt
  unfold stV
  simp [results, h, hp', hv', asAddr, hl]
set_option maxHeartbeats 1000000 in
theorem sealed_any (id : Nat) (x : Pd.Sheet) (w : World) (hT : Tab w) (hx : x.Fine) (hi : id ≤ 2147483647) :
    Calls Tryz.prog 105 #[.int .i64 (id : Int), shV x] w fun e w' => e = .returned (.string (Pd.pageOf id x)) ∧ Below w.heap.size w w' := by
  have HT : Hid (Tab w) := hT
  have HB0 : Hid (Below w.heap.size w (w.alloc (.cells (shA x) 102))) := (Below.refl _ _).alloc (Nat.le_refl _) _
  have HS : Hid (Calls Tryz.prog 117 #[.int .i64 (id : Int), .int .i64 (x.kind : Int), .string x.body] (w.alloc (.cells (shA x) 102)) fun e w' => e = .returned (.tuple #[.string (Pd.pageOf id x), .int .i64 (Pg.sealE (id : Int) (x.kind : Int) x.body)]) ∧ Below (w.alloc (.cells (shA x) 102)).heap.size (w.alloc (.cells (shA x) 102)) w') := by
    have := seal_any (id : Int) (x.kind : Int) x.body (w.alloc (.cells (shA x) 102)) (hT.below HB0.out hT.pos)
    rw [Pd.pageOf_seal hx hi] at this
    exact this
  have h0 : (w.alloc (.cells (shA x) 102)).cell? ⟨w.heap.size, 0, none⟩ = some (.int .i64 (x.kind : Int)) := cell_of_row _ _ _ _ _ (0, 0) (heap_alloc_new w _)
  have h1 : (w.alloc (.cells (shA x) 102)).cell? ⟨w.heap.size, 1, none⟩ = some (.string x.body) := cell_of_row _ _ _ _ _ (0, 0) (heap_alloc_new w _)
  generalize Pg.sealE (id : Int) (x.kind : Int) x.body = e0 at *
  generalize Pd.pageOf id x = pg at *
  clear hT hx
  unfold shV
  change Calls Tryz.prog 105 #[.int .i64 (id : Int), .agg (shA x)] w _
  go_enter Tryz.func105, Tryz.ntmps105
  go_wp2_with (first | (generalize World.alloc w _ = w0 at *; fail) | fail)
  generalize World.alloc w _ = w0 at *
  go_wp2_with fail
  refine HS.out.mono ?_
  rintro e w1 ⟨rfl, hB1⟩
  have HB1 : Hid (Below w.heap.size w w1) := below_next HB0.out hB1 HB0.out.size
  clear hB1 HS
  go_wp2
  go_ret
  exact ⟨rfl, HB1.out⟩
set_option maxHeartbeats 1000000 in
theorem freeSheet_any (n : Nat) (w : World) :
    Calls Tryz.prog 66 #[.int .i64 (n : Int)] w fun e w' => e = .returned (shV (Pd.freeSheet n)) ∧ Below w.heap.size w w' := by
  have hz := zeroSh
  unfold shV sh00 Pd.none0 at hz
  show Calls Tryz.prog 66 #[.int .i64 (n : Int)] w fun e w' => e = .returned (.agg #[.int .i64 255, .string (Wl.put n 4)]) ∧ Below w.heap.size w w'
  have HB0 : Hid (Below w.heap.size w (w.alloc (.cells #[.int .i64 0, .string ⟨#[]⟩] 102))) := (Below.refl _ _).alloc (Nat.le_refl _) _
  have HR0 : Hid ((w.alloc (.cells #[.int .i64 0, .string ⟨#[]⟩] 102)).heap[w.heap.size]? = some (.cells #[.int .i64 0, .string ⟨#[]⟩] 102 (0, 0))) := heap_alloc_new w _
  have HN : Hid (∀ W, Calls Tryz.prog 90 #[.int .i64 (n : Int)] W fun e w' => e = .returned (.string (Wl.put n 4)) ∧ Below W.heap.size W w') := fun W => ntext_any n W
  go_enter Tryz.func66, Tryz.ntmps66
  go_wp2_with fail
  generalize World.alloc w _ = w0 at *
  refine (HN.out w0).mono ?_
  rintro e w1 ⟨rfl, hB1⟩
  have HB1 : Hid (Below w.heap.size w w1) := below_next HB0.out hB1 HB0.out.size
  have HR1 : Hid (w1.heap[w.heap.size]? = some (.cells #[.int .i64 0, .string ⟨#[]⟩] 102 (0, 0))) := heap_next HR0.out hB1
  clear hB1 HN HB0 HR0
  have f0 := frozen_of_row w1 w.heap.size 0 _ _ HR1.out
  have f1 := frozen_of_row w1 w.heap.size 1 _ _ HR1.out
  have c0 : w1.cell? ⟨w.heap.size, 0, none⟩ = some (.int .i64 0) := cell_of_row _ _ _ _ _ (0, 0) HR1.out
  have c1 : w1.cell? ⟨w.heap.size, 1, none⟩ = some (.string ⟨#[]⟩) := cell_of_row _ _ _ _ _ (0, 0) HR1.out
  go_wp2
  exact bodyPost_ret (results_sh Tryz.results66 _ _ w.heap.size 102 _ _ rfl (row2 HR1.out _ _)) rfl ⟨rfl, (HB1.out.setCell (by simp) _).setCell (by simp) _⟩
end Go.Proofs.YtcfninpokngmlaaGreatDoor
