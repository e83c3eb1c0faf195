/- Proved: how an inode, and what is archived, lie in memory; when two of them are equal. -/
import Derived.Test.YtealbeblkilibaaDoorJ10
import Derived.Stop.BytesEq
import Derived.ChangeKeysEq
namespace Go.Proofs.YtealbeblkilibaaDoor
open Go.RowKit
open Ino (Nd Ar)
def c8 (b : UInt8) : Value := .int .u8 (b.toNat : Int)
def ndl (n : Nd) : List Value := .int .i64 n.kind :: .int .i64 n.size :: (n.sum.map c8 ++ [.int .i64 n.content, .int .i64 n.version, .int .i64 n.opened])
def ndc (n : Nd) : Array Value := (ndl n).toArray
def arl (a : Ar) : List Value := .int .i64 a.version :: .int .i64 a.size :: a.sum.map c8
def arc (a : Ar) : Array Value := (arl a).toArray
def smc (d : List UInt8) : Array Value := (d.map c8).toArray
theorem ndc_size {n : Nd} (h : n.sum.length = 32) : (ndc n).size = 37 := by
  simp [ndc, ndl, h]
theorem arc_size {a : Ar} (h : a.sum.length = 32) : (arc a).size = 34 := by
  simp [arc, arl, h]
theorem smc_size {d : List UInt8} (h : d.length = 32) : (smc d).size = 32 := by
  simp [smc, h]
theorem ndc0 (n : Nd) : (ndc n)[0]? = some (.int .i64 n.kind) := by simp [ndc, ndl]
theorem ndc1 (n : Nd) : (ndc n)[1]? = some (.int .i64 n.size) := by simp [ndc, ndl]
theorem ndc34 {n : Nd} (h : n.sum.length = 32) : (ndc n)[34]? = some (.int .i64 n.content) := by
  rw [ndc, List.getElem?_toArray, ndl, List.getElem?_cons_succ, List.getElem?_cons_succ, List.getElem?_append_right (by simp [h])]
  simp [h]
theorem ndc35 {n : Nd} (h : n.sum.length = 32) : (ndc n)[35]? = some (.int .i64 n.version) := by
  rw [ndc, List.getElem?_toArray, ndl, List.getElem?_cons_succ, List.getElem?_cons_succ, List.getElem?_append_right (by simp [h])]
  simp [h]
theorem ndc36 {n : Nd} (h : n.sum.length = 32) : (ndc n)[36]? = some (.int .i64 n.opened) := by
  rw [ndc, List.getElem?_toArray, ndl, List.getElem?_cons_succ, List.getElem?_cons_succ, List.getElem?_append_right (by simp [h])]
  simp [h]
theorem ndc_sum {n : Nd} (h : n.sum.length = 32) : (ndc n).extract 2 34 = smc n.sum := by
  rw [smc, ndc, List.extract_toArray, ndl]
  congr 1
  rw [List.extract_eq_take_drop]
  simp [h]
theorem arc0 (a : Ar) : (arc a)[0]? = some (.int .i64 a.version) := by simp [arc, arl]
theorem arc1 (a : Ar) : (arc a)[1]? = some (.int .i64 a.size) := by simp [arc, arl]
theorem arc_sum {a : Ar} (h : a.sum.length = 32) : (arc a).extract 2 34 = smc a.sum := by
  rw [smc, arc, List.extract_toArray, arl]
  congr 1
  rw [List.extract_eq_take_drop]
  exact List.take_of_length_le (by simp [h])
theorem ndc_one (n : Nd) : (ndc n).all (·.oneCell') = true := by
  rw [Array.all_eq_true_iff_forall_mem]
  intro v hv
  simp only [ndc, ndl, List.mem_toArray, List.mem_cons, List.mem_append, List.mem_map] at hv
  rcases hv with rfl | rfl | ⟨x, _, rfl⟩ | rfl | rfl | rfl | hv <;> first | rfl | cases hv
theorem arc_one (a : Ar) : (arc a).all (·.oneCell') = true := by
  rw [Array.all_eq_true_iff_forall_mem]
  intro v hv
  simp only [arc, arl, List.mem_toArray, List.mem_cons, List.mem_map] at hv
  rcases hv with rfl | rfl | ⟨x, _, rfl⟩ <;> rfl
theorem smc_one (d : List UInt8) : (smc d).all (·.oneCell') = true := by
  rw [Array.all_eq_true_iff_forall_mem]
  intro v hv
  simp only [smc, List.mem_toArray, List.mem_map] at hv
  obtain ⟨x, _, rfl⟩ := hv
  rfl
theorem size39 : (Tryd.prog.info? 39).map (·.size) = some 37 := by kernel_rfl
theorem size55 : (Tryd.prog.info? 55).map (·.size) = some 34 := by kernel_rfl
theorem size37 : (Tryd.prog.info? 37).map (·.size) = some 32 := by kernel_rfl
/- an inode in a block -/
structure NdAt (w : World) (g : Nat) (n : Nd) : Prop where
  row : w.heap[g]? = some (.cells (ndc n) 39 (0, 0))
  kind : w.cell? ⟨g, 0, none⟩ = some (.int .i64 n.kind)
  size : w.cell? ⟨g, 1, none⟩ = some (.int .i64 n.size)
  sum : w.rangeAt g 2 (n.sum.map c8)
  content : w.cell? ⟨g, 34, none⟩ = some (.int .i64 n.content)
  version : w.cell? ⟨g, 35, none⟩ = some (.int .i64 n.version)
  opened : w.cell? ⟨g, 36, none⟩ = some (.int .i64 n.opened)
theorem nd_at {w : World} {g : Nat} {n : Nd} (h : n.sum.length = 32) (hr : w.heap[g]? = some (.cells (ndc n) 39 (0, 0))) : NdAt w g n := by
  refine ⟨hr, ?_, ?_, fun j v hv => ?_, ?_, ?_, ?_⟩
  · rw [cell_of_row w g 0 _ 39 (0, 0) hr]; exact ndc0 n
  · rw [cell_of_row w g 1 _ 39 (0, 0) hr]; exact ndc1 n
  · rw [cell_of_row w g (2 + j) _ 39 (0, 0) hr]
    have hj : j < (n.sum.map c8).length := (List.getElem?_eq_some_iff.1 hv).1
    rw [ndc, List.getElem?_toArray, ndl, show 2 + j = j + 1 + 1 by omega, List.getElem?_cons_succ, List.getElem?_cons_succ, List.getElem?_append_left hj, hv]
  · rw [cell_of_row w g 34 _ 39 (0, 0) hr]; exact ndc34 h
  · rw [cell_of_row w g 35 _ 39 (0, 0) hr]; exact ndc35 h
  · rw [cell_of_row w g 36 _ 39 (0, 0) hr]; exact ndc36 h
theorem NdAt.below {w w' : World} {g B : Nat} {n : Nd} (h : NdAt w g n) (hb : Below B w w') (hg : g < B) : NdAt w' g n :=
  ⟨(hb.block g hg).trans h.row, (hb.cell (p := ⟨g, 0, none⟩) hg).trans h.kind, (hb.cell (p := ⟨g, 1, none⟩) hg).trans h.size, fun j v hv => (hb.cell (p := ⟨g, 2 + j, none⟩) hg).trans (h.sum j v hv), (hb.cell (p := ⟨g, 34, none⟩) hg).trans h.content, (hb.cell (p := ⟨g, 35, none⟩) hg).trans h.version, (hb.cell (p := ⟨g, 36, none⟩) hg).trans h.opened⟩
theorem NdAt.lt {w : World} {g : Nat} {n : Nd} (h : NdAt w g n) : g < w.heap.size := (Array.getElem?_eq_some_iff.1 h.row).1
structure ArAt (w : World) (g : Nat) (a : Ar) : Prop where
  row : w.heap[g]? = some (.cells (arc a) 55 (0, 0))
  version : w.cell? ⟨g, 0, none⟩ = some (.int .i64 a.version)
  size : w.cell? ⟨g, 1, none⟩ = some (.int .i64 a.size)
  sum : w.rangeAt g 2 (a.sum.map c8)
theorem ar_at {w : World} {g : Nat} {a : Ar} (hr : w.heap[g]? = some (.cells (arc a) 55 (0, 0))) : ArAt w g a := by
  refine ⟨hr, ?_, ?_, fun j v hv => ?_⟩
  · rw [cell_of_row w g 0 _ 55 (0, 0) hr]; exact arc0 a
  · rw [cell_of_row w g 1 _ 55 (0, 0) hr]; exact arc1 a
  · rw [cell_of_row w g (2 + j) _ 55 (0, 0) hr]
    rw [arc, List.getElem?_toArray, arl, show 2 + j = j + 1 + 1 by omega, List.getElem?_cons_succ, List.getElem?_cons_succ, hv]
theorem ArAt.below {w w' : World} {g B : Nat} {a : Ar} (h : ArAt w g a) (hb : Below B w w') (hg : g < B) : ArAt w' g a :=
  ⟨(hb.block g hg).trans h.row, (hb.cell (p := ⟨g, 0, none⟩) hg).trans h.version, (hb.cell (p := ⟨g, 1, none⟩) hg).trans h.size, fun j v hv => (hb.cell (p := ⟨g, 2 + j, none⟩) hg).trans (h.sum j v hv)⟩
theorem ArAt.lt {w : World} {g : Nat} {a : Ar} (h : ArAt w g a) : g < w.heap.size := (Array.getElem?_eq_some_iff.1 h.row).1
/- ---- equality ---- -/
theorem size5 (w : World) : (sizeOf 5).run Tryd.prog w = .ok 1 w := by
  have c : Tryd.prog.cellsOf 5 = 1 := by kernel_rfl
  rw [run_sizeOf w (i := Tryd.t5) (by kernel_rfl), c]
theorem sum_eq (a b : List UInt8) (ha : a.length = 32) (hb : b.length = 32) (d : Nat) (W : World) : (Op.equalIn (d + 2) 37 (.agg (smc a)) (.agg (smc b))).run Tryd.prog W = .ok (a == b) W :=
  run_equalIn_bytes (P := Tryd.prog) W d 37 5 32 Tryd.underlying37 Tryd.underlying5 size5 a b ha hb
theorem part_int {xs : Array Value} {off : Nat} {v : Value} (hx : xs[off]? = some v) (W : World) : (part 3 xs off).run Tryd.prog W = .ok v W := run_part_plain W (by kernel_rfl) hx
theorem part_sum (xs : Array Value) (off : Nat) (W : World) : (part 37 xs off).run Tryd.prog W = .ok (.agg (xs.extract off (off + 32))) W := by
  have c : Tryd.prog.cellsOf 37 = 32 := by kernel_rfl
  have h1 : (sizeOf 37).run Tryd.prog W = .ok 32 W := by rw [run_sizeOf W (i := Tryd.t37) (by kernel_rfl), c]
  simp [part, isAgg, run_underlying Tryd.underlying37]
theorem fields39 : (Tryd.prog.fieldsOf 39).toList.map (fun f => (f.name, f.type, f.offset)) = [("Kind", 3, 0), ("Size", 3, 1), ("Sum", 37, 2), ("Content", 3, 34), ("Version", 3, 35), ("Opened", 3, 36)] := by kernel_rfl
theorem fields55 : (Tryd.prog.fieldsOf 55).toList.map (fun f => (f.name, f.type, f.offset)) = [("Version", 3, 0), ("Size", 3, 1), ("Sum", 37, 2)] := by kernel_rfl
theorem eqf_nil (d : Nat) (xs ys : Array Value) (W : World) : (Op.eqFields d xs ys []).run Tryd.prog W = .ok true W := by simp [Op.eqFields]
theorem eqf_cons (d : Nat) (xs ys : Array Value) (f : Field) (fs : List Field) (W : World) (a b : Value) (r q : Bool) (hn : f.name ≠ "_") (ha : (part f.type xs f.offset).run Tryd.prog W = .ok a W) (hb : (part f.type ys f.offset).run Tryd.prog W = .ok b W)
    (hr : (Op.equalIn d f.type a b).run Tryd.prog W = .ok r W) (hq : (Op.eqFields d xs ys fs).run Tryd.prog W = .ok q W) : (Op.eqFields d xs ys (f :: fs)).run Tryd.prog W = .ok (r && q) W := by
  rw [Op.eqFields, if_pos hn]
  simp only [Sem.run_bind, ha, hb, hr, Result.andThen_ok]
  cases r
  · simp
  · simpa using hq
theorem nd_eq (a b : Nd) (ha : a.sum.length = 32) (hb : b.sum.length = 32) (W : World) : (Op.equalIn 10000 39 (.agg (ndc a)) (.agg (ndc b))).run Tryd.prog W = .ok (Ino.same a b) W := by
  rw [run_equalIn_struct W 9999 39 (ndc a) (ndc b) (by kernel_rfl) (by kernel_rfl)]
  have hf := fields39
  generalize (Tryd.prog.fieldsOf 39).toList = fs at hf
  have hl : fs.length = 6 := by have := congrArg List.length hf; simpa using this
  match fs, hl, hf with
  | [f0, f1, f2, f3, f4, f5], _, hf =>
    simp only [List.map_cons, List.map_nil, List.cons.injEq, Prod.mk.injEq, and_true] at hf
    obtain ⟨⟨n0, t0, o0⟩, ⟨n1, t1, o1⟩, ⟨n2, t2, o2⟩, ⟨n3, t3, o3⟩, ⟨n4, t4, o4⟩, ⟨n5, t5, o5⟩⟩ := hf
    have eI : ∀ x y : Int, (Op.equalIn 9999 3 (.int .i64 x) (.int .i64 y)).run Tryd.prog W = .ok (x == y) W := fun x y => run_equalIn_int W 9998 3 .i64 .i64 x y Tryd.underlying3
    have eS : (Op.equalIn 9999 37 (.agg (smc a.sum)) (.agg (smc b.sum))).run Tryd.prog W = .ok (a.sum == b.sum) W := sum_eq a.sum b.sum ha hb 9997 W
    have pS : ∀ x : Nd, x.sum.length = 32 → (part 37 (ndc x) 2).run Tryd.prog W = .ok (.agg (smc x.sum)) W := fun x hx => by rw [part_sum, ndc_sum hx]
    refine eqf_cons 9999 _ _ f0 _ W _ _ _ _ (by rw [n0]; decide) (by rw [t0, o0]; exact part_int (ndc0 a) W) (by rw [t0, o0]; exact part_int (ndc0 b) W) (by rw [t0]; exact eI _ _) ?_
    refine eqf_cons 9999 _ _ f1 _ W _ _ _ _ (by rw [n1]; decide) (by rw [t1, o1]; exact part_int (ndc1 a) W) (by rw [t1, o1]; exact part_int (ndc1 b) W) (by rw [t1]; exact eI _ _) ?_
    refine eqf_cons 9999 _ _ f2 _ W _ _ _ _ (by rw [n2]; decide) (by rw [t2, o2]; exact pS a ha) (by rw [t2, o2]; exact pS b hb) (by rw [t2]; exact eS) ?_
    refine eqf_cons 9999 _ _ f3 _ W _ _ _ _ (by rw [n3]; decide) (by rw [t3, o3]; exact part_int (ndc34 ha) W) (by rw [t3, o3]; exact part_int (ndc34 hb) W) (by rw [t3]; exact eI _ _) ?_
    refine eqf_cons 9999 _ _ f4 _ W _ _ _ _ (by rw [n4]; decide) (by rw [t4, o4]; exact part_int (ndc35 ha) W) (by rw [t4, o4]; exact part_int (ndc35 hb) W) (by rw [t4]; exact eI _ _) ?_
    have h := eqf_cons 9999 _ _ f5 _ W _ _ _ _ (by rw [n5]; decide) (by rw [t5, o5]; exact part_int (ndc36 ha) W) (by rw [t5, o5]; exact part_int (ndc36 hb) W) (by rw [t5]; exact eI _ _) (eqf_nil 9999 (ndc a) (ndc b) W)
    rw [Bool.and_true] at h
    exact h
theorem ar_eq (a b : Ar) (ha : a.sum.length = 32) (hb : b.sum.length = 32) (W : World) : (Op.equalIn 10000 55 (.agg (arc a)) (.agg (arc b))).run Tryd.prog W = .ok (Ino.samA a b) W := by
  rw [run_equalIn_struct W 9999 55 (arc a) (arc b) (by kernel_rfl) (by kernel_rfl)]
  have hf := fields55
  generalize (Tryd.prog.fieldsOf 55).toList = fs at hf
  have hl : fs.length = 3 := by have := congrArg List.length hf; simpa using this
  match fs, hl, hf with
  | [f0, f1, f2], _, hf =>
    simp only [List.map_cons, List.map_nil, List.cons.injEq, Prod.mk.injEq, and_true] at hf
    obtain ⟨⟨n0, t0, o0⟩, ⟨n1, t1, o1⟩, ⟨n2, t2, o2⟩⟩ := hf
    have eI : ∀ x y : Int, (Op.equalIn 9999 3 (.int .i64 x) (.int .i64 y)).run Tryd.prog W = .ok (x == y) W := fun x y => run_equalIn_int W 9998 3 .i64 .i64 x y Tryd.underlying3
    have eS : (Op.equalIn 9999 37 (.agg (smc a.sum)) (.agg (smc b.sum))).run Tryd.prog W = .ok (a.sum == b.sum) W := sum_eq a.sum b.sum ha hb 9997 W
    have pS : ∀ x : Ar, x.sum.length = 32 → (part 37 (arc x) 2).run Tryd.prog W = .ok (.agg (smc x.sum)) W := fun x hx => by rw [part_sum, arc_sum hx]
    refine eqf_cons 9999 _ _ f0 _ W _ _ _ _ (by rw [n0]; decide) (by rw [t0, o0]; exact part_int (arc0 a) W) (by rw [t0, o0]; exact part_int (arc0 b) W) (by rw [t0]; exact eI _ _) ?_
    refine eqf_cons 9999 _ _ f1 _ W _ _ _ _ (by rw [n1]; decide) (by rw [t1, o1]; exact part_int (arc1 a) W) (by rw [t1, o1]; exact part_int (arc1 b) W) (by rw [t1]; exact eI _ _) ?_
    have h := eqf_cons 9999 _ _ f2 _ W _ _ _ _ (by rw [n2]; decide) (by rw [t2, o2]; exact pS a ha) (by rw [t2, o2]; exact pS b hb) (by rw [t2]; exact eS) (eqf_nil 9999 (arc a) (arc b) W)
    rw [Bool.and_true] at h
    exact h
end Go.Proofs.YtealbeblkilibaaDoor
/- Proved: which sizes, stamps and inodes may be: the program's isSize, isStamp, isFile, mayBeArchived, Check. -/
namespace Go.Proofs.YtealbeblkilibaaDoor
open Go.RowKit
open Ino (Nd Ar)
theorem isSize_any (n : Int) (w : World) : Calls Tryd.prog 70 #[.int .i64 n] w fun e w' => e = .returned (.bool (Ino.okSize n)) ∧ w' = w := by
  by_cases h0 : 0 ≤ n
  · by_cases h1 : n ≤ 4096
    · go_enter Tryd.func70, Tryd.ntmps70
      go_wp2
      go_ret
      exact ⟨by simp [Ino.okSize, h0, h1], rfl⟩
    · go_enter Tryd.func70, Tryd.ntmps70
      go_wp2
      go_ret
      exact ⟨by simp [Ino.okSize, h0, h1], rfl⟩
  · go_enter Tryd.func70, Tryd.ntmps70
    go_wp2
    go_ret
    exact ⟨by rw [show Ino.okSize n = false by unfold Ino.okSize; rw [decide_eq_false (Int.not_le.2 h0)]; rfl]; rfl, rfl⟩
theorem isStamp_any (n : Int) (w : World) : Calls Tryd.prog 71 #[.int .i64 n] w fun e w' => e = .returned (.bool (Ino.okStamp n)) ∧ w' = w := by
  by_cases h0 : 0 ≤ n
  · by_cases h1 : n ≤ 1099511627776
    · go_enter Tryd.func71, Tryd.ntmps71
      go_wp2
      go_ret
      exact ⟨by simp [Ino.okStamp, h0, h1], rfl⟩
    · go_enter Tryd.func71, Tryd.ntmps71
      go_wp2
      go_ret
      exact ⟨by simp [Ino.okStamp, h0, h1], rfl⟩
  · go_enter Tryd.func71, Tryd.ntmps71
    go_wp2
    go_ret
    exact ⟨by rw [show Ino.okStamp n = false by unfold Ino.okStamp; rw [decide_eq_false (Int.not_le.2 h0)]; rfl]; rfl, rfl⟩
theorem rstamp_any (n : Int) (w : World) : Calls Tryd.prog 51 #[.int .i64 n] w fun e w' => e = .returned (.bool (Ino.okStamp n)) ∧ w' = w := by
  by_cases h0 : 0 ≤ n
  · by_cases h1 : n ≤ 1099511627776
    · go_enter Tryd.func51, Tryd.ntmps51
      go_wp2
      go_ret
      exact ⟨by simp [Ino.okStamp, h0, h1], rfl⟩
    · go_enter Tryd.func51, Tryd.ntmps51
      go_wp2
      go_ret
      exact ⟨by simp [Ino.okStamp, h0, h1], rfl⟩
  · go_enter Tryd.func51, Tryd.ntmps51
    go_wp2
    go_ret
    exact ⟨by rw [show Ino.okStamp n = false by unfold Ino.okStamp; rw [decide_eq_false (Int.not_le.2 h0)]; rfl]; rfl, rfl⟩
set_option maxHeartbeats 1000000 in
set_option maxRecDepth 20000 in
theorem isFile_any (n : Nd) (w : World) (hs : n.sum.length = 32) : Calls Tryd.prog 50 #[.agg (ndc n)] w fun e w' => e = .returned (.bool (Ino.isFile n)) ∧ Below w.heap.size w w' := by
  have HI : Is (Ino.isFile n) (n.kind == 2 && (!(n.content == 0 && n.version == 0) && (Ino.okSize n.size && (Ino.okStamp n.content && (Ino.okStamp n.version && Ino.okStamp n.opened))))) := ⟨rfl⟩
  have HA : Hid (NdAt (w.alloc (.cells (ndc n) 39)) w.heap.size n) := nd_at hs (heap_alloc_new w _)
  have HB : Hid (Below w.heap.size w (w.alloc (.cells (ndc n) 39))) := (Below.refl _ w).alloc (Nat.le_refl _) _
  generalize hC : ndc n = C at *
  clear hC
  go_enter Tryd.func50, Tryd.ntmps50
  go_upto_region 1 with fail
  generalize w.alloc (.cells C 39) = w1 at *
  obtain ⟨_, k0, k1, _, k3, k4, k5⟩ := HA.out
  have SZ : Hid (∀ W : World, Calls Tryd.prog 70 #[.int .i64 n.size] W fun e w' => e = .returned (.bool (Ino.okSize n.size)) ∧ w' = W) := fun W => isSize_any n.size W
  have SC : Hid (∀ W : World, Calls Tryd.prog 71 #[.int .i64 n.content] W fun e w' => e = .returned (.bool (Ino.okStamp n.content)) ∧ w' = W) := fun W => isStamp_any n.content W
  have SV : Hid (∀ W : World, Calls Tryd.prog 71 #[.int .i64 n.version] W fun e w' => e = .returned (.bool (Ino.okStamp n.version)) ∧ w' = W) := fun W => isStamp_any n.version W
  have SO : Hid (∀ W : World, Calls Tryd.prog 71 #[.int .i64 n.opened] W fun e w' => e = .returned (.bool (Ino.okStamp n.opened)) ∧ w' = W) := fun W => isStamp_any n.opened W
  generalize Ino.okSize n.size = bz at *
  generalize Ino.okStamp n.content = bc at *
  generalize Ino.okStamp n.version = bv at *
  generalize Ino.okStamp n.opened = bo at *
  generalize n.kind = k at *
  generalize n.size = z at *
  generalize n.content = c at *
  generalize n.version = v at *
  generalize n.opened = o at *
  clear HA hs
  have z1 : w.heap.size < w1.heap.size ∨ True := .inr trivial
  clear z1
  by_cases hk : k = 2
  · subst hk
    by_cases hcv : c = 0 ∧ v = 0
    · obtain ⟨rfl, rfl⟩ := hcv
      go_wp2
      go_ret
      exact ⟨by rw [HI.eq]; rfl, HB.out⟩
    · have HX : Is (!(c == 0 && v == 0)) true := ⟨by simp; omega⟩
      rw [HX.eq] at HI
      clear HX
      by_cases hc : c = 0
      · subst hc
        have hv : ¬ v = 0 := fun h => hcv ⟨rfl, h⟩
        have hv' : (v == 0) = false := by simpa using hv
        clear hcv
        go_upto_region 3 with fail
        cases bz with
        | false =>
          go_wp2_with (first | (go_at_call 70; refine (SZ.out _).mono ?_; rintro e wS ⟨rfl, hwS⟩; rw [hwS]; clear hwS wS) | (go_at_call_of 71 (Value.int .i64 0); refine (SC.out _).mono ?_; rintro e wS ⟨rfl, hwS⟩; rw [hwS]; clear hwS wS) | (go_at_call_of 71 (Value.int .i64 v); refine (SV.out _).mono ?_; rintro e wS ⟨rfl, hwS⟩; rw [hwS]; clear hwS wS) | (go_at_call_of 71 (Value.int .i64 o); refine (SO.out _).mono ?_; rintro e wS ⟨rfl, hwS⟩; rw [hwS]; clear hwS wS))
          go_ret
          exact ⟨by rw [HI.eq]; rfl, HB.out⟩
        | true =>
          cases bc with
          | false =>
            go_wp2_with (first | (go_at_call 70; refine (SZ.out _).mono ?_; rintro e wS ⟨rfl, hwS⟩; rw [hwS]; clear hwS wS) | (go_at_call_of 71 (Value.int .i64 0); refine (SC.out _).mono ?_; rintro e wS ⟨rfl, hwS⟩; rw [hwS]; clear hwS wS) | (go_at_call_of 71 (Value.int .i64 v); refine (SV.out _).mono ?_; rintro e wS ⟨rfl, hwS⟩; rw [hwS]; clear hwS wS) | (go_at_call_of 71 (Value.int .i64 o); refine (SO.out _).mono ?_; rintro e wS ⟨rfl, hwS⟩; rw [hwS]; clear hwS wS))
            go_ret
            exact ⟨by rw [HI.eq]; rfl, HB.out⟩
          | true =>
            cases bv with
            | false =>
              go_wp2_with (first | (go_at_call 70; refine (SZ.out _).mono ?_; rintro e wS ⟨rfl, hwS⟩; rw [hwS]; clear hwS wS) | (go_at_call_of 71 (Value.int .i64 0); refine (SC.out _).mono ?_; rintro e wS ⟨rfl, hwS⟩; rw [hwS]; clear hwS wS) | (go_at_call_of 71 (Value.int .i64 v); refine (SV.out _).mono ?_; rintro e wS ⟨rfl, hwS⟩; rw [hwS]; clear hwS wS) | (go_at_call_of 71 (Value.int .i64 o); refine (SO.out _).mono ?_; rintro e wS ⟨rfl, hwS⟩; rw [hwS]; clear hwS wS))
              go_ret
              exact ⟨by rw [HI.eq]; rfl, HB.out⟩
            | true =>
              cases bo with
              | false =>
                go_wp2_with (first | (go_at_call 70; refine (SZ.out _).mono ?_; rintro e wS ⟨rfl, hwS⟩; rw [hwS]; clear hwS wS) | (go_at_call_of 71 (Value.int .i64 0); refine (SC.out _).mono ?_; rintro e wS ⟨rfl, hwS⟩; rw [hwS]; clear hwS wS) | (go_at_call_of 71 (Value.int .i64 v); refine (SV.out _).mono ?_; rintro e wS ⟨rfl, hwS⟩; rw [hwS]; clear hwS wS) | (go_at_call_of 71 (Value.int .i64 o); refine (SO.out _).mono ?_; rintro e wS ⟨rfl, hwS⟩; rw [hwS]; clear hwS wS))
                go_ret
                exact ⟨by rw [HI.eq]; rfl, HB.out⟩
              | true =>
                go_wp2_with (first | (go_at_call 70; refine (SZ.out _).mono ?_; rintro e wS ⟨rfl, hwS⟩; rw [hwS]; clear hwS wS) | (go_at_call_of 71 (Value.int .i64 0); refine (SC.out _).mono ?_; rintro e wS ⟨rfl, hwS⟩; rw [hwS]; clear hwS wS) | (go_at_call_of 71 (Value.int .i64 v); refine (SV.out _).mono ?_; rintro e wS ⟨rfl, hwS⟩; rw [hwS]; clear hwS wS) | (go_at_call_of 71 (Value.int .i64 o); refine (SO.out _).mono ?_; rintro e wS ⟨rfl, hwS⟩; rw [hwS]; clear hwS wS))
                go_ret
                exact ⟨by rw [HI.eq]; rfl, HB.out⟩
      · have hc' : (c == 0) = false := by simpa using hc
        clear hcv
        go_upto_region 3 with fail
        cases bz with
        | false =>
          go_wp2_with (first | (go_at_call 70; refine (SZ.out _).mono ?_; rintro e wS ⟨rfl, hwS⟩; rw [hwS]; clear hwS wS) | (go_at_call_of 71 (Value.int .i64 c); refine (SC.out _).mono ?_; rintro e wS ⟨rfl, hwS⟩; rw [hwS]; clear hwS wS) | (go_at_call_of 71 (Value.int .i64 v); refine (SV.out _).mono ?_; rintro e wS ⟨rfl, hwS⟩; rw [hwS]; clear hwS wS) | (go_at_call_of 71 (Value.int .i64 o); refine (SO.out _).mono ?_; rintro e wS ⟨rfl, hwS⟩; rw [hwS]; clear hwS wS))
          go_ret
          exact ⟨by rw [HI.eq]; rfl, HB.out⟩
        | true =>
          cases bc with
          | false =>
            go_wp2_with (first | (go_at_call 70; refine (SZ.out _).mono ?_; rintro e wS ⟨rfl, hwS⟩; rw [hwS]; clear hwS wS) | (go_at_call_of 71 (Value.int .i64 c); refine (SC.out _).mono ?_; rintro e wS ⟨rfl, hwS⟩; rw [hwS]; clear hwS wS) | (go_at_call_of 71 (Value.int .i64 v); refine (SV.out _).mono ?_; rintro e wS ⟨rfl, hwS⟩; rw [hwS]; clear hwS wS) | (go_at_call_of 71 (Value.int .i64 o); refine (SO.out _).mono ?_; rintro e wS ⟨rfl, hwS⟩; rw [hwS]; clear hwS wS))
            go_ret
            exact ⟨by rw [HI.eq]; rfl, HB.out⟩
          | true =>
            cases bv with
            | false =>
              go_wp2_with (first | (go_at_call 70; refine (SZ.out _).mono ?_; rintro e wS ⟨rfl, hwS⟩; rw [hwS]; clear hwS wS) | (go_at_call_of 71 (Value.int .i64 c); refine (SC.out _).mono ?_; rintro e wS ⟨rfl, hwS⟩; rw [hwS]; clear hwS wS) | (go_at_call_of 71 (Value.int .i64 v); refine (SV.out _).mono ?_; rintro e wS ⟨rfl, hwS⟩; rw [hwS]; clear hwS wS) | (go_at_call_of 71 (Value.int .i64 o); refine (SO.out _).mono ?_; rintro e wS ⟨rfl, hwS⟩; rw [hwS]; clear hwS wS))
              go_ret
              exact ⟨by rw [HI.eq]; rfl, HB.out⟩
            | true =>
              cases bo with
              | false =>
                go_wp2_with (first | (go_at_call 70; refine (SZ.out _).mono ?_; rintro e wS ⟨rfl, hwS⟩; rw [hwS]; clear hwS wS) | (go_at_call_of 71 (Value.int .i64 c); refine (SC.out _).mono ?_; rintro e wS ⟨rfl, hwS⟩; rw [hwS]; clear hwS wS) | (go_at_call_of 71 (Value.int .i64 v); refine (SV.out _).mono ?_; rintro e wS ⟨rfl, hwS⟩; rw [hwS]; clear hwS wS) | (go_at_call_of 71 (Value.int .i64 o); refine (SO.out _).mono ?_; rintro e wS ⟨rfl, hwS⟩; rw [hwS]; clear hwS wS))
                go_ret
                exact ⟨by rw [HI.eq]; rfl, HB.out⟩
              | true =>
                go_wp2_with (first | (go_at_call 70; refine (SZ.out _).mono ?_; rintro e wS ⟨rfl, hwS⟩; rw [hwS]; clear hwS wS) | (go_at_call_of 71 (Value.int .i64 c); refine (SC.out _).mono ?_; rintro e wS ⟨rfl, hwS⟩; rw [hwS]; clear hwS wS) | (go_at_call_of 71 (Value.int .i64 v); refine (SV.out _).mono ?_; rintro e wS ⟨rfl, hwS⟩; rw [hwS]; clear hwS wS) | (go_at_call_of 71 (Value.int .i64 o); refine (SO.out _).mono ?_; rintro e wS ⟨rfl, hwS⟩; rw [hwS]; clear hwS wS))
                go_ret
                exact ⟨by rw [HI.eq]; rfl, HB.out⟩
  · have hk' : (k == 2) = false := by simpa using hk
    rw [hk', Bool.false_and] at HI
    go_wp2
    go_ret
    exact ⟨by rw [HI.eq]; rfl, HB.out⟩
set_option maxHeartbeats 1000000 in
set_option maxRecDepth 20000 in
theorem mayArch_any (a : Ar) (w : World) : Calls Tryd.prog 52 #[.agg (arc a)] w fun e w' => e = .returned (.bool (Ino.okA a)) ∧ Below w.heap.size w w' := by
  have HI : Is (Ino.okA a) (a.version != 0 && (Ino.okStamp a.version && Ino.okSize a.size)) := ⟨rfl⟩
  have HA : Hid (ArAt (w.alloc (.cells (arc a) 55)) w.heap.size a) := ar_at (heap_alloc_new w _)
  have HB : Hid (Below w.heap.size w (w.alloc (.cells (arc a) 55))) := (Below.refl _ w).alloc (Nat.le_refl _) _
  generalize hC : arc a = C at *
  clear hC
  go_enter Tryd.func52, Tryd.ntmps52
  go_upto_region 1 with fail
  generalize w.alloc (.cells C 55) = w1 at *
  obtain ⟨_, k0, k1, _⟩ := HA.out
  have SZ : Hid (∀ W : World, Calls Tryd.prog 70 #[.int .i64 a.size] W fun e w' => e = .returned (.bool (Ino.okSize a.size)) ∧ w' = W) := fun W => isSize_any a.size W
  have SV : Hid (∀ W : World, Calls Tryd.prog 71 #[.int .i64 a.version] W fun e w' => e = .returned (.bool (Ino.okStamp a.version)) ∧ w' = W) := fun W => isStamp_any a.version W
  generalize Ino.okSize a.size = bz at *
  generalize Ino.okStamp a.version = bv at *
  generalize a.size = z at *
  generalize a.version = v at *
  clear HA
  by_cases hv : v = 0
  · subst hv
    go_wp2
    go_ret
    exact ⟨by rw [HI.eq]; rfl, HB.out⟩
  · have hv' : (v == 0) = false := by simpa using hv
    have hv2 : (v != 0) = true := by simpa using hv
    rw [hv2] at HI
    cases bv with
    | false =>
      go_wp2_with (first | (go_at_call 71; refine (SV.out _).mono ?_; rintro e wS ⟨rfl, hwS⟩; rw [hwS]; clear hwS wS))
      go_ret
      exact ⟨by rw [HI.eq]; rfl, HB.out⟩
    | true =>
      cases bz with
      | false =>
        go_wp2_with (first | (go_at_call 71; refine (SV.out _).mono ?_; rintro e wS ⟨rfl, hwS⟩; rw [hwS]; clear hwS wS) | (go_at_call 70; refine (SZ.out _).mono ?_; rintro e wS ⟨rfl, hwS⟩; rw [hwS]; clear hwS wS))
        go_ret
        exact ⟨by rw [HI.eq]; rfl, HB.out⟩
      | true =>
        go_wp2_with (first | (go_at_call 71; refine (SV.out _).mono ?_; rintro e wS ⟨rfl, hwS⟩; rw [hwS]; clear hwS wS) | (go_at_call 70; refine (SZ.out _).mono ?_; rintro e wS ⟨rfl, hwS⟩; rw [hwS]; clear hwS wS))
        go_ret
        exact ⟨by rw [HI.eq]; rfl, HB.out⟩
end Go.Proofs.YtealbeblkilibaaDoor
/- Proved: Check answers whether an inode may be. -/
namespace Go.Proofs.YtealbeblkilibaaDoor
open Go.RowKit
open Ino (Nd Ar)
theorem wpList_met {ops : Array Oper} {rest : List Oper} {o : Oper} {a : Act} {w : World} {Q : Exit → Act → World → Prop} (hg : Region.wanted o (yielded ops a.tmps) = true)
    (h : ∀ K : Act → World → Prop, (∀ a w, wpList Tryd.prog ops Q rest a w → K a w) → o.wp Tryd.prog a w K Q) : wpList Tryd.prog ops Q (o :: rest) a w :=
  wpList_step fun K hK => by simp only [hg, if_true]; exact h K hK
/- a whole variable is read, in a row whose guard is met -/
theorem load_met_mid {ops : Array Oper} {rest : List Oper} {o : Oper} {a : Act} {w : World} {Q : Exit → Act → World → Prop} (hg : Region.wanted o (yielded ops a.tmps) = true) (ty : TypeId) (x : Operand) (ho : o.op = .load ty x)
    (b k : Nat) (hx : a.eval x = .pointer (some ⟨b, k, none⟩)) (cs : List Value) (d : TypeDesc) (hc : w.rangeAt b k cs)
    (hu : Tryd.prog.underlying ty = some d) (hd : d.isRow = true) (hi : (Tryd.prog.info? ty).map (·.size) = some cs.length)
    (h : wpList Tryd.prog ops Q rest (a.put o.dst (.agg cs.toArray)) w) : wpList Tryd.prog ops Q (o :: rest) a w :=
  wpList_met hg fun _ hK => wp_load_mid ty x ho b k hx cs d hc hu hd hi (hK _ _ h)
theorem load_met {ops : Array Oper} {rest : List Oper} {o : Oper} {a : Act} {w : World} {Q : Exit → Act → World → Prop} (hg : Region.wanted o (yielded ops a.tmps) = true) (ty : TypeId) (x : Operand) (ho : o.op = .load ty x)
    (g : Nat) (hx : a.eval x = .pointer (some ⟨g, 0, none⟩)) (t : TypeId) (cs : Array Value) (fr : Nat × Nat) (d : TypeDesc) (hgr : w.heap[g]? = some (.cells cs t fr))
    (hu : Tryd.prog.underlying ty = some d) (hd : d.isRow = true) (hi : (Tryd.prog.info? ty).map (·.size) = some cs.size)
    (h : wpList Tryd.prog ops Q rest (a.put o.dst (.agg cs)) w) : wpList Tryd.prog ops Q (o :: rest) a w :=
  load_met_mid hg ty x ho g 0 hx cs.toList d (fun j v hv => by rw [cell_of_row w g (0 + j) cs t fr hgr, Nat.zero_add, ← Array.getElem?_toList]; exact hv) hu hd (by rw [hi, Array.length_toList]) (by rw [Array.toArray_toList]; exact h)
theorem dir_built : (Tryd.prog.built 39 [(0, .int .i64 1)]).getD #[] = ndc Ino.dirN := by kernel_rfl
theorem build_dir {ops : Array Oper} {rest : List Oper} {o : Oper} {a : Act} {w : World} {Q : Exit → Act → World → Prop} (hg : o.guard = none) (ho : o.op = .build 39 #[(0, .const (.int .i64 1))])
    (h : wpList Tryd.prog ops Q rest (a.put o.dst (.agg (ndc Ino.dirN))) w) : wpList Tryd.prog ops Q (o :: rest) a w := by
  refine wpList_build hg 39 _ ho (by kernel_rfl) ?_
  have e : (#[(0, Operand.const (.int .i64 1))].map fun (x : Nat × Operand) => (x.1, a.eval x.2)).toList = [(0, .int .i64 1)] := by simp; rfl
  rw [e, dir_built]
  exact h
set_option maxHeartbeats 1000000 in
set_option maxRecDepth 20000 in
theorem check_any (n : Nd) (w : World) (hs : n.sum.length = 32) : Calls Tryd.prog 20 #[.agg (ndc n)] w fun e w' => e = .returned (.int .i64 (Ino.chk n : Nat)) ∧ Below w.heap.size w w' := by
  have HI : Is (Ino.chk n) (if Ino.same n Ino.dirN = true ∨ Ino.isFile n = true then 0 else 2) := ⟨rfl⟩
  have HA : Hid (NdAt (w.alloc (.cells (ndc n) 39)) w.heap.size n) := nd_at hs (heap_alloc_new w _)
  have HB : Hid (Below w.heap.size w (w.alloc (.cells (ndc n) 39))) := (Below.refl _ w).alloc (Nat.le_refl _) _
  have HZ : Is (ndc n).size 37 := ⟨ndc_size hs⟩
  have HF : Hid (∀ W : World, Calls Tryd.prog 50 #[.agg (ndc n)] W fun e w' => e = .returned (.bool (Ino.isFile n)) ∧ Below W.heap.size W w') := fun W => isFile_any n W hs
  have HE : ∀ W : World, (binOp .eql 39 (.agg (ndc n)) (.agg (ndc Ino.dirN))).run Tryd.prog W = .ok (.bool (Ino.same n Ino.dirN)) W := fun W => by
    rw [run_eql_struct, nd_eq n Ino.dirN hs (by decide) W]; rfl
  have HR : Is ((w.alloc (.cells (ndc n) 39)).heap[w.heap.size]?) (some (.cells (ndc n) 39 (0, 0))) := ⟨heap_alloc_new w _⟩
  clear HA hs
  generalize ndc n = C at *
  generalize hD : ndc Ino.dirN = D at *
  have HD : Is (ndc Ino.dirN) D := ⟨hD⟩
  clear hD
  go_enter Tryd.func20, Tryd.ntmps20
  go_upto_region 1 with fail
  have hsz : w.heap.size ≤ (w.alloc (.cells C 39)).heap.size := HB.out.size
  generalize w.alloc (.cells C 39) = w1 at *
  generalize Ino.same n Ino.dirN = sd at *
  generalize Ino.isFile n = fi at *
  cases sd with
  | true =>
    rw [if_pos (.inl rfl)] at HI
    go_wp2_with (first | (refine load_met (by rfl) 39 _ rfl _ rfl 39 C (0, 0) _ HR.eq Tryd.underlying39 rfl (by rw [size39, HZ.eq]) ?_) | (refine build_dir rfl rfl ?_; rw [HD.eq]))
    go_ret
    exact ⟨by rw [HI.eq]; rfl, HB.out⟩
  | false =>
    cases fi with
    | true =>
      rw [if_pos (.inr rfl)] at HI
      go_wp2_with (first | (refine load_met (by rfl) 39 _ rfl _ rfl 39 C (0, 0) _ HR.eq Tryd.underlying39 rfl (by rw [size39, HZ.eq]) ?_) | (refine build_dir rfl rfl ?_; rw [HD.eq]) | (go_at_call 50; refine (HF.out _).mono ?_; rintro e w2 ⟨rfl, hB2⟩))
      go_ret
      exact ⟨by rw [HI.eq]; rfl, HB.out.trans (hB2.mono hsz)⟩
    | false =>
      rw [if_neg (by simp)] at HI
      go_wp2_with (first | (refine load_met (by rfl) 39 _ rfl _ rfl 39 C (0, 0) _ HR.eq Tryd.underlying39 rfl (by rw [size39, HZ.eq]) ?_) | (refine build_dir rfl rfl ?_; rw [HD.eq]) | (go_at_call 50; refine (HF.out _).mono ?_; rintro e w2 ⟨rfl, hB2⟩))
      go_ret
      exact ⟨by rw [HI.eq]; rfl, HB.out.trans (hB2.mono hsz)⟩
end Go.Proofs.YtealbeblkilibaaDoor
/- Proved: the document's Check; Hollow, Dirty and Like, the program's and the document's. -/
namespace Go.Proofs.YtealbeblkilibaaDoor
open Go.RowKit
open Ino (Nd Ar)
theorem chk_dir {n : Nd} (h : n.kind = 1) : Ino.chk n = if Ino.same n Ino.dirN = true then 0 else 2 := by
  have : Ino.isFile n = false := by unfold Ino.isFile; rw [h]; rfl
  unfold Ino.chk
  rw [this]; simp
theorem chk_else {n : Nd} (h : n.kind ≠ 1) : Ino.chk n = if Ino.isFile n = true then 0 else 2 := by
  have : Ino.same n Ino.dirN = false := by
    rw [Bool.eq_false_iff]
    intro hh
    rw [(Ino.same_iff _ _).1 hh] at h
    exact h rfl
  unfold Ino.chk
  rw [this]; simp
set_option maxHeartbeats 2000000 in
set_option maxRecDepth 20000 in
theorem rcheck_any (n : Nd) (w : World) (hs : n.sum.length = 32) : Calls Tryd.prog 21 #[.agg (ndc n)] w fun e w' => e = .returned (.int .i64 (Ino.chk n : Nat)) ∧ Below w.heap.size w w' := by
  have HA : Hid (NdAt (w.alloc (.cells (ndc n) 39)) w.heap.size n) := nd_at hs (heap_alloc_new w _)
  have HB : Hid (Below w.heap.size w (w.alloc (.cells (ndc n) 39))) := (Below.refl _ w).alloc (Nat.le_refl _) _
  have HZ : Is (ndc n).size 37 := ⟨ndc_size hs⟩
  have HE : ∀ W : World, (binOp .neq 39 (.agg (ndc n)) (.agg (ndc Ino.dirN))).run Tryd.prog W = .ok (.bool (!Ino.same n Ino.dirN)) W := fun W => by
    rw [run_neq_struct, nd_eq n Ino.dirN hs (by decide) W]; rfl
  have HR : Is ((w.alloc (.cells (ndc n) 39)).heap[w.heap.size]?) (some (.cells (ndc n) 39 (0, 0))) := ⟨heap_alloc_new w _⟩
  have HK1 : Hid (n.kind = 1 → Ino.chk n = if Ino.same n Ino.dirN = true then 0 else 2) := chk_dir
  have HK2 : Hid (n.kind ≠ 1 → Ino.chk n = if (n.kind == 2 && (!(n.content == 0 && n.version == 0) && (Ino.okSize n.size && (Ino.okStamp n.content && (Ino.okStamp n.version && Ino.okStamp n.opened))))) = true then 0 else 2) := chk_else
  clear hs
  generalize ndc n = C at *
  generalize hD : ndc Ino.dirN = D at *
  have HD : Is (ndc Ino.dirN) D := ⟨hD⟩
  clear hD
  go_enter Tryd.func21, Tryd.ntmps21
  go_upto_region 1 with fail
  generalize w.alloc (.cells C 39) = w1 at *
  obtain ⟨_, k0, k1, _, k3, k4, k5⟩ := HA.out
  clear HA
  by_cases hk1 : n.kind = 1
  · have HI : Is (Ino.chk n) _ := ⟨HK1.out hk1⟩
    clear HK1 HK2
    rw [hk1] at k0
    generalize Ino.same n Ino.dirN = sd at *
    cases sd with
    | true =>
      rw [if_pos rfl] at HI
      go_wp2_with (first | (refine load_met (by rfl) 39 _ rfl _ rfl 39 C (0, 0) _ HR.eq Tryd.underlying39 rfl (by rw [size39, HZ.eq]) ?_) | (refine build_dir rfl rfl ?_; rw [HD.eq]))
      go_ret
      exact ⟨by rw [HI.eq]; rfl, HB.out⟩
    | false =>
      rw [if_neg (by simp)] at HI
      go_wp2_with (first | (refine load_met (by rfl) 39 _ rfl _ rfl 39 C (0, 0) _ HR.eq Tryd.underlying39 rfl (by rw [size39, HZ.eq]) ?_) | (refine build_dir rfl rfl ?_; rw [HD.eq]))
      go_ret
      exact ⟨by rw [HI.eq]; rfl, HB.out⟩
  · have HI : Is (Ino.chk n) _ := ⟨HK2.out hk1⟩
    clear HK1 HK2 HE
    have SC : Hid (∀ W : World, Calls Tryd.prog 51 #[.int .i64 n.content] W fun e w' => e = .returned (.bool (Ino.okStamp n.content)) ∧ w' = W) := fun W => rstamp_any n.content W
    have SV : Hid (∀ W : World, Calls Tryd.prog 51 #[.int .i64 n.version] W fun e w' => e = .returned (.bool (Ino.okStamp n.version)) ∧ w' = W) := fun W => rstamp_any n.version W
    have SO : Hid (∀ W : World, Calls Tryd.prog 51 #[.int .i64 n.opened] W fun e w' => e = .returned (.bool (Ino.okStamp n.opened)) ∧ w' = W) := fun W => rstamp_any n.opened W
    have HS : Is (Ino.okSize n.size) (decide (0 ≤ n.size) && decide (n.size ≤ 4096)) := ⟨rfl⟩
    generalize Ino.okSize n.size = bz at *
    generalize Ino.okStamp n.content = bc at *
    generalize Ino.okStamp n.version = bv at *
    generalize Ino.okStamp n.opened = bo at *
    generalize n.kind = k at *
    generalize n.size = z at *
    generalize n.content = c at *
    generalize n.version = v at *
    generalize n.opened = o at *
    have hk1' : (k == 1) = false := by simpa using hk1
    by_cases hk : k = 2
    · subst hk
      by_cases h0 : z < 0
      · rw [decide_eq_false (by omega), Bool.false_and] at HS
        rw [HS.eq, show ((2 : Int) == 2 && (!(c == 0 && v == 0) && (false && (bc && (bv && bo))))) = false by simp, if_neg (by simp)] at HI
        go_wp2
        go_ret
        exact ⟨by rw [HI.eq]; rfl, HB.out⟩
      · have h0' : 0 ≤ z := by omega
        by_cases h1 : 4096 < z
        · rw [decide_eq_false (p := z ≤ 4096) (by omega), Bool.and_false] at HS
          rw [HS.eq, show ((2 : Int) == 2 && (!(c == 0 && v == 0) && (false && (bc && (bv && bo))))) = false by simp, if_neg (by simp)] at HI
          go_wp2
          go_ret
          exact ⟨by rw [HI.eq]; rfl, HB.out⟩
        · have h1' : z ≤ 4096 := by omega
          rw [decide_eq_true h0', decide_eq_true h1'] at HS
          rw [HS.eq] at HI
          clear HS
          cases bc with
          | false =>
            rw [if_neg (by simp)] at HI
            go_wp2_with (first | (go_at_call_of 51 (Value.int .i64 c); refine (SC.out _).mono ?_; rintro e wS ⟨rfl, hwS⟩; rw [hwS]; clear hwS wS) | (go_at_call_of 51 (Value.int .i64 v); refine (SV.out _).mono ?_; rintro e wS ⟨rfl, hwS⟩; rw [hwS]; clear hwS wS) | (go_at_call_of 51 (Value.int .i64 o); refine (SO.out _).mono ?_; rintro e wS ⟨rfl, hwS⟩; rw [hwS]; clear hwS wS))
            go_ret
            exact ⟨by rw [HI.eq]; rfl, HB.out⟩
          | true =>
            cases bv with
            | false =>
              rw [if_neg (by simp)] at HI
              go_wp2_with (first | (go_at_call_of 51 (Value.int .i64 c); refine (SC.out _).mono ?_; rintro e wS ⟨rfl, hwS⟩; rw [hwS]; clear hwS wS) | (go_at_call_of 51 (Value.int .i64 v); refine (SV.out _).mono ?_; rintro e wS ⟨rfl, hwS⟩; rw [hwS]; clear hwS wS) | (go_at_call_of 51 (Value.int .i64 o); refine (SO.out _).mono ?_; rintro e wS ⟨rfl, hwS⟩; rw [hwS]; clear hwS wS))
              go_ret
              exact ⟨by rw [HI.eq]; rfl, HB.out⟩
            | true =>
              cases bo with
              | false =>
                rw [if_neg (by simp)] at HI
                go_wp2_with (first | (go_at_call_of 51 (Value.int .i64 c); refine (SC.out _).mono ?_; rintro e wS ⟨rfl, hwS⟩; rw [hwS]; clear hwS wS) | (go_at_call_of 51 (Value.int .i64 v); refine (SV.out _).mono ?_; rintro e wS ⟨rfl, hwS⟩; rw [hwS]; clear hwS wS) | (go_at_call_of 51 (Value.int .i64 o); refine (SO.out _).mono ?_; rintro e wS ⟨rfl, hwS⟩; rw [hwS]; clear hwS wS))
                go_ret
                exact ⟨by rw [HI.eq]; rfl, HB.out⟩
              | true =>
                by_cases hc : c = 0
                · subst hc
                  by_cases hv : v = 0
                  · subst hv
                    rw [if_neg (by decide)] at HI
                    go_wp2_with (first | (go_at_call_of 51 (Value.int .i64 0); refine (SC.out _).mono ?_; rintro e wS ⟨rfl, hwS⟩; rw [hwS]; clear hwS wS) | (go_at_call_of 51 (Value.int .i64 0); refine (SV.out _).mono ?_; rintro e wS ⟨rfl, hwS⟩; rw [hwS]; clear hwS wS) | (go_at_call_of 51 (Value.int .i64 o); refine (SO.out _).mono ?_; rintro e wS ⟨rfl, hwS⟩; rw [hwS]; clear hwS wS))
                    go_ret
                    exact ⟨by rw [HI.eq]; rfl, HB.out⟩
                  · have hv' : (v == 0) = false := by simpa using hv
                    rw [hv', if_pos (by decide)] at HI
                    go_wp2_with (first | (go_at_call_of 51 (Value.int .i64 0); refine (SC.out _).mono ?_; rintro e wS ⟨rfl, hwS⟩; rw [hwS]; clear hwS wS) | (go_at_call_of 51 (Value.int .i64 v); refine (SV.out _).mono ?_; rintro e wS ⟨rfl, hwS⟩; rw [hwS]; clear hwS wS) | (go_at_call_of 51 (Value.int .i64 o); refine (SO.out _).mono ?_; rintro e wS ⟨rfl, hwS⟩; rw [hwS]; clear hwS wS))
                    go_ret
                    exact ⟨by rw [HI.eq]; rfl, HB.out⟩
                · have hc' : (c == 0) = false := by simpa using hc
                  rw [hc', if_pos (by simp)] at HI
                  go_wp2_with (first | (go_at_call_of 51 (Value.int .i64 c); refine (SC.out _).mono ?_; rintro e wS ⟨rfl, hwS⟩; rw [hwS]; clear hwS wS) | (go_at_call_of 51 (Value.int .i64 v); refine (SV.out _).mono ?_; rintro e wS ⟨rfl, hwS⟩; rw [hwS]; clear hwS wS) | (go_at_call_of 51 (Value.int .i64 o); refine (SO.out _).mono ?_; rintro e wS ⟨rfl, hwS⟩; rw [hwS]; clear hwS wS))
                  go_ret
                  exact ⟨by rw [HI.eq]; rfl, HB.out⟩
    · have hk' : (k == 2) = false := by simpa using hk
      rw [hk', if_neg (by simp)] at HI
      go_wp2
      go_ret
      exact ⟨by rw [HI.eq]; rfl, HB.out⟩
end Go.Proofs.YtealbeblkilibaaDoor
