/- Proved: what New, Read and keep do. -/
import Derived.Test.YtcfninpokngmlaaGreatDoorJ04
import Derived.OwnWalk
import Derived.Laws.IdiomStrings
import Derived.Lib.LazyBuf
import Derived.Great.FillDense
import Derived.Great.BuildSlice
import Derived.Test.YtcfninpokngmlaaGreatDoorJ01
namespace Go.Proofs.YtcfninpokngmlaaGreatDoor
open Go.RowKit
theorem str_of {w : World} {b : Nat} {x : ByteArray} (h : w.rangeAt b 0 (bc x)) (cap : Nat) : (convert 138 9 (.slice (some ⟨b, 0, none⟩) x.size cap)).run Tryz.prog w = .ok (.string x) w := by
  have e := run_convert_bytes_back (P := Tryz.prog) w 138 9 5 ⟨b, 0, none⟩ cap x.data.toList Tryz.underlying138 Tryz.underlying5 Tryz.underlying9 (fun j hj => by
    rw [Addr.add_mid]
    exact h j _ (by rw [bc, List.getElem?_map, List.getElem?_eq_getElem hj]; rfl))
  rw [← Sc.size_eq] at e
  exact e
theorem range_row {w : World} {g : Nat} {t : TypeId} {x : ByteArray} (h : w.heap[g]? = some (.cells (bA x) t (0, 0))) : w.rangeAt g 0 (bc x) := fun j u hu => by
  rw [cell_of_row w g _ _ t (0, 0) h, Nat.zero_add, bA, List.getElem?_toArray]; exact hu
set_option maxHeartbeats 1000000 in
set_option maxRecDepth 20000 in
theorem read_any (g kg : Nat) (v : Value) (s : Sc.St) (i : Int) (w : World) (H : Dk w g kg v s) :
    Calls Tryz.prog 96 #[ptr g, .int .i64 i] w fun e w' => e = .returned (.tuple #[.string (Sc.readV s i), .int .i64 (Sc.readE s i)]) ∧ Below w.heap.size w w' := by
  have HR := ready_any g kg v s w H
  have HS := has_any g kg v s i w H
  have HH : Hid (Dk w g kg v s) := H
  have hz := zeroSec
  clear H
  unfold Sc.liveE at HR
  unfold Sc.readV Sc.readE
  cases hd : s.down
  · rw [hd] at HR
    simp only [Bool.false_eq_true, if_false] at *
    cases hh : Sc.has s i
    · rw [hh] at HS
      simp only [if_true]
      go_enter Tryz.func96, Tryz.ntmps96
      go_wp2_with (first | (go_at_call 53; refine HR.mono ?_; rintro e w' ⟨rfl, rfl⟩) | (go_at_call 122; refine HS.mono ?_; rintro e w' ⟨rfl, rfl⟩))
      go_ret2
      exact ⟨rfl, Below.refl _ _⟩
    · rw [hh] at HS
      simp only [Bool.true_eq_false, if_false]
      obtain ⟨k, rfl⟩ : ∃ k : Nat, i = (k : Int) := ⟨i.toNat, by have := (Sc.has_iff.1 hh).1; omega⟩
      have hk : k < s.kept.length := by have := (Sc.has_iff.1 hh).2; omega
      rw [Int.toNat_natCast]
      have HX : Hid ((Sc.now s k).size = 64) := Sc.now_size HH.out.ok k
      have HNW : Hid (Calls Tryz.prog 123 #[ptr g, .int .i64 (k : Int)] w fun e w' => e = .returned (.agg (bA (Sc.now s k))) ∧ Below w.heap.size w w') := now_any g kg v s k w HH.out hk
      generalize Sc.now s k = x at *
      have HI : Hid ((Tryz.prog.info? 109).map (·.size) = some (bA x).size) := bA_info HX.out
      go_enter Tryz.func96, Tryz.ntmps96
      go_wp2_with (first | (go_at_call 53; refine HR.mono ?_; rintro e w' ⟨rfl, rfl⟩) | (go_at_call 122; refine HS.mono ?_; rintro e w' ⟨rfl, rfl⟩) | (go_at_call 123; refine HNW.out.mono ?_; rintro e w' ⟨rfl, hB⟩) | (refine store_row rfl rfl 109 _ _ rfl _ (bA x) rfl rfl 109 zsec (heap_alloc_new _ _) HI.out (by rw [bA_size HX.out]; exact zsec_size) (bA_one _) ?_; have hcv := str_of (x := x) (range_row (setRow_heap _ _ _ _ _ _ (heap_alloc_new w' (.cells zsec 109)))) 64; rw [HX.out] at hcv))
      go_ret2
      exact ⟨rfl, hB.trans (below_setRow ((Below.refl _ _).alloc (Nat.le_refl _) _) (Nat.le_refl _) _ |>.mono hB.size)⟩
  · rw [hd] at HR
    simp only [if_true] at *
    go_enter Tryz.func96, Tryz.ntmps96
    go_wp2_with (first | (go_at_call 53; refine HR.mono ?_; rintro e w' ⟨rfl, rfl⟩) | (go_at_call 122; refine HS.mono ?_; rintro e w' ⟨rfl, rfl⟩))
    go_ret2
    exact ⟨rfl, Below.refl _ _⟩
theorem made_zero : Tryz.t109.zero = some (.agg zsec) := by kernel_rfl
theorem info_sec : Tryz.prog.info? 109 = some Tryz.t109 := by kernel_rfl
theorem zsec_at (j : Nat) (h : j < 64) : zsec[j]? = some (.int .u8 0) := by
  unfold zsec Sc.zero64 bc
  rw [List.getElem?_toArray, List.getElem?_map]
  show Option.map _ (Array.replicate 64 (0 : UInt8)).toList[j]? = _
  rw [Array.toList_replicate, List.getElem?_replicate, if_pos h]
  rfl
theorem made_cells (n : Nat) : (madeCells zsec (n * 64)).toList = (List.replicate n Sc.zero64).flatMap bc := by
  have hl : ((List.replicate n Sc.zero64).flatMap bc).length = n * 64 := by
    rw [flat_length bc 64 _ (fun x hx => by rw [bc_length, (List.mem_replicate.1 hx).2, Sc.zero64_size])]
    simp
  apply List.ext_getElem?
  intro j
  by_cases hj : j < n * 64
  · have h1 : j % 64 < 64 := Nat.mod_lt _ (by omega)
    have h2 : (List.replicate n Sc.zero64)[j / 64]? = some Sc.zero64 := by rw [List.getElem?_replicate, if_pos (by omega)]
    have e := flat_at bc 64 (List.replicate n Sc.zero64) (j / 64) Sc.zero64 (j % 64) (fun x hx => by rw [bc_length, (List.mem_replicate.1 hx).2, Sc.zero64_size]) h2 h1
    rw [show j / 64 * 64 + j % 64 = j by omega] at e
    have z := zsec_at (j % 64) h1
    rw [e]
    have z2 : (bc Sc.zero64)[j % 64]? = some (.int .u8 0) := by
      unfold zsec at z
      rwa [List.getElem?_toArray] at z
    rw [z2, Array.getElem?_toList]
    unfold madeCells
    rw [Array.getElem?_map, Array.getElem?_eq_getElem (by simpa using hj), Option.map_some]
    congr 1
    simp only [Array.getElem_range]
    rw [zsec_size, getElem!_def, z]
  · rw [List.getElem?_eq_none (by rw [Array.length_toList, size_madeCells]; omega), List.getElem?_eq_none (by omega)]
set_option maxHeartbeats 1000000 in
set_option maxRecDepth 20000 in
theorem new_any (n : Nat) (w : World) (h1 : 1 ≤ n) (h2 : n ≤ 65536) :
    Calls Tryz.prog 21 #[.int .i64 (n : Int)] w fun e w' => ∃ g kg, e = .returned (.tuple #[ptr g, .int .i64 0]) ∧ Dk w' g kg (.slice none 0 0) (Sc.made n) ∧ Below w.heap.size w w' ∧ w.heap.size ≤ g ∧ w.heap.size ≤ kg := by
  have d1 : decide ((n : Int) < 1) = false := by simp; omega
  have d2 : decide ((65536 : Int) < (n : Int)) = false := by simp; omega
  have hb : Tryz.t109.bytes = 64 := rfl
  go_enter Tryz.func21, Tryz.ntmps21
  go_wp2_with (first | (at_make; refine wpList_make_full w rfl _ _ 94 rfl 0 109 Tryz.t109 (.agg zsec) 64 Tryz.underlying94 info_sec made_zero rfl _ _ _ _ n rfl rfl rfl rfl (by rw [hb]; omega) (by unfold maxLen; omega) (Nat.zero_le _) ?_; intro w1 hO1 hG1; have HO1 := (show Hid (w1.ownsRow 0 109 64 _ n _) from hO1); have HG1 := (show Hid (w.grownBy w1 none) from hG1); clear hO1 hG1))
  go_ret2
  have hO := HO1.out
  rw [show (Value.agg zsec).cells = zsec from rfl, made_cells] at hO
  rcases hO.2 with ⟨h, _⟩ | ⟨kg, cap, cur, hv, _, hh, hc, _, hs, ht⟩
  · cases h
  obtain ⟨ha, hcap⟩ : w.heap.size = kg ∧ n = cap := by
    have := Value.slice.inj hv
    refine ⟨?_, this.2.2⟩
    have := this.1
    simpa using this
  subst ha
  subst hcap
  have hcur : cur = ((List.replicate n Sc.zero64).flatMap bc).toArray := by
    rw [← ht, List.take_of_length_le (by rw [Array.length_toList]; omega)]
  have hB : Below w.heap.size w w1 := ⟨HG1.out.os, HG1.out.tape, HG1.out.output, HG1.out.size, fun k hk => HG1.out.block k hk (by simp)⟩
  have hlt := (Array.getElem?_eq_some_iff.1 hh).1
  refine ⟨w1.heap.size, w.heap.size, rfl, ⟨?_, ?_, World.ownsRow_nil _ _ _ _, by omega, by simp [Value.ownBlock], by simp [Value.ownBlock], Sc.made_ok h1 h2⟩, hB.alloc hB.size _, hB.size, Nat.le_refl _⟩
  · rw [heap_alloc_new]
    simp [dcells, Sc.made]
  · rw [Below.heap_alloc _ _ _ hlt, hh, hcur]; rfl
set_option maxHeartbeats 1000000 in
theorem new_bad (n : Int) (w : World) (h : n < 1 ∨ 65536 < n) :
    Calls Tryz.prog 21 #[.int .i64 n] w fun e w' => e = .returned (.tuple #[.pointer none, .int .i64 2]) ∧ w' = w := by
  by_cases h1 : n < 1
  · have d1 : decide (n < 1) = true := by simpa using h1
    go_enter Tryz.func21, Tryz.ntmps21
    go_wp2
    go_ret2
    exact ⟨rfl, rfl⟩
  · have d1 : decide (n < 1) = false := by simpa using h1
    have d2 : decide (65536 < n) = true := by simp; omega
    go_enter Tryz.func21, Tryz.ntmps21
    go_wp2
    go_ret2
    exact ⟨rfl, rfl⟩
/- a write that is pending, as a value -/
def wA (p : Nat × ByteArray) : Array Value := (wc p).toArray
theorem sizeWr : (Tryz.prog.info? 111).map (·.size) = some 65 := by kernel_rfl
theorem wA_size {p : Nat × ByteArray} (h : p.2.size = 64) : (wA p).size = 65 := by rw [wA, List.size_toArray, wc_length h]
set_option maxHeartbeats 2000000 in
set_option maxRecDepth 20000 in
theorem keep_any (g kg : Nat) (v : Value) (s : Sc.St) (i : Nat) (x : ByteArray) (w : World) (H : Dk w g kg v s) (hi : i < s.kept.length) (hx : x.size = 64) :
    Calls Tryz.prog 70 #[ptr g, .agg (wA (i, x))] w fun e w' => e = .returned (.tuple #[]) ∧ Dk w' g kg v { s with kept := s.kept.set i x } ∧ Turn (foot g kg v) (foot g kg v) w w' := by
  have hm := H.ok.most
  have HA : Hid (Dk (w.alloc (.cells (wA (i, x)) 111)) g kg v s) := H.alloc _
  have HT : Hid (Turn (foot g kg v) (foot g kg v) w (w.alloc (.cells (wA (i, x)) 111))) := Turn.of_below ((Below.refl _ _).alloc (Nat.le_refl _) _)
  have HN : Hid ((w.alloc (.cells (wA (i, x)) 111)).heap[w.heap.size]? = some (.cells (wA (i, x)) 111 (0, 0))) := heap_alloc_new w _
  have hlt := H.lt
  have hgl : g < w.heap.size := hlt g (by simp [foot])
  have hkl : kg < w.heap.size := hlt kg (by simp [foot])
  clear hlt H
  go_enter Tryz.func70, Tryz.ntmps70
  go_wp2_with fail
  generalize World.alloc w _ = w1 at *
  have HRW : Hid (w1.rangeAt w.heap.size 0 (wc (i, x))) := fun j u hu => by
    rw [cell_of_row w1 _ _ _ _ (0, 0) HN.out, Nat.zero_add, wA, List.getElem?_toArray]; exact hu
  have HS : Hid ((fun w' : World => w'.cell? ⟨g, 0, none⟩ = some (.slice (some ⟨kg, 0, none⟩) s.kept.length s.kept.length) ∧ w'.cell? ⟨w.heap.size, 0, none⟩ = some (.int .i64 (i : Int)) ∧ w'.rangeAt w.heap.size 1 (bc x)) w1.drew) :=
    ⟨HA.out.c0, HRW.out 0 _ rfl, fun j u hu => by
      have := HRW.out (j + 1) u (by simpa [wc] using hu)
      rwa [show 0 + (j + 1) = 1 + j by omega] at this⟩
  have HIL : Hid ((Tryz.prog.info? 109).map (·.size) = some (bc x).length) := by show _ = _; rw [bc_length, hx]; exact sizeSec
  have i0 : (0 : Int) ≤ (i : Int) := by omega
  have i1 : (i : Int) < (s.kept.length : Int) := by omega
  refine AnyBut.begin (z := 9) (S := fun w' => w'.cell? ⟨g, 0, none⟩ = some (.slice (some ⟨kg, 0, none⟩) s.kept.length s.kept.length) ∧ w'.cell? ⟨w.heap.size, 0, none⟩ = some (.int .i64 (i : Int)) ∧ w'.rangeAt w.heap.size 1 (bc x)) (by kernel_rfl) ?_
  refine AnyBut.take 0 (some 4) (v := (ptr g)) rfl rfl (by kernel_rfl) (by decide) (by kernel_rfl) (by kernel_rfl) (by kernel_rfl) (by kernel_rfl) (fun _ _ _ h => h) (Or.inl ⟨by rfl, fun w hS => ?_⟩) HS.out ?_
  · (go_simp)
  simp only [Act.put, List.setIfInBounds_toArray, List.set_cons_zero, List.set_cons_succ]
  refine AnyBut.take 1 (some 5) (v := (ptr g)) rfl rfl (by kernel_rfl) (by decide) (by kernel_rfl) (by kernel_rfl) (by kernel_rfl) (by kernel_rfl) (fun _ _ _ h => h) (Or.inl ⟨by rfl, fun w hS => ?_⟩) HS.out ?_
  · (go_simp)
  simp only [Act.put, List.setIfInBounds_toArray, List.set_cons_zero, List.set_cons_succ]
  refine AnyBut.take 2 (some 6) (v := (ptr g)) rfl rfl (by kernel_rfl) (by decide) (by kernel_rfl) (by kernel_rfl) (by kernel_rfl) (by kernel_rfl) (fun _ _ _ h => h) (Or.inl ⟨by rfl, fun w hS => ?_⟩) HS.out ?_
  · (go_simp)
  simp only [Act.put, List.setIfInBounds_toArray, List.set_cons_zero, List.set_cons_succ]
  refine AnyBut.take 3 (some 7) (v := (.slice (some ⟨kg, 0, none⟩) s.kept.length s.kept.length)) rfl rfl (by kernel_rfl) (by decide) (by kernel_rfl) (by kernel_rfl) (by kernel_rfl) (by kernel_rfl) (fun _ _ _ h => h) (Or.inl ⟨by rfl, fun w hS => ?_⟩) HS.out ?_
  · (obtain ⟨q1, q2, _⟩ := hS; go_simp)
  simp only [Act.put, List.setIfInBounds_toArray, List.set_cons_zero, List.set_cons_succ]
  refine AnyBut.take 4 (some 8) (v := (.pointer (some ⟨w.heap.size, 0, none⟩))) rfl rfl (by kernel_rfl) (by decide) (by kernel_rfl) (by kernel_rfl) (by kernel_rfl) (by kernel_rfl) (fun _ _ _ h => h) (Or.inl ⟨by rfl, fun w hS => ?_⟩) HS.out ?_
  · (go_simp)
  simp only [Act.put, List.setIfInBounds_toArray, List.set_cons_zero, List.set_cons_succ]
  refine AnyBut.take 5 (some 9) (v := (.int .i64 (i : Int))) rfl rfl (by kernel_rfl) (by decide) (by kernel_rfl) (by kernel_rfl) (by kernel_rfl) (by kernel_rfl) (fun _ _ _ h => h) (Or.inl ⟨by rfl, fun w hS => ?_⟩) HS.out ?_
  · (obtain ⟨q1, q2, _⟩ := hS; go_simp)
  simp only [Act.put, List.setIfInBounds_toArray, List.set_cons_zero, List.set_cons_succ]
  refine AnyBut.take 6 (some 10) (v := (.pointer (some ⟨w.heap.size, 1, none⟩))) rfl rfl (by kernel_rfl) (by decide) (by kernel_rfl) (by kernel_rfl) (by kernel_rfl) (by kernel_rfl) (fun _ _ _ h => h) (Or.inl ⟨by rfl, fun w hS => ?_⟩) HS.out ?_
  · (go_simp)
  simp only [Act.put, List.setIfInBounds_toArray, List.set_cons_zero, List.set_cons_succ]
  refine AnyBut.take 7 (some 11) rfl rfl (by kernel_rfl) (by decide) (by kernel_rfl) (by kernel_rfl) (by kernel_rfl) (by kernel_rfl) (fun _ _ _ h => h) (yieldsIf_load_mid (by rfl) _ _ rfl _ _ rfl (bc x) _ (fun w hS => hS.2.2) Tryz.underlying109 rfl HIL.out) HS.out ?_
  simp only [Act.put, List.setIfInBounds_toArray, List.set_cons_zero, List.set_cons_succ]
  refine AnyBut.take 8 (some 12) (v := (.pointer (some ⟨kg, i * 64, none⟩))) rfl rfl (by kernel_rfl) (by decide) (by kernel_rfl) (by kernel_rfl) (by kernel_rfl) (by kernel_rfl) (fun _ _ _ h => h) (Or.inl ⟨by rfl, fun w hS => ?_⟩) HS.out ?_
  · (go_simp)
  simp only [Act.put, List.setIfInBounds_toArray, List.set_cons_zero, List.set_cons_succ]
  refine AnyBut.one 9 (by kernel_rfl) rfl (by rfl) (fun KK hK => ?_)
  refine wp_store_mid 109 _ _ rfl kg (i * 64) (bA x) rfl rfl (by rw [bA_size hx]; exact HA.out.drew.there hi) (bA_info hx) (bA_one x) ?_
  refine hK.out _ _ (fun h => absurd rfl h) ?_
  clear hK KK
  refine AnyBut.done (by kernel_rfl) ?_
  go_end0
  exact ⟨rfl, HA.out.drew.setKept hi hx, HT.out.drew.trans (foot_kept _ _ _ _ _ _)⟩
end Go.Proofs.YtcfninpokngmlaaGreatDoor
/- Proved: what Write makes of a disk. -/
namespace Go.Proofs.YtcfninpokngmlaaGreatDoor
open Go.RowKit
theorem build1 {P : Program} {ops : Array Oper} {rest : List Oper} {o : Oper} {a : Act} {w : World} {Q : Exit → Act → World → Prop} (hgd : o.guard = none) (t : TypeId) (i : Nat) (x : Operand) (ho : o.op = .build t #[(i, x)])
    (u : Value) (hx : a.eval x = u) (cells : Array Value) (hb : P.built t [(i, u)] = some cells) (h : wpList P ops Q rest (a.put o.dst (.agg cells)) w) : wpList P ops Q (o :: rest) a w := by
  have hr := run_build w t #[(i, u)] cells hb
  refine wpList_plain hgd fun K hK => ?_
  unfold Oper.wp execOp
  simp only [ho, List.map_toArray, List.map_cons, List.map_nil, hx, Sem.run_bind, hr, Result.andThen_ok, Sem.run_pure]
  exact hK _ _ h
def zwr : Array Value := wA (0, Sc.zero64)
theorem zeroWr (W : World) : (zeroValue 111).run Tryz.prog W = .ok (.agg zwr) W := by kernel_rfl
theorem zwr_size : zwr.size = 65 := by kernel_rfl
theorem builtWr (k : Nat) : Tryz.prog.built 111 [(0, .int .i64 (k : Int))] = some (wA (k, Sc.zero64)) := by kernel_rfl
theorem wA_one (p : Nat × ByteArray) : (wA p).all (·.oneCell') = true := all_oneCell_toArray (wc_one p)
theorem wA_info {p : Nat × ByteArray} (h : p.2.size = 64) : (Tryz.prog.info? 111).map (·.size) = some (wA p).size := by rw [wA_size h]; exact sizeWr
theorem info_wr : Tryz.prog.info? 111 = some Tryz.t111 := by kernel_rfl
theorem wr_zero : Tryz.t111.zero = some (.agg zwr) := by kernel_rfl
theorem copy_str {P : Program} {ops : Array Oper} {rest : List Oper} {o : Oper} {a : Act} {w : World} {Q : Exit → Act → World → Prop} (hgd : o.guard = none) (d x : Operand) (dT sT : TypeId) (ho : o.op = Op.call { callee := Callee.builtin Builtin.copy, args := #[d, x], argTypes := #[dT, sT] })
    (elem : TypeId) (hu : P.underlying dT = some (.slice elem)) (hz : ∀ w, (Go.sizeOf elem).run P w = .ok 1 w)
    (b off dLen dCap : Nat) (hd : a.eval d = .slice (some ⟨b, off, none⟩) dLen dCap) (t : ByteArray) (hx : a.eval x = .string t) (hle : t.size ≤ dLen) (ht : w.there b off t.size)
    (h : wpList P ops Q rest (a.put o.dst (goInt t.size)) (w.setCells b off (bc t))) : wpList P ops Q (o :: rest) a w := by
  have hr := Go.run_copy_string (P := P) w dT sT o.type elem b off dLen dCap t hu hz hle (fun j hj => (ht j hj).1) (fun j hj => (ht j hj).2)
  refine wpList_plain hgd fun K hK => ?_
  unfold Oper.wp execOp
  simp only [ho, resolve, invoke, builtin, Sem.run_bind, Sem.run_pure, Result.andThen_ok, List.map_toArray, List.map_cons, List.map_nil, hd, hx, hr]
  exact hK _ _ h
theorem size_u8 (w : World) : (Go.sizeOf 5).run Tryz.prog w = .ok 1 w := by kernel_rfl
theorem zero64_list : Sc.zero64.data.toList = List.replicate 64 0 := by unfold Sc.zero64; exact Array.toList_replicate
theorem splice_fill (k : Nat) (x : ByteArray) : splice (wc (k, Sc.zero64)) 1 (bc x) = wc (k, Sc.fill x) := by
  unfold splice wc bc
  simp only
  rw [Sc.fill_list, zero64_list, List.length_map, ← Sc.size_eq, Nat.add_comm 1, List.drop_succ_cons, ← List.map_drop, List.drop_replicate, List.map_append, show (1 : Nat) = 0 + 1 from rfl, List.take_succ_cons, List.take_zero]
  rfl
theorem fill_wr {p : Nat × ByteArray} (h : p.2.size = 64) : Instr.fill (fun i => some (i * Tryz.t111.size, Tryz.t111.size)) ((Array.range (1 * Tryz.t111.size)).map ((Value.agg zwr).cells[· % (Value.agg zwr).cells.size]!)) [(0, .agg (wA p))] = some (wA p) := by
  have e := Go.Great.fill_whole (s := Tryz.t111.size) (by decide) [.agg (wA p)] ((Array.range (1 * Tryz.t111.size)).map ((Value.agg zwr).cells[· % (Value.agg zwr).cells.size]!)) (fun v hv => by rw [List.mem_singleton.1 hv]; exact wA_size h) (by simp)
  rw [show (([.agg (wA p)] : List Value).flatMap fun v => v.cells.toList).toArray = wA p by simp [Value.cells]] at e
  exact e
theorem wp_build_one {o : Oper} {a : Act} {w : World} {K : Act → World → Prop} {Q : Exit → Act → World → Prop} (x : Operand) (ho : o.op = .buildSlice 95 1 #[(0, x)]) (d : Option Tmp) (hd : o.dst = d) (p : Nat × ByteArray) (hp : p.2.size = 64) (hx : a.eval x = .agg (wA p))
    (h : K (a.put d (.slice (some ⟨w.heap.size, 0, none⟩) 1 1)) (w.alloc (.cells (wA p) 111))) : o.wp Tryz.prog a w K Q := by
  subst hd
  refine wp_buildSlice 95 111 1 _ ho (wA p) Tryz.t111 (.agg zwr) Tryz.underlying95 info_wr wr_zero (by decide) (by decide) ?_ h
  rw [Array.toList_map]
  show Instr.fill _ _ [(0, a.eval x)] = _
  rw [hx]
  exact fill_wr hp
theorem own_slice {w : World} {base e size n : Nat} {v : Value} {xs : List Value} (h : w.ownsRow base e size v n xs) : ∃ a c, v = .slice a n c := by
  rcases h.2 with ⟨h1, h2⟩ | ⟨g, cap, _, h1, _⟩
  · subst h2; exact ⟨_, _, h1⟩
  · exact ⟨_, _, h1⟩
theorem there_row {w : World} {g o n : Nat} {cs : Array Value} {t : TypeId} (h : w.heap[g]? = some (.cells cs t (0, 0))) (hl : o + n ≤ cs.size) : w.there g o n := fun j hj => by
  refine ⟨?_, frozen_of_row w g _ _ t h⟩
  rw [cell_of_row w g _ _ t (0, 0) h, Array.getElem?_eq_getElem (by omega)]
  rfl
theorem range_all {w : World} {g : Nat} {cs : List Value} {t : TypeId} (h : w.heap[g]? = some (.cells cs.toArray t (0, 0))) : w.rangeAt g 0 cs := fun j u hu => by
  rw [cell_of_row w g _ _ t (0, 0) h, Nat.zero_add, List.getElem?_toArray]; exact hu
theorem range_below {w w' : World} {g o B : Nat} {l : List Value} (h : w.rangeAt g o l) (hb : Below B w w') (hg : g < B) : w'.rangeAt g o l := fun j v hv => (hb.cell (p := ⟨g, o + j, none⟩) hg).trans (h j v hv)
theorem range_chg {w w' : World} {g o : Nat} {fs : List Nat} {l : List Value} (h : w.rangeAt g o l) (hb : Chg fs w w') (hg : g ∉ fs) : w'.rangeAt g o l := fun j v hv => by
  have := h j v hv
  rw [← this]
  exact World.cell?_of_block (hb.block g (block_lt_of_cell this) hg)
/- 'append(x, y)' of one write behind what is pending -/
theorem append_wr {o : Oper} {a : Act} {K : Act → World → Prop} {Q : Exit → Act → World → Prop} (sl x : Operand) (d : Option Tmp) (hd : o.dst = d)
    (ho : o.op = .call { callee := .builtin .append, args := #[sl, x], argTypes := #[95, 95] }) (W : World) (v : Value) (l : List (Nat × ByteArray)) (hs : a.eval sl = v) (hown : W.ownsRow 0 111 65 v l.length (l.flatMap wc))
    (ad : Addr) (c : Nat) (p : Nat × ByteArray) (hp : p.2.size = 64) (hx : a.eval x = .slice (some ad) 1 c) (hnews : ∀ j u, (wc p)[j]? = some u → W.cell? (ad.add j) = some u) (hb : l.length ≤ 100000)
    (h : ∀ v' w', w'.ownsRow 0 111 65 v' (l ++ [p]).length ((l ++ [p]).flatMap wc) → W.grownBy w' v.ownBlock → (v'.ownBlock = v.ownBlock ∨ v'.ownBlock = some W.heap.size) → K (a.put d v') w') : o.wp Tryz.prog a W K Q := by
  subst hd
  have hb72 : Tryz.t111.bytes = 72 := rfl
  obtain ⟨v', w', hr, h2, h3, h4, h5⟩ := run_append_own_at (P := Tryz.prog) W 0 95 o.type 111 Tryz.t111 (.agg zwr) 65 72 Tryz.underlying95 info_wr wr_zero rfl rfl zwr_size (by omega) v l.length (l.flatMap wc) hown ad 1 c (wc p) (by rw [wc_length hp]) hnews (wc_one p) (by unfold maxLen; omega) (by omega) (Nat.zero_le _)
  unfold Oper.wp execOp
  simp only [ho, resolve, invoke, builtin, Sem.run_bind, Sem.run_pure, Result.andThen_ok, List.map_toArray, List.map_cons, List.map_nil, hs, hx, hr]
  exact h v' w' (by simpa using h2) h3 h5
theorem Dk.put {w w' : World} {g kg : Nat} {v v' : Value} {s : Sc.St} {k : Nat} {x : ByteArray} (H : Dk w g kg v (Sc.spent s)) (hB : w.grownBy w' v.ownBlock) (hO : w'.ownsRow 0 111 65 v' (s.pend ++ [(k, Sc.fill x)]).length ((s.pend ++ [(k, Sc.fill x)]).flatMap wc)) (hv : v'.ownBlock = v.ownBlock ∨ v'.ownBlock = some w.heap.size) (ok : Sc.Ok (Sc.put s k x)) :
    Dk (w'.setCell ⟨g, 1, none⟩ v') g kg v' (Sc.put s k x) ∧ Turn (foot g kg v) (foot g kg v') w (w'.setCell ⟨g, 1, none⟩ v') := by
  have lt := H.lt
  have hg : w'.heap[g]? = w.heap[g]? := hB.block g (lt g (by simp [foot])) (fun e => H.gp e.symm)
  have hk : w'.heap[kg]? = w.heap[kg]? := hB.block kg (lt kg (by simp [foot])) (fun e => H.kp e.symm)
  have ne1 : v'.ownBlock ≠ some g := fun e => by
    rcases hv with h | h
    · exact H.gp (h ▸ e)
    · rw [h] at e
      have := lt g (by simp [foot])
      have := Option.some.inj e
      omega
  have ne2 : v'.ownBlock ≠ some kg := fun e => by
    rcases hv with h | h
    · exact H.kp (h ▸ e)
    · rw [h] at e
      have := lt kg (by simp [foot])
      have := Option.some.inj e
      omega
  refine ⟨⟨?_, ?_, own_keep hO (fun k hk => heap_setCell_other _ _ _ _ (fun e => ne1 (by rw [hk, e]))), H.gk, ne1, ne2, ok⟩, ⟨?_, fun k hk => ?_⟩⟩
  · rw [heap_setCell_same w' g 1 _ _ _ (hg.trans H.row)]
    rfl
  · rw [heap_setCell_other _ _ _ _ (by exact Ne.symm H.gk), hk]; exact H.kept
  · exact ((Chg.grown hB).mono (fun k hk => by simp [foot]; simp at hk; exact .inr (.inr hk))).trans ((Chg.setCell w' g 1 v').mono (fun k hk => by rw [List.mem_singleton.1 hk]; simp [foot]))
  · simp only [foot, List.mem_cons, Option.mem_toList] at hk ⊢
    rcases hk with h | h | h
    · exact .inl (.inl h)
    · exact .inl (.inr (.inl h))
    · rcases hv with e | e
      · rw [e] at h; exact .inl (.inr (.inr h))
      · rw [e] at h
        exact .inr (by have := Option.some.inj h; omega)
set_option maxHeartbeats 4000000 in
set_option maxRecDepth 20000 in
theorem write_any (g kg : Nat) (v : Value) (s : Sc.St) (i : Int) (x : ByteArray) (w : World) (H : Dk w g kg v s) (hn : s.dn ≤ 1000000000) (hl : s.pend.length ≤ 30000) :
    Calls Tryz.prog 106 #[ptr g, .int .i64 i, .string x] w (Does w g kg v (Sc.writeS s i x) (Sc.writeE s i x)) := by
  have HR := ready_any g kg v s w H
  have HS := has_any g kg v s i w H
  have HH : Hid (Dk w g kg v s) := H
  have HSP : Hid (Calls Tryz.prog 108 #[ptr g] w fun e w' => e = .returned (.int .i64 (spendE s)) ∧ Dk w' g kg v (spendS s) ∧ Turn (foot g kg v) (foot g kg v) w w') := spend_any g kg v s w H hn
  have hz := zeroWr
  clear H
  unfold Sc.liveE at HR
  unfold Sc.writeS Sc.writeE
  unfold spendE spendS at HSP
  cases hd : s.down
  · rw [hd] at HR
    simp only [Bool.false_eq_true, if_false] at *
    cases hh : Sc.has s i
    · rw [hh] at HS
      simp only [if_true]
      go_enter Tryz.func106, Tryz.ntmps106
      go_wp2_with (first | (go_at_call 53; refine HR.mono ?_; rintro e w' ⟨rfl, rfl⟩) | (go_at_call 122; refine HS.mono ?_; rintro e w' ⟨rfl, rfl⟩))
      go_ret
      exact ⟨_, rfl, HH.out, Turn.refl _ _⟩
    · rw [hh] at HS
      simp only [Bool.true_eq_false, if_false]
      by_cases hx : 64 < x.size
      · have hdx : decide ((64 : Int) < (x.size : Int)) = true := by simp; omega
        simp only [hx, if_true]
        go_enter Tryz.func106, Tryz.ntmps106
        go_wp2_with (first | (go_at_call 53; refine HR.mono ?_; rintro e w' ⟨rfl, rfl⟩) | (go_at_call 122; refine HS.mono ?_; rintro e w' ⟨rfl, rfl⟩))
        go_ret
        exact ⟨_, rfl, HH.out, Turn.refl _ _⟩
      · have hdx : decide ((64 : Int) < (x.size : Int)) = false := by simp; omega
        simp only [hx, if_false]
        by_cases h0 : s.left = 0
        · simp only [h0, if_true] at HSP ⊢
          go_enter Tryz.func106, Tryz.ntmps106
          go_wp2_with (first | (go_at_call 53; refine HR.mono ?_; rintro e w' ⟨rfl, rfl⟩) | (go_at_call 122; refine HS.mono ?_; rintro e w' ⟨rfl, rfl⟩) | (go_at_call 108; refine HSP.out.mono ?_; rintro e w1 ⟨rfl, hD1, hT1⟩))
          go_ret
          exact ⟨_, rfl, hD1, hT1⟩
        · simp only [h0, if_false] at HSP ⊢
          obtain ⟨k, rfl⟩ : ∃ k : Nat, i = (k : Int) := ⟨i.toNat, by have := (Sc.has_iff.1 hh).1; omega⟩
          have hk : k < s.kept.length := by have := (Sc.has_iff.1 hh).2; omega
          rw [Int.toNat_natCast]
          have OK : Hid (Sc.Ok (Sc.put s k x)) := Sc.put_ok HH.out.ok hk (by omega)
          go_enter Tryz.func106, Tryz.ntmps106
          go_wp2_with (first | (go_at_call 53; refine HR.mono ?_; rintro e w' ⟨rfl, rfl⟩) | (go_at_call 122; refine HS.mono ?_; rintro e w' ⟨rfl, rfl⟩) | (go_at_call 108; refine HSP.out.mono ?_; rintro e w1 ⟨rfl, hD1, hT1⟩; have HD1 : Hid (Dk w1 g kg v (Sc.spent s)) := hD1; have HT1 := (show Hid (Turn (foot g kg v) (foot g kg v) _ w1) from hT1); clear hD1 hT1) | (refine build1 rfl 111 0 _ rfl (.int .i64 (k : Int)) rfl _ (builtWr k) ?_) | (refine store_row rfl rfl 111 _ _ rfl _ (wA (k, Sc.zero64)) rfl rfl 111 zwr (heap_alloc_new _ _) (wA_info Sc.zero64_size) (by rw [wA_size (p := (k, Sc.zero64)) Sc.zero64_size]; exact zwr_size) (wA_one _) ?_) | (refine copy_str rfl _ _ 138 9 rfl 5 Tryz.underlying138 size_u8 _ 1 64 64 rfl x rfl (by omega) (there_row (setRow_heap _ _ _ _ _ _ (heap_alloc_new _ _)) (by rw [wA_size (p := (k, Sc.zero64)) Sc.zero64_size]; omega)) ?_))
          have HW2 : Hid ((((w1.alloc (.cells zwr 111)).setRow w1.heap.size (wA (k, Sc.zero64))).setCells w1.heap.size 1 (bc x)).heap[w1.heap.size]? = some (.cells (wc (k, Sc.fill x)).toArray 111 (0, 0))) := by
            have := setCells_splice w1.heap.size 111 (bc x) 1 (wc (k, Sc.zero64)) ((w1.alloc (.cells zwr 111)).setRow w1.heap.size (wA (k, Sc.zero64))) (setRow_heap _ _ _ _ _ _ (heap_alloc_new _ _)) (by rw [wc_length Sc.zero64_size, bc_length]; omega)
            rw [splice_fill] at this
            exact this
          have HB2 : Hid (Below w1.heap.size w1 (((w1.alloc (.cells zwr 111)).setRow w1.heap.size (wA (k, Sc.zero64))).setCells w1.heap.size 1 (bc x))) := below_setCells (Nat.le_refl _) _ _ _ (below_setRow ((Below.refl _ _).alloc (Nat.le_refl _) _) (Nat.le_refl _) _)
          generalize World.setCells _ _ _ _ = w2 at *
          have HD2 : Hid (Dk w2 g kg v (Sc.spent s)) := HD1.out.below HB2.out
          have HT2 : Hid (Turn (foot g kg v) (foot g kg v) w' w2) := HT1.out.trans (Turn.of_below HB2.out)
          have hN : w1.heap.size < w2.heap.size := (Array.getElem?_eq_some_iff.1 HW2.out).1
          have hfoot : Hid (∀ b ∈ foot g kg v, b < w1.heap.size) := HD1.out.lt
          have hfs : (Sc.fill x).size = 64 := Sc.fill_size (by omega)
          clear HD1 HT1 HB2 HR HS HSP HH
          generalize w1.heap.size = N at *
          have HS0 : Hid ((fun w' : World => w'.cell? ⟨g, 1, none⟩ = some v ∧ w'.rangeAt N 0 (wc (k, Sc.fill x))) w2.drew) := ⟨HD2.out.c1, range_all HW2.out⟩
          have HIL : Hid ((Tryz.prog.info? 111).map (·.size) = some (wc (k, Sc.fill x)).length) := by show _ = _; rw [wc_length hfs]; exact sizeWr
          refine AnyBut.begin (z := 10) (S := fun w' => w'.cell? ⟨g, 1, none⟩ = some v ∧ w'.rangeAt N 0 (wc (k, Sc.fill x))) (by kernel_rfl) ?_
          refine AnyBut.take 0 (some 33) (v := (ptr g)) rfl rfl (by kernel_rfl) (by decide) (by kernel_rfl) (by kernel_rfl) (by kernel_rfl) (by kernel_rfl) (fun _ _ _ h => h) (Or.inl ⟨by rfl, fun w hS => ?_⟩) HS0.out ?_
          · (go_simp)
          simp only [Act.put, List.setIfInBounds_toArray, List.set_cons_zero, List.set_cons_succ]
          refine AnyBut.take 1 (some 34) (v := (ptr g)) rfl rfl (by kernel_rfl) (by decide) (by kernel_rfl) (by kernel_rfl) (by kernel_rfl) (by kernel_rfl) (fun _ _ _ h => h) (Or.inl ⟨by rfl, fun w hS => ?_⟩) HS0.out ?_
          · (go_simp)
          simp only [Act.put, List.setIfInBounds_toArray, List.set_cons_zero, List.set_cons_succ]
          refine AnyBut.take 2 (some 35) (v := (ptr g)) rfl rfl (by kernel_rfl) (by decide) (by kernel_rfl) (by kernel_rfl) (by kernel_rfl) (by kernel_rfl) (fun _ _ _ h => h) (Or.inl ⟨by rfl, fun w hS => ?_⟩) HS0.out ?_
          · (go_simp)
          simp only [Act.put, List.setIfInBounds_toArray, List.set_cons_zero, List.set_cons_succ]
          refine AnyBut.take 3 (some 36) (v := (.pointer (some ⟨g, 1, none⟩))) rfl rfl (by kernel_rfl) (by decide) (by kernel_rfl) (by kernel_rfl) (by kernel_rfl) (by kernel_rfl) (fun _ _ _ h => h) (Or.inl ⟨by rfl, fun w hS => ?_⟩) HS0.out ?_
          · (go_simp)
          simp only [Act.put, List.setIfInBounds_toArray, List.set_cons_zero, List.set_cons_succ]
          refine AnyBut.take 4 (some 37) (v := (v)) rfl rfl (by kernel_rfl) (by decide) (by kernel_rfl) (by kernel_rfl) (by kernel_rfl) (by kernel_rfl) (fun _ _ _ h => h) (Or.inl ⟨by rfl, fun w hS => ?_⟩) HS0.out ?_
          · (obtain ⟨q1, q2⟩ := hS; go_simp)
          simp only [Act.put, List.setIfInBounds_toArray, List.set_cons_zero, List.set_cons_succ]
          refine AnyBut.take 5 (some 38) rfl rfl (by kernel_rfl) (by decide) (by kernel_rfl) (by kernel_rfl) (by kernel_rfl) (by kernel_rfl) (fun _ _ _ h => h) (yieldsIf_load_mid (by rfl) _ _ rfl _ _ rfl (wc (k, Sc.fill x)) _ (fun w hS => hS.2) Tryz.underlying111 rfl HIL.out) HS0.out ?_
          simp only [Act.put, List.setIfInBounds_toArray, List.set_cons_zero, List.set_cons_succ]
          refine AnyBut.one 6 (by kernel_rfl) rfl (by rfl) (fun KK hK => ?_)
          refine wp_build_one (.tmp 38) rfl (some 39) rfl (k, Sc.fill x) hfs rfl ?_
          have HS1 : Hid ((fun w' : World => w'.cell? ⟨g, 1, none⟩ = some v ∧ w'.rangeAt N 0 (wc (k, Sc.fill x))) (w2.drew.alloc (.cells (wA (k, Sc.fill x)) 111))) :=
            ⟨(HD2.out.drew.alloc _).c1, range_chg (range_all (w := w2.drew) HW2.out) (Chg.alloc [] _ _) (by simp)⟩
          refine hK.out _ _ (fun _ => HS1.out) ?_
          clear hK KK
          simp only [Act.put, List.setIfInBounds_toArray, List.set_cons_zero, List.set_cons_succ]
          refine AnyBut.one 7 (by kernel_rfl) rfl (by rfl) (fun KK hK => ?_)
          refine append_wr (.tmp 37) (.tmp 39) (some 40) rfl rfl _ v s.pend rfl (HD2.out.drew.alloc _).pend ⟨w2.drew.heap.size, 0, none⟩ 1 (k, Sc.fill x) hfs rfl (fun j u hj => by rw [Addr.add_mid]; exact range_all (heap_alloc_new w2.drew _) j u hj) (by omega) ?_
          intro v' w3 hO3 hG3 hv3
          have HS2 : Hid ((fun w' : World => w'.cell? ⟨g, 1, none⟩ = some v ∧ w'.rangeAt N 0 (wc (k, Sc.fill x))) w3) := by
            refine ⟨?_, range_chg HS1.out.2 (Chg.grown hG3) (fun h => ?_)⟩
            · rw [← HS1.out.1]
              exact World.cell?_of_block (hG3.block g (by have := hfoot.out g (by simp [foot]); show g < _; simp; omega) (fun e => HD2.out.gp e.symm))
            · have := hfoot.out N (by simp only [foot, List.mem_cons]; exact .inr (.inr h))
              omega
          refine hK.out _ _ (fun _ => HS2.out) ?_
          clear hK KK
          simp only [Act.put, List.setIfInBounds_toArray, List.set_cons_zero, List.set_cons_succ]
          refine AnyBut.take 8 (some 41) (v := (ptr g)) rfl rfl (by kernel_rfl) (by decide) (by kernel_rfl) (by kernel_rfl) (by kernel_rfl) (by kernel_rfl) (fun _ _ _ h => h) (Or.inl ⟨by rfl, fun w hS => ?_⟩) HS2.out ?_
          · (go_simp)
          simp only [Act.put, List.setIfInBounds_toArray, List.set_cons_zero, List.set_cons_succ]
          refine AnyBut.take 9 (some 42) (v := (.pointer (some ⟨g, 1, none⟩))) rfl rfl (by kernel_rfl) (by decide) (by kernel_rfl) (by kernel_rfl) (by kernel_rfl) (by kernel_rfl) (fun _ _ _ h => h) (Or.inl ⟨by rfl, fun w hS => ?_⟩) HS2.out ?_
          · (go_simp)
          simp only [Act.put, List.setIfInBounds_toArray, List.set_cons_zero, List.set_cons_succ]
          refine AnyBut.one 10 (by kernel_rfl) rfl (by rfl) (fun KK hK => ?_)
          obtain ⟨HD4, HT4⟩ := Dk.put (HD2.out.drew.alloc (.cells (wA (k, Sc.fill x)) 111)) hG3 hO3 hv3 OK.out
          have c1 := HS2.out.1
          have f1 : w3.frozen? ⟨g, 1, none⟩ = false := (World.frozen?_of_block (hG3.block g (by have := hfoot.out g (by simp [foot]); show g < _; simp; omega) (fun e => HD2.out.gp e.symm))).trans ((HD2.out.drew.alloc _).fz 1)
          obtain ⟨va, vc, rfl⟩ := own_slice hO3
          go_simp
          refine hK.out _ _ (fun h => absurd rfl h) ?_
          clear hK KK
          refine AnyBut.done (by kernel_rfl) ?_
          have HFN : Hid (Does w' g kg v (Sc.put s k x) 0 (.returned (.int .i64 0)) (w3.setCell ⟨g, 1, none⟩ (.slice va (s.pend ++ [(k, Sc.fill x)]).length vc))) := ⟨_, rfl, HD4, (HT2.out.drew.trans (Turn.of_below ((Below.refl _ _).alloc (Nat.le_refl _) _))).trans HT4⟩
          clear HD4 HT4
          go_wp2
          go_ret
          have HF := HFN.out
          rw [show (s.pend ++ [(k, Sc.fill x)]).length = s.pend.length + 1 by simp] at HF
          exact HF
  · rw [hd] at HR
    simp only [if_true] at *
    go_enter Tryz.func106, Tryz.ntmps106
    go_wp2_with (first | (go_at_call 53; refine HR.mono ?_; rintro e w' ⟨rfl, rfl⟩))
    go_ret
    exact ⟨_, rfl, HH.out, Turn.refl _ _⟩
end Go.Proofs.YtcfninpokngmlaaGreatDoor
/- Proved: what Flush and On make of a disk. -/
namespace Go.Proofs.YtcfninpokngmlaaGreatDoor
open Go.RowKit
/- the first k of the writes that are pending are kept, as far as b marks them -/
def mid (b : Nat → Bool) (s : Sc.St) (k : Nat) : Sc.St := { s with kept := Sc.keepI b (s.pend.take k) 0 s.kept }
theorem mid_zero (b : Nat → Bool) (s : Sc.St) : mid b s 0 = s := rfl
theorem mid_next (b : Nat → Bool) (s : Sc.St) (k : Nat) (i : Nat) (x : ByteArray) (h : s.pend[k]? = some (i, x)) (hb : b k = true) : mid b s (k + 1) = { mid b s k with kept := (mid b s k).kept.set i x } := by
  unfold mid
  rw [Sc.keepI_take b s.pend s.kept k (i, x) h, if_pos hb]
theorem mid_skip (b : Nat → Bool) (s : Sc.St) (k : Nat) (p : Nat × ByteArray) (h : s.pend[k]? = some p) (hb : b k = false) : mid b s (k + 1) = mid b s k := by
  unfold mid
  rw [Sc.keepI_take b s.pend s.kept k p h, if_neg (by rw [hb]; decide)]
theorem mid_all (b : Nat → Bool) (s : Sc.St) : (mid b s s.pend.length).kept = Sc.keepI b s.pend 0 s.kept := by
  unfold mid
  simp only
  rw [List.take_length]
section
variable {w : World} {g kg : Nat} {v : Value}
/- of a disk in the midst of it the k-th write that is pending is read -/
theorem Dk.nth {s : Sc.St} (H : Dk w g kg v s) {k : Nat} (hk : k < s.pend.length) : ∃ pg cap i x, v = .slice (some ⟨pg, 0, none⟩) s.pend.length cap ∧ s.pend.length ≤ cap ∧ cap ≤ 9223372036854775807 ∧ s.pend[k]? = some (i, x) ∧ i < s.kept.length ∧ x.size = 64 ∧ w.rangeAt pg (k * 65) (wc (i, x)) := by
  rcases H.open with ⟨_, h⟩ | ⟨pg, cap, h1, h2, h3, h4⟩
  · rw [h] at hk; simp at hk
  · have hm : s.pend[k] ∈ s.pend := List.getElem_mem hk
    refine ⟨pg, cap, s.pend[k].1, s.pend[k].2, h1, h2, h3, List.getElem?_eq_getElem hk, H.ok.pat _ hm, H.ok.psize _ hm, h4 k _ (List.getElem?_eq_getElem hk)⟩
/- nothing is pending any more -/
theorem Dk.clear {s t : Sc.St} (H : Dk w g kg v s) (hk : t.kept = s.kept) (hp : t.pend = []) (hd : t.down = s.down) (hl : t.left = s.left) (hn : t.dn = s.dn) (ok : Sc.Ok t) : Dk (w.setCell ⟨g, 1, none⟩ (.slice none 0 0)) g kg (.slice none 0 0) t :=
  H.set 1 _ (by unfold dcells; rw [hk, hd, hl, hn]; rfl) hk (by rw [hp]; exact World.ownsRow_nil _ _ _ _) (by simp [Value.ownBlock]) (by simp [Value.ownBlock]) ok
end
theorem foot_nil (g kg : Nat) (v : Value) (w : World) (i : Nat) (x : Value) : Turn (foot g kg v) (foot g kg (.slice none 0 0)) w (w.setCell ⟨g, i, none⟩ x) := ⟨(Chg.setCell w g i x).mono (fun k hk => by rw [List.mem_singleton.1 hk]; simp [foot]), fun k hk => .inl (by
  simp only [foot, List.mem_cons, Value.ownBlock, Option.mem_toList] at hk ⊢
  rcases hk with h | h | h
  · exact .inl h
  · exact .inr (.inl h)
  · cases h)⟩
set_option maxHeartbeats 4000000 in
set_option maxRecDepth 20000 in
theorem flush_any (g kg : Nat) (v : Value) (s : Sc.St) (w : World) (H : Dk w g kg v s) (hn : s.dn ≤ 1000000000) :
    Calls Tryz.prog 79 #[ptr g] w (Does w g kg v (Sc.flushS s) (Sc.flushE s)) := by
  have HR := ready_any g kg v s w H
  have HH : Hid (Dk w g kg v s) := H
  have HSP : Hid (Calls Tryz.prog 108 #[ptr g] w fun e w' => e = .returned (.int .i64 (spendE s)) ∧ Dk w' g kg v (spendS s) ∧ Turn (foot g kg v) (foot g kg v) w w') := spend_any g kg v s w H hn
  have hz := zeroWr
  clear H
  unfold Sc.liveE at HR
  unfold Sc.flushS Sc.flushE
  unfold spendE spendS at HSP
  cases hd : s.down
  · rw [hd] at HR
    simp only [Bool.false_eq_true, if_false] at *
    by_cases h0 : s.left = 0
    · simp only [h0, if_true] at HSP ⊢
      go_enter Tryz.func79, Tryz.ntmps79
      go_wp2_with (first | (go_at_call 53; refine HR.mono ?_; rintro e w' ⟨rfl, rfl⟩) | (go_at_call 108; refine HSP.out.mono ?_; rintro e w1 ⟨rfl, hD1, hT1⟩))
      go_ret
      exact ⟨_, rfl, hD1, hT1⟩
    · simp only [h0, if_false] at HSP ⊢
      have OK : Hid (Sc.Ok (Sc.flushed s)) := Sc.flushed_ok HH.out.ok
      have HK : Hid ((Sc.flushed s).kept = (mid (fun _ => true) (Sc.spent s) (Sc.spent s).pend.length).kept) := (mid_all _ _).symm
      obtain ⟨pa, cap, hv⟩ := HH.out.pval
      have hpl : (Sc.spent s).pend.length = s.pend.length := rfl
      go_enter Tryz.func79, Tryz.ntmps79
      go_wp2_with (first | (go_at_call 53; refine HR.mono ?_; rintro e w' ⟨rfl, rfl⟩) | (go_at_call 108; refine HSP.out.mono ?_; rintro e w1 ⟨rfl, hD1, hT1⟩; have HD1 : Hid (Dk w1 g kg v (Sc.spent s)) := hD1; have HT1 := (show Hid (Turn (foot g kg v) (foot g kg v) _ w1) from hT1); have c1 := hD1.c1; rw [hv] at c1; clear hD1 hT1))
      have HV : Hid (v = Value.slice pa s.pend.length cap) := hv
      clear HSP HR HH c1 hv
      go_loopw [22] (fun s22 wr => ∃ k : Nat, k ≤ s.pend.length ∧ s22 = .int .i64 (k : Int) ∧ Dk wr g kg v (mid (fun _ => true) (Sc.spent s) k) ∧ Turn (foot g kg v) (foot g kg v) w' wr) (fun s22 _ => s.pend.length - (intOf s22).toNat)
      case atStart => exact ⟨0, by omega, rfl, HD1.out, HT1.out⟩
      case round =>
        obtain ⟨k, hk, rfl, hD, hT⟩ := hrel
        have HD : Hid (Dk wr g kg v (mid (fun _ => true) (Sc.spent s) k)) := hD
        have HT : Hid (Turn (foot g kg v) (foot g kg v) w' wr) := hT
        clear hD hT HD1 HT1
        by_cases hkl : k < s.pend.length
        · have dk : decide ((k : Int) < (s.pend.length : Int)) = true := by simp; omega
          obtain ⟨pg, cap', i, x, hv', hcap, hc63, hp, hi, hx, hr⟩ := HD.out.nth (k := k) hkl
          have HRG : Hid (wr.rangeAt pg (k * 65) (wc (i, x))) := hr
          have HP : Hid ((Sc.spent s).pend[k]? = some (i, x)) := hp
          have ea : pa = some ⟨pg, 0, none⟩ := by
            rw [HV.out] at hv'
            exact (Value.slice.inj hv').1
          have hpm : s.pend.length ≤ 9223372036854775807 := Nat.le_trans hcap hc63
          subst ea
          clear hr hp hv'
          have k0 : (0 : Int) ≤ (k : Int) := by omega
          have k1 : (k : Int) < (s.pend.length : Int) := by omega
          have HIW : Hid ((Tryz.prog.info? 111).map (·.size) = some (wc (i, x)).length) := by show _ = _; rw [wc_length hx]; exact sizeWr
          have HIA : Hid ((Tryz.prog.info? 111).map (·.size) = some (wA (i, x)).size) := wA_info hx
          have HZA : Hid (zwr.size = (wA (i, x)).size) := by show _ = _; rw [wA_size hx]; exact zwr_size
          have HA : Hid (Dk ((wr.alloc (.cells zwr 111)).setRow wr.heap.size (wA (i, x))) g kg v (mid (fun _ => true) (Sc.spent s) k)) := HD.out.below (below_setRow ((Below.refl _ _).alloc (Nat.le_refl _) _) (Nat.le_refl _) _)
          have HTA : Hid (Turn (foot g kg v) (foot g kg v) w' ((wr.alloc (.cells zwr 111)).setRow wr.heap.size (wA (i, x)))) := HT.out.trans (Turn.of_below (below_setRow ((Below.refl _ _).alloc (Nat.le_refl _) _) (Nat.le_refl _) _))
          have HKP : Hid (Calls Tryz.prog 70 #[ptr g, .agg (wA (i, x))] ((wr.alloc (.cells zwr 111)).setRow wr.heap.size (wA (i, x))) fun e w' => e = .returned (.tuple #[]) ∧ Dk w' g kg v { mid (fun _ => true) (Sc.spent s) k with kept := (mid (fun _ => true) (Sc.spent s) k).kept.set i x } ∧ Turn (foot g kg v) (foot g kg v) ((wr.alloc (.cells zwr 111)).setRow wr.heap.size (wA (i, x))) w') := keep_any g kg v _ i x _ HA.out hi hx
          go_wp2_with (first | (refine wpList_load_mid rfl 111 _ rfl pg (k * 65) (by first | rfl | (show Value.pointer _ = _; simp)) (wc (i, x)) _ HRG.out Tryz.underlying111 rfl HIW.out ?_) | (refine store_row rfl rfl 111 _ _ rfl wr.heap.size (wA (i, x)) rfl rfl 111 zwr (heap_alloc_new _ _) HIA.out HZA.out (wA_one _) ?_) | (refine wpList_load_row rfl 111 _ rfl wr.heap.size rfl 111 (wA (i, x)) (0, 0) _ (setRow_heap _ _ _ _ _ _ (heap_alloc_new _ _)) Tryz.underlying111 rfl HIA.out ?_) | (go_at_call 70; refine HKP.out.mono ?_; rintro e w3 ⟨rfl, hD3, hT3⟩))
          have HFN : ∃ k' : Nat, k' ≤ s.pend.length ∧ Value.int .i64 ((k : Int) + 1) = .int .i64 (k' : Int) ∧ Dk w3 g kg v (mid (fun _ => true) (Sc.spent s) k') ∧ Turn (foot g kg v) (foot g kg v) w' w3 := ⟨k + 1, by omega, by go_num, by rw [mid_next _ _ _ i x HP.out rfl]; exact hD3, HTA.out.trans hT3⟩
          clear hD3 hT3
          go_roundw
          case rel => first | exact HFN | ((repeat apply Exists.intro); exact ⟨HFN, rfl⟩)
          case measure => (simp [intOf]) <;> omega
        · have hke : k = s.pend.length := by omega
          have dk : decide ((k : Int) < (s.pend.length : Int)) = false := by simp; omega
          have c1 := HD.out.c1
          have f1 := HD.out.fz 1
          have HFN : Hid (Does w' g kg v (Sc.flushed s) 0 (.returned (.int .i64 0)) (wr.setCell ⟨g, 1, none⟩ (.slice none 0 0))) := ⟨_, rfl, HD.out.clear (by rw [HK.out, hpl, hke]) rfl rfl rfl rfl OK.out, HT.out.trans (foot_nil _ _ _ _ _ _)⟩
          have hkd : ¬ ((k : Int) < (s.pend.length : Int)) := by omega
          clear hke hkl
          go_wp2
          go_ret
          exact HFN.out
  · rw [hd] at HR
    simp only [if_true] at *
    go_enter Tryz.func79, Tryz.ntmps79
    go_wp2_with (first | (go_at_call 53; refine HR.mono ?_; rintro e w' ⟨rfl, rfl⟩))
    go_ret
    exact ⟨_, rfl, HH.out, Turn.refl _ _⟩
end Go.Proofs.YtcfninpokngmlaaGreatDoor
/- Proved: what On makes of a disk. -/
namespace Go.Proofs.YtcfninpokngmlaaGreatDoor
open Go.RowKit
/- a slice of bools that lies outside the blocks fs -/
def Bools (fs : List Nat) (w : World) (a : Option Addr) (len : Nat) (m : Nat → Bool) : Prop :=
  len = 0 ∨ ∃ b off, a = some ⟨b, off, none⟩ ∧ b ∉ fs ∧ ∀ i, i < len → w.cell? ⟨b, off + i, none⟩ = some (.bool (m i))
theorem Bools.keep {fs : List Nat} {w w' : World} {a : Option Addr} {len : Nat} {m : Nat → Bool} (h : Bools fs w a len m) (hc : Chg fs w w') : Bools fs w' a len m := by
  rcases h with h | ⟨b, off, h1, h2, h3⟩
  · exact .inl h
  · refine .inr ⟨b, off, h1, h2, fun i hi => ?_⟩
    have := h3 i hi
    rw [← this]
    exact World.cell?_of_block (hc.block b (block_lt_of_cell this) h2)
/- which writes are kept -/
def marks (len : Nat) (m : Nat → Bool) (i : Nat) : Bool := decide (i < len) && m i
set_option maxHeartbeats 4000000 in
set_option maxRecDepth 20000 in
theorem on_any (g kg : Nat) (v : Value) (s : Sc.St) (a : Option Addr) (len cp : Nat) (m : Nat → Bool) (w : World) (H : Dk w g kg v s) (hB : Bools (foot g kg v) w a len m) (hlen : len ≤ cp) (hcp : cp ≤ 9223372036854775807) :
    Calls Tryz.prog 38 #[ptr g, .slice a len cp] w (Does w g kg v (Sc.onS s (marks len m)) (Sc.onE s)) := by
  have HR := made_yes g kg v s w H
  have HH : Hid (Dk w g kg v s) := H
  have HBL : Hid (Bools (foot g kg v) w a len m) := hB
  have hz := zeroWr
  have c2 := H.c2
  have c1 := H.c1
  clear H hB
  unfold Sc.onS Sc.onE
  cases hd : s.down
  · rw [hd] at c2
    simp only [Bool.false_eq_true, if_false]
    clear c1
    go_enter Tryz.func38, Tryz.ntmps38
    go_wp2_with (first | (go_at_call 69; refine HR.mono ?_; rintro e w' ⟨rfl, rfl⟩))
    go_ret
    exact ⟨_, rfl, HH.out, Turn.refl _ _⟩
  · rw [hd] at c2
    simp only [if_true]
    have OK : Hid (Sc.Ok (Sc.back s (marks len m))) := Sc.back_ok HH.out.ok _
    have HK : Hid ((Sc.back s (marks len m)).kept = (mid (marks len m) s s.pend.length).kept) := (mid_all _ _).symm
    obtain ⟨pa, cap, hv⟩ := HH.out.pval
    rw [hv] at c1
    have HV : Hid (v = Value.slice pa s.pend.length cap) := hv
    clear hv
    go_enter Tryz.func38, Tryz.ntmps38
    go_wp2_with (first | (go_at_call 69; refine HR.mono ?_; rintro e w' ⟨rfl, rfl⟩))
    clear HR c1 c2
    go_loopw [22] (fun s22 wr => ∃ k : Nat, k ≤ s.pend.length ∧ s22 = .int .i64 (k : Int) ∧ Dk wr g kg v (mid (marks len m) s k) ∧ Turn (foot g kg v) (foot g kg v) w' wr) (fun s22 _ => s.pend.length - (intOf s22).toNat)
    case atStart => exact ⟨0, by omega, rfl, HH.out, Turn.refl _ _⟩
    case round =>
      obtain ⟨k, hk, rfl, hD, hT⟩ := hrel
      have HD : Hid (Dk wr g kg v (mid (marks len m) s k)) := hD
      have HT : Hid (Turn (foot g kg v) (foot g kg v) w' wr) := hT
      clear hD hT
      by_cases hkl : k < s.pend.length
      · have dk : decide ((k : Int) < (s.pend.length : Int)) = true := by simp; omega
        obtain ⟨pg, cap', i, x, hv', hcap, hc63, hp, hi, hx, hr⟩ := HD.out.nth (k := k) hkl
        have HRG : Hid (wr.rangeAt pg (k * 65) (wc (i, x))) := hr
        have HP : Hid (s.pend[k]? = some (i, x)) := hp
        have ea : pa = some ⟨pg, 0, none⟩ := by
          rw [HV.out] at hv'
          exact (Value.slice.inj hv').1
        have hpm : s.pend.length ≤ 9223372036854775807 := Nat.le_trans hcap hc63
        subst ea
        clear hr hp hv'
        have k0 : (0 : Int) ≤ (k : Int) := by omega
        have k1 : (k : Int) < (s.pend.length : Int) := by omega
        have HIW : Hid ((Tryz.prog.info? 111).map (·.size) = some (wc (i, x)).length) := by show _ = _; rw [wc_length hx]; exact sizeWr
        have HIA : Hid ((Tryz.prog.info? 111).map (·.size) = some (wA (i, x)).size) := wA_info hx
        have HZA : Hid (zwr.size = (wA (i, x)).size) := by show _ = _; rw [wA_size hx]; exact zwr_size
        have HBA : Hid (Below wr.heap.size wr ((wr.alloc (.cells zwr 111)).setRow wr.heap.size (wA (i, x)))) := below_setRow ((Below.refl _ _).alloc (Nat.le_refl _) _) (Nat.le_refl _) _
        have HA : Hid (Dk ((wr.alloc (.cells zwr 111)).setRow wr.heap.size (wA (i, x))) g kg v (mid (marks len m) s k)) := HD.out.below HBA.out
        have HTA : Hid (Turn (foot g kg v) (foot g kg v) w' ((wr.alloc (.cells zwr 111)).setRow wr.heap.size (wA (i, x)))) := HT.out.trans (Turn.of_below HBA.out)
        have HBB : Hid (Bools (foot g kg v) ((wr.alloc (.cells zwr 111)).setRow wr.heap.size (wA (i, x))) a len m) := HBL.out.keep HTA.out.chg
        by_cases hlt : k < len
        · have dl : decide ((k : Int) < (len : Int)) = true := by simp; omega
          have l1 : (k : Int) < (len : Int) := by omega
          obtain ⟨bb, boff, ha, hbb, hbc⟩ : ∃ b off, a = some ⟨b, off, none⟩ ∧ b ∉ foot g kg v ∧ ∀ j, j < len → ((wr.alloc (.cells zwr 111)).setRow wr.heap.size (wA (i, x))).cell? ⟨b, off + j, none⟩ = some (.bool (m j)) := by
            rcases HBB.out with h | h
            · omega
            · exact h
          have hbk := hbc k hlt
          subst ha
          clear hbc hbb
          cases hm : m k
          · rw [hm] at hbk
            have HMK : Hid (marks len m k = false) := by show marks len m k = false; unfold marks; rw [hm, Bool.and_false]
            have HFN : ∃ k' : Nat, k' ≤ s.pend.length ∧ Value.int .i64 ((k : Int) + 1) = .int .i64 (k' : Int) ∧ Dk ((wr.alloc (.cells zwr 111)).setRow wr.heap.size (wA (i, x))) g kg v (mid (marks len m) s k') ∧ Turn (foot g kg v) (foot g kg v) w' ((wr.alloc (.cells zwr 111)).setRow wr.heap.size (wA (i, x))) := ⟨k + 1, by omega, by go_num, by rw [mid_skip _ _ _ (i, x) HP.out HMK.out]; exact HA.out, HTA.out⟩
            go_wp2_with (first | (refine wpList_load_mid rfl 111 _ rfl pg (k * 65) (by first | rfl | (show Value.pointer _ = _; simp)) (wc (i, x)) _ HRG.out Tryz.underlying111 rfl HIW.out ?_) | (refine store_row rfl rfl 111 _ _ rfl wr.heap.size (wA (i, x)) rfl rfl 111 zwr (heap_alloc_new _ _) HIA.out HZA.out (wA_one _) ?_))
            go_roundw
            case rel => first | exact HFN | ((repeat apply Exists.intro); exact ⟨HFN, rfl⟩)
            case measure => (simp [intOf]) <;> omega
          · rw [hm] at hbk
            have HMK : Hid (marks len m k = true) := by show marks len m k = true; unfold marks; rw [hm, Bool.and_true]; simpa using hlt
            have HKP : Hid (Calls Tryz.prog 70 #[ptr g, .agg (wA (i, x))] ((wr.alloc (.cells zwr 111)).setRow wr.heap.size (wA (i, x))) fun e w' => e = .returned (.tuple #[]) ∧ Dk w' g kg v { mid (marks len m) s k with kept := (mid (marks len m) s k).kept.set i x } ∧ Turn (foot g kg v) (foot g kg v) ((wr.alloc (.cells zwr 111)).setRow wr.heap.size (wA (i, x))) w') := keep_any g kg v _ i x _ HA.out hi hx
            go_wp2_with (first | (refine wpList_load_mid rfl 111 _ rfl pg (k * 65) (by first | rfl | (show Value.pointer _ = _; simp)) (wc (i, x)) _ HRG.out Tryz.underlying111 rfl HIW.out ?_) | (refine store_row rfl rfl 111 _ _ rfl wr.heap.size (wA (i, x)) rfl rfl 111 zwr (heap_alloc_new _ _) HIA.out HZA.out (wA_one _) ?_) | (refine wpList_load_row rfl 111 _ rfl wr.heap.size rfl 111 (wA (i, x)) (0, 0) _ (setRow_heap _ _ _ _ _ _ (heap_alloc_new _ _)) Tryz.underlying111 rfl HIA.out ?_) | (go_at_call 70; refine HKP.out.mono ?_; rintro e w3 ⟨rfl, hD3, hT3⟩))
            have HFN : ∃ k' : Nat, k' ≤ s.pend.length ∧ Value.int .i64 ((k : Int) + 1) = .int .i64 (k' : Int) ∧ Dk w3 g kg v (mid (marks len m) s k') ∧ Turn (foot g kg v) (foot g kg v) w' w3 := ⟨k + 1, by omega, by go_num, by rw [mid_next _ _ _ i x HP.out HMK.out]; exact hD3, HTA.out.trans hT3⟩
            clear hD3 hT3
            go_roundw
            case rel => first | exact HFN | ((repeat apply Exists.intro); exact ⟨HFN, rfl⟩)
            case measure => (simp [intOf]) <;> omega
        · have dl : decide ((k : Int) < (len : Int)) = false := by simp; omega
          have HMK : Hid (marks len m k = false) := by show marks len m k = false; unfold marks; simp [hlt]
          have HFN : ∃ k' : Nat, k' ≤ s.pend.length ∧ Value.int .i64 ((k : Int) + 1) = .int .i64 (k' : Int) ∧ Dk ((wr.alloc (.cells zwr 111)).setRow wr.heap.size (wA (i, x))) g kg v (mid (marks len m) s k') ∧ Turn (foot g kg v) (foot g kg v) w' ((wr.alloc (.cells zwr 111)).setRow wr.heap.size (wA (i, x))) := ⟨k + 1, by omega, by go_num, by rw [mid_skip _ _ _ (i, x) HP.out HMK.out]; exact HA.out, HTA.out⟩
          go_wp2_with (first | (refine wpList_load_mid rfl 111 _ rfl pg (k * 65) (by first | rfl | (show Value.pointer _ = _; simp)) (wc (i, x)) _ HRG.out Tryz.underlying111 rfl HIW.out ?_) | (refine store_row rfl rfl 111 _ _ rfl wr.heap.size (wA (i, x)) rfl rfl 111 zwr (heap_alloc_new _ _) HIA.out HZA.out (wA_one _) ?_))
          go_roundw
          case rel => first | exact HFN | ((repeat apply Exists.intro); exact ⟨HFN, rfl⟩)
          case measure => (simp [intOf]) <;> omega
      · have hke : k = s.pend.length := by omega
        have dk : decide ((k : Int) < (s.pend.length : Int)) = false := by simp; omega
        have c1 := HD.out.c1
        have f1 := HD.out.fz 1
        have f2 := HD.out.fz 2
        have f3 := HD.out.fz 3
        have c2 := HD.out.c2
        have c3 := HD.out.c3
        have HFN : Hid (Does w' g kg v (Sc.back s (marks len m)) 0 (.returned (.int .i64 0)) (((wr.setCell ⟨g, 1, none⟩ (.slice none 0 0)).setCell ⟨g, 2, none⟩ (.bool false)).setCell ⟨g, 3, none⟩ (.int .i64 (-1)))) := by
          have h1 : Dk (wr.setCell ⟨g, 1, none⟩ (.slice none 0 0)) g kg (.slice none 0 0) { Sc.back s (marks len m) with down := true, left := s.left } := HD.out.clear (by rw [hke]; exact HK.out) rfl hd.symm rfl rfl ⟨OK.out.one, OK.out.most, OK.out.size, OK.out.pat, OK.out.psize, HH.out.ok.left⟩
          have h2 : Dk ((wr.setCell ⟨g, 1, none⟩ (.slice none 0 0)).setCell ⟨g, 2, none⟩ (.bool false)) g kg (.slice none 0 0) { Sc.back s (marks len m) with left := s.left } := h1.setSame 2 _ rfl rfl rfl ⟨OK.out.one, OK.out.most, OK.out.size, OK.out.pat, OK.out.psize, HH.out.ok.left⟩
          exact ⟨_, rfl, h2.setSame 3 _ rfl rfl rfl OK.out, (HT.out.trans (foot_nil _ _ _ _ _ _)).trans ((foot_set _ _ _ _ _ _).trans (foot_set _ _ _ _ _ _))⟩
        clear hke
        go_wp2
        go_ret
        exact HFN.out
end Go.Proofs.YtcfninpokngmlaaGreatDoor
/- Proved: the laws' example comes out as the chapter says; what disks that New did not make answer. -/
namespace Go.Proofs.YtcfninpokngmlaaGreatDoor
open Go.RowKit
def txtA : ByteArray := ⟨#[97]⟩
def txtB : ByteArray := ⟨#[98]⟩
def txtC : ByteArray := ⟨#[99]⟩
def e1 : Sc.St := Sc.writeS (Sc.made 2) 0 txtA
def e2 : Sc.St := Sc.flushS e1
def e3 : Sc.St := Sc.writeS e2 0 txtB
def e4 : Sc.St := Sc.writeS e3 1 txtC
def e5 : Sc.St := Sc.offS e4
def mk2 (i : Nat) : Bool := if i = 0 then false else true
def e6 : Sc.St := Sc.onS e5 (marks 2 mk2)
theorem e6_on : Sc.onE e5 = 0 := by decide
theorem e6_e0 : Sc.readE e6 0 = 0 := by decide
theorem e6_e1 : Sc.readE e6 1 = 0 := by decide
theorem e6_v0 : Sc.readV e6 0 = Sc.fill txtA := by rfl
theorem e6_v1 : Sc.readV e6 1 = Sc.fill txtC := by rfl
theorem fill_get (x : ByteArray) (i : Nat) (hi : i < (Sc.fill x).size) (b : UInt8) (h : (x.data.toList ++ List.replicate (64 - x.size) 0)[i]? = some b) : (Sc.fill x)[i]'hi = b := by
  have e : (Sc.fill x).data.toList[i]? = some b := by rw [Sc.fill_list]; exact h
  rw [Array.getElem?_toList] at e
  exact (Array.getElem?_eq_some_iff.1 e).2
/- disks that New did not make -/
def Nobody (w : World) (d : Value) : Prop := d = .pointer none ∨ ∃ g, d = ptr g ∧ w.cell? ⟨g, 0, none⟩ = some (.slice none 0 0)
set_option maxHeartbeats 400000 in
theorem made_no (d : Value) (w : World) (h : Nobody w d) : Calls Tryz.prog 69 #[d] w fun e w' => e = .returned (.bool false) ∧ w' = w := by
  rcases h with rfl | ⟨g, rfl, c0⟩
  · go_enter Tryz.func69, Tryz.ntmps69
    go_wp2
    go_ret
    exact ⟨rfl, rfl⟩
  · go_enter Tryz.func69, Tryz.ntmps69
    go_wp2
    go_ret
    exact ⟨rfl, rfl⟩
set_option maxHeartbeats 400000 in
theorem ready_no (d : Value) (w : World) (h : Nobody w d) : Calls Tryz.prog 53 #[d] w fun e w' => e = .returned (.int .i64 1) ∧ w' = w := by
  have HM := made_no d w h
  clear h
  go_enter Tryz.func53, Tryz.ntmps53
  go_wp2_with (go_at_call 69; refine HM.mono ?_; rintro e w' ⟨rfl, rfl⟩)
  go_ret
  exact ⟨rfl, rfl⟩
set_option maxHeartbeats 400000 in
theorem size_no (d : Value) (w : World) (h : Nobody w d) : Calls Tryz.prog 55 #[d] w fun e w' => e = .returned (.int .i64 0) ∧ w' = w := by
  have HM := made_no d w h
  clear h
  go_enter Tryz.func55, Tryz.ntmps55
  go_wp2_with (go_at_call 69; refine HM.mono ?_; rintro e w' ⟨rfl, rfl⟩)
  go_ret
  exact ⟨rfl, rfl⟩
set_option maxHeartbeats 400000 in
theorem down_no (d : Value) (w : World) (h : Nobody w d) : Calls Tryz.prog 37 #[d] w fun e w' => e = .returned (.bool true) ∧ w' = w := by
  have HM := made_no d w h
  clear h
  go_enter Tryz.func37, Tryz.ntmps37
  go_wp2_with (go_at_call 69; refine HM.mono ?_; rintro e w' ⟨rfl, rfl⟩)
  go_ret
  exact ⟨rfl, rfl⟩
set_option maxHeartbeats 400000 in
theorem read_no (d u : Value) (w : World) (h : Nobody w d) : Calls Tryz.prog 96 #[d, u] w fun e w' => e = .returned (.tuple #[.string ⟨#[]⟩, .int .i64 1]) ∧ w' = w := by
  have HM := ready_no d w h
  clear h
  go_enter Tryz.func96, Tryz.ntmps96
  go_wp2_with (go_at_call 53; refine HM.mono ?_; rintro e w' ⟨rfl, rfl⟩)
  go_ret2
  exact ⟨rfl, rfl⟩
set_option maxHeartbeats 400000 in
theorem write_no (d u x : Value) (w : World) (h : Nobody w d) : Calls Tryz.prog 106 #[d, u, x] w fun e w' => e = .returned (.int .i64 1) ∧ w' = w := by
  have HM := ready_no d w h
  clear h
  go_enter Tryz.func106, Tryz.ntmps106
  go_wp2_with (go_at_call 53; refine HM.mono ?_; rintro e w' ⟨rfl, rfl⟩)
  go_ret
  exact ⟨rfl, rfl⟩
set_option maxHeartbeats 400000 in
theorem flush_no (d : Value) (w : World) (h : Nobody w d) : Calls Tryz.prog 79 #[d] w fun e w' => e = .returned (.int .i64 1) ∧ w' = w := by
  have HM := ready_no d w h
  clear h
  go_enter Tryz.func79, Tryz.ntmps79
  go_wp2_with (go_at_call 53; refine HM.mono ?_; rintro e w' ⟨rfl, rfl⟩)
  go_ret
  exact ⟨rfl, rfl⟩
set_option maxHeartbeats 400000 in
theorem arm_no (d u : Value) (w : World) (h : Nobody w d) : Calls Tryz.prog 36 #[d, u] w fun e w' => e = .returned (.int .i64 1) ∧ w' = w := by
  have HM := ready_no d w h
  clear h
  go_enter Tryz.func36, Tryz.ntmps36
  go_wp2_with (go_at_call 53; refine HM.mono ?_; rintro e w' ⟨rfl, rfl⟩)
  go_ret
  exact ⟨rfl, rfl⟩
set_option maxHeartbeats 400000 in
theorem off_no (d : Value) (w : World) (h : Nobody w d) : Calls Tryz.prog 22 #[d] w fun e w' => e = .returned (.int .i64 1) ∧ w' = w := by
  have HM := ready_no d w h
  clear h
  go_enter Tryz.func22, Tryz.ntmps22
  go_wp2_with (go_at_call 53; refine HM.mono ?_; rintro e w' ⟨rfl, rfl⟩)
  go_ret
  exact ⟨rfl, rfl⟩
set_option maxHeartbeats 400000 in
theorem on_no (d u : Value) (w : World) (h : Nobody w d) : Calls Tryz.prog 38 #[d, u] w fun e w' => e = .returned (.int .i64 1) ∧ w' = w := by
  have HM := made_no d w h
  clear h
  go_enter Tryz.func38, Tryz.ntmps38
  go_wp2_with (go_at_call 69; refine HM.mono ?_; rintro e w' ⟨rfl, rfl⟩)
  go_ret
  exact ⟨rfl, rfl⟩
end Go.Proofs.YtcfninpokngmlaaGreatDoor
/- Proved: what a disk with power that is not armed makes of writes and flushes. No program is named. -/
namespace Go.Proofs.YtcfninpokngmlaaGreatDoor
/- a disk of n sectors that has power and is not armed -/
structure Live (n : Nat) (s : Sc.St) : Prop where
  down : s.down = false
  left : s.left = -1
  len : s.kept.length = n
theorem Live.write {n : Nat} {s : Sc.St} (h : Live n s) {i : Int} (h0 : 0 ≤ i) (hn : i < (n : Int)) {x : ByteArray} (hx : x.size ≤ 64) : Sc.writeS s i x = Sc.put s i.toNat x ∧ Live n (Sc.writeS s i x) ∧ Sc.writeE s i x = 0 := by
  have hh : Sc.has s i = true := Sc.has_iff.2 ⟨h0, by rw [h.len]; exact hn⟩
  have hx' : ¬ 64 < x.size := by omega
  have hl : ¬ s.left = 0 := by have := h.left; omega
  have e : Sc.writeS s i x = Sc.put s i.toNat x := by
    unfold Sc.writeS
    simp only [h.down, hh, hx', hl, if_false, Bool.false_eq_true, Bool.true_eq_false]
  refine ⟨e, ?_, ?_⟩
  · rw [e]
    refine ⟨h.down, ?_, h.len⟩
    simp only [Sc.put, Sc.spent, h.left]
    decide
  · unfold Sc.writeE
    simp only [h.down, hh, hx', hl, if_false, Bool.false_eq_true, Bool.true_eq_false]
theorem Live.flush {n : Nat} {s : Sc.St} (h : Live n s) : Sc.flushS s = Sc.flushed s ∧ Live n (Sc.flushS s) ∧ Sc.flushE s = 0 := by
  have hl : ¬ s.left = 0 := by have := h.left; omega
  have e : Sc.flushS s = Sc.flushed s := by
    unfold Sc.flushS
    simp only [h.down, hl, if_false, Bool.false_eq_true]
  refine ⟨e, ?_, ?_⟩
  · rw [e]
    refine ⟨h.down, ?_, by simp only [Sc.flushed, Sc.keepI_length]; exact h.len⟩
    simp only [Sc.flushed, Sc.spent, h.left]
    decide
  · unfold Sc.flushE
    simp only [h.down, hl, if_false, Bool.false_eq_true]
end Go.Proofs.YtcfninpokngmlaaGreatDoor
