/- Proved: what Write makes of a disk. -/
import Derived.Test.YtcfninpokngmlaaGreatDoorRead
import Derived.Lib.LazyBuf
import Derived.Great.FillDense
import Derived.Great.BuildSlice
namespace Go.Proofs.YtcfninpokngmlaaGreatDoor
open Go.RowKit
theorem build1 {P : Program} {ops : Array Oper} {rest : List Oper} {o : Oper} {a : Act} {w : World} {Q : Exit → Act → World → Prop} (hgd : o.guard = none) (t : TypeId) (i : Nat) (x : Operand) (ho : o.op = .build t #[(i, x)])
    (u : Value) (hx : a.eval x = u) (cells : Array Value) (hb : P.built t [(i, u)] = some cells) (h : wpList P ops Q rest (a.put o.dst (.agg cells)) w) : wpList P ops Q (o :: rest) a w := by
  have hr := run_build w t #[(i, u)] cells hb
  refine wpList_plain hgd fun K hK => ?_
  unfold Oper.wp execOp
  simp only [ho, List.map_toArray, List.map_cons, List.map_nil, hx, Sem.run_bind, hr, Result.andThen_ok, Sem.run_pure]
  exact hK _ _ h
def zwr : Array Value := wA (0, Sc.zero64)
theorem zeroWr (W : World) : (zeroValue 111).run Tryz.prog W = .ok (.agg zwr) W := by kernel_rfl
theorem zwr_size : zwr.size = 65 := by kernel_rfl
theorem builtWr (k : Nat) : Tryz.prog.built 111 [(0, .int .i64 (k : Int))] = some (wA (k, Sc.zero64)) := by kernel_rfl
theorem wA_one (p : Nat × ByteArray) : (wA p).all (·.oneCell') = true := all_oneCell_toArray (wc_one p)
theorem wA_info {p : Nat × ByteArray} (h : p.2.size = 64) : (Tryz.prog.info? 111).map (·.size) = some (wA p).size := by rw [wA_size h]; exact sizeWr
theorem info_wr : Tryz.prog.info? 111 = some Tryz.t111 := by kernel_rfl
theorem wr_zero : Tryz.t111.zero = some (.agg zwr) := by kernel_rfl
theorem copy_str {P : Program} {ops : Array Oper} {rest : List Oper} {o : Oper} {a : Act} {w : World} {Q : Exit → Act → World → Prop} (hgd : o.guard = none) (d x : Operand) (dT sT : TypeId) (ho : o.op = Op.call { callee := Callee.builtin Builtin.copy, args := #[d, x], argTypes := #[dT, sT] })
    (elem : TypeId) (hu : P.underlying dT = some (.slice elem)) (hz : ∀ w, (Go.sizeOf elem).run P w = .ok 1 w)
    (b off dLen dCap : Nat) (hd : a.eval d = .slice (some ⟨b, off, none⟩) dLen dCap) (t : ByteArray) (hx : a.eval x = .string t) (hle : t.size ≤ dLen) (ht : w.there b off t.size)
    (h : wpList P ops Q rest (a.put o.dst (goInt t.size)) (w.setCells b off (bc t))) : wpList P ops Q (o :: rest) a w := by
  have hr := Go.run_copy_string (P := P) w dT sT o.type elem b off dLen dCap t hu hz hle (fun j hj => (ht j hj).1) (fun j hj => (ht j hj).2)
  refine wpList_plain hgd fun K hK => ?_
  unfold Oper.wp execOp
  simp only [ho, resolve, invoke, builtin, Sem.run_bind, Sem.run_pure, Result.andThen_ok, List.map_toArray, List.map_cons, List.map_nil, hd, hx, hr]
  exact hK _ _ h
theorem size_u8 (w : World) : (Go.sizeOf 5).run Tryz.prog w = .ok 1 w := by kernel_rfl
theorem zero64_list : Sc.zero64.data.toList = List.replicate 64 0 := by unfold Sc.zero64; exact Array.toList_replicate
theorem splice_fill (k : Nat) (x : ByteArray) : splice (wc (k, Sc.zero64)) 1 (bc x) = wc (k, Sc.fill x) := by
  unfold splice wc bc
  simp only
  rw [Sc.fill_list, zero64_list, List.length_map, ← Sc.size_eq, Nat.add_comm 1, List.drop_succ_cons, ← List.map_drop, List.drop_replicate, List.map_append, show (1 : Nat) = 0 + 1 from rfl, List.take_succ_cons, List.take_zero]
  rfl
theorem fill_wr {p : Nat × ByteArray} (h : p.2.size = 64) : Instr.fill (fun i => some (i * Tryz.t111.size, Tryz.t111.size)) ((Array.range (1 * Tryz.t111.size)).map ((Value.agg zwr).cells[· % (Value.agg zwr).cells.size]!)) [(0, .agg (wA p))] = some (wA p) := by
  have e := Go.Great.fill_whole (s := Tryz.t111.size) (by decide) [.agg (wA p)] ((Array.range (1 * Tryz.t111.size)).map ((Value.agg zwr).cells[· % (Value.agg zwr).cells.size]!)) (fun v hv => by rw [List.mem_singleton.1 hv]; exact wA_size h) (by simp)
  rw [show (([.agg (wA p)] : List Value).flatMap fun v => v.cells.toList).toArray = wA p by simp [Value.cells]] at e
  exact e
theorem wp_build_one {o : Oper} {a : Act} {w : World} {K : Act → World → Prop} {Q : Exit → Act → World → Prop} (x : Operand) (ho : o.op = .buildSlice 95 1 #[(0, x)]) (d : Option Tmp) (hd : o.dst = d) (p : Nat × ByteArray) (hp : p.2.size = 64) (hx : a.eval x = .agg (wA p))
    (h : K (a.put d (.slice (some ⟨w.heap.size, 0, none⟩) 1 1)) (w.alloc (.cells (wA p) 111))) : o.wp Tryz.prog a w K Q := by
  subst hd
  refine wp_buildSlice 95 111 1 _ ho (wA p) Tryz.t111 (.agg zwr) Tryz.underlying95 info_wr wr_zero (by decide) (by decide) ?_ h
  rw [Array.toList_map]
  show Instr.fill _ _ [(0, a.eval x)] = _
  rw [hx]
  exact fill_wr hp
theorem own_slice {w : World} {base e size n : Nat} {v : Value} {xs : List Value} (h : w.ownsRow base e size v n xs) : ∃ a c, v = .slice a n c := by
  rcases h.2 with ⟨h1, h2⟩ | ⟨g, cap, _, h1, _⟩
  · subst h2; exact ⟨_, _, h1⟩
  · exact ⟨_, _, h1⟩
theorem there_row {w : World} {g o n : Nat} {cs : Array Value} {t : TypeId} (h : w.heap[g]? = some (.cells cs t (0, 0))) (hl : o + n ≤ cs.size) : w.there g o n := fun j hj => by
  refine ⟨?_, frozen_of_row w g _ _ t h⟩
  rw [cell_of_row w g _ _ t (0, 0) h, Array.getElem?_eq_getElem (by omega)]
  rfl
theorem range_all {w : World} {g : Nat} {cs : List Value} {t : TypeId} (h : w.heap[g]? = some (.cells cs.toArray t (0, 0))) : w.rangeAt g 0 cs := fun j u hu => by
  rw [cell_of_row w g _ _ t (0, 0) h, Nat.zero_add, List.getElem?_toArray]; exact hu
theorem range_below {w w' : World} {g o B : Nat} {l : List Value} (h : w.rangeAt g o l) (hb : Below B w w') (hg : g < B) : w'.rangeAt g o l := fun j v hv => (hb.cell (p := ⟨g, o + j, none⟩) hg).trans (h j v hv)
theorem range_chg {w w' : World} {g o : Nat} {fs : List Nat} {l : List Value} (h : w.rangeAt g o l) (hb : Chg fs w w') (hg : g ∉ fs) : w'.rangeAt g o l := fun j v hv => by
  have := h j v hv
  rw [← this]
  exact World.cell?_of_block (hb.block g (block_lt_of_cell this) hg)
/- 'append(x, y)' of one write behind what is pending -/
theorem append_wr {o : Oper} {a : Act} {K : Act → World → Prop} {Q : Exit → Act → World → Prop} (sl x : Operand) (d : Option Tmp) (hd : o.dst = d)
    (ho : o.op = .call { callee := .builtin .append, args := #[sl, x], argTypes := #[95, 95] }) (W : World) (v : Value) (l : List (Nat × ByteArray)) (hs : a.eval sl = v) (hown : W.ownsRow 0 111 65 v l.length (l.flatMap wc))
    (ad : Addr) (c : Nat) (p : Nat × ByteArray) (hp : p.2.size = 64) (hx : a.eval x = .slice (some ad) 1 c) (hnews : ∀ j u, (wc p)[j]? = some u → W.cell? (ad.add j) = some u) (hb : l.length ≤ 100000)
    (h : ∀ v' w', w'.ownsRow 0 111 65 v' (l ++ [p]).length ((l ++ [p]).flatMap wc) → W.grownBy w' v.ownBlock → (v'.ownBlock = v.ownBlock ∨ v'.ownBlock = some W.heap.size) → K (a.put d v') w') : o.wp Tryz.prog a W K Q := by
  subst hd
  have hb72 : Tryz.t111.bytes = 72 := rfl
  obtain ⟨v', w', hr, h2, h3, h4, h5⟩ := run_append_own_at (P := Tryz.prog) W 0 95 o.type 111 Tryz.t111 (.agg zwr) 65 72 Tryz.underlying95 info_wr wr_zero rfl rfl zwr_size (by omega) v l.length (l.flatMap wc) hown ad 1 c (wc p) (by rw [wc_length hp]) hnews (wc_one p) (by unfold maxLen; omega) (by omega) (Nat.zero_le _)
  unfold Oper.wp execOp
  simp only [ho, resolve, invoke, builtin, Sem.run_bind, Sem.run_pure, Result.andThen_ok, List.map_toArray, List.map_cons, List.map_nil, hs, hx, hr]
  exact h v' w' (by simpa using h2) h3 h5
theorem Dk.put {w w' : World} {g kg : Nat} {v v' : Value} {s : Sc.St} {k : Nat} {x : ByteArray} (H : Dk w g kg v (Sc.spent s)) (hB : w.grownBy w' v.ownBlock) (hO : w'.ownsRow 0 111 65 v' (s.pend ++ [(k, Sc.fill x)]).length ((s.pend ++ [(k, Sc.fill x)]).flatMap wc)) (hv : v'.ownBlock = v.ownBlock ∨ v'.ownBlock = some w.heap.size) (ok : Sc.Ok (Sc.put s k x)) :
    Dk (w'.setCell ⟨g, 1, none⟩ v') g kg v' (Sc.put s k x) ∧ Turn (foot g kg v) (foot g kg v') w (w'.setCell ⟨g, 1, none⟩ v') := by
  have lt := H.lt
  have hg : w'.heap[g]? = w.heap[g]? := hB.block g (lt g (by simp [foot])) (fun e => H.gp e.symm)
  have hk : w'.heap[kg]? = w.heap[kg]? := hB.block kg (lt kg (by simp [foot])) (fun e => H.kp e.symm)
  have ne1 : v'.ownBlock ≠ some g := fun e => by
    rcases hv with h | h
    · exact H.gp (h ▸ e)
    · rw [h] at e
      have := lt g (by simp [foot])
      have := Option.some.inj e
      omega
  have ne2 : v'.ownBlock ≠ some kg := fun e => by
    rcases hv with h | h
    · exact H.kp (h ▸ e)
    · rw [h] at e
      have := lt kg (by simp [foot])
      have := Option.some.inj e
      omega
  refine ⟨⟨?_, ?_, own_keep hO (fun k hk => heap_setCell_other _ _ _ _ (fun e => ne1 (by rw [hk, e]))), H.gk, ne1, ne2, ok⟩, ⟨?_, fun k hk => ?_⟩⟩
  · rw [heap_setCell_same w' g 1 _ _ _ (hg.trans H.row)]
    rfl
  · rw [heap_setCell_other _ _ _ _ (by exact Ne.symm H.gk), hk]; exact H.kept
  · exact ((Chg.grown hB).mono (fun k hk => by simp [foot]; simp at hk; exact .inr (.inr hk))).trans ((Chg.setCell w' g 1 v').mono (fun k hk => by rw [List.mem_singleton.1 hk]; simp [foot]))
  · simp only [foot, List.mem_cons, Option.mem_toList] at hk ⊢
    rcases hk with h | h | h
    · exact .inl (.inl h)
    · exact .inl (.inr (.inl h))
    · rcases hv with e | e
      · rw [e] at h; exact .inl (.inr (.inr h))
      · rw [e] at h
        exact .inr (by have := Option.some.inj h; omega)
set_option maxHeartbeats 4000000 in
set_option maxRecDepth 20000 in
theorem write_any (g kg : Nat) (v : Value) (s : Sc.St) (i : Int) (x : ByteArray) (w : World) (H : Dk w g kg v s) (hn : s.dn ≤ 1000000000) (hl : s.pend.length ≤ 30000) :
    Calls Tryz.prog 106 #[ptr g, .int .i64 i, .string x] w (Does w g kg v (Sc.writeS s i x) (Sc.writeE s i x)) := by
  have HR := ready_any g kg v s w H
  have HS := has_any g kg v s i w H
  have HH : Hid (Dk w g kg v s) := H
  have HSP : Hid (Calls Tryz.prog 108 #[ptr g] w fun e w' => e = .returned (.int .i64 (spendE s)) ∧ Dk w' g kg v (spendS s) ∧ Turn (foot g kg v) (foot g kg v) w w') := spend_any g kg v s w H hn
  have hz := zeroWr
  clear H
  unfold Sc.liveE at HR
  unfold Sc.writeS Sc.writeE
  unfold spendE spendS at HSP
  cases hd : s.down
  · rw [hd] at HR
    simp only [Bool.false_eq_true, if_false] at *
    cases hh : Sc.has s i
    · rw [hh] at HS
      simp only [if_true]
      go_enter Tryz.func106, Tryz.ntmps106
      go_wp2_with (first | (go_at_call 53; refine HR.mono ?_; rintro e w' ⟨rfl, rfl⟩) | (go_at_call 122; refine HS.mono ?_; rintro e w' ⟨rfl, rfl⟩))
      go_ret
      exact ⟨_, rfl, HH.out, Turn.refl _ _⟩
    · rw [hh] at HS
      simp only [Bool.true_eq_false, if_false]
      by_cases hx : 64 < x.size
      · have hdx : decide ((64 : Int) < (x.size : Int)) = true := by simp; omega
        simp only [hx, if_true]
        go_enter Tryz.func106, Tryz.ntmps106
        go_wp2_with (first | (go_at_call 53; refine HR.mono ?_; rintro e w' ⟨rfl, rfl⟩) | (go_at_call 122; refine HS.mono ?_; rintro e w' ⟨rfl, rfl⟩))
        go_ret
        exact ⟨_, rfl, HH.out, Turn.refl _ _⟩
      · have hdx : decide ((64 : Int) < (x.size : Int)) = false := by simp; omega
        simp only [hx, if_false]
        by_cases h0 : s.left = 0
        · simp only [h0, if_true] at HSP ⊢
          go_enter Tryz.func106, Tryz.ntmps106
          go_wp2_with (first | (go_at_call 53; refine HR.mono ?_; rintro e w' ⟨rfl, rfl⟩) | (go_at_call 122; refine HS.mono ?_; rintro e w' ⟨rfl, rfl⟩) | (go_at_call 108; refine HSP.out.mono ?_; rintro e w1 ⟨rfl, hD1, hT1⟩))
          go_ret
          exact ⟨_, rfl, hD1, hT1⟩
        · simp only [h0, if_false] at HSP ⊢
          obtain ⟨k, rfl⟩ : ∃ k : Nat, i = (k : Int) := ⟨i.toNat, by have := (Sc.has_iff.1 hh).1; omega⟩
          have hk : k < s.kept.length := by have := (Sc.has_iff.1 hh).2; omega
          rw [Int.toNat_natCast]
          have OK : Hid (Sc.Ok (Sc.put s k x)) := Sc.put_ok HH.out.ok hk (by omega)
          go_enter Tryz.func106, Tryz.ntmps106
          go_wp2_with (first | (go_at_call 53; refine HR.mono ?_; rintro e w' ⟨rfl, rfl⟩) | (go_at_call 122; refine HS.mono ?_; rintro e w' ⟨rfl, rfl⟩) | (go_at_call 108; refine HSP.out.mono ?_; rintro e w1 ⟨rfl, hD1, hT1⟩; have HD1 : Hid (Dk w1 g kg v (Sc.spent s)) := hD1; have HT1 := (show Hid (Turn (foot g kg v) (foot g kg v) _ w1) from hT1); clear hD1 hT1) | (refine build1 rfl 111 0 _ rfl (.int .i64 (k : Int)) rfl _ (builtWr k) ?_) | (refine store_row rfl rfl 111 _ _ rfl _ (wA (k, Sc.zero64)) rfl rfl 111 zwr (heap_alloc_new _ _) (wA_info Sc.zero64_size) (by rw [wA_size (p := (k, Sc.zero64)) Sc.zero64_size]; exact zwr_size) (wA_one _) ?_) | (refine copy_str rfl _ _ 138 9 rfl 5 Tryz.underlying138 size_u8 _ 1 64 64 rfl x rfl (by omega) (there_row (setRow_heap _ _ _ _ _ _ (heap_alloc_new _ _)) (by rw [wA_size (p := (k, Sc.zero64)) Sc.zero64_size]; omega)) ?_))
          have HW2 : Hid ((((w1.alloc (.cells zwr 111)).setRow w1.heap.size (wA (k, Sc.zero64))).setCells w1.heap.size 1 (bc x)).heap[w1.heap.size]? = some (.cells (wc (k, Sc.fill x)).toArray 111 (0, 0))) := by
            have := setCells_splice w1.heap.size 111 (bc x) 1 (wc (k, Sc.zero64)) ((w1.alloc (.cells zwr 111)).setRow w1.heap.size (wA (k, Sc.zero64))) (setRow_heap _ _ _ _ _ _ (heap_alloc_new _ _)) (by rw [wc_length Sc.zero64_size, bc_length]; omega)
            rw [splice_fill] at this
            exact this
          have HB2 : Hid (Below w1.heap.size w1 (((w1.alloc (.cells zwr 111)).setRow w1.heap.size (wA (k, Sc.zero64))).setCells w1.heap.size 1 (bc x))) := below_setCells (Nat.le_refl _) _ _ _ (below_setRow ((Below.refl _ _).alloc (Nat.le_refl _) _) (Nat.le_refl _) _)
          generalize World.setCells _ _ _ _ = w2 at *
          have HD2 : Hid (Dk w2 g kg v (Sc.spent s)) := HD1.out.below HB2.out
          have HT2 : Hid (Turn (foot g kg v) (foot g kg v) w' w2) := HT1.out.trans (Turn.of_below HB2.out)
          have hN : w1.heap.size < w2.heap.size := (Array.getElem?_eq_some_iff.1 HW2.out).1
          have hfoot : Hid (∀ b ∈ foot g kg v, b < w1.heap.size) := HD1.out.lt
          have hfs : (Sc.fill x).size = 64 := Sc.fill_size (by omega)
          clear HD1 HT1 HB2 HR HS HSP HH
          generalize w1.heap.size = N at *
          have HS0 : Hid ((fun w' : World => w'.cell? ⟨g, 1, none⟩ = some v ∧ w'.rangeAt N 0 (wc (k, Sc.fill x))) w2.drew) := ⟨HD2.out.c1, range_all HW2.out⟩
          have HIL : Hid ((Tryz.prog.info? 111).map (·.size) = some (wc (k, Sc.fill x)).length) := by show _ = _; rw [wc_length hfs]; exact sizeWr
          refine AnyBut.begin (z := 10) (S := fun w' => w'.cell? ⟨g, 1, none⟩ = some v ∧ w'.rangeAt N 0 (wc (k, Sc.fill x))) (by kernel_rfl) ?_
          refine AnyBut.take 0 (some 33) (v := (ptr g)) rfl rfl (by kernel_rfl) (by decide) (by kernel_rfl) (by kernel_rfl) (by kernel_rfl) (by kernel_rfl) (fun _ _ _ h => h) (Or.inl ⟨by rfl, fun w hS => ?_⟩) HS0.out ?_
          · (go_simp)
          simp only [Act.put, List.setIfInBounds_toArray, List.set_cons_zero, List.set_cons_succ]
          refine AnyBut.take 1 (some 34) (v := (ptr g)) rfl rfl (by kernel_rfl) (by decide) (by kernel_rfl) (by kernel_rfl) (by kernel_rfl) (by kernel_rfl) (fun _ _ _ h => h) (Or.inl ⟨by rfl, fun w hS => ?_⟩) HS0.out ?_
          · (go_simp)
          simp only [Act.put, List.setIfInBounds_toArray, List.set_cons_zero, List.set_cons_succ]
          refine AnyBut.take 2 (some 35) (v := (ptr g)) rfl rfl (by kernel_rfl) (by decide) (by kernel_rfl) (by kernel_rfl) (by kernel_rfl) (by kernel_rfl) (fun _ _ _ h => h) (Or.inl ⟨by rfl, fun w hS => ?_⟩) HS0.out ?_
          · (go_simp)
          simp only [Act.put, List.setIfInBounds_toArray, List.set_cons_zero, List.set_cons_succ]
          refine AnyBut.take 3 (some 36) (v := (.pointer (some ⟨g, 1, none⟩))) rfl rfl (by kernel_rfl) (by decide) (by kernel_rfl) (by kernel_rfl) (by kernel_rfl) (by kernel_rfl) (fun _ _ _ h => h) (Or.inl ⟨by rfl, fun w hS => ?_⟩) HS0.out ?_
          · (go_simp)
          simp only [Act.put, List.setIfInBounds_toArray, List.set_cons_zero, List.set_cons_succ]
          refine AnyBut.take 4 (some 37) (v := (v)) rfl rfl (by kernel_rfl) (by decide) (by kernel_rfl) (by kernel_rfl) (by kernel_rfl) (by kernel_rfl) (fun _ _ _ h => h) (Or.inl ⟨by rfl, fun w hS => ?_⟩) HS0.out ?_
          · (obtain ⟨q1, q2⟩ := hS; go_simp)
          simp only [Act.put, List.setIfInBounds_toArray, List.set_cons_zero, List.set_cons_succ]
          refine AnyBut.take 5 (some 38) rfl rfl (by kernel_rfl) (by decide) (by kernel_rfl) (by kernel_rfl) (by kernel_rfl) (by kernel_rfl) (fun _ _ _ h => h) (yieldsIf_load_mid (by rfl) _ _ rfl _ _ rfl (wc (k, Sc.fill x)) _ (fun w hS => hS.2) Tryz.underlying111 rfl HIL.out) HS0.out ?_
          simp only [Act.put, List.setIfInBounds_toArray, List.set_cons_zero, List.set_cons_succ]
          refine AnyBut.one 6 (by kernel_rfl) rfl (by rfl) (fun KK hK => ?_)
          refine wp_build_one (.tmp 38) rfl (some 39) rfl (k, Sc.fill x) hfs rfl ?_
          have HS1 : Hid ((fun w' : World => w'.cell? ⟨g, 1, none⟩ = some v ∧ w'.rangeAt N 0 (wc (k, Sc.fill x))) (w2.drew.alloc (.cells (wA (k, Sc.fill x)) 111))) :=
            ⟨(HD2.out.drew.alloc _).c1, range_chg (range_all (w := w2.drew) HW2.out) (Chg.alloc [] _ _) (by simp)⟩
          refine hK.out _ _ (fun _ => HS1.out) ?_
          clear hK KK
          simp only [Act.put, List.setIfInBounds_toArray, List.set_cons_zero, List.set_cons_succ]
          refine AnyBut.one 7 (by kernel_rfl) rfl (by rfl) (fun KK hK => ?_)
          refine append_wr (.tmp 37) (.tmp 39) (some 40) rfl rfl _ v s.pend rfl (HD2.out.drew.alloc _).pend ⟨w2.drew.heap.size, 0, none⟩ 1 (k, Sc.fill x) hfs rfl (fun j u hj => by rw [Addr.add_mid]; exact range_all (heap_alloc_new w2.drew _) j u hj) (by omega) ?_
          intro v' w3 hO3 hG3 hv3
          have HS2 : Hid ((fun w' : World => w'.cell? ⟨g, 1, none⟩ = some v ∧ w'.rangeAt N 0 (wc (k, Sc.fill x))) w3) := by
            refine ⟨?_, range_chg HS1.out.2 (Chg.grown hG3) (fun h => ?_)⟩
            · rw [← HS1.out.1]
              exact World.cell?_of_block (hG3.block g (by have := hfoot.out g (by simp [foot]); show g < _; simp; omega) (fun e => HD2.out.gp e.symm))
            · have := hfoot.out N (by simp only [foot, List.mem_cons]; exact .inr (.inr h))
              omega
          refine hK.out _ _ (fun _ => HS2.out) ?_
          clear hK KK
          simp only [Act.put, List.setIfInBounds_toArray, List.set_cons_zero, List.set_cons_succ]
          refine AnyBut.take 8 (some 41) (v := (ptr g)) rfl rfl (by kernel_rfl) (by decide) (by kernel_rfl) (by kernel_rfl) (by kernel_rfl) (by kernel_rfl) (fun _ _ _ h => h) (Or.inl ⟨by rfl, fun w hS => ?_⟩) HS2.out ?_
          · (go_simp)
          simp only [Act.put, List.setIfInBounds_toArray, List.set_cons_zero, List.set_cons_succ]
          refine AnyBut.take 9 (some 42) (v := (.pointer (some ⟨g, 1, none⟩))) rfl rfl (by kernel_rfl) (by decide) (by kernel_rfl) (by kernel_rfl) (by kernel_rfl) (by kernel_rfl) (fun _ _ _ h => h) (Or.inl ⟨by rfl, fun w hS => ?_⟩) HS2.out ?_
          · (go_simp)
          simp only [Act.put, List.setIfInBounds_toArray, List.set_cons_zero, List.set_cons_succ]
          refine AnyBut.one 10 (by kernel_rfl) rfl (by rfl) (fun KK hK => ?_)
          obtain ⟨HD4, HT4⟩ := Dk.put (HD2.out.drew.alloc (.cells (wA (k, Sc.fill x)) 111)) hG3 hO3 hv3 OK.out
          have c1 := HS2.out.1
          have f1 : w3.frozen? ⟨g, 1, none⟩ = false := (World.frozen?_of_block (hG3.block g (by have := hfoot.out g (by simp [foot]); show g < _; simp; omega) (fun e => HD2.out.gp e.symm))).trans ((HD2.out.drew.alloc _).fz 1)
          obtain ⟨va, vc, rfl⟩ := own_slice hO3
          go_simp
          refine hK.out _ _ (fun h => absurd rfl h) ?_
          clear hK KK
          refine AnyBut.done (by kernel_rfl) ?_
          have HFN : Hid (Does w' g kg v (Sc.put s k x) 0 (.returned (.int .i64 0)) (w3.setCell ⟨g, 1, none⟩ (.slice va (s.pend ++ [(k, Sc.fill x)]).length vc))) := ⟨_, rfl, HD4, (HT2.out.drew.trans (Turn.of_below ((Below.refl _ _).alloc (Nat.le_refl _) _))).trans HT4⟩
          clear HD4 HT4
          go_wp2
          go_ret
          have HF := HFN.out
          rw [show (s.pend ++ [(k, Sc.fill x)]).length = s.pend.length + 1 by simp] at HF
          exact HF
  · rw [hd] at HR
    simp only [if_true] at *
    go_enter Tryz.func106, Tryz.ntmps106
    go_wp2_with (first | (go_at_call 53; refine HR.mono ?_; rintro e w' ⟨rfl, rfl⟩))
    go_ret
    exact ⟨_, rfl, HH.out, Turn.refl _ _⟩
end Go.Proofs.YtcfninpokngmlaaGreatDoor
