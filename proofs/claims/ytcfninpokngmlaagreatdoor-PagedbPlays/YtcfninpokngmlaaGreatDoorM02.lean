/- Proved: what Write makes of a disk. -/
import Derived.Test.YtcfninpokngmlaaGreatDoorM01
import Derived.Lib.LazyBuf
import Derived.Great.FillDense
import Derived.Great.BuildSlice
import Derived.Test.YtcfninpokngmlaaGreatDoorRows
import Derived.WalkKit
import Derived.WalkSpells
import Derived.WalkLawsBesides
import Derived.Laws.BitsAllLaws
import Derived.Laws.BytesString
import Derived.Deep.RegionHeld3
namespace Go.Proofs.YtcfninpokngmlaaGreatDoor
open Go.RowKit
theorem build1 {P : Program} {ops : Array Oper} {rest : List Oper} {o : Oper} {a : Act} {w : World} {Q : Exit → Act → World → Prop} (hgd : o.guard = none) (t : TypeId) (i : Nat) (x : Operand) (ho : o.op = .build t #[(i, x)])
    (u : Value) (hx : a.eval x = u) (cells : Array Value) (hb : P.built t [(i, u)] = some cells) (h : wpList P ops Q rest (a.put o.dst (.agg cells)) w) : wpList P ops Q (o :: rest) a w := by
  have hr := run_build w t #[(i, u)] cells hb
  refine wpList_plain hgd fun K hK => ?_
  unfold Oper.wp execOp
  simp only [ho, List.map_toArray, List.map_cons, List.map_nil, hx, Sem.run_bind, hr, Result.andThen_ok, Sem.run_pure]
  exact hK _ _ h
def zwr : Array Value := wA (0, Sc.zero64)
theorem zeroWr (W : World) : (zeroValue 111).run Tryz.prog W = .ok (.agg zwr) W := by kernel_rfl
theorem zwr_size : zwr.size = 65 := by kernel_rfl
theorem builtWr (k : Nat) : Tryz.prog.built 111 [(0, .int .i64 (k : Int))] = some (wA (k, Sc.zero64)) := by kernel_rfl
theorem wA_one (p : Nat × ByteArray) : (wA p).all (·.oneCell') = true := all_oneCell_toArray (wc_one p)
theorem wA_info {p : Nat × ByteArray} (h : p.2.size = 64) : (Tryz.prog.info? 111).map (·.size) = some (wA p).size := by rw [wA_size h]; exact sizeWr
theorem info_wr : Tryz.prog.info? 111 = some Tryz.t111 := by kernel_rfl
theorem wr_zero : Tryz.t111.zero = some (.agg zwr) := by kernel_rfl
theorem copy_str {P : Program} {ops : Array Oper} {rest : List Oper} {o : Oper} {a : Act} {w : World} {Q : Exit → Act → World → Prop} (hgd : o.guard = none) (d x : Operand) (dT sT : TypeId) (ho : o.op = Op.call { callee := Callee.builtin Builtin.copy, args := #[d, x], argTypes := #[dT, sT] })
    (elem : TypeId) (hu : P.underlying dT = some (.slice elem)) (hz : ∀ w, (Go.sizeOf elem).run P w = .ok 1 w)
    (b off dLen dCap : Nat) (hd : a.eval d = .slice (some ⟨b, off, none⟩) dLen dCap) (t : ByteArray) (hx : a.eval x = .string t) (hle : t.size ≤ dLen) (ht : w.there b off t.size)
    (h : wpList P ops Q rest (a.put o.dst (goInt t.size)) (w.setCells b off (bc t))) : wpList P ops Q (o :: rest) a w := by
  have hr := Go.run_copy_string (P := P) w dT sT o.type elem b off dLen dCap t hu hz hle (fun j hj => (ht j hj).1) (fun j hj => (ht j hj).2)
  refine wpList_plain hgd fun K hK => ?_
  unfold Oper.wp execOp
  simp only [ho, resolve, invoke, builtin, Sem.run_bind, Sem.run_pure, Result.andThen_ok, List.map_toArray, List.map_cons, List.map_nil, hd, hx, hr]
  exact hK _ _ h
theorem size_u8 (w : World) : (Go.sizeOf 5).run Tryz.prog w = .ok 1 w := by kernel_rfl
theorem zero64_list : Sc.zero64.data.toList = List.replicate 64 0 := by unfold Sc.zero64; exact Array.toList_replicate
theorem splice_fill (k : Nat) (x : ByteArray) : splice (wc (k, Sc.zero64)) 1 (bc x) = wc (k, Sc.fill x) := by
  unfold splice wc bc
  simp only
  rw [Sc.fill_list, zero64_list, List.length_map, ← Sc.size_eq, Nat.add_comm 1, List.drop_succ_cons, ← List.map_drop, List.drop_replicate, List.map_append, show (1 : Nat) = 0 + 1 from rfl, List.take_succ_cons, List.take_zero]
  rfl
theorem fill_wr {p : Nat × ByteArray} (h : p.2.size = 64) : Instr.fill (fun i => some (i * Tryz.t111.size, Tryz.t111.size)) ((Array.range (1 * Tryz.t111.size)).map ((Value.agg zwr).cells[· % (Value.agg zwr).cells.size]!)) [(0, .agg (wA p))] = some (wA p) := by
  have e := Go.Great.fill_whole (s := Tryz.t111.size) (by decide) [.agg (wA p)] ((Array.range (1 * Tryz.t111.size)).map ((Value.agg zwr).cells[· % (Value.agg zwr).cells.size]!)) (fun v hv => by rw [List.mem_singleton.1 hv]; exact wA_size h) (by simp)
  rw [show (([.agg (wA p)] : List Value).flatMap fun v => v.cells.toList).toArray = wA p by simp [Value.cells]] at e
  exact e
theorem wp_build_one {o : Oper} {a : Act} {w : World} {K : Act → World → Prop} {Q : Exit → Act → World → Prop} (x : Operand) (ho : o.op = .buildSlice 95 1 #[(0, x)]) (d : Option Tmp) (hd : o.dst = d) (p : Nat × ByteArray) (hp : p.2.size = 64) (hx : a.eval x = .agg (wA p))
    (h : K (a.put d (.slice (some ⟨w.heap.size, 0, none⟩) 1 1)) (w.alloc (.cells (wA p) 111))) : o.wp Tryz.prog a w K Q := by
  subst hd
  refine wp_buildSlice 95 111 1 _ ho (wA p) Tryz.t111 (.agg zwr) Tryz.underlying95 info_wr wr_zero (by decide) (by decide) ?_ h
  rw [Array.toList_map]
  show Instr.fill _ _ [(0, a.eval x)] = _
  rw [hx]
  exact fill_wr hp
theorem own_slice {w : World} {base e size n : Nat} {v : Value} {xs : List Value} (h : w.ownsRow base e size v n xs) : ∃ a c, v = .slice a n c := by
  rcases h.2 with ⟨h1, h2⟩ | ⟨g, cap, _, h1, _⟩
  · subst h2; exact ⟨_, _, h1⟩
  · exact ⟨_, _, h1⟩
theorem there_row {w : World} {g o n : Nat} {cs : Array Value} {t : TypeId} (h : w.heap[g]? = some (.cells cs t (0, 0))) (hl : o + n ≤ cs.size) : w.there g o n := fun j hj => by
  refine ⟨?_, frozen_of_row w g _ _ t h⟩
  rw [cell_of_row w g _ _ t (0, 0) h, Array.getElem?_eq_getElem (by omega)]
  rfl
theorem range_all {w : World} {g : Nat} {cs : List Value} {t : TypeId} (h : w.heap[g]? = some (.cells cs.toArray t (0, 0))) : w.rangeAt g 0 cs := fun j u hu => by
  rw [cell_of_row w g _ _ t (0, 0) h, Nat.zero_add, List.getElem?_toArray]; exact hu
theorem range_below {w w' : World} {g o B : Nat} {l : List Value} (h : w.rangeAt g o l) (hb : Below B w w') (hg : g < B) : w'.rangeAt g o l := fun j v hv => (hb.cell (p := ⟨g, o + j, none⟩) hg).trans (h j v hv)
theorem range_chg {w w' : World} {g o : Nat} {fs : List Nat} {l : List Value} (h : w.rangeAt g o l) (hb : Chg fs w w') (hg : g ∉ fs) : w'.rangeAt g o l := fun j v hv => by
  have := h j v hv
  rw [← this]
  exact World.cell?_of_block (hb.block g (block_lt_of_cell this) hg)
/- 'append(x, y)' of one write behind what is pending -/
theorem append_wr {o : Oper} {a : Act} {K : Act → World → Prop} {Q : Exit → Act → World → Prop} (sl x : Operand) (d : Option Tmp) (hd : o.dst = d)
    (ho : o.op = .call { callee := .builtin .append, args := #[sl, x], argTypes := #[95, 95] }) (W : World) (v : Value) (l : List (Nat × ByteArray)) (hs : a.eval sl = v) (hown : W.ownsRow 0 111 65 v l.length (l.flatMap wc))
    (ad : Addr) (c : Nat) (p : Nat × ByteArray) (hp : p.2.size = 64) (hx : a.eval x = .slice (some ad) 1 c) (hnews : ∀ j u, (wc p)[j]? = some u → W.cell? (ad.add j) = some u) (hb : l.length ≤ 100000)
    (h : ∀ v' w', w'.ownsRow 0 111 65 v' (l ++ [p]).length ((l ++ [p]).flatMap wc) → W.grownBy w' v.ownBlock → (v'.ownBlock = v.ownBlock ∨ v'.ownBlock = some W.heap.size) → K (a.put d v') w') : o.wp Tryz.prog a W K Q := by
  subst hd
  have hb72 : Tryz.t111.bytes = 72 := rfl
  obtain ⟨v', w', hr, h2, h3, h4, h5⟩ := run_append_own_at (P := Tryz.prog) W 0 95 o.type 111 Tryz.t111 (.agg zwr) 65 72 Tryz.underlying95 info_wr wr_zero rfl rfl zwr_size (by omega) v l.length (l.flatMap wc) hown ad 1 c (wc p) (by rw [wc_length hp]) hnews (wc_one p) (by unfold maxLen; omega) (by omega) (Nat.zero_le _)
  unfold Oper.wp execOp
  simp only [ho, resolve, invoke, builtin, Sem.run_bind, Sem.run_pure, Result.andThen_ok, List.map_toArray, List.map_cons, List.map_nil, hs, hx, hr]
  exact h v' w' (by simpa using h2) h3 h5
theorem Dk.put {w w' : World} {g kg : Nat} {v v' : Value} {s : Sc.St} {k : Nat} {x : ByteArray} (H : Dk w g kg v (Sc.spent s)) (hB : w.grownBy w' v.ownBlock) (hO : w'.ownsRow 0 111 65 v' (s.pend ++ [(k, Sc.fill x)]).length ((s.pend ++ [(k, Sc.fill x)]).flatMap wc)) (hv : v'.ownBlock = v.ownBlock ∨ v'.ownBlock = some w.heap.size) (ok : Sc.Ok (Sc.put s k x)) :
    Dk (w'.setCell ⟨g, 1, none⟩ v') g kg v' (Sc.put s k x) ∧ Turn (foot g kg v) (foot g kg v') w (w'.setCell ⟨g, 1, none⟩ v') := by
  have lt := H.lt
  have hg : w'.heap[g]? = w.heap[g]? := hB.block g (lt g (by simp [foot])) (fun e => H.gp e.symm)
  have hk : w'.heap[kg]? = w.heap[kg]? := hB.block kg (lt kg (by simp [foot])) (fun e => H.kp e.symm)
  have ne1 : v'.ownBlock ≠ some g := fun e => by
    rcases hv with h | h
    · exact H.gp (h ▸ e)
    · rw [h] at e
      have := lt g (by simp [foot])
      have := Option.some.inj e
      omega
  have ne2 : v'.ownBlock ≠ some kg := fun e => by
    rcases hv with h | h
    · exact H.kp (h ▸ e)
    · rw [h] at e
      have := lt kg (by simp [foot])
      have := Option.some.inj e
      omega
  refine ⟨⟨?_, ?_, own_keep hO (fun k hk => heap_setCell_other _ _ _ _ (fun e => ne1 (by rw [hk, e]))), H.gk, ne1, ne2, ok⟩, ⟨?_, fun k hk => ?_⟩⟩
  · rw [heap_setCell_same w' g 1 _ _ _ (hg.trans H.row)]
    rfl
  · rw [heap_setCell_other _ _ _ _ (by exact Ne.symm H.gk), hk]; exact H.kept
  · exact ((Chg.grown hB).mono (fun k hk => by simp [foot]; simp at hk; exact .inr (.inr hk))).trans ((Chg.setCell w' g 1 v').mono (fun k hk => by rw [List.mem_singleton.1 hk]; simp [foot]))
  · simp only [foot, List.mem_cons, Option.mem_toList] at hk ⊢
    rcases hk with h | h | h
    · exact .inl (.inl h)
    · exact .inl (.inr (.inl h))
    · rcases hv with e | e
      · rw [e] at h; exact .inl (.inr (.inr h))
      · rw [e] at h
        exact .inr (by have := Option.some.inj h; omega)
set_option maxHeartbeats 4000000 in
set_option maxRecDepth 20000 in
theorem write_any (g kg : Nat) (v : Value) (s : Sc.St) (i : Int) (x : ByteArray) (w : World) (H : Dk w g kg v s) (hn : s.dn ≤ 1000000000) (hl : s.pend.length ≤ 30000) :
    Calls Tryz.prog 106 #[ptr g, .int .i64 i, .string x] w (Does w g kg v (Sc.writeS s i x) (Sc.writeE s i x)) := by
  have HR := ready_any g kg v s w H
  have HS := has_any g kg v s i w H
  have HH : Hid (Dk w g kg v s) := H
  have HSP : Hid (Calls Tryz.prog 108 #[ptr g] w fun e w' => e = .returned (.int .i64 (spendE s)) ∧ Dk w' g kg v (spendS s) ∧ Turn (foot g kg v) (foot g kg v) w w') := spend_any g kg v s w H hn
  have hz := zeroWr
  clear H
  unfold Sc.liveE at HR
  unfold Sc.writeS Sc.writeE
  unfold spendE spendS at HSP
  cases hd : s.down
  · rw [hd] at HR
    simp only [Bool.false_eq_true, if_false] at *
    cases hh : Sc.has s i
    · rw [hh] at HS
      simp only [if_true]
      go_enter Tryz.func106, Tryz.ntmps106
      go_wp2_with (first | (go_at_call 53; refine HR.mono ?_; rintro e w' ⟨rfl, rfl⟩) | (go_at_call 122; refine HS.mono ?_; rintro e w' ⟨rfl, rfl⟩))
      go_ret
      exact ⟨_, rfl, HH.out, Turn.refl _ _⟩
    · rw [hh] at HS
      simp only [Bool.true_eq_false, if_false]
      by_cases hx : 64 < x.size
      · have hdx : decide ((64 : Int) < (x.size : Int)) = true := by simp; omega
        simp only [hx, if_true]
        go_enter Tryz.func106, Tryz.ntmps106
        go_wp2_with (first | (go_at_call 53; refine HR.mono ?_; rintro e w' ⟨rfl, rfl⟩) | (go_at_call 122; refine HS.mono ?_; rintro e w' ⟨rfl, rfl⟩))
        go_ret
        exact ⟨_, rfl, HH.out, Turn.refl _ _⟩
      · have hdx : decide ((64 : Int) < (x.size : Int)) = false := by simp; omega
        simp only [hx, if_false]
        by_cases h0 : s.left = 0
        · simp only [h0, if_true] at HSP ⊢
          go_enter Tryz.func106, Tryz.ntmps106
          go_wp2_with (first | (go_at_call 53; refine HR.mono ?_; rintro e w' ⟨rfl, rfl⟩) | (go_at_call 122; refine HS.mono ?_; rintro e w' ⟨rfl, rfl⟩) | (go_at_call 108; refine HSP.out.mono ?_; rintro e w1 ⟨rfl, hD1, hT1⟩))
          go_ret
          exact ⟨_, rfl, hD1, hT1⟩
        · simp only [h0, if_false] at HSP ⊢
          obtain ⟨k, rfl⟩ : ∃ k : Nat, i = (k : Int) := ⟨i.toNat, by have := (Sc.has_iff.1 hh).1; omega⟩
          have hk : k < s.kept.length := by have := (Sc.has_iff.1 hh).2; omega
          rw [Int.toNat_natCast]
          have OK : Hid (Sc.Ok (Sc.put s k x)) := Sc.put_ok HH.out.ok hk (by omega)
          go_enter Tryz.func106, Tryz.ntmps106
          go_wp2_with (first | (go_at_call 53; refine HR.mono ?_; rintro e w' ⟨rfl, rfl⟩) | (go_at_call 122; refine HS.mono ?_; rintro e w' ⟨rfl, rfl⟩) | (go_at_call 108; refine HSP.out.mono ?_; rintro e w1 ⟨rfl, hD1, hT1⟩; have HD1 : Hid (Dk w1 g kg v (Sc.spent s)) := hD1; have HT1 := (show Hid (Turn (foot g kg v) (foot g kg v) _ w1) from hT1); clear hD1 hT1) | (refine build1 rfl 111 0 _ rfl (.int .i64 (k : Int)) rfl _ (builtWr k) ?_) | (refine store_row rfl rfl 111 _ _ rfl _ (wA (k, Sc.zero64)) rfl rfl 111 zwr (heap_alloc_new _ _) (wA_info Sc.zero64_size) (by rw [wA_size (p := (k, Sc.zero64)) Sc.zero64_size]; exact zwr_size) (wA_one _) ?_) | (refine copy_str rfl _ _ 138 9 rfl 5 Tryz.underlying138 size_u8 _ 1 64 64 rfl x rfl (by omega) (there_row (setRow_heap _ _ _ _ _ _ (heap_alloc_new _ _)) (by rw [wA_size (p := (k, Sc.zero64)) Sc.zero64_size]; omega)) ?_))
          have HW2 : Hid ((((w1.alloc (.cells zwr 111)).setRow w1.heap.size (wA (k, Sc.zero64))).setCells w1.heap.size 1 (bc x)).heap[w1.heap.size]? = some (.cells (wc (k, Sc.fill x)).toArray 111 (0, 0))) := by
            have := setCells_splice w1.heap.size 111 (bc x) 1 (wc (k, Sc.zero64)) ((w1.alloc (.cells zwr 111)).setRow w1.heap.size (wA (k, Sc.zero64))) (setRow_heap _ _ _ _ _ _ (heap_alloc_new _ _)) (by rw [wc_length Sc.zero64_size, bc_length]; omega)
            rw [splice_fill] at this
            exact this
          have HB2 : Hid (Below w1.heap.size w1 (((w1.alloc (.cells zwr 111)).setRow w1.heap.size (wA (k, Sc.zero64))).setCells w1.heap.size 1 (bc x))) := below_setCells (Nat.le_refl _) _ _ _ (below_setRow ((Below.refl _ _).alloc (Nat.le_refl _) _) (Nat.le_refl _) _)
          generalize World.setCells _ _ _ _ = w2 at *
          have HD2 : Hid (Dk w2 g kg v (Sc.spent s)) := HD1.out.below HB2.out
          have HT2 : Hid (Turn (foot g kg v) (foot g kg v) w' w2) := HT1.out.trans (Turn.of_below HB2.out)
          have hN : w1.heap.size < w2.heap.size := (Array.getElem?_eq_some_iff.1 HW2.out).1
          have hfoot : Hid (∀ b ∈ foot g kg v, b < w1.heap.size) := HD1.out.lt
          have hfs : (Sc.fill x).size = 64 := Sc.fill_size (by omega)
          clear HD1 HT1 HB2 HR HS HSP HH
          generalize w1.heap.size = N at *
          have HS0 : Hid ((fun w' : World => w'.cell? ⟨g, 1, none⟩ = some v ∧ w'.rangeAt N 0 (wc (k, Sc.fill x))) w2.drew) := ⟨HD2.out.c1, range_all HW2.out⟩
          have HIL : Hid ((Tryz.prog.info? 111).map (·.size) = some (wc (k, Sc.fill x)).length) := by show _ = _; rw [wc_length hfs]; exact sizeWr
          refine AnyBut.begin (z := 10) (S := fun w' => w'.cell? ⟨g, 1, none⟩ = some v ∧ w'.rangeAt N 0 (wc (k, Sc.fill x))) (by kernel_rfl) ?_
          refine AnyBut.take 0 (some 33) (v := (ptr g)) rfl rfl (by kernel_rfl) (by decide) (by kernel_rfl) (by kernel_rfl) (by kernel_rfl) (by kernel_rfl) (fun _ _ _ h => h) (Or.inl ⟨by rfl, fun w hS => ?_⟩) HS0.out ?_
          · (go_simp)
          simp only [Act.put, List.setIfInBounds_toArray, List.set_cons_zero, List.set_cons_succ]
          refine AnyBut.take 1 (some 34) (v := (ptr g)) rfl rfl (by kernel_rfl) (by decide) (by kernel_rfl) (by kernel_rfl) (by kernel_rfl) (by kernel_rfl) (fun _ _ _ h => h) (Or.inl ⟨by rfl, fun w hS => ?_⟩) HS0.out ?_
          · (go_simp)
          simp only [Act.put, List.setIfInBounds_toArray, List.set_cons_zero, List.set_cons_succ]
          refine AnyBut.take 2 (some 35) (v := (ptr g)) rfl rfl (by kernel_rfl) (by decide) (by kernel_rfl) (by kernel_rfl) (by kernel_rfl) (by kernel_rfl) (fun _ _ _ h => h) (Or.inl ⟨by rfl, fun w hS => ?_⟩) HS0.out ?_
          · (go_simp)
          simp only [Act.put, List.setIfInBounds_toArray, List.set_cons_zero, List.set_cons_succ]
          refine AnyBut.take 3 (some 36) (v := (.pointer (some ⟨g, 1, none⟩))) rfl rfl (by kernel_rfl) (by decide) (by kernel_rfl) (by kernel_rfl) (by kernel_rfl) (by kernel_rfl) (fun _ _ _ h => h) (Or.inl ⟨by rfl, fun w hS => ?_⟩) HS0.out ?_
          · (go_simp)
          simp only [Act.put, List.setIfInBounds_toArray, List.set_cons_zero, List.set_cons_succ]
          refine AnyBut.take 4 (some 37) (v := (v)) rfl rfl (by kernel_rfl) (by decide) (by kernel_rfl) (by kernel_rfl) (by kernel_rfl) (by kernel_rfl) (fun _ _ _ h => h) (Or.inl ⟨by rfl, fun w hS => ?_⟩) HS0.out ?_
          · (obtain ⟨q1, q2⟩ := hS; go_simp)
          simp only [Act.put, List.setIfInBounds_toArray, List.set_cons_zero, List.set_cons_succ]
          refine AnyBut.take 5 (some 38) rfl rfl (by kernel_rfl) (by decide) (by kernel_rfl) (by kernel_rfl) (by kernel_rfl) (by kernel_rfl) (fun _ _ _ h => h) (yieldsIf_load_mid (by rfl) _ _ rfl _ _ rfl (wc (k, Sc.fill x)) _ (fun w hS => hS.2) Tryz.underlying111 rfl HIL.out) HS0.out ?_
          simp only [Act.put, List.setIfInBounds_toArray, List.set_cons_zero, List.set_cons_succ]
          refine AnyBut.one 6 (by kernel_rfl) rfl (by rfl) (fun KK hK => ?_)
          refine wp_build_one (.tmp 38) rfl (some 39) rfl (k, Sc.fill x) hfs rfl ?_
          have HS1 : Hid ((fun w' : World => w'.cell? ⟨g, 1, none⟩ = some v ∧ w'.rangeAt N 0 (wc (k, Sc.fill x))) (w2.drew.alloc (.cells (wA (k, Sc.fill x)) 111))) :=
            ⟨(HD2.out.drew.alloc _).c1, range_chg (range_all (w := w2.drew) HW2.out) (Chg.alloc [] _ _) (by simp)⟩
          refine hK.out _ _ (fun _ => HS1.out) ?_
          clear hK KK
          simp only [Act.put, List.setIfInBounds_toArray, List.set_cons_zero, List.set_cons_succ]
          refine AnyBut.one 7 (by kernel_rfl) rfl (by rfl) (fun KK hK => ?_)
          refine append_wr (.tmp 37) (.tmp 39) (some 40) rfl rfl _ v s.pend rfl (HD2.out.drew.alloc _).pend ⟨w2.drew.heap.size, 0, none⟩ 1 (k, Sc.fill x) hfs rfl (fun j u hj => by rw [Addr.add_mid]; exact range_all (heap_alloc_new w2.drew _) j u hj) (by omega) ?_
          intro v' w3 hO3 hG3 hv3
          have HS2 : Hid ((fun w' : World => w'.cell? ⟨g, 1, none⟩ = some v ∧ w'.rangeAt N 0 (wc (k, Sc.fill x))) w3) := by
            refine ⟨?_, range_chg HS1.out.2 (Chg.grown hG3) (fun h => ?_)⟩
            · rw [← HS1.out.1]
              exact World.cell?_of_block (hG3.block g (by have := hfoot.out g (by simp [foot]); show g < _; simp; omega) (fun e => HD2.out.gp e.symm))
            · have := hfoot.out N (by simp only [foot, List.mem_cons]; exact .inr (.inr h))
              omega
          refine hK.out _ _ (fun _ => HS2.out) ?_
          clear hK KK
          simp only [Act.put, List.setIfInBounds_toArray, List.set_cons_zero, List.set_cons_succ]
          refine AnyBut.take 8 (some 41) (v := (ptr g)) rfl rfl (by kernel_rfl) (by decide) (by kernel_rfl) (by kernel_rfl) (by kernel_rfl) (by kernel_rfl) (fun _ _ _ h => h) (Or.inl ⟨by rfl, fun w hS => ?_⟩) HS2.out ?_
          · (go_simp)
          simp only [Act.put, List.setIfInBounds_toArray, List.set_cons_zero, List.set_cons_succ]
          refine AnyBut.take 9 (some 42) (v := (.pointer (some ⟨g, 1, none⟩))) rfl rfl (by kernel_rfl) (by decide) (by kernel_rfl) (by kernel_rfl) (by kernel_rfl) (by kernel_rfl) (fun _ _ _ h => h) (Or.inl ⟨by rfl, fun w hS => ?_⟩) HS2.out ?_
          · (go_simp)
          simp only [Act.put, List.setIfInBounds_toArray, List.set_cons_zero, List.set_cons_succ]
          refine AnyBut.one 10 (by kernel_rfl) rfl (by rfl) (fun KK hK => ?_)
          obtain ⟨HD4, HT4⟩ := Dk.put (HD2.out.drew.alloc (.cells (wA (k, Sc.fill x)) 111)) hG3 hO3 hv3 OK.out
          have c1 := HS2.out.1
          have f1 : w3.frozen? ⟨g, 1, none⟩ = false := (World.frozen?_of_block (hG3.block g (by have := hfoot.out g (by simp [foot]); show g < _; simp; omega) (fun e => HD2.out.gp e.symm))).trans ((HD2.out.drew.alloc _).fz 1)
          obtain ⟨va, vc, rfl⟩ := own_slice hO3
          go_simp
          refine hK.out _ _ (fun h => absurd rfl h) ?_
          clear hK KK
          refine AnyBut.done (by kernel_rfl) ?_
          have HFN : Hid (Does w' g kg v (Sc.put s k x) 0 (.returned (.int .i64 0)) (w3.setCell ⟨g, 1, none⟩ (.slice va (s.pend ++ [(k, Sc.fill x)]).length vc))) := ⟨_, rfl, HD4, (HT2.out.drew.trans (Turn.of_below ((Below.refl _ _).alloc (Nat.le_refl _) _))).trans HT4⟩
          clear HD4 HT4
          go_wp2
          go_ret
          have HF := HFN.out
          rw [show (s.pend ++ [(k, Sc.fill x)]).length = s.pend.length + 1 by simp] at HF
          exact HF
  · rw [hd] at HR
    simp only [if_true] at *
    go_enter Tryz.func106, Tryz.ntmps106
    go_wp2_with (first | (go_at_call 53; refine HR.mono ?_; rintro e w' ⟨rfl, rfl⟩))
    go_ret
    exact ⟨_, rfl, HH.out, Turn.refl _ _⟩
end Go.Proofs.YtcfninpokngmlaaGreatDoor
/- Proved: plain facts on CRC-32C over numbers: four bits by the table are four bits one by one, every step goes bit by bit under exclusive or, and a row of 32 numbers stands for a shift by noughts. No program in it; no condition but ranges below 2^32 where a row says so. -/
namespace Crc
def tab : List Nat := [0, 274646895, 549293790, 820201905, 1098587580, 1361435347, 1640403810, 1905808397, 2197175160, 2460548119, 2722870694, 2987750089, 3280807620, 3553878443, 3811616794, 4084100981]
def nib (i : Nat) : Nat := tab.getD i 0
def half (r : Nat) : Nat := (r / 16) ^^^ nib (r % 16)
def tk (r x : Nat) : Nat := half (half (r ^^^ x))
theorem nib_lt (i : Nat) : nib i < 4294967296 := by
  unfold nib
  by_cases h : i < 16
  · have : ∀ j, j < 16 → tab.getD j 0 < 4294967296 := by decide
    exact this i h
  · have : tab.getD i 0 = 0 := by
      simp [tab, List.getD]
      rw [List.getElem?_eq_none (by simp; omega)]; rfl
    omega
theorem xor_lt {a b : Nat} (ha : a < 4294967296) (hb : b < 4294967296) : a ^^^ b < 4294967296 := Nat.xor_lt_two_pow (n := 32) ha hb
theorem half_lt {r : Nat} (h : r < 4294967296) : half r < 4294967296 := xor_lt (by omega) (nib_lt _)
theorem tk_lt {r x : Nat} (h : r < 4294967296) (hx : x < 256) : tk r x < 4294967296 := half_lt (half_lt (xor_lt h (by omega)))
/- the document's: bit by bit -/
def bit (r : Nat) : Nat := if r % 2 = 1 then r / 2 ^^^ 2197175160 else r / 2
def steps : Nat → Nat → Nat
  | 0, r => r
  | k + 1, r => steps k (bit r)
def rtk (r x : Nat) : Nat := steps 8 (r ^^^ x)
theorem bit_lt {r : Nat} (h : r < 4294967296) : bit r < 4294967296 := by
  unfold bit; split
  · exact xor_lt (by omega) (by omega)
  · omega
def turn (r : Nat) : Nat := r ^^^ 4294967295
theorem turn_lt {r : Nat} (h : r < 4294967296) : turn r < 4294967296 := xor_lt h (by omega)
def rfold (r : Nat) (bs : List Nat) : Nat := bs.foldl rtk r
def fold (r : Nat) (bs : List Nat) : Nat := bs.foldl tk r
theorem fold_lt (bs : List Nat) {r : Nat} (h : r < 4294967296) (hb : ∀ x ∈ bs, x < 256) : fold r bs < 4294967296 := by
  induction bs generalizing r with
  | nil => exact h
  | cons x bs ih => exact ih (tk_lt h (hb x (by simp))) (fun y hy => hb y (by simp [hy]))
theorem foldl_take {f : Nat → Nat → Nat} (r : Nat) (bs : List Nat) (k : Nat) (h : k < bs.length) : (bs.take (k + 1)).foldl f r = f ((bs.take k).foldl f r) (bs.getD k 0) := by
  rw [List.take_succ_eq_append_getElem h, List.foldl_append, List.getD_eq_getElem?_getD, List.getElem?_eq_getElem h]; rfl
theorem fold_take (r : Nat) (bs : List Nat) (k : Nat) (h : k < bs.length) : fold r (bs.take (k + 1)) = tk (fold r (bs.take k)) (bs.getD k 0) := foldl_take r bs k h
def upd (s : Nat) (bs : List Nat) : Nat := turn (fold (turn s) bs)
def rupd (s : Nat) (bs : List Nat) : Nat := turn (rfold (turn s) bs)
def sum (bs : List Nat) : Nat := upd 0 bs
def rsum (bs : List Nat) : Nat := rupd 0 bs
/- a change that goes bit by bit: the first k bits of r, each by its row -/
def changeTo (m : Nat → Nat) (r : Nat) : Nat → Nat
  | 0 => 0
  | k + 1 => if r / 2 ^ k % 2 = 1 then changeTo m r k ^^^ m k else changeTo m r k
def change (m : Nat → Nat) (r : Nat) : Nat := changeTo m r 32
/- p noughts taken in -/
def pw : Nat → Nat → Nat
  | 0, r => r
  | p + 1, r => pw p (tk r 0)
/- every step goes bit by bit -/
theorem xor_half (a b : Nat) : (a ^^^ b) / 2 = a / 2 ^^^ b / 2 := Nat.xor_div_two_pow (n := 1) ..
theorem xor_add (i a b : Nat) (h : b < 2 ^ i) : 2 ^ i * a ^^^ b = 2 ^ i * a + b := by
  apply Nat.eq_of_testBit_eq
  intro j
  rw [Nat.testBit_xor, Nat.testBit_two_pow_mul_add a h j]
  have e := Nat.testBit_two_pow_mul_add a (b := 0) (Nat.two_pow_pos i) j
  rw [Nat.add_zero] at e
  rw [e]
  split
  · simp
  · rw [Nat.testBit_lt_two_pow (Nat.lt_of_lt_of_le h (Nat.pow_le_pow_right (by omega) (by omega)))]; simp
theorem xor_odd (a b : Nat) : (a ^^^ b) % 2 = (a % 2 + b % 2) % 2 := by
  have := @Nat.xor_mod_two_pow a b 1
  simp only [Nat.pow_one] at this
  rw [this]
  rcases Nat.mod_two_eq_zero_or_one a with h | h <;> rcases Nat.mod_two_eq_zero_or_one b with g | g <;> rw [h, g] <;> rfl
theorem bit_xor (a b : Nat) : bit (a ^^^ b) = bit a ^^^ bit b := by
  unfold bit
  rw [xor_half, xor_odd]
  have comm4 : ∀ x y p : Nat, (x ^^^ p) ^^^ y = (x ^^^ y) ^^^ p := fun x y p => by rw [Nat.xor_assoc, Nat.xor_comm p y, ← Nat.xor_assoc]
  rcases Nat.mod_two_eq_zero_or_one a with h | h <;> rcases Nat.mod_two_eq_zero_or_one b with g | g <;> rw [h, g] <;> simp
  · rw [Nat.xor_assoc]
  · rw [comm4]
  · rw [comm4, Nat.xor_assoc, Nat.xor_assoc, Nat.xor_self, Nat.xor_zero]
theorem steps_xor (k a b : Nat) : steps k (a ^^^ b) = steps k a ^^^ steps k b := by
  induction k generalizing a b with
  | zero => rfl
  | succ k ih => rw [steps, bit_xor, ih]; rfl
theorem steps_add (j k r : Nat) : steps (j + k) r = steps k (steps j r) := by
  induction j generalizing r with
  | zero => simp [steps]
  | succ j ih => rw [show j + 1 + k = (j + k) + 1 by omega, steps, ih]; rfl
theorem bit_two (x : Nat) : bit (2 * x) = x := by unfold bit; rw [if_neg (by omega)]; omega
theorem bit_zero : bit 0 = 0 := rfl
theorem steps_zero (k : Nat) : steps k 0 = 0 := by
  induction k with
  | zero => rfl
  | succ k ih => rw [steps, bit_zero, ih]
theorem steps_pow (k x : Nat) : steps k (2 ^ k * x) = x := by
  induction k generalizing x with
  | zero => simp [steps]
  | succ k ih => rw [steps, show 2 ^ (k + 1) * x = 2 * (2 ^ k * x) by rw [Nat.pow_succ, Nat.mul_comm (2 ^ k) 2, Nat.mul_assoc], bit_two, ih]
theorem nib_eq : ∀ i, i < 16 → nib i = steps 4 i := by decide
theorem half_eq (r : Nat) : half r = steps 4 r := by
  have h : r % 16 < 2 ^ 4 := by omega
  have e : r = 2 ^ 4 * (r / 16) ^^^ r % 16 := by rw [xor_add 4 (r / 16) (r % 16) h]; omega
  unfold half
  rw [nib_eq _ (by omega)]
  conv => rhs; rw [e]
  rw [steps_xor, steps_pow]
theorem tk_eq (r x : Nat) : tk r x = rtk r x := by
  unfold tk rtk; rw [half_eq, half_eq, ← steps_add]
theorem tk0 (r : Nat) : tk r 0 = steps 8 r := by rw [tk_eq]; unfold rtk; rw [Nat.xor_zero]
theorem pw_eq (p r : Nat) : pw p r = steps (8 * p) r := by
  induction p generalizing r with
  | zero => rfl
  | succ p ih => rw [pw, ih, tk0, ← steps_add, show 8 + 8 * p = 8 * (p + 1) by omega]
theorem pw_xor (p a b : Nat) : pw p (a ^^^ b) = pw p a ^^^ pw p b := by rw [pw_eq, pw_eq, pw_eq, steps_xor]
/- the sum of what lies one behind the other -/
theorem tk_lin (r x : Nat) : tk r x = tk r 0 ^^^ tk 0 x := by
  rw [tk_eq, tk_eq, tk_eq]; unfold rtk; rw [Nat.xor_zero, Nat.zero_xor, steps_xor]
theorem fold_lin (r : Nat) (ys : List Nat) : fold r ys = pw ys.length r ^^^ fold 0 ys := by
  induction ys generalizing r with
  | nil => simp [fold, pw]
  | cons y ys ih =>
    have e : ∀ q, fold q (y :: ys) = fold (tk q y) ys := fun _ => rfl
    rw [e, e, ih (tk r y), ih (tk 0 y), tk_lin r y, pw_xor, Nat.xor_assoc]
    have z : pw (y :: ys).length r = pw ys.length (tk r 0) := rfl
    rw [z]
theorem fold_append (r : Nat) (xs ys : List Nat) : fold r (xs ++ ys) = fold (fold r xs) ys := List.foldl_append ..
theorem xor_cancel (a b : Nat) : a ^^^ b ^^^ b = a := by rw [Nat.xor_assoc, Nat.xor_self, Nat.xor_zero]
theorem upd_sum (xs ys : List Nat) : turn (fold (turn (sum xs)) ys) = sum (xs ++ ys) := by
  unfold sum upd
  rw [fold_append]
  have e : ∀ x, turn (turn x) = x := fun x => xor_cancel x _
  rw [e]
end Crc
/- Proved: what one call of take does, the program's by its table and the document's bit by bit. Conditions: the register is below 2^32, the byte below 256, and the table holds its sixteen numbers. -/
namespace Go.Proofs.YtcfninpokngmlaaGreatDoor
open Go.RowKit
def Tab (w : World) : Prop := ∀ i, i < 16 → w.cell? ⟨0, i, none⟩ = some (.int .u32 (Crc.nib i : Int))
theorem and15 (a : Nat) (h : a < 4294967296) : bits .and .u32 (a : Int) 15 = ((a % 16 : Nat) : Int) := by
  rw [show (15 : Int) = ((15 : Nat) : Int) from rfl, u32_and_nat a 15 h (by omega), nat_mask4]
theorem half_bits (a : Nat) (h : a < 4294967296) : bits .xor .u32 ((a : Int) / 16) (Crc.nib (a % 16) : Int) = (Crc.half a : Int) := by
  rw [show ((a : Int) / 16) = ((a / 16 : Nat) : Int) by omega, u32_xor_nat _ _ (by omega) (Crc.nib_lt _)]; rfl
set_option maxHeartbeats 400000 in
theorem take_any (r x : Nat) (w : World) (hr : r < 4294967296) (hx : x < 256) (hT : Tab w) :
    Calls Tryz.prog 153 #[.int .u32 (r : Int), .int .u8 (x : Int)] w fun e w' => e = .returned (.int .u32 (Crc.tk r x : Nat)) ∧ w' = w := by
  have h1 := u32_xor_nat r x hr (by omega)
  unfold Crc.tk
  have ha := Crc.xor_lt hr (show x < 4294967296 by omega)
  generalize r ^^^ x = a at *
  have h2 := and15 a ha
  have c1 := hT (a % 16) (by omega)
  have h3 := half_bits a ha
  have hb := Crc.half_lt ha
  generalize Crc.half a = b at *
  have h4 := and15 b hb
  have c2 := hT (b % 16) (by omega)
  have h5 := half_bits b hb
  go_enter Tryz.func153, Tryz.ntmps153
  go_wp2
  go_ret
  exact ⟨rfl, rfl⟩

end Go.Proofs.YtcfninpokngmlaaGreatDoor
/- Proved: what Update and Sum answer for any bytes, the program's and the document's. Conditions: the slice has just these bytes, and the table its sixteen numbers. -/
namespace Go.Proofs.YtcfninpokngmlaaGreatDoor
open Go.RowKit
/- What a walk knows of a slice of bytes: its elements. -/
def Bytes (w : World) (a : Option Addr) (len : Nat) (bs : List Nat) : Prop :=
  bs.length = len ∧ (∀ x ∈ bs, x < 256) ∧ len ≤ 9223372036854775807 ∧ (len = 0 ∨ ∃ b off, a = some ⟨b, off, none⟩ ∧ ∀ i, i < len → w.cell? ⟨b, off + i, none⟩ = some (.int .u8 (bs.getD i 0 : Nat)))
theorem getD_lt {bs : List Nat} (h : ∀ x ∈ bs, x < 256) (i : Nat) (hi : i < bs.length) : bs.getD i 0 < 256 := by
  rw [List.getD_eq_getElem?_getD, List.getElem?_eq_getElem hi]; exact h _ (List.getElem_mem hi)
theorem not32' (a : Nat) (h : a < 4294967296) : bits .xor .u32 IntKind.u32.max (a : Int) = ((Crc.turn a : Nat) : Int) := by
  rw [show IntKind.u32.max = ((4294967295 : Nat) : Int) from rfl, u32_xor_nat _ a (by omega) h, Nat.xor_comm]; rfl
set_option maxHeartbeats 400000 in
theorem upd_any (s : Nat) (a : Option Addr) (len cap : Nat) (bs : List Nat) (w : World) (hs : s < 4294967296) (hB : Bytes w a len bs) (hT : Tab w) :
    Calls Tryz.prog 132 #[.int .u32 (s : Int), .slice a len cap] w fun e w' => e = .returned (.int .u32 (Crc.turn (Crc.fold (Crc.turn s) bs) : Nat)) ∧ w' = w := by
  obtain ⟨hl, hlt, hmax, hc⟩ := hB
  have h1 := not32' s hs
  have ha := Crc.turn_lt hs
  generalize Crc.turn s = t at *
  go_enter Tryz.func132, Tryz.ntmps132
  go_wp2
  go_loop [5, 7, 12] (fun t' _ i => ∃ k : Nat, k ≤ len ∧ i = .int .i64 k ∧ t' = .int .u32 (Crc.fold t (bs.take k) : Nat)) (fun _ _ i => len - (intOf i).toNat)
  case atStart => exact ⟨0, Nat.zero_le _, rfl, rfl⟩
  case round =>
    obtain ⟨k, hk, rfl, rfl⟩ := hrel
    by_cases hlt' : k < len
    · have hs : Hid (Crc.fold t (bs.take (k + 1)) = Crc.tk (Crc.fold t (bs.take k)) (bs.getD k 0)) := Crc.fold_take t bs k (by omega)
      have hb := Crc.fold_lt (bs.take k) ha (fun x hx => hlt x (List.mem_of_mem_take hx))
      have hx := getD_lt hlt k (by omega)
      rcases hc with h0 | ⟨b, off, rfl, hc⟩
      · omega
      have hcell := hc k hlt'
      clear hc
      generalize Crc.fold t (bs.take k) = r at *
      generalize bs.getD k 0 = x at *
      go_wp2_with (go_at_call 153; refine (take_any _ _ _ (by assumption) (by assumption) (by assumption)).mono ?_; rintro e w' ⟨rfl, rfl⟩)
      go_round
      case rel => exact ⟨k + 1, by omega, by go_num, by rw [hs.out]⟩
      case measure => simp [intOf]; omega
    · have hk8 : k = len := by omega
      subst hk8
      rw [List.take_of_length_le (by omega)]
      have hb := Crc.fold_lt bs ha hlt
      have h2 := not32' _ hb
      go_wp2
      go_ret
      exact ⟨rfl, rfl⟩
/- The sum of bytes, the program's and the document's. -/
set_option maxHeartbeats 400000 in
theorem sum_any (a : Option Addr) (len cap : Nat) (bs : List Nat) (w : World) (hB : Bytes w a len bs) (hT : Tab w) :
    Calls Tryz.prog 116 #[.slice a len cap] w fun e w' => e = .returned (.int .u32 (Crc.sum bs : Nat)) ∧ w' = w := by
  have h := upd_any 0 a len cap bs w (by omega) hB hT
  go_enter Tryz.func116, Tryz.ntmps116
  go_wp2_with (go_at_call 132; refine h.mono ?_; rintro e w' ⟨rfl, rfl⟩)
  go_ret
  exact ⟨rfl, rfl⟩
end Go.Proofs.YtcfninpokngmlaaGreatDoor
/- Proved: plain facts of a log's bytes (stage 8): numbers as bytes, the lowest first; frames are read back, and what is read is frames; heads. No program is named. -/
namespace Wl
/- bytes as numbers -/
def nb (x : ByteArray) : List Nat := x.data.toList.map UInt8.toNat
def ob (l : List UInt8) : ByteArray := ⟨l.toArray⟩
theorem ob_list (l : List UInt8) : (ob l).data.toList = l := by simp [ob]
theorem list_ob (x : ByteArray) : ob x.data.toList = x := by
  apply ByteArray.ext
  simp [ob]
theorem ext_list {a b : ByteArray} (h : a.data.toList = b.data.toList) : a = b := by rw [← list_ob a, ← list_ob b, h]
theorem ob_size (l : List UInt8) : (ob l).size = l.length := by rw [Sc.size_eq, ob_list]
theorem app_list (a b : ByteArray) : (a ++ b).data.toList = a.data.toList ++ b.data.toList := by rw [ByteArray.data_append, Array.toList_append]
theorem nb_append (a b : ByteArray) : nb (a ++ b) = nb a ++ nb b := by unfold nb; rw [app_list, List.map_append]
theorem nb_lt (x : ByteArray) : ∀ n ∈ nb x, n < 256 := fun n hn => by
  obtain ⟨b, _, rfl⟩ := List.mem_map.1 hn
  exact b.toNat_lt
/- a number in k bytes, the lowest first -/
def putL : Nat → Nat → List UInt8
  | _, 0 => []
  | n, k + 1 => UInt8.ofNat (n % 256) :: putL (n / 256) k
theorem putL_length : ∀ (k n : Nat), (putL n k).length = k
  | 0, _ => rfl
  | k + 1, n => by unfold putL; rw [List.length_cons, putL_length k]
theorem putL_snoc : ∀ (k n : Nat), putL n (k + 1) = putL n k ++ [UInt8.ofNat (n / 256 ^ k % 256)]
  | 0, n => by simp [putL]
  | k + 1, n => by
    rw [putL, putL_snoc k (n / 256), putL, List.cons_append, Nat.div_div_eq_div_mul, ← Nat.pow_succ']
def put (n k : Nat) : ByteArray := ob (putL n k)
theorem put_size (n k : Nat) : (put n k).size = k := by rw [put, ob_size, putL_length]
theorem put_list (n k : Nat) : (put n k).data.toList = putL n k := ob_list _
/- a number that is read -/
def getL : List UInt8 → Nat
  | [] => 0
  | b :: l => b.toNat + 256 * getL l
theorem getL_putL : ∀ (k n : Nat), n < 256 ^ k → getL (putL n k) = n
  | 0, n, h => by
    have : n = 0 := by simpa using h
    subst this
    rfl
  | k + 1, n, h => by
    unfold putL getL
    rw [getL_putL k (n / 256) (by rw [Nat.div_lt_iff_lt_mul (by omega), ← Nat.pow_succ]; exact h), UInt8.toNat_ofNat', Nat.mod_mod]
    omega
theorem getL_lt : ∀ (l : List UInt8), getL l < 256 ^ l.length
  | [] => by simp [getL]
  | b :: l => by
    have hb := b.toNat_lt
    have := getL_lt l
    unfold getL
    rw [List.length_cons, Nat.pow_succ]
    omega
/- the sum, in four bytes -/
def sum4 (x : ByteArray) : ByteArray := put (Crc.sum (nb x)) 4
theorem sum4_size (x : ByteArray) : (sum4 x).size = 4 := put_size _ _
/- a record's frame -/
def frame (r : ByteArray) : ByteArray := put r.size 4 ++ sum4 (put r.size 4 ++ r) ++ r
theorem frame_size (r : ByteArray) : (frame r).size = 8 + r.size := by
  unfold frame
  rw [ByteArray.size_append, ByteArray.size_append, put_size, sum4_size]
def frames : List ByteArray → ByteArray
  | [] => ob []
  | r :: l => frame r ++ frames l
theorem frames_append (a b : List ByteArray) : frames (a ++ b) = frames a ++ frames b := by
  induction a with
  | nil =>
    apply ext_list
    rw [app_list]
    rfl
  | cons r a ih =>
    apply ext_list
    rw [List.cons_append, frames, frames, ih, app_list, app_list, app_list, app_list, List.append_assoc]
def total : List ByteArray → Nat
  | [] => 0
  | r :: l => 8 + r.size + total l
theorem frames_size : ∀ l, (frames l).size = total l
  | [] => rfl
  | r :: l => by rw [frames, ByteArray.size_append, frame_size, frames_size l]; rfl
/- reading frames -/
def Fit (l : List ByteArray) : Prop := ∀ r ∈ l, r.size ≤ 65536
/- these bytes are the frames of these records -/
def Is (b : ByteArray) (l : List ByteArray) : Prop := b = frames l ∧ Fit l
theorem frame_head {r r' : ByteArray} {x x' : List UInt8} (hr : r.size ≤ 65536) (hr' : r'.size ≤ 65536) (h : (frame r).data.toList ++ x = (frame r').data.toList ++ x') : r = r' ∧ x = x' := by
  unfold frame at h
  rw [app_list, app_list, app_list, app_list, put_list, put_list, List.append_assoc, List.append_assoc, List.append_assoc, List.append_assoc] at h
  obtain ⟨h1, h2⟩ := List.append_inj h (by rw [putL_length, putL_length])
  have hs : r.size = r'.size := by
    have e := congrArg getL h1
    rwa [getL_putL 4 _ (by omega), getL_putL 4 _ (by omega)] at e
  obtain ⟨_, h3⟩ := List.append_inj h2 (by rw [← Sc.size_eq, ← Sc.size_eq, sum4_size, sum4_size])
  obtain ⟨h4, h5⟩ := List.append_inj h3 (by rw [← Sc.size_eq, ← Sc.size_eq, hs])
  exact ⟨ext_list h4, h5⟩
theorem Is.inj {b : ByteArray} {l l' : List ByteArray} (h : Is b l) (h' : Is b l') : l = l' := by
  have e : frames l = frames l' := h.1.symm.trans h'.1
  have key : ∀ (l l' : List ByteArray), Fit l → Fit l' → frames l = frames l' → l = l' := by
    intro l
    induction l with
    | nil =>
      intro l' _ _ he
      cases l' with
      | nil => rfl
      | cons r t =>
        have := congrArg ByteArray.size he
        rw [frames_size, frames_size, total, total] at this
        omega
    | cons r l ih =>
      intro l' hl hl' he
      cases l' with
      | nil =>
        have := congrArg ByteArray.size he
        rw [frames_size, frames_size, total, total] at this
        omega
      | cons r' t =>
        have he2 := congrArg (fun z : ByteArray => z.data.toList) he
        simp only [frames] at he2
        rw [app_list, app_list] at he2
        obtain ⟨e1, e2⟩ := frame_head (hl r List.mem_cons_self) (hl' r' List.mem_cons_self) he2
        rw [e1, ih t (fun y hy => hl y (List.mem_cons_of_mem _ hy)) (fun y hy => hl' y (List.mem_cons_of_mem _ hy)) (ext_list e2)]
  exact key l l' h.2 h'.2 e
/- the head of a log -/
def magic : ByteArray := ⟨#[65, 81, 87, 76]⟩
def head16 (epoch length : Nat) : ByteArray := magic ++ put epoch 8 ++ put length 4
def head20 (epoch length : Nat) : ByteArray := head16 epoch length ++ sum4 (head16 epoch length)
def head (epoch length : Nat) : ByteArray := Sc.fill (head20 epoch length)
theorem head16_size (epoch length : Nat) : (head16 epoch length).size = 16 := by
  unfold head16
  rw [ByteArray.size_append, ByteArray.size_append, put_size, put_size]
  rfl
theorem head20_size (epoch length : Nat) : (head20 epoch length).size = 20 := by
  unfold head20
  rw [ByteArray.size_append, head16_size, sum4_size]
theorem head_size (epoch length : Nat) : (head epoch length).size = 64 := Sc.fill_size (by rw [head20_size]; omega)
theorem head_list (epoch length : Nat) : (head epoch length).data.toList = magic.data.toList ++ (putL epoch 8 ++ (putL length 4 ++ ((sum4 (head16 epoch length)).data.toList ++ List.replicate 44 0))) := by
  unfold head
  rw [Sc.fill_list, head20_size]
  unfold head20
  rw [app_list]
  unfold head16
  rw [app_list, app_list, put_list, put_list]
  simp [List.append_assoc]
end Wl
/- Proved: how frames are read one by one (stage 8). No program is named. -/
namespace Wl
theorem ext_ext {x : ByteArray} {a b : Nat} : (x.extract a b).data.toList = (x.data.toList.take b).drop a := by
  rw [ByteArray.data_extract, Array.toList_extract]
  simp [List.extract, List.drop_take]
theorem Is.rest : ∀ {a : List ByteArray} {b : ByteArray} {rs : List ByteArray}, Fit a → Is (frames a ++ b) rs → ∃ rs', rs = a ++ rs' ∧ Is b rs'
  | [], b, rs, _, h => by
    refine ⟨rs, rfl, ?_⟩
    have e : frames [] ++ b = b := by
      apply ext_list
      rw [app_list]
      rfl
    rwa [e] at h
  | r :: a, b, rs, hf, h => by
    have h1 : (frame r).data.toList ++ ((frames a).data.toList ++ b.data.toList) = (frames rs).data.toList := by
      rw [← h.1, app_list, frames, app_list, List.append_assoc]
    cases rs with
    | nil =>
      have := congrArg List.length h1
      rw [List.length_append, ← Sc.size_eq, frame_size] at this
      have e0 : (frames []).data.toList.length = 0 := rfl
      omega
    | cons r' t =>
      rw [frames, app_list] at h1
      obtain ⟨e1, e2⟩ := frame_head (hf r List.mem_cons_self) (h.2 r' List.mem_cons_self) h1
      have h2 : Is (frames a ++ b) t := ⟨ext_list (by rw [app_list]; exact e2), fun y hy => h.2 y (List.mem_cons_of_mem _ hy)⟩
      obtain ⟨rs', e3, h3⟩ := Is.rest (fun y hy => hf y (List.mem_cons_of_mem _ hy)) h2
      exact ⟨rs', by rw [← e1, e3]; rfl, h3⟩
structure First (b r : ByteArray) : Prop where
  size : 8 + r.size ≤ b.size
  len : getL (b.data.toList.take 4) = r.size
  rec_ : b.extract 8 (8 + r.size) = r
  all : b.extract 0 (8 + r.size) = frame r
theorem first_of {r : ByteArray} {b rest : ByteArray} (hr : r.size ≤ 65536) (h : b = frame r ++ rest) : First b r := by
  have hl : b.data.toList = putL r.size 4 ++ ((sum4 (put r.size 4 ++ r)).data.toList ++ (r.data.toList ++ rest.data.toList)) := by
    rw [h, app_list]
    unfold frame
    rw [app_list, app_list, put_list, List.append_assoc, List.append_assoc]
  have h4 : (sum4 (put r.size 4 ++ r)).data.toList.length = 4 := by rw [← Sc.size_eq]; exact sum4_size _
  have hrl : r.data.toList.length = r.size := (Sc.size_eq r).symm
  refine ⟨by rw [h, ByteArray.size_append, frame_size]; omega, ?_, ?_, ?_⟩
  · rw [hl, List.take_left' (putL_length 4 _), getL_putL 4 _ (by omega)]
  · apply ext_list
    rw [ext_ext, hl, ← List.append_assoc, List.take_append, List.drop_append]
    have hp : (putL r.size 4 ++ (sum4 (put r.size 4 ++ r)).data.toList).length = 8 := by rw [List.length_append, putL_length, h4]
    rw [List.take_of_length_le (by omega), hp, List.drop_eq_nil_of_le (by omega), List.nil_append, show 8 + r.size - 8 = r.size by omega, Nat.sub_self, List.drop_zero, List.take_left' hrl]
  · apply ext_list
    rw [ext_ext, List.drop_zero, h, app_list, List.take_left' (by rw [← Sc.size_eq, frame_size])]
theorem Is.first {b r : ByteArray} {t : List ByteArray} (h : Is b (r :: t)) : First b r ∧ r.size ≤ 65536 := by
  have hr := h.2 r List.mem_cons_self
  exact ⟨first_of hr h.1, hr⟩
theorem Is.empty {rs : List ByteArray} (h : Is (ob []) rs) : rs = [] := by
  cases rs with
  | nil => rfl
  | cons r t =>
    have := h.first.1.size
    rw [ob_size] at this
    simp at this
/- a number read from its end -/
def getI (l : List UInt8) : Int := if getL l ≤ 4611686018427387904 then (getL l : Int) else -1
theorem getL_split : ∀ (l : List UInt8) (j : Nat), j ≤ l.length → getL l = getL (l.take j) + 256 ^ j * getL (l.drop j)
  | l, 0, _ => by simp [getL]
  | [], j + 1, h => by simp at h
  | b :: l, j + 1, h => by
    rw [List.take_succ_cons, List.drop_succ_cons, getL, getL, getL_split l j (by simpa using h), Nat.pow_succ, Nat.mul_add]
    rw [show 256 ^ j * 256 * getL (l.drop j) = 256 * (256 ^ j * getL (l.drop j)) by rw [Nat.mul_comm (256 ^ j) 256, Nat.mul_assoc]]
    omega
end Wl
/- Proved: what wal's putNumber and number do: a number as bytes, the lowest first, and back. -/
namespace Go.Proofs.YtcfninpokngmlaaGreatDoor
open Go.RowKit
theorem setCells_snoc (g : Nat) (v : Value) : ∀ (l : List Value) (o : Nat) (w : World), (w.setCells g o l).setCell ⟨g, o + l.length, none⟩ v = w.setCells g o (l ++ [v])
  | [], o, w => rfl
  | x :: l, o, w => by
    have := setCells_snoc g v l (o + 1) (w.setCell ⟨g, o, none⟩ x)
    rw [List.length_cons, show o + (l.length + 1) = o + 1 + l.length by omega]
    exact this
/- the cells of a number's bytes -/
def nc (n k : Nat) : List Value := (Wl.putL n k).map fun b => Value.int .u8 (b.toNat : Int)
theorem nc_length (n k : Nat) : (nc n k).length = k := by rw [nc, List.length_map, Wl.putL_length]
theorem nc_succ (n j : Nat) : nc n (j + 1) = nc n j ++ [.int .u8 ((n / 256 ^ j % 256 : Nat) : Int)] := by
  unfold nc
  rw [Wl.putL_snoc, List.map_append]
  simp [UInt8.toNat_ofNat']
theorem nc_bc (n k : Nat) : nc n k = bc (Wl.put n k) := by unfold nc bc; rw [Wl.put_list]
theorem pow256 (j : Nat) : (256 : Nat) ^ j = 2 ^ (8 * j) := by rw [Nat.pow_mul]
theorem shr_num (n j : Nat) : (n : Int) / 2 ^ (8 * j) % 256 = ((n / 256 ^ j % 256 : Nat) : Int) := by
  rw [pow256]
  rw [show ((2 : Int) ^ (8 * j)) = ((2 ^ (8 * j) : Nat) : Int) by push_cast; rfl]
  omega
set_option maxHeartbeats 1000000 in
theorem putn_any (g off k cap n t : Nat) (cur : List Value) (w : World) (hg : w.heap[g]? = some (.cells cur.toArray t (0, 0))) (hl : off + k ≤ cur.length) (hk : k ≤ 8) :
    Calls Tryz.prog 140 #[.slice (some ⟨g, off, none⟩) k cap, .int .u64 (n : Int)] w fun e w' => e = .returned (.tuple #[]) ∧ w' = w.setCells g off (nc n k) := by
  have HG : Hid (w.heap[g]? = some (.cells cur.toArray t (0, 0))) := hg
  clear hg
  go_enter Tryz.func140, Tryz.ntmps140
  go_wp2_with fail
  go_loopw [4, 7] (fun _ s7 wr => ∃ j : Nat, j ≤ k ∧ s7 = .int .i64 (j : Int) ∧ wr = w.setCells g off (nc n j)) (fun _ s7 _ => k - (intOf s7).toNat)
  case atStart => exact ⟨0, by omega, rfl, rfl⟩
  case round =>
    obtain ⟨j, hj, rfl, hwr⟩ := hrel
    by_cases hjk : j < k
    · have HR : Hid ((w.setCells g off (nc n j)).heap[g]? = some (.cells (splice cur off (nc n j)).toArray t (0, 0))) := setCells_splice g t _ off cur w HG.out (by rw [nc_length]; omega)
      have hsl : (splice cur off (nc n j)).length = cur.length := by unfold splice; rw [List.length_append, List.length_append, List.length_take, List.length_drop, nc_length]; omega
      rw [← hwr] at HR
      have HFN : Hid (∃ j' : Nat, j' ≤ k ∧ Value.int .i64 ((j : Int) + 1) = .int .i64 (j' : Int) ∧ wr.setCell ⟨g, off + j, none⟩ (.int .u8 ((n : Int) / 2 ^ (8 * j) % 256)) = w.setCells g off (nc n j')) := ⟨j + 1, by omega, by go_num, by
        rw [hwr, nc_succ, shr_num]
        have := setCells_snoc g (.int .u8 ((n / 256 ^ j % 256 : Nat) : Int)) (nc n j) off w
        rw [nc_length] at this
        exact this⟩
      obtain ⟨u, hu⟩ : ∃ u, wr.cell? ⟨g, off + j, none⟩ = some u := ⟨_, by rw [cell_of_row wr g _ _ _ (0, 0) HR.out, Array.getElem?_eq_getElem (by rw [List.size_toArray]; omega)]⟩
      have hf : wr.frozen? ⟨g, off + j, none⟩ = false := frozen_of_row wr g _ _ _ HR.out
      have dj : decide ((j : Int) < (k : Int)) = true := decide_eq_true (by omega)
      have j0 : (0 : Int) ≤ (j : Int) := by omega
      have j1 : (j : Int) < (k : Int) := by omega
      have hw8 : IntKind.i64.wrap (8 * (j : Int)) = 8 * (j : Int) := by rw [IntKind.wrap_i64]; omega
      clear hwr HR hsl
      go_wp2
      go_roundw
      case rel => first | exact HFN.out | ((repeat apply Exists.intro); exact ⟨HFN.out, rfl⟩)
      case measure => (simp [intOf]) <;> omega
    · obtain rfl : j = k := by omega
      have dj : decide ((j : Int) < (j : Int)) = false := decide_eq_false (by omega)
      go_wp2
      go_end0
      exact ⟨rfl, by first | rfl | exact hwr⟩
theorem or_num (a x j : Nat) (ha : a < 256 ^ j) (hx : x < 256) (hj : j < 8) : bits .or .u64 (a : Int) (IntKind.u64.wrap ((x : Int) * 2 ^ (8 * j))) = ((a + 256 ^ j * x : Nat) : Int) := by
  rw [pow256] at ha ⊢
  have hp : 2 ^ (8 * j) * 256 ≤ 18446744073709551616 := by
    have h1 : 2 ^ (8 * j) * 256 = 2 ^ (8 * j + 8) := by rw [Nat.pow_add]
    have h2 : 2 ^ (8 * j + 8) ≤ 2 ^ 64 := Nat.pow_le_pow_right (by omega) (by omega)
    rw [h1]
    exact h2
  have hx2 : 2 ^ (8 * j) * x < 18446744073709551616 := by
    have h1 : 2 ^ (8 * j) * (x + 1) ≤ 2 ^ (8 * j) * 256 := Nat.mul_le_mul_left _ (by omega)
    have h2 := Nat.two_pow_pos (8 * j)
    rw [Nat.mul_add] at h1
    omega
  have e1 : (x : Int) * 2 ^ (8 * j) = ((2 ^ (8 * j) * x : Nat) : Int) := by push_cast; rw [Int.mul_comm]
  have e2 : IntKind.u64.wrap ((2 ^ (8 * j) * x : Nat) : Int) = ((2 ^ (8 * j) * x : Nat) : Int) := by rw [IntKind.wrap_u64]; omega
  have h3 : 2 ^ (8 * j) ≤ 18446744073709551616 := by omega
  rw [e1, e2, u64_or_nat _ _ (by omega) hx2, Nat.or_comm, ← Nat.two_pow_add_eq_or_of_lt ha, Nat.add_comm]
set_option maxHeartbeats 1000000 in
theorem number_any (a : Option Addr) (k cap : Nat) (l : List UInt8) (w : World) (hB : Bytes w a k (l.map UInt8.toNat)) (hk : k ≤ 8) :
    Calls Tryz.prog 125 #[.slice a k cap] w fun e w' => e = .returned (.int .u64 (Wl.getL l : Nat)) ∧ w' = w := by
  obtain ⟨hl, hlt, hmax, hc⟩ := hB
  rw [List.length_map] at hl
  go_enter Tryz.func125, Tryz.ntmps125
  go_wp2_with fail
  go_loopw [3, 4, 5, 8] (fun s3 _ _ s8 wr => ∃ j : Nat, j ≤ k ∧ s8 = .int .i64 (j : Int) ∧ s3 = .int .u64 ((Wl.getL (l.take j) : Nat) : Int) ∧ wr = w) (fun _ _ _ s8 _ => k - (intOf s8).toNat)
  case atStart => exact ⟨0, by omega, rfl, rfl, rfl⟩
  case round =>
    obtain ⟨j, hj, rfl, rfl, hwr⟩ := hrel
    subst hwr
    by_cases hjk : j < k
    · rcases hc with h0 | ⟨b, off, rfl, hc⟩
      · omega
      have hcell := hc j hjk
      have dj : decide ((j : Int) < (k : Int)) = true := decide_eq_true (by omega)
      have j0 : (0 : Int) ≤ (j : Int) := by omega
      have j1 : (j : Int) < (k : Int) := by omega
      have hx := getD_lt hlt j (by rw [List.length_map]; omega)
      have hg := Wl.getL_lt (l.take j)
      rw [List.length_take, Nat.min_eq_left (by omega)] at hg
      have hsn : Wl.getL (l.take (j + 1)) = Wl.getL (l.take j) + 256 ^ j * (l.map UInt8.toNat).getD j 0 := by
        have hjl : j < l.length := by omega
        have e := Wl.getL_split (l.take (j + 1)) j (by rw [List.length_take]; omega)
        rw [List.take_take, Nat.min_eq_left (by omega), List.take_succ_eq_append_getElem hjl, List.drop_left' (by rw [List.length_take]; omega)] at e
        rw [List.take_succ_eq_append_getElem hjl, e, List.getD_eq_getElem?_getD, List.getElem?_map, List.getElem?_eq_getElem hjl]
        simp [Wl.getL]
      have hor := or_num (Wl.getL (l.take j)) ((l.map UInt8.toNat).getD j 0) j hg hx (by omega)
      rw [← hsn] at hor
      have HFN : Hid (∃ j' : Nat, j' ≤ k ∧ Value.int .i64 ((j : Int) + 1) = .int .i64 (j' : Int) ∧ Value.int .u64 ((Wl.getL (l.take (j + 1)) : Nat) : Int) = .int .u64 ((Wl.getL (l.take j') : Nat) : Int)) := ⟨j + 1, by omega, by go_num, rfl⟩
      clear hc hlt hl hsn
      generalize Wl.getL (l.take (j + 1)) = z at *
      generalize Wl.getL (l.take j) = y at *
      generalize (l.map UInt8.toNat).getD j 0 = x at *
      go_wp2
      go_roundw
      case rel =>
        obtain ⟨j', h1, h2, h3⟩ := HFN.out
        exact ⟨j', h1, h2, h3, trivial⟩
      case measure => (simp [intOf]) <;> omega
    · obtain rfl : j = k := by omega
      have dj : decide ((j : Int) < (j : Int)) = false := decide_eq_false (by omega)
      have HE : Hid (Wl.getL (l.take j) = Wl.getL l) := by rw [List.take_of_length_le (by omega)]; trivial
      generalize Wl.getL (l.take j) = z at *
      go_wp2
      go_ret
      exact ⟨by rw [HE.out]; rfl, rfl⟩
end Go.Proofs.YtcfninpokngmlaaGreatDoor
/- Proved: how a statement whose order is drawn is walked by hand: an operation is taken first, or one or two are carried out. -/
namespace Go.Proofs.YtcfninpokngmlaaGreatDoor
section
variable {P : Program} {ops : Array Oper} {Q : Exit → Act → World → Prop} {md : Region.Mode} {S : World → Prop}
theorem heldTake (i : Nat) (d : Option Tmp) {oi : Oper} (v : Value) {fuel : Nat} {listed : Array Bool} {a : Act} {w : World} (hi : ops[i]? = some oi) (hd : oi.dst = d)
    (hs : Region.noSelect ops = true) (hf : Region.free md ops listed i = true) (hr : (Region.ready md ops listed).contains i = true)
    (hQ : ∀ c a w, Q (.panic c) (a.put d v) w → Q (.panic c) a w) (hy : YieldsIf P ops S oi v a) (hS : S w)
    (h : wpAnyH P md ops Q S fuel (listed.setIfInBounds i true) (a.put d v) w) : wpAnyH P md ops Q S (fuel + 1) listed a w := by
  subst hd
  exact wpAnyH_take hi hs hf hr hQ hy hS h
theorem heldOne (i : Nat) {o : Oper} {fuel : Nat} {listed : Array Bool} {a : Act} {w : World} (hr : Region.ready md ops listed = [i]) (ho : ops[i]? = some o) (hw : Region.wanted o (yielded ops a.tmps) = true)
    (h : ∀ K : Act → World → Prop, Shut (∀ a' w', S w' → wpAnyH P md ops Q S fuel (listed.setIfInBounds i true) a' w' → K a' w') → Oper.wp P o a w K Q) : wpAnyH P md ops Q S (fuel + 1) listed a w := by
  refine wpAnyH_ready hr (by simp) (AllReadyH.cons ho (fun K hK => ?_) AllReadyH.nil)
  rw [if_pos hw]
  exact h K (fun a' w' h1 h2 => hK.out a' w' h1 (fun _ => h2))
theorem heldTwo (i j : Nat) {o o' : Oper} {fuel : Nat} {listed : Array Bool} {a : Act} {w : World} (hr : Region.ready md ops listed = [i, j]) (ho : ops[i]? = some o) (ho' : ops[j]? = some o') (hw : Region.wanted o (yielded ops a.tmps) = true) (hw' : Region.wanted o' (yielded ops a.tmps) = true)
    (h : ∀ K : Act → World → Prop, Shut (∀ a' w', S w' → wpAnyH P md ops Q S fuel (listed.setIfInBounds i true) a' w' → K a' w') → Oper.wp P o a w K Q)
    (h' : ∀ K : Act → World → Prop, Shut (∀ a' w', S w' → wpAnyH P md ops Q S fuel (listed.setIfInBounds j true) a' w' → K a' w') → Oper.wp P o' a w K Q) : wpAnyH P md ops Q S (fuel + 1) listed a w := by
  refine wpAnyH_ready hr (by simp) (AllReadyH.cons ho (fun K hK => ?_) (AllReadyH.cons ho' (fun K hK => ?_) AllReadyH.nil))
  · rw [if_pos hw]
    exact h K (fun a' w' h1 h2 => hK.out a' w' h1 (fun _ => h2))
  · rw [if_pos hw']
    exact h' K (fun a' w' h1 h2 => hK.out a' w' h1 (fun _ => h2))
end
end Go.Proofs.YtcfninpokngmlaaGreatDoor
/- Proved: plain facts of a log on a disk (stage 8): what a sync and a reset write, and what is found behind a loss of power at any write. No program is named. -/
namespace Wl
/- the k-th 64 bytes -/
def sec (l : List UInt8) (k : Nat) : List UInt8 := (l.drop (64 * k)).take 64
theorem sec_at (l : List UInt8) (k j : Nat) (hj : j < 64) : (sec l k)[j]? = l[64 * k + j]? := by
  unfold sec
  rw [List.getElem?_take_of_lt hj, List.getElem?_drop]
theorem sec_length (l : List UInt8) (k : Nat) : (sec l k).length ≤ 64 := by unfold sec; rw [List.length_take]; omega
def chunk (l : List UInt8) (k : Nat) : ByteArray := Sc.fill (ob (sec l k))
theorem chunk_at (l : List UInt8) (k j : Nat) (hj : j < 64) (h : 64 * k + j < l.length) : (chunk l k).data.toList[j]? = l[64 * k + j]? := by
  unfold chunk
  rw [Sc.fill_list, ob_list]
  have hl : j < (sec l k).length := by
    unfold sec
    rw [List.length_take, List.length_drop]
    omega
  rw [List.getElem?_append_left hl, sec_at l k j hj]
/- the sectors behind the first one hold these bytes -/
def Holds (kept : List ByteArray) (base : Nat) (b : List UInt8) : Prop := ∀ i j, j < 64 → 64 * i + j < b.length → (kept.getD (base + 1 + i) Sc.zero64).data.toList[j]? = b[64 * i + j]?
theorem Holds.left {kept : List ByteArray} {base : Nat} {a c : List UInt8} (h : Holds kept base (a ++ c)) : Holds kept base a := fun i j hj hl => by
  rw [h i j hj (by rw [List.length_append]; omega), List.getElem?_append_left hl]
theorem Holds.nil (kept : List ByteArray) (base : Nat) : Holds kept base [] := fun i j _ hl => by simp at hl
/- the write of a part of these bytes -/
def Part (base : Nat) (all : List UInt8) (p : Nat × ByteArray) : Prop := ∃ k, p = (base + 1 + k, chunk all k)
theorem keepI_one (b : Nat → Bool) (x : Nat) : ∀ (l : List (Nat × ByteArray)) (n : Nat) (ks : List ByteArray), (Sc.keepI b l n ks).getD x Sc.zero64 = ks.getD x Sc.zero64 ∨ ∃ p ∈ l, p.1 = x ∧ (Sc.keepI b l n ks).getD x Sc.zero64 = p.2
  | [], _, _ => .inl rfl
  | p :: l, n, ks => by
    unfold Sc.keepI
    rcases keepI_one b x l (n + 1) (if b n then ks.set p.1 p.2 else ks) with h | ⟨q, hq, h1, h2⟩
    · by_cases hb : b n = true
      · rw [hb] at h ⊢
        simp only [if_true] at h ⊢
        by_cases hx : p.1 = x
        · by_cases hl : x < ks.length
          · refine .inr ⟨p, List.mem_cons_self, hx, ?_⟩
            rw [h, List.getD_eq_getElem?_getD, hx, List.getElem?_set_self hl]
            rfl
          · refine .inl ?_
            rw [h, hx, List.set_eq_of_length_le (by omega)]
        · refine .inl ?_
          rw [h, List.getD_eq_getElem?_getD, List.getElem?_set_ne hx, ← List.getD_eq_getElem?_getD]
      · have hb' : b n = false := by simpa using hb
        rw [hb'] at h ⊢
        exact .inl h
    · exact .inr ⟨q, List.mem_cons_of_mem _ hq, h1, h2⟩
/- whatever is kept of parts of these bytes, what they begin with is there -/
theorem Holds.kept {kept : List ByteArray} {base : Nat} {old new : List UInt8} (h : Holds kept base old) {l : List (Nat × ByteArray)} (hl : ∀ p ∈ l, Part base (old ++ new) p) (b : Nat → Bool) (n : Nat) : Holds (Sc.keepI b l n kept) base old := fun i j hj hi => by
  rcases keepI_one b (base + 1 + i) l n kept with e | ⟨p, hp, h1, e⟩
  · rw [e]; exact h i j hj hi
  · obtain ⟨k, rfl⟩ := hl p hp
    obtain rfl : k = i := by simp only at h1; omega
    rw [e]
    simp only
    rw [chunk_at _ _ _ hj (by rw [List.length_append]; omega), List.getElem?_append_left hi]
/- the writes of a sync, from the sector on in which the old bytes end -/
def parts (base : Nat) (all : List UInt8) (k m : Nat) : List (Nat × ByteArray) := (List.range m).map fun i => (base + 1 + (k + i), chunk all (k + i))
theorem parts_part (base : Nat) (all : List UInt8) (k m : Nat) : ∀ p ∈ parts base all k m, Part base all p := fun p hp => by
  obtain ⟨i, _, rfl⟩ := List.mem_map.1 hp
  exact ⟨k + i, rfl⟩
theorem parts_succ (base : Nat) (all : List UInt8) (k m : Nat) : parts base all k (m + 1) = parts base all k m ++ [(base + 1 + (k + m), chunk all (k + m))] := by
  unfold parts
  rw [List.range_succ, List.map_append]
  rfl
theorem last_mem (x : Nat) : ∀ (l : List (Nat × ByteArray)) (y : ByteArray), (∃ p ∈ l, p.1 = x) → ∃ p ∈ l, p.1 = x ∧ Sc.last x l y = p.2
  | [], _, h => by
    obtain ⟨p, hp, _⟩ := h
    cases hp
  | q :: l, y, h => by
    unfold Sc.last
    by_cases hm : ∃ p ∈ l, p.1 = x
    · obtain ⟨p, hp, h1, h2⟩ := last_mem x l (if q.1 = x then q.2 else y) hm
      exact ⟨p, List.mem_cons_of_mem _ hp, h1, h2⟩
    · have hn : ∀ p ∈ l, p.1 ≠ x := fun p hp e => hm ⟨p, hp, e⟩
      obtain ⟨p, hp, h1⟩ := h
      rcases List.mem_cons.1 hp with rfl | hp
      · refine ⟨p, List.mem_cons_self, h1, ?_⟩
        rw [if_pos h1, Sc.last_none x l _ hn]
      · exact absurd h1 (hn p hp)
/- all of them kept: all bytes are there -/
theorem Holds.flushed {kept : List ByteArray} {base : Nat} {old new : List UInt8} {m : Nat} (h : Holds kept base old) (hm : (old ++ new).length ≤ 64 * (old.length / 64 + m)) (hk : base + 1 + (old.length / 64 + m) ≤ kept.length) (n : Nat) : Holds (Sc.keepI (fun _ => true) (parts base (old ++ new) (old.length / 64) m) n kept) base (old ++ new) := fun i j hj hi => by
  by_cases hlo : i < old.length / 64
  · have hne : ∀ p ∈ parts base (old ++ new) (old.length / 64) m, p.1 ≠ base + 1 + i := fun p hp e => by
      obtain ⟨t, _, rfl⟩ := List.mem_map.1 hp
      simp only at e
      omega
    have hol : 64 * i + j < old.length := by
      have := Nat.div_mul_le_self old.length 64
      have : 64 * (i + 1) ≤ 64 * (old.length / 64) := Nat.mul_le_mul_left 64 hlo
      omega
    rw [List.getD_eq_getElem?_getD, Sc.keepI_apart _ _ _ _ _ hne, ← List.getD_eq_getElem?_getD, h i j hj hol, List.getElem?_append_left hol]
  · have him : i < old.length / 64 + m := by omega
    have hex : ∃ p ∈ parts base (old ++ new) (old.length / 64) m, p.1 = base + 1 + i := ⟨(base + 1 + (old.length / 64 + (i - old.length / 64)), chunk (old ++ new) (old.length / 64 + (i - old.length / 64))), List.mem_map.2 ⟨i - old.length / 64, List.mem_range.2 (by omega), rfl⟩, by simp only; omega⟩
    obtain ⟨p, hp, h1, h2⟩ := last_mem (base + 1 + i) _ (kept.getD (base + 1 + i) Sc.zero64) hex
    obtain ⟨t, rfl⟩ := parts_part base (old ++ new) (old.length / 64) m p hp
    obtain rfl : t = i := by simp only at h1; omega
    rw [List.getD_eq_getElem?_getD, Sc.keepI_last (base + 1 + t) _ _ _ (by omega), h2]
    exact chunk_at _ _ _ hj hi
/- the log on a disk: its head, and its bytes -/
def HeadIs (kept : List ByteArray) (base e l : Nat) : Prop := kept.getD base Sc.zero64 = head e l ∨ (kept.getD base Sc.zero64 = Sc.zero64 ∧ e = 0 ∧ l = 0)
structure On (kept : List ByteArray) (base n e : Nat) (b : ByteArray) : Prop where
  head : HeadIs kept base e b.size
  holds : Holds kept base b.data.toList
  room : b.size ≤ 64 * (n - 1)
  fits : base + n ≤ kept.length
  two : 2 ≤ n
  most : e ≤ 4611686018427387904
/- a disk of noughts holds the empty log -/
theorem On.zero {kept : List ByteArray} {base n : Nat} (h : kept.getD base Sc.zero64 = Sc.zero64) (hn : 2 ≤ n) (hf : base + n ≤ kept.length) : On kept base n 0 (ob []) :=
  ⟨.inr ⟨h, rfl, rfl⟩, by rw [ob_list]; exact Holds.nil _ _, by rw [ob_size]; simp, hf, hn, by omega⟩
/- power is lost among the writes of the data -/
theorem On.data {kept : List ByteArray} {base n e : Nat} {b new : ByteArray} (h : On kept base n e b) {l : List (Nat × ByteArray)} (hl : ∀ p ∈ l, Part base (b ++ new).data.toList p) (f : Nat → Bool) (i : Nat) : On (Sc.keepI f l i kept) base n e b := by
  refine ⟨?_, ?_, h.room, by rw [Sc.keepI_length]; exact h.fits, h.two, h.most⟩
  · have e : (Sc.keepI f l i kept).getD base Sc.zero64 = kept.getD base Sc.zero64 := by
      rw [List.getD_eq_getElem?_getD, Sc.keepI_apart f base l i kept (fun p hp hb => by obtain ⟨k, rfl⟩ := hl p hp; simp only at hb; omega), ← List.getD_eq_getElem?_getD]
    unfold HeadIs
    rw [e]
    exact h.head
  · refine Holds.kept (new := new.data.toList) h.holds (fun p hp => ?_) f i
    have := hl p hp
    rwa [app_list] at this
/- a head is written: it is kept, or not -/
theorem On.headed {kept : List ByteArray} {base n e : Nat} {b : ByteArray} (h : On kept base n e b) {e' : Nat} {b' : ByteArray} (hb : Holds kept base b'.data.toList) (hr : b'.size ≤ 64 * (n - 1)) (he : e' ≤ 4611686018427387904) : On (kept.set base (Wl.head e' b'.size)) base n e' b' := by
  have hlen : base < kept.length := by have := h.fits; have := h.two; omega
  refine ⟨.inl ?_, fun i j hj hi => ?_, hr, by rw [List.length_set]; exact h.fits, h.two, he⟩
  · rw [List.getD_eq_getElem?_getD, List.getElem?_set_self hlen]
    rfl
  · rw [List.getD_eq_getElem?_getD, List.getElem?_set_ne (by omega), ← List.getD_eq_getElem?_getD]
    exact hb i j hj hi
theorem On.either {kept : List ByteArray} {base n e : Nat} {b : ByteArray} (h : On kept base n e b) {e' : Nat} {b' : ByteArray} (hb : Holds kept base b'.data.toList) (hr : b'.size ≤ 64 * (n - 1)) (he : e' ≤ 4611686018427387904) (f : Nat → Bool) : On (Sc.keepI f [(base, Wl.head e' b'.size)] 0 kept) base n e b ∨ On (Sc.keepI f [(base, Wl.head e' b'.size)] 0 kept) base n e' b' := by
  unfold Sc.keepI Sc.keepI
  by_cases hf : f 0 = true
  · rw [hf]
    exact .inr (h.headed hb hr he)
  · have hf' : f 0 = false := by simpa using hf
    rw [hf']
    exact .inl h
end Wl
