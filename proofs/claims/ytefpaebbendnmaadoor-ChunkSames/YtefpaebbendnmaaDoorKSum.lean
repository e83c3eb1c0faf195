/- Proved: Sum answers the document's digest of the bytes so far and leaves the hash as it was; a hash that New did not make has noughts. Condition: the two tables. -/
import Derived.Test.YtefpaebbendnmaaDoorKHash
import Derived.Lib.SliceRun
namespace Go.Proofs.YtefpaebbendnmaaDoor.BK
open Go.RowKit
def HeldS (N g : Nat) (w2 : World) (a0 a1 a2 a3 a4 a5 a6 a7 len : Nat) (l : List Value) (w' : World) : Prop :=
  w'.cell? ⟨g, 1, none⟩ = some (.int .u32 (a0 : Nat)) ∧ w'.cell? ⟨g, 2, none⟩ = some (.int .u32 (a1 : Nat)) ∧ w'.cell? ⟨g, 3, none⟩ = some (.int .u32 (a2 : Nat)) ∧ w'.cell? ⟨g, 4, none⟩ = some (.int .u32 (a3 : Nat)) ∧ w'.cell? ⟨g, 5, none⟩ = some (.int .u32 (a4 : Nat)) ∧ w'.cell? ⟨g, 6, none⟩ = some (.int .u32 (a5 : Nat)) ∧ w'.cell? ⟨g, 7, none⟩ = some (.int .u32 (a6 : Nat)) ∧ w'.cell? ⟨g, 8, none⟩ = some (.int .u32 (a7 : Nat)) ∧ w'.cell? ⟨g, 74, none⟩ = some (.int .i64 (len : Nat)) ∧ w'.rangeAt (N + 1) 0 l ∧ w'.there N 0 32 ∧ (∃ cs : Array Value, w'.heap[N]? = some (.cells cs 23 (0, 0)) ∧ cs.size = 32) ∧ Below N w2 w'
theorem HeldS.call {N g : Nat} {w2 w' w'' : World} {a0 a1 a2 a3 a4 a5 a6 a7 len : Nat} {l : List Value} (h : HeldS N g w2 a0 a1 a2 a3 a4 a5 a6 a7 len l w') (hg : g < N) (hz : N + 2 ≤ w2.heap.size) (hb : Below w'.heap.size w' w'') : HeldS N g w2 a0 a1 a2 a3 a4 a5 a6 a7 len l w'' := by
  obtain ⟨h0, h1, h2, h3, h4, h5, h6, h7, hl, hr, ht, hm, hB⟩ := h
  have hs := hB.size
  have e : ∀ p : Addr, p.block < N + 2 → w''.cell? p = w'.cell? p := fun p hp => hb.cell (by omega)
  have ef : ∀ p : Addr, p.block < N + 2 → w''.frozen? p = w'.frozen? p := fun p hp => hb.frozen (by omega)
  refine ⟨(e ⟨g, 1, none⟩ (show g < N + 2 by omega)).trans h0, (e ⟨g, 2, none⟩ (show g < N + 2 by omega)).trans h1, (e ⟨g, 3, none⟩ (show g < N + 2 by omega)).trans h2, (e ⟨g, 4, none⟩ (show g < N + 2 by omega)).trans h3, (e ⟨g, 5, none⟩ (show g < N + 2 by omega)).trans h4, (e ⟨g, 6, none⟩ (show g < N + 2 by omega)).trans h5, (e ⟨g, 7, none⟩ (show g < N + 2 by omega)).trans h6, (e ⟨g, 8, none⟩ (show g < N + 2 by omega)).trans h7, (e ⟨g, 74, none⟩ (show g < N + 2 by omega)).trans hl, range_below hr hb (by omega), ?_, ?_, hB.trans (hb.mono (by omega))⟩
  · intro j hj
    rw [e ⟨N, 0 + j, none⟩ (show N < N + 2 by omega), ef ⟨N, 0 + j, none⟩ (show N < N + 2 by omega)]; exact ht j hj
  · obtain ⟨cs, hc, hs'⟩ := hm
    exact ⟨cs, (hb.block N (by omega)).trans hc, hs'⟩
theorem HeldS.store {N g : Nat} {w2 w' : World} {a0 a1 a2 a3 a4 a5 a6 a7 len : Nat} {l : List Value} (h : HeldS N g w2 a0 a1 a2 a3 a4 a5 a6 a7 len l w') (hg : g < N) (x : List Value) (hx : x.length = 32) : HeldS N g w2 a0 a1 a2 a3 a4 a5 a6 a7 len l (w'.setCells N 0 x) := by
  obtain ⟨h0, h1, h2, h3, h4, h5, h6, h7, hl, hr, ht, hm, hB⟩ := h
  have ho := setCells_only N x 0 w'
  have e : ∀ p : Addr, p.block ≠ N → (w'.setCells N 0 x).cell? p = w'.cell? p := fun p hp => ho.cell hp
  refine ⟨(e ⟨g, 1, none⟩ (show g ≠ N by omega)).trans h0, (e ⟨g, 2, none⟩ (show g ≠ N by omega)).trans h1, (e ⟨g, 3, none⟩ (show g ≠ N by omega)).trans h2, (e ⟨g, 4, none⟩ (show g ≠ N by omega)).trans h3, (e ⟨g, 5, none⟩ (show g ≠ N by omega)).trans h4, (e ⟨g, 6, none⟩ (show g ≠ N by omega)).trans h5, (e ⟨g, 7, none⟩ (show g ≠ N by omega)).trans h6, (e ⟨g, 8, none⟩ (show g ≠ N by omega)).trans h7, (e ⟨g, 74, none⟩ (show g ≠ N by omega)).trans hl, fun j v hv => (e ⟨N + 1, 0 + j, none⟩ (show N + 1 ≠ N by omega)).trans (hr j v hv), World.there_setCells ht _ _ _, ?_, hB.trans (ho.below (Nat.le_refl _))⟩
  obtain ⟨cs, hc, hs'⟩ := hm
  exact ⟨_, setCells_splice N 23 x 0 cs.toList w' hc (by simp; omega), by rw [List.size_toArray, length_splice _ _ _ (by simp; omega)]; simpa using hs'⟩
theorem HeldS.drew {N g : Nat} {w2 w' : World} {a0 a1 a2 a3 a4 a5 a6 a7 len : Nat} {l : List Value} (h : HeldS N g w2 a0 a1 a2 a3 a4 a5 a6 a7 len l w') : HeldS N g w2 a0 a1 a2 a3 a4 a5 a6 a7 len l w'.drew := by
  obtain ⟨h0, h1, h2, h3, h4, h5, h6, h7, hl, hr, ht, hm, hB⟩ := h
  exact ⟨h0, h1, h2, h3, h4, h5, h6, h7, hl, hr, ht, hm, hB.drew⟩
theorem HeldS.bel {N g : Nat} {w2 w' : World} {a0 a1 a2 a3 a4 a5 a6 a7 len : Nat} {l : List Value} (h : HeldS N g w2 a0 a1 a2 a3 a4 a5 a6 a7 len l w') : Below N w2 w' := h.2.2.2.2.2.2.2.2.2.2.2.2
theorem HeldS.room {N g : Nat} {w2 w' : World} {a0 a1 a2 a3 a4 a5 a6 a7 len : Nat} {l : List Value} (h : HeldS N g w2 a0 a1 a2 a3 a4 a5 a6 a7 len l w') : ∃ cs : Array Value, w'.heap[N]? = some (.cells cs 23 (0, 0)) ∧ cs.size = 32 := h.2.2.2.2.2.2.2.2.2.2.2.1
theorem v8_one (l : List Nat) : ∀ v ∈ l.map V8, v.oneCell' = true := fun v hv => by
  obtain ⟨n, _, rfl⟩ := List.mem_map.1 hv
  rfl
theorem zero5 (W : World) : (zeroValue 5).run Tryd.prog W = .ok (.int .u8 0) W := by kernel_rfl
theorem clear_bytes {ops : Array Oper} {rest : List Oper} {o : Oper} {a : Act} {w : World} {Q : Exit → Act → World → Prop} (hgd : o.guard = none) (hd : o.dst = none) (s : Operand) (ho : o.op = .call { callee := .builtin .clear, args := #[s], argTypes := #[28] })
    (ad : Option Addr) (n c : Nat) (hs : a.eval s = .slice ad n c) (g off : Nat) (cur : List Value) (t : TypeId) (hg : w.heap[g]? = some (.cells cur.toArray t (0, 0))) (hpos : 0 < n → ad = some ⟨g, off, none⟩) (hfit : off + n ≤ cur.length)
    (h : ∀ w', w'.heap[g]? = some (.cells (splice cur off (List.replicate n (.int .u8 0))).toArray t (0, 0)) → Only g w w' → wpList Tryd.prog ops Q rest a w') : wpList Tryd.prog ops Q (o :: rest) a w := by
  refine wpList_plain hgd fun K hK => ?_
  by_cases h0 : n = 0
  · subst h0
    have hrun : (Builtin.clear_ #[28] o.type #[.slice ad 0 c]).run Tryd.prog w = .ok (.tuple #[]) w := by
      cases ad <;> simp [Builtin.clear_, run_underlying Tryd.underlying28]
    unfold Oper.wp execOp
    simp only [ho, resolve, invoke, builtin, Sem.run_bind, Sem.run_pure, Result.andThen_ok, List.map_toArray, List.map_cons, List.map_nil, hs, hrun]
    refine hK _ _ ?_
    rw [hd]
    exact h w (by simpa [splice] using hg) (Only.refl g w)
  · obtain rfl := hpos (by omega)
    have hrun := Lib.run_clear_slice (P := Tryd.prog) w 28 5 o.type (.int .u8 0) Tryd.underlying28 zero5 rfl rfl g off n c (by omega)
      (fun j hj => by rw [cell_of_row w g (off + j) _ t (0, 0) hg, List.getElem?_toArray, List.getElem?_eq_getElem (by omega)]; rfl) (fun j hj => frozen_of_row w g (off + j) _ t hg)
    unfold Oper.wp execOp
    simp only [ho, resolve, invoke, builtin, Sem.run_bind, Sem.run_pure, Result.andThen_ok, List.map_toArray, List.map_cons, List.map_nil, hs, hrun]
    refine hK _ _ ?_
    rw [hd]
    exact h _ (setCells_splice g t _ off cur w hg (by simpa using hfit)) (setCells_only g _ off w)
theorem splice_over {b : List Nat} {o n : Nat} : splice (b.map V8) o (List.replicate n (.int .u8 0)) = (Bl.over b o (Bl.zeros n)).map V8 := by
  unfold splice Bl.over Bl.zeros
  simp [V8]
theorem built24 : Tryd.prog.built 23 [] = some (arr8 (Bl.zeros 32)) := by kernel_rfl
theorem hi24 {v : List Nat} (h : v.length = 32) : (Tryd.prog.info? 23).map (·.size) = some (arr8 v).size := by rw [size24, arr8_size, h]
set_option maxHeartbeats 1000000 in
set_option maxRecDepth 20000 in
theorem sum_nil (w : World)  : Calls Tryd.prog 30 #[.pointer none] w fun e w' => e = .returned (.agg (arr8 (Bl.zeros 32))) ∧ Below w.heap.size w w' := by
  go_enter Tryd.func30, Tryd.ntmps30
  go_upto_region 1 with fail
  have e32 : arr8 (Bl.zeros 32) = #[.int .u8 0, .int .u8 0, .int .u8 0, .int .u8 0, .int .u8 0, .int .u8 0, .int .u8 0, .int .u8 0, .int .u8 0, .int .u8 0, .int .u8 0, .int .u8 0, .int .u8 0, .int .u8 0, .int .u8 0, .int .u8 0, .int .u8 0, .int .u8 0, .int .u8 0, .int .u8 0, .int .u8 0, .int .u8 0, .int .u8 0, .int .u8 0, .int .u8 0, .int .u8 0, .int .u8 0, .int .u8 0, .int .u8 0, .int .u8 0, .int .u8 0, .int .u8 0] := rfl
  rw [← e32]
  clear e32
  have B1 : Hid (Below w.heap.size w (w.alloc (.cells (arr8 (Bl.zeros 32)) 23))) := (Below.refl _ _).alloc (Nat.le_refl _) _
  have G1 : Hid ((w.alloc (.cells (arr8 (Bl.zeros 32)) 23)).heap[w.heap.size]? = some (.cells (arr8 (Bl.zeros 32)) 23 (0, 0))) := heap_alloc_new w _
  generalize World.alloc w (.cells (arr8 (Bl.zeros 32)) 23) = w1 at *
  have hi : Hid ((Tryd.prog.info? 23).map (·.size) = some (arr8 (Bl.zeros 32)).size) := hi24 (by simp [Bl.zeros])
  have H1 : Hid ((arr8 (Bl.zeros 32)).all (·.oneCell') = true) := arr8_one _
  go_wp2_with (first | (go_at_call 39; refine (made_nil w1).mono ?_; rintro e w' ⟨rfl, rfl⟩) | (refine build0 rfl 23 rfl _ built24 ?_) | (refine store_row rfl rfl 23 _ _ rfl w.heap.size (arr8 (Bl.zeros 32)) rfl rfl 23 _ G1.out hi.out rfl H1.out ?_))
  refine bodyPost_ret (v := .agg (arr8 (Bl.zeros 32))) ?_ rfl ⟨rfl, below_setRow B1.out (Nat.le_refl _) _⟩
  exact results_cell_row Tryd.results30 _ _ w.heap.size 23 _ (0, 0) _ rfl (setRow_heap _ _ (arr8 (Bl.zeros 32)) _ _ _ G1.out) Tryd.underlying23 rfl hi.out
set_option maxHeartbeats 1000000 in
set_option maxRecDepth 20000 in
theorem sum_no (w : World) (g : Nat) (hg : g < w.heap.size) (hm : w.cell? ⟨g, 0, none⟩ = some (.bool false)) : Calls Tryd.prog 30 #[.pointer (some ⟨g, 0, none⟩)] w fun e w' => e = .returned (.agg (arr8 (Bl.zeros 32))) ∧ Below w.heap.size w w' := by
  go_enter Tryd.func30, Tryd.ntmps30
  go_upto_region 1 with fail
  have e32 : arr8 (Bl.zeros 32) = #[.int .u8 0, .int .u8 0, .int .u8 0, .int .u8 0, .int .u8 0, .int .u8 0, .int .u8 0, .int .u8 0, .int .u8 0, .int .u8 0, .int .u8 0, .int .u8 0, .int .u8 0, .int .u8 0, .int .u8 0, .int .u8 0, .int .u8 0, .int .u8 0, .int .u8 0, .int .u8 0, .int .u8 0, .int .u8 0, .int .u8 0, .int .u8 0, .int .u8 0, .int .u8 0, .int .u8 0, .int .u8 0, .int .u8 0, .int .u8 0, .int .u8 0, .int .u8 0] := rfl
  rw [← e32]
  clear e32
  have B1 : Hid (Below w.heap.size w (w.alloc (.cells (arr8 (Bl.zeros 32)) 23))) := (Below.refl _ _).alloc (Nat.le_refl _) _
  have G1 : Hid ((w.alloc (.cells (arr8 (Bl.zeros 32)) 23)).heap[w.heap.size]? = some (.cells (arr8 (Bl.zeros 32)) 23 (0, 0))) := heap_alloc_new w _
  generalize World.alloc w (.cells (arr8 (Bl.zeros 32)) 23) = w1 at *
  have hm1 : w1.cell? ⟨g, 0, none⟩ = some (.bool false) := (B1.out.cell (p := ⟨g, 0, none⟩) hg).trans hm
  clear hm
  have hi : Hid ((Tryd.prog.info? 23).map (·.size) = some (arr8 (Bl.zeros 32)).size) := hi24 (by simp [Bl.zeros])
  have H1 : Hid ((arr8 (Bl.zeros 32)).all (·.oneCell') = true) := arr8_one _
  go_wp2_with (first | (go_at_call 39; refine (made_no g w1 hm1).mono ?_; rintro e w' ⟨rfl, rfl⟩) | (refine build0 rfl 23 rfl _ built24 ?_) | (refine store_row rfl rfl 23 _ _ rfl w.heap.size (arr8 (Bl.zeros 32)) rfl rfl 23 _ G1.out hi.out rfl H1.out ?_))
  refine bodyPost_ret (v := .agg (arr8 (Bl.zeros 32))) ?_ rfl ⟨rfl, below_setRow B1.out (Nat.le_refl _) _⟩
  exact results_cell_row Tryd.results30 _ _ w.heap.size 23 _ (0, 0) _ rfl (setRow_heap _ _ (arr8 (Bl.zeros 32)) _ _ _ G1.out) Tryd.underlying23 rfl hi.out
set_option maxHeartbeats 2000000 in
set_option maxRecDepth 20000 in
theorem sum_yes (g : Nat) (bs h b : List Nat) (held : Nat) (w : World) (H : Hash w g h b held bs.length) (s : Bl.St bs h b held) (hT : Tab w) (h0 : 3 < w.heap.size) :
    Calls Tryd.prog 30 #[.pointer (some ⟨g, 0, none⟩)] w fun e w' => e = .returned (.agg (arr8 (Bl.digest bs))) ∧ Below w.heap.size w w' := by
  have hm := H.made
  have HT : Hid (Tab w) := hT
  have HH : Hash w g h b held bs.length := H
  have HW := s.words
  have hgl := H.lt
  have hh64 := s.held
  have hln := s.len
  obtain ⟨last, hlast⟩ : ∃ last, last = b.take held ++ Bl.zeros (64 - held) := ⟨_, rfl⟩
  have HL8 : Bl.Bytes8 64 last := by rw [hlast]; exact s.last.2
  obtain ⟨t, ht⟩ : ∃ t, t = Bl.taken h last bs.length true := ⟨_, rfl⟩
  have HTW : Bl.Words 8 t := by rw [ht]; exact Bl.taken_words HW HL8 (by omega) true
  obtain ⟨D, hD⟩ : ∃ D, D = Bl.digest bs := ⟨_, rfl⟩
  have HTD : Is (Bl.bytes t) D := ⟨by rw [ht, hlast, hD]; exact s.digest⟩
  have HD8 : Bl.Bytes8 32 D := by rw [hD]; exact Bl.digest_bytes bs
  rw [← hD]
  clear hD
  obtain ⟨a0, a1, a2, a3, a4, a5, a6, a7, ha⟩ := eight HW.1
  have TKH : Hid (∀ W : World, Tab W → 3 < W.heap.size → Calls Tryd.prog 40 #[.agg #[.int .u32 ((a0 : Nat) : Int), .int .u32 ((a1 : Nat) : Int), .int .u32 ((a2 : Nat) : Int), .int .u32 ((a3 : Nat) : Int), .int .u32 ((a4 : Nat) : Int), .int .u32 ((a5 : Nat) : Int), .int .u32 ((a6 : Nat) : Int), .int .u32 ((a7 : Nat) : Int)], .agg (last.map V8).toArray, .int .i64 (bs.length : Int), .bool true] W fun e w' => e = .returned (.agg (arr t)) ∧ Below W.heap.size W w') := fun W hT hz => by
    have hc := taken_any h last bs.length true W HW HL8 (by omega) hT hz
    rw [← ht, ha] at hc
    exact hc
  have BYH : Hid (∀ W : World, Calls Tryd.prog 41 #[.agg (arr t)] W fun e w' => e = .returned (.agg (D.map V8).toArray) ∧ Below W.heap.size W w') := fun W => by
    have hc := bytesOf_any t W HTW
    rw [HTD.eq] at hc
    exact hc
  have HBK : Is (Bl.over b held (Bl.zeros (64 - held))) last := ⟨by rw [hlast]; unfold Bl.over; rw [(Bl.zeros_bytes _).1, show held + (64 - held) = 64 by omega, List.drop_eq_nil_of_le (by rw [s.bl.1]; exact Nat.le_refl _), List.append_nil]⟩
  have HA : Is h [a0, a1, a2, a3, a4, a5, a6, a7] := ⟨ha⟩
  have i48 : Hid ((Tryd.prog.info? 67).map (·.size) = some (b.map V8).length) := by show _ = _; rw [size48, List.length_map, s.bl.1]
  have HSB : Hid (b.length = 64) := s.bl.1
  generalize bs.length = len at *
  clear hlast ht ha hT H s HTD
  go_enter Tryd.func30, Tryd.ntmps30
  go_upto_region 1 with fail
  have e32 : arr8 (Bl.zeros 32) = #[.int .u8 0, .int .u8 0, .int .u8 0, .int .u8 0, .int .u8 0, .int .u8 0, .int .u8 0, .int .u8 0, .int .u8 0, .int .u8 0, .int .u8 0, .int .u8 0, .int .u8 0, .int .u8 0, .int .u8 0, .int .u8 0, .int .u8 0, .int .u8 0, .int .u8 0, .int .u8 0, .int .u8 0, .int .u8 0, .int .u8 0, .int .u8 0, .int .u8 0, .int .u8 0, .int .u8 0, .int .u8 0, .int .u8 0, .int .u8 0, .int .u8 0, .int .u8 0] := rfl
  rw [← e32]
  clear e32
  have B1 : Below w.heap.size w (w.alloc (.cells (arr8 (Bl.zeros 32)) 23)) := (Below.refl _ _).alloc (Nat.le_refl _) _
  have G1 : (w.alloc (.cells (arr8 (Bl.zeros 32)) 23)).heap[w.heap.size]? = some (.cells (arr8 (Bl.zeros 32)) 23 (0, 0)) := heap_alloc_new w _
  have Z1 : (w.alloc (.cells (arr8 (Bl.zeros 32)) 23)).heap.size = w.heap.size + 1 := by simp
  generalize World.alloc w (.cells (arr8 (Bl.zeros 32)) 23) = w1 at *
  have H1 := HH.below B1 hgl
  have hm1 := H1.made
  have HG1 : Hid (w1.heap[w.heap.size]? = some (.cells (arr8 (Bl.zeros 32)) 23 (0, 0))) := G1
  have HZ1 : Hid (w1.heap.size = w.heap.size + 1) := Z1
  have hR9 : Hid (w1.rangeAt g 9 (b.map V8)) := H1.block
  have s48 : Hid ((Tryd.prog.info? 67).map (·.size) = some (arr8 b).size) := by show _ = _; rw [size48, arr8_size, HSB.out]
  have o48 : Hid ((arr8 b).all (·.oneCell') = true) := arr8_one _
  have HB64 : Hid (64 = (arr8 b).size) := by show _ = _; rw [arr8_size, HSB.out]
  clear G1 Z1 hm
  go_upto_region 4 with (first | (go_at_call 39; refine (made_yes g w1 hm1).mono ?_; rintro e w1 ⟨rfl, rfl⟩) | (refine wpList_load_mid rfl 67 _ rfl g 9 rfl (b.map V8) _ hR9.out Tryd.underlying67 rfl i48.out ?_) | (refine store_row rfl rfl 67 _ _ rfl _ (arr8 b) rfl rfl 67 _ (heap_alloc_new _ _) s48.out (by exact HB64.out) o48.out ?_))
  generalize hw2 : World.setRow (World.alloc w1 _) w1.heap.size (arr8 b) = w2
  have R2 : Row8 w2 (w.heap.size + 1) 67 b := by rw [← hw2, ← HZ1.out]; exact setRow_heap _ _ _ _ _ _ (heap_alloc_new w1 _)
  have B2 : Below (w.heap.size + 1) w1 w2 := by rw [← hw2, ← HZ1.out]; exact below_setRow ((Below.refl _ _).alloc (Nat.le_refl _) _) (Nat.le_refl _) _
  have Z2 : w2.heap.size = w.heap.size + 2 := by rw [← hw2]; simp [HZ1.out]
  rw [HZ1.out]
  clear hw2
  have H2 := H1.below B2 (by omega)
  have ch := H2.heldAt
  have HR2 : Hid (Row8 w2 (w.heap.size + 1) 67 b) := R2
  have HB2 : Hid (Below (w.heap.size + 1) w1 w2) := B2
  have HZ2 : Hid (w2.heap.size = w.heap.size + 2) := Z2
  have HB1 : Hid (Below w.heap.size w w1) := B1
  clear R2 B2 Z2 B1 hR9 hm1
  go_cut [3] (fun s w3 => s = .pointer (some ⟨w.heap.size + 1, 0, none⟩) ∧ Row8 w3 (w.heap.size + 1) 67 last ∧ Below (w.heap.size + 1) w1 w3 ∧ w3.heap.size = w.heap.size + 2)
  case first =>
    have hl64 : (held : Int) ≤ 64 := by omega
    have hl0 : (0 : Int) ≤ (held : Int) := Int.natCast_nonneg _
    have key : Hid (∀ w3, w3.heap[w.heap.size + 1]? = some (.cells (splice (b.map V8) held (List.replicate (64 - held) (.int .u8 0))).toArray 67 (0, 0)) → Only (w.heap.size + 1) w2 w3 → Row8 w3 (w.heap.size + 1) 67 last ∧ Below (w.heap.size + 1) w1 w3 ∧ w3.heap.size = w.heap.size + 2) := fun w3 hg3 ho3 => by
      rw [splice_over, HBK.eq] at hg3
      exact ⟨hg3, HB2.out.trans (ho3.below (Nat.le_refl _)), by rw [ho3.size]; exact HZ2.out⟩
    by_cases h64 : held = 64
    · subst h64
      go_wp2_with (first | (refine clear_bytes rfl rfl _ rfl _ 0 0 rfl (w.heap.size + 1) 64 (b.map V8) 67 HR2.out (by omega) (by rw [List.length_map, HSB.out]; omega) ?_; intro w3 hg3 ho3))
      go_meet
      case rel => exact ⟨rfl, key.out _ hg3 ho3⟩
    · have hlt : (held : Int) < 64 := by omega
      go_wp2_with (first | (refine clear_bytes rfl rfl _ rfl _ (64 - held) (64 - held) rfl (w.heap.size + 1) held (b.map V8) 67 HR2.out (fun _ => rfl) (by rw [List.length_map, HSB.out]; omega) ?_; intro w3 hg3 ho3))
      go_meet
      case rel => exact ⟨rfl, key.out _ hg3 ho3⟩
  case rest =>
    obtain ⟨rfl, hR3, hB3, hZ3⟩ := hcut
    have H3 := H1.below hB3 (by omega)
    have hBw : Below w.heap.size w wc := HB1.out.trans (hB3.mono (by omega))
    have HT3 : Hid (Tab wc) := HT.out.below h0 hBw
    have HBW : Hid (Below w.heap.size w wc) := hBw
    have HZ3 : Hid (w.heap.size + 2 ≤ wc.heap.size) := by show _ ≤ _; omega
    have HR1 : Hid (HeldS w.heap.size g wc a0 a1 a2 a3 a4 a5 a6 a7 len (last.map V8) wc) := by
      have c : ∀ i, i < 8 → wc.cell? ⟨g, 1 + i, none⟩ = some (.int .u32 (h.getD i 0 : Nat)) := fun i hi => H3.word i hi
      rw [HA.eq] at c
      refine ⟨c 0 (by omega), c 1 (by omega), c 2 (by omega), c 3 (by omega), c 4 (by omega), c 5 (by omega), c 6 (by omega), c 7 (by omega), H3.lenAt, range_of_row8 hR3, ?_, ⟨_, (hB3.block _ (by omega)).trans HG1.out, by rw [arr8_size]; simp [Bl.zeros]⟩, Below.refl _ _⟩
      intro j hj
      have hgN : wc.heap[w.heap.size]? = some (.cells (arr8 (Bl.zeros 32)) 23 (0, 0)) := (hB3.block _ (by omega)).trans HG1.out
      rw [cell_of_row wc w.heap.size (0 + j) _ 23 (0, 0) hgN, Array.getElem?_eq_getElem (by rw [arr8_size]; simp [Bl.zeros]; exact hj)]
      exact ⟨rfl, frozen_of_row wc w.heap.size (0 + j) _ 23 hgN⟩
    have u48 := Tryd.underlying67
    have i48' : (Tryd.prog.info? 67).map (·.size) = some (last.map V8).length := by rw [size48, List.length_map, HL8.1]
    have i24 : (Tryd.prog.info? 23).map (·.size) = some (D.map V8).length := by rw [size24, List.length_map, HD8.1]
    have lD : (D.map V8).length = 32 := by rw [List.length_map, HD8.1]
    have oD : ∀ v ∈ D.map V8, v.oneCell' = true := v8_one D
    have HD : Hid (Bl.Bytes8 32 D) := HD8
    clear H1 H2 H3 HH hR3 hB3 hZ3 hBw HW HL8 HTW HD8 HBK HA ch HG1 HZ1 HR2 HB2 HZ2 HB1 HT i48 s48 o48 HB64 HSB
    go_wp2_with fail
    go_region_held3 (fun w' => w'.cell? ⟨g, 1, none⟩ = some (.int .u32 (a0 : Nat)) ∧ w'.cell? ⟨g, 2, none⟩ = some (.int .u32 (a1 : Nat)) ∧ w'.cell? ⟨g, 3, none⟩ = some (.int .u32 (a2 : Nat)) ∧ w'.cell? ⟨g, 4, none⟩ = some (.int .u32 (a3 : Nat)) ∧ w'.cell? ⟨g, 5, none⟩ = some (.int .u32 (a4 : Nat)) ∧ w'.cell? ⟨g, 6, none⟩ = some (.int .u32 (a5 : Nat)) ∧ w'.cell? ⟨g, 7, none⟩ = some (.int .u32 (a6 : Nat)) ∧ w'.cell? ⟨g, 8, none⟩ = some (.int .u32 (a7 : Nat)) ∧ w'.cell? ⟨g, 74, none⟩ = some (.int .i64 (len : Nat)) ∧ w'.rangeAt (w.heap.size + 1) 0 (last.map V8) ∧ w'.there w.heap.size 0 32 ∧ (∃ cs : Array Value, w'.heap[w.heap.size]? = some (.cells cs 23 (0, 0)) ∧ cs.size = 32) ∧ Below w.heap.size wc w')
      (first | exact HeldS.drew HR1.out | assumption | exact HeldS.call (by assumption) hgl HZ3.out (by assumption) | exact HeldS.store (by assumption) hgl _ lD)
      (first
        | (go_at_call 40; refine (TKH.out _ ?_ ?_).mono ?_; exact HT3.out.below (by omega) (HeldS.bel (by assumption)); exact Nat.lt_of_lt_of_le (by omega) (Nat.le_trans HZ3.out (HeldS.bel (by assumption)).size); rintro e w' ⟨rfl, hbt⟩)
        | (go_at_call 41; refine (BYH.out _).mono ?_; rintro e w' ⟨rfl, hby⟩))
    all_goals go_wp2_with fail
    have hS := HeldS.call (HeldS.call (HeldS.drew HR1.out) hgl HZ3.out hbt) hgl HZ3.out hby
    obtain ⟨cs, hc, hs⟩ := hS.room
    have hrow := setCells_splice w.heap.size 23 (D.map V8) 0 cs.toList _ hc (by rw [lD]; simp; omega)
    rw [splice_all _ _ (by rw [lD]; simpa using hs)] at hrow
    refine bodyPost_ret (v := .agg (arr8 D)) ?_ rfl ⟨rfl, (HBW.out.trans hS.bel).trans ((setCells_only _ _ _ _).below (Nat.le_refl _))⟩
    exact results_cell_row Tryd.results30 _ _ w.heap.size 23 (arr8 D) (0, 0) _ rfl hrow Tryd.underlying23 rfl (hi24 HD.out.1)
end Go.Proofs.YtefpaebbendnmaaDoor.BK
