/- Proved: laws for bytes and texts in memory, for sums and for lists of texts of the call's own. -/
import Derived.Test.YtlcbkockmhfllaaDoorMathF
import Derived.Test.YtlcbkockmhfllaaDoorCUpd
import Derived.Test.YtlcbkockmhfllaaDoorReg
import Derived.WalkKit
import Derived.ProofKit
import Derived.Deep.MidRow
import Derived.Maps.AppendAt
import Derived.Laws.Rows
import Derived.Laws.Tables
import Derived.Laws.BytesString
import Derived.Lib.LazyBuf
import Derived.Lib.AppendStr
import Derived.Deep.AppendSrc
import Derived.BigQuiet
namespace Go.Proofs.YtlcbkockmhfllaaDoor
open Go.RowKit
structure Is {α : Type} (a b : α) : Prop where
  eq : a = b
def splice {α : Type} (L : List α) (o : Nat) (l : List α) : List α := L.take o ++ l ++ L.drop (o + l.length)
theorem splice_step {α : Type} (cur : List α) (o : Nat) (v : α) (vs : List α) (h : o < cur.length) : splice (cur.set o v) (o + 1) vs = splice cur o (v :: vs) := by
  unfold splice
  rw [List.take_set, List.drop_set, List.length_cons, if_pos (by omega), show o + 1 + vs.length = o + (vs.length + 1) by omega, List.take_succ_eq_append_getElem h, List.set_append_right _ _ (by simp; omega)]
  simp [Nat.min_eq_left (Nat.le_of_lt h)]
theorem setCells_splice (g t : Nat) : ∀ (l : List Value) (o : Nat) (cur : List Value) (w : World), w.heap[g]? = some (.cells cur.toArray t (0, 0)) → o + l.length ≤ cur.length → (w.setCells g o l).heap[g]? = some (.cells (splice cur o l).toArray t (0, 0))
  | [], o, cur, w, hg, _ => by
    have e : splice cur o [] = cur := by simp [splice]
    rw [e]; exact hg
  | v :: vs, o, cur, w, hg, hl => by
    rw [List.length_cons] at hl
    rw [← splice_step cur o v vs (by omega)]
    refine setCells_splice g t vs (o + 1) (cur.set o v) (w.setCell ⟨g, o, none⟩ v) ?_ (by rw [List.length_set]; omega)
    rw [heap_setCell_same w g o _ t _ hg, List.setIfInBounds_toArray]
def bc (x : ByteArray) : List Value := x.data.toList.map fun b => Value.int .u8 (b.toNat : Int)
theorem bc_length (x : ByteArray) : (bc x).length = x.size := by rw [bc, List.length_map, Sc.size_eq]
theorem bc_one (x : ByteArray) : ∀ v ∈ bc x, v.oneCell' = true := fun v hv => by
  obtain ⟨b, _, rfl⟩ := List.mem_map.1 hv
  rfl
theorem own_keep {w w' : World} {base e size n : Nat} {v : Value} {xs : List Value} (h : w.ownsRow base e size v n xs) (hb : ∀ k, v.ownBlock = some k → w'.heap[k]? = w.heap[k]?) : w'.ownsRow base e size v n xs := by
  refine ⟨h.1, ?_⟩
  rcases h.2 with hn | ⟨g, cap, cur, rfl, hb', hgg, rest⟩
  · exact .inl hn
  · exact .inr ⟨g, cap, cur, rfl, hb', (hb g rfl).trans hgg, rest⟩
theorem copy_str {P : Program} {ops : Array Oper} {rest : List Oper} {o : Oper} {a : Act} {w : World} {Q : Exit → Act → World → Prop} (hgd : o.guard = none) (d x : Operand) (dT sT : TypeId) (ho : o.op = Op.call { callee := Callee.builtin Builtin.copy, args := #[d, x], argTypes := #[dT, sT] })
    (elem : TypeId) (hu : P.underlying dT = some (.slice elem)) (hz : ∀ w, (Go.sizeOf elem).run P w = .ok 1 w)
    (b off dLen dCap : Nat) (hd : a.eval d = .slice (some ⟨b, off, none⟩) dLen dCap) (t : ByteArray) (hx : a.eval x = .string t) (hle : t.size ≤ dLen) (ht : w.there b off t.size)
    (h : wpList P ops Q rest (a.put o.dst (goInt t.size)) (w.setCells b off (bc t))) : wpList P ops Q (o :: rest) a w := by
  have hr := Go.run_copy_string (P := P) w dT sT o.type elem b off dLen dCap t hu hz hle (fun j hj => (ht j hj).1) (fun j hj => (ht j hj).2)
  refine wpList_plain hgd fun K hK => ?_
  unfold Oper.wp execOp
  simp only [ho, resolve, invoke, builtin, Sem.run_bind, Sem.run_pure, Result.andThen_ok, List.map_toArray, List.map_cons, List.map_nil, hd, hx, hr]
  exact hK _ _ h
theorem size_u8 (w : World) : (Go.sizeOf 5).run Tryd.prog w = .ok 1 w := by kernel_rfl
theorem own_slice {w : World} {base e size n : Nat} {v : Value} {xs : List Value} (h : w.ownsRow base e size v n xs) : ∃ a c, v = .slice a n c := by
  rcases h.2 with ⟨h1, h2⟩ | ⟨g, cap, _, h1, _⟩
  · subst h2; exact ⟨_, _, h1⟩
  · exact ⟨_, _, h1⟩
theorem there_row {w : World} {g o n : Nat} {cs : Array Value} {t : TypeId} (h : w.heap[g]? = some (.cells cs t (0, 0))) (hl : o + n ≤ cs.size) : w.there g o n := fun j hj => by
  refine ⟨?_, frozen_of_row w g _ _ t h⟩
  rw [cell_of_row w g _ _ t (0, 0) h, Array.getElem?_eq_getElem (by omega)]
  rfl
theorem range_all {w : World} {g : Nat} {cs : List Value} {t : TypeId} (h : w.heap[g]? = some (.cells cs.toArray t (0, 0))) : w.rangeAt g 0 cs := fun j u hu => by
  rw [cell_of_row w g _ _ t (0, 0) h, Nat.zero_add, List.getElem?_toArray]; exact hu
theorem str_of {w : World} {b : Nat} {x : ByteArray} (h : w.rangeAt b 0 (bc x)) (cap : Nat) : (convert 38 9 (.slice (some ⟨b, 0, none⟩) x.size cap)).run Tryd.prog w = .ok (.string x) w := by
  have e := run_convert_bytes_back (P := Tryd.prog) w 38 9 5 ⟨b, 0, none⟩ cap x.data.toList Tryd.underlying38 Tryd.underlying5 Tryd.underlying9 (fun j hj => by
    rw [Addr.add_mid]
    exact h j _ (by rw [bc, List.getElem?_map, List.getElem?_eq_getElem hj]; rfl))
  rw [← Sc.size_eq] at e
  exact e
theorem setCells_snoc (g : Nat) (v : Value) : ∀ (l : List Value) (o : Nat) (w : World), (w.setCells g o l).setCell ⟨g, o + l.length, none⟩ v = w.setCells g o (l ++ [v])
  | [], o, w => rfl
  | x :: l, o, w => by
    have := setCells_snoc g v l (o + 1) (w.setCell ⟨g, o, none⟩ x)
    rw [List.length_cons, show o + (l.length + 1) = o + 1 + l.length by omega]
    exact this
def nc (n k : Nat) : List Value := (Wl.putL n k).map fun b => Value.int .u8 (b.toNat : Int)
theorem nc_length (n k : Nat) : (nc n k).length = k := by rw [nc, List.length_map, Wl.putL_length]
theorem nc_succ (n j : Nat) : nc n (j + 1) = nc n j ++ [.int .u8 ((n / 256 ^ j % 256 : Nat) : Int)] := by
  unfold nc
  rw [Wl.putL_snoc, List.map_append]
  simp [UInt8.toNat_ofNat']
theorem nc_bc (n k : Nat) : nc n k = bc (Wl.put n k) := by unfold nc bc; rw [Wl.put_list]
theorem pow256 (j : Nat) : (256 : Nat) ^ j = 2 ^ (8 * j) := by rw [Nat.pow_mul]
theorem shr_num (n j : Nat) : (n : Int) / 2 ^ (8 * j) % 256 = ((n / 256 ^ j % 256 : Nat) : Int) := by
  rw [pow256]
  rw [show ((2 : Int) ^ (8 * j)) = ((2 ^ (8 * j) : Nat) : Int) by push_cast; rfl]
  omega
theorem Tab.of_block {w w' : World} (h : Tab w) (hb : w'.heap[0]? = w.heap[0]?) : Tab w' := fun i hi => by rw [← h i hi]; exact World.cell?_of_block hb
theorem Tab.below {w w' : World} {B : Nat} (h : Tab w) (hb : Below B w w') (hB : 0 < B) : Tab w' := h.of_block (hb.block 0 hB)
theorem Tab.pos {w : World} (h : Tab w) : 0 < w.heap.size := block_lt_of_cell (h 0 (by omega))
theorem Tab.drew {w : World} (h : Tab w) : Tab w.drew := h
theorem sum_lt (bs : List Nat) (h : ∀ x ∈ bs, x < 256) : Crc.sum bs < 4294967296 := by
  unfold Crc.sum Crc.upd
  exact Crc.turn_lt (Crc.fold_lt _ (Crc.turn_lt (by omega)) h)
theorem bytes_row {w : World} {g off k t : Nat} {x : ByteArray} (h : w.heap[g]? = some (.cells (bc x).toArray t (0, 0))) (hl : off + k ≤ x.size) (hx : x.size ≤ 9223372036854775807) : Bytes w (some ⟨g, off, none⟩) k (((x.data.toList.drop off).take k).map UInt8.toNat) := by
  have hs := Sc.size_eq x
  refine ⟨by rw [List.length_map, List.length_take, List.length_drop]; omega, fun n hn => ?_, by omega, .inr ⟨g, off, rfl, fun i hi => ?_⟩⟩
  · obtain ⟨b, _, rfl⟩ := List.mem_map.1 hn
    exact b.toNat_lt
  · have hj : off + i < x.data.toList.length := by omega
    rw [cell_of_row w g _ _ _ (0, 0) h, List.getElem?_toArray, bc, List.getElem?_map, List.getElem?_eq_getElem hj, List.getD_eq_getElem?_getD, List.getElem?_map, List.getElem?_take_of_lt hi, List.getElem?_drop, List.getElem?_eq_getElem hj]
    rfl
theorem byte_at (x : ByteArray) (m : Nat) (c : UInt8) (h : x.data.toList[m]? = some c) (hm : m < x.size) : x[m]'hm = c := by
  rw [Array.getElem?_toList] at h
  exact (Array.getElem?_eq_some_iff.1 h).2
theorem bytes_of (w : World) (x : ByteArray) (hx : x.size ≤ 9223372036854775807) : ∃ cap w1, (convert 9 38 (.string x)).run Tryd.prog w = .ok (.slice (some ⟨w.heap.size, 0, none⟩) x.size cap) w1 ∧ x.size ≤ cap ∧ (∀ off k, off + k ≤ x.size → Bytes w1 (some ⟨w.heap.size, off, none⟩) k (((x.data.toList.drop off).take k).map UInt8.toNat)) ∧ Below w.heap.size w w1 ∧ w1.heap.size = w.heap.size + 1 := by
  have hs := Sc.size_eq x
  refine ⟨_, _, run_bytes_of_string (P := Tryd.prog) w 9 38 5 x Tryd.underlying9 Tryd.underlying38 Tryd.underlying5, grownCap_ge _ _ _ _, fun off k hk => ⟨by rw [List.length_map, List.length_take, List.length_drop]; omega, fun n hn => ?_, by omega, .inr ⟨w.heap.size, off, rfl, fun i hi => ?_⟩⟩, ((Below.refl _ w).drew.alloc (Nat.le_refl _) _), by simp⟩
  · obtain ⟨b, _, rfl⟩ := List.mem_map.1 hn
    exact b.toNat_lt
  · have hj : off + i < x.data.toList.length := by omega
    have hj2 : off + i < x.size := by omega
    show World.cell? _ ⟨w.drew.heap.size, off + i, none⟩ = _
    rw [cell_of_row _ _ _ _ _ _ (heap_alloc_new w.drew _)]
    unfold bytesRow
    rw [Array.getElem?_append_left (by rw [Array.size_map]; exact hj2), Array.getElem?_map, ← Array.getElem?_toList, List.getElem?_eq_getElem hj, List.getD_eq_getElem?_getD, List.getElem?_map, List.getElem?_take_of_lt hi, List.getElem?_drop, List.getElem?_eq_getElem hj]
    rfl
theorem bc_append (a b : ByteArray) : bc (a ++ b) = bc a ++ bc b := by unfold bc; rw [Wl.app_list, List.map_append]
theorem splice_mid {α : Type} (a b c d : List α) (h : d.length = b.length) : splice (a ++ (b ++ c)) a.length d = a ++ (d ++ c) := by
  unfold splice
  rw [List.take_left' rfl, List.drop_append, List.drop_eq_nil_of_le (by omega), List.nil_append, show a.length + d.length - a.length = d.length by omega, h, List.drop_left' rfl, List.append_assoc]
theorem info_str : Tryd.prog.info? 9 = some Tryd.t9 := by kernel_rfl
abbrev OwnS (w : World) (N : Nat) (v : Value) (rs : List ByteArray) : Prop := w.ownsRow N 9 1 v rs.length (rs.map Value.string)
theorem grown_refl (W : World) (row : Option Nat) : W.grownBy W row := ⟨rfl, rfl, rfl, Nat.le_refl _, fun _ _ _ => rfl⟩
theorem run_many (W : World) (N : Nat) (ty : TypeId) (v u : Value) (rs gs : List ByteArray) (hown : OwnS W N v rs) (hsrc : OwnS W 0 u gs) (hb : rs.length + gs.length ≤ 10000000) (hN : N ≤ W.heap.size) :
    ∃ v' w', (Builtin.append_ #[34, 34] ty #[v, u]).run Tryd.prog W = .ok v' w' ∧ OwnS w' N v' (rs ++ gs) ∧ W.grownBy w' v.ownBlock ∧ (v'.ownBlock = v.ownBlock ∨ v'.ownBlock = some W.heap.size) := by
  rcases hsrc.2 with ⟨hu, hl⟩ | ⟨pg, pcap, cur, hu, _, hh, _, _, _, ht⟩
  · obtain rfl : gs = [] := List.length_eq_zero_iff.1 hl
    subst hu
    rw [List.append_nil]
    rcases hown.2 with ⟨hv, hl2⟩ | ⟨g', cap', cur', hv, hNg, hg, hc, hm, hcs, htk⟩
    · subst hv
      refine ⟨.slice none 0 0, W, ?_, hown, grown_refl _ _, .inl rfl⟩
      have hf := run_firstCells_none (P := Tryd.prog) W 1 0 0 0
      have hu := Tryd.underlying34
      have hs1 : Tryd.t9.size = 1 := rfl
      simp [Builtin.append_, run_underlying hu, sizeOf, typeInfo, info_str, hs1, Builtin.lenOf, hf]
    · have hr := run_append_room_src (P := Tryd.prog) W 34 34 ty 9 Tryd.t9 Tryd.underlying34 info_str g' 0 rs.length cap' (.slice none 0 0) 0 [] (Src.ofNil W Tryd.underlying34 0) hc (fun j hj => by cases hj) (fun j hj => by cases hj)
      have e0 : W.setCells g' (0 + rs.length * Tryd.t9.size) [] = W := rfl
      rw [e0, Nat.add_zero, ← hv] at hr
      exact ⟨_, _, hr, hown, grown_refl _ _, .inl rfl⟩
  · subst hu
    obtain ⟨v', w', hr, h2, h3, h4, h5⟩ := run_append_own_at (P := Tryd.prog) W N 34 ty 9 Tryd.t9 (.string ByteArray.empty) 1 16 Tryd.underlying34 info_str rfl rfl rfl rfl (by omega) v rs.length (rs.map Value.string) hown ⟨pg, 0, none⟩ gs.length pcap (gs.map Value.string) (by simp) (fun j z hj => by
      have hjl := (List.getElem?_eq_some_iff.1 hj).1
      rw [Addr.add_mid, Nat.zero_add, cell_of_row W pg j cur _ (0, 0) hh, ← Array.getElem?_toList]
      rw [← ht] at hj
      rwa [List.getElem?_take_of_lt (by simpa using hjl)] at hj) (fun z hz => by obtain ⟨r, _, rfl⟩ := List.mem_map.1 hz; rfl) (by unfold maxLen; omega) (by omega) hN
    rw [← List.map_append, ← List.length_append] at h2
    exact ⟨v', w', hr, h2, h3, h5⟩
theorem opw_many {o : Oper} {a : Act} {W : World} {K : Act → World → Prop} {Q : Exit → Act → World → Prop} (sl x : Operand) (d : Option Tmp) (hd : o.dst = d)
    (ho : o.op = .call { callee := .builtin .append, args := #[sl, x], argTypes := #[34, 34] }) (N : Nat) (v u : Value) (rs gs : List ByteArray) (hs : a.eval sl = v) (hown : OwnS W N v rs) (hx : a.eval x = u) (hsrc : OwnS W 0 u gs) (hb : rs.length + gs.length ≤ 10000000) (hN : N ≤ W.heap.size)
    (h : ∀ v' w', OwnS w' N v' (rs ++ gs) → W.grownBy w' v.ownBlock → (v'.ownBlock = v.ownBlock ∨ v'.ownBlock = some W.heap.size) → K (a.put d v') w') : Oper.wp Tryd.prog o a W K Q := by
  subst hd
  obtain ⟨v', w', hr, h2, h3, h4⟩ := run_many W N o.type v u rs gs hown hsrc hb hN
  unfold Oper.wp execOp
  simp only [ho, resolve, invoke, builtin, Sem.run_bind, Sem.run_pure, Result.andThen_ok, List.map_toArray, List.map_cons, List.map_nil, hs, hx, hr]
  exact h v' w' h2 h3 h4
theorem app_many {ops : Array Oper} {rest : List Oper} {o : Oper} {a : Act} {Q : Exit → Act → World → Prop} (hgd : o.guard = none) (sl x : Operand)
    (ho : o.op = .call { callee := .builtin .append, args := #[sl, x], argTypes := #[34, 34] }) (W : World) (N : Nat) (v u : Value) (rs gs : List ByteArray) (hs : a.eval sl = v) (hown : OwnS W N v rs) (hx : a.eval x = u) (hsrc : OwnS W 0 u gs) (hb : rs.length + gs.length ≤ 10000000) (hN : N ≤ W.heap.size)
    (h : ∀ v' w', OwnS w' N v' (rs ++ gs) → W.grownBy w' v.ownBlock → (v'.ownBlock = v.ownBlock ∨ v'.ownBlock = some W.heap.size) → wpList Tryd.prog ops Q rest (a.put o.dst v') w') : wpList Tryd.prog ops Q (o :: rest) a W :=
  wpList_plain hgd fun _ hK => opw_many sl x o.dst rfl ho N v u rs gs hs hown hx hsrc hb hN (fun v' w' h1 h2 h3 => hK _ _ (h v' w' h1 h2 h3))
theorem own_new (W : World) (t : ByteArray) : OwnS (W.alloc (.cells #[.string t] 9)) 0 (.slice (some ⟨W.heap.size, 0, none⟩) 1 1) [t] := ⟨rfl, .inr ⟨W.heap.size, 1, _, rfl, Nat.zero_le _, heap_alloc_new W _, Nat.le_refl _, by unfold maxLen; omega, rfl, rfl⟩⟩
theorem own_alloc {w : World} {N e k n : Nat} {v : Value} {vs : List Value} (h : w.ownsRow N e k v n vs) (o : Obj) : (w.alloc o).ownsRow N e k v n vs := own_keep h (fun k hk => Below.heap_alloc w o k (h.lt k hk).2)
theorem own_below {w w' : World} {N e k n : Nat} {v : Value} {vs : List Value} (h : w.ownsRow N e k v n vs) (hb : Below w.heap.size w w') : w'.ownsRow N e k v n vs := own_keep h (fun k hk => hb.block k (h.lt k hk).2)
theorem own_zero {w : World} {N n : Nat} {v : Value} {vs : List Value} {e : TypeId} {k : Nat} (h : w.ownsRow N e k v n vs) : w.ownsRow 0 e k v n vs := by
  obtain ⟨h0, h1⟩ := h
  refine ⟨h0, ?_⟩
  rcases h1 with h1 | ⟨g, cap', cur, hv, _, r⟩
  · exact .inl h1
  · exact .inr ⟨g, cap', cur, hv, Nat.zero_le _, r⟩
theorem below_grown {N : Nat} {W w' : World} {e k n : Nat} {v : Value} {vs : List Value} (h : W.grownBy w' v.ownBlock) (hown : W.ownsRow N e k v n vs) (hN : N ≤ W.heap.size) : Below N W w' := (Below.refl _ _).grown h hN (fun k hk => (hown.lt k hk).1)
theorem own_strs {w : World} {N n : Nat} {v : Value} {rs : List ByteArray} (h : w.ownsRow N 9 1 v n (rs.map Value.string)) : ∃ a cap, v = .slice a n cap ∧ n ≤ cap ∧ cap ≤ 9223372036854775807 ∧ (0 < n → ∃ g, a = some ⟨g, 0, none⟩ ∧ v.ownBlock = some g ∧ ∀ i r, rs[i]? = some r → w.cell? ⟨g, i, none⟩ = some (.string r)) := by
  have hl : rs.length = n := by have := h.1; simpa using this
  rcases h.2 with ⟨h1, h2⟩ | ⟨g, cap, cur, hv, _, hh, hc, hm, hs, ht⟩
  · exact ⟨none, 0, by rw [h2]; exact h1, by omega, by omega, fun h => by omega⟩
  · unfold maxLen at hm
    refine ⟨_, cap, hv, hc, by omega, fun _ => ⟨g, rfl, by rw [hv]; rfl, fun i r hr => ?_⟩⟩
    have hi := (List.getElem?_eq_some_iff.1 hr).1
    rw [cell_of_row w g i cur _ (0, 0) hh, ← Array.getElem?_toList]
    have e : (cur.toList.take (n * 1))[i]? = (rs.map Value.string)[i]? := by rw [ht]
    rw [List.getElem?_take_of_lt (by omega)] at e
    rw [e, List.getElem?_map, hr]
    rfl
theorem toList_ne {a b : ByteArray} (h : ¬ a = b) : (a.toList == b.toList) = false := by
  rw [beq_eq_false_iff_ne]
  intro e
  exact h (Wl.ext_list (by rw [ByteArray.toList_eq, ByteArray.toList_eq] at e; exact e))
end Go.Proofs.YtlcbkockmhfllaaDoor
