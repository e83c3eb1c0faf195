/- Proved: laws for bytes, texts and lists of texts and numbers in memory. -/
import Derived.Test.YtefpaebbendnmaaDoorRows
import Derived.Test.YtefpaebbendnmaaDoorMath
import Derived.Test.YtefpaebbendnmaaDoorReg
import Derived.WalkKit
import Derived.WalkSpells
import Derived.WalkLawsBesides
import Derived.Below
import Derived.ProofKit
import Derived.Deep.MidRow
import Derived.Maps.AppendAt
import Derived.Laws.Rows
import Derived.Laws.Tables
import Derived.Laws.BytesString
import Derived.Lib.LazyBuf
import Derived.Lib.AppendStr
import Derived.Deep.AppendSrc
import Derived.BigQuiet
namespace Go.Proofs.YtefpaebbendnmaaDoor
open Go.RowKit
open Ck (T zs)
structure Is {α : Type} (a b : α) : Prop where
  eq : a = b
abbrev bl (s : ByteArray) : T := s.data.toList
def mk (l : T) : ByteArray := ⟨l.toArray⟩
theorem bl_mk (l : T) : bl (mk l) = l := rfl
theorem mk_bl (s : ByteArray) : mk (bl s) = s := rfl
theorem bl_length (s : ByteArray) : (bl s).length = s.size := Array.length_toList ..
theorem mk_size (l : T) : (mk l).size = l.length := rfl
theorem bl_inj {s t : ByteArray} (h : bl s = bl t) : s = t := by rw [← mk_bl s, h, mk_bl]
theorem bl_append (a b : ByteArray) : bl (a ++ b) = bl a ++ bl b := by rw [bl, ByteArray.data_append, Array.toList_append]
theorem mk_append (a b : T) : mk a ++ mk b = mk (a ++ b) := bl_inj (by rw [bl_append]; rfl)
theorem bl_ext (s : ByteArray) (i j : Nat) : bl (s.extract i j) = (bl s).extract i j := by
  rw [bl, ByteArray.data_extract, Array.toList_extract]
theorem mk_ext (l : T) (i j : Nat) : (mk l).extract i j = mk (l.extract i j) := bl_inj (bl_ext _ _ _)
theorem ext_take (l : T) (n : Nat) : l.extract 0 n = l.take n := by simp [List.extract]
theorem ext_drop (l : T) (i n : Nat) (h : l.length ≤ n) : l.extract i n = l.drop i := by
  simp [List.extract]
  rw [List.take_of_length_le]
  rw [List.length_drop]; omega
theorem ext_mid (l : T) (i n : Nat) : l.extract i (i + n) = (l.drop i).take n := by
  simp [List.extract]
theorem eq_mk (a b : T) : ((mk a).toList == (mk b).toList) = (a == b) := by rw [ByteArray.toList_eq, ByteArray.toList_eq]; rfl
theorem empty_mk (a : T) : (mk a).toList.isEmpty = a.isEmpty := by rw [ByteArray.toList_eq]; rfl
def splice {α : Type} (L : List α) (o : Nat) (l : List α) : List α := L.take o ++ l ++ L.drop (o + l.length)
theorem splice_step {α : Type} (cur : List α) (o : Nat) (v : α) (vs : List α) (h : o < cur.length) : splice (cur.set o v) (o + 1) vs = splice cur o (v :: vs) := by
  unfold splice
  rw [List.take_set, List.drop_set, List.length_cons, if_pos (by omega), show o + 1 + vs.length = o + (vs.length + 1) by omega, List.take_succ_eq_append_getElem h, List.set_append_right _ _ (by simp; omega)]
  simp [Nat.min_eq_left (Nat.le_of_lt h)]
theorem splice_length {α : Type} (L l : List α) (o : Nat) (h : o + l.length ≤ L.length) : (splice L o l).length = L.length := by
  unfold splice
  simp
  omega
theorem splice_map {α β : Type} (f : α → β) (a b : List α) (o : Nat) : splice (a.map f) o (b.map f) = (splice a o b).map f := by
  unfold splice
  rw [List.map_append, List.map_append, List.map_take, List.map_drop, List.length_map]
theorem setCells_splice (g t : Nat) : ∀ (l : List Value) (o : Nat) (cur : List Value) (w : World), w.heap[g]? = some (.cells cur.toArray t (0, 0)) → o + l.length ≤ cur.length → (w.setCells g o l).heap[g]? = some (.cells (splice cur o l).toArray t (0, 0))
  | [], o, cur, w, hg, _ => by
    have e : splice cur o [] = cur := by simp [splice]
    rw [e]; exact hg
  | v :: vs, o, cur, w, hg, hl => by
    rw [List.length_cons] at hl
    rw [← splice_step cur o v vs (by omega)]
    refine setCells_splice g t vs (o + 1) (cur.set o v) (w.setCell ⟨g, o, none⟩ v) ?_ (by rw [List.length_set]; omega)
    rw [heap_setCell_same w g o _ t _ hg, List.setIfInBounds_toArray]
/- bytes as cells; a row of bytes -/
def bc (l : T) : List Value := l.map fun b => Value.int .u8 (b.toNat : Int)
theorem bc_length (l : T) : (bc l).length = l.length := by rw [bc, List.length_map]
theorem bc_splice (a b : T) (o : Nat) : splice (bc a) o (bc b) = bc (splice a o b) := splice_map _ a b o
/- block g is a row of these bytes -/
def Brow (w : World) (g : Nat) (l : T) : Prop := w.heap[g]? = some (.cells (bc l).toArray 5 (0, 0))
theorem Brow.lt {w : World} {g : Nat} {l : T} (h : Brow w g l) : g < w.heap.size := (Array.getElem?_eq_some_iff.1 h).1
theorem Brow.below {N : Nat} {w w' : World} {g : Nat} {l : T} (h : Brow w g l) (hb : Below N w w') (hg : g < N) : Brow w' g l := (hb.block g hg).trans h
theorem Brow.next {w w' : World} {g : Nat} {l : T} (h : Brow w g l) (hb : Below w.heap.size w w') : Brow w' g l := h.below hb h.lt
theorem Brow.cell {w : World} {g : Nat} {l : T} (h : Brow w g l) {i : Nat} {b : UInt8} (hi : l[i]? = some b) : w.cell? ⟨g, i, none⟩ = some (.int .u8 (b.toNat : Int)) := by
  rw [cell_of_row w g i _ _ (0, 0) h, List.getElem?_toArray, bc, List.getElem?_map, hi]; rfl
theorem Brow.there {w : World} {g o n : Nat} {l : T} (h : Brow w g l) (hl : o + n ≤ l.length) : w.there g o n := fun j hj => by
  refine ⟨?_, frozen_of_row w g _ _ _ h⟩
  rw [cell_of_row w g _ _ _ (0, 0) h, Array.getElem?_eq_getElem (by rw [List.size_toArray, bc_length]; omega)]
  rfl
theorem Brow.set {w : World} {g o : Nat} {l x : T} (h : Brow w g l) (hl : o + x.length ≤ l.length) : Brow (w.setCells g o (bc x)) g (splice l o x) := by
  have := setCells_splice g 5 (bc x) o _ w h (by rw [bc_length, bc_length]; exact hl)
  rwa [bc_splice] at this
theorem size_u8 (w : World) : (Go.sizeOf 5).run Tryd.prog w = .ok 1 w := by kernel_rfl
/- 'copy' of a text, as much as there is room for -/
theorem run_copy_part {P : Program} (w : World) (dT sT ty elem : TypeId) (b o dLen dCap : Nat) (t : ByteArray) (n : Nat) (hn : n = min t.size dLen)
    (hu : P.underlying dT = some (.slice elem)) (hz : ∀ w, (Go.sizeOf elem).run P w = .ok 1 w) (ht : w.there b o n) :
    (Builtin.copy_ #[dT, sT] ty #[.slice (some ⟨b, o, none⟩) dLen dCap, .string t]).run P w = .ok (goInt n) (w.setCells b o (bc ((bl t).take n))) := by
  have hl : (bc ((bl t).take n)).length = n := by rw [bc_length, List.length_take, bl_length]; omega
  have hst := run_storeCells_cells (P := P) b o (bc ((bl t).take n)) 0 w (by rw [hl]; simpa using fun j hj => (ht j hj).1) (by rw [hl]; simpa using fun j hj => (ht j hj).2) (by
    intro v hv
    obtain ⟨x, _, rfl⟩ := List.mem_map.1 hv
    rfl)
  have hmin : Nat.min t.size dLen = n := hn.symm
  simp [Builtin.copy_, run_underlying hu, Builtin.lenOf, Builtin.firstCells, hz, hmin]
  rw [show (List.take n (List.map (fun b => Value.int .u8 (b.toNat : Int)) t.data.toList)) = bc ((bl t).take n) from (List.map_take).symm, hst]
  rfl
theorem copy_str {P : Program} {ops : Array Oper} {rest : List Oper} {o : Oper} {a : Act} {w : World} {Q : Exit → Act → World → Prop} (hgd : o.guard = none) (d x : Operand) (dT sT : TypeId) (ho : o.op = Op.call { callee := Callee.builtin Builtin.copy, args := #[d, x], argTypes := #[dT, sT] })
    (elem : TypeId) (hu : P.underlying dT = some (.slice elem)) (hz : ∀ w, (Go.sizeOf elem).run P w = .ok 1 w)
    (b off dLen dCap : Nat) (hd : a.eval d = .slice (some ⟨b, off, none⟩) dLen dCap) (t : ByteArray) (hx : a.eval x = .string t) (n : Nat) (hn : n = min t.size dLen) (ht : w.there b off n)
    (h : wpList P ops Q rest (a.put o.dst (goInt n)) (w.setCells b off (bc ((bl t).take n)))) : wpList P ops Q (o :: rest) a w := by
  have hr := run_copy_part (P := P) w dT sT o.type elem b off dLen dCap t n hn hu hz ht
  refine wpList_plain hgd fun K hK => ?_
  unfold Oper.wp execOp
  simp only [ho, resolve, invoke, builtin, Sem.run_bind, Sem.run_pure, Result.andThen_ok, List.map_toArray, List.map_cons, List.map_nil, hd, hx, hr]
  exact hK _ _ h
/- 'make([]byte, n)' -/
theorem info_u8 : Tryd.prog.info? 5 = some Tryd.t5 := by kernel_rfl
theorem made_noughts (n : Nat) : madeCells #[Value.int .u8 0] n = (bc (zs n)).toArray := by
  unfold bc zs
  rw [List.map_replicate, ← Array.toList_inj, toList_madeCells_one]
  rfl
theorem make_bytes {ops : Array Oper} {rest : List Oper} {o : Oper} {a : Act} {w : World} {Q : Exit → Act → World → Prop}
    (hg : o.guard = none) (l c : Operand) (hop : o.op = Op.makeSlice 28 l c) (n : Nat) (hl : a.eval l = .int .i64 (n : Int)) (hc : a.eval c = .int .i64 (n : Int)) (hn : n ≤ 1000000)
    (hK : ∀ w', Brow w' w.heap.size (zs n) → Below w.heap.size w w' → w'.heap.size = w.heap.size + 1 → wpList Tryd.prog ops Q rest (a.put o.dst (.slice (some ⟨w.heap.size, 0, none⟩) n n)) w') :
    wpList Tryd.prog ops Q (o :: rest) a w := by
  refine wpList_make_row w hg l c 28 hop 5 Tryd.t5 (.int .u8 0) Tryd.underlying28 info_u8 rfl rfl rfl .i64 .i64 n hl hc (by show 1 * n ≤ _; omega) (by omega) ?_
  refine hK _ ?_ ((Below.refl _ _).alloc (Nat.le_refl _) _) (by simp)
  show (World.alloc w _).heap[w.heap.size]? = _
  rw [heap_alloc_new, made_noughts]
/- bytes that are read -/
def Rd (w : World) (g : Nat) (l : T) : Prop := w.rangeAt g 0 (bc l)
theorem Rd.cell {w : World} {g : Nat} {l : T} (h : Rd w g l) {i : Nat} {b : UInt8} (hi : l[i]? = some b) : w.cell? ⟨g, i, none⟩ = some (.int .u8 (b.toNat : Int)) := by
  have := h i (.int .u8 (b.toNat : Int)) (by rw [bc, List.getElem?_map, hi]; rfl)
  rwa [Nat.zero_add] at this
theorem Brow.rd {w : World} {g : Nat} {l : T} (h : Brow w g l) : Rd w g l := fun j u hu => by
  rw [cell_of_row w g _ _ _ (0, 0) h, Nat.zero_add, List.getElem?_toArray]; exact hu
theorem Rd.below {N : Nat} {w w' : World} {g : Nat} {l : T} (h : Rd w g l) (hb : Below N w w') (hg : g < N) : Rd w' g l := fun j u hu => (hb.cell (p := ⟨g, 0 + j, none⟩) hg).trans (h j u hu)
/- bytes as a text -/
theorem str_at {w : World} {g off n : Nat} {l : T} (h : Rd w g l) (hl : off + n ≤ l.length) (ad : Addr) (ha : 0 < n → ad = ⟨g, off, none⟩) (cap : Nat) : (convert 28 9 (.slice (some ad) n cap)).run Tryd.prog w = .ok (.string (mk ((l.drop off).take n))) w := by
  by_cases h0 : n = 0
  · subst h0
    rw [List.take_zero]
    exact run_convert_bytes_back (P := Tryd.prog) w 28 9 5 ad cap [] Tryd.underlying28 Tryd.underlying5 Tryd.underlying9 (fun j hj => by simp at hj)
  · rw [ha (by omega)]
    have hlen : ((l.drop off).take n).length = n := by rw [List.length_take, List.length_drop]; omega
    have e := run_convert_bytes_back (P := Tryd.prog) w 28 9 5 ⟨g, off, none⟩ cap ((l.drop off).take n) Tryd.underlying28 Tryd.underlying5 Tryd.underlying9 (fun j hj => by
      rw [Addr.add_mid]
      rw [hlen] at hj
      exact h.cell (by rw [List.getElem_take, List.getElem_drop, List.getElem?_eq_getElem (by omega)]))
    rw [hlen] at e
    exact e
theorem str_all {w : World} {g : Nat} {l : T} (h : Rd w g l) (n : Nat) (hn : n = l.length) (cap : Nat) : (convert 28 9 (.slice (some ⟨g, 0, none⟩) n cap)).run Tryd.prog w = .ok (.string (mk l)) w := by
  have e := str_at h (off := 0) (n := n) (by omega) ⟨g, 0, none⟩ (fun _ => rfl) cap
  rw [List.drop_zero, hn, List.take_length] at e
  rw [hn]
  exact e
/- a text as bytes -/
theorem bytes_of (w : World) (x : ByteArray) : ∃ cap w1, (convert 9 28 (.string x)).run Tryd.prog w = .ok (.slice (some ⟨w.heap.size, 0, none⟩) x.size cap) w1 ∧ x.size ≤ cap ∧ Rd w1 w.heap.size (bl x) ∧ Below w.heap.size w w1 ∧ w1.heap.size = w.heap.size + 1 := by
  refine ⟨_, _, run_bytes_of_string (P := Tryd.prog) w 9 28 5 x Tryd.underlying9 Tryd.underlying28 Tryd.underlying5, grownCap_ge _ _ _ _, fun j u hu => ?_, ((Below.refl _ w).drew.alloc (Nat.le_refl _) _), by simp⟩
  have hj : j < (bc (bl x)).length := (List.getElem?_eq_some_iff.1 hu).1
  rw [bc_length, bl_length] at hj
  show World.cell? _ ⟨w.drew.heap.size, 0 + j, none⟩ = _
  rw [cell_of_row _ _ _ _ _ _ (heap_alloc_new w.drew _), Nat.zero_add, ← hu]
  unfold bytesRow bc
  rw [Array.getElem?_append_left (by rw [Array.size_map]; exact hj), Array.getElem?_map, List.getElem?_map, ← Array.getElem?_toList]
/- lists of texts of the call's own -/
def tv (l : T) : Value := .string (mk l)
abbrev OwnT (w : World) (N : Nat) (v : Value) (rs : List T) : Prop := w.ownsRow N 9 1 v rs.length (rs.map tv)
theorem info_str : Tryd.prog.info? 9 = some Tryd.t9 := by kernel_rfl
theorem own_keep {w w' : World} {base e size n : Nat} {v : Value} {xs : List Value} (h : w.ownsRow base e size v n xs) (hb : ∀ k, v.ownBlock = some k → w'.heap[k]? = w.heap[k]?) : w'.ownsRow base e size v n xs := by
  refine ⟨h.1, ?_⟩
  rcases h.2 with hn | ⟨g, cap, cur, rfl, hb', hgg, rest⟩
  · exact .inl hn
  · exact .inr ⟨g, cap, cur, rfl, hb', (hb g rfl).trans hgg, rest⟩
theorem own_slice {w : World} {base e size n : Nat} {v : Value} {xs : List Value} (h : w.ownsRow base e size v n xs) : ∃ a c, v = .slice a n c := by
  rcases h.2 with ⟨h1, h2⟩ | ⟨g, cap, _, h1, _⟩
  · subst h2; exact ⟨_, _, h1⟩
  · exact ⟨_, _, h1⟩
theorem own_below {w w' : World} {N e k n : Nat} {v : Value} {vs : List Value} (h : w.ownsRow N e k v n vs) (hb : Below w.heap.size w w') : w'.ownsRow N e k v n vs := own_keep h (fun k hk => hb.block k (h.lt k hk).2)
theorem own_base {w : World} {N M n : Nat} {v : Value} {vs : List Value} {e : TypeId} {k : Nat} (h : w.ownsRow M e k v n vs) (hN : N ≤ M) : w.ownsRow N e k v n vs := by
  obtain ⟨h0, h1⟩ := h
  refine ⟨h0, ?_⟩
  rcases h1 with h1 | ⟨g, cap', cur, hv, hM, r⟩
  · exact .inl h1
  · exact .inr ⟨g, cap', cur, hv, Nat.le_trans hN hM, r⟩
theorem own_alloc {w : World} {N e k n : Nat} {v : Value} {vs : List Value} (h : w.ownsRow N e k v n vs) (o : Obj) : (w.alloc o).ownsRow N e k v n vs := own_keep h (fun k hk => Below.heap_alloc w o k (h.lt k hk).2)
theorem below_grown {N : Nat} {W w' : World} {e k n : Nat} {v : Value} {vs : List Value} (h : W.grownBy w' v.ownBlock) (hown : W.ownsRow N e k v n vs) (hN : N ≤ W.heap.size) : Below N W w' := (Below.refl _ _).grown h hN (fun k hk => (hown.lt k hk).1)
theorem below_next {N : Nat} {w w1 w2 : World} (h : Below N w w1) (hb : Below w1.heap.size w1 w2) (hN : N ≤ w1.heap.size) : Below N w w2 := h.trans (hb.mono hN)
theorem below_drewN {B : Nat} {w W : World} (h : Below B w W) (n : Nat) : Below B w (W.drewN n) := ⟨h.os, h.tape, h.output, h.size, h.block⟩
/- what a list of texts is where it is read -/
structure Txts (w : World) (v : Value) (rs : List T) : Prop where
  sl : ∃ a cap, v = .slice a rs.length cap ∧ rs.length ≤ cap ∧ cap ≤ 9223372036854775807 ∧ (0 < rs.length → ∃ g off, a = some ⟨g, off, none⟩ ∧ g < w.heap.size ∧ ∀ i r, rs[i]? = some r → w.cell? ⟨g, off + i, none⟩ = some (tv r))
theorem OwnT.txts {w : World} {N : Nat} {v : Value} {rs : List T} (h : OwnT w N v rs) : Txts w v rs := by
  rcases h.2 with ⟨h1, h2⟩ | ⟨g, cap, cur, hv, _, hh, hc, hm, hs, ht⟩
  · exact ⟨none, 0, by rw [h2]; exact h1, by omega, by omega, fun h => by omega⟩
  · unfold maxLen at hm
    refine ⟨_, cap, hv, hc, by omega, fun _ => ⟨g, 0, rfl, (Array.getElem?_eq_some_iff.1 hh).1, fun i r hr => ?_⟩⟩
    have hi := (List.getElem?_eq_some_iff.1 hr).1
    rw [cell_of_row w g (0 + i) cur _ (0, 0) hh, ← Array.getElem?_toList, Nat.zero_add]
    have e : (cur.toList.take (rs.length * 1))[i]? = (rs.map tv)[i]? := by rw [ht]
    rw [List.getElem?_take_of_lt (by omega)] at e
    rw [e, List.getElem?_map, hr]
    rfl
theorem Txts.below {w w' : World} {v : Value} {rs : List T} (h : Txts w v rs) (hb : Below w.heap.size w w') : Txts w' v rs := by
  obtain ⟨a, cap, hv, hc, hm, hl⟩ := h.sl
  refine ⟨a, cap, hv, hc, hm, fun h0 => ?_⟩
  obtain ⟨g, off, ha, hg, hcell⟩ := hl h0
  exact ⟨g, off, ha, Nat.lt_of_lt_of_le hg hb.size, fun i r hr => (hb.cell (p := ⟨g, off + i, none⟩) hg).trans (hcell i r hr)⟩
end Go.Proofs.YtefpaebbendnmaaDoor
