/- Proved: how a disk lies in memory, the program's and the document's, and what a call may turn of it. -/
import Derived.Test.YtcfninpokngmlaaGreatDoorMath
import Derived.Test.YtcfninpokngmlaaGreatDoorRows
import Derived.WalkKit
import Derived.ProofKit
import Derived.Deep.MidRow
import Derived.Maps.AppendAt
import Derived.Laws.Rows
import Derived.Laws.Tables
namespace Go.Proofs.YtcfninpokngmlaaGreatDoor
open Go.RowKit
/- an equation that is kept from tactics -/
structure Is {α : Type} (a b : α) : Prop where
  eq : a = b
def splice {α : Type} (L : List α) (o : Nat) (l : List α) : List α := L.take o ++ l ++ L.drop (o + l.length)
theorem splice_step {α : Type} (cur : List α) (o : Nat) (v : α) (vs : List α) (h : o < cur.length) : splice (cur.set o v) (o + 1) vs = splice cur o (v :: vs) := by
  unfold splice
  rw [List.take_set, List.drop_set, List.length_cons, if_pos (by omega), show o + 1 + vs.length = o + (vs.length + 1) by omega, List.take_succ_eq_append_getElem h, List.set_append_right _ _ (by simp; omega)]
  simp [Nat.min_eq_left (Nat.le_of_lt h)]
theorem setCells_splice (g t : Nat) : ∀ (l : List Value) (o : Nat) (cur : List Value) (w : World), w.heap[g]? = some (.cells cur.toArray t (0, 0)) → o + l.length ≤ cur.length → (w.setCells g o l).heap[g]? = some (.cells (splice cur o l).toArray t (0, 0))
  | [], o, cur, w, hg, _ => by
    have e : splice cur o [] = cur := by simp [splice]
    rw [e]; exact hg
  | v :: vs, o, cur, w, hg, hl => by
    rw [List.length_cons] at hl
    rw [← splice_step cur o v vs (by omega)]
    refine setCells_splice g t vs (o + 1) (cur.set o v) (w.setCell ⟨g, o, none⟩ v) ?_ (by rw [List.length_set]; omega)
    rw [heap_setCell_same w g o _ t _ hg, List.setIfInBounds_toArray]
/- lists of things that have n cells each -/
theorem flat_length {α : Type} (f : α → List Value) (n : Nat) : ∀ (l : List α), (∀ x ∈ l, (f x).length = n) → (l.flatMap f).length = l.length * n
  | [], _ => by simp
  | x :: l, h => by
    rw [List.flatMap_cons, List.length_append, h x List.mem_cons_self, flat_length f n l (fun y hy => h y (List.mem_cons_of_mem _ hy)), List.length_cons, Nat.succ_mul]
    omega
theorem flat_at {α : Type} (f : α → List Value) (n : Nat) : ∀ (l : List α) (i : Nat) (x : α) (j : Nat), (∀ x ∈ l, (f x).length = n) → l[i]? = some x → j < n → (l.flatMap f)[i * n + j]? = (f x)[j]?
  | [], i, x, j, _, h, _ => by simp at h
  | y :: l, 0, x, j, hf, h, hj => by
    have := hf y List.mem_cons_self
    simp at h
    subst h
    rw [List.flatMap_cons, Nat.zero_mul, Nat.zero_add, List.getElem?_append_left (by omega)]
  | y :: l, i + 1, x, j, hf, h, hj => by
    have e := hf y List.mem_cons_self
    rw [List.flatMap_cons, List.getElem?_append_right (by rw [e, Nat.succ_mul]; omega), e, show (i + 1) * n + j - n = i * n + j by rw [Nat.succ_mul]; omega]
    exact flat_at f n l i x j (fun z hz => hf z (List.mem_cons_of_mem _ hz)) (by simpa using h) hj
theorem flat_set {α : Type} (f : α → List Value) (n : Nat) : ∀ (l : List α) (i : Nat) (y : α), (∀ x ∈ l, (f x).length = n) → (f y).length = n → i < l.length → splice (l.flatMap f) (i * n) (f y) = (l.set i y).flatMap f
  | [], i, y, _, _, h => by simp at h
  | x :: l, 0, y, hf, hy, _ => by
    have e := hf x List.mem_cons_self
    unfold splice
    rw [List.flatMap_cons, Nat.zero_mul, Nat.zero_add, hy, List.take_zero, List.nil_append, List.set_cons_zero, List.flatMap_cons, List.drop_left' e]
  | x :: l, i + 1, y, hf, hy, h => by
    have e := hf x List.mem_cons_self
    have ih := flat_set f n l i y (fun z hz => hf z (List.mem_cons_of_mem _ hz)) hy (by simpa using h)
    rw [List.set_cons_succ, List.flatMap_cons, List.flatMap_cons, ← ih]
    unfold splice
    rw [hy, Nat.succ_mul, List.take_append, List.drop_append, e, List.take_of_length_le (by omega), List.drop_eq_nil_of_le (by omega), show i * n + n - n = i * n by omega, show i * n + n + n - n = i * n + n by omega]
    simp
/- the cells of a sector, of a write that is pending -/
def bc (x : ByteArray) : List Value := x.data.toList.map fun b => Value.int .u8 (b.toNat : Int)
def wc (p : Nat × ByteArray) : List Value := .int .i64 (p.1 : Int) :: bc p.2
theorem bc_length (x : ByteArray) : (bc x).length = x.size := by rw [bc, List.length_map, Sc.size_eq]
theorem wc_length {p : Nat × ByteArray} (h : p.2.size = 64) : (wc p).length = 65 := by rw [wc, List.length_cons, bc_length, h]
theorem bc_one (x : ByteArray) : ∀ v ∈ bc x, v.oneCell' = true := fun v hv => by
  obtain ⟨b, _, rfl⟩ := List.mem_map.1 hv
  rfl
theorem wc_one (p : Nat × ByteArray) : ∀ v ∈ wc p, v.oneCell' = true := fun v hv => by
  rcases List.mem_cons.1 hv with rfl | hv
  · rfl
  · exact bc_one p.2 v hv
/- nothing that was there has turned but the blocks of fs -/
structure Chg (fs : List Nat) (w w' : World) : Prop where
  os : w'.os = w.os
  tape : w'.tape = w.tape
  output : w'.output = w.output
  size : w.heap.size ≤ w'.heap.size
  block : ∀ k, k < w.heap.size → k ∉ fs → w'.heap[k]? = w.heap[k]?
theorem Chg.refl (fs : List Nat) (w : World) : Chg fs w w := ⟨rfl, rfl, rfl, Nat.le_refl _, fun _ _ _ => rfl⟩
theorem Chg.trans {fs : List Nat} {a b c : World} (h : Chg fs a b) (k : Chg fs b c) : Chg fs a c := ⟨k.os.trans h.os, k.tape.trans h.tape, k.output.trans h.output, Nat.le_trans h.size k.size, fun i hi hn => (k.block i (Nat.lt_of_lt_of_le hi h.size) hn).trans (h.block i hi hn)⟩
theorem Chg.of_below {fs : List Nat} {a b : World} (h : Below a.heap.size a b) : Chg fs a b := ⟨h.os, h.tape, h.output, h.size, fun k hk _ => h.block k hk⟩
theorem Chg.mono {fs gs : List Nat} {a b : World} (h : Chg fs a b) (hs : ∀ k ∈ fs, k ∈ gs) : Chg gs a b := ⟨h.os, h.tape, h.output, h.size, fun k hk hn => h.block k hk (fun hf => hn (hs k hf))⟩
theorem Chg.below {fs : List Nat} {a b : World} (h : Chg fs a b) {B : Nat} (hB : ∀ k ∈ fs, B ≤ k) (hs : B ≤ a.heap.size) : Below B a b := ⟨h.os, h.tape, h.output, h.size, fun k hk => h.block k (by omega) (fun hf => by have := hB k hf; omega)⟩
theorem Chg.drew {fs : List Nat} {a b : World} (h : Chg fs a b) : Chg fs a b.drew := ⟨h.os, h.tape, h.output, h.size, h.block⟩
theorem Chg.setCell (w : World) (g i : Nat) (v : Value) : Chg [g] w (w.setCell ⟨g, i, none⟩ v) := ⟨rfl, rfl, rfl, by simp [World.setCell], fun k _ hn => heap_setCell_other _ _ _ _ (fun e => hn (by simp; exact e))⟩
theorem Chg.setCells (g : Nat) : ∀ (l : List Value) (o : Nat) (w : World), Chg [g] w (w.setCells g o l)
  | [], _, w => Chg.refl _ w
  | v :: vs, o, w => (Chg.setCell w g o v).trans (Chg.setCells g vs (o + 1) (w.setCell ⟨g, o, none⟩ v))
theorem Chg.alloc (fs : List Nat) (w : World) (o : Obj) : Chg fs w (w.alloc o) := ⟨rfl, rfl, rfl, by simp, fun k hk _ => Below.heap_alloc w o k hk⟩
theorem Chg.grown {w w' : World} {row : Option Nat} (h : w.grownBy w' row) : Chg row.toList w w' := ⟨h.os, h.tape, h.output, h.size, fun k hk hn => h.block k hk (fun e => hn (by rw [← e]; simp))⟩
/- a thing that lay in the blocks fs and lies in the blocks fs' now: only these have turned, and what is new is new -/
structure Turn (fs fs' : List Nat) (w w' : World) : Prop where
  chg : Chg fs w w'
  grow : ∀ k ∈ fs', k ∈ fs ∨ w.heap.size ≤ k
theorem Turn.refl (fs : List Nat) (w : World) : Turn fs fs w w := ⟨Chg.refl fs w, fun _ h => .inl h⟩
theorem Turn.trans {fs gs hs : List Nat} {a b c : World} (h : Turn fs gs a b) (k : Turn gs hs b c) : Turn fs hs a c := by
  refine ⟨⟨k.chg.os.trans h.chg.os, k.chg.tape.trans h.chg.tape, k.chg.output.trans h.chg.output, Nat.le_trans h.chg.size k.chg.size, fun i hi hn => (k.chg.block i (Nat.lt_of_lt_of_le hi h.chg.size) (fun hg => ?_)).trans (h.chg.block i hi hn)⟩, fun i hi => ?_⟩
  · rcases h.grow i hg with h1 | h1
    · exact hn h1
    · omega
  · rcases k.grow i hi with h1 | h1
    · exact h.grow i h1
    · exact .inr (Nat.le_trans h.chg.size h1)
theorem Turn.of_below {fs : List Nat} {a b : World} (h : Below a.heap.size a b) : Turn fs fs a b := ⟨Chg.of_below h, fun _ h => .inl h⟩
theorem Turn.below {fs gs : List Nat} {a b : World} (h : Turn fs gs a b) {B : Nat} (hB : ∀ k ∈ fs, B ≤ k) (hs : B ≤ a.heap.size) : Below B a b := h.chg.below hB hs
theorem Turn.above {fs gs : List Nat} {a b : World} (h : Turn fs gs a b) {B : Nat} (hB : ∀ k ∈ fs, B ≤ k) (hs : B ≤ a.heap.size) : ∀ k ∈ gs, B ≤ k := fun k hk => by
  rcases h.grow k hk with h1 | h1
  · exact hB k h1
  · omega
theorem Turn.apart {fs gs rs : List Nat} {a b : World} (h : Turn fs gs a b) (hd : ∀ k ∈ rs, k ∉ fs) (hl : ∀ k ∈ rs, k < a.heap.size) : ∀ k ∈ rs, k ∉ gs := fun k hk hg => by
  rcases h.grow k hg with h1 | h1
  · exact hd k hk h1
  · have := hl k hk; omega
theorem Turn.drew {fs gs : List Nat} {a b : World} (h : Turn fs gs a b) : Turn fs gs a b.drew := ⟨h.chg.drew, h.grow⟩
theorem own_keep {w w' : World} {base e size n : Nat} {v : Value} {xs : List Value} (h : w.ownsRow base e size v n xs) (hb : ∀ k, v.ownBlock = some k → w'.heap[k]? = w.heap[k]?) : w'.ownsRow base e size v n xs := by
  refine ⟨h.1, ?_⟩
  rcases h.2 with hn | ⟨g, cap, cur, rfl, hb', hgg, rest⟩
  · exact .inl hn
  · exact .inr ⟨g, cap, cur, rfl, hb', (hb g rfl).trans hgg, rest⟩
/- the program's disk: at block g, its sectors at block kg, what is pending in the slice v -/
def dcells (s : Sc.St) (kg : Nat) (v : Value) : Array Value := #[.slice (some ⟨kg, 0, none⟩) s.kept.length s.kept.length, v, .bool s.down, .int .i64 s.left, .int .i64 (s.dn : Int)]
def foot (g kg : Nat) (v : Value) : List Nat := g :: kg :: v.ownBlock.toList
structure Dk (w : World) (g kg : Nat) (v : Value) (s : Sc.St) : Prop where
  row : w.heap[g]? = some (.cells (dcells s kg v) 97 (0, 0))
  kept : w.heap[kg]? = some (.cells (s.kept.flatMap bc).toArray 109 (0, 0))
  pend : w.ownsRow 0 111 65 v s.pend.length (s.pend.flatMap wc)
  gk : g ≠ kg
  gp : v.ownBlock ≠ some g
  kp : v.ownBlock ≠ some kg
  ok : Sc.Ok s
section
variable {w w' : World} {g kg : Nat} {v : Value} {s : Sc.St}
theorem Dk.cell (H : Dk w g kg v s) (i : Nat) : w.cell? ⟨g, i, none⟩ = (dcells s kg v)[i]? := cell_of_row w g i _ _ (0, 0) H.row
theorem Dk.c0 (H : Dk w g kg v s) : w.cell? ⟨g, 0, none⟩ = some (.slice (some ⟨kg, 0, none⟩) s.kept.length s.kept.length) := by rw [H.cell]; rfl
theorem Dk.c1 (H : Dk w g kg v s) : w.cell? ⟨g, 1, none⟩ = some v := by rw [H.cell]; rfl
theorem Dk.c2 (H : Dk w g kg v s) : w.cell? ⟨g, 2, none⟩ = some (.bool s.down) := by rw [H.cell]; rfl
theorem Dk.c3 (H : Dk w g kg v s) : w.cell? ⟨g, 3, none⟩ = some (.int .i64 s.left) := by rw [H.cell]; rfl
theorem Dk.c4 (H : Dk w g kg v s) : w.cell? ⟨g, 4, none⟩ = some (.int .i64 (s.dn : Int)) := by rw [H.cell]; rfl
theorem Dk.fz (H : Dk w g kg v s) (i : Nat) : w.frozen? ⟨g, i, none⟩ = false := frozen_of_row w g i _ _ H.row
theorem Dk.lt (H : Dk w g kg v s) : ∀ k ∈ foot g kg v, k < w.heap.size := fun k hk => by
  unfold foot at hk
  rcases List.mem_cons.1 hk with rfl | hk
  · exact (Array.getElem?_eq_some_iff.1 H.row).1
  · rcases List.mem_cons.1 hk with rfl | hk
    · exact (Array.getElem?_eq_some_iff.1 H.kept).1
    · exact (H.pend.lt k (by simpa using hk)).2
theorem Dk.keep (H : Dk w g kg v s) {fs : List Nat} (h : Chg fs w w') (ha : ∀ k ∈ foot g kg v, k ∉ fs) : Dk w' g kg v s := by
  have e : ∀ k ∈ foot g kg v, w'.heap[k]? = w.heap[k]? := fun k hk => h.block k (H.lt k hk) (ha k hk)
  refine ⟨(e g (by simp [foot])).trans H.row, (e kg (by simp [foot])).trans H.kept, own_keep H.pend (fun k hk => e k (by simp [foot, hk])), H.gk, H.gp, H.kp, H.ok⟩
theorem Dk.below (H : Dk w g kg v s) (h : Below w.heap.size w w') : Dk w' g kg v s := H.keep (fs := []) (Chg.of_below h) (fun _ _ h => by cases h)
theorem Dk.alloc (H : Dk w g kg v s) (o : Obj) : Dk (w.alloc o) g kg v s := H.keep (Chg.alloc [] w o) (fun _ _ h => by cases h)
theorem Dk.drew (H : Dk w g kg v s) : Dk w.drew g kg v s := ⟨H.row, H.kept, H.pend, H.gk, H.gp, H.kp, H.ok⟩
/- a cell of the disk itself is written -/
theorem Dk.set (H : Dk w g kg v s) {t : Sc.St} {u : Value} (i : Nat) (x : Value) (e : (dcells s kg v).setIfInBounds i x = dcells t kg u) (hk : t.kept = s.kept) (hu : (w.setCell ⟨g, i, none⟩ x).ownsRow 0 111 65 u t.pend.length (t.pend.flatMap wc)) (hg : u.ownBlock ≠ some g) (hq : u.ownBlock ≠ some kg) (ok : Sc.Ok t) : Dk (w.setCell ⟨g, i, none⟩ x) g kg u t := by
  refine ⟨?_, ?_, hu, H.gk, hg, hq, ok⟩
  · rw [heap_setCell_same w g i _ _ _ H.row, e]
  · rw [heap_setCell_other _ _ _ _ (by exact Ne.symm H.gk), hk]; exact H.kept
theorem Dk.setSame (H : Dk w g kg v s) {t : Sc.St} (i : Nat) (x : Value) (e : (dcells s kg v).setIfInBounds i x = dcells t kg v) (hk : t.kept = s.kept) (hp : t.pend = s.pend) (ok : Sc.Ok t) : Dk (w.setCell ⟨g, i, none⟩ x) g kg v t :=
  H.set i x e hk (by rw [hp]; exact own_keep H.pend (fun k hk => heap_setCell_other _ _ _ _ (fun e => H.gp (by rw [hk, e])))) H.gp H.kp ok
theorem foot_set (g kg : Nat) (v : Value) (w : World) (i : Nat) (x : Value) : Turn (foot g kg v) (foot g kg v) w (w.setCell ⟨g, i, none⟩ x) := ⟨(Chg.setCell w g i x).mono (fun k hk => by rw [List.mem_singleton.1 hk]; simp [foot]), fun _ h => .inl h⟩
theorem kept_length (h : Sc.Ok s) : (s.kept.flatMap bc).length = s.kept.length * 64 := flat_length bc 64 _ (fun x hx => by rw [bc_length]; exact h.size x hx)
/- one sector -/
theorem Dk.sector (H : Dk w g kg v s) {i : Nat} (hi : i < s.kept.length) : w.rangeAt kg (i * 64) (bc (s.kept.getD i Sc.zero64)) := fun j u hu => by
  have e := H.ok.size
  have hx : s.kept[i]? = some (s.kept.getD i Sc.zero64) := by rw [List.getD_eq_getElem?_getD, List.getElem?_eq_getElem hi]; rfl
  have hj : j < 64 := by
    have := (List.getElem?_eq_some_iff.1 hu).1
    rwa [bc_length, Sc.getD_size e] at this
  rw [cell_of_row w kg _ _ _ (0, 0) H.kept, List.getElem?_toArray, flat_at bc 64 _ i _ j (fun x hx => by rw [bc_length]; exact e x hx) hx hj]
  exact hu
theorem Dk.there (H : Dk w g kg v s) {i : Nat} (hi : i < s.kept.length) : w.there kg (i * 64) 64 := fun j hj => by
  refine ⟨?_, frozen_of_row w kg _ _ _ H.kept⟩
  rw [cell_of_row w kg _ _ _ (0, 0) H.kept, List.getElem?_toArray, List.getElem?_eq_getElem (by rw [kept_length H.ok]; omega)]
  rfl
/- a sector is written -/
theorem Dk.setKept (H : Dk w g kg v s) {i : Nat} {x : ByteArray} (hi : i < s.kept.length) (hx : x.size = 64) : Dk (w.setCells kg (i * 64) (bc x)) g kg v { s with kept := s.kept.set i x } := by
  have c := Chg.setCells kg (bc x) (i * 64) w
  have lt := H.lt
  refine ⟨?_, ?_, own_keep H.pend (fun k hk => c.block k (lt k (by simp [foot, hk])) (fun hm => H.kp (by rw [hk, List.mem_singleton.1 hm]))), H.gk, H.gp, H.kp, ⟨by simpa using H.ok.one, by simpa using H.ok.most, fun y hy => ?_, by simpa using H.ok.pat, H.ok.psize, H.ok.left⟩⟩
  · rw [c.block g (lt g (by simp [foot])) (fun hm => H.gk (List.mem_singleton.1 hm)), H.row]
    simp [dcells]
  · rw [setCells_splice kg _ (bc x) (i * 64) _ w H.kept (by rw [kept_length H.ok, bc_length, hx]; omega), flat_set bc 64 _ i x (fun y hy => by rw [bc_length]; exact H.ok.size y hy) (by rw [bc_length, hx]) hi]
  · rcases List.mem_or_eq_of_mem_set hy with h | h
    · exact H.ok.size y h
    · rw [h]; exact hx
theorem foot_kept (g kg : Nat) (v : Value) (w : World) (o : Nat) (l : List Value) : Turn (foot g kg v) (foot g kg v) w (w.setCells kg o l) := ⟨(Chg.setCells kg l o w).mono (fun k hk => by rw [List.mem_singleton.1 hk]; simp [foot]), fun _ h => .inl h⟩
/- what is pending, laid open: nothing, or a row -/
theorem Dk.open (H : Dk w g kg v s) : (v = .slice none 0 0 ∧ s.pend = []) ∨ ∃ pg cap, v = .slice (some ⟨pg, 0, none⟩) s.pend.length cap ∧ s.pend.length ≤ cap ∧ cap ≤ 9223372036854775807 ∧ ∀ i p, s.pend[i]? = some p → w.rangeAt pg (i * 65) (wc p) := by
  rcases H.pend.2 with ⟨h1, h2⟩ | ⟨pg, cap, cur, h1, _, hh, h2, h3, h4, h5⟩
  · exact .inl ⟨h1, List.length_eq_zero_iff.1 h2⟩
  · unfold maxLen at h3
    refine .inr ⟨pg, cap, h1, h2, by omega, fun i p hp j u hu => ?_⟩
    have hl : ∀ q ∈ s.pend, (wc q).length = 65 := fun q hq => wc_length (H.ok.psize q hq)
    have hj : j < 65 := by
      have := (List.getElem?_eq_some_iff.1 hu).1
      rwa [hl p (List.mem_of_getElem? hp)] at this
    have hi := (List.getElem?_eq_some_iff.1 hp).1
    have e := flat_at wc 65 _ i p j hl hp hj
    rw [hu, ← h5, List.getElem?_take_of_lt (by omega)] at e
    rw [cell_of_row w pg _ _ _ (0, 0) hh]
    simpa using e
end
end Go.Proofs.YtcfninpokngmlaaGreatDoor
