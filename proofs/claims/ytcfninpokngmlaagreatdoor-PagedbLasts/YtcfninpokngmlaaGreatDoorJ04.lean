/- Proved: how a disk lies in memory, the program's and the document's, and what a call may turn of it. -/
import Derived.Test.YtcfninpokngmlaaGreatDoorJ01
import Derived.Test.YtcfninpokngmlaaGreatDoorRows
import Derived.WalkKit
import Derived.ProofKit
import Derived.Deep.MidRow
import Derived.Maps.AppendAt
import Derived.Laws.Rows
import Derived.Laws.Tables
import Derived.WalkSpells
import Derived.WalkLawsBesides
import Derived.Laws.BitsAllLaws
import Derived.Deep.RegionHeld3
namespace Go.Proofs.YtcfninpokngmlaaGreatDoor
open Go.RowKit
/- an equation that is kept from tactics -/
structure Is {α : Type} (a b : α) : Prop where
  eq : a = b
def splice {α : Type} (L : List α) (o : Nat) (l : List α) : List α := L.take o ++ l ++ L.drop (o + l.length)
theorem splice_step {α : Type} (cur : List α) (o : Nat) (v : α) (vs : List α) (h : o < cur.length) : splice (cur.set o v) (o + 1) vs = splice cur o (v :: vs) := by
  unfold splice
  rw [List.take_set, List.drop_set, List.length_cons, if_pos (by omega), show o + 1 + vs.length = o + (vs.length + 1) by omega, List.take_succ_eq_append_getElem h, List.set_append_right _ _ (by simp; omega)]
  simp [Nat.min_eq_left (Nat.le_of_lt h)]
theorem setCells_splice (g t : Nat) : ∀ (l : List Value) (o : Nat) (cur : List Value) (w : World), w.heap[g]? = some (.cells cur.toArray t (0, 0)) → o + l.length ≤ cur.length → (w.setCells g o l).heap[g]? = some (.cells (splice cur o l).toArray t (0, 0))
  | [], o, cur, w, hg, _ => by
    have e : splice cur o [] = cur := by simp [splice]
    rw [e]; exact hg
  | v :: vs, o, cur, w, hg, hl => by
    rw [List.length_cons] at hl
    rw [← splice_step cur o v vs (by omega)]
    refine setCells_splice g t vs (o + 1) (cur.set o v) (w.setCell ⟨g, o, none⟩ v) ?_ (by rw [List.length_set]; omega)
    rw [heap_setCell_same w g o _ t _ hg, List.setIfInBounds_toArray]
/- lists of things that have n cells each -/
theorem flat_length {α : Type} (f : α → List Value) (n : Nat) : ∀ (l : List α), (∀ x ∈ l, (f x).length = n) → (l.flatMap f).length = l.length * n
  | [], _ => by simp
  | x :: l, h => by
    rw [List.flatMap_cons, List.length_append, h x List.mem_cons_self, flat_length f n l (fun y hy => h y (List.mem_cons_of_mem _ hy)), List.length_cons, Nat.succ_mul]
    omega
theorem flat_at {α : Type} (f : α → List Value) (n : Nat) : ∀ (l : List α) (i : Nat) (x : α) (j : Nat), (∀ x ∈ l, (f x).length = n) → l[i]? = some x → j < n → (l.flatMap f)[i * n + j]? = (f x)[j]?
  | [], i, x, j, _, h, _ => by simp at h
  | y :: l, 0, x, j, hf, h, hj => by
    have := hf y List.mem_cons_self
    simp at h
    subst h
    rw [List.flatMap_cons, Nat.zero_mul, Nat.zero_add, List.getElem?_append_left (by omega)]
  | y :: l, i + 1, x, j, hf, h, hj => by
    have e := hf y List.mem_cons_self
    rw [List.flatMap_cons, List.getElem?_append_right (by rw [e, Nat.succ_mul]; omega), e, show (i + 1) * n + j - n = i * n + j by rw [Nat.succ_mul]; omega]
    exact flat_at f n l i x j (fun z hz => hf z (List.mem_cons_of_mem _ hz)) (by simpa using h) hj
theorem flat_set {α : Type} (f : α → List Value) (n : Nat) : ∀ (l : List α) (i : Nat) (y : α), (∀ x ∈ l, (f x).length = n) → (f y).length = n → i < l.length → splice (l.flatMap f) (i * n) (f y) = (l.set i y).flatMap f
  | [], i, y, _, _, h => by simp at h
  | x :: l, 0, y, hf, hy, _ => by
    have e := hf x List.mem_cons_self
    unfold splice
    rw [List.flatMap_cons, Nat.zero_mul, Nat.zero_add, hy, List.take_zero, List.nil_append, List.set_cons_zero, List.flatMap_cons, List.drop_left' e]
  | x :: l, i + 1, y, hf, hy, h => by
    have e := hf x List.mem_cons_self
    have ih := flat_set f n l i y (fun z hz => hf z (List.mem_cons_of_mem _ hz)) hy (by simpa using h)
    rw [List.set_cons_succ, List.flatMap_cons, List.flatMap_cons, ← ih]
    unfold splice
    rw [hy, Nat.succ_mul, List.take_append, List.drop_append, e, List.take_of_length_le (by omega), List.drop_eq_nil_of_le (by omega), show i * n + n - n = i * n by omega, show i * n + n + n - n = i * n + n by omega]
    simp
/- the cells of a sector, of a write that is pending -/
def bc (x : ByteArray) : List Value := x.data.toList.map fun b => Value.int .u8 (b.toNat : Int)
def wc (p : Nat × ByteArray) : List Value := .int .i64 (p.1 : Int) :: bc p.2
theorem bc_length (x : ByteArray) : (bc x).length = x.size := by rw [bc, List.length_map, Sc.size_eq]
theorem wc_length {p : Nat × ByteArray} (h : p.2.size = 64) : (wc p).length = 65 := by rw [wc, List.length_cons, bc_length, h]
theorem bc_one (x : ByteArray) : ∀ v ∈ bc x, v.oneCell' = true := fun v hv => by
  obtain ⟨b, _, rfl⟩ := List.mem_map.1 hv
  rfl
theorem wc_one (p : Nat × ByteArray) : ∀ v ∈ wc p, v.oneCell' = true := fun v hv => by
  rcases List.mem_cons.1 hv with rfl | hv
  · rfl
  · exact bc_one p.2 v hv
/- nothing that was there has turned but the blocks of fs -/
structure Chg (fs : List Nat) (w w' : World) : Prop where
  os : w'.os = w.os
  tape : w'.tape = w.tape
  output : w'.output = w.output
  size : w.heap.size ≤ w'.heap.size
  block : ∀ k, k < w.heap.size → k ∉ fs → w'.heap[k]? = w.heap[k]?
theorem Chg.refl (fs : List Nat) (w : World) : Chg fs w w := ⟨rfl, rfl, rfl, Nat.le_refl _, fun _ _ _ => rfl⟩
theorem Chg.trans {fs : List Nat} {a b c : World} (h : Chg fs a b) (k : Chg fs b c) : Chg fs a c := ⟨k.os.trans h.os, k.tape.trans h.tape, k.output.trans h.output, Nat.le_trans h.size k.size, fun i hi hn => (k.block i (Nat.lt_of_lt_of_le hi h.size) hn).trans (h.block i hi hn)⟩
theorem Chg.of_below {fs : List Nat} {a b : World} (h : Below a.heap.size a b) : Chg fs a b := ⟨h.os, h.tape, h.output, h.size, fun k hk _ => h.block k hk⟩
theorem Chg.mono {fs gs : List Nat} {a b : World} (h : Chg fs a b) (hs : ∀ k ∈ fs, k ∈ gs) : Chg gs a b := ⟨h.os, h.tape, h.output, h.size, fun k hk hn => h.block k hk (fun hf => hn (hs k hf))⟩
theorem Chg.below {fs : List Nat} {a b : World} (h : Chg fs a b) {B : Nat} (hB : ∀ k ∈ fs, B ≤ k) (hs : B ≤ a.heap.size) : Below B a b := ⟨h.os, h.tape, h.output, h.size, fun k hk => h.block k (by omega) (fun hf => by have := hB k hf; omega)⟩
theorem Chg.drew {fs : List Nat} {a b : World} (h : Chg fs a b) : Chg fs a b.drew := ⟨h.os, h.tape, h.output, h.size, h.block⟩
theorem Chg.setCell (w : World) (g i : Nat) (v : Value) : Chg [g] w (w.setCell ⟨g, i, none⟩ v) := ⟨rfl, rfl, rfl, by simp [World.setCell], fun k _ hn => heap_setCell_other _ _ _ _ (fun e => hn (by simp; exact e))⟩
theorem Chg.setCells (g : Nat) : ∀ (l : List Value) (o : Nat) (w : World), Chg [g] w (w.setCells g o l)
  | [], _, w => Chg.refl _ w
  | v :: vs, o, w => (Chg.setCell w g o v).trans (Chg.setCells g vs (o + 1) (w.setCell ⟨g, o, none⟩ v))
theorem Chg.alloc (fs : List Nat) (w : World) (o : Obj) : Chg fs w (w.alloc o) := ⟨rfl, rfl, rfl, by simp, fun k hk _ => Below.heap_alloc w o k hk⟩
theorem Chg.grown {w w' : World} {row : Option Nat} (h : w.grownBy w' row) : Chg row.toList w w' := ⟨h.os, h.tape, h.output, h.size, fun k hk hn => h.block k hk (fun e => hn (by rw [← e]; simp))⟩
/- a thing that lay in the blocks fs and lies in the blocks fs' now: only these have turned, and what is new is new -/
structure Turn (fs fs' : List Nat) (w w' : World) : Prop where
  chg : Chg fs w w'
  grow : ∀ k ∈ fs', k ∈ fs ∨ w.heap.size ≤ k
theorem Turn.refl (fs : List Nat) (w : World) : Turn fs fs w w := ⟨Chg.refl fs w, fun _ h => .inl h⟩
theorem Turn.trans {fs gs hs : List Nat} {a b c : World} (h : Turn fs gs a b) (k : Turn gs hs b c) : Turn fs hs a c := by
  refine ⟨⟨k.chg.os.trans h.chg.os, k.chg.tape.trans h.chg.tape, k.chg.output.trans h.chg.output, Nat.le_trans h.chg.size k.chg.size, fun i hi hn => (k.chg.block i (Nat.lt_of_lt_of_le hi h.chg.size) (fun hg => ?_)).trans (h.chg.block i hi hn)⟩, fun i hi => ?_⟩
  · rcases h.grow i hg with h1 | h1
    · exact hn h1
    · omega
  · rcases k.grow i hi with h1 | h1
    · exact h.grow i h1
    · exact .inr (Nat.le_trans h.chg.size h1)
theorem Turn.of_below {fs : List Nat} {a b : World} (h : Below a.heap.size a b) : Turn fs fs a b := ⟨Chg.of_below h, fun _ h => .inl h⟩
theorem Turn.below {fs gs : List Nat} {a b : World} (h : Turn fs gs a b) {B : Nat} (hB : ∀ k ∈ fs, B ≤ k) (hs : B ≤ a.heap.size) : Below B a b := h.chg.below hB hs
theorem Turn.above {fs gs : List Nat} {a b : World} (h : Turn fs gs a b) {B : Nat} (hB : ∀ k ∈ fs, B ≤ k) (hs : B ≤ a.heap.size) : ∀ k ∈ gs, B ≤ k := fun k hk => by
  rcases h.grow k hk with h1 | h1
  · exact hB k h1
  · omega
theorem Turn.apart {fs gs rs : List Nat} {a b : World} (h : Turn fs gs a b) (hd : ∀ k ∈ rs, k ∉ fs) (hl : ∀ k ∈ rs, k < a.heap.size) : ∀ k ∈ rs, k ∉ gs := fun k hk hg => by
  rcases h.grow k hg with h1 | h1
  · exact hd k hk h1
  · have := hl k hk; omega
theorem Turn.drew {fs gs : List Nat} {a b : World} (h : Turn fs gs a b) : Turn fs gs a b.drew := ⟨h.chg.drew, h.grow⟩
theorem own_keep {w w' : World} {base e size n : Nat} {v : Value} {xs : List Value} (h : w.ownsRow base e size v n xs) (hb : ∀ k, v.ownBlock = some k → w'.heap[k]? = w.heap[k]?) : w'.ownsRow base e size v n xs := by
  refine ⟨h.1, ?_⟩
  rcases h.2 with hn | ⟨g, cap, cur, rfl, hb', hgg, rest⟩
  · exact .inl hn
  · exact .inr ⟨g, cap, cur, rfl, hb', (hb g rfl).trans hgg, rest⟩
/- the program's disk: at block g, its sectors at block kg, what is pending in the slice v -/
def dcells (s : Sc.St) (kg : Nat) (v : Value) : Array Value := #[.slice (some ⟨kg, 0, none⟩) s.kept.length s.kept.length, v, .bool s.down, .int .i64 s.left, .int .i64 (s.dn : Int)]
def foot (g kg : Nat) (v : Value) : List Nat := g :: kg :: v.ownBlock.toList
structure Dk (w : World) (g kg : Nat) (v : Value) (s : Sc.St) : Prop where
  row : w.heap[g]? = some (.cells (dcells s kg v) 97 (0, 0))
  kept : w.heap[kg]? = some (.cells (s.kept.flatMap bc).toArray 109 (0, 0))
  pend : w.ownsRow 0 111 65 v s.pend.length (s.pend.flatMap wc)
  gk : g ≠ kg
  gp : v.ownBlock ≠ some g
  kp : v.ownBlock ≠ some kg
  ok : Sc.Ok s
section
variable {w w' : World} {g kg : Nat} {v : Value} {s : Sc.St}
theorem Dk.cell (H : Dk w g kg v s) (i : Nat) : w.cell? ⟨g, i, none⟩ = (dcells s kg v)[i]? := cell_of_row w g i _ _ (0, 0) H.row
theorem Dk.c0 (H : Dk w g kg v s) : w.cell? ⟨g, 0, none⟩ = some (.slice (some ⟨kg, 0, none⟩) s.kept.length s.kept.length) := by rw [H.cell]; rfl
theorem Dk.c1 (H : Dk w g kg v s) : w.cell? ⟨g, 1, none⟩ = some v := by rw [H.cell]; rfl
theorem Dk.c2 (H : Dk w g kg v s) : w.cell? ⟨g, 2, none⟩ = some (.bool s.down) := by rw [H.cell]; rfl
theorem Dk.c3 (H : Dk w g kg v s) : w.cell? ⟨g, 3, none⟩ = some (.int .i64 s.left) := by rw [H.cell]; rfl
theorem Dk.c4 (H : Dk w g kg v s) : w.cell? ⟨g, 4, none⟩ = some (.int .i64 (s.dn : Int)) := by rw [H.cell]; rfl
theorem Dk.fz (H : Dk w g kg v s) (i : Nat) : w.frozen? ⟨g, i, none⟩ = false := frozen_of_row w g i _ _ H.row
theorem Dk.lt (H : Dk w g kg v s) : ∀ k ∈ foot g kg v, k < w.heap.size := fun k hk => by
  unfold foot at hk
  rcases List.mem_cons.1 hk with rfl | hk
  · exact (Array.getElem?_eq_some_iff.1 H.row).1
  · rcases List.mem_cons.1 hk with rfl | hk
    · exact (Array.getElem?_eq_some_iff.1 H.kept).1
    · exact (H.pend.lt k (by simpa using hk)).2
theorem Dk.keep (H : Dk w g kg v s) {fs : List Nat} (h : Chg fs w w') (ha : ∀ k ∈ foot g kg v, k ∉ fs) : Dk w' g kg v s := by
  have e : ∀ k ∈ foot g kg v, w'.heap[k]? = w.heap[k]? := fun k hk => h.block k (H.lt k hk) (ha k hk)
  refine ⟨(e g (by simp [foot])).trans H.row, (e kg (by simp [foot])).trans H.kept, own_keep H.pend (fun k hk => e k (by simp [foot, hk])), H.gk, H.gp, H.kp, H.ok⟩
theorem Dk.below (H : Dk w g kg v s) (h : Below w.heap.size w w') : Dk w' g kg v s := H.keep (fs := []) (Chg.of_below h) (fun _ _ h => by cases h)
theorem Dk.alloc (H : Dk w g kg v s) (o : Obj) : Dk (w.alloc o) g kg v s := H.keep (Chg.alloc [] w o) (fun _ _ h => by cases h)
theorem Dk.drew (H : Dk w g kg v s) : Dk w.drew g kg v s := ⟨H.row, H.kept, H.pend, H.gk, H.gp, H.kp, H.ok⟩
/- a cell of the disk itself is written -/
theorem Dk.set (H : Dk w g kg v s) {t : Sc.St} {u : Value} (i : Nat) (x : Value) (e : (dcells s kg v).setIfInBounds i x = dcells t kg u) (hk : t.kept = s.kept) (hu : (w.setCell ⟨g, i, none⟩ x).ownsRow 0 111 65 u t.pend.length (t.pend.flatMap wc)) (hg : u.ownBlock ≠ some g) (hq : u.ownBlock ≠ some kg) (ok : Sc.Ok t) : Dk (w.setCell ⟨g, i, none⟩ x) g kg u t := by
  refine ⟨?_, ?_, hu, H.gk, hg, hq, ok⟩
  · rw [heap_setCell_same w g i _ _ _ H.row, e]
  · rw [heap_setCell_other _ _ _ _ (by exact Ne.symm H.gk), hk]; exact H.kept
theorem Dk.setSame (H : Dk w g kg v s) {t : Sc.St} (i : Nat) (x : Value) (e : (dcells s kg v).setIfInBounds i x = dcells t kg v) (hk : t.kept = s.kept) (hp : t.pend = s.pend) (ok : Sc.Ok t) : Dk (w.setCell ⟨g, i, none⟩ x) g kg v t :=
  H.set i x e hk (by rw [hp]; exact own_keep H.pend (fun k hk => heap_setCell_other _ _ _ _ (fun e => H.gp (by rw [hk, e])))) H.gp H.kp ok
theorem foot_set (g kg : Nat) (v : Value) (w : World) (i : Nat) (x : Value) : Turn (foot g kg v) (foot g kg v) w (w.setCell ⟨g, i, none⟩ x) := ⟨(Chg.setCell w g i x).mono (fun k hk => by rw [List.mem_singleton.1 hk]; simp [foot]), fun _ h => .inl h⟩
theorem kept_length (h : Sc.Ok s) : (s.kept.flatMap bc).length = s.kept.length * 64 := flat_length bc 64 _ (fun x hx => by rw [bc_length]; exact h.size x hx)
/- one sector -/
theorem Dk.sector (H : Dk w g kg v s) {i : Nat} (hi : i < s.kept.length) : w.rangeAt kg (i * 64) (bc (s.kept.getD i Sc.zero64)) := fun j u hu => by
  have e := H.ok.size
  have hx : s.kept[i]? = some (s.kept.getD i Sc.zero64) := by rw [List.getD_eq_getElem?_getD, List.getElem?_eq_getElem hi]; rfl
  have hj : j < 64 := by
    have := (List.getElem?_eq_some_iff.1 hu).1
    rwa [bc_length, Sc.getD_size e] at this
  rw [cell_of_row w kg _ _ _ (0, 0) H.kept, List.getElem?_toArray, flat_at bc 64 _ i _ j (fun x hx => by rw [bc_length]; exact e x hx) hx hj]
  exact hu
theorem Dk.there (H : Dk w g kg v s) {i : Nat} (hi : i < s.kept.length) : w.there kg (i * 64) 64 := fun j hj => by
  refine ⟨?_, frozen_of_row w kg _ _ _ H.kept⟩
  rw [cell_of_row w kg _ _ _ (0, 0) H.kept, List.getElem?_toArray, List.getElem?_eq_getElem (by rw [kept_length H.ok]; omega)]
  rfl
/- a sector is written -/
theorem Dk.setKept (H : Dk w g kg v s) {i : Nat} {x : ByteArray} (hi : i < s.kept.length) (hx : x.size = 64) : Dk (w.setCells kg (i * 64) (bc x)) g kg v { s with kept := s.kept.set i x } := by
  have c := Chg.setCells kg (bc x) (i * 64) w
  have lt := H.lt
  refine ⟨?_, ?_, own_keep H.pend (fun k hk => c.block k (lt k (by simp [foot, hk])) (fun hm => H.kp (by rw [hk, List.mem_singleton.1 hm]))), H.gk, H.gp, H.kp, ⟨by simpa using H.ok.one, by simpa using H.ok.most, fun y hy => ?_, by simpa using H.ok.pat, H.ok.psize, H.ok.left⟩⟩
  · rw [c.block g (lt g (by simp [foot])) (fun hm => H.gk (List.mem_singleton.1 hm)), H.row]
    simp [dcells]
  · rw [setCells_splice kg _ (bc x) (i * 64) _ w H.kept (by rw [kept_length H.ok, bc_length, hx]; omega), flat_set bc 64 _ i x (fun y hy => by rw [bc_length]; exact H.ok.size y hy) (by rw [bc_length, hx]) hi]
  · rcases List.mem_or_eq_of_mem_set hy with h | h
    · exact H.ok.size y h
    · rw [h]; exact hx
theorem foot_kept (g kg : Nat) (v : Value) (w : World) (o : Nat) (l : List Value) : Turn (foot g kg v) (foot g kg v) w (w.setCells kg o l) := ⟨(Chg.setCells kg l o w).mono (fun k hk => by rw [List.mem_singleton.1 hk]; simp [foot]), fun _ h => .inl h⟩
/- what is pending, laid open: nothing, or a row -/
theorem Dk.open (H : Dk w g kg v s) : (v = .slice none 0 0 ∧ s.pend = []) ∨ ∃ pg cap, v = .slice (some ⟨pg, 0, none⟩) s.pend.length cap ∧ s.pend.length ≤ cap ∧ cap ≤ 9223372036854775807 ∧ ∀ i p, s.pend[i]? = some p → w.rangeAt pg (i * 65) (wc p) := by
  rcases H.pend.2 with ⟨h1, h2⟩ | ⟨pg, cap, cur, h1, _, hh, h2, h3, h4, h5⟩
  · exact .inl ⟨h1, List.length_eq_zero_iff.1 h2⟩
  · unfold maxLen at h3
    refine .inr ⟨pg, cap, h1, h2, by omega, fun i p hp j u hu => ?_⟩
    have hl : ∀ q ∈ s.pend, (wc q).length = 65 := fun q hq => wc_length (H.ok.psize q hq)
    have hj : j < 65 := by
      have := (List.getElem?_eq_some_iff.1 hu).1
      rwa [hl p (List.mem_of_getElem? hp)] at this
    have hi := (List.getElem?_eq_some_iff.1 hp).1
    have e := flat_at wc 65 _ i p j hl hp hj
    rw [hu, ← h5, List.getElem?_take_of_lt (by omega)] at e
    rw [cell_of_row w pg _ _ _ (0, 0) hh]
    simpa using e
end
end Go.Proofs.YtcfninpokngmlaaGreatDoor
/- Proved: what one call of take does, the program's by its table and the document's bit by bit. Conditions: the register is below 2^32, the byte below 256, and the table holds its sixteen numbers. -/
namespace Go.Proofs.YtcfninpokngmlaaGreatDoor
open Go.RowKit
def Tab (w : World) : Prop := ∀ i, i < 16 → w.cell? ⟨0, i, none⟩ = some (.int .u32 (Crc.nib i : Int))
theorem and15 (a : Nat) (h : a < 4294967296) : bits .and .u32 (a : Int) 15 = ((a % 16 : Nat) : Int) := by
  rw [show (15 : Int) = ((15 : Nat) : Int) from rfl, u32_and_nat a 15 h (by omega), nat_mask4]
theorem and1 (a : Nat) (h : a < 4294967296) : bits .and .u32 (a : Int) 1 = ((a % 2 : Nat) : Int) := by
  rw [show (1 : Int) = ((1 : Nat) : Int) from rfl, u32_and_nat a 1 h (by omega), nat_mask1]
theorem half_bits (a : Nat) (h : a < 4294967296) : bits .xor .u32 ((a : Int) / 16) (Crc.nib (a % 16) : Int) = (Crc.half a : Int) := by
  rw [show ((a : Int) / 16) = ((a / 16 : Nat) : Int) by omega, u32_xor_nat _ _ (by omega) (Crc.nib_lt _)]; rfl
set_option maxHeartbeats 400000 in
theorem take_any (r x : Nat) (w : World) (hr : r < 4294967296) (hx : x < 256) (hT : Tab w) :
    Calls Tryz.prog 153 #[.int .u32 (r : Int), .int .u8 (x : Int)] w fun e w' => e = .returned (.int .u32 (Crc.tk r x : Nat)) ∧ w' = w := by
  have h1 := u32_xor_nat r x hr (by omega)
  unfold Crc.tk
  have ha := Crc.xor_lt hr (show x < 4294967296 by omega)
  generalize r ^^^ x = a at *
  have h2 := and15 a ha
  have c1 := hT (a % 16) (by omega)
  have h3 := half_bits a ha
  have hb := Crc.half_lt ha
  generalize Crc.half a = b at *
  have h4 := and15 b hb
  have c2 := hT (b % 16) (by omega)
  have h5 := half_bits b hb
  go_enter Tryz.func153, Tryz.ntmps153
  go_wp2
  go_ret
  exact ⟨rfl, rfl⟩

/- the document's step, bit by bit -/
theorem bit_yes (a : Nat) (h : a < 4294967296) : bits .xor .u32 ((a : Int) / 2) 2197175160 = ((a / 2 ^^^ 2197175160 : Nat) : Int) := by
  rw [show ((a : Int) / 2) = ((a / 2 : Nat) : Int) by omega, show (2197175160 : Int) = ((2197175160 : Nat) : Int) from rfl, u32_xor_nat _ _ (by omega) (by omega)]
end Go.Proofs.YtcfninpokngmlaaGreatDoor
/- Proved: what Update and Sum answer for any bytes, the program's and the document's. Conditions: the slice has just these bytes, and the table its sixteen numbers. -/
namespace Go.Proofs.YtcfninpokngmlaaGreatDoor
open Go.RowKit
/- What a walk knows of a slice of bytes: its elements. -/
def Bytes (w : World) (a : Option Addr) (len : Nat) (bs : List Nat) : Prop :=
  bs.length = len ∧ (∀ x ∈ bs, x < 256) ∧ len ≤ 9223372036854775807 ∧ (len = 0 ∨ ∃ b off, a = some ⟨b, off, none⟩ ∧ ∀ i, i < len → w.cell? ⟨b, off + i, none⟩ = some (.int .u8 (bs.getD i 0 : Nat)))
theorem not32 (a : Nat) (h : a < 4294967296) : bits .xor .u32 (a : Int) 4294967295 = ((Crc.turn a : Nat) : Int) := by
  rw [show (4294967295 : Int) = ((4294967295 : Nat) : Int) from rfl, u32_xor_nat a _ h (by omega)]; rfl
theorem getD_lt {bs : List Nat} (h : ∀ x ∈ bs, x < 256) (i : Nat) (hi : i < bs.length) : bs.getD i 0 < 256 := by
  rw [List.getD_eq_getElem?_getD, List.getElem?_eq_getElem hi]; exact h _ (List.getElem_mem hi)
theorem not32' (a : Nat) (h : a < 4294967296) : bits .xor .u32 IntKind.u32.max (a : Int) = ((Crc.turn a : Nat) : Int) := by
  rw [show IntKind.u32.max = ((4294967295 : Nat) : Int) from rfl, u32_xor_nat _ a (by omega) h, Nat.xor_comm]; rfl
set_option maxHeartbeats 400000 in
theorem upd_any (s : Nat) (a : Option Addr) (len cap : Nat) (bs : List Nat) (w : World) (hs : s < 4294967296) (hB : Bytes w a len bs) (hT : Tab w) :
    Calls Tryz.prog 132 #[.int .u32 (s : Int), .slice a len cap] w fun e w' => e = .returned (.int .u32 (Crc.turn (Crc.fold (Crc.turn s) bs) : Nat)) ∧ w' = w := by
  obtain ⟨hl, hlt, hmax, hc⟩ := hB
  have h1 := not32' s hs
  have ha := Crc.turn_lt hs
  generalize Crc.turn s = t at *
  go_enter Tryz.func132, Tryz.ntmps132
  go_wp2
  go_loop [5, 7, 12] (fun t' _ i => ∃ k : Nat, k ≤ len ∧ i = .int .i64 k ∧ t' = .int .u32 (Crc.fold t (bs.take k) : Nat)) (fun _ _ i => len - (intOf i).toNat)
  case atStart => exact ⟨0, Nat.zero_le _, rfl, rfl⟩
  case round =>
    obtain ⟨k, hk, rfl, rfl⟩ := hrel
    by_cases hlt' : k < len
    · have hs : Hid (Crc.fold t (bs.take (k + 1)) = Crc.tk (Crc.fold t (bs.take k)) (bs.getD k 0)) := Crc.fold_take t bs k (by omega)
      have hb := Crc.fold_lt (bs.take k) ha (fun x hx => hlt x (List.mem_of_mem_take hx))
      have hx := getD_lt hlt k (by omega)
      rcases hc with h0 | ⟨b, off, rfl, hc⟩
      · omega
      have hcell := hc k hlt'
      clear hc
      generalize Crc.fold t (bs.take k) = r at *
      generalize bs.getD k 0 = x at *
      go_wp2_with (go_at_call 153; refine (take_any _ _ _ (by assumption) (by assumption) (by assumption)).mono ?_; rintro e w' ⟨rfl, rfl⟩)
      go_round
      case rel => exact ⟨k + 1, by omega, by go_num, by rw [hs.out]⟩
      case measure => simp [intOf]; omega
    · have hk8 : k = len := by omega
      subst hk8
      rw [List.take_of_length_le (by omega)]
      have hb := Crc.fold_lt bs ha hlt
      have h2 := not32' _ hb
      go_wp2
      go_ret
      exact ⟨rfl, rfl⟩
/- The sum of bytes, the program's and the document's. -/
set_option maxHeartbeats 400000 in
theorem sum_any (a : Option Addr) (len cap : Nat) (bs : List Nat) (w : World) (hB : Bytes w a len bs) (hT : Tab w) :
    Calls Tryz.prog 116 #[.slice a len cap] w fun e w' => e = .returned (.int .u32 (Crc.sum bs : Nat)) ∧ w' = w := by
  have h := upd_any 0 a len cap bs w (by omega) hB hT
  go_enter Tryz.func116, Tryz.ntmps116
  go_wp2_with (go_at_call 132; refine h.mono ?_; rintro e w' ⟨rfl, rfl⟩)
  go_ret
  exact ⟨rfl, rfl⟩
end Go.Proofs.YtcfninpokngmlaaGreatDoor
/- Proved: what made, ready, has, Size, Pending, Down, Done, spend, Arm and Off of a disk answer, and make of it. -/
namespace Go.Proofs.YtcfninpokngmlaaGreatDoor
open Go.RowKit
abbrev ptr (g : Nat) : Value := .pointer (some ⟨g, 0, none⟩)
section
variable {w : World} {g kg : Nat} {v : Value} {s : Sc.St}
theorem Dk.pos (H : Dk w g kg v s) : 0 < s.kept.length := by have := H.ok.one; omega
theorem Dk.pval (H : Dk w g kg v s) : ∃ a cap, v = .slice a s.pend.length cap := by
  rcases H.open with ⟨h1, h2⟩ | ⟨pg, cap, h1, _⟩
  · rw [h2]; exact ⟨_, _, h1⟩
  · exact ⟨_, _, h1⟩
end
set_option maxHeartbeats 400000 in
theorem made_yes (g kg : Nat) (v : Value) (s : Sc.St) (w : World) (H : Dk w g kg v s) :
    Calls Tryz.prog 69 #[ptr g] w fun e w' => e = .returned (.bool true) ∧ w' = w := by
  have c0 := H.c0
  have hp := H.pos
  clear H
  go_enter Tryz.func69, Tryz.ntmps69
  go_wp2
  go_ret
  exact ⟨by simp, rfl⟩
set_option maxHeartbeats 400000 in
theorem ready_any (g kg : Nat) (v : Value) (s : Sc.St) (w : World) (H : Dk w g kg v s) :
    Calls Tryz.prog 53 #[ptr g] w fun e w' => e = .returned (.int .i64 (Sc.liveE s)) ∧ w' = w := by
  have c2 := H.c2
  have HM := made_yes g kg v s w H
  unfold Sc.liveE
  clear H
  cases hd : s.down
  · rw [hd] at c2
    go_enter Tryz.func53, Tryz.ntmps53
    go_wp2_with (go_at_call 69; refine HM.mono ?_; rintro e w' ⟨rfl, rfl⟩)
    go_ret
    exact ⟨rfl, rfl⟩
  · rw [hd] at c2
    go_enter Tryz.func53, Tryz.ntmps53
    go_wp2_with (go_at_call 69; refine HM.mono ?_; rintro e w' ⟨rfl, rfl⟩)
    go_ret
    exact ⟨rfl, rfl⟩
set_option maxHeartbeats 400000 in
theorem has_any (g kg : Nat) (v : Value) (s : Sc.St) (i : Int) (w : World) (H : Dk w g kg v s) :
    Calls Tryz.prog 122 #[ptr g, .int .i64 i] w fun e w' => e = .returned (.bool (Sc.has s i)) ∧ w' = w := by
  have c0 := H.c0
  unfold Sc.has
  clear H
  by_cases h0 : 0 ≤ i
  · have hd : decide (0 ≤ i) = true := by simpa using h0
    go_enter Tryz.func122, Tryz.ntmps122
    go_wp2
    go_ret
    exact ⟨by simp [h0], rfl⟩
  · have hd : decide (0 ≤ i) = false := by simpa using h0
    go_enter Tryz.func122, Tryz.ntmps122
    go_wp2
    go_ret
    exact ⟨by simp, rfl⟩
set_option maxHeartbeats 400000 in
theorem size_any (g kg : Nat) (v : Value) (s : Sc.St) (w : World) (H : Dk w g kg v s) :
    Calls Tryz.prog 55 #[ptr g] w fun e w' => e = .returned (.int .i64 (s.kept.length : Int)) ∧ w' = w := by
  have c0 := H.c0
  have HM := made_yes g kg v s w H
  clear H
  go_enter Tryz.func55, Tryz.ntmps55
  go_wp2_with (go_at_call 69; refine HM.mono ?_; rintro e w' ⟨rfl, rfl⟩)
  go_ret
  exact ⟨rfl, rfl⟩
set_option maxHeartbeats 400000 in
theorem down_any (g kg : Nat) (v : Value) (s : Sc.St) (w : World) (H : Dk w g kg v s) :
    Calls Tryz.prog 37 #[ptr g] w fun e w' => e = .returned (.bool s.down) ∧ w' = w := by
  have c2 := H.c2
  have HM := made_yes g kg v s w H
  clear H
  go_enter Tryz.func37, Tryz.ntmps37
  go_wp2_with (go_at_call 69; refine HM.mono ?_; rintro e w' ⟨rfl, rfl⟩)
  go_ret
  exact ⟨rfl, rfl⟩
/- what a call that turns the disk answers -/
def Does (w : World) (g kg : Nat) (v : Value) (t : Sc.St) (n : Int) (e : Ending) (w' : World) : Prop :=
  ∃ v', e = .returned (.int .i64 n) ∧ Dk w' g kg v' t ∧ Turn (foot g kg v) (foot g kg v') w w'
theorem Dk.falls {w : World} {g kg : Nat} {v : Value} {s : Sc.St} (H : Dk w g kg v s) : Dk (w.setCell ⟨g, 2, none⟩ (.bool true)) g kg v (Sc.fell s) := H.setSame 2 _ rfl rfl rfl (Sc.fell_ok H.ok)
set_option maxHeartbeats 400000 in
theorem off_any (g kg : Nat) (v : Value) (s : Sc.St) (w : World) (H : Dk w g kg v s) :
    Calls Tryz.prog 22 #[ptr g] w (Does w g kg v (Sc.offS s) (Sc.liveE s)) := by
  have c2 := H.c2
  have f2 := H.fz 2
  have HR := ready_any g kg v s w H
  have HH : Hid (Dk w g kg v s) := H
  clear H
  unfold Sc.liveE at HR
  unfold Sc.offS Sc.liveE
  cases hd : s.down
  · rw [hd] at c2 HR
    simp only [Bool.false_eq_true, if_false] at *
    go_enter Tryz.func22, Tryz.ntmps22
    go_wp2_with (go_at_call 53; refine HR.mono ?_; rintro e w' ⟨rfl, rfl⟩)
    go_ret
    exact ⟨_, rfl, HH.out.falls, foot_set _ _ _ _ _ _⟩
  · rw [hd] at c2 HR
    simp only [if_true] at *
    go_enter Tryz.func22, Tryz.ntmps22
    go_wp2_with (go_at_call 53; refine HR.mono ?_; rintro e w' ⟨rfl, rfl⟩)
    go_ret
    exact ⟨_, rfl, HH.out, Turn.refl _ _⟩
set_option maxHeartbeats 400000 in
theorem arm_any (g kg : Nat) (v : Value) (s : Sc.St) (n : Int) (w : World) (H : Dk w g kg v s) (hn : n ≤ 9223372036854775807) :
    Calls Tryz.prog 36 #[ptr g, .int .i64 n] w (Does w g kg v (Sc.armS s n) (Sc.liveE s)) := by
  have c3 := H.c3
  have f3 := H.fz 3
  have HR := ready_any g kg v s w H
  have HH : Hid (Dk w g kg v s) := H
  clear H
  unfold Sc.liveE at HR
  unfold Sc.armS Sc.liveE
  cases hd : s.down
  · rw [hd] at HR
    simp only [Bool.false_eq_true, if_false] at *
    by_cases h0 : n < 0
    · have hm : max n (-1) = -1 := by omega
      have HN : Hid (Dk (w.setCell ⟨g, 3, none⟩ (.int .i64 (-1))) g kg v (Sc.armed s n)) := HH.out.setSame 3 _ (by simp [dcells, Sc.armed, h0]) rfl rfl (Sc.armed_ok HH.out.ok hn)
      go_enter Tryz.func36, Tryz.ntmps36
      go_wp2_with (go_at_call 53; refine HR.mono ?_; rintro e w' ⟨rfl, rfl⟩)
      all_goals first
        | (go_ret; exact ⟨_, rfl, HN.out, foot_set _ _ _ _ _ _⟩)
        | (obtain rfl : n = -1 := by omega
           go_ret; exact ⟨_, rfl, HN.out, foot_set _ _ _ _ _ _⟩)
    · have hm : max n (-1) = n := by omega
      have HN : Hid (Dk (w.setCell ⟨g, 3, none⟩ (.int .i64 n)) g kg v (Sc.armed s n)) := HH.out.setSame 3 _ (by simp [dcells, Sc.armed, h0]) rfl rfl (Sc.armed_ok HH.out.ok hn)
      go_enter Tryz.func36, Tryz.ntmps36
      go_wp2_with (go_at_call 53; refine HR.mono ?_; rintro e w' ⟨rfl, rfl⟩)
      all_goals first
        | (go_ret; exact ⟨_, rfl, HN.out, foot_set _ _ _ _ _ _⟩)
        | (obtain rfl : n = -1 := by omega
           go_ret; exact ⟨_, rfl, HN.out, foot_set _ _ _ _ _ _⟩)
  · rw [hd] at HR
    simp only [if_true] at *
    go_enter Tryz.func36, Tryz.ntmps36
    go_wp2_with (go_at_call 53; refine HR.mono ?_; rintro e w' ⟨rfl, rfl⟩)
    go_ret
    exact ⟨_, rfl, HH.out, Turn.refl _ _⟩
def spendS (s : Sc.St) : Sc.St := if s.left = 0 then Sc.fell s else Sc.spent s
def spendE (s : Sc.St) : Int := if s.left = 0 then 10 else 0
set_option maxHeartbeats 1000000 in
theorem spend_any (g kg : Nat) (v : Value) (s : Sc.St) (w : World) (H : Dk w g kg v s) (hn : s.dn ≤ 1000000000) :
    Calls Tryz.prog 108 #[ptr g] w fun e w' => e = .returned (.int .i64 (spendE s)) ∧ Dk w' g kg v (spendS s) ∧ Turn (foot g kg v) (foot g kg v) w w' := by
  have c2 := H.c2
  have c3 := H.c3
  have c4 := H.c4
  have f2 := H.fz 2
  have f3 := H.fz 3
  have f4 := H.fz 4
  have hl := H.ok.left
  have HH : Hid (Dk w g kg v s) := H
  clear H
  unfold spendE spendS
  obtain ⟨kept, pend, down, left, dn⟩ := s
  simp only at *
  by_cases h0 : left = 0
  · subst h0
    simp only [if_true]
    go_enter Tryz.func108, Tryz.ntmps108
    go_wp2
    go_ret
    exact ⟨rfl, HH.out.falls, foot_set _ _ _ _ _ _⟩
  · simp only [h0, if_false]
    have hb0 : (left == 0) = false := by simp [h0]
    by_cases h1 : 0 < left
    · have hd1 : decide (0 < left) = true := by simpa using h1
      have HN : Hid (Dk ((w.setCell ⟨g, 3, none⟩ (.int .i64 (left - 1))).setCell ⟨g, 4, none⟩ (.int .i64 ((dn : Int) + 1))) g kg v (Sc.spent ⟨kept, pend, down, left, dn⟩)) := by
        have h1 : Dk (w.setCell ⟨g, 3, none⟩ (.int .i64 (left - 1))) g kg v ⟨kept, pend, down, left - 1, dn⟩ := HH.out.setSame 3 _ rfl rfl rfl ⟨HH.out.ok.one, HH.out.ok.most, HH.out.ok.size, HH.out.ok.pat, HH.out.ok.psize, by simp only; omega⟩
        exact h1.setSame 4 _ (by simp [dcells, Sc.spent]; intro _; omega) rfl rfl ⟨HH.out.ok.one, HH.out.ok.most, HH.out.ok.size, HH.out.ok.pat, HH.out.ok.psize, Sc.spent_left HH.out.ok⟩
      go_enter Tryz.func108, Tryz.ntmps108
      go_wp2
      go_ret
      exact ⟨rfl, HN.out, (foot_set _ _ _ _ _ _).trans (foot_set _ _ _ _ _ _)⟩
    · have hd1 : decide (0 < left) = false := by simpa using h1
      have HN : Hid (Dk (w.setCell ⟨g, 4, none⟩ (.int .i64 ((dn : Int) + 1))) g kg v (Sc.spent ⟨kept, pend, down, left, dn⟩)) :=
        HH.out.setSame 4 _ (by simp [dcells, Sc.spent]; intro _; omega) rfl rfl ⟨HH.out.ok.one, HH.out.ok.most, HH.out.ok.size, HH.out.ok.pat, HH.out.ok.psize, Sc.spent_left HH.out.ok⟩
      go_enter Tryz.func108, Tryz.ntmps108
      go_wp2
      go_ret
      exact ⟨rfl, HN.out, foot_set _ _ _ _ _ _⟩
end Go.Proofs.YtcfninpokngmlaaGreatDoor
/- Proved: what now tells of a sector: its last write that is pending, or what was kept. -/
namespace Go.Proofs.YtcfninpokngmlaaGreatDoor
open Go.RowKit
/- a whole array or struct is stored, from the head of its block on or in its midst; the operation has no destination -/
theorem store_row {P : Program} {ops : Array Oper} {rest : List Oper} {o : Oper} {a : Act} {w : World} {Q : Exit → Act → World → Prop} (hgd : o.guard = none) (hdst : o.dst = none) (ty : TypeId) (x y : Operand) (ho : o.op = .store ty x y)
    (g : Nat) (cells : Array Value) (hx : a.eval x = .pointer (some ⟨g, 0, none⟩)) (hy : a.eval y = .agg cells) (t : TypeId) (old : Array Value) (hg : w.heap[g]? = some (.cells old t (0, 0))) (hi : (P.info? ty).map (·.size) = some cells.size) (hs : old.size = cells.size) (h1 : cells.all (·.oneCell') = true)
    (h : wpList P ops Q rest a (w.setRow g cells)) : wpList P ops Q (o :: rest) a w := by
  refine wpList_store_row hgd ty x y ho g cells hx hy t old hg hi hs h1 ?_
  rw [hdst]
  exact h
theorem store_mid {P : Program} {ops : Array Oper} {rest : List Oper} {op : Oper} {a : Act} {w : World} {Q : Exit → Act → World → Prop} (hgd : op.guard = none) (hdst : op.dst = none) (ty : TypeId) (x y : Operand) (ho : op.op = .store ty x y)
    (b o : Nat) (cells : Array Value) (hx : a.eval x = .pointer (some ⟨b, o, none⟩)) (hy : a.eval y = .agg cells)
    (ht : w.there b o cells.size) (hi : (P.info? ty).map (·.size) = some cells.size) (h1 : cells.all (·.oneCell') = true)
    (h : wpList P ops Q rest a (w.setCells b o cells.toList)) : wpList P ops Q (op :: rest) a w := by
  refine wpList_store_mid hgd ty x y ho b o cells hx hy ht hi h1 ?_
  rw [hdst]
  exact h
def zsec : Array Value := (bc Sc.zero64).toArray
theorem zeroSec (W : World) : (zeroValue 109).run Tryz.prog W = .ok (.agg zsec) W := by kernel_rfl
theorem sizeSec : (Tryz.prog.info? 109).map (·.size) = some 64 := by kernel_rfl
theorem zsec_size : zsec.size = 64 := by kernel_rfl
def bA (x : ByteArray) : Array Value := (bc x).toArray
theorem bA_size {x : ByteArray} (h : x.size = 64) : (bA x).size = 64 := by rw [bA, List.size_toArray, bc_length, h]
theorem bA_one (x : ByteArray) : (bA x).all (·.oneCell') = true := all_oneCell_toArray (bc_one x)
theorem bA_info {x : ByteArray} (h : x.size = 64) : (Tryz.prog.info? 109).map (·.size) = some (bA x).size := by rw [bA_size h]; exact sizeSec
theorem results_row {fn : Func} {p : Tmp} (h : fn.results = #[.cell p 109]) (tmps : Array Value) (w : World) (g : Nat) (t : TypeId) (cs : Array Value) (fr : Nat × Nat)
    (hp : tmps.getD p undef = .pointer (some ⟨g, 0, none⟩)) (hg : w.heap[g]? = some (.cells cs t fr)) (hi : (Tryz.prog.info? 109).map (·.size) = some cs.size) :
    (results fn tmps).run Tryz.prog w = .ok (.agg cs) w := by
  have hp' : tmps[p]?.getD undef = .pointer (some ⟨g, 0, none⟩) := by simpa using hp
  simp [results, h, hp', asAddr, run_loadVar_row w g t 109 cs fr _ hg Tryz.underlying109 rfl hi]
theorem below_setRow {B : Nat} {a w : World} (h : Below B a w) {g : Nat} (hg : B ≤ g) (cs : Array Value) : Below B a (w.setRow g cs) :=
  h.trans ⟨rfl, rfl, rfl, by simp, fun k hk => setRow_other w g k cs (by omega)⟩
theorem drop_one {α : Type} (l : List α) (k : Nat) (x : α) (h : l[k]? = some x) : l.drop k = x :: l.drop (k + 1) := by
  obtain ⟨h1, h2⟩ := List.getElem?_eq_some_iff.1 h
  rw [List.drop_eq_getElem_cons h1, h2]
set_option maxHeartbeats 1000000 in
set_option maxRecDepth 20000 in
theorem now_any (g kg : Nat) (v : Value) (s : Sc.St) (i : Nat) (w : World) (H : Dk w g kg v s) (hi : i < s.kept.length) :
    Calls Tryz.prog 123 #[ptr g, .int .i64 (i : Int)] w fun e w' => e = .returned (.agg (bA (Sc.now s i))) ∧ Below w.heap.size w w' := by
  have hz := zeroSec
  have HA : Hid (Dk (w.alloc (.cells zsec 109)) g kg v s) := H.alloc _
  have HN : Hid ((w.alloc (.cells zsec 109)).heap[w.heap.size]? = some (.cells zsec 109 (0, 0))) := heap_alloc_new w _
  have HB : Hid (Below w.heap.size w (w.alloc (.cells zsec 109))) := (Below.refl _ _).alloc (Nat.le_refl _) _
  have hmost : s.pend.length ≤ 9223372036854775807 ∧ s.kept.length ≤ 65536 := by
    refine ⟨?_, H.ok.most⟩
    rcases H.open with ⟨_, h2⟩ | ⟨pg, cap, _, h2, h3, _⟩
    · rw [h2]; simp
    · omega
  have c0 := HA.out.c0
  have c1 := HA.out.c1
  obtain ⟨pa, cap, hv⟩ := H.pval
  rw [hv] at c1
  have HS : Hid ((w.alloc (.cells zsec 109)).rangeAt kg (i * 64) (bc (s.kept.getD i Sc.zero64))) := HA.out.sector hi
  have HZ : Hid ((bA (s.kept.getD i Sc.zero64)).size = 64) := bA_size (Sc.getD_size H.ok.size i)
  clear H
  go_enter Tryz.func123, Tryz.ntmps123
  go_wp2_with fail
  generalize World.alloc w _ = w1 at *
  go_loopw [5] (fun s5 wr => ∃ k : Nat, k ≤ s.pend.length ∧ s5 = .int .i64 ((k : Int) - 1) ∧ wr = w1 ∧ ∀ q ∈ s.pend.drop k, q.1 ≠ i) (fun s5 _ => (intOf s5 + 1).toNat)
  case atStart => exact ⟨s.pend.length, Nat.le_refl _, rfl, rfl, by simp⟩
  case round =>
    obtain ⟨k, hk, rfl, rfl, hq⟩ := hrel
    have HQ : Hid (∀ q ∈ s.pend.drop k, q.1 ≠ i) := hq
    clear hq
    cases k with
    | zero =>
      have hd : decide ((0 : Int) ≤ ((0 : Nat) : Int) - 1) = false := by decide
      have HI : Hid ((Tryz.prog.info? 109).map (·.size) = some (bA (s.kept.getD i Sc.zero64)).size) := by show _ = _; rw [HZ.out]; exact sizeSec
      have HE : Hid (Sc.now s i = s.kept.getD i Sc.zero64) := Sc.last_none i _ _ (by simpa using HQ.out)
      have i1 : (i : Int) < (s.kept.length : Int) := by omega
      have i0 : (0 : Int) ≤ (i : Int) := by omega
      have HIL : Hid ((Tryz.prog.info? 109).map (·.size) = some (bc (s.kept.getD i Sc.zero64)).length) := by rw [show (bc (s.kept.getD i Sc.zero64)).length = (bA (s.kept.getD i Sc.zero64)).size by simp [bA]]; exact HI
      go_wp2_with (first | (refine wpList_load_mid rfl 109 _ rfl kg (i * 64) (by first | rfl | (show Value.pointer _ = _; simp)) (bc (s.kept.getD i Sc.zero64)) _ HS.out Tryz.underlying109 rfl HIL.out ?_) | (refine store_row rfl rfl 109 _ _ rfl w.heap.size (bA (s.kept.getD i Sc.zero64)) rfl rfl 109 zsec HN.out HI.out (by rw [HZ.out]; exact zsec_size) (bA_one _) ?_))
      refine bodyPost_ret (v := .agg (bA (s.kept.getD i Sc.zero64))) ?_ rfl ⟨by rw [HE.out], below_setRow HB.out (Nat.le_refl _) _⟩
      exact results_row Tryz.results123 _ _ w.heap.size 109 _ (0, 0) rfl (setRow_heap _ _ _ _ _ _ HN.out) HI.out
    | succ m =>
      obtain ⟨pg, cap', hv', hcap, hc63, hr⟩ : ∃ pg cap, v = .slice (some ⟨pg, 0, none⟩) s.pend.length cap ∧ s.pend.length ≤ cap ∧ cap ≤ 9223372036854775807 ∧ ∀ i p, s.pend[i]? = some p → wr.rangeAt pg (i * 65) (wc p) := by
        rcases HA.out.open with ⟨_, h⟩ | h
        · rw [h] at hk; simp at hk
        · exact h
      have ea : pa = some ⟨pg, 0, none⟩ := by
        rw [hv] at hv'
        exact (Value.slice.inj hv').1
      obtain ⟨p, hp⟩ : ∃ p, s.pend[m]? = some p := ⟨_, List.getElem?_eq_getElem (by omega)⟩
      have hR := hr m p hp
      have HR1 : Hid (wr.rangeAt pg (m * 65 + 1) (bc p.2)) := fun j u hu => by
        have := hR (j + 1) u (by simpa [wc] using hu)
        rwa [show m * 65 + (j + 1) = m * 65 + 1 + j by omega] at this
      have cp : wr.cell? ⟨pg, m * 65, none⟩ = some (.int .i64 (p.1 : Int)) := hR 0 _ rfl
      have hps : p.2.size = 64 := HA.out.ok.psize p (List.mem_of_getElem? hp)
      have HI : Hid ((Tryz.prog.info? 109).map (·.size) = some (bA p.2).size) := bA_info hps
      have HIL : Hid ((Tryz.prog.info? 109).map (·.size) = some (bc p.2).length) := by rw [show (bc p.2).length = (bA p.2).size by simp [bA]]; exact HI
      have HZ2 : Hid ((bA p.2).size = 64) := bA_size hps
      have hml : m < s.pend.length := by omega
      have HP : Hid (s.pend[m]? = some p) := hp
      have HV : Hid (v = Value.slice pa s.pend.length cap) := hv
      subst ea
      clear hr hR hp hv hv'
      rw [show ((m + 1 : Nat) : Int) - 1 = (m : Int) by omega]
      have hd : decide ((0 : Int) ≤ (m : Int)) = true := by simp
      have m0 : (0 : Int) ≤ (m : Int) := by omega
      have m1 : (m : Int) < (s.pend.length : Int) := by omega
      by_cases he : p.1 = i
      · have hb : ((p.1 : Int) == (i : Int)) = true := by simp [he]
        have HE : Hid (Sc.now s i = p.2) := Sc.last_at i _ _ m p HP.out he HQ.out
        clear he
        go_wp2_with (first | (refine wpList_load_mid rfl 109 _ rfl pg (m * 65 + 1) (by first | rfl | (show Value.pointer _ = _; simp)) (bc p.2) _ HR1.out Tryz.underlying109 rfl HIL.out ?_) | (refine store_row rfl rfl 109 _ _ rfl w.heap.size (bA p.2) rfl rfl 109 zsec HN.out HI.out (by rw [HZ2.out]; exact zsec_size) (bA_one _) ?_))
        refine bodyPost_ret (v := .agg (bA p.2)) ?_ rfl ⟨by rw [HE.out], below_setRow HB.out (Nat.le_refl _) _⟩
        exact results_row Tryz.results123 _ _ w.heap.size 109 _ (0, 0) rfl (setRow_heap _ _ _ _ _ _ HN.out) HI.out
      · have hb : ((p.1 : Int) == (i : Int)) = false := by simp; omega
        have HFN : ∃ k : Nat, k ≤ s.pend.length ∧ Value.int .i64 ((m : Int) - 1) = .int .i64 ((k : Int) - 1) ∧ wr = wr ∧ ∀ q ∈ s.pend.drop k, q.1 ≠ i := ⟨m, by omega, rfl, rfl, fun q hq => by
          rw [drop_one _ _ _ HP.out] at hq
          rcases List.mem_cons.1 hq with rfl | hq
          · exact he
          · exact HQ.out q hq⟩
        clear he
        go_wp2
        go_roundw
        case rel =>
          obtain ⟨k, h1, h2, _, h4⟩ := HFN
          exact ⟨k, h1, h2, trivial, h4⟩
        case measure => (simp [intOf]) <;> omega
end Go.Proofs.YtcfninpokngmlaaGreatDoor
/- Proved: how a statement is walked whose order is drawn and whose last operation waits for all the others: a condition on memory holds behind each but the last. -/
namespace Go.Proofs.YtcfninpokngmlaaGreatDoor
open Go.RowKit
section
variable {P : Program} {ops : Array Oper} {Q : Exit → Act → World → Prop} {md : Region.Mode} {S : World → Prop} {z : Nat}
/- whatever order is picked from here on: S holds behind every operation but number z -/
def AnyBut (P : Program) (md : Region.Mode) (ops : Array Oper) (Q : Exit → Act → World → Prop) (S : World → Prop) (z : Nat) : Nat → Array Bool → Act → World → Prop
  | 0, listed, a, w => Region.ready md ops listed = [] ∧ Q .normal a w
  | n + 1, listed, a, w =>
    (Region.ready md ops listed = [] → Q .normal a w) ∧
    ∀ i ∈ Region.ready md ops listed, wpOp P ops Q i (fun a' w' => (i ≠ z → S w') ∧ AnyBut P md ops Q S z n (listed.setIfInBounds i true) a' w') a w
theorem AnyBut.any : ∀ (n : Nat) (listed : Array Bool) (a : Act) (w : World), AnyBut P md ops Q S z n listed a w → wpAny P md ops Q n listed a w
  | 0, _, _, _, h => h
  | n + 1, _, _, _, h => ⟨h.1, fun i hi => wpOp_mono (fun a' w' h' => AnyBut.any n _ a' w' h'.2) (h.2 i hi)⟩
/- what is listed has all listed that it waits for -/
def Clo (md : Region.Mode) (ops : Array Oper) (listed : Array Bool) : Prop := ∀ (j : Nat) (o : Oper), ops[j]? = some o → listed.getD j false = true → ∀ e ∈ o.after, Region.binds md e = true → listed.getD e.on false = true
def cloB (md : Region.Mode) (ops : Array Oper) (listed : Array Bool) : Bool := (List.range ops.size).all fun j => match ops[j]? with | none => true | some o => !(listed.getD j false) || o.after.all fun e => !(Region.binds md e) || listed.getD e.on false
theorem clo_of {listed : Array Bool} (h : cloB md ops listed = true) : Clo md ops listed := fun j o ho hl e he hb => by
  have hj := List.all_eq_true.1 h j (List.mem_range.2 (Array.getElem?_eq_some_iff.1 ho).1)
  simp only [ho, hl, Bool.not_true, Bool.false_or] at hj
  have h2 := Array.all_eq_true_iff_forall_mem.1 hj e he
  simpa [hb] using h2
theorem Clo.step {listed : Array Bool} {j : Nat} (h : Clo md ops listed) (hj : j ∈ Region.ready md ops listed) : Clo md ops (listed.setIfInBounds j true) := fun k o ho hl e he hb => by
  by_cases hkj : j = k
  · subst hkj
    obtain ⟨_, oj, hoj, hall⟩ := mem_ready.1 hj
    obtain rfl : oj = o := Option.some.inj (hoj.symm.trans ho)
    exact getD_set_true (hall e he hb)
  · rw [getD_set_ne false hkj] at hl
    exact getD_set_true (h k o ho hl e he hb)
/- number k waits for number i, at once or by way of others -/
def waits (md : Region.Mode) (ops : Array Oper) : Nat → Nat → Nat → Bool
  | 0, _, _ => false
  | f + 1, k, i => match ops[k]? with
    | none => false
    | some o => o.after.any fun e => Region.binds md e && (e.on == i || waits md ops f e.on i)
theorem waits_listed {listed : Array Bool} {i : Nat} (h : Clo md ops listed) : ∀ f k, waits md ops f k i = true → listed.getD k false = true → listed.getD i false = true
  | 0, _, hw, _ => by cases hw
  | f + 1, k, hw, hl => by
    unfold waits at hw
    cases ho : ops[k]? with
    | none => rw [ho] at hw; cases hw
    | some o =>
      rw [ho] at hw
      obtain ⟨n, hn, he⟩ := Array.any_eq_true.1 hw
      rw [Bool.and_eq_true, Bool.or_eq_true, beq_iff_eq] at he
      have hl' := h k o ho hl _ (Array.getElem_mem hn) he.1
      rcases he.2 with e | e
      · rw [e] at hl'; exact hl'
      · exact waits_listed h f _ e hl'
theorem waits_ready {listed : Array Bool} {i k f : Nat} (h : Clo md ops listed) (hw : waits md ops f k i = true) (hk : k ∈ Region.ready md ops listed) : listed.getD i false = true := by
  obtain ⟨_, o, ho, hall⟩ := mem_ready.1 hk
  cases f with
  | zero => cases hw
  | succ f =>
    unfold waits at hw
    rw [ho] at hw
    obtain ⟨n, hn, he⟩ := Array.any_eq_true.1 hw
    rw [Bool.and_eq_true, Bool.or_eq_true, beq_iff_eq] at he
    have hl' := hall _ (Array.getElem_mem hn) he.1
    rcases he.2 with e | e
    · rw [e] at hl'; exact hl'
    · exact waits_listed h f _ e hl'
theorem AnyBut.first {i f : Nat} {oi : Oper} {v : Value} (hi : ops[i]? = some oi) (hzi : waits md ops f z i = true) (hiz : i ≠ z)
    (hsel : ∀ (j : Nat) (o : Oper) cs b, ops[j]? = some o → o.op ≠ .select cs b) (hQ : ∀ c a w, Q (.panic c) (a.put oi.dst v) w → Q (.panic c) a w) :
    ∀ (n : Nat) (listed : Array Bool) (a : Act) (w : World), Clo md ops listed →
      (∀ j oj, ops[j]? = some oj → j ≠ i → listed.getD j true = false → (∀ e ∈ oj.after, Region.binds md e = true → e.on ≠ i) → oi.apart ops oj = true) →
      i ∈ Region.ready md ops listed → YieldsIf P ops S oi v a → S w →
      AnyBut P md ops Q S z n (listed.setIfInBounds i true) (a.put oi.dst v) w → AnyBut P md ops Q S z (n + 1) listed a w := by
  intro n
  induction n with
  | zero =>
    intro listed a w _ _ hr hy hS H
    refine ⟨fun h => (by rw [h] at hr; cases hr), fun j hj => ?_⟩
    by_cases hji : j = i
    · subst hji; exact hy.wpOp hi hS ⟨fun _ => hS, H⟩
    · have h' := ready_mono hj hji
      rw [H.1] at h'
      cases h'
  | succ n ih =>
    intro listed a w hclo hfree hr hy hS H
    refine ⟨fun h => (by rw [h] at hr; cases hr), fun j hj => ?_⟩
    by_cases hji : j = i
    · subst hji; exact hy.wpOp hi hS ⟨fun _ => hS, H⟩
    · have h1 := H.2 j (ready_mono hj hji)
      obtain ⟨hjun, oj, hoj, hall⟩ := mem_ready.1 hj
      have hnot : ∀ e ∈ oj.after, Region.binds md e = true → e.on ≠ i := fun e he hb heq => by
        have h1 := hall e he hb
        have h0 := (mem_ready.1 hr).1
        rw [heq] at h1
        rcases Nat.lt_or_ge i listed.size with h' | h'
        · simp [h'] at h0 h1; rw [h0] at h1; cases h1
        · simp [Array.getElem?_eq_none h'] at h1
      have hjz : j ≠ z := fun e => by
        subst e
        have hl := waits_ready hclo hzi hj
        have h0 := (mem_ready.1 hr).1
        rcases Nat.lt_or_ge i listed.size with h' | h'
        · simp [h'] at h0 hl; rw [h0] at hl; cases hl
        · simp [Array.getElem?_eq_none h'] at hl
      have h2 := wpOp_putIf hoj (hfree j oj hoj hji hjun hnot) (fun cs b => hsel i oi cs b hi) (fun cs b => hsel j oj cs b hoj) hQ hy h1
      have hfree' : ∀ k ok, ops[k]? = some ok → k ≠ i → (listed.setIfInBounds j true).getD k true = false →
          (∀ e ∈ ok.after, Region.binds md e = true → e.on ≠ i) → oi.apart ops ok = true := fun k ok hk hki hun hno => by
        refine hfree k ok hk hki ?_ hno
        by_cases hjk : j = k
        · subst hjk; exact hjun
        · rw [getD_set_ne true hjk] at hun; exact hun
      refine wpOp_mono (fun a' w' h3 => ⟨fun _ => h3.2.1 hjz, ih (listed.setIfInBounds j true) a' w' (hclo.step hj) hfree' (ready_mono hr (Ne.symm hji)) h3.1 (h3.2.1 hjz) ?_⟩) h2
      rw [Array.setIfInBounds_comm _ _ hji]
      exact h3.2.2
theorem AnyBut.take (i : Nat) (d : Option Tmp) {oi : Oper} {v : Value} {n : Nat} {listed : Array Bool} {a : Act} {w : World} (hi : ops[i]? = some oi) (hd : oi.dst = d) (hzi : waits md ops 10 z i = true) (hiz : i ≠ z) (hc : cloB md ops listed = true)
    (hs : Region.noSelect ops = true) (hf : Region.free md ops listed i = true) (hr : (Region.ready md ops listed).contains i = true)
    (hQ : ∀ c a w, Q (.panic c) (a.put d v) w → Q (.panic c) a w) (hy : YieldsIf P ops S oi v a) (hS : S w)
    (h : AnyBut P md ops Q S z n (listed.setIfInBounds i true) (a.put d v) w) : AnyBut P md ops Q S z (n + 1) listed a w := by
  subst hd
  exact AnyBut.first hi hzi hiz (Region.noSelect_spec hs) hQ n listed a w (clo_of hc) (Region.free_spec hi hf) (by simpa using hr) hy hS h
/- one operation alone may come up: it is carried out -/
theorem AnyBut.one (i : Nat) {o : Oper} {n : Nat} {listed : Array Bool} {a : Act} {w : World} (hr : Region.ready md ops listed = [i]) (ho : ops[i]? = some o) (hw : Region.wanted o (yielded ops a.tmps) = true)
    (h : ∀ K : Act → World → Prop, Shut (∀ a' w', (i ≠ z → S w') → AnyBut P md ops Q S z n (listed.setIfInBounds i true) a' w' → K a' w') → Oper.wp P o a w K Q) : AnyBut P md ops Q S z (n + 1) listed a w := by
  refine ⟨fun h0 => (by rw [hr] at h0; cases h0), fun j hj => ?_⟩
  rw [hr] at hj
  obtain rfl := List.mem_singleton.1 hj
  exact wpOp_step ho (fun K' hK => by rw [if_pos hw]; exact h K' (fun a' w' h1 h2 => hK a' w' ⟨h1, h2⟩))
theorem AnyBut.done {n : Nat} {listed : Array Bool} {a : Act} {w : World} (hr : Region.ready md ops listed = []) (h : Q .normal a w) : AnyBut P md ops Q S z n listed a w := by
  cases n with
  | zero => exact ⟨hr, h⟩
  | succ n => exact ⟨fun _ => h, fun i hi => by rw [hr] at hi; cases hi⟩
theorem AnyBut.begin {id : Nat} {a : Act} {w : World} (hm : P.follows .mixedOrders = true) (h : AnyBut P .any ops Q S z ops.size (Array.replicate ops.size false) a w.drew) : (Code.region id ops true).wp P Q a w :=
  wp_region_any hm (AnyBut.any _ _ _ _ h)
end
end Go.Proofs.YtcfninpokngmlaaGreatDoor
