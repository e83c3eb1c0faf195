/- Proved: plain facts of a disk of sectors (stage 7): what is pending, kept, read; what each call makes of it. No program is named. -/
import Derived.WalkKit
import Derived.Test.YtcfninpokngmlaaGreatDoorRows
import Derived.ProofKit
import Derived.Deep.MidRow
import Derived.Maps.AppendAt
import Derived.Laws.Rows
import Derived.Laws.Tables
import Derived.Deep.RegionHeld3
import Derived.OwnWalk
import Derived.Laws.IdiomStrings
namespace Sc
/- a disk: what was kept, what is pending (which sector, what it is to have), whether it has no power, what it is armed with (-1: nothing), how much was done -/
structure St where
  kept : List ByteArray
  pend : List (Nat × ByteArray)
  down : Bool
  left : Int
  dn : Nat
def zero64 : ByteArray := ⟨Array.replicate 64 0⟩
theorem zero64_size : zero64.size = 64 := by simp [zero64, ByteArray.size]
/- a text with noughts behind it, as a sector has it -/
def fill (x : ByteArray) : ByteArray := ⟨(x.data.toList ++ List.replicate (64 - x.size) 0).toArray⟩
theorem size_eq (x : ByteArray) : x.size = x.data.toList.length := (Array.length_toList (xs := x.data)).symm
theorem fill_list (x : ByteArray) : (fill x).data.toList = x.data.toList ++ List.replicate (64 - x.size) 0 := by simp [fill]
theorem fill_size {x : ByteArray} (h : x.size ≤ 64) : (fill x).size = 64 := by
  have := size_eq x
  rw [size_eq, fill_list, List.length_append, List.length_replicate]
  omega
/- the last of the writes to sector i, or x -/
def last (i : Nat) : List (Nat × ByteArray) → ByteArray → ByteArray
  | [], x => x
  | p :: l, x => last i l (if p.1 = i then p.2 else x)
theorem last_none (i : Nat) : ∀ (l : List (Nat × ByteArray)) (x : ByteArray), (∀ p ∈ l, p.1 ≠ i) → last i l x = x
  | [], _, _ => rfl
  | p :: l, x, h => by
    unfold last
    rw [if_neg (h p List.mem_cons_self)]
    exact last_none i l x (fun q hq => h q (List.mem_cons_of_mem _ hq))
theorem last_at (i : Nat) : ∀ (l : List (Nat × ByteArray)) (x : ByteArray) (k : Nat) (p : Nat × ByteArray), l[k]? = some p → p.1 = i → (∀ q ∈ l.drop (k + 1), q.1 ≠ i) → last i l x = p.2
  | [], _, k, p, h, _, _ => by simp at h
  | q :: l, x, 0, p, h, hp, hd => by
    simp at h
    subst h
    unfold last
    rw [if_pos hp]
    exact last_none i l _ (by simpa using hd)
  | q :: l, x, k + 1, p, h, hp, hd => by
    unfold last
    exact last_at i l _ k p (by simpa using h) hp (by simpa using hd)
/- of the writes l, counted from n on, those that b marks are kept, one behind the other -/
def keepI (b : Nat → Bool) : List (Nat × ByteArray) → Nat → List ByteArray → List ByteArray
  | [], _, ks => ks
  | p :: l, n, ks => keepI b l (n + 1) (if b n then ks.set p.1 p.2 else ks)
theorem keepI_snoc (b : Nat → Bool) (p : Nat × ByteArray) : ∀ (l : List (Nat × ByteArray)) (n : Nat) (ks : List ByteArray), keepI b (l ++ [p]) n ks = if b (n + l.length) then (keepI b l n ks).set p.1 p.2 else keepI b l n ks
  | [], n, ks => rfl
  | q :: l, n, ks => by
    rw [List.cons_append]
    unfold keepI
    rw [keepI_snoc b p l (n + 1), List.length_cons, show n + 1 + l.length = n + (l.length + 1) by omega]
theorem keepI_length (b : Nat → Bool) : ∀ (l : List (Nat × ByteArray)) (n : Nat) (ks : List ByteArray), (keepI b l n ks).length = ks.length
  | [], _, _ => rfl
  | p :: l, n, ks => by
    unfold keepI
    rw [keepI_length b l]
    split <;> simp
theorem keepI_mem (b : Nat → Bool) : ∀ (l : List (Nat × ByteArray)) (n : Nat) (ks : List ByteArray) (x : ByteArray), x ∈ keepI b l n ks → x ∈ ks ∨ ∃ p ∈ l, p.2 = x
  | [], _, _, x, h => .inl h
  | p :: l, n, ks, x, h => by
    unfold keepI at h
    rcases keepI_mem b l _ _ x h with h | ⟨q, hq, e⟩
    · split at h
      · rcases List.mem_or_eq_of_mem_set h with h | h
        · exact .inl h
        · exact .inr ⟨p, List.mem_cons_self, h.symm⟩
      · exact .inl h
    · exact .inr ⟨q, List.mem_cons_of_mem _ hq, e⟩
theorem keepI_take (b : Nat → Bool) (l : List (Nat × ByteArray)) (ks : List ByteArray) (k : Nat) (p : Nat × ByteArray) (h : l[k]? = some p) : keepI b (l.take (k + 1)) 0 ks = if b k then (keepI b (l.take k) 0 ks).set p.1 p.2 else keepI b (l.take k) 0 ks := by
  have hk := (List.getElem?_eq_some_iff.1 h)
  rw [List.take_succ_eq_append_getElem hk.1, hk.2, keepI_snoc, List.length_take, Nat.min_eq_left (by have := hk.1; omega), Nat.zero_add]
theorem keepI_apart (b : Nat → Bool) (i : Nat) : ∀ (l : List (Nat × ByteArray)) (n : Nat) (ks : List ByteArray), (∀ p ∈ l, p.1 ≠ i) → (keepI b l n ks)[i]? = ks[i]?
  | [], _, _, _ => rfl
  | p :: l, n, ks, h => by
    unfold keepI
    rw [keepI_apart b i l _ _ (fun q hq => h q (List.mem_cons_of_mem _ hq))]
    split
    · rw [List.getElem?_set_ne (h p List.mem_cons_self)]
    · rfl
/- keeping all is what is read -/
theorem keepI_last (i : Nat) : ∀ (l : List (Nat × ByteArray)) (n : Nat) (ks : List ByteArray), i < ks.length → (keepI (fun _ => true) l n ks)[i]? = some (last i l (ks.getD i zero64))
  | [], _, ks, h => by
    show ks[i]? = some (ks.getD i zero64)
    rw [List.getD_eq_getElem?_getD, List.getElem?_eq_getElem h]; rfl
  | p :: l, n, ks, h => by
    unfold keepI last
    rw [if_pos rfl, keepI_last i l _ _ (by simpa using h)]
    by_cases e : p.1 = i
    · rw [if_pos e, e, List.getD_eq_getElem?_getD, List.getElem?_set_self h]; rfl
    · rw [if_neg e, List.getD_eq_getElem?_getD, List.getElem?_set_ne e, ← List.getD_eq_getElem?_getD]
/- a disk that may be -/
structure Ok (s : St) : Prop where
  one : 1 ≤ s.kept.length
  most : s.kept.length ≤ 65536
  size : ∀ x ∈ s.kept, x.size = 64
  pat : ∀ p ∈ s.pend, p.1 < s.kept.length
  psize : ∀ p ∈ s.pend, p.2.size = 64
  left : -1 ≤ s.left ∧ s.left ≤ 9223372036854775807
def made (n : Nat) : St := ⟨List.replicate n zero64, [], false, -1, 0⟩
theorem made_ok {n : Nat} (h1 : 1 ≤ n) (h2 : n ≤ 65536) : Ok (made n) :=
  ⟨by simpa [made] using h1, by simpa [made] using h2, fun x hx => by rw [(List.mem_replicate.1 hx).2]; exact zero64_size, (fun _ hp => nomatch hp), (fun _ hp => nomatch hp), by simp [made]⟩
def has (s : St) (i : Int) : Bool := decide (0 ≤ i) && decide (i < (s.kept.length : Int))
theorem has_iff {s : St} {i : Int} : has s i = true ↔ 0 ≤ i ∧ i < (s.kept.length : Int) := by simp [has]
def now (s : St) (i : Nat) : ByteArray := last i s.pend (s.kept.getD i zero64)
theorem last_size (i : Nat) : ∀ (l : List (Nat × ByteArray)) (x : ByteArray), (∀ p ∈ l, p.2.size = 64) → x.size = 64 → (last i l x).size = 64
  | [], _, _, h => h
  | p :: l, x, h, hx => by
    unfold last
    refine last_size i l _ (fun q hq => h q (List.mem_cons_of_mem _ hq)) ?_
    split
    · exact h p List.mem_cons_self
    · exact hx
theorem getD_size {l : List ByteArray} (h : ∀ x ∈ l, x.size = 64) (i : Nat) : (l.getD i zero64).size = 64 := by
  rw [List.getD_eq_getElem?_getD]
  cases e : l[i]? with
  | none => exact zero64_size
  | some x => exact h x (List.mem_of_getElem? e)
theorem now_size {s : St} (h : Ok s) (i : Nat) : (now s i).size = 64 := last_size i _ _ h.psize (getD_size h.size i)
/- the calls: the disk behind it, and the answer -/
def spent (s : St) : St := { s with left := if 0 < s.left then s.left - 1 else s.left, dn := s.dn + 1 }
def fell (s : St) : St := { s with down := true }
def put (s : St) (i : Nat) (x : ByteArray) : St := { spent s with pend := s.pend ++ [(i, fill x)] }
def flushed (s : St) : St := { spent s with kept := keepI (fun _ => true) s.pend 0 s.kept, pend := [] }
def armed (s : St) (n : Int) : St := { s with left := if n < 0 then -1 else n }
def back (s : St) (b : Nat → Bool) : St := ⟨keepI b s.pend 0 s.kept, [], false, -1, s.dn⟩
def writeS (s : St) (i : Int) (x : ByteArray) : St := if s.down = true then s else if has s i = false then s else if 64 < x.size then s else if s.left = 0 then fell s else put s i.toNat x
def writeE (s : St) (i : Int) (x : ByteArray) : Int := if s.down = true then 10 else if has s i = false then 2 else if 64 < x.size then 3 else if s.left = 0 then 10 else 0
def flushS (s : St) : St := if s.down = true then s else if s.left = 0 then fell s else flushed s
def flushE (s : St) : Int := if s.down = true then 10 else if s.left = 0 then 10 else 0
def armS (s : St) (n : Int) : St := if s.down = true then s else armed s n
def offS (s : St) : St := if s.down = true then s else fell s
def liveE (s : St) : Int := if s.down = true then 10 else 0
def onS (s : St) (b : Nat → Bool) : St := if s.down = true then back s b else s
def onE (s : St) : Int := if s.down = true then 0 else 9
def readV (s : St) (i : Int) : ByteArray := if s.down = true then ⟨#[]⟩ else if has s i = false then ⟨#[]⟩ else now s i.toNat
def readE (s : St) (i : Int) : Int := if s.down = true then 10 else if has s i = false then 2 else 0
theorem spent_left {s : St} (h : Ok s) : -1 ≤ (spent s).left ∧ (spent s).left ≤ 9223372036854775807 := by
  have := h.left
  simp only [spent]
  split <;> omega
theorem put_ok {s : St} (h : Ok s) {i : Nat} {x : ByteArray} (hi : i < s.kept.length) (hx : x.size ≤ 64) : Ok (put s i x) := by
  refine ⟨h.one, h.most, h.size, fun p hp => ?_, fun p hp => ?_, spent_left h⟩
  · rcases List.mem_append.1 hp with hp | hp
    · exact h.pat p hp
    · rw [List.mem_singleton.1 hp]; exact hi
  · rcases List.mem_append.1 hp with hp | hp
    · exact h.psize p hp
    · rw [List.mem_singleton.1 hp]; exact fill_size hx
theorem keepI_ok {s : St} (h : Ok s) (b : Nat → Bool) : ∀ x ∈ keepI b s.pend 0 s.kept, x.size = 64 := fun x hx => by
  rcases keepI_mem b _ _ _ x hx with hx | ⟨p, hp, rfl⟩
  · exact h.size x hx
  · exact h.psize p hp
theorem flushed_ok {s : St} (h : Ok s) : Ok (flushed s) :=
  ⟨by simpa [flushed, keepI_length] using h.one, by simpa [flushed, keepI_length] using h.most, keepI_ok h _, (fun _ hp => nomatch hp), (fun _ hp => nomatch hp), spent_left h⟩
theorem back_ok {s : St} (h : Ok s) (b : Nat → Bool) : Ok (back s b) :=
  ⟨by simpa [back, keepI_length] using h.one, by simpa [back, keepI_length] using h.most, keepI_ok h _, (fun _ hp => nomatch hp), (fun _ hp => nomatch hp), by simp [back]⟩
theorem fell_ok {s : St} (h : Ok s) : Ok (fell s) := ⟨h.one, h.most, h.size, h.pat, h.psize, h.left⟩
theorem writeS_ok {s : St} (h : Ok s) (i : Int) (x : ByteArray) : Ok (writeS s i x) := by
  unfold writeS
  split
  · exact h
  · split
    · exact h
    · rename_i hi
      split
      · exact h
      · split
        · exact fell_ok h
        · have hi' := has_iff.1 (by simpa using hi : has s i = true)
          exact put_ok h (by omega) (by omega)
theorem flushS_ok {s : St} (h : Ok s) : Ok (flushS s) := by
  unfold flushS
  split
  · exact h
  · split
    · exact fell_ok h
    · exact flushed_ok h
/- how much grows by a call: one write, one deed -/
structure Step (s t : St) : Prop where
  len : t.kept.length = s.kept.length
  pend : t.pend.length ≤ s.pend.length + 1
  dn : t.dn ≤ s.dn + 1
theorem Step.refl (s : St) : Step s s := ⟨rfl, by omega, by omega⟩
theorem fell_step (s : St) : Step s (fell s) := ⟨rfl, by simp [fell], by simp [fell]⟩
theorem writeS_step (s : St) (i : Int) (x : ByteArray) : Step s (writeS s i x) := by
  unfold writeS
  split
  · exact .refl s
  · split
    · exact .refl s
    · split
      · exact .refl s
      · split
        · exact fell_step s
        · exact ⟨rfl, by simp [put], by simp [put, spent]⟩
theorem flushS_step (s : St) : Step s (flushS s) := by
  unfold flushS
  split
  · exact .refl s
  · split
    · exact fell_step s
    · exact ⟨by simp [flushed, keepI_length], by simp [flushed], by simp [flushed, spent]⟩
end Sc
/- Proved: how a disk lies in memory, the program's and the document's, and what a call may turn of it. -/
namespace Go.Proofs.YtcfninpokngmlaaGreatDoor
open Go.RowKit
/- an equation that is kept from tactics -/
structure Is {α : Type} (a b : α) : Prop where
  eq : a = b
def splice {α : Type} (L : List α) (o : Nat) (l : List α) : List α := L.take o ++ l ++ L.drop (o + l.length)
theorem splice_step {α : Type} (cur : List α) (o : Nat) (v : α) (vs : List α) (h : o < cur.length) : splice (cur.set o v) (o + 1) vs = splice cur o (v :: vs) := by
  unfold splice
  rw [List.take_set, List.drop_set, List.length_cons, if_pos (by omega), show o + 1 + vs.length = o + (vs.length + 1) by omega, List.take_succ_eq_append_getElem h, List.set_append_right _ _ (by simp; omega)]
  simp [Nat.min_eq_left (Nat.le_of_lt h)]
theorem setCells_splice (g t : Nat) : ∀ (l : List Value) (o : Nat) (cur : List Value) (w : World), w.heap[g]? = some (.cells cur.toArray t (0, 0)) → o + l.length ≤ cur.length → (w.setCells g o l).heap[g]? = some (.cells (splice cur o l).toArray t (0, 0))
  | [], o, cur, w, hg, _ => by
    have e : splice cur o [] = cur := by simp [splice]
    rw [e]; exact hg
  | v :: vs, o, cur, w, hg, hl => by
    rw [List.length_cons] at hl
    rw [← splice_step cur o v vs (by omega)]
    refine setCells_splice g t vs (o + 1) (cur.set o v) (w.setCell ⟨g, o, none⟩ v) ?_ (by rw [List.length_set]; omega)
    rw [heap_setCell_same w g o _ t _ hg, List.setIfInBounds_toArray]
/- lists of things that have n cells each -/
theorem flat_length {α : Type} (f : α → List Value) (n : Nat) : ∀ (l : List α), (∀ x ∈ l, (f x).length = n) → (l.flatMap f).length = l.length * n
  | [], _ => by simp
  | x :: l, h => by
    rw [List.flatMap_cons, List.length_append, h x List.mem_cons_self, flat_length f n l (fun y hy => h y (List.mem_cons_of_mem _ hy)), List.length_cons, Nat.succ_mul]
    omega
theorem flat_at {α : Type} (f : α → List Value) (n : Nat) : ∀ (l : List α) (i : Nat) (x : α) (j : Nat), (∀ x ∈ l, (f x).length = n) → l[i]? = some x → j < n → (l.flatMap f)[i * n + j]? = (f x)[j]?
  | [], i, x, j, _, h, _ => by simp at h
  | y :: l, 0, x, j, hf, h, hj => by
    have := hf y List.mem_cons_self
    simp at h
    subst h
    rw [List.flatMap_cons, Nat.zero_mul, Nat.zero_add, List.getElem?_append_left (by omega)]
  | y :: l, i + 1, x, j, hf, h, hj => by
    have e := hf y List.mem_cons_self
    rw [List.flatMap_cons, List.getElem?_append_right (by rw [e, Nat.succ_mul]; omega), e, show (i + 1) * n + j - n = i * n + j by rw [Nat.succ_mul]; omega]
    exact flat_at f n l i x j (fun z hz => hf z (List.mem_cons_of_mem _ hz)) (by simpa using h) hj
theorem flat_set {α : Type} (f : α → List Value) (n : Nat) : ∀ (l : List α) (i : Nat) (y : α), (∀ x ∈ l, (f x).length = n) → (f y).length = n → i < l.length → splice (l.flatMap f) (i * n) (f y) = (l.set i y).flatMap f
  | [], i, y, _, _, h => by simp at h
  | x :: l, 0, y, hf, hy, _ => by
    have e := hf x List.mem_cons_self
    unfold splice
    rw [List.flatMap_cons, Nat.zero_mul, Nat.zero_add, hy, List.take_zero, List.nil_append, List.set_cons_zero, List.flatMap_cons, List.drop_left' e]
  | x :: l, i + 1, y, hf, hy, h => by
    have e := hf x List.mem_cons_self
    have ih := flat_set f n l i y (fun z hz => hf z (List.mem_cons_of_mem _ hz)) hy (by simpa using h)
    rw [List.set_cons_succ, List.flatMap_cons, List.flatMap_cons, ← ih]
    unfold splice
    rw [hy, Nat.succ_mul, List.take_append, List.drop_append, e, List.take_of_length_le (by omega), List.drop_eq_nil_of_le (by omega), show i * n + n - n = i * n by omega, show i * n + n + n - n = i * n + n by omega]
    simp
/- the cells of a sector, of a write that is pending -/
def bc (x : ByteArray) : List Value := x.data.toList.map fun b => Value.int .u8 (b.toNat : Int)
def wc (p : Nat × ByteArray) : List Value := .int .i64 (p.1 : Int) :: bc p.2
theorem bc_length (x : ByteArray) : (bc x).length = x.size := by rw [bc, List.length_map, Sc.size_eq]
theorem wc_length {p : Nat × ByteArray} (h : p.2.size = 64) : (wc p).length = 65 := by rw [wc, List.length_cons, bc_length, h]
theorem bc_one (x : ByteArray) : ∀ v ∈ bc x, v.oneCell' = true := fun v hv => by
  obtain ⟨b, _, rfl⟩ := List.mem_map.1 hv
  rfl
theorem wc_one (p : Nat × ByteArray) : ∀ v ∈ wc p, v.oneCell' = true := fun v hv => by
  rcases List.mem_cons.1 hv with rfl | hv
  · rfl
  · exact bc_one p.2 v hv
/- nothing that was there has turned but the blocks of fs -/
structure Chg (fs : List Nat) (w w' : World) : Prop where
  os : w'.os = w.os
  tape : w'.tape = w.tape
  output : w'.output = w.output
  size : w.heap.size ≤ w'.heap.size
  block : ∀ k, k < w.heap.size → k ∉ fs → w'.heap[k]? = w.heap[k]?
theorem Chg.refl (fs : List Nat) (w : World) : Chg fs w w := ⟨rfl, rfl, rfl, Nat.le_refl _, fun _ _ _ => rfl⟩
theorem Chg.trans {fs : List Nat} {a b c : World} (h : Chg fs a b) (k : Chg fs b c) : Chg fs a c := ⟨k.os.trans h.os, k.tape.trans h.tape, k.output.trans h.output, Nat.le_trans h.size k.size, fun i hi hn => (k.block i (Nat.lt_of_lt_of_le hi h.size) hn).trans (h.block i hi hn)⟩
theorem Chg.of_below {fs : List Nat} {a b : World} (h : Below a.heap.size a b) : Chg fs a b := ⟨h.os, h.tape, h.output, h.size, fun k hk _ => h.block k hk⟩
theorem Chg.mono {fs gs : List Nat} {a b : World} (h : Chg fs a b) (hs : ∀ k ∈ fs, k ∈ gs) : Chg gs a b := ⟨h.os, h.tape, h.output, h.size, fun k hk hn => h.block k hk (fun hf => hn (hs k hf))⟩
theorem Chg.below {fs : List Nat} {a b : World} (h : Chg fs a b) {B : Nat} (hB : ∀ k ∈ fs, B ≤ k) (hs : B ≤ a.heap.size) : Below B a b := ⟨h.os, h.tape, h.output, h.size, fun k hk => h.block k (by omega) (fun hf => by have := hB k hf; omega)⟩
theorem Chg.drew {fs : List Nat} {a b : World} (h : Chg fs a b) : Chg fs a b.drew := ⟨h.os, h.tape, h.output, h.size, h.block⟩
theorem Chg.setCell (w : World) (g i : Nat) (v : Value) : Chg [g] w (w.setCell ⟨g, i, none⟩ v) := ⟨rfl, rfl, rfl, by simp [World.setCell], fun k _ hn => heap_setCell_other _ _ _ _ (fun e => hn (by simp; exact e))⟩
theorem Chg.setCells (g : Nat) : ∀ (l : List Value) (o : Nat) (w : World), Chg [g] w (w.setCells g o l)
  | [], _, w => Chg.refl _ w
  | v :: vs, o, w => (Chg.setCell w g o v).trans (Chg.setCells g vs (o + 1) (w.setCell ⟨g, o, none⟩ v))
theorem Chg.alloc (fs : List Nat) (w : World) (o : Obj) : Chg fs w (w.alloc o) := ⟨rfl, rfl, rfl, by simp, fun k hk _ => Below.heap_alloc w o k hk⟩
theorem Chg.grown {w w' : World} {row : Option Nat} (h : w.grownBy w' row) : Chg row.toList w w' := ⟨h.os, h.tape, h.output, h.size, fun k hk hn => h.block k hk (fun e => hn (by rw [← e]; simp))⟩
/- a thing that lay in the blocks fs and lies in the blocks fs' now: only these have turned, and what is new is new -/
structure Turn (fs fs' : List Nat) (w w' : World) : Prop where
  chg : Chg fs w w'
  grow : ∀ k ∈ fs', k ∈ fs ∨ w.heap.size ≤ k
theorem Turn.refl (fs : List Nat) (w : World) : Turn fs fs w w := ⟨Chg.refl fs w, fun _ h => .inl h⟩
theorem Turn.trans {fs gs hs : List Nat} {a b c : World} (h : Turn fs gs a b) (k : Turn gs hs b c) : Turn fs hs a c := by
  refine ⟨⟨k.chg.os.trans h.chg.os, k.chg.tape.trans h.chg.tape, k.chg.output.trans h.chg.output, Nat.le_trans h.chg.size k.chg.size, fun i hi hn => (k.chg.block i (Nat.lt_of_lt_of_le hi h.chg.size) (fun hg => ?_)).trans (h.chg.block i hi hn)⟩, fun i hi => ?_⟩
  · rcases h.grow i hg with h1 | h1
    · exact hn h1
    · omega
  · rcases k.grow i hi with h1 | h1
    · exact h.grow i h1
    · exact .inr (Nat.le_trans h.chg.size h1)
theorem Turn.of_below {fs : List Nat} {a b : World} (h : Below a.heap.size a b) : Turn fs fs a b := ⟨Chg.of_below h, fun _ h => .inl h⟩
theorem Turn.below {fs gs : List Nat} {a b : World} (h : Turn fs gs a b) {B : Nat} (hB : ∀ k ∈ fs, B ≤ k) (hs : B ≤ a.heap.size) : Below B a b := h.chg.below hB hs
theorem Turn.above {fs gs : List Nat} {a b : World} (h : Turn fs gs a b) {B : Nat} (hB : ∀ k ∈ fs, B ≤ k) (hs : B ≤ a.heap.size) : ∀ k ∈ gs, B ≤ k := fun k hk => by
  rcases h.grow k hk with h1 | h1
  · exact hB k h1
  · omega
theorem Turn.apart {fs gs rs : List Nat} {a b : World} (h : Turn fs gs a b) (hd : ∀ k ∈ rs, k ∉ fs) (hl : ∀ k ∈ rs, k < a.heap.size) : ∀ k ∈ rs, k ∉ gs := fun k hk hg => by
  rcases h.grow k hg with h1 | h1
  · exact hd k hk h1
  · have := hl k hk; omega
theorem Turn.drew {fs gs : List Nat} {a b : World} (h : Turn fs gs a b) : Turn fs gs a b.drew := ⟨h.chg.drew, h.grow⟩
theorem own_keep {w w' : World} {base e size n : Nat} {v : Value} {xs : List Value} (h : w.ownsRow base e size v n xs) (hb : ∀ k, v.ownBlock = some k → w'.heap[k]? = w.heap[k]?) : w'.ownsRow base e size v n xs := by
  refine ⟨h.1, ?_⟩
  rcases h.2 with hn | ⟨g, cap, cur, rfl, hb', hgg, rest⟩
  · exact .inl hn
  · exact .inr ⟨g, cap, cur, rfl, hb', (hb g rfl).trans hgg, rest⟩
/- the program's disk: at block g, its sectors at block kg, what is pending in the slice v -/
def dcells (s : Sc.St) (kg : Nat) (v : Value) : Array Value := #[.slice (some ⟨kg, 0, none⟩) s.kept.length s.kept.length, v, .bool s.down, .int .i64 s.left, .int .i64 (s.dn : Int)]
def foot (g kg : Nat) (v : Value) : List Nat := g :: kg :: v.ownBlock.toList
structure Dk (w : World) (g kg : Nat) (v : Value) (s : Sc.St) : Prop where
  row : w.heap[g]? = some (.cells (dcells s kg v) 97 (0, 0))
  kept : w.heap[kg]? = some (.cells (s.kept.flatMap bc).toArray 109 (0, 0))
  pend : w.ownsRow 0 111 65 v s.pend.length (s.pend.flatMap wc)
  gk : g ≠ kg
  gp : v.ownBlock ≠ some g
  kp : v.ownBlock ≠ some kg
  ok : Sc.Ok s
section
variable {w w' : World} {g kg : Nat} {v : Value} {s : Sc.St}
theorem Dk.cell (H : Dk w g kg v s) (i : Nat) : w.cell? ⟨g, i, none⟩ = (dcells s kg v)[i]? := cell_of_row w g i _ _ (0, 0) H.row
theorem Dk.c0 (H : Dk w g kg v s) : w.cell? ⟨g, 0, none⟩ = some (.slice (some ⟨kg, 0, none⟩) s.kept.length s.kept.length) := by rw [H.cell]; rfl
theorem Dk.c1 (H : Dk w g kg v s) : w.cell? ⟨g, 1, none⟩ = some v := by rw [H.cell]; rfl
theorem Dk.c2 (H : Dk w g kg v s) : w.cell? ⟨g, 2, none⟩ = some (.bool s.down) := by rw [H.cell]; rfl
theorem Dk.c3 (H : Dk w g kg v s) : w.cell? ⟨g, 3, none⟩ = some (.int .i64 s.left) := by rw [H.cell]; rfl
theorem Dk.c4 (H : Dk w g kg v s) : w.cell? ⟨g, 4, none⟩ = some (.int .i64 (s.dn : Int)) := by rw [H.cell]; rfl
theorem Dk.fz (H : Dk w g kg v s) (i : Nat) : w.frozen? ⟨g, i, none⟩ = false := frozen_of_row w g i _ _ H.row
theorem Dk.lt (H : Dk w g kg v s) : ∀ k ∈ foot g kg v, k < w.heap.size := fun k hk => by
  unfold foot at hk
  rcases List.mem_cons.1 hk with rfl | hk
  · exact (Array.getElem?_eq_some_iff.1 H.row).1
  · rcases List.mem_cons.1 hk with rfl | hk
    · exact (Array.getElem?_eq_some_iff.1 H.kept).1
    · exact (H.pend.lt k (by simpa using hk)).2
theorem Dk.keep (H : Dk w g kg v s) {fs : List Nat} (h : Chg fs w w') (ha : ∀ k ∈ foot g kg v, k ∉ fs) : Dk w' g kg v s := by
  have e : ∀ k ∈ foot g kg v, w'.heap[k]? = w.heap[k]? := fun k hk => h.block k (H.lt k hk) (ha k hk)
  refine ⟨(e g (by simp [foot])).trans H.row, (e kg (by simp [foot])).trans H.kept, own_keep H.pend (fun k hk => e k (by simp [foot, hk])), H.gk, H.gp, H.kp, H.ok⟩
theorem Dk.below (H : Dk w g kg v s) (h : Below w.heap.size w w') : Dk w' g kg v s := H.keep (fs := []) (Chg.of_below h) (fun _ _ h => by cases h)
theorem Dk.alloc (H : Dk w g kg v s) (o : Obj) : Dk (w.alloc o) g kg v s := H.keep (Chg.alloc [] w o) (fun _ _ h => by cases h)
theorem Dk.drew (H : Dk w g kg v s) : Dk w.drew g kg v s := ⟨H.row, H.kept, H.pend, H.gk, H.gp, H.kp, H.ok⟩
/- a cell of the disk itself is written -/
theorem Dk.set (H : Dk w g kg v s) {t : Sc.St} {u : Value} (i : Nat) (x : Value) (e : (dcells s kg v).setIfInBounds i x = dcells t kg u) (hk : t.kept = s.kept) (hu : (w.setCell ⟨g, i, none⟩ x).ownsRow 0 111 65 u t.pend.length (t.pend.flatMap wc)) (hg : u.ownBlock ≠ some g) (hq : u.ownBlock ≠ some kg) (ok : Sc.Ok t) : Dk (w.setCell ⟨g, i, none⟩ x) g kg u t := by
  refine ⟨?_, ?_, hu, H.gk, hg, hq, ok⟩
  · rw [heap_setCell_same w g i _ _ _ H.row, e]
  · rw [heap_setCell_other _ _ _ _ (by exact Ne.symm H.gk), hk]; exact H.kept
theorem Dk.setSame (H : Dk w g kg v s) {t : Sc.St} (i : Nat) (x : Value) (e : (dcells s kg v).setIfInBounds i x = dcells t kg v) (hk : t.kept = s.kept) (hp : t.pend = s.pend) (ok : Sc.Ok t) : Dk (w.setCell ⟨g, i, none⟩ x) g kg v t :=
  H.set i x e hk (by rw [hp]; exact own_keep H.pend (fun k hk => heap_setCell_other _ _ _ _ (fun e => H.gp (by rw [hk, e])))) H.gp H.kp ok
theorem foot_set (g kg : Nat) (v : Value) (w : World) (i : Nat) (x : Value) : Turn (foot g kg v) (foot g kg v) w (w.setCell ⟨g, i, none⟩ x) := ⟨(Chg.setCell w g i x).mono (fun k hk => by rw [List.mem_singleton.1 hk]; simp [foot]), fun _ h => .inl h⟩
theorem kept_length (h : Sc.Ok s) : (s.kept.flatMap bc).length = s.kept.length * 64 := flat_length bc 64 _ (fun x hx => by rw [bc_length]; exact h.size x hx)
/- one sector -/
theorem Dk.sector (H : Dk w g kg v s) {i : Nat} (hi : i < s.kept.length) : w.rangeAt kg (i * 64) (bc (s.kept.getD i Sc.zero64)) := fun j u hu => by
  have e := H.ok.size
  have hx : s.kept[i]? = some (s.kept.getD i Sc.zero64) := by rw [List.getD_eq_getElem?_getD, List.getElem?_eq_getElem hi]; rfl
  have hj : j < 64 := by
    have := (List.getElem?_eq_some_iff.1 hu).1
    rwa [bc_length, Sc.getD_size e] at this
  rw [cell_of_row w kg _ _ _ (0, 0) H.kept, List.getElem?_toArray, flat_at bc 64 _ i _ j (fun x hx => by rw [bc_length]; exact e x hx) hx hj]
  exact hu
theorem Dk.there (H : Dk w g kg v s) {i : Nat} (hi : i < s.kept.length) : w.there kg (i * 64) 64 := fun j hj => by
  refine ⟨?_, frozen_of_row w kg _ _ _ H.kept⟩
  rw [cell_of_row w kg _ _ _ (0, 0) H.kept, List.getElem?_toArray, List.getElem?_eq_getElem (by rw [kept_length H.ok]; omega)]
  rfl
/- a sector is written -/
theorem Dk.setKept (H : Dk w g kg v s) {i : Nat} {x : ByteArray} (hi : i < s.kept.length) (hx : x.size = 64) : Dk (w.setCells kg (i * 64) (bc x)) g kg v { s with kept := s.kept.set i x } := by
  have c := Chg.setCells kg (bc x) (i * 64) w
  have lt := H.lt
  refine ⟨?_, ?_, own_keep H.pend (fun k hk => c.block k (lt k (by simp [foot, hk])) (fun hm => H.kp (by rw [hk, List.mem_singleton.1 hm]))), H.gk, H.gp, H.kp, ⟨by simpa using H.ok.one, by simpa using H.ok.most, fun y hy => ?_, by simpa using H.ok.pat, H.ok.psize, H.ok.left⟩⟩
  · rw [c.block g (lt g (by simp [foot])) (fun hm => H.gk (List.mem_singleton.1 hm)), H.row]
    simp [dcells]
  · rw [setCells_splice kg _ (bc x) (i * 64) _ w H.kept (by rw [kept_length H.ok, bc_length, hx]; omega), flat_set bc 64 _ i x (fun y hy => by rw [bc_length]; exact H.ok.size y hy) (by rw [bc_length, hx]) hi]
  · rcases List.mem_or_eq_of_mem_set hy with h | h
    · exact H.ok.size y h
    · rw [h]; exact hx
theorem foot_kept (g kg : Nat) (v : Value) (w : World) (o : Nat) (l : List Value) : Turn (foot g kg v) (foot g kg v) w (w.setCells kg o l) := ⟨(Chg.setCells kg l o w).mono (fun k hk => by rw [List.mem_singleton.1 hk]; simp [foot]), fun _ h => .inl h⟩
/- what is pending, laid open: nothing, or a row -/
theorem Dk.open (H : Dk w g kg v s) : (v = .slice none 0 0 ∧ s.pend = []) ∨ ∃ pg cap, v = .slice (some ⟨pg, 0, none⟩) s.pend.length cap ∧ s.pend.length ≤ cap ∧ cap ≤ 9223372036854775807 ∧ ∀ i p, s.pend[i]? = some p → w.rangeAt pg (i * 65) (wc p) := by
  rcases H.pend.2 with ⟨h1, h2⟩ | ⟨pg, cap, cur, h1, _, hh, h2, h3, h4, h5⟩
  · exact .inl ⟨h1, List.length_eq_zero_iff.1 h2⟩
  · unfold maxLen at h3
    refine .inr ⟨pg, cap, h1, h2, by omega, fun i p hp j u hu => ?_⟩
    have hl : ∀ q ∈ s.pend, (wc q).length = 65 := fun q hq => wc_length (H.ok.psize q hq)
    have hj : j < 65 := by
      have := (List.getElem?_eq_some_iff.1 hu).1
      rwa [hl p (List.mem_of_getElem? hp)] at this
    have hi := (List.getElem?_eq_some_iff.1 hp).1
    have e := flat_at wc 65 _ i p j hl hp hj
    rw [hu, ← h5, List.getElem?_take_of_lt (by omega)] at e
    rw [cell_of_row w pg _ _ _ (0, 0) hh]
    simpa using e
end
end Go.Proofs.YtcfninpokngmlaaGreatDoor
/- Proved: what made, ready, has, Size, Pending, Down, Done, spend, Arm and Off of a disk answer, and make of it. -/
namespace Go.Proofs.YtcfninpokngmlaaGreatDoor
open Go.RowKit
abbrev ptr (g : Nat) : Value := .pointer (some ⟨g, 0, none⟩)
section
variable {w : World} {g kg : Nat} {v : Value} {s : Sc.St}
theorem Dk.pos (H : Dk w g kg v s) : 0 < s.kept.length := by have := H.ok.one; omega
theorem Dk.pval (H : Dk w g kg v s) : ∃ a cap, v = .slice a s.pend.length cap := by
  rcases H.open with ⟨h1, h2⟩ | ⟨pg, cap, h1, _⟩
  · rw [h2]; exact ⟨_, _, h1⟩
  · exact ⟨_, _, h1⟩
end
set_option maxHeartbeats 400000 in
theorem made_yes (g kg : Nat) (v : Value) (s : Sc.St) (w : World) (H : Dk w g kg v s) :
    Calls Tryz.prog 69 #[ptr g] w fun e w' => e = .returned (.bool true) ∧ w' = w := by
  have c0 := H.c0
  have hp := H.pos
  clear H
  go_enter Tryz.func69, Tryz.ntmps69
  go_wp2
  go_ret
  exact ⟨by simp, rfl⟩
set_option maxHeartbeats 400000 in
theorem ready_any (g kg : Nat) (v : Value) (s : Sc.St) (w : World) (H : Dk w g kg v s) :
    Calls Tryz.prog 53 #[ptr g] w fun e w' => e = .returned (.int .i64 (Sc.liveE s)) ∧ w' = w := by
  have c2 := H.c2
  have HM := made_yes g kg v s w H
  unfold Sc.liveE
  clear H
  cases hd : s.down
  · rw [hd] at c2
    go_enter Tryz.func53, Tryz.ntmps53
    go_wp2_with (go_at_call 69; refine HM.mono ?_; rintro e w' ⟨rfl, rfl⟩)
    go_ret
    exact ⟨rfl, rfl⟩
  · rw [hd] at c2
    go_enter Tryz.func53, Tryz.ntmps53
    go_wp2_with (go_at_call 69; refine HM.mono ?_; rintro e w' ⟨rfl, rfl⟩)
    go_ret
    exact ⟨rfl, rfl⟩
set_option maxHeartbeats 400000 in
theorem has_any (g kg : Nat) (v : Value) (s : Sc.St) (i : Int) (w : World) (H : Dk w g kg v s) :
    Calls Tryz.prog 122 #[ptr g, .int .i64 i] w fun e w' => e = .returned (.bool (Sc.has s i)) ∧ w' = w := by
  have c0 := H.c0
  unfold Sc.has
  clear H
  by_cases h0 : 0 ≤ i
  · have hd : decide (0 ≤ i) = true := by simpa using h0
    go_enter Tryz.func122, Tryz.ntmps122
    go_wp2
    go_ret
    exact ⟨by simp [h0], rfl⟩
  · have hd : decide (0 ≤ i) = false := by simpa using h0
    go_enter Tryz.func122, Tryz.ntmps122
    go_wp2
    go_ret
    exact ⟨by simp, rfl⟩
set_option maxHeartbeats 400000 in
theorem size_any (g kg : Nat) (v : Value) (s : Sc.St) (w : World) (H : Dk w g kg v s) :
    Calls Tryz.prog 55 #[ptr g] w fun e w' => e = .returned (.int .i64 (s.kept.length : Int)) ∧ w' = w := by
  have c0 := H.c0
  have HM := made_yes g kg v s w H
  clear H
  go_enter Tryz.func55, Tryz.ntmps55
  go_wp2_with (go_at_call 69; refine HM.mono ?_; rintro e w' ⟨rfl, rfl⟩)
  go_ret
  exact ⟨rfl, rfl⟩
set_option maxHeartbeats 400000 in
theorem down_any (g kg : Nat) (v : Value) (s : Sc.St) (w : World) (H : Dk w g kg v s) :
    Calls Tryz.prog 37 #[ptr g] w fun e w' => e = .returned (.bool s.down) ∧ w' = w := by
  have c2 := H.c2
  have HM := made_yes g kg v s w H
  clear H
  go_enter Tryz.func37, Tryz.ntmps37
  go_wp2_with (go_at_call 69; refine HM.mono ?_; rintro e w' ⟨rfl, rfl⟩)
  go_ret
  exact ⟨rfl, rfl⟩
/- what a call that turns the disk answers -/
def Does (w : World) (g kg : Nat) (v : Value) (t : Sc.St) (n : Int) (e : Ending) (w' : World) : Prop :=
  ∃ v', e = .returned (.int .i64 n) ∧ Dk w' g kg v' t ∧ Turn (foot g kg v) (foot g kg v') w w'
theorem Dk.falls {w : World} {g kg : Nat} {v : Value} {s : Sc.St} (H : Dk w g kg v s) : Dk (w.setCell ⟨g, 2, none⟩ (.bool true)) g kg v (Sc.fell s) := H.setSame 2 _ rfl rfl rfl (Sc.fell_ok H.ok)
set_option maxHeartbeats 400000 in
theorem off_any (g kg : Nat) (v : Value) (s : Sc.St) (w : World) (H : Dk w g kg v s) :
    Calls Tryz.prog 22 #[ptr g] w (Does w g kg v (Sc.offS s) (Sc.liveE s)) := by
  have c2 := H.c2
  have f2 := H.fz 2
  have HR := ready_any g kg v s w H
  have HH : Hid (Dk w g kg v s) := H
  clear H
  unfold Sc.liveE at HR
  unfold Sc.offS Sc.liveE
  cases hd : s.down
  · rw [hd] at c2 HR
    simp only [Bool.false_eq_true, if_false] at *
    go_enter Tryz.func22, Tryz.ntmps22
    go_wp2_with (go_at_call 53; refine HR.mono ?_; rintro e w' ⟨rfl, rfl⟩)
    go_ret
    exact ⟨_, rfl, HH.out.falls, foot_set _ _ _ _ _ _⟩
  · rw [hd] at c2 HR
    simp only [if_true] at *
    go_enter Tryz.func22, Tryz.ntmps22
    go_wp2_with (go_at_call 53; refine HR.mono ?_; rintro e w' ⟨rfl, rfl⟩)
    go_ret
    exact ⟨_, rfl, HH.out, Turn.refl _ _⟩
def spendS (s : Sc.St) : Sc.St := if s.left = 0 then Sc.fell s else Sc.spent s
def spendE (s : Sc.St) : Int := if s.left = 0 then 10 else 0
set_option maxHeartbeats 1000000 in
theorem spend_any (g kg : Nat) (v : Value) (s : Sc.St) (w : World) (H : Dk w g kg v s) (hn : s.dn ≤ 1000000000) :
    Calls Tryz.prog 108 #[ptr g] w fun e w' => e = .returned (.int .i64 (spendE s)) ∧ Dk w' g kg v (spendS s) ∧ Turn (foot g kg v) (foot g kg v) w w' := by
  have c2 := H.c2
  have c3 := H.c3
  have c4 := H.c4
  have f2 := H.fz 2
  have f3 := H.fz 3
  have f4 := H.fz 4
  have hl := H.ok.left
  have HH : Hid (Dk w g kg v s) := H
  clear H
  unfold spendE spendS
  obtain ⟨kept, pend, down, left, dn⟩ := s
  simp only at *
  by_cases h0 : left = 0
  · subst h0
    simp only [if_true]
    go_enter Tryz.func108, Tryz.ntmps108
    go_wp2
    go_ret
    exact ⟨rfl, HH.out.falls, foot_set _ _ _ _ _ _⟩
  · simp only [h0, if_false]
    have hb0 : (left == 0) = false := by simp [h0]
    by_cases h1 : 0 < left
    · have hd1 : decide (0 < left) = true := by simpa using h1
      have HN : Hid (Dk ((w.setCell ⟨g, 3, none⟩ (.int .i64 (left - 1))).setCell ⟨g, 4, none⟩ (.int .i64 ((dn : Int) + 1))) g kg v (Sc.spent ⟨kept, pend, down, left, dn⟩)) := by
        have h1 : Dk (w.setCell ⟨g, 3, none⟩ (.int .i64 (left - 1))) g kg v ⟨kept, pend, down, left - 1, dn⟩ := HH.out.setSame 3 _ rfl rfl rfl ⟨HH.out.ok.one, HH.out.ok.most, HH.out.ok.size, HH.out.ok.pat, HH.out.ok.psize, by simp only; omega⟩
        exact h1.setSame 4 _ (by simp [dcells, Sc.spent]; intro _; omega) rfl rfl ⟨HH.out.ok.one, HH.out.ok.most, HH.out.ok.size, HH.out.ok.pat, HH.out.ok.psize, Sc.spent_left HH.out.ok⟩
      go_enter Tryz.func108, Tryz.ntmps108
      go_wp2
      go_ret
      exact ⟨rfl, HN.out, (foot_set _ _ _ _ _ _).trans (foot_set _ _ _ _ _ _)⟩
    · have hd1 : decide (0 < left) = false := by simpa using h1
      have HN : Hid (Dk (w.setCell ⟨g, 4, none⟩ (.int .i64 ((dn : Int) + 1))) g kg v (Sc.spent ⟨kept, pend, down, left, dn⟩)) :=
        HH.out.setSame 4 _ (by simp [dcells, Sc.spent]; intro _; omega) rfl rfl ⟨HH.out.ok.one, HH.out.ok.most, HH.out.ok.size, HH.out.ok.pat, HH.out.ok.psize, Sc.spent_left HH.out.ok⟩
      go_enter Tryz.func108, Tryz.ntmps108
      go_wp2
      go_ret
      exact ⟨rfl, HN.out, foot_set _ _ _ _ _ _⟩
end Go.Proofs.YtcfninpokngmlaaGreatDoor
/- Proved: what now tells of a sector: its last write that is pending, or what was kept. -/
namespace Go.Proofs.YtcfninpokngmlaaGreatDoor
open Go.RowKit
/- a whole array or struct is stored, from the head of its block on or in its midst; the operation has no destination -/
theorem store_row {P : Program} {ops : Array Oper} {rest : List Oper} {o : Oper} {a : Act} {w : World} {Q : Exit → Act → World → Prop} (hgd : o.guard = none) (hdst : o.dst = none) (ty : TypeId) (x y : Operand) (ho : o.op = .store ty x y)
    (g : Nat) (cells : Array Value) (hx : a.eval x = .pointer (some ⟨g, 0, none⟩)) (hy : a.eval y = .agg cells) (t : TypeId) (old : Array Value) (hg : w.heap[g]? = some (.cells old t (0, 0))) (hi : (P.info? ty).map (·.size) = some cells.size) (hs : old.size = cells.size) (h1 : cells.all (·.oneCell') = true)
    (h : wpList P ops Q rest a (w.setRow g cells)) : wpList P ops Q (o :: rest) a w := by
  refine wpList_store_row hgd ty x y ho g cells hx hy t old hg hi hs h1 ?_
  rw [hdst]
  exact h
def zsec : Array Value := (bc Sc.zero64).toArray
theorem zeroSec (W : World) : (zeroValue 109).run Tryz.prog W = .ok (.agg zsec) W := by kernel_rfl
theorem sizeSec : (Tryz.prog.info? 109).map (·.size) = some 64 := by kernel_rfl
theorem zsec_size : zsec.size = 64 := by kernel_rfl
def bA (x : ByteArray) : Array Value := (bc x).toArray
theorem bA_size {x : ByteArray} (h : x.size = 64) : (bA x).size = 64 := by rw [bA, List.size_toArray, bc_length, h]
theorem bA_one (x : ByteArray) : (bA x).all (·.oneCell') = true := all_oneCell_toArray (bc_one x)
theorem bA_info {x : ByteArray} (h : x.size = 64) : (Tryz.prog.info? 109).map (·.size) = some (bA x).size := by rw [bA_size h]; exact sizeSec
theorem results_row {fn : Func} {p : Tmp} (h : fn.results = #[.cell p 109]) (tmps : Array Value) (w : World) (g : Nat) (t : TypeId) (cs : Array Value) (fr : Nat × Nat)
    (hp : tmps.getD p undef = .pointer (some ⟨g, 0, none⟩)) (hg : w.heap[g]? = some (.cells cs t fr)) (hi : (Tryz.prog.info? 109).map (·.size) = some cs.size) :
    (results fn tmps).run Tryz.prog w = .ok (.agg cs) w := by
  have hp' : tmps[p]?.getD undef = .pointer (some ⟨g, 0, none⟩) := by simpa using hp
  simp [results, h, hp', asAddr, run_loadVar_row w g t 109 cs fr _ hg Tryz.underlying109 rfl hi]
theorem below_setRow {B : Nat} {a w : World} (h : Below B a w) {g : Nat} (hg : B ≤ g) (cs : Array Value) : Below B a (w.setRow g cs) :=
  h.trans ⟨rfl, rfl, rfl, by simp, fun k hk => setRow_other w g k cs (by omega)⟩
theorem drop_one {α : Type} (l : List α) (k : Nat) (x : α) (h : l[k]? = some x) : l.drop k = x :: l.drop (k + 1) := by
  obtain ⟨h1, h2⟩ := List.getElem?_eq_some_iff.1 h
  rw [List.drop_eq_getElem_cons h1, h2]
set_option maxHeartbeats 1000000 in
set_option maxRecDepth 20000 in
theorem now_any (g kg : Nat) (v : Value) (s : Sc.St) (i : Nat) (w : World) (H : Dk w g kg v s) (hi : i < s.kept.length) :
    Calls Tryz.prog 123 #[ptr g, .int .i64 (i : Int)] w fun e w' => e = .returned (.agg (bA (Sc.now s i))) ∧ Below w.heap.size w w' := by
  have hz := zeroSec
  have HA : Hid (Dk (w.alloc (.cells zsec 109)) g kg v s) := H.alloc _
  have HN : Hid ((w.alloc (.cells zsec 109)).heap[w.heap.size]? = some (.cells zsec 109 (0, 0))) := heap_alloc_new w _
  have HB : Hid (Below w.heap.size w (w.alloc (.cells zsec 109))) := (Below.refl _ _).alloc (Nat.le_refl _) _
  have hmost : s.pend.length ≤ 9223372036854775807 ∧ s.kept.length ≤ 65536 := by
    refine ⟨?_, H.ok.most⟩
    rcases H.open with ⟨_, h2⟩ | ⟨pg, cap, _, h2, h3, _⟩
    · rw [h2]; simp
    · omega
  have c0 := HA.out.c0
  have c1 := HA.out.c1
  obtain ⟨pa, cap, hv⟩ := H.pval
  rw [hv] at c1
  have HS : Hid ((w.alloc (.cells zsec 109)).rangeAt kg (i * 64) (bc (s.kept.getD i Sc.zero64))) := HA.out.sector hi
  have HZ : Hid ((bA (s.kept.getD i Sc.zero64)).size = 64) := bA_size (Sc.getD_size H.ok.size i)
  clear H
  go_enter Tryz.func123, Tryz.ntmps123
  go_wp2_with fail
  generalize World.alloc w _ = w1 at *
  go_loopw [5] (fun s5 wr => ∃ k : Nat, k ≤ s.pend.length ∧ s5 = .int .i64 ((k : Int) - 1) ∧ wr = w1 ∧ ∀ q ∈ s.pend.drop k, q.1 ≠ i) (fun s5 _ => (intOf s5 + 1).toNat)
  case atStart => exact ⟨s.pend.length, Nat.le_refl _, rfl, rfl, by simp⟩
  case round =>
    obtain ⟨k, hk, rfl, rfl, hq⟩ := hrel
    have HQ : Hid (∀ q ∈ s.pend.drop k, q.1 ≠ i) := hq
    clear hq
    cases k with
    | zero =>
      have hd : decide ((0 : Int) ≤ ((0 : Nat) : Int) - 1) = false := by decide
      have HI : Hid ((Tryz.prog.info? 109).map (·.size) = some (bA (s.kept.getD i Sc.zero64)).size) := by show _ = _; rw [HZ.out]; exact sizeSec
      have HE : Hid (Sc.now s i = s.kept.getD i Sc.zero64) := Sc.last_none i _ _ (by simpa using HQ.out)
      have i1 : (i : Int) < (s.kept.length : Int) := by omega
      have i0 : (0 : Int) ≤ (i : Int) := by omega
      have HIL : Hid ((Tryz.prog.info? 109).map (·.size) = some (bc (s.kept.getD i Sc.zero64)).length) := by rw [show (bc (s.kept.getD i Sc.zero64)).length = (bA (s.kept.getD i Sc.zero64)).size by simp [bA]]; exact HI
      go_wp2_with (first | (refine wpList_load_mid rfl 109 _ rfl kg (i * 64) (by first | rfl | (show Value.pointer _ = _; simp)) (bc (s.kept.getD i Sc.zero64)) _ HS.out Tryz.underlying109 rfl HIL.out ?_) | (refine store_row rfl rfl 109 _ _ rfl w.heap.size (bA (s.kept.getD i Sc.zero64)) rfl rfl 109 zsec HN.out HI.out (by rw [HZ.out]; exact zsec_size) (bA_one _) ?_))
      refine bodyPost_ret (v := .agg (bA (s.kept.getD i Sc.zero64))) ?_ rfl ⟨by rw [HE.out], below_setRow HB.out (Nat.le_refl _) _⟩
      exact results_row Tryz.results123 _ _ w.heap.size 109 _ (0, 0) rfl (setRow_heap _ _ _ _ _ _ HN.out) HI.out
    | succ m =>
      obtain ⟨pg, cap', hv', hcap, hc63, hr⟩ : ∃ pg cap, v = .slice (some ⟨pg, 0, none⟩) s.pend.length cap ∧ s.pend.length ≤ cap ∧ cap ≤ 9223372036854775807 ∧ ∀ i p, s.pend[i]? = some p → wr.rangeAt pg (i * 65) (wc p) := by
        rcases HA.out.open with ⟨_, h⟩ | h
        · rw [h] at hk; simp at hk
        · exact h
      have ea : pa = some ⟨pg, 0, none⟩ := by
        rw [hv] at hv'
        exact (Value.slice.inj hv').1
      obtain ⟨p, hp⟩ : ∃ p, s.pend[m]? = some p := ⟨_, List.getElem?_eq_getElem (by omega)⟩
      have hR := hr m p hp
      have HR1 : Hid (wr.rangeAt pg (m * 65 + 1) (bc p.2)) := fun j u hu => by
        have := hR (j + 1) u (by simpa [wc] using hu)
        rwa [show m * 65 + (j + 1) = m * 65 + 1 + j by omega] at this
      have cp : wr.cell? ⟨pg, m * 65, none⟩ = some (.int .i64 (p.1 : Int)) := hR 0 _ rfl
      have hps : p.2.size = 64 := HA.out.ok.psize p (List.mem_of_getElem? hp)
      have HI : Hid ((Tryz.prog.info? 109).map (·.size) = some (bA p.2).size) := bA_info hps
      have HIL : Hid ((Tryz.prog.info? 109).map (·.size) = some (bc p.2).length) := by rw [show (bc p.2).length = (bA p.2).size by simp [bA]]; exact HI
      have HZ2 : Hid ((bA p.2).size = 64) := bA_size hps
      have hml : m < s.pend.length := by omega
      have HP : Hid (s.pend[m]? = some p) := hp
      have HV : Hid (v = Value.slice pa s.pend.length cap) := hv
      subst ea
      clear hr hR hp hv hv'
      rw [show ((m + 1 : Nat) : Int) - 1 = (m : Int) by omega]
      have hd : decide ((0 : Int) ≤ (m : Int)) = true := by simp
      have m0 : (0 : Int) ≤ (m : Int) := by omega
      have m1 : (m : Int) < (s.pend.length : Int) := by omega
      by_cases he : p.1 = i
      · have hb : ((p.1 : Int) == (i : Int)) = true := by simp [he]
        have HE : Hid (Sc.now s i = p.2) := Sc.last_at i _ _ m p HP.out he HQ.out
        clear he
        go_wp2_with (first | (refine wpList_load_mid rfl 109 _ rfl pg (m * 65 + 1) (by first | rfl | (show Value.pointer _ = _; simp)) (bc p.2) _ HR1.out Tryz.underlying109 rfl HIL.out ?_) | (refine store_row rfl rfl 109 _ _ rfl w.heap.size (bA p.2) rfl rfl 109 zsec HN.out HI.out (by rw [HZ2.out]; exact zsec_size) (bA_one _) ?_))
        refine bodyPost_ret (v := .agg (bA p.2)) ?_ rfl ⟨by rw [HE.out], below_setRow HB.out (Nat.le_refl _) _⟩
        exact results_row Tryz.results123 _ _ w.heap.size 109 _ (0, 0) rfl (setRow_heap _ _ _ _ _ _ HN.out) HI.out
      · have hb : ((p.1 : Int) == (i : Int)) = false := by simp; omega
        have HFN : ∃ k : Nat, k ≤ s.pend.length ∧ Value.int .i64 ((m : Int) - 1) = .int .i64 ((k : Int) - 1) ∧ wr = wr ∧ ∀ q ∈ s.pend.drop k, q.1 ≠ i := ⟨m, by omega, rfl, rfl, fun q hq => by
          rw [drop_one _ _ _ HP.out] at hq
          rcases List.mem_cons.1 hq with rfl | hq
          · exact he
          · exact HQ.out q hq⟩
        clear he
        go_wp2
        go_roundw
        case rel =>
          obtain ⟨k, h1, h2, _, h4⟩ := HFN
          exact ⟨k, h1, h2, trivial, h4⟩
        case measure => (simp [intOf]) <;> omega
end Go.Proofs.YtcfninpokngmlaaGreatDoor
/- Proved: how a statement is walked whose order is drawn and whose last operation waits for all the others: a condition on memory holds behind each but the last. -/
namespace Go.Proofs.YtcfninpokngmlaaGreatDoor
open Go.RowKit
section
variable {P : Program} {ops : Array Oper} {Q : Exit → Act → World → Prop} {md : Region.Mode} {S : World → Prop} {z : Nat}
/- whatever order is picked from here on: S holds behind every operation but number z -/
def AnyBut (P : Program) (md : Region.Mode) (ops : Array Oper) (Q : Exit → Act → World → Prop) (S : World → Prop) (z : Nat) : Nat → Array Bool → Act → World → Prop
  | 0, listed, a, w => Region.ready md ops listed = [] ∧ Q .normal a w
  | n + 1, listed, a, w =>
    (Region.ready md ops listed = [] → Q .normal a w) ∧
    ∀ i ∈ Region.ready md ops listed, wpOp P ops Q i (fun a' w' => (i ≠ z → S w') ∧ AnyBut P md ops Q S z n (listed.setIfInBounds i true) a' w') a w
theorem AnyBut.any : ∀ (n : Nat) (listed : Array Bool) (a : Act) (w : World), AnyBut P md ops Q S z n listed a w → wpAny P md ops Q n listed a w
  | 0, _, _, _, h => h
  | n + 1, _, _, _, h => ⟨h.1, fun i hi => wpOp_mono (fun a' w' h' => AnyBut.any n _ a' w' h'.2) (h.2 i hi)⟩
/- what is listed has all listed that it waits for -/
def Clo (md : Region.Mode) (ops : Array Oper) (listed : Array Bool) : Prop := ∀ (j : Nat) (o : Oper), ops[j]? = some o → listed.getD j false = true → ∀ e ∈ o.after, Region.binds md e = true → listed.getD e.on false = true
def cloB (md : Region.Mode) (ops : Array Oper) (listed : Array Bool) : Bool := (List.range ops.size).all fun j => match ops[j]? with | none => true | some o => !(listed.getD j false) || o.after.all fun e => !(Region.binds md e) || listed.getD e.on false
theorem clo_of {listed : Array Bool} (h : cloB md ops listed = true) : Clo md ops listed := fun j o ho hl e he hb => by
  have hj := List.all_eq_true.1 h j (List.mem_range.2 (Array.getElem?_eq_some_iff.1 ho).1)
  simp only [ho, hl, Bool.not_true, Bool.false_or] at hj
  have h2 := Array.all_eq_true_iff_forall_mem.1 hj e he
  simpa [hb] using h2
theorem Clo.step {listed : Array Bool} {j : Nat} (h : Clo md ops listed) (hj : j ∈ Region.ready md ops listed) : Clo md ops (listed.setIfInBounds j true) := fun k o ho hl e he hb => by
  by_cases hkj : j = k
  · subst hkj
    obtain ⟨_, oj, hoj, hall⟩ := mem_ready.1 hj
    obtain rfl : oj = o := Option.some.inj (hoj.symm.trans ho)
    exact getD_set_true (hall e he hb)
  · rw [getD_set_ne false hkj] at hl
    exact getD_set_true (h k o ho hl e he hb)
/- number k waits for number i, at once or by way of others -/
def waits (md : Region.Mode) (ops : Array Oper) : Nat → Nat → Nat → Bool
  | 0, _, _ => false
  | f + 1, k, i => match ops[k]? with
    | none => false
    | some o => o.after.any fun e => Region.binds md e && (e.on == i || waits md ops f e.on i)
theorem waits_listed {listed : Array Bool} {i : Nat} (h : Clo md ops listed) : ∀ f k, waits md ops f k i = true → listed.getD k false = true → listed.getD i false = true
  | 0, _, hw, _ => by cases hw
  | f + 1, k, hw, hl => by
    unfold waits at hw
    cases ho : ops[k]? with
    | none => rw [ho] at hw; cases hw
    | some o =>
      rw [ho] at hw
      obtain ⟨n, hn, he⟩ := Array.any_eq_true.1 hw
      rw [Bool.and_eq_true, Bool.or_eq_true, beq_iff_eq] at he
      have hl' := h k o ho hl _ (Array.getElem_mem hn) he.1
      rcases he.2 with e | e
      · rw [e] at hl'; exact hl'
      · exact waits_listed h f _ e hl'
theorem waits_ready {listed : Array Bool} {i k f : Nat} (h : Clo md ops listed) (hw : waits md ops f k i = true) (hk : k ∈ Region.ready md ops listed) : listed.getD i false = true := by
  obtain ⟨_, o, ho, hall⟩ := mem_ready.1 hk
  cases f with
  | zero => cases hw
  | succ f =>
    unfold waits at hw
    rw [ho] at hw
    obtain ⟨n, hn, he⟩ := Array.any_eq_true.1 hw
    rw [Bool.and_eq_true, Bool.or_eq_true, beq_iff_eq] at he
    have hl' := hall _ (Array.getElem_mem hn) he.1
    rcases he.2 with e | e
    · rw [e] at hl'; exact hl'
    · exact waits_listed h f _ e hl'
theorem AnyBut.first {i f : Nat} {oi : Oper} {v : Value} (hi : ops[i]? = some oi) (hzi : waits md ops f z i = true) (hiz : i ≠ z)
    (hsel : ∀ (j : Nat) (o : Oper) cs b, ops[j]? = some o → o.op ≠ .select cs b) (hQ : ∀ c a w, Q (.panic c) (a.put oi.dst v) w → Q (.panic c) a w) :
    ∀ (n : Nat) (listed : Array Bool) (a : Act) (w : World), Clo md ops listed →
      (∀ j oj, ops[j]? = some oj → j ≠ i → listed.getD j true = false → (∀ e ∈ oj.after, Region.binds md e = true → e.on ≠ i) → oi.apart ops oj = true) →
      i ∈ Region.ready md ops listed → YieldsIf P ops S oi v a → S w →
      AnyBut P md ops Q S z n (listed.setIfInBounds i true) (a.put oi.dst v) w → AnyBut P md ops Q S z (n + 1) listed a w := by
  intro n
  induction n with
  | zero =>
    intro listed a w _ _ hr hy hS H
    refine ⟨fun h => (by rw [h] at hr; cases hr), fun j hj => ?_⟩
    by_cases hji : j = i
    · subst hji; exact hy.wpOp hi hS ⟨fun _ => hS, H⟩
    · have h' := ready_mono hj hji
      rw [H.1] at h'
      cases h'
  | succ n ih =>
    intro listed a w hclo hfree hr hy hS H
    refine ⟨fun h => (by rw [h] at hr; cases hr), fun j hj => ?_⟩
    by_cases hji : j = i
    · subst hji; exact hy.wpOp hi hS ⟨fun _ => hS, H⟩
    · have h1 := H.2 j (ready_mono hj hji)
      obtain ⟨hjun, oj, hoj, hall⟩ := mem_ready.1 hj
      have hnot : ∀ e ∈ oj.after, Region.binds md e = true → e.on ≠ i := fun e he hb heq => by
        have h1 := hall e he hb
        have h0 := (mem_ready.1 hr).1
        rw [heq] at h1
        rcases Nat.lt_or_ge i listed.size with h' | h'
        · simp [h'] at h0 h1; rw [h0] at h1; cases h1
        · simp [Array.getElem?_eq_none h'] at h1
      have hjz : j ≠ z := fun e => by
        subst e
        have hl := waits_ready hclo hzi hj
        have h0 := (mem_ready.1 hr).1
        rcases Nat.lt_or_ge i listed.size with h' | h'
        · simp [h'] at h0 hl; rw [h0] at hl; cases hl
        · simp [Array.getElem?_eq_none h'] at hl
      have h2 := wpOp_putIf hoj (hfree j oj hoj hji hjun hnot) (fun cs b => hsel i oi cs b hi) (fun cs b => hsel j oj cs b hoj) hQ hy h1
      have hfree' : ∀ k ok, ops[k]? = some ok → k ≠ i → (listed.setIfInBounds j true).getD k true = false →
          (∀ e ∈ ok.after, Region.binds md e = true → e.on ≠ i) → oi.apart ops ok = true := fun k ok hk hki hun hno => by
        refine hfree k ok hk hki ?_ hno
        by_cases hjk : j = k
        · subst hjk; exact hjun
        · rw [getD_set_ne true hjk] at hun; exact hun
      refine wpOp_mono (fun a' w' h3 => ⟨fun _ => h3.2.1 hjz, ih (listed.setIfInBounds j true) a' w' (hclo.step hj) hfree' (ready_mono hr (Ne.symm hji)) h3.1 (h3.2.1 hjz) ?_⟩) h2
      rw [Array.setIfInBounds_comm _ _ hji]
      exact h3.2.2
theorem AnyBut.take (i : Nat) (d : Option Tmp) {oi : Oper} {v : Value} {n : Nat} {listed : Array Bool} {a : Act} {w : World} (hi : ops[i]? = some oi) (hd : oi.dst = d) (hzi : waits md ops 10 z i = true) (hiz : i ≠ z) (hc : cloB md ops listed = true)
    (hs : Region.noSelect ops = true) (hf : Region.free md ops listed i = true) (hr : (Region.ready md ops listed).contains i = true)
    (hQ : ∀ c a w, Q (.panic c) (a.put d v) w → Q (.panic c) a w) (hy : YieldsIf P ops S oi v a) (hS : S w)
    (h : AnyBut P md ops Q S z n (listed.setIfInBounds i true) (a.put d v) w) : AnyBut P md ops Q S z (n + 1) listed a w := by
  subst hd
  exact AnyBut.first hi hzi hiz (Region.noSelect_spec hs) hQ n listed a w (clo_of hc) (Region.free_spec hi hf) (by simpa using hr) hy hS h
/- one operation alone may come up: it is carried out -/
theorem AnyBut.one (i : Nat) {o : Oper} {n : Nat} {listed : Array Bool} {a : Act} {w : World} (hr : Region.ready md ops listed = [i]) (ho : ops[i]? = some o) (hw : Region.wanted o (yielded ops a.tmps) = true)
    (h : ∀ K : Act → World → Prop, Shut (∀ a' w', (i ≠ z → S w') → AnyBut P md ops Q S z n (listed.setIfInBounds i true) a' w' → K a' w') → Oper.wp P o a w K Q) : AnyBut P md ops Q S z (n + 1) listed a w := by
  refine ⟨fun h0 => (by rw [hr] at h0; cases h0), fun j hj => ?_⟩
  rw [hr] at hj
  obtain rfl := List.mem_singleton.1 hj
  exact wpOp_step ho (fun K' hK => by rw [if_pos hw]; exact h K' (fun a' w' h1 h2 => hK a' w' ⟨h1, h2⟩))
theorem AnyBut.done {n : Nat} {listed : Array Bool} {a : Act} {w : World} (hr : Region.ready md ops listed = []) (h : Q .normal a w) : AnyBut P md ops Q S z n listed a w := by
  cases n with
  | zero => exact ⟨hr, h⟩
  | succ n => exact ⟨fun _ => h, fun i hi => by rw [hr] at hi; cases hi⟩
theorem AnyBut.begin {id : Nat} {a : Act} {w : World} (hm : P.follows .mixedOrders = true) (h : AnyBut P .any ops Q S z ops.size (Array.replicate ops.size false) a w.drew) : (Code.region id ops true).wp P Q a w :=
  wp_region_any hm (AnyBut.any _ _ _ _ h)
end
end Go.Proofs.YtcfninpokngmlaaGreatDoor
/- Proved: what New, Read and keep do. -/
namespace Go.Proofs.YtcfninpokngmlaaGreatDoor
open Go.RowKit
theorem str_of {w : World} {b : Nat} {x : ByteArray} (h : w.rangeAt b 0 (bc x)) (cap : Nat) : (convert 138 9 (.slice (some ⟨b, 0, none⟩) x.size cap)).run Tryz.prog w = .ok (.string x) w := by
  have e := run_convert_bytes_back (P := Tryz.prog) w 138 9 5 ⟨b, 0, none⟩ cap x.data.toList Tryz.underlying138 Tryz.underlying5 Tryz.underlying9 (fun j hj => by
    rw [Addr.add_mid]
    exact h j _ (by rw [bc, List.getElem?_map, List.getElem?_eq_getElem hj]; rfl))
  rw [← Sc.size_eq] at e
  exact e
theorem range_row {w : World} {g : Nat} {t : TypeId} {x : ByteArray} (h : w.heap[g]? = some (.cells (bA x) t (0, 0))) : w.rangeAt g 0 (bc x) := fun j u hu => by
  rw [cell_of_row w g _ _ t (0, 0) h, Nat.zero_add, bA, List.getElem?_toArray]; exact hu
set_option maxHeartbeats 1000000 in
set_option maxRecDepth 20000 in
theorem read_any (g kg : Nat) (v : Value) (s : Sc.St) (i : Int) (w : World) (H : Dk w g kg v s) :
    Calls Tryz.prog 96 #[ptr g, .int .i64 i] w fun e w' => e = .returned (.tuple #[.string (Sc.readV s i), .int .i64 (Sc.readE s i)]) ∧ Below w.heap.size w w' := by
  have HR := ready_any g kg v s w H
  have HS := has_any g kg v s i w H
  have HH : Hid (Dk w g kg v s) := H
  have hz := zeroSec
  clear H
  unfold Sc.liveE at HR
  unfold Sc.readV Sc.readE
  cases hd : s.down
  · rw [hd] at HR
    simp only [Bool.false_eq_true, if_false] at *
    cases hh : Sc.has s i
    · rw [hh] at HS
      simp only [if_true]
      go_enter Tryz.func96, Tryz.ntmps96
      go_wp2_with (first | (go_at_call 53; refine HR.mono ?_; rintro e w' ⟨rfl, rfl⟩) | (go_at_call 122; refine HS.mono ?_; rintro e w' ⟨rfl, rfl⟩))
      go_ret2
      exact ⟨rfl, Below.refl _ _⟩
    · rw [hh] at HS
      simp only [Bool.true_eq_false, if_false]
      obtain ⟨k, rfl⟩ : ∃ k : Nat, i = (k : Int) := ⟨i.toNat, by have := (Sc.has_iff.1 hh).1; omega⟩
      have hk : k < s.kept.length := by have := (Sc.has_iff.1 hh).2; omega
      rw [Int.toNat_natCast]
      have HX : Hid ((Sc.now s k).size = 64) := Sc.now_size HH.out.ok k
      have HNW : Hid (Calls Tryz.prog 123 #[ptr g, .int .i64 (k : Int)] w fun e w' => e = .returned (.agg (bA (Sc.now s k))) ∧ Below w.heap.size w w') := now_any g kg v s k w HH.out hk
      generalize Sc.now s k = x at *
      have HI : Hid ((Tryz.prog.info? 109).map (·.size) = some (bA x).size) := bA_info HX.out
      go_enter Tryz.func96, Tryz.ntmps96
      go_wp2_with (first | (go_at_call 53; refine HR.mono ?_; rintro e w' ⟨rfl, rfl⟩) | (go_at_call 122; refine HS.mono ?_; rintro e w' ⟨rfl, rfl⟩) | (go_at_call 123; refine HNW.out.mono ?_; rintro e w' ⟨rfl, hB⟩) | (refine store_row rfl rfl 109 _ _ rfl _ (bA x) rfl rfl 109 zsec (heap_alloc_new _ _) HI.out (by rw [bA_size HX.out]; exact zsec_size) (bA_one _) ?_; have hcv := str_of (x := x) (range_row (setRow_heap _ _ _ _ _ _ (heap_alloc_new w' (.cells zsec 109)))) 64; rw [HX.out] at hcv))
      go_ret2
      exact ⟨rfl, hB.trans (below_setRow ((Below.refl _ _).alloc (Nat.le_refl _) _) (Nat.le_refl _) _ |>.mono hB.size)⟩
  · rw [hd] at HR
    simp only [if_true] at *
    go_enter Tryz.func96, Tryz.ntmps96
    go_wp2_with (first | (go_at_call 53; refine HR.mono ?_; rintro e w' ⟨rfl, rfl⟩) | (go_at_call 122; refine HS.mono ?_; rintro e w' ⟨rfl, rfl⟩))
    go_ret2
    exact ⟨rfl, Below.refl _ _⟩
theorem made_zero : Tryz.t109.zero = some (.agg zsec) := by kernel_rfl
theorem info_sec : Tryz.prog.info? 109 = some Tryz.t109 := by kernel_rfl
theorem zsec_at (j : Nat) (h : j < 64) : zsec[j]? = some (.int .u8 0) := by
  unfold zsec Sc.zero64 bc
  rw [List.getElem?_toArray, List.getElem?_map]
  show Option.map _ (Array.replicate 64 (0 : UInt8)).toList[j]? = _
  rw [Array.toList_replicate, List.getElem?_replicate, if_pos h]
  rfl
theorem made_cells (n : Nat) : (madeCells zsec (n * 64)).toList = (List.replicate n Sc.zero64).flatMap bc := by
  have hl : ((List.replicate n Sc.zero64).flatMap bc).length = n * 64 := by
    rw [flat_length bc 64 _ (fun x hx => by rw [bc_length, (List.mem_replicate.1 hx).2, Sc.zero64_size])]
    simp
  apply List.ext_getElem?
  intro j
  by_cases hj : j < n * 64
  · have h1 : j % 64 < 64 := Nat.mod_lt _ (by omega)
    have h2 : (List.replicate n Sc.zero64)[j / 64]? = some Sc.zero64 := by rw [List.getElem?_replicate, if_pos (by omega)]
    have e := flat_at bc 64 (List.replicate n Sc.zero64) (j / 64) Sc.zero64 (j % 64) (fun x hx => by rw [bc_length, (List.mem_replicate.1 hx).2, Sc.zero64_size]) h2 h1
    rw [show j / 64 * 64 + j % 64 = j by omega] at e
    have z := zsec_at (j % 64) h1
    rw [e]
    have z2 : (bc Sc.zero64)[j % 64]? = some (.int .u8 0) := by
      unfold zsec at z
      rwa [List.getElem?_toArray] at z
    rw [z2, Array.getElem?_toList]
    unfold madeCells
    rw [Array.getElem?_map, Array.getElem?_eq_getElem (by simpa using hj), Option.map_some]
    congr 1
    simp only [Array.getElem_range]
    rw [zsec_size, getElem!_def, z]
  · rw [List.getElem?_eq_none (by rw [Array.length_toList, size_madeCells]; omega), List.getElem?_eq_none (by omega)]
set_option maxHeartbeats 1000000 in
set_option maxRecDepth 20000 in
theorem new_any (n : Nat) (w : World) (h1 : 1 ≤ n) (h2 : n ≤ 65536) :
    Calls Tryz.prog 21 #[.int .i64 (n : Int)] w fun e w' => ∃ g kg, e = .returned (.tuple #[ptr g, .int .i64 0]) ∧ Dk w' g kg (.slice none 0 0) (Sc.made n) ∧ Below w.heap.size w w' ∧ w.heap.size ≤ g ∧ w.heap.size ≤ kg := by
  have d1 : decide ((n : Int) < 1) = false := by simp; omega
  have d2 : decide ((65536 : Int) < (n : Int)) = false := by simp; omega
  have hb : Tryz.t109.bytes = 64 := rfl
  go_enter Tryz.func21, Tryz.ntmps21
  go_wp2_with (first | (at_make; refine wpList_make_full w rfl _ _ 94 rfl 0 109 Tryz.t109 (.agg zsec) 64 Tryz.underlying94 info_sec made_zero rfl _ _ _ _ n rfl rfl rfl rfl (by rw [hb]; omega) (by unfold maxLen; omega) (Nat.zero_le _) ?_; intro w1 hO1 hG1; have HO1 := (show Hid (w1.ownsRow 0 109 64 _ n _) from hO1); have HG1 := (show Hid (w.grownBy w1 none) from hG1); clear hO1 hG1))
  go_ret2
  have hO := HO1.out
  rw [show (Value.agg zsec).cells = zsec from rfl, made_cells] at hO
  rcases hO.2 with ⟨h, _⟩ | ⟨kg, cap, cur, hv, _, hh, hc, _, hs, ht⟩
  · cases h
  obtain ⟨ha, hcap⟩ : w.heap.size = kg ∧ n = cap := by
    have := Value.slice.inj hv
    refine ⟨?_, this.2.2⟩
    have := this.1
    simpa using this
  subst ha
  subst hcap
  have hcur : cur = ((List.replicate n Sc.zero64).flatMap bc).toArray := by
    rw [← ht, List.take_of_length_le (by rw [Array.length_toList]; omega)]
  have hB : Below w.heap.size w w1 := ⟨HG1.out.os, HG1.out.tape, HG1.out.output, HG1.out.size, fun k hk => HG1.out.block k hk (by simp)⟩
  have hlt := (Array.getElem?_eq_some_iff.1 hh).1
  refine ⟨w1.heap.size, w.heap.size, rfl, ⟨?_, ?_, World.ownsRow_nil _ _ _ _, by omega, by simp [Value.ownBlock], by simp [Value.ownBlock], Sc.made_ok h1 h2⟩, hB.alloc hB.size _, hB.size, Nat.le_refl _⟩
  · rw [heap_alloc_new]
    simp [dcells, Sc.made]
  · rw [Below.heap_alloc _ _ _ hlt, hh, hcur]; rfl
/- a write that is pending, as a value -/
def wA (p : Nat × ByteArray) : Array Value := (wc p).toArray
theorem sizeWr : (Tryz.prog.info? 111).map (·.size) = some 65 := by kernel_rfl
theorem wA_size {p : Nat × ByteArray} (h : p.2.size = 64) : (wA p).size = 65 := by rw [wA, List.size_toArray, wc_length h]
set_option maxHeartbeats 2000000 in
set_option maxRecDepth 20000 in
theorem keep_any (g kg : Nat) (v : Value) (s : Sc.St) (i : Nat) (x : ByteArray) (w : World) (H : Dk w g kg v s) (hi : i < s.kept.length) (hx : x.size = 64) :
    Calls Tryz.prog 70 #[ptr g, .agg (wA (i, x))] w fun e w' => e = .returned (.tuple #[]) ∧ Dk w' g kg v { s with kept := s.kept.set i x } ∧ Turn (foot g kg v) (foot g kg v) w w' := by
  have hm := H.ok.most
  have HA : Hid (Dk (w.alloc (.cells (wA (i, x)) 111)) g kg v s) := H.alloc _
  have HT : Hid (Turn (foot g kg v) (foot g kg v) w (w.alloc (.cells (wA (i, x)) 111))) := Turn.of_below ((Below.refl _ _).alloc (Nat.le_refl _) _)
  have HN : Hid ((w.alloc (.cells (wA (i, x)) 111)).heap[w.heap.size]? = some (.cells (wA (i, x)) 111 (0, 0))) := heap_alloc_new w _
  have hlt := H.lt
  have hgl : g < w.heap.size := hlt g (by simp [foot])
  have hkl : kg < w.heap.size := hlt kg (by simp [foot])
  clear hlt H
  go_enter Tryz.func70, Tryz.ntmps70
  go_wp2_with fail
  generalize World.alloc w _ = w1 at *
  have HRW : Hid (w1.rangeAt w.heap.size 0 (wc (i, x))) := fun j u hu => by
    rw [cell_of_row w1 _ _ _ _ (0, 0) HN.out, Nat.zero_add, wA, List.getElem?_toArray]; exact hu
  have HS : Hid ((fun w' : World => w'.cell? ⟨g, 0, none⟩ = some (.slice (some ⟨kg, 0, none⟩) s.kept.length s.kept.length) ∧ w'.cell? ⟨w.heap.size, 0, none⟩ = some (.int .i64 (i : Int)) ∧ w'.rangeAt w.heap.size 1 (bc x)) w1.drew) :=
    ⟨HA.out.c0, HRW.out 0 _ rfl, fun j u hu => by
      have := HRW.out (j + 1) u (by simpa [wc] using hu)
      rwa [show 0 + (j + 1) = 1 + j by omega] at this⟩
  have HIL : Hid ((Tryz.prog.info? 109).map (·.size) = some (bc x).length) := by show _ = _; rw [bc_length, hx]; exact sizeSec
  have i0 : (0 : Int) ≤ (i : Int) := by omega
  have i1 : (i : Int) < (s.kept.length : Int) := by omega
  refine AnyBut.begin (z := 9) (S := fun w' => w'.cell? ⟨g, 0, none⟩ = some (.slice (some ⟨kg, 0, none⟩) s.kept.length s.kept.length) ∧ w'.cell? ⟨w.heap.size, 0, none⟩ = some (.int .i64 (i : Int)) ∧ w'.rangeAt w.heap.size 1 (bc x)) (by kernel_rfl) ?_
  refine AnyBut.take 0 (some 4) (v := (ptr g)) rfl rfl (by kernel_rfl) (by decide) (by kernel_rfl) (by kernel_rfl) (by kernel_rfl) (by kernel_rfl) (fun _ _ _ h => h) (Or.inl ⟨by rfl, fun w hS => ?_⟩) HS.out ?_
  · (go_simp)
  simp only [Act.put, List.setIfInBounds_toArray, List.set_cons_zero, List.set_cons_succ]
  refine AnyBut.take 1 (some 5) (v := (ptr g)) rfl rfl (by kernel_rfl) (by decide) (by kernel_rfl) (by kernel_rfl) (by kernel_rfl) (by kernel_rfl) (fun _ _ _ h => h) (Or.inl ⟨by rfl, fun w hS => ?_⟩) HS.out ?_
  · (go_simp)
  simp only [Act.put, List.setIfInBounds_toArray, List.set_cons_zero, List.set_cons_succ]
  refine AnyBut.take 2 (some 6) (v := (ptr g)) rfl rfl (by kernel_rfl) (by decide) (by kernel_rfl) (by kernel_rfl) (by kernel_rfl) (by kernel_rfl) (fun _ _ _ h => h) (Or.inl ⟨by rfl, fun w hS => ?_⟩) HS.out ?_
  · (go_simp)
  simp only [Act.put, List.setIfInBounds_toArray, List.set_cons_zero, List.set_cons_succ]
  refine AnyBut.take 3 (some 7) (v := (.slice (some ⟨kg, 0, none⟩) s.kept.length s.kept.length)) rfl rfl (by kernel_rfl) (by decide) (by kernel_rfl) (by kernel_rfl) (by kernel_rfl) (by kernel_rfl) (fun _ _ _ h => h) (Or.inl ⟨by rfl, fun w hS => ?_⟩) HS.out ?_
  · (obtain ⟨q1, q2, _⟩ := hS; go_simp)
  simp only [Act.put, List.setIfInBounds_toArray, List.set_cons_zero, List.set_cons_succ]
  refine AnyBut.take 4 (some 8) (v := (.pointer (some ⟨w.heap.size, 0, none⟩))) rfl rfl (by kernel_rfl) (by decide) (by kernel_rfl) (by kernel_rfl) (by kernel_rfl) (by kernel_rfl) (fun _ _ _ h => h) (Or.inl ⟨by rfl, fun w hS => ?_⟩) HS.out ?_
  · (go_simp)
  simp only [Act.put, List.setIfInBounds_toArray, List.set_cons_zero, List.set_cons_succ]
  refine AnyBut.take 5 (some 9) (v := (.int .i64 (i : Int))) rfl rfl (by kernel_rfl) (by decide) (by kernel_rfl) (by kernel_rfl) (by kernel_rfl) (by kernel_rfl) (fun _ _ _ h => h) (Or.inl ⟨by rfl, fun w hS => ?_⟩) HS.out ?_
  · (obtain ⟨q1, q2, _⟩ := hS; go_simp)
  simp only [Act.put, List.setIfInBounds_toArray, List.set_cons_zero, List.set_cons_succ]
  refine AnyBut.take 6 (some 10) (v := (.pointer (some ⟨w.heap.size, 1, none⟩))) rfl rfl (by kernel_rfl) (by decide) (by kernel_rfl) (by kernel_rfl) (by kernel_rfl) (by kernel_rfl) (fun _ _ _ h => h) (Or.inl ⟨by rfl, fun w hS => ?_⟩) HS.out ?_
  · (go_simp)
  simp only [Act.put, List.setIfInBounds_toArray, List.set_cons_zero, List.set_cons_succ]
  refine AnyBut.take 7 (some 11) rfl rfl (by kernel_rfl) (by decide) (by kernel_rfl) (by kernel_rfl) (by kernel_rfl) (by kernel_rfl) (fun _ _ _ h => h) (yieldsIf_load_mid (by rfl) _ _ rfl _ _ rfl (bc x) _ (fun w hS => hS.2.2) Tryz.underlying109 rfl HIL.out) HS.out ?_
  simp only [Act.put, List.setIfInBounds_toArray, List.set_cons_zero, List.set_cons_succ]
  refine AnyBut.take 8 (some 12) (v := (.pointer (some ⟨kg, i * 64, none⟩))) rfl rfl (by kernel_rfl) (by decide) (by kernel_rfl) (by kernel_rfl) (by kernel_rfl) (by kernel_rfl) (fun _ _ _ h => h) (Or.inl ⟨by rfl, fun w hS => ?_⟩) HS.out ?_
  · (go_simp)
  simp only [Act.put, List.setIfInBounds_toArray, List.set_cons_zero, List.set_cons_succ]
  refine AnyBut.one 9 (by kernel_rfl) rfl (by rfl) (fun KK hK => ?_)
  refine wp_store_mid 109 _ _ rfl kg (i * 64) (bA x) rfl rfl (by rw [bA_size hx]; exact HA.out.drew.there hi) (bA_info hx) (bA_one x) ?_
  refine hK.out _ _ (fun h => absurd rfl h) ?_
  clear hK KK
  refine AnyBut.done (by kernel_rfl) ?_
  go_end0
  exact ⟨rfl, HA.out.drew.setKept hi hx, HT.out.drew.trans (foot_kept _ _ _ _ _ _)⟩
end Go.Proofs.YtcfninpokngmlaaGreatDoor
