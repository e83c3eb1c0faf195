/- Proved: a range over a function whose loop variable is a field, where the function may write a variable of its own (the block that lies next behind the loop's record): the loop's rule. -/
import Derived.RangeFuncNested
import Derived.RangeFuncBound
import Derived.RangeFuncCalls
import Derived.RangeFuncLeaves
import Derived.Shelf.Abstract
import Derived.Shelf.RegionOpen
import Derived.WalkKit
import Derived.OwnWalkIn
import Derived.TacticsInMore
import Derived.LoopNIn
import Derived.LoopIn
import Derived.Test.YtpbobmhffdmmmaaFieldF
namespace Go.Proofs.Ytpbobmhffdmmmaa
open Go.RowKit
/- a step within a loop that began at N blocks: new blocks; of those from N on, one that holds no cells, or block N + 2, the function's own -/
def Turns (N : Nat) (A B : World) : Prop := ∃ row, A.grownBy B row ∧ ∀ r, row = some r → N ≤ r ∧ (r = N + 2 ∨ ∃ o : Obj, A.heap[r]? = some o ∧ o.isCells = false)
theorem Turns.alloc (N : Nat) (A : World) (o : Obj) : Turns N A (A.alloc o) := ⟨none, World.grownBy_alloc A o none, fun r e => by cases e⟩
theorem Turns.put (N : Nat) {A : World} {l : Nat} {o : Obj} (o' : Obj) (hN : N ≤ l) (hl : A.heap[l]? = some o) (ho : o.isCells = false) : Turns N A (A.putObj l o') :=
  ⟨some l, grownBy_putObj' A l o', fun r e => by cases e; exact ⟨hN, .inr ⟨o, hl, ho⟩⟩⟩
theorem Turns.own {N : Nat} {A B : World} (h : A.grownBy B (some (N + 2))) : Turns N A B := ⟨some (N + 2), h, fun r e => by cases e; exact ⟨by omega, .inl rfl⟩⟩
theorem Turns.boxed {N : Nat} {A B : World} (h : Turns N A B) {b : Nat} {t : TypeId} {v : Value} (hb : Boxed A b t v) (hne : b ≠ N + 2) : Boxed B b t v := by
  obtain ⟨row, hg, hr⟩ := h
  refine hb.kept hg (fun e => ?_)
  obtain ⟨_, h | ⟨o, ho, hc⟩⟩ := hr b e.symm
  · exact hne h
  · rw [show A.heap[b]? = _ from hb] at ho
    cases ho
    cases hc
theorem Turns.owns {N : Nat} {A B : World} (h : Turns N A B) {e : TypeId} {k : Nat} {v : Value} {n : Nat} {vs : List Value} (ho : A.ownsRow (N + 3) e k v n vs) : B.ownsRow (N + 3) e k v n vs := by
  obtain ⟨row, hg, hr⟩ := h
  obtain ⟨h0, h1⟩ := ho
  refine ⟨h0, ?_⟩
  rcases h1 with h1 | ⟨g, cap', cur, hv, hN, hh, r⟩
  · exact .inl h1
  · refine .inr ⟨g, cap', cur, hv, hN, (hg.block g (Array.getElem?_eq_some_iff.1 hh).1 (fun e => ?_)).trans hh, r⟩
    obtain ⟨_, h | ⟨o, ho, hc⟩⟩ := hr g e.symm
    · omega
    · rw [hh] at ho
      cases ho
      cases hc
theorem Turns.below {N M : Nat} {w A B : World} (h : Turns N A B) (hb : Below M w A) (hM : M ≤ N) (hs : M ≤ A.heap.size) : Below M w B := by
  obtain ⟨row, hg, hr⟩ := h
  exact hb.grown hg hs (fun k e => by have := (hr k e).1; omega)
/- what a round keeps: the blocks k with K k -/
structure Kept (K : Nat → Prop) (A B : World) : Prop where
  size : A.heap.size ≤ B.heap.size
  same : ∀ k, K k → k < A.heap.size → B.heap[k]? = A.heap[k]?
theorem Kept.trans {K : Nat → Prop} {A B C : World} (h : Kept K A B) (k : Kept K B C) : Kept K A C :=
  ⟨Nat.le_trans h.size k.size, fun i hi hl => (k.same i hi (Nat.lt_of_lt_of_le hl h.size)).trans (h.same i hi hl)⟩
theorem Kept.refl (K : Nat → Prop) (A : World) : Kept K A A := ⟨Nat.le_refl _, fun _ _ _ => rfl⟩
theorem Kept.alloc (K : Nat → Prop) (A : World) (o : Obj) : Kept K A (A.alloc o) := ⟨by simp, fun k _ hl => Below.heap_alloc _ _ _ hl⟩
theorem Kept.put {K : Nat → Prop} {A : World} {l : Nat} (o : Obj) (hl : ¬ K l) : Kept K A (A.putObj l o) :=
  ⟨by simp, fun _ hk _ => World.putObj_heap_other (fun e => hl (e ▸ hk))⟩
/- how a round may be left -/
def roundEnds {α : Type} (K : Nat → Prop) (I Ix : List α → World → Prop) (xs : List α) (A : World) : Exit → Act → World → Prop
  | .normal, _, B => KeepsOthers A B ∧ Kept K A B ∧ I xs B
  | .ret, _, B => KeepsOthers A B ∧ Ix xs B
  | _, _, _ => False
/- what the function that is ranged over promises, at the loop that begins in w -/
def Yields {α : Type} (n : Nat) (gf : Nat) (lb : Array Value) (encs : α → Array Value) (K : Nat → Prop) (Pre : List α → α → Prop) (S Sx : List α → Prop) (w : World) : Prop :=
  ∀ (J Jx : List α → World → Prop) (W : World), W.heap.size = w.heap.size + 2 → Below w.heap.size w W →
    (∀ s A B, J s A → A.grownBy B (some (w.heap.size + 2)) → J s B) → (∀ s A B, Jx s A → A.grownBy B (some (w.heap.size + 2)) → Jx s B) →
    (∀ pre x A, J pre A → w.heap.size + 2 < A.heap.size → Pre pre x → YieldAt Fence.wide (n - 1) Try.prog (w.heap.size + 1) (encs x) A fun e B =>
      (e = .returned (.bool true) ∧ J (pre ++ [x]) B ∧ Kept K A B) ∨ (e = .returned (.bool false) ∧ Jx (pre ++ [x]) B)) →
    J [] W →
    CallsIn Fence.wide n Try.prog gf (#[.func (.yield (w.heap.size + 1)) #[] #[]] ++ lb) W fun e B => (∃ v, e = .returned v) ∧ ((∃ xs, S xs ∧ J xs B) ∨ (∃ xs, Sx xs ∧ Jx xs B))
theorem range_rule {α : Type} {n : Nat} {g : Operand} {ps : Array Tmp} {assign body : Code} {Q : Exit → Act → World → Prop} {a : Act} {w : World} {gf : Nat} {lb : Array Value} (hg : a.eval g = .func (.func gf) #[] lb) (eg : ∀ args w, (callFunc gf args).run Try.prog w = .ok (.enter gf args) w)
    {encs : α → Array Value} {fld : α → Fv} {K : Nat → Prop} {Pre : List α → α → Prop} {S Sx : List α → Prop} (hK : ¬ K (w.heap.size + 1)) (hseq : Yields (n - 1) gf lb encs K Pre S Sx w) (hps : ∀ x, (encs x).size = ps.size)
    (I Ix : List α → World → Prop) (hI : ∀ s A B, I s A → Turns w.heap.size A B → I s B) (hIx : ∀ s A B, Ix s A → Turns w.heap.size A B → Ix s B) (h0 : I [] w) (a1 : α → Nat → Act)
    (hassign : ∀ (l : Nat) (x : α) (A : World) (C : Act → World → Prop), C (a1 x A.heap.size) (boxed A (fld x)) →
      assign.wpIn (Fence.wide.inRound l) (n - 1 - 1) Try.prog (Exit.then C (fun _ _ _ => False)) { tmps := (ps.zip (encs x)).foldl (fun t (p, v) => t.setIfInBounds p v) a.tmps, defers := [] } A)
    (hbody : ∀ (l : Nat) (pre : List α) (x : α) (A0 A : World), I pre A0 → Turns w.heap.size A0 A → w.heap.size + 2 < A0.heap.size → A0.heap.size < A.heap.size → FieldAt A A0.heap.size 0 (fld x) → Pre pre x → body.wpIn (Fence.wide.inRound l) (n - 1 - 1) Try.prog (roundEnds K I Ix (pre ++ [x]) A) (a1 x A0.heap.size) A)
    (hdone : ∀ (xs : List α) (B : World), S xs → I xs B → w.heap.size < B.heap.size → B.heap[w.heap.size]? = some (.deferred (some [])) → Q .normal { a with defers := { target := .collected w.heap.size, args := #[] } :: a.defers } B)
    (hstop : ∀ (xs : List α) (B : World), Sx xs → Ix xs B → w.heap.size < B.heap.size → B.heap[w.heap.size]? = some (.deferred (some [])) → Code.ret.wpIn Fence.wide n Try.prog Q { a with defers := { target := .collected w.heap.size, args := #[] } :: a.defers } B) :
    (Code.rangeFunc g ps assign body).wpIn Fence.wide n Try.prog Q a w := by
  refine wpIn_rangeFunc fun fn hfn => ?_
  let rec0 : LoopState → Option Code → Loop := fun st pe => { state := st, pending := pe, fn, tmps := a.tmps, params := ps, assign, body, defers := w.heap.size }
  obtain ⟨W1, hW1⟩ : ∃ W1, (w.alloc (.deferred (some []))).alloc (.loop (rec0 .ready none)) = W1 := ⟨_, rfl⟩
  have hl1 : W1.heap[w.heap.size + 1]? = some (.loop (rec0 .ready none)) := by
    rw [← hW1]
    have := World.alloc_heap_new (w.alloc (.deferred (some []))) (.loop (rec0 .ready none))
    rwa [World.size_alloc] at this
  have hd1 : W1.heap[w.heap.size]? = some (.deferred (some [])) := by
    rw [← hW1]
    exact (Below.heap_alloc _ _ _ (by simp)).trans (World.alloc_heap_new w _)
  have hz1 : W1.heap.size = w.heap.size + 2 := by rw [← hW1]; simp
  have hb1 : Below w.heap.size w W1 := by rw [← hW1]; exact ((Below.refl _ w).alloc (Nat.le_refl _) _).alloc (by simp) _
  have hi1 : I [] W1 := by rw [← hW1]; exact hI _ _ _ (hI _ _ _ h0 (Turns.alloc _ _ _)) (Turns.alloc _ _ _)
  refine ⟨w.heap.size + 1, [{ target := .collected w.heap.size, args := #[] }], W1, { target := .fn (.func gf) lb, args := #[.func (.yield (w.heap.size + 1)) #[] #[]] }, W1, gf, #[.func (.yield (w.heap.size + 1)) #[] #[]] ++ lb, W1, ?_, ?_, fun _ _ => trivial, ?_, fun h => by simp [Fence.wide] at h, ?_⟩
  · rw [← hW1]; exact run_enterLoop_outer _ _ _ _ _
  · simp only [resolve, hg]
    simp [go_sem]
  · simp [invoke, go_sem, eg]
  · have keepsL : ∀ {A B : World} {k : Nat} {o : Obj}, A.grownBy B (some (w.heap.size + 2)) → k < w.heap.size + 2 → A.heap[k]? = some o → B.heap[k]? = some o := fun h hk ho =>
      (h.block _ (Array.getElem?_eq_some_iff.1 ho).1 (fun e => by have := Option.some.inj e; omega)).trans ho
    refine (hseq
      (fun s A => I s A ∧ A.heap[w.heap.size + 1]? = some (.loop (rec0 .ready none)) ∧ A.heap[w.heap.size]? = some (.deferred (some [])))
      (fun s A => Ix s A ∧ A.heap[w.heap.size + 1]? = some (.loop (rec0 .done (some .ret))) ∧ A.heap[w.heap.size]? = some (.deferred (some [])))
      W1 hz1 hb1
      (fun s A B h hg => ⟨hI _ _ _ h.1 (Turns.own hg), keepsL hg (by omega) h.2.1, keepsL hg (by omega) h.2.2⟩)
      (fun s A B h hg => ⟨hIx _ _ _ h.1 (Turns.own hg), keepsL hg (by omega) h.2.1, keepsL hg (by omega) h.2.2⟩)
      ?_ ⟨hi1, hl1, hd1⟩).mono ?_
    · rintro pre x A ⟨hi, hl, hd⟩ hX hP
      have hy := run_yield (P := Try.prog) (args := encs x) hl (hps x)
      have hbl : (boxed A (fld x)).heap[w.heap.size + 1]? = some (.loop (rec0 .ready none)) := (Below.heap_alloc _ _ _ (Array.getElem?_eq_some_iff.1 hl).1).trans hl
      have hbd : (boxed A (fld x)).heap[w.heap.size]? = some (.deferred (some [])) := (Below.heap_alloc _ _ _ (Array.getElem?_eq_some_iff.1 hd).1).trans hd
      refine ⟨fn, _, assign, body, hy, roundIn_of_wpIn hfn (hassign _ x A _ ⟨_, run_beginRound hbl rfl, ?_⟩)⟩
      obtain ⟨A2, hA2⟩ : ∃ A2, (boxed A (fld x)).putObj (w.heap.size + 1) (.loop { rec0 .ready none with state := .busy }) = A2 := ⟨_, rfl⟩
      have hl2 : A2.heap[w.heap.size + 1]? = some (.loop { rec0 .ready none with state := .busy }) := by rw [← hA2]; exact World.putObj_heap_same (Array.getElem?_eq_some_iff.1 hbl).1
      have hd2 : A2.heap[w.heap.size]? = some (.deferred (some [])) := by rw [← hA2]; exact (World.putObj_heap_other (by omega)).trans hbd
      have ht2 : Turns w.heap.size A A2 := by
        rw [← hA2]
        refine ⟨some (w.heap.size + 1), ⟨rfl, rfl, rfl, by simp, fun k hk hne => ?_⟩, fun r e => by cases e; exact ⟨by omega, .inr ⟨_, hl, rfl⟩⟩⟩
        rw [World.putObj_heap_other (fun e => hne (by rw [e]))]
        exact Below.heap_alloc _ _ _ hk
      have hz2 : A.heap.size < A2.heap.size := by rw [← hA2]; simp
      have hk2 : Kept K A A2 := by rw [← hA2]; exact (Kept.alloc K A _).trans (Kept.put _ hK)
      have hf2 : FieldAt A2 A.heap.size 0 (fld x) := by
        rw [← hA2]
        have e : ∀ j, ((boxed A (fld x)).putObj (w.heap.size + 1) (.loop { rec0 .ready none with state := .busy })).cell? ⟨A.heap.size, j, none⟩ = (boxed A (fld x)).cell? ⟨A.heap.size, j, none⟩ := fun j => World.cell?_of_block (w := boxed A (fld x)) (World.putObj_heap_other (by show A.heap.size ≠ _; omega))
        have h := box_at A (fld x)
        exact ⟨(e _).trans h.tag, (e _).trans h.kind, (e _).trans h.n, (e _).trans h.s⟩
      rw [hA2]
      refine wpIn_mono (hbody _ pre x A A2 hi ht2 hX hz2 hf2 hP) ?_
      rintro e a3 A3 hp
      cases e with
      | normal =>
        obtain ⟨ko, kk, hi3⟩ := hp
        have hl3 := ko.same _ _ hl2 rfl
        refine ⟨_, _, run_endRound none hl3, .inl ⟨rfl, ⟨hI _ _ _ hi3 (Turns.put _ _ (by omega) hl3 rfl), World.putObj_heap_same (Array.getElem?_eq_some_iff.1 hl3).1, (World.putObj_heap_other (by omega)).trans (ko.same _ _ hd2 rfl)⟩, (hk2.trans kk).trans (Kept.put _ hK)⟩⟩
      | ret =>
        obtain ⟨ko, hi3⟩ := hp
        have hl3 := ko.same _ _ hl2 rfl
        refine ⟨_, _, run_endRound (some .ret) hl3, .inr ⟨rfl, hIx _ _ _ hi3 (Turns.put _ _ (by omega) hl3 rfl), World.putObj_heap_same (Array.getElem?_eq_some_iff.1 hl3).1, (World.putObj_heap_other (by omega)).trans (ko.same _ _ hd2 rfl)⟩⟩
      | exit id => exact hp.elim
      | goto t => exact hp.elim
      | panic c => exact hp.elim
      | outgrown => exact hp.elim
    · rintro e B ⟨⟨v, rfl⟩, (⟨xs, hS, hi, hl, hd⟩ | ⟨xs, hS, hi, hl, hd⟩)⟩
      · have hlt := (Array.getElem?_eq_some_iff.1 hd).1
        exact ⟨none, _, run_endLoop hl (by simp [rec0]), hdone xs _ hS (hI _ _ _ hi (Turns.put _ _ (by omega) hl rfl)) (by simpa using hlt) ((World.putObj_heap_other (by omega)).trans hd)⟩
      · have hlt := (Array.getElem?_eq_some_iff.1 hd).1
        exact ⟨some .ret, _, run_endLoop hl (by simp [rec0]), hstop xs _ hS (hIx _ _ _ hi (Turns.put _ _ (by omega) hl rfl)) (by simpa using hlt) ((World.putObj_heap_other (by omega)).trans hd)⟩
end Go.Proofs.Ytpbobmhffdmmmaa
