/- Proved: a range over a function whose loop variable is a text, where the function's callees may make memory: the loop's rule. -/
import Derived.RangeFuncNested
import Derived.RangeFuncBound
import Derived.RangeFuncCalls
import Derived.RangeFuncLeaves
import Derived.Shelf.Abstract
import Derived.Shelf.RegionOpen
import Derived.WalkKit
import Derived.OwnWalkIn
import Derived.TacticsInMore
import Derived.LoopNIn
import Derived.LoopIn
import Derived.Test.YtbcmgcallidneaaGreatDoorParent
namespace Go.Proofs.YtbcmgcallidneaaGreatDoor
open Go.RowKit
theorem size_alloc1 (w : World) (o : Obj) : (w.alloc o).heap.size = w.heap.size + 1 := by simp
theorem size_set (w : World) (a : Addr) (v : Value) : (w.setCell a v).heap.size = w.heap.size := by simp [World.setCell]
theorem grownBy_of_below {A B : World} (h : Below A.heap.size A B) (row : Option Nat) : A.grownBy B row := ⟨h.os, h.tape, h.output, h.size, fun i hi _ => h.block i hi⟩
/- a step within a loop that began at N blocks: new blocks; of those from N on one that holds no cells -/
def Turns (N : Nat) (A B : World) : Prop := ∃ row, A.grownBy B row ∧ ∀ r, row = some r → N ≤ r ∧ ∃ o : Obj, A.heap[r]? = some o ∧ o.isCells = false
theorem Turns.alloc (N : Nat) (A : World) (o : Obj) : Turns N A (A.alloc o) := ⟨none, World.grownBy_alloc A o none, fun r e => by cases e⟩
theorem Turns.put (N : Nat) {A : World} {l : Nat} {o : Obj} (o' : Obj) (hN : N ≤ l) (hl : A.heap[l]? = some o) (ho : o.isCells = false) : Turns N A (A.putObj l o') :=
  ⟨some l, grownBy_putObj' A l o', fun r e => by cases e; exact ⟨hN, o, hl, ho⟩⟩
theorem Turns.new {N : Nat} {A B : World} (h : Below A.heap.size A B) : Turns N A B := ⟨none, grownBy_of_below h none, fun r e => by cases e⟩
theorem Turns.boxed {N : Nat} {A B : World} (h : Turns N A B) {b : Nat} {t : TypeId} {v : Value} (hb : Boxed A b t v) : Boxed B b t v := by
  obtain ⟨row, hg, hr⟩ := h
  refine hb.kept hg (fun e => ?_)
  obtain ⟨_, o, ho, hc⟩ := hr b e.symm
  rw [show A.heap[b]? = _ from hb] at ho
  cases ho
  cases hc
theorem Turns.below {N M : Nat} {w A B : World} (h : Turns N A B) (hb : Below M w A) (hM : M ≤ N) (hs : M ≤ A.heap.size) : Below M w B := by
  obtain ⟨row, hg, hr⟩ := h
  exact hb.grown hg hs (fun k e => by have := (hr k e).1; omega)
/- what a round keeps: the blocks below M -/
structure Kept (M : Nat) (A B : World) : Prop where
  size : A.heap.size ≤ B.heap.size
  same : ∀ k, k < M → k < A.heap.size → B.heap[k]? = A.heap[k]?
theorem Kept.trans {M : Nat} {A B C : World} (h : Kept M A B) (k : Kept M B C) : Kept M A C :=
  ⟨Nat.le_trans h.size k.size, fun i hi hl => (k.same i hi (Nat.lt_of_lt_of_le hl h.size)).trans (h.same i hi hl)⟩
theorem Kept.refl (M : Nat) (A : World) : Kept M A A := ⟨Nat.le_refl _, fun _ _ _ => rfl⟩
theorem Kept.put {M : Nat} {A : World} {l : Nat} (o : Obj) (hl : M ≤ l) : Kept M A (A.putObj l o) :=
  ⟨by simp, fun _ hk _ => World.putObj_heap_other (fun e => by omega)⟩
theorem Kept.below {M B : Nat} {A W : World} (h : Below B A W) (hM : M ≤ B) : Kept M A W := ⟨h.size, fun k hk _ => h.block k (by omega)⟩
theorem Tab.kept {M : Nat} {w A B : World} (hT : Tab A) (h : Kept M A B) (h0 : Tab w) (hM : w.heap.size ≤ M) : Tab B := by
  have p1 := h0.posM
  have p2 := h0.posS
  refine ⟨?_, fun j v hv => ?_⟩
  · obtain ⟨m, hm⟩ := hT.max
    exact ⟨m, (World.cell?_of_block (w := A) (h.same 1 (by omega) hT.posM)).trans hm⟩
  · exact (World.cell?_of_block (w := A) (h.same 0 (by omega) hT.posS)).trans (hT.sig j v hv)
/- how a round may be left -/
def roundEnds (M : Nat) (I Ix : List Pm.T → World → Prop) (xs : List Pm.T) (A : World) : Exit → Act → World → Prop
  | .normal, _, B => KeepsOthers A B ∧ Kept M A B ∧ I xs B
  | .ret, _, B => KeepsOthers A B ∧ Ix xs B
  | _, _, _ => False
/- what the function that is ranged over promises, at the loop that begins in w -/
def Yields (n : Nat) (gf : Nat) (lb : Array Value) (M : Nat) (Pre : List Pm.T → Pm.T → Prop) (S Sx : List Pm.T → Prop) (w : World) : Prop :=
  ∀ (J Jx : List Pm.T → World → Prop) (W : World), W.heap.size = w.heap.size + 2 → Below w.heap.size w W →
    (∀ s A B, J s A → Below A.heap.size A B → J s B) →
    (∀ pre x A, J pre A → Pre pre x → YieldAt Fence.wide (n - 1) Tryz.prog (w.heap.size + 1) #[.string (mk x)] A fun e B =>
      (e = .returned (.bool true) ∧ J (pre ++ [x]) B ∧ Kept M A B) ∨ (e = .returned (.bool false) ∧ Jx (pre ++ [x]) B)) →
    J [] W →
    CallsIn Fence.wide n Tryz.prog gf (#[.func (.yield (w.heap.size + 1)) #[] #[]] ++ lb) W fun e B => (∃ v, e = .returned v) ∧ ((∃ xs, S xs ∧ J xs B) ∨ (∃ xs, Sx xs ∧ Jx xs B))
theorem range_rule {n : Nat} {g : Operand} {ps : Array Tmp} {assign body : Code} {Q : Exit → Act → World → Prop} {a : Act} {w : World} {gf : Nat} {lb : Array Value} (hg : a.eval g = .func (.func gf) #[] lb) (eg : ∀ args w, (callFunc gf args).run Tryz.prog w = .ok (.enter gf args) w)
    {M : Nat} {Pre : List Pm.T → Pm.T → Prop} {S Sx : List Pm.T → Prop} (hM : M ≤ w.heap.size) (hseq : Yields (n - 1) gf lb M Pre S Sx w) (hps : ps.size = 1)
    (I Ix : List Pm.T → World → Prop) (hI : ∀ s A B, I s A → Turns w.heap.size A B → I s B) (hIx : ∀ s A B, Ix s A → Turns w.heap.size A B → Ix s B) (h0 : I [] w) (a1 : Pm.T → Act)
    (hassign : ∀ (l : Nat) (x : Pm.T) (A : World) (C : Act → World → Prop), C (a1 x) A →
      assign.wpIn (Fence.wide.inRound l) (n - 1 - 1) Tryz.prog (Exit.then C (fun _ _ _ => False)) { tmps := (ps.zip #[.string (mk x)]).foldl (fun t (p, v) => t.setIfInBounds p v) a.tmps, defers := [] } A)
    (hbody : ∀ (l : Nat) (pre : List Pm.T) (x : Pm.T) (A0 A : World), I pre A0 → Turns w.heap.size A0 A → Pre pre x → body.wpIn (Fence.wide.inRound l) (n - 1 - 1) Tryz.prog (roundEnds M I Ix (pre ++ [x]) A) (a1 x) A)
    (hdone : ∀ (xs : List Pm.T) (B : World), S xs → I xs B → w.heap.size < B.heap.size → B.heap[w.heap.size]? = some (.deferred (some [])) → Q .normal { a with defers := { target := .collected w.heap.size, args := #[] } :: a.defers } B)
    (hstop : ∀ (xs : List Pm.T) (B : World), Sx xs → Ix xs B → w.heap.size < B.heap.size → B.heap[w.heap.size]? = some (.deferred (some [])) → Code.ret.wpIn Fence.wide n Tryz.prog Q { a with defers := { target := .collected w.heap.size, args := #[] } :: a.defers } B) :
    (Code.rangeFunc g ps assign body).wpIn Fence.wide n Tryz.prog Q a w := by
  refine wpIn_rangeFunc fun fn hfn => ?_
  let rec0 : LoopState → Option Code → Loop := fun st pe => { state := st, pending := pe, fn, tmps := a.tmps, params := ps, assign, body, defers := w.heap.size }
  obtain ⟨W1, hW1⟩ : ∃ W1, (w.alloc (.deferred (some []))).alloc (.loop (rec0 .ready none)) = W1 := ⟨_, rfl⟩
  have hl1 : W1.heap[w.heap.size + 1]? = some (.loop (rec0 .ready none)) := by
    rw [← hW1]
    have := World.alloc_heap_new (w.alloc (.deferred (some []))) (.loop (rec0 .ready none))
    rwa [World.size_alloc] at this
  have hd1 : W1.heap[w.heap.size]? = some (.deferred (some [])) := by
    rw [← hW1]
    exact (Below.heap_alloc _ _ _ (by simp)).trans (World.alloc_heap_new w _)
  have hz1 : W1.heap.size = w.heap.size + 2 := by rw [← hW1]; simp
  have hb1 : Below w.heap.size w W1 := by rw [← hW1]; exact ((Below.refl _ w).alloc (Nat.le_refl _) _).alloc (by simp) _
  have hi1 : I [] W1 := by rw [← hW1]; exact hI _ _ _ (hI _ _ _ h0 (Turns.alloc _ _ _)) (Turns.alloc _ _ _)
  refine ⟨w.heap.size + 1, [{ target := .collected w.heap.size, args := #[] }], W1, { target := .fn (.func gf) lb, args := #[.func (.yield (w.heap.size + 1)) #[] #[]] }, W1, gf, #[.func (.yield (w.heap.size + 1)) #[] #[]] ++ lb, W1, ?_, ?_, fun _ _ => trivial, ?_, fun h => by simp [Fence.wide] at h, ?_⟩
  · rw [← hW1]; exact run_enterLoop_outer _ _ _ _ _
  · simp only [resolve, hg]
    simp [go_sem]
  · simp [invoke, go_sem, eg]
  · have keepsL : ∀ {A B : World} {k : Nat} {o : Obj}, Below A.heap.size A B → A.heap[k]? = some o → B.heap[k]? = some o := fun h ho =>
      (h.block _ (Array.getElem?_eq_some_iff.1 ho).1).trans ho
    refine (hseq
      (fun s A => I s A ∧ A.heap[w.heap.size + 1]? = some (.loop (rec0 .ready none)) ∧ A.heap[w.heap.size]? = some (.deferred (some [])))
      (fun s A => Ix s A ∧ A.heap[w.heap.size + 1]? = some (.loop (rec0 .done (some .ret))) ∧ A.heap[w.heap.size]? = some (.deferred (some [])))
      W1 hz1 hb1
      (fun s A B h hg => ⟨hI _ _ _ h.1 (Turns.new hg), keepsL hg h.2.1, keepsL hg h.2.2⟩)
      ?_ ⟨hi1, hl1, hd1⟩).mono ?_
    · rintro pre x A ⟨hi, hl, hd⟩ hP
      have hy := run_yield (P := Tryz.prog) (args := #[.string (mk x)]) hl (by rw [show (rec0 .ready none).params.size = 1 from hps]; rfl)
      refine ⟨fn, _, assign, body, hy, roundIn_of_wpIn hfn (hassign _ x A _ ⟨_, run_beginRound hl rfl, ?_⟩)⟩
      obtain ⟨A2, hA2⟩ : ∃ A2, A.putObj (w.heap.size + 1) (.loop { rec0 .ready none with state := .busy }) = A2 := ⟨_, rfl⟩
      have hl2 : A2.heap[w.heap.size + 1]? = some (.loop { rec0 .ready none with state := .busy }) := by rw [← hA2]; exact World.putObj_heap_same (Array.getElem?_eq_some_iff.1 hl).1
      have hd2 : A2.heap[w.heap.size]? = some (.deferred (some [])) := by rw [← hA2]; exact (World.putObj_heap_other (by omega)).trans hd
      have ht2 : Turns w.heap.size A A2 := by rw [← hA2]; exact Turns.put _ _ (by omega) hl rfl
      have hk2 : Kept M A A2 := by rw [← hA2]; exact Kept.put _ (by omega)
      rw [hA2]
      refine wpIn_mono (hbody _ pre x A A2 hi ht2 hP) ?_
      rintro e a3 A3 hp
      cases e with
      | normal =>
        obtain ⟨ko, kk, hi3⟩ := hp
        have hl3 := ko.same _ _ hl2 rfl
        refine ⟨_, _, run_endRound none hl3, .inl ⟨rfl, ⟨hI _ _ _ hi3 (Turns.put _ _ (by omega) hl3 rfl), World.putObj_heap_same (Array.getElem?_eq_some_iff.1 hl3).1, (World.putObj_heap_other (by omega)).trans (ko.same _ _ hd2 rfl)⟩, (hk2.trans kk).trans (Kept.put _ (by omega))⟩⟩
      | ret =>
        obtain ⟨ko, hi3⟩ := hp
        have hl3 := ko.same _ _ hl2 rfl
        refine ⟨_, _, run_endRound (some .ret) hl3, .inr ⟨rfl, hIx _ _ _ hi3 (Turns.put _ _ (by omega) hl3 rfl), World.putObj_heap_same (Array.getElem?_eq_some_iff.1 hl3).1, (World.putObj_heap_other (by omega)).trans (ko.same _ _ hd2 rfl)⟩⟩
      | exit id => exact hp.elim
      | goto t => exact hp.elim
      | panic c => exact hp.elim
      | outgrown => exact hp.elim
    · rintro e B ⟨⟨v, rfl⟩, (⟨xs, hS, hi, hl, hd⟩ | ⟨xs, hS, hi, hl, hd⟩)⟩
      · have hlt := (Array.getElem?_eq_some_iff.1 hd).1
        exact ⟨none, _, run_endLoop hl (by simp [rec0]), hdone xs _ hS (hI _ _ _ hi (Turns.put _ _ (by omega) hl rfl)) (by simpa using hlt) ((World.putObj_heap_other (by omega)).trans hd)⟩
      · have hlt := (Array.getElem?_eq_some_iff.1 hd).1
        exact ⟨some .ret, _, run_endLoop hl (by simp [rec0]), hstop xs _ hS (hIx _ _ _ hi (Turns.put _ _ (by omega) hl rfl)) (by simpa using hlt) ((World.putObj_heap_other (by omega)).trans hd)⟩
end Go.Proofs.YtbcmgcallidneaaGreatDoor
