/- Proved: a range over a function whose loop variable is a field, where the function may write a variable of its own (the block that lies next behind the loop's record): the loop's rule. -/
import Derived.RangeFuncNested
import Derived.RangeFuncBound
import Derived.RangeFuncCalls
import Derived.RangeFuncLeaves
import Derived.Shelf.Abstract
import Derived.Shelf.RegionOpen
import Derived.WalkKit
import Derived.OwnWalkIn
import Derived.TacticsInMore
import Derived.LoopNIn
import Derived.LoopIn
import Derived.Test.YtealbeblkilibaaDoorJ06
import Derived.Test.YtealbeblkilibaaDoorJ05
namespace Go.Proofs.YtealbeblkilibaaDoor.FI
open Go.RowKit
/- a step within a loop that began at N blocks: new blocks; of those from N on, one that holds no cells, or block N + 2, the function's own -/
def Turns (N : Nat) (A B : World) : Prop := ∃ row, A.grownBy B row ∧ ∀ r, row = some r → N ≤ r ∧ (r = N + 2 ∨ ∃ o : Obj, A.heap[r]? = some o ∧ o.isCells = false)
theorem Turns.alloc (N : Nat) (A : World) (o : Obj) : Turns N A (A.alloc o) := ⟨none, World.grownBy_alloc A o none, fun r e => by cases e⟩
theorem Turns.put (N : Nat) {A : World} {l : Nat} {o : Obj} (o' : Obj) (hN : N ≤ l) (hl : A.heap[l]? = some o) (ho : o.isCells = false) : Turns N A (A.putObj l o') :=
  ⟨some l, grownBy_putObj' A l o', fun r e => by cases e; exact ⟨hN, .inr ⟨o, hl, ho⟩⟩⟩
theorem Turns.own {N : Nat} {A B : World} (h : A.grownBy B (some (N + 2))) : Turns N A B := ⟨some (N + 2), h, fun r e => by cases e; exact ⟨by omega, .inl rfl⟩⟩
theorem Turns.boxed {N : Nat} {A B : World} (h : Turns N A B) {b : Nat} {t : TypeId} {v : Value} (hb : Boxed A b t v) (hne : b ≠ N + 2) : Boxed B b t v := by
  obtain ⟨row, hg, hr⟩ := h
  refine hb.kept hg (fun e => ?_)
  obtain ⟨_, h | ⟨o, ho, hc⟩⟩ := hr b e.symm
  · exact hne h
  · rw [show A.heap[b]? = _ from hb] at ho
    cases ho
    cases hc
theorem Turns.owns {N : Nat} {A B : World} (h : Turns N A B) {e : TypeId} {k : Nat} {v : Value} {n : Nat} {vs : List Value} (ho : A.ownsRow (N + 3) e k v n vs) : B.ownsRow (N + 3) e k v n vs := by
  obtain ⟨row, hg, hr⟩ := h
  obtain ⟨h0, h1⟩ := ho
  refine ⟨h0, ?_⟩
  rcases h1 with h1 | ⟨g, cap', cur, hv, hN, hh, r⟩
  · exact .inl h1
  · refine .inr ⟨g, cap', cur, hv, hN, (hg.block g (Array.getElem?_eq_some_iff.1 hh).1 (fun e => ?_)).trans hh, r⟩
    obtain ⟨_, h | ⟨o, ho, hc⟩⟩ := hr g e.symm
    · omega
    · rw [hh] at ho
      cases ho
      cases hc
theorem Turns.below {N M : Nat} {w A B : World} (h : Turns N A B) (hb : Below M w A) (hM : M ≤ N) (hs : M ≤ A.heap.size) : Below M w B := by
  obtain ⟨row, hg, hr⟩ := h
  exact hb.grown hg hs (fun k e => by have := (hr k e).1; omega)
/- what a round keeps: the blocks k with K k -/
structure Kept (K : Nat → Prop) (A B : World) : Prop where
  size : A.heap.size ≤ B.heap.size
  same : ∀ k, K k → k < A.heap.size → B.heap[k]? = A.heap[k]?
theorem Kept.trans {K : Nat → Prop} {A B C : World} (h : Kept K A B) (k : Kept K B C) : Kept K A C :=
  ⟨Nat.le_trans h.size k.size, fun i hi hl => (k.same i hi (Nat.lt_of_lt_of_le hl h.size)).trans (h.same i hi hl)⟩
theorem Kept.refl (K : Nat → Prop) (A : World) : Kept K A A := ⟨Nat.le_refl _, fun _ _ _ => rfl⟩
theorem Kept.alloc (K : Nat → Prop) (A : World) (o : Obj) : Kept K A (A.alloc o) := ⟨by simp, fun k _ hl => Below.heap_alloc _ _ _ hl⟩
theorem Kept.put {K : Nat → Prop} {A : World} {l : Nat} (o : Obj) (hl : ¬ K l) : Kept K A (A.putObj l o) :=
  ⟨by simp, fun _ hk _ => World.putObj_heap_other (fun e => hl (e ▸ hk))⟩
/- how a round may be left -/
def roundEnds {α : Type} (K : Nat → Prop) (I Ix : List α → World → Prop) (xs : List α) (A : World) : Exit → Act → World → Prop
  | .normal, _, B => KeepsOthers A B ∧ Kept K A B ∧ I xs B
  | .ret, _, B => KeepsOthers A B ∧ Ix xs B
  | _, _, _ => False
/- what the function that is ranged over promises, at the loop that begins in w -/
def Yields {α : Type} (n : Nat) (gf : Nat) (lb : Array Value) (encs : α → Array Value) (K : Nat → Prop) (Pre : List α → α → Prop) (S Sx : List α → Prop) (w : World) : Prop :=
  ∀ (J Jx : List α → World → Prop) (W : World), W.heap.size = w.heap.size + 2 → Below w.heap.size w W →
    (∀ s A B, J s A → A.grownBy B (some (w.heap.size + 2)) → J s B) → (∀ s A B, Jx s A → A.grownBy B (some (w.heap.size + 2)) → Jx s B) →
    (∀ pre x A, J pre A → w.heap.size + 2 < A.heap.size → Pre pre x → YieldAt Fence.wide (n - 1) Tryd.prog (w.heap.size + 1) (encs x) A fun e B =>
      (e = .returned (.bool true) ∧ J (pre ++ [x]) B ∧ Kept K A B) ∨ (e = .returned (.bool false) ∧ Jx (pre ++ [x]) B)) →
    J [] W →
    CallsIn Fence.wide n Tryd.prog gf (#[.func (.yield (w.heap.size + 1)) #[] #[]] ++ lb) W fun e B => (∃ v, e = .returned v) ∧ ((∃ xs, S xs ∧ J xs B) ∨ (∃ xs, Sx xs ∧ Jx xs B))
theorem range_rule {α : Type} {n : Nat} {g : Operand} {ps : Array Tmp} {assign body : Code} {Q : Exit → Act → World → Prop} {a : Act} {w : World} {gf : Nat} {lb : Array Value} (hg : a.eval g = .func (.func gf) #[] lb) (eg : ∀ args w, (callFunc gf args).run Tryd.prog w = .ok (.enter gf args) w)
    {encs : α → Array Value} {fld : α → Fv} {K : Nat → Prop} {Pre : List α → α → Prop} {S Sx : List α → Prop} (hK : ¬ K (w.heap.size + 1)) (hseq : Yields (n - 1) gf lb encs K Pre S Sx w) (hps : ∀ x, (encs x).size = ps.size)
    (I Ix : List α → World → Prop) (hI : ∀ s A B, I s A → Turns w.heap.size A B → I s B) (hIx : ∀ s A B, Ix s A → Turns w.heap.size A B → Ix s B) (h0 : I [] w) (a1 : α → Nat → Act)
    (hassign : ∀ (l : Nat) (x : α) (A : World) (C : Act → World → Prop), C (a1 x A.heap.size) (boxed A (fld x)) →
      assign.wpIn (Fence.wide.inRound l) (n - 1 - 1) Tryd.prog (Exit.then C (fun _ _ _ => False)) { tmps := (ps.zip (encs x)).foldl (fun t (p, v) => t.setIfInBounds p v) a.tmps, defers := [] } A)
    (hbody : ∀ (l : Nat) (pre : List α) (x : α) (A0 A : World), I pre A0 → Turns w.heap.size A0 A → w.heap.size + 2 < A0.heap.size → A0.heap.size < A.heap.size → FieldAt A A0.heap.size 0 (fld x) → Pre pre x → body.wpIn (Fence.wide.inRound l) (n - 1 - 1) Tryd.prog (roundEnds K I Ix (pre ++ [x]) A) (a1 x A0.heap.size) A)
    (hdone : ∀ (xs : List α) (B : World), S xs → I xs B → w.heap.size < B.heap.size → B.heap[w.heap.size]? = some (.deferred (some [])) → Q .normal { a with defers := { target := .collected w.heap.size, args := #[] } :: a.defers } B)
    (hstop : ∀ (xs : List α) (B : World), Sx xs → Ix xs B → w.heap.size < B.heap.size → B.heap[w.heap.size]? = some (.deferred (some [])) → Code.ret.wpIn Fence.wide n Tryd.prog Q { a with defers := { target := .collected w.heap.size, args := #[] } :: a.defers } B) :
    (Code.rangeFunc g ps assign body).wpIn Fence.wide n Tryd.prog Q a w := by
  refine wpIn_rangeFunc fun fn hfn => ?_
  let rec0 : LoopState → Option Code → Loop := fun st pe => { state := st, pending := pe, fn, tmps := a.tmps, params := ps, assign, body, defers := w.heap.size }
  obtain ⟨W1, hW1⟩ : ∃ W1, (w.alloc (.deferred (some []))).alloc (.loop (rec0 .ready none)) = W1 := ⟨_, rfl⟩
  have hl1 : W1.heap[w.heap.size + 1]? = some (.loop (rec0 .ready none)) := by
    rw [← hW1]
    have := World.alloc_heap_new (w.alloc (.deferred (some []))) (.loop (rec0 .ready none))
    rwa [World.size_alloc] at this
  have hd1 : W1.heap[w.heap.size]? = some (.deferred (some [])) := by
    rw [← hW1]
    exact (Below.heap_alloc _ _ _ (by simp)).trans (World.alloc_heap_new w _)
  have hz1 : W1.heap.size = w.heap.size + 2 := by rw [← hW1]; simp
  have hb1 : Below w.heap.size w W1 := by rw [← hW1]; exact ((Below.refl _ w).alloc (Nat.le_refl _) _).alloc (by simp) _
  have hi1 : I [] W1 := by rw [← hW1]; exact hI _ _ _ (hI _ _ _ h0 (Turns.alloc _ _ _)) (Turns.alloc _ _ _)
  refine ⟨w.heap.size + 1, [{ target := .collected w.heap.size, args := #[] }], W1, { target := .fn (.func gf) lb, args := #[.func (.yield (w.heap.size + 1)) #[] #[]] }, W1, gf, #[.func (.yield (w.heap.size + 1)) #[] #[]] ++ lb, W1, ?_, ?_, fun _ _ => trivial, ?_, fun h => by simp [Fence.wide] at h, ?_⟩
  · rw [← hW1]; exact run_enterLoop_outer _ _ _ _ _
  · simp only [resolve, hg]
    simp [go_sem]
  · simp [invoke, go_sem, eg]
  · have keepsL : ∀ {A B : World} {k : Nat} {o : Obj}, A.grownBy B (some (w.heap.size + 2)) → k < w.heap.size + 2 → A.heap[k]? = some o → B.heap[k]? = some o := fun h hk ho =>
      (h.block _ (Array.getElem?_eq_some_iff.1 ho).1 (fun e => by have := Option.some.inj e; omega)).trans ho
    refine (hseq
      (fun s A => I s A ∧ A.heap[w.heap.size + 1]? = some (.loop (rec0 .ready none)) ∧ A.heap[w.heap.size]? = some (.deferred (some [])))
      (fun s A => Ix s A ∧ A.heap[w.heap.size + 1]? = some (.loop (rec0 .done (some .ret))) ∧ A.heap[w.heap.size]? = some (.deferred (some [])))
      W1 hz1 hb1
      (fun s A B h hg => ⟨hI _ _ _ h.1 (Turns.own hg), keepsL hg (by omega) h.2.1, keepsL hg (by omega) h.2.2⟩)
      (fun s A B h hg => ⟨hIx _ _ _ h.1 (Turns.own hg), keepsL hg (by omega) h.2.1, keepsL hg (by omega) h.2.2⟩)
      ?_ ⟨hi1, hl1, hd1⟩).mono ?_
    · rintro pre x A ⟨hi, hl, hd⟩ hX hP
      have hy := run_yield (P := Tryd.prog) (args := encs x) hl (hps x)
      have hbl : (boxed A (fld x)).heap[w.heap.size + 1]? = some (.loop (rec0 .ready none)) := (Below.heap_alloc _ _ _ (Array.getElem?_eq_some_iff.1 hl).1).trans hl
      have hbd : (boxed A (fld x)).heap[w.heap.size]? = some (.deferred (some [])) := (Below.heap_alloc _ _ _ (Array.getElem?_eq_some_iff.1 hd).1).trans hd
      refine ⟨fn, _, assign, body, hy, roundIn_of_wpIn hfn (hassign _ x A _ ⟨_, run_beginRound hbl rfl, ?_⟩)⟩
      obtain ⟨A2, hA2⟩ : ∃ A2, (boxed A (fld x)).putObj (w.heap.size + 1) (.loop { rec0 .ready none with state := .busy }) = A2 := ⟨_, rfl⟩
      have hl2 : A2.heap[w.heap.size + 1]? = some (.loop { rec0 .ready none with state := .busy }) := by rw [← hA2]; exact World.putObj_heap_same (Array.getElem?_eq_some_iff.1 hbl).1
      have hd2 : A2.heap[w.heap.size]? = some (.deferred (some [])) := by rw [← hA2]; exact (World.putObj_heap_other (by omega)).trans hbd
      have ht2 : Turns w.heap.size A A2 := by
        rw [← hA2]
        refine ⟨some (w.heap.size + 1), ⟨rfl, rfl, rfl, by simp, fun k hk hne => ?_⟩, fun r e => by cases e; exact ⟨by omega, .inr ⟨_, hl, rfl⟩⟩⟩
        rw [World.putObj_heap_other (fun e => hne (by rw [e]))]
        exact Below.heap_alloc _ _ _ hk
      have hz2 : A.heap.size < A2.heap.size := by rw [← hA2]; simp
      have hk2 : Kept K A A2 := by rw [← hA2]; exact (Kept.alloc K A _).trans (Kept.put _ hK)
      have hf2 : FieldAt A2 A.heap.size 0 (fld x) := by
        rw [← hA2]
        have e : ∀ j, ((boxed A (fld x)).putObj (w.heap.size + 1) (.loop { rec0 .ready none with state := .busy })).cell? ⟨A.heap.size, j, none⟩ = (boxed A (fld x)).cell? ⟨A.heap.size, j, none⟩ := fun j => World.cell?_of_block (w := boxed A (fld x)) (World.putObj_heap_other (by show A.heap.size ≠ _; omega))
        have h := box_at A (fld x)
        exact ⟨(e _).trans h.tag, (e _).trans h.kind, (e _).trans h.n, (e _).trans h.s⟩
      rw [hA2]
      refine wpIn_mono (hbody _ pre x A A2 hi ht2 hX hz2 hf2 hP) ?_
      rintro e a3 A3 hp
      cases e with
      | normal =>
        obtain ⟨ko, kk, hi3⟩ := hp
        have hl3 := ko.same _ _ hl2 rfl
        refine ⟨_, _, run_endRound none hl3, .inl ⟨rfl, ⟨hI _ _ _ hi3 (Turns.put _ _ (by omega) hl3 rfl), World.putObj_heap_same (Array.getElem?_eq_some_iff.1 hl3).1, (World.putObj_heap_other (by omega)).trans (ko.same _ _ hd2 rfl)⟩, (hk2.trans kk).trans (Kept.put _ hK)⟩⟩
      | ret =>
        obtain ⟨ko, hi3⟩ := hp
        have hl3 := ko.same _ _ hl2 rfl
        refine ⟨_, _, run_endRound (some .ret) hl3, .inr ⟨rfl, hIx _ _ _ hi3 (Turns.put _ _ (by omega) hl3 rfl), World.putObj_heap_same (Array.getElem?_eq_some_iff.1 hl3).1, (World.putObj_heap_other (by omega)).trans (ko.same _ _ hd2 rfl)⟩⟩
      | exit id => exact hp.elim
      | goto t => exact hp.elim
      | panic c => exact hp.elim
      | outgrown => exact hp.elim
    · rintro e B ⟨⟨v, rfl⟩, (⟨xs, hS, hi, hl, hd⟩ | ⟨xs, hS, hi, hl, hd⟩)⟩
      · have hlt := (Array.getElem?_eq_some_iff.1 hd).1
        exact ⟨none, _, run_endLoop hl (by simp [rec0]), hdone xs _ hS (hI _ _ _ hi (Turns.put _ _ (by omega) hl rfl)) (by simpa using hlt) ((World.putObj_heap_other (by omega)).trans hd)⟩
      · have hlt := (Array.getElem?_eq_some_iff.1 hd).1
        exact ⟨some .ret, _, run_endLoop hl (by simp [rec0]), hstop xs _ hS (hIx _ _ _ hi (Turns.put _ _ (by omega) hl rfl)) (by simpa using hlt) ((World.putObj_heap_other (by omega)).trans hd)⟩
end Go.Proofs.YtealbeblkilibaaDoor.FI
/- Proved: firstFault answers the first fault of fields. -/
namespace Go.Proofs.YtealbeblkilibaaDoor.FI
open Go.RowKit
abbrev decMay (f : Fv) : Decidable (May f) := by unfold May; infer_instance
def fault1 (p : Int) (f : Fv) : Nat := @ite Nat (¬ May f) (@instDecidableNot _ (decMay f)) 2 <| if 4096 < f.s.size then 3 else if f.tag < p then 9 else 0
def fault (p : Int) : List Fv → Nat
  | [] => 0
  | f :: l => if fault1 p f = 0 then fault f.tag l else fault1 p f
theorem fault_arg {p : Int} {f : Fv} {l : List Fv} (h : ¬ May f) : fault p (f :: l) = 2 := by simp [fault, fault1, h]
theorem fault_long {p : Int} {f : Fv} {l : List Fv} (h : May f) (h2 : 4096 < f.s.size) : fault p (f :: l) = 3 := by simp [fault, fault1, h, h2]
theorem fault_state {p : Int} {f : Fv} {l : List Fv} (h : May f) (h2 : ¬ 4096 < f.s.size) (h3 : f.tag < p) : fault p (f :: l) = 9 := by simp [fault, fault1, h, h2, h3]
theorem fault_next {p : Int} {f : Fv} {l : List Fv} (h : May f) (h2 : ¬ 4096 < f.s.size) (h3 : ¬ f.tag < p) : fault p (f :: l) = fault f.tag l := by simp [fault, fault1, h, h2, h3]
theorem drop_getD (fs : List Fv) (k : Nat) (hk : k < fs.length) : fs.drop k = fs.getD k fv0 :: fs.drop (k + 1) := by
  rw [List.getD_eq_getElem?_getD, List.getElem?_eq_getElem hk, Option.getD_some, List.getElem_cons_drop]
set_option maxHeartbeats 1000000 in
set_option maxRecDepth 20000 in
theorem ffault_any (a : Option Addr) (len cap : Nat) (fs : List Fv) (w : World) (hF : FieldsL w a len fs) (hlen : len ≤ 9223372036854775807) :
    Calls Tryd.prog 53 #[.slice a len cap] w fun e w' => e = .returned (.int .i64 (fault 0 fs : Nat)) ∧ Below w.heap.size w w' := by
  have HF : Hid (FieldsL w a len fs) := hF
  clear hF
  go_enter Tryd.func53, Tryd.ntmps53
  go_wp2_with fail
  go_loopw [3, 8] (fun s3 s8 wr => ∃ (k : Nat) (p : Int), k ≤ len ∧ s8 = .int .i64 k ∧ s3 = .int .i64 p ∧ fault 0 fs = fault p (fs.drop k) ∧ Below w.heap.size w wr) (fun _ s8 _ => len - (intOf s8).toNat)
  case atStart => exact ⟨0, 0, by omega, rfl, rfl, rfl, Below.refl _ _⟩
  case round =>
    obtain ⟨k, p, hk, rfl, rfl, hfa, hB⟩ := hrel
    have HB : Hid (Below w.heap.size w wr) := hB
    have HFA : Is (fault 0 fs) (fault p (fs.drop k)) := ⟨hfa⟩
    have hsz := hB.size
    clear hB hfa
    by_cases hlt : k < len
    · obtain ⟨b, off, rfl, hc⟩ : ∃ b off, a = some ⟨b, off, none⟩ ∧ ∀ i, i < len → FieldAt w b (off + i * 4) (fs.getD i fv0) := by
        rcases HF.out.2.2 with h | h
        · omega
        · exact h
      have hbl : b < w.heap.size := block_lt_of_cell (hc k hlt).tag
      obtain ⟨c0, c1, c2, c3⟩ := (hc k hlt).below HB.out hbl
      have HNX : Is (fs.drop k) (fs.getD k fv0 :: fs.drop (k + 1)) := ⟨drop_getD fs k (by rw [HF.out.1]; exact hlt)⟩
      rw [HNX.eq] at HFA
      clear hc HNX
      generalize fs.getD k fv0 = f at *
      have i0 : (k : Int) < (len : Int) := by omega
      have j0 : (0 : Int) ≤ (k : Int) := Int.natCast_nonneg _
      have HBX : Hid (Below w.heap.size w (boxed wr f)) := HB.out.trans (((Below.refl _ wr).alloc (Nat.le_refl _) _).mono hsz)
      by_cases hm : May f
      · by_cases h2 : 4096 < f.s.size
        · rw [fault_long hm h2] at HFA
          have h2' : (4096 : Int) < (f.s.size : Int) := by omega
          go_wp2_with (first | (go_at_call 72; refine (may_yes f hm _).mono ?_; rintro e w1 ⟨rfl, hB1⟩; obtain ⟨d0, d1, d2, d3⟩ := (box_at wr f).below hB1 (by simp); simp only [Nat.zero_add] at d0 d1 d2 d3))
          go_ret
          exact ⟨by rw [HFA.eq]; rfl, HBX.out.trans (hB1.mono (by simp; omega))⟩
        · have h2' : ¬ (4096 : Int) < (f.s.size : Int) := by omega
          by_cases h3 : f.tag < p
          · rw [fault_state hm h2 h3] at HFA
            go_wp2_with (first | (go_at_call 72; refine (may_yes f hm _).mono ?_; rintro e w1 ⟨rfl, hB1⟩; obtain ⟨d0, d1, d2, d3⟩ := (box_at wr f).below hB1 (by simp); simp only [Nat.zero_add] at d0 d1 d2 d3))
            go_ret
            exact ⟨by rw [HFA.eq]; rfl, HBX.out.trans (hB1.mono (by simp; omega))⟩
          · rw [fault_next hm h2 h3] at HFA
            go_wp2_with (first | (go_at_call 72; refine (may_yes f hm _).mono ?_; rintro e w1 ⟨rfl, hB1⟩; obtain ⟨d0, d1, d2, d3⟩ := (box_at wr f).below hB1 (by simp); simp only [Nat.zero_add] at d0 d1 d2 d3))
            go_roundw
            case rel => exact ⟨k + 1, f.tag, by omega, by go_num, rfl, HFA.eq, HBX.out.trans (hB1.mono (by simp; omega))⟩
            case measure => (simp [intOf]) <;> omega
      · rw [fault_arg hm] at HFA
        go_wp2_with (first | (go_at_call 72; refine (may_no f hm _).mono ?_; rintro e w1 ⟨rfl, hB1⟩))
        go_ret
        exact ⟨by rw [HFA.eq]; rfl, HBX.out.trans (hB1.mono (by simp; omega))⟩
    · have i0 : ¬ (k : Int) < (len : Int) := by omega
      have HE : Is (fs.drop k) [] := ⟨List.drop_eq_nil_of_le (by rw [HF.out.1]; omega)⟩
      rw [HE.eq] at HFA
      go_wp2
      go_ret
      exact ⟨by rw [HFA.eq]; rfl, HB.out⟩
end Go.Proofs.YtealbeblkilibaaDoor.FI
/- Proved: Encode answers the bytes of fields, or their first fault. -/
namespace Go.Proofs.YtealbeblkilibaaDoor.FI
open Go.RowKit
abbrev enc (fs : List Fv) : List Nat := Fi.enc (fs.map fd)
def encE (fs : List Fv) : Nat := if fault 0 fs ≠ 0 then fault 0 fs else if 65536 < (enc fs).length then 3 else 0
def encS (fs : List Fv) : ByteArray := if encE fs = 0 then tb (enc fs) else ByteArray.empty
theorem Good.may {f : Fv} (h : Good f) : May f := ⟨h.tag1, h.tag63, h.kind⟩
theorem good_of {f : Fv} (h : May f) (h2 : ¬ 4096 < f.s.size) : Good f := ⟨h.1, h.2.1, by omega, h.2.2⟩
theorem fault_good : ∀ (p : Int) (fs : List Fv), fault p fs = 0 → ∀ f ∈ fs, Good f
  | _, [], _, f, hf => by cases hf
  | p, g :: l, h, f, hf => by
    by_cases h1 : May g
    · by_cases h2 : 4096 < g.s.size
      · rw [fault_long h1 h2] at h; omega
      · by_cases h3 : g.tag < p
        · rw [fault_state h1 h2 h3] at h; omega
        · rw [fault_next h1 h2 h3] at h
          rcases List.mem_cons.1 hf with rfl | hf
          · exact good_of h1 h2
          · exact fault_good _ l h f hf
    · rw [fault_arg h1] at h; omega
theorem enc_take_succ (fs : List Fv) (k : Nat) (hk : k < fs.length) : enc (fs.take (k + 1)) = enc (fs.take k) ++ Fi.fb (fd (fs.getD k fv0)) := by
  rw [enc, List.take_succ_eq_append_getElem hk, List.getD_eq_getElem?_getD, List.getElem?_eq_getElem hk, Option.getD_some, List.map_append, Fi.enc_append]
  simp [Fi.enc]
theorem enc_take_le (fs : List Fv) (k : Nat) : (enc (fs.take k)).length ≤ (enc fs).length := by
  conv => rhs; rw [← List.take_append_drop k fs]
  unfold enc
  rw [List.map_append, Fi.enc_append, List.length_append]
  omega
theorem enc_lt {fs : List Fv} (h : ∀ f ∈ fs, Good f) : ∀ x ∈ enc fs, x < 256 := fun x hx => by
  obtain ⟨g, hg, hx⟩ := List.mem_flatMap.1 hx
  obtain ⟨f, hf, rfl⟩ := List.mem_map.1 hg
  exact Fi.fb_lt (h f hf).ok x hx
theorem getD_mem (fs : List Fv) (k : Nat) (hk : k < fs.length) : fs.getD k fv0 ∈ fs := by
  rw [List.getD_eq_getElem?_getD, List.getElem?_eq_getElem hk]; exact List.getElem_mem hk
set_option maxHeartbeats 1000000 in
set_option maxRecDepth 20000 in
theorem enc_any (a : Option Addr) (len cap : Nat) (fs : List Fv) (w : World) (hF : FieldsL w a len fs) (hlen : len ≤ 9223372036854775807) :
    Calls Tryd.prog 33 #[.slice a len cap] w fun e w' => e = .returned (.tuple #[.string (encS fs), .int .i64 (encE fs : Nat)]) ∧ Below w.heap.size w w' := by
  have HF : Hid (FieldsL w a len fs) := hF
  clear hF
  by_cases hf0 : fault 0 fs = 0
  · have HE : Is (encE fs) (if 65536 < (enc fs).length then 3 else 0) := ⟨by simp [encE, hf0]⟩
    have HG : Hid (∀ f ∈ fs, Good f) := fault_good 0 fs hf0
    have FF := ffault_any a len cap fs w HF.out hlen
    rw [hf0] at FF
    go_enter Tryd.func33, Tryd.ntmps33
    go_wp2_with fail
    refine FF.mono ?_
    rintro e w1 ⟨rfl, hB1⟩
    have HB1 : Hid (Below w.heap.size w w1) := hB1
    have hs1 := hB1.size
    clear hB1 FF
    go_wp2_with fail
    go_loopw [5, 15] (fun s5 s15 wr => ∃ k : Nat, k ≤ len ∧ s15 = .int .i64 k ∧ (enc (fs.take k)).length ≤ 65536 ∧ wr.ownsRow w.heap.size 5 1 s5 (enc (fs.take k)).length ((enc (fs.take k)).map V8) ∧ Below w.heap.size w wr) (fun _ s15 _ => len - (intOf s15).toNat)
    case atStart => exact ⟨0, by omega, rfl, by simp [enc, Fi.enc], ⟨by simp [enc, Fi.enc], .inl ⟨rfl, by simp [enc, Fi.enc]⟩⟩, HB1.out⟩
    case round =>
      obtain ⟨k, hk, rfl, hle, hO, hB⟩ := hrel
      have HB : Hid (Below w.heap.size w wr) := hB
      have HO : Hid (wr.ownsRow w.heap.size 5 1 _ (enc (fs.take k)).length ((enc (fs.take k)).map V8)) := hO
      have hsz := hB.size
      clear hB hO
      by_cases hlt : k < len
      · obtain ⟨b, off, rfl, hc⟩ : ∃ b off, a = some ⟨b, off, none⟩ ∧ ∀ i, i < len → FieldAt w b (off + i * 4) (fs.getD i fv0) := by
          rcases HF.out.2.2 with h | h
          · omega
          · exact h
        have hbl : b < w.heap.size := block_lt_of_cell (hc k hlt).tag
        obtain ⟨c0, c1, c2, c3⟩ := (hc k hlt).below HB.out hbl
        have HNX : Is (enc (fs.take (k + 1))) (enc (fs.take k) ++ Fi.fb (fd (fs.getD k fv0))) := ⟨enc_take_succ fs k (by rw [HF.out.1]; exact hlt)⟩
        have hgd := HG.out _ (getD_mem fs k (by rw [HF.out.1]; exact hlt))
        have HTL : Hid ((enc (fs.take (k + 1))).length ≤ (enc fs).length) := enc_take_le fs (k + 1)
        generalize fs.getD k fv0 = f at *
        generalize enc (fs.take k) = es at *
        obtain ⟨es1, hes1⟩ : ∃ es1, es1 = enc (fs.take (k + 1)) := ⟨_, rfl⟩
        have HES : Is es1 (enc (fs.take (k + 1))) := ⟨hes1⟩
        rw [← hes1] at HNX HTL
        clear hes1
        have HLE : Is es1.length (es.length + (Fi.fb (fd f)).length) := ⟨by rw [HNX.eq, List.length_append]⟩
        clear hc
        have i0 : (k : Int) < (len : Int) := by omega
        have j0 : (0 : Int) ≤ (k : Int) := Int.natCast_nonneg _
        go_wp2_with fail
        refine (afield_any f hgd _ w.heap.size _ es.length es (own_alloc8 HO.out _) (by simp; omega) (by omega)).mono ?_
        rintro e w2 ⟨v2, rfl, hO2, hG2⟩
        have HB2 : Hid (Below w.heap.size w w2) := HB.out.trans (((Below.refl _ wr).alloc (Nat.le_refl _) _).mono hsz |>.trans (hG2.below (own_alloc8 HO.out _) (by simp; omega)))
        clear hG2 HO HB
        rw [← HLE.eq, ← HNX.eq] at hO2
        have hpos : 0 < es1.length := by
          have h2 := @Fi.fb_two (fd f)
          have := HLE.eq
          omega
        have HO2 : Hid (w2.ownsRow w.heap.size 5 1 v2 es1.length (es1.map V8)) := hO2
        obtain ⟨g2, cap2, rfl, _⟩ := own_at hO2 hpos
        clear hO2
        by_cases hbig : 65536 < es1.length
        · have hbig' : (65536 : Int) < (es1.length : Int) := by omega
          have HE3 : Is (encE fs) 3 := ⟨by rw [HE.eq, if_pos (Nat.lt_of_lt_of_le hbig HTL.out)]⟩
          go_wp2_with fail
          go_ret2
          exact ⟨by rw [encS, HE3.eq]; rfl, HB2.out⟩
        · have hbig' : ¬ (65536 : Int) < (es1.length : Int) := by omega
          have HFN : Hid (es1.length ≤ 65536) := Nat.le_of_not_lt hbig
          go_wp2_with fail
          go_roundw
          case rel =>
            refine ⟨k + 1, by omega, by go_num, ?_, ?_, HB2.out⟩
            · rw [← HES.eq]; exact HFN.out
            · rw [← HES.eq]; exact HO2.out
          case measure => (simp [intOf]) <;> omega
      · have hkl : k = len := by omega
        have i0 : ¬ (k : Int) < (len : Int) := by omega
        have HT : Is (enc (fs.take k)) (enc fs) := ⟨by rw [List.take_of_length_le (by rw [HF.out.1]; omega)]⟩
        rw [HT.eq] at HO hle
        have HE0 : Is (encE fs) 0 := ⟨by rw [HE.eq, if_neg (by omega)]⟩
        have HST := str_of_own HO.out (enc_lt HG.out)
        have HS : Is (encS fs) (tb (enc fs)) := ⟨by rw [encS, if_pos HE0.eq]⟩
        clear hkl HT
        go_wp2_with fail
        go_ret2
        exact ⟨by rw [HS.eq, HE0.eq]; rfl, HB.out⟩
  · have HE : Is (encE fs) (fault 0 fs) := ⟨by simp [encE, hf0]⟩
    have HS : Is (encS fs) ByteArray.empty := ⟨by rw [encS, if_neg (by rw [HE.eq]; exact hf0)]⟩
    have h0 : ¬ ((fault 0 fs : Nat) : Int) = 0 := by omega
    have FF := ffault_any a len cap fs w HF.out hlen
    go_enter Tryd.func33, Tryd.ntmps33
    go_wp2_with fail
    refine FF.mono ?_
    rintro e w1 ⟨rfl, hB1⟩
    have HB1 : Hid (Below w.heap.size w w1) := hB1
    clear hB1 FF
    generalize fault 0 fs = ft at *
    go_wp2
    go_ret2
    exact ⟨by rw [HE.eq, HS.eq]; rfl, HB1.out⟩
end Go.Proofs.YtealbeblkilibaaDoor.FI
/- Proved: fieldsIn's function goes through the fields that the bytes hold, and ends with false where they are none. -/
namespace Go.Proofs.YtealbeblkilibaaDoor.FI
open Go.RowKit Go.Shelf
attribute [local go_sem] Oper.semAt_some
/- a field without fault at the front of bytes -/
def Front (bs : List Nat) (f : Fv) (rest : List Nat) : Prop := Good f ∧ bs = Fi.fb (fd f) ++ rest
theorem front_of {h : Nat} {bs : List Nat} {f : Fv} {rest : List Nat} (h8 : ∀ x ∈ h :: bs, x < 256) (hf : FieldR h bs f rest) : Front (h :: bs) f rest := by
  obtain ⟨t1, t2, f0, hh, rfl⟩ := hf
  rcases hh with ⟨hp, n, rfl, hn⟩ | ⟨hp, n, r, hn, h4, hr, rfl, rfl⟩
  · refine ⟨⟨by show (1 : Int) ≤ ((h / 2 : Nat) : Int); omega, by show ((h / 2 : Nat) : Int) ≤ 63; omega, by show (0 : Nat) ≤ 4096; omega, .inl ⟨rfl, Int.natCast_nonneg _, by have := hn.2; show ((n : Nat) : Int) ≤ _; omega, rfl⟩⟩, ?_⟩
    rw [fb_num, hn.1, List.cons_append]
    congr 1
    omega
  · have hl : (r.take n).length = n := by rw [List.length_take]; omega
    have h8' : ∀ x ∈ r.take n, x < 256 := fun x hx => h8 x (by rw [hn.1]; exact List.mem_cons_of_mem _ (List.mem_append_right _ (List.mem_of_mem_take hx)))
    refine ⟨⟨by show (1 : Int) ≤ ((h / 2 : Nat) : Int); omega, by show ((h / 2 : Nat) : Int) ≤ 63; omega, by show (tb (r.take n)).size ≤ 4096; rw [tb_size, hl]; exact h4, .inr ⟨rfl, rfl⟩⟩, ?_⟩
    rw [fb_text, tb_size, hl, bl_tb h8', hn.1, List.cons_append, List.append_assoc, List.take_append_drop]
    congr 1
    omega
theorem of_front {h : Nat} {bs : List Nat} {f : Fv} {rest : List Nat} (hf : Front (h :: bs) f rest) : FieldR h bs f rest := by
  obtain ⟨⟨h1, h2, h3, h4⟩, e⟩ := hf
  obtain ⟨ft, fk, fn, fx⟩ := f
  simp only at h1 h2 h3 h4
  obtain ⟨t, rfl⟩ := Int.eq_ofNat_of_zero_le (show (0 : Int) ≤ ft by omega)
  rcases h4 with ⟨rfl, hn0, hn1, rfl⟩ | ⟨rfl, rfl⟩
  · obtain ⟨m, rfl⟩ := Int.eq_ofNat_of_zero_le hn0
    rw [fb_num] at e
    obtain ⟨e1, e2⟩ := List.cons.inj e
    have ht : h / 2 = t := by omega
    refine ⟨by omega, by omega, ⟨0, 0, m, ByteArray.empty⟩, .inl ⟨by omega, m, rfl, e2, by omega⟩, ?_⟩
    rw [ht]
  · rw [fb_text] at e
    obtain ⟨e1, e2⟩ := List.cons.inj e
    have ht : h / 2 = t := by omega
    have e2 : bs = Fi.varint fx.size ++ (bl fx ++ rest) := by rw [← List.append_assoc]; exact e2
    refine ⟨by omega, by omega, ⟨0, 1, 0, fx⟩, .inr ⟨by omega, fx.size, bl fx ++ rest, ⟨e2, by omega⟩, h3, by rw [List.length_append, bl_length]; omega, ?_, ?_⟩, ?_⟩
    · rw [← bl_length, List.drop_left]
    · rw [← bl_length, List.take_left, tb_bl]
    · rw [ht]
/- what was read, and what is left -/
def Read (bs : List Nat) (pre : List Fv) (rest : List Nat) : Prop := (∀ f ∈ pre, Good f) ∧ bs = enc pre ++ rest
theorem Read.next {bs : List Nat} {pre : List Fv} {r : List Nat} {f : Fv} {rest : List Nat} (h : Read bs pre r) (hf : Front r f rest) : Read bs (pre ++ [f]) rest := by
  refine ⟨fun x hx => ?_, ?_⟩
  · rcases List.mem_append.1 hx with hx | hx
    · exact h.1 x hx
    · rw [List.mem_singleton.1 hx]; exact hf.1
  · rw [h.2, hf.2, enc, enc, List.map_append, Fi.enc_append, List.append_assoc]
    simp [Fi.enc]
abbrev oks (pre : List Fv) : List (Fv × Bool) := pre.map (fun f => (f, true))
def Pre (bs : List Nat) (xs : List (Fv × Bool)) (x : Fv × Bool) : Prop :=
  ∃ pre, xs = oks pre ∧ ((x.2 = true ∧ ∃ rest, Read bs (pre ++ [x.1]) rest) ∨ (x.2 = false ∧ ∃ rest, rest ≠ [] ∧ Read bs pre rest ∧ ∀ f r, ¬ Front rest f r))
def Ends (bs : List Nat) (xs : List (Fv × Bool)) : Prop :=
  (∃ pre, xs = oks pre ∧ Read bs pre []) ∨ ∃ pre x, xs = pre ++ [x] ∧ x.2 = false ∧ Pre bs pre x
def Stops (bs : List Nat) (xs : List (Fv × Bool)) : Prop := ∃ pre x, xs = pre ++ [x] ∧ Pre bs pre x
theorem Inp.keptAt {G : Nat} {w w' : World} {B : Nat} {v : Value} {bs : List Nat} (h : Inp G w B v bs) (hB : w'.heap[B]? = w.heap[B]?) (hG : w'.heap[G]? = w.heap[G]?) : Inp G w' B v bs := by
  refine ⟨hB.trans h.box, ?_, h.byte⟩
  obtain ⟨a, cap, h1, h2, h3, g, off, e, ⟨hg, rfl⟩, hc⟩ := h.val
  exact ⟨a, cap, h1, h2, h3, g, off, e, ⟨hg, rfl⟩, fun i hi => (World.cell?_of_block (w := w) hG).trans (hc i hi)⟩
theorem Inp.g_lt {G : Nat} {w : World} {B : Nat} {v : Value} {bs : List Nat} (h : Inp G w B v bs) : G < w.heap.size := by
  obtain ⟨a, cap, h1, h2, h3, g, off, e, ⟨hg, rfl⟩, hc⟩ := h.val
  have := h.lt
  omega
/- how many bytes are left -/
def left (X : Nat) (w : World) : Nat := match w.cell? ⟨X, 0, none⟩ with | some (.slice _ n _) => n | _ => 0
theorem Inp.left {G : Nat} {w : World} {B : Nat} {v : Value} {bs : List Nat} (h : Inp G w B v bs) : left B w = bs.length := by
  obtain ⟨a, cap, rfl, _⟩ := h.val
  unfold YtealbeblkilibaaDoor.FI.left
  rw [h.box.cell]
set_option maxHeartbeats 2000000 in
set_option maxRecDepth 20000 in
theorem iter_yields (n G X : Nat) (bs : List Nat) (w : World) (Bin off cap : Nat) (hX : X = w.heap.size + 2) (hbox : Boxed w Bin 97 (.slice (some ⟨G, off, none⟩) bs.length cap)) (hG : G < w.heap.size) (h8 : ∀ x ∈ bs, x < 256) (hlc : bs.length ≤ cap) (hcm : cap ≤ 9223372036854775807)
    (hc : ∀ i, i < bs.length → w.cell? ⟨G, off + i, none⟩ = some (V8 (bs.getD i 0))) :
    Yields n 74 #[.pointer (some ⟨Bin, 0, none⟩)] (fun x : Fv × Bool => #[fv x.1, .bool x.2]) (fun k => k = G ∨ k = X) (Pre bs) (Ends bs) (Stops bs) w := by
  intro J Jx W hz hb hJ hJx hY h0
  have HJ : Hid (∀ s A B, J s A → A.grownBy B (some X) → J s B) := by rw [hX]; exact hJ
  have HY : Hid (∀ pre x A, J pre A → X < A.heap.size → Pre bs pre x → YieldAt Fence.wide (n - 1) Tryd.prog (w.heap.size + 1) #[fv x.1, .bool x.2] A fun e B =>
      (e = .returned (.bool true) ∧ J (pre ++ [x]) B ∧ Kept (fun k => k = G ∨ k = X) A B) ∨ (e = .returned (.bool false) ∧ Jx (pre ++ [x]) B)) := by rw [hX]; rw [hX] at hY; exact hY
  have hcW : W.cell? ⟨Bin, 0, none⟩ = some (.slice (some ⟨G, off, none⟩) bs.length cap) := (hb.cell (p := ⟨Bin, 0, none⟩) hbox.lt).trans hbox.cell
  have hWX : W.heap.size = X := by omega
  have HI : Hid (Inp G (W.alloc (.cells #[.slice (some ⟨G, off, none⟩) bs.length cap] 97)) X (.slice (some ⟨G, off, none⟩) bs.length cap) bs) := by
    refine ⟨by rw [← hWX]; exact Boxed.new W 97 _, ⟨_, cap, rfl, hlc, hcm, G, off, rfl, ⟨by omega, rfl⟩, fun i hi => ?_⟩, h8⟩
    have := (((Below.refl W.heap.size W).alloc (Nat.le_refl _) (.cells #[.slice (some ⟨G, off, none⟩) bs.length cap] 97)).cell (p := ⟨G, off + i, none⟩) (by show G < W.heap.size; omega))
    rw [this]
    exact (hb.cell (p := ⟨G, off + i, none⟩) hG).trans (hc i hi)
  have HJ0 : Hid (J (oks []) (W.alloc (.cells #[.slice (some ⟨G, off, none⟩) bs.length cap] 97))) := HJ.out _ _ _ h0 (World.grownBy_alloc W _ _)
  have H8 : Hid (∀ x ∈ bs, x < 256) := h8
  clear hY hJ hJx h0 hc h8 hb hz hG hbox hX
  generalize w.heap.size + 1 = l at *
  refine callsIn_of_wp Tryd.func74 rfl trivial ?_ rfl
  simp only [Tryd.ntmps74, List.size_toArray, List.length_cons, List.length_nil, Nat.reduceAdd, Nat.reduceSub, Array.replicate_succ, Array.replicate_zero, List.push_toArray, List.append_toArray, List.nil_append, List.cons_append]
  gi_wp2_with fail
  gi_loopw [] (fun wr => ∃ (pre : List Fv) (v : Value) (rest : List Nat), J (oks pre) wr ∧ Read bs pre rest ∧ Inp G wr X v rest) (fun wr => left X wr)
  case atStart => exact ⟨[], _, bs, HJ0.out, ⟨(fun f hf => by cases hf), rfl⟩, HI.out⟩
  case round =>
    obtain ⟨pre, v, rest, hj, hrd, hi⟩ := hrel
    have HJr : Hid (J (oks pre) wr) := hj
    have HRD : Hid (Read bs pre rest) := hrd
    have HIr : Hid (Inp G wr X v rest) := hi
    have hlf := hi.left
    have hxc := hi.box.cell
    obtain ⟨a', cap', rfl, _⟩ := hi.val
    clear hj hrd hi HI HJ0
    cases rest with
    | nil =>
      gi_wp2_with fail
      go_end0
      exact ⟨⟨_, rfl⟩, .inl ⟨oks pre, .inl ⟨pre, rfl, HRD.out⟩, HJr.out⟩⟩
    | cons h t =>
      have i0 : (0 : Int) < ((h :: t).length : Int) := by simp
      gi_wp2_with fail
      refine ⟨trivial, fun h => by simp [Fence.wide] at h, ?_⟩
      refine (callsIn_wide.2 (field_any X _ h t wr HIr.out)).mono ?_
      rintro e w2 (⟨f, rest', v2, hR, rfl, hg2, hI2⟩ | ⟨hNR, f, rfl, hg2⟩)
      · have hFr := front_of HIr.out.byte hR
        have HRD2 : Hid (Read bs (pre ++ [f]) rest') := HRD.out.next hFr
        have HJ2 : Hid (J (oks pre) (boxed w2 f)) := HJ.out _ _ _ (HJ.out _ _ _ HJr.out hg2) (World.grownBy_alloc w2 _ _)
        have HI2 : Hid (Inp G (boxed w2 f) X v2 rest') := hI2.alloc _
        have hlx : X < (boxed w2 f).heap.size := HI2.out.lt
        have hlen : rest'.length < (h :: t).length := by
          have h1 := congrArg List.length hFr.2
          have h2 := @Fi.fb_two (fd f)
          rw [List.length_append] at h1
          omega
        obtain ⟨fn, tmps, assign, body, hy, hRR⟩ := HY.out (oks pre) (f, true) (boxed w2 f) HJ2.out hlx ⟨pre, rfl, .inl ⟨rfl, rest', HRD2.out⟩⟩
        dsimp only at hy
        clear hg2 hI2 hR
        gi_wp2_with fail
        refine ⟨fun h => by simp [Fence.wide] at h, ?_⟩
        refine hRR.mono ?_
        clear hRR
        rintro e W3 (⟨rfl, hJ3, hk3⟩ | ⟨rfl, hJx3⟩)
        · have hI3 : Inp G W3 X v2 rest' := HI2.out.keptAt (hk3.same X (.inr rfl) hlx) (hk3.same G (.inl rfl) HI2.out.g_lt)
          have HI3 : Hid (Inp G W3 X v2 rest') := hI3
          have HJ3 : Hid (J (oks (pre ++ [f])) W3) := by rw [oks, List.map_append]; exact hJ3
          have HLF : Hid (left X W3 < left X wr) := by rw [hlf, hI3.left]; exact hlen
          clear hJ3 hk3 hI3
          gi_wp2_with fail
          go_roundw
          case rel => exact ⟨pre ++ [f], v2, rest', HJ3.out, HRD2.out, HI3.out⟩
          case measure => exact HLF.out
        · have HJX : Hid (Jx (oks pre ++ [(f, true)]) W3) := hJx3
          clear hJx3
          gi_wp2_with fail
          refine bodyPost_ret (results_none rfl _ _ _) rfl ?_
          exact ⟨⟨_, rfl⟩, .inr ⟨_, ⟨oks pre, (f, true), rfl, pre, rfl, .inl ⟨rfl, rest', HRD2.out⟩⟩, HJX.out⟩⟩
      · have HP : Hid (Pre bs (oks pre) (f, false)) := ⟨pre, rfl, .inr ⟨rfl, h :: t, by simp, HRD.out, fun f r hf => hNR _ _ (of_front hf)⟩⟩
        have HJ2 : Hid (J (oks pre) (boxed w2 f)) := HJ.out _ _ _ (HJ.out _ _ _ HJr.out hg2) (World.grownBy_alloc w2 _ _)
        have hlx : X < (boxed w2 f).heap.size := by have := HIr.out.lt; have := hg2.size; rw [size_alloc1]; omega
        obtain ⟨fn, tmps, assign, body, hy, hRR⟩ := HY.out (oks pre) (f, false) (boxed w2 f) HJ2.out hlx HP.out
        dsimp only at hy
        clear hg2 hNR
        gi_wp2_with fail
        refine ⟨fun h => by simp [Fence.wide] at h, ?_⟩
        refine hRR.mono ?_
        clear hRR
        rintro e W3 (⟨rfl, hJ3, hk3⟩ | ⟨rfl, hJx3⟩)
        · have HJ3 : Hid (J (oks pre ++ [(f, false)]) W3) := hJ3
          clear hJ3 hk3
          gi_wp2_with fail
          refine bodyPost_ret (results_none rfl _ _ _) rfl ?_
          exact ⟨⟨_, rfl⟩, .inl ⟨_, .inr ⟨oks pre, (f, false), rfl, rfl, HP.out⟩, HJ3.out⟩⟩
        · have HJX : Hid (Jx (oks pre ++ [(f, false)]) W3) := hJx3
          clear hJx3
          gi_wp2_with fail
          refine bodyPost_ret (results_none rfl _ _ _) rfl ?_
          exact ⟨⟨_, rfl⟩, .inr ⟨_, ⟨oks pre, (f, false), rfl, HP.out⟩, HJX.out⟩⟩
end Go.Proofs.YtealbeblkilibaaDoor.FI
/- Proved: plain facts on records: bytes have one record at most; what stands at the front of bytes decides; tags that do not fall. -/
namespace Go.Proofs.YtealbeblkilibaaDoor.FI
open Go.RowKit
/- the record that has the bytes -/
structure Dec (bs : List Nat) (l : List Fv) : Prop where
  len : bs.length ≤ 65536
  good : ∀ f ∈ l, Good f
  up : Fi.Up (l.map fd)
  eq : enc l = bs
theorem fd_inj {f g : Fv} (hf : Good f) (hg : Good g) (h : fd f = fd g) : f = g := by
  obtain ⟨ft, fk, fn, fs⟩ := f
  obtain ⟨gt, gk, gn, gs⟩ := g
  have h1 := hf.tag1; have h2 := hg.tag1; have h3 := hf.kind; have h4 := hg.kind
  simp only [fd, Fi.Fd.mk.injEq] at h h1 h2 h3 h4
  obtain ⟨a, b, c, d⟩ := h
  have e1 : ft = gt := by omega
  have e2 : fk = gk := by omega
  have e3 : fn = gn := by omega
  rw [e1, e2, e3, bl_inj d]
theorem enc_cons (f : Fv) (l : List Fv) : enc (f :: l) = Fi.fb (fd f) ++ enc l := by simp [enc, Fi.enc]
theorem enc_app (a b : List Fv) : enc (a ++ b) = enc a ++ enc b := by simp [enc, Fi.enc]
theorem enc_pre : ∀ (p l : List Fv) (r : List Nat), (∀ f ∈ p, Good f) → (∀ f ∈ l, Good f) → enc l = enc p ++ r → ∃ l', l = p ++ l' ∧ enc l' = r
  | [], l, r, _, _, e => ⟨l, rfl, e⟩
  | f :: p, [], r, _, _, e => by
    rw [enc_cons] at e
    have h1 := congrArg List.length e
    have h2 := @Fi.fb_two (fd f)
    simp [enc, Fi.enc] at h1
    omega
  | f :: p, g :: l, r, hp, hl, e => by
    rw [enc_cons, enc_cons, List.append_assoc] at e
    obtain ⟨e1, e2⟩ := Fi.fb_inj (hl g List.mem_cons_self).ok (hp f List.mem_cons_self).ok e
    obtain ⟨l', h1, h2⟩ := enc_pre p l r (fun x hx => hp x (List.mem_cons_of_mem _ hx)) (fun x hx => hl x (List.mem_cons_of_mem _ hx)) e2
    exact ⟨l', by rw [fd_inj (hl g List.mem_cons_self) (hp f List.mem_cons_self) e1, h1]; rfl, h2⟩
theorem enc_nil_of {l : List Fv} (h : enc l = []) : l = [] := by
  cases l with
  | nil => rfl
  | cons f l =>
    rw [enc_cons] at h
    have h1 := congrArg List.length h
    have h2 := @Fi.fb_two (fd f)
    rw [List.length_append, List.length_nil] at h1
    omega
theorem enc_one {a b : List Fv} (ha : ∀ f ∈ a, Good f) (hb : ∀ f ∈ b, Good f) (h : enc a = enc b) : a = b := by
  obtain ⟨l', h1, h2⟩ := enc_pre b a [] hb ha (by rw [List.append_nil]; exact h)
  rw [enc_nil_of h2, List.append_nil] at h1
  exact h1
theorem Dec.one {bs : List Nat} {a b : List Fv} (ha : Dec bs a) (hb : Dec bs b) : a = b := enc_one ha.good hb.good (ha.eq.trans hb.eq.symm)
theorem enc_len (l : List Fv) : 2 * l.length ≤ (enc l).length := by
  induction l with
  | nil => simp
  | cons f l ih =>
    have h2 := @Fi.fb_two (fd f)
    rw [enc_cons, List.length_append, List.length_cons]
    omega
theorem up_left : ∀ (a b : List Fi.Fd), Fi.Up (a ++ b) → Fi.Up a
  | [], _, _ => trivial
  | [_], _, _ => trivial
  | _ :: y :: a, b, h => ⟨h.1, up_left (y :: a) b h.2⟩
def lastTag (l : List Fv) : Int := match l.getLast? with | some f => f.tag | none => 0
theorem lastTag_snoc (l : List Fv) (f : Fv) : lastTag (l ++ [f]) = f.tag := by simp [lastTag]
theorem up_snoc : ∀ (l : List Fv) (f : Fv), (∀ x ∈ l, Good x) → Good f → (Fi.Up ((l ++ [f]).map fd) ↔ Fi.Up (l.map fd) ∧ lastTag l ≤ f.tag)
  | [], f, _, hf => by
    have := hf.tag1
    refine ⟨fun _ => ⟨trivial, ?_⟩, fun _ => trivial⟩
    show (0 : Int) ≤ f.tag
    omega
  | [x], f, hl, hf => by
    have h1 := hf.tag1
    have h2 := (hl x List.mem_cons_self).tag1
    show (x.tag.toNat ≤ f.tag.toNat ∧ True) ↔ True ∧ x.tag ≤ f.tag
    constructor
    · rintro ⟨h, _⟩; exact ⟨trivial, by omega⟩
    · rintro ⟨_, h⟩; exact ⟨by omega, trivial⟩
  | x :: y :: l, f, hl, hf => by
    have ih := up_snoc (y :: l) f (fun z hz => hl z (List.mem_cons_of_mem _ hz)) hf
    have e : lastTag (x :: y :: l) = lastTag (y :: l) := by simp [lastTag]
    rw [e]
    show (x.tag.toNat ≤ y.tag.toNat ∧ Fi.Up (((y :: l) ++ [f]).map fd)) ↔ (x.tag.toNat ≤ y.tag.toNat ∧ Fi.Up ((y :: l).map fd)) ∧ _
    rw [ih, and_assoc]
theorem dec_falls {bs : List Nat} {pre : List Fv} {f : Fv} {rest : List Nat} (h : Read bs (pre ++ [f]) rest) (ht : f.tag < lastTag pre) : ∀ l, ¬ Dec bs l := fun l hd => by
  obtain ⟨l', e, _⟩ := enc_pre (pre ++ [f]) l rest h.1 hd.good (hd.eq.trans h.2)
  have hu := hd.up
  rw [e, List.map_append] at hu
  have := ((up_snoc pre f (fun x hx => h.1 x (List.mem_append_left _ hx)) (h.1 f (List.mem_append_right _ List.mem_cons_self))).1 (up_left _ _ hu)).2
  omega
theorem dec_stuck {bs : List Nat} {pre : List Fv} {rest : List Nat} (h : Read bs pre rest) (hr : rest ≠ []) (hF : ∀ f r, ¬ Front rest f r) : ∀ l, ¬ Dec bs l := fun l hd => by
  obtain ⟨l', e, e2⟩ := enc_pre pre l rest h.1 hd.good (hd.eq.trans h.2)
  cases l' with
  | nil => exact hr (e2.symm.trans rfl)
  | cons f l' =>
    exact hF f (enc l') ⟨hd.good f (by rw [e]; exact List.mem_append_right _ List.mem_cons_self), by rw [← e2, enc_cons]⟩
end Go.Proofs.YtealbeblkilibaaDoor.FI
