/- Proved: a database, its transaction, and a state that is being told of it, side by side in memory (stage 10). -/
import Derived.Test.YtcfninpokngmlaaGreatDoorJ20
namespace Go.Proofs.YtcfninpokngmlaaGreatDoor
open Go.RowKit
def nil3 : Array Value := #[.slice none 0 0, .slice none 0 0, .slice none 0 0]
def st3 (vP vF : Value) (rb : Nat) : Array Value := #[vP, vF, .slice (some ⟨rb, 0, none⟩) 4 4]
section
variable {W w wr w' : World} {A : Ad} {t bt K : Nat} {d : Pd.Db} {S T : Pd.Ab} {sp : Bool} {tm : Pd.Mp}
theorem Turn.new {fs gs hs : List Nat} {a b c : World} (h : Turn fs gs a b) (hc : Chg hs b c) (hn : ∀ k ∈ hs, a.heap.size ≤ k) : Turn fs gs a c :=
  ⟨⟨hc.os.trans h.chg.os, hc.tape.trans h.chg.tape, hc.output.trans h.chg.output, Nat.le_trans h.chg.size hc.size, fun k hk hf => (hc.block k (Nat.lt_of_lt_of_le hk h.chg.size) (fun hm => by have := hn k hm; omega)).trans (h.chg.block k hk hf)⟩, h.grow⟩
theorem GT.keep (G : GT W w A t bt K d S T sp tm) {fs : List Nat} (hc : Chg fs w w') (ha : ∀ k ∈ tft A t bt, k ∉ fs) (hW : ∀ k ∈ fs, W.heap.size ≤ k) (hp : 0 < W.heap.size) : GT W w' A t bt K d S T sp tm :=
  ⟨G.tx.keep hc ha (fun h => by have := hW 0 h; omega), G.inv, G.txi, G.bel.trans (hc.below hW G.bel.size), G.new⟩
structure SI (W w wr : World) (A : Ad) (t bt K : Nat) (d : Pd.Db) (S T : Pd.Ab) (tm : Pd.Mp) (R q rb : Nat) (vP vF : Value) (np : Nat) (fl : List Nat) : Prop where
  g : GT W wr A t bt K d S T false tm
  res : wr.heap[R]? = some (.cells nil3 39 (0, 0))
  box : wr.heap[q]? = some (.cells (st3 vP vF rb) 39 (0, 0))
  pg : wr.ownsRow w.heap.size 83 3 vP (S.pgs.take np).length ((S.pgs.take np).flatMap pgC)
  fr : wr.ownsRow w.heap.size 3 1 vF fl.length (intC fl)
  rt : wr.ownsRow w.heap.size 3 1 (.slice (some ⟨rb, 0, none⟩) 4 4) 4 (intC [S.r0, S.r1, S.r2, S.r3])
  aR : R ∉ q :: rb :: tft A t bt
  aq : q ∉ rb :: tft A t bt
  ab : rb ∉ tft A t bt
  aP : ∀ k, vP.ownBlock = some k → k ∉ R :: q :: rb :: tft A t bt
  aF : ∀ k, vF.ownBlock = some k → k ∉ R :: q :: rb :: tft A t bt
  pf : ∀ k, vP.ownBlock = some k → vF.ownBlock ≠ some k
  hi : w.heap.size ≤ R ∧ w.heap.size ≤ q ∧ w.heap.size ≤ rb
  turn : Turn A.ft (tft A t bt) w wr
  pos : 0 < W.heap.size
  ww : W.heap.size ≤ w.heap.size
variable {R q rb np : Nat} {vP vF : Value} {fl : List Nat}
theorem SI.lt (h : SI W w wr A t bt K d S T tm R q rb vP vF np fl) : ∀ k ∈ R :: q :: rb :: tft A t bt, k < wr.heap.size := fun k hk => by
  rcases List.mem_cons.1 hk with rfl | hk
  · exact (Array.getElem?_eq_some_iff.1 h.res).1
  · rcases List.mem_cons.1 hk with rfl | hk
    · exact (Array.getElem?_eq_some_iff.1 h.box).1
    · rcases List.mem_cons.1 hk with rfl | hk
      · exact (h.rt.lt k rfl).2
      · exact h.g.tx.lt k hk
theorem SI.below (h : SI W w wr A t bt K d S T tm R q rb vP vF np fl) (hB : Below wr.heap.size wr w') : SI W w w' A t bt K d S T tm R q rb vP vF np fl :=
  ⟨h.g.below hB, (hB.block R (h.lt R (by simp))).trans h.res, (hB.block q (h.lt q (by simp))).trans h.box, own_below h.pg hB, own_below h.fr hB, own_below h.rt hB, h.aR, h.aq, h.ab, h.aP, h.aF, h.pf, h.hi, h.turn.trans (Turn.of_below hB), h.pos, h.ww⟩
theorem SI.step {T' : Pd.Ab} {tm' : Pd.Mp} (h : SI W w wr A t bt K d S T tm R q rb vP vF np fl) (hT : Turn (tft A t bt) (tft A t bt) wr w') (hG : GT W w' A t bt K d S T' false tm') : SI W w w' A t bt K d S T' tm' R q rb vP vF np fl := by
  have hb : ∀ k, k < wr.heap.size → k ∉ tft A t bt → w'.heap[k]? = wr.heap[k]? := fun k h1 h2 => hT.chg.block k h1 h2
  refine ⟨hG, (hb R (h.lt R (by simp)) (fun hm => h.aR (by simp [hm]))).trans h.res, (hb q (h.lt q (by simp)) (fun hm => h.aq (by simp [hm]))).trans h.box, own_keep h.pg (fun k hk => hb k (h.pg.lt k hk).2 (fun hm => h.aP k hk (by simp [hm]))), own_keep h.fr (fun k hk => hb k (h.fr.lt k hk).2 (fun hm => h.aF k hk (by simp [hm]))), own_keep h.rt (fun k hk => ?_), h.aR, h.aq, h.ab, h.aP, h.aF, h.pf, h.hi, h.turn.trans hT, h.pos, h.ww⟩
  have : k = rb := (Option.some.inj hk).symm
  subst this
  exact hb k (h.lt k (by simp)) h.ab
/- a page more -/
theorem SI.page {o : Option Pd.Sheet} {v' : Value} {w3 : World} (h : SI W w wr A t bt K d S T tm R q rb vP vF np fl) (ho : S.pgs[np]? = some o)
    (hO : w3.ownsRow w.heap.size 83 3 v' (S.pgs.take np ++ [o]).length ((S.pgs.take np ++ [o]).flatMap pgC)) (hG : (wr.alloc (.cells (pgC o).toArray 83)).grownBy w3 vP.ownBlock) (hv : v'.ownBlock = vP.ownBlock ∨ v'.ownBlock = some (wr.alloc (.cells (pgC o).toArray 83)).heap.size) :
    SI W w (w3.setCell ⟨q, 0, none⟩ v') A t bt K d S T tm R q rb v' vF (np + 1) fl := by
  have hl := h.lt
  have s2 : (wr.alloc (.cells (pgC o).toArray 83)).heap.size = wr.heap.size + 1 := by simp
  have h2 := h.below ((Below.refl _ wr).alloc (Nat.le_refl _) (.cells (pgC o).toArray 83))
  have htk : S.pgs.take np ++ [o] = S.pgs.take (np + 1) := by
    rw [List.take_add_one, ho]
    rfl
  rw [htk] at hO
  have hcg : Chg vP.ownBlock.toList (wr.alloc (.cells (pgC o).toArray 83)) w3 := Chg.grown hG
  have hqP : q ∉ vP.ownBlock.toList := fun hm => h.aP q (by simpa using hm) (by simp)
  have hc3 : Chg (q :: vP.ownBlock.toList) (wr.alloc (.cells (pgC o).toArray 83)) (w3.setCell ⟨q, 0, none⟩ v') := (hcg.mono (fun k hk => List.mem_cons_of_mem _ hk)).trans ((Chg.setCell w3 q 0 v').mono (fun k hk => by rw [List.mem_singleton.1 hk]; exact List.mem_cons_self))
  have hq3 : w3.heap[q]? = some (.cells (st3 vP vF rb) 39 (0, 0)) := (hcg.block q (h2.lt q (by simp)) hqP).trans h2.box
  have hne : ∀ k, v'.ownBlock = some k → k ∉ R :: q :: rb :: tft A t bt := fun k hk hm => by
    rcases hv with e | e
    · exact h.aP k (e ▸ hk) hm
    · rw [e] at hk
      have := Option.some.inj hk
      have := hl k hm
      omega
  have hbl : ∀ k, k < wr.heap.size + 1 → k ≠ q → vP.ownBlock ≠ some k → (w3.setCell ⟨q, 0, none⟩ v').heap[k]? = (wr.alloc (.cells (pgC o).toArray 83)).heap[k]? := fun k h1 h2 h3 => hc3.block k (by rw [s2]; exact h1) (fun hm => by
    rcases List.mem_cons.1 hm with e | e
    · exact h2 e
    · exact h3 (by simpa using e))
  have hfs : ∀ k ∈ q :: vP.ownBlock.toList, w.heap.size ≤ k := fun k hk => by
    rcases List.mem_cons.1 hk with rfl | hk
    · exact h.hi.2.1
    · exact (h.pg.lt k (by simpa using hk)).1
  have hft : ∀ k ∈ tft A t bt, k ∉ q :: vP.ownBlock.toList := fun k hk hm => by
    rcases List.mem_cons.1 hm with rfl | e
    · exact h.aq (by simp [hk])
    · exact h.aP k (by simpa using e) (by simp [hk])
  refine ⟨h2.g.keep hc3 hft (fun k hk => Nat.le_trans h.ww (hfs k hk)) h.pos, ?_, ?_, ?_, ?_, ?_, h.aR, h.aq, h.ab, hne, h.aF, fun k hk => ?_, h.hi, h2.turn.new hc3 hfs, h.pos, h.ww⟩
  · rw [hbl R (by have := hl R (by simp); omega) (fun e => h.aR (by simp [e])) (fun e => h.aP R e (by simp))]
    exact h2.res
  · exact (heap_setCell_same w3 q 0 _ _ v' hq3).trans rfl
  · exact own_keep hO (fun k hk => heap_setCell_other _ _ _ _ (fun e => hne k hk (by simp [e])))
  · refine own_keep h2.fr (fun k hk => hbl k (by have := (h.fr.lt k hk).2; omega) (fun e => h.aF k hk (by simp [e])) (fun e => h.pf k e hk))
  · refine own_keep h2.rt (fun k hk => ?_)
    have : k = rb := (Option.some.inj hk).symm
    subst this
    exact hbl k (by have := hl k (by simp); omega) (fun e => h.aq (by simp [← e])) (fun e => h.aP k e (by simp))
  · rcases hv with e | e
    · exact h.pf k (e ▸ hk)
    · rw [e] at hk
      have h1 := Option.some.inj hk
      intro h3
      have := (h.fr.lt k h3).2
      omega
/- a number ahead of the free ones -/
theorem SI.ahead {id : Nat} {v' : Value} {w3 : World} (h : SI W w wr A t bt K d S T tm R q rb vP vF np fl)
    (hO : w3.ownsRow w.heap.size 3 1 v' (id :: fl).length (intC (id :: fl))) (hG : (wr.alloc (.cells #[.int .i64 (id : Int)] 3)).grownBy w3 (some wr.heap.size)) (hv : v'.ownBlock = some wr.heap.size ∨ v'.ownBlock = some (wr.alloc (.cells #[.int .i64 (id : Int)] 3)).heap.size) :
    SI W w (w3.setCell ⟨q, 1, none⟩ v') A t bt K d S T tm R q rb vP v' np (id :: fl) := by
  have hl := h.lt
  have s2 : (wr.alloc (.cells #[.int .i64 (id : Int)] 3)).heap.size = wr.heap.size + 1 := by simp
  have h2 := h.below ((Below.refl _ wr).alloc (Nat.le_refl _) (.cells #[.int .i64 (id : Int)] 3))
  have hcg : Chg [wr.heap.size] (wr.alloc (.cells #[.int .i64 (id : Int)] 3)) w3 := Chg.grown hG
  have hql := hl q (by simp)
  have hc3 : Chg [q, wr.heap.size] (wr.alloc (.cells #[.int .i64 (id : Int)] 3)) (w3.setCell ⟨q, 1, none⟩ v') := (hcg.mono (fun k hk => List.mem_cons_of_mem _ hk)).trans ((Chg.setCell w3 q 1 v').mono (fun k hk => by rw [List.mem_singleton.1 hk]; exact List.mem_cons_self))
  have hq3 : w3.heap[q]? = some (.cells (st3 vP vF rb) 39 (0, 0)) := (hcg.block q (h2.lt q (by simp)) (fun hm => by have := List.mem_singleton.1 hm; omega)).trans h2.box
  have hvk : ∀ k, v'.ownBlock = some k → wr.heap.size ≤ k := fun k hk => by
    rcases hv with e | e
    · rw [e] at hk; have := Option.some.inj hk; omega
    · rw [e] at hk; have := Option.some.inj hk; omega
  have hne : ∀ k, v'.ownBlock = some k → k ∉ R :: q :: rb :: tft A t bt := fun k hk hm => by
    have := hvk k hk
    have := hl k hm
    omega
  have hbl : ∀ k, k < wr.heap.size → k ≠ q → (w3.setCell ⟨q, 1, none⟩ v').heap[k]? = (wr.alloc (.cells #[.int .i64 (id : Int)] 3)).heap[k]? := fun k h1 h2 => hc3.block k (by rw [s2]; omega) (fun hm => by
    simp at hm
    rcases hm with e | e
    · exact h2 e
    · omega)
  have hws := h.turn.chg.size
  have hfs : ∀ k ∈ [q, wr.heap.size], w.heap.size ≤ k := fun k hk => by
    simp at hk
    rcases hk with rfl | rfl
    · exact h.hi.2.1
    · exact hws
  have hft : ∀ k ∈ tft A t bt, k ∉ [q, wr.heap.size] := fun k hk hm => by
    simp at hm
    rcases hm with rfl | e
    · exact h.aq (by simp [hk])
    · have := h.g.tx.lt k hk; omega
  refine ⟨h2.g.keep hc3 hft (fun k hk => Nat.le_trans h.ww (hfs k hk)) h.pos, ?_, ?_, ?_, ?_, ?_, h.aR, h.aq, h.ab, h.aP, hne, fun k hk e => ?_, h.hi, h2.turn.new hc3 hfs, h.pos, h.ww⟩
  · rw [hbl R (hl R (by simp)) (fun e => h.aR (by simp [e]))]
    exact h2.res
  · exact (heap_setCell_same w3 q 1 _ _ v' hq3).trans rfl
  · refine own_keep h2.pg (fun k hk => hbl k (h.pg.lt k hk).2 (fun e => h.aP k hk (by simp [e])))
  · exact own_keep hO (fun k hk => heap_setCell_other _ _ _ _ (fun e => hne k hk (by simp [e])))
  · refine own_keep h2.rt (fun k hk => ?_)
    have : k = rb := (Option.some.inj hk).symm
    subst this
    exact hbl k (hl k (by simp)) (fun e => h.aq (by simp [← e]))
  · have := hvk k e
    have := (h.pg.lt k hk).2
    omega
end
/- pages taken back one by one -/
def alN (S : Pd.Ab) (cnt : Nat) : Nat → Pd.Ab
  | 0 => S
  | j + 1 => alA (alN S cnt j) cnt
theorem alN_freed (S : Pd.Ab) (cnt : Nat) : ∀ j, j ≤ S.freed.length → (alN S cnt j).freed = S.freed.take (S.freed.length - j)
  | 0, _ => by
    show S.freed = _
    rw [Nat.sub_zero, List.take_length]
  | j + 1, h => by
    have ih := alN_freed S cnt j (by omega)
    have hne : (alN S cnt j).freed ≠ [] := fun e => by
      have := congrArg List.length (ih.symm.trans e)
      rw [List.length_take] at this
      simp at this
      omega
    show (alA (alN S cnt j) cnt).freed = _
    unfold alA
    rw [if_pos (by unfold alR; rw [if_neg (fun h => hne h.1)])]
    unfold Pd.Ab.alloc
    rw [if_neg hne]
    show (alN S cnt j).freed.dropLast = _
    rw [ih, List.dropLast_eq_take, List.take_take, List.length_take]
    congr 1
    omega
theorem alN_next (S : Pd.Ab) (cnt j : Nat) (h : j < S.freed.length) : alR (alN S cnt j) cnt = 0 ∧ alI (alN S cnt j) cnt :: S.freed.drop (S.freed.length - j) = S.freed.drop (S.freed.length - (j + 1)) := by
  have ih := alN_freed S cnt j (by omega)
  have hne : (alN S cnt j).freed ≠ [] := fun e => by
    have := congrArg List.length (ih.symm.trans e)
    rw [List.length_take] at this
    simp at this
    omega
  have hR : alR (alN S cnt j) cnt = 0 := by unfold alR; rw [if_neg (fun h => hne h.1)]
  refine ⟨hR, ?_⟩
  have hI : alI (alN S cnt j) cnt = S.freed[S.freed.length - (j + 1)]'(by omega) := by
    unfold alI
    rw [if_pos hR]
    unfold Pd.Ab.allocI
    rw [if_neg hne, ih, List.getLast?_take, if_neg (by omega), show S.freed.length - j - 1 = S.freed.length - (j + 1) by omega, List.getElem?_eq_getElem (by omega)]
    rfl
  rw [hI, ← List.getElem_cons_drop (by omega : S.freed.length - (j + 1) < S.freed.length), show S.freed.length - (j + 1) + 1 = S.freed.length - j by omega]
end Go.Proofs.YtcfninpokngmlaaGreatDoor
