/- Proved: a database, its transaction, and a state that is being told of it, side by side in memory (stage 10). -/
import Derived.Test.YtcfninpokngmlaaGreatDoorM15
namespace Go.Proofs.YtcfninpokngmlaaGreatDoor
open Go.RowKit
def nil3 : Array Value := #[.slice none 0 0, .slice none 0 0, .slice none 0 0]
def st3 (vP vF : Value) (rb : Nat) : Array Value := #[vP, vF, .slice (some ⟨rb, 0, none⟩) 4 4]
section
variable {W w wr w' : World} {A : Ad} {t bt K : Nat} {d : Pd.Db} {S T : Pd.Ab} {sp : Bool} {tm : Pd.Mp}
theorem Turn.new {fs gs hs : List Nat} {a b c : World} (h : Turn fs gs a b) (hc : Chg hs b c) (hn : ∀ k ∈ hs, a.heap.size ≤ k) : Turn fs gs a c :=
  ⟨⟨hc.os.trans h.chg.os, hc.tape.trans h.chg.tape, hc.output.trans h.chg.output, Nat.le_trans h.chg.size hc.size, fun k hk hf => (hc.block k (Nat.lt_of_lt_of_le hk h.chg.size) (fun hm => by have := hn k hm; omega)).trans (h.chg.block k hk hf)⟩, h.grow⟩
theorem GT.keep (G : GT W w A t bt K d S T sp tm) {fs : List Nat} (hc : Chg fs w w') (ha : ∀ k ∈ tft A t bt, k ∉ fs) (hW : ∀ k ∈ fs, W.heap.size ≤ k) (hp : 0 < W.heap.size) : GT W w' A t bt K d S T sp tm :=
  ⟨G.tx.keep hc ha (fun h => by have := hW 0 h; omega), G.inv, G.txi, G.bel.trans (hc.below hW G.bel.size), G.new⟩
structure SI (W w wr : World) (A : Ad) (t bt K : Nat) (d : Pd.Db) (S T : Pd.Ab) (tm : Pd.Mp) (R q rb : Nat) (vP vF : Value) (np : Nat) (fl : List Nat) : Prop where
  g : GT W wr A t bt K d S T false tm
  res : wr.heap[R]? = some (.cells nil3 39 (0, 0))
  box : wr.heap[q]? = some (.cells (st3 vP vF rb) 39 (0, 0))
  pg : wr.ownsRow w.heap.size 83 3 vP (S.pgs.take np).length ((S.pgs.take np).flatMap pgC)
  fr : wr.ownsRow w.heap.size 3 1 vF fl.length (intC fl)
  rt : wr.ownsRow w.heap.size 3 1 (.slice (some ⟨rb, 0, none⟩) 4 4) 4 (intC [S.r0, S.r1, S.r2, S.r3])
  aR : R ∉ q :: rb :: tft A t bt
  aq : q ∉ rb :: tft A t bt
  ab : rb ∉ tft A t bt
  aP : ∀ k, vP.ownBlock = some k → k ∉ R :: q :: rb :: tft A t bt
  aF : ∀ k, vF.ownBlock = some k → k ∉ R :: q :: rb :: tft A t bt
  pf : ∀ k, vP.ownBlock = some k → vF.ownBlock ≠ some k
  hi : w.heap.size ≤ R ∧ w.heap.size ≤ q ∧ w.heap.size ≤ rb
  turn : Turn A.ft (tft A t bt) w wr
  pos : 0 < W.heap.size
  ww : W.heap.size ≤ w.heap.size
variable {R q rb np : Nat} {vP vF : Value} {fl : List Nat}
theorem SI.lt (h : SI W w wr A t bt K d S T tm R q rb vP vF np fl) : ∀ k ∈ R :: q :: rb :: tft A t bt, k < wr.heap.size := fun k hk => by
  rcases List.mem_cons.1 hk with rfl | hk
  · exact (Array.getElem?_eq_some_iff.1 h.res).1
  · rcases List.mem_cons.1 hk with rfl | hk
    · exact (Array.getElem?_eq_some_iff.1 h.box).1
    · rcases List.mem_cons.1 hk with rfl | hk
      · exact (h.rt.lt k rfl).2
      · exact h.g.tx.lt k hk
theorem SI.below (h : SI W w wr A t bt K d S T tm R q rb vP vF np fl) (hB : Below wr.heap.size wr w') : SI W w w' A t bt K d S T tm R q rb vP vF np fl :=
  ⟨h.g.below hB, (hB.block R (h.lt R (by simp))).trans h.res, (hB.block q (h.lt q (by simp))).trans h.box, own_below h.pg hB, own_below h.fr hB, own_below h.rt hB, h.aR, h.aq, h.ab, h.aP, h.aF, h.pf, h.hi, h.turn.trans (Turn.of_below hB), h.pos, h.ww⟩
theorem SI.step {T' : Pd.Ab} {tm' : Pd.Mp} (h : SI W w wr A t bt K d S T tm R q rb vP vF np fl) (hT : Turn (tft A t bt) (tft A t bt) wr w') (hG : GT W w' A t bt K d S T' false tm') : SI W w w' A t bt K d S T' tm' R q rb vP vF np fl := by
  have hb : ∀ k, k < wr.heap.size → k ∉ tft A t bt → w'.heap[k]? = wr.heap[k]? := fun k h1 h2 => hT.chg.block k h1 h2
  refine ⟨hG, (hb R (h.lt R (by simp)) (fun hm => h.aR (by simp [hm]))).trans h.res, (hb q (h.lt q (by simp)) (fun hm => h.aq (by simp [hm]))).trans h.box, own_keep h.pg (fun k hk => hb k (h.pg.lt k hk).2 (fun hm => h.aP k hk (by simp [hm]))), own_keep h.fr (fun k hk => hb k (h.fr.lt k hk).2 (fun hm => h.aF k hk (by simp [hm]))), own_keep h.rt (fun k hk => ?_), h.aR, h.aq, h.ab, h.aP, h.aF, h.pf, h.hi, h.turn.trans hT, h.pos, h.ww⟩
  have : k = rb := (Option.some.inj hk).symm
  subst this
  exact hb k (h.lt k (by simp)) h.ab
/- a page more -/
theorem SI.page {o : Option Pd.Sheet} {v' : Value} {w3 : World} (h : SI W w wr A t bt K d S T tm R q rb vP vF np fl) (ho : S.pgs[np]? = some o)
    (hO : w3.ownsRow w.heap.size 83 3 v' (S.pgs.take np ++ [o]).length ((S.pgs.take np ++ [o]).flatMap pgC)) (hG : (wr.alloc (.cells (pgC o).toArray 83)).grownBy w3 vP.ownBlock) (hv : v'.ownBlock = vP.ownBlock ∨ v'.ownBlock = some (wr.alloc (.cells (pgC o).toArray 83)).heap.size) :
    SI W w (w3.setCell ⟨q, 0, none⟩ v') A t bt K d S T tm R q rb v' vF (np + 1) fl := by
  have hl := h.lt
  have s2 : (wr.alloc (.cells (pgC o).toArray 83)).heap.size = wr.heap.size + 1 := by simp
  have h2 := h.below ((Below.refl _ wr).alloc (Nat.le_refl _) (.cells (pgC o).toArray 83))
  have htk : S.pgs.take np ++ [o] = S.pgs.take (np + 1) := by
    rw [List.take_add_one, ho]
    rfl
  rw [htk] at hO
  have hcg : Chg vP.ownBlock.toList (wr.alloc (.cells (pgC o).toArray 83)) w3 := Chg.grown hG
  have hqP : q ∉ vP.ownBlock.toList := fun hm => h.aP q (by simpa using hm) (by simp)
  have hc3 : Chg (q :: vP.ownBlock.toList) (wr.alloc (.cells (pgC o).toArray 83)) (w3.setCell ⟨q, 0, none⟩ v') := (hcg.mono (fun k hk => List.mem_cons_of_mem _ hk)).trans ((Chg.setCell w3 q 0 v').mono (fun k hk => by rw [List.mem_singleton.1 hk]; exact List.mem_cons_self))
  have hq3 : w3.heap[q]? = some (.cells (st3 vP vF rb) 39 (0, 0)) := (hcg.block q (h2.lt q (by simp)) hqP).trans h2.box
  have hne : ∀ k, v'.ownBlock = some k → k ∉ R :: q :: rb :: tft A t bt := fun k hk hm => by
    rcases hv with e | e
    · exact h.aP k (e ▸ hk) hm
    · rw [e] at hk
      have := Option.some.inj hk
      have := hl k hm
      omega
  have hbl : ∀ k, k < wr.heap.size + 1 → k ≠ q → vP.ownBlock ≠ some k → (w3.setCell ⟨q, 0, none⟩ v').heap[k]? = (wr.alloc (.cells (pgC o).toArray 83)).heap[k]? := fun k h1 h2 h3 => hc3.block k (by rw [s2]; exact h1) (fun hm => by
    rcases List.mem_cons.1 hm with e | e
    · exact h2 e
    · exact h3 (by simpa using e))
  have hfs : ∀ k ∈ q :: vP.ownBlock.toList, w.heap.size ≤ k := fun k hk => by
    rcases List.mem_cons.1 hk with rfl | hk
    · exact h.hi.2.1
    · exact (h.pg.lt k (by simpa using hk)).1
  have hft : ∀ k ∈ tft A t bt, k ∉ q :: vP.ownBlock.toList := fun k hk hm => by
    rcases List.mem_cons.1 hm with rfl | e
    · exact h.aq (by simp [hk])
    · exact h.aP k (by simpa using e) (by simp [hk])
  refine ⟨h2.g.keep hc3 hft (fun k hk => Nat.le_trans h.ww (hfs k hk)) h.pos, ?_, ?_, ?_, ?_, ?_, h.aR, h.aq, h.ab, hne, h.aF, fun k hk => ?_, h.hi, h2.turn.new hc3 hfs, h.pos, h.ww⟩
  · rw [hbl R (by have := hl R (by simp); omega) (fun e => h.aR (by simp [e])) (fun e => h.aP R e (by simp))]
    exact h2.res
  · exact (heap_setCell_same w3 q 0 _ _ v' hq3).trans rfl
  · exact own_keep hO (fun k hk => heap_setCell_other _ _ _ _ (fun e => hne k hk (by simp [e])))
  · refine own_keep h2.fr (fun k hk => hbl k (by have := (h.fr.lt k hk).2; omega) (fun e => h.aF k hk (by simp [e])) (fun e => h.pf k e hk))
  · refine own_keep h2.rt (fun k hk => ?_)
    have : k = rb := (Option.some.inj hk).symm
    subst this
    exact hbl k (by have := hl k (by simp); omega) (fun e => h.aq (by simp [← e])) (fun e => h.aP k e (by simp))
  · rcases hv with e | e
    · exact h.pf k (e ▸ hk)
    · rw [e] at hk
      have h1 := Option.some.inj hk
      intro h3
      have := (h.fr.lt k h3).2
      omega
/- a number ahead of the free ones -/
theorem SI.ahead {id : Nat} {v' : Value} {w3 : World} (h : SI W w wr A t bt K d S T tm R q rb vP vF np fl)
    (hO : w3.ownsRow w.heap.size 3 1 v' (id :: fl).length (intC (id :: fl))) (hG : (wr.alloc (.cells #[.int .i64 (id : Int)] 3)).grownBy w3 (some wr.heap.size)) (hv : v'.ownBlock = some wr.heap.size ∨ v'.ownBlock = some (wr.alloc (.cells #[.int .i64 (id : Int)] 3)).heap.size) :
    SI W w (w3.setCell ⟨q, 1, none⟩ v') A t bt K d S T tm R q rb vP v' np (id :: fl) := by
  have hl := h.lt
  have s2 : (wr.alloc (.cells #[.int .i64 (id : Int)] 3)).heap.size = wr.heap.size + 1 := by simp
  have h2 := h.below ((Below.refl _ wr).alloc (Nat.le_refl _) (.cells #[.int .i64 (id : Int)] 3))
  have hcg : Chg [wr.heap.size] (wr.alloc (.cells #[.int .i64 (id : Int)] 3)) w3 := Chg.grown hG
  have hql := hl q (by simp)
  have hc3 : Chg [q, wr.heap.size] (wr.alloc (.cells #[.int .i64 (id : Int)] 3)) (w3.setCell ⟨q, 1, none⟩ v') := (hcg.mono (fun k hk => List.mem_cons_of_mem _ hk)).trans ((Chg.setCell w3 q 1 v').mono (fun k hk => by rw [List.mem_singleton.1 hk]; exact List.mem_cons_self))
  have hq3 : w3.heap[q]? = some (.cells (st3 vP vF rb) 39 (0, 0)) := (hcg.block q (h2.lt q (by simp)) (fun hm => by have := List.mem_singleton.1 hm; omega)).trans h2.box
  have hvk : ∀ k, v'.ownBlock = some k → wr.heap.size ≤ k := fun k hk => by
    rcases hv with e | e
    · rw [e] at hk; have := Option.some.inj hk; omega
    · rw [e] at hk; have := Option.some.inj hk; omega
  have hne : ∀ k, v'.ownBlock = some k → k ∉ R :: q :: rb :: tft A t bt := fun k hk hm => by
    have := hvk k hk
    have := hl k hm
    omega
  have hbl : ∀ k, k < wr.heap.size → k ≠ q → (w3.setCell ⟨q, 1, none⟩ v').heap[k]? = (wr.alloc (.cells #[.int .i64 (id : Int)] 3)).heap[k]? := fun k h1 h2 => hc3.block k (by rw [s2]; omega) (fun hm => by
    simp at hm
    rcases hm with e | e
    · exact h2 e
    · omega)
  have hws := h.turn.chg.size
  have hfs : ∀ k ∈ [q, wr.heap.size], w.heap.size ≤ k := fun k hk => by
    simp at hk
    rcases hk with rfl | rfl
    · exact h.hi.2.1
    · exact hws
  have hft : ∀ k ∈ tft A t bt, k ∉ [q, wr.heap.size] := fun k hk hm => by
    simp at hm
    rcases hm with rfl | e
    · exact h.aq (by simp [hk])
    · have := h.g.tx.lt k hk; omega
  refine ⟨h2.g.keep hc3 hft (fun k hk => Nat.le_trans h.ww (hfs k hk)) h.pos, ?_, ?_, ?_, ?_, ?_, h.aR, h.aq, h.ab, h.aP, hne, fun k hk e => ?_, h.hi, h2.turn.new hc3 hfs, h.pos, h.ww⟩
  · rw [hbl R (hl R (by simp)) (fun e => h.aR (by simp [e]))]
    exact h2.res
  · exact (heap_setCell_same w3 q 1 _ _ v' hq3).trans rfl
  · refine own_keep h2.pg (fun k hk => hbl k (h.pg.lt k hk).2 (fun e => h.aP k hk (by simp [e])))
  · exact own_keep hO (fun k hk => heap_setCell_other _ _ _ _ (fun e => hne k hk (by simp [e])))
  · refine own_keep h2.rt (fun k hk => ?_)
    have : k = rb := (Option.some.inj hk).symm
    subst this
    exact hbl k (hl k (by simp)) (fun e => h.aq (by simp [← e]))
  · have := hvk k e
    have := (h.pg.lt k hk).2
    omega
end
/- pages taken back one by one -/
def alN (S : Pd.Ab) (cnt : Nat) : Nat → Pd.Ab
  | 0 => S
  | j + 1 => alA (alN S cnt j) cnt
theorem alN_freed (S : Pd.Ab) (cnt : Nat) : ∀ j, j ≤ S.freed.length → (alN S cnt j).freed = S.freed.take (S.freed.length - j)
  | 0, _ => by
    show S.freed = _
    rw [Nat.sub_zero, List.take_length]
  | j + 1, h => by
    have ih := alN_freed S cnt j (by omega)
    have hne : (alN S cnt j).freed ≠ [] := fun e => by
      have := congrArg List.length (ih.symm.trans e)
      rw [List.length_take] at this
      simp at this
      omega
    show (alA (alN S cnt j) cnt).freed = _
    unfold alA
    rw [if_pos (by unfold alR; rw [if_neg (fun h => hne h.1)])]
    unfold Pd.Ab.alloc
    rw [if_neg hne]
    show (alN S cnt j).freed.dropLast = _
    rw [ih, List.dropLast_eq_take, List.take_take, List.length_take]
    congr 1
    omega
theorem alN_next (S : Pd.Ab) (cnt j : Nat) (h : j < S.freed.length) : alR (alN S cnt j) cnt = 0 ∧ alI (alN S cnt j) cnt :: S.freed.drop (S.freed.length - j) = S.freed.drop (S.freed.length - (j + 1)) := by
  have ih := alN_freed S cnt j (by omega)
  have hne : (alN S cnt j).freed ≠ [] := fun e => by
    have := congrArg List.length (ih.symm.trans e)
    rw [List.length_take] at this
    simp at this
    omega
  have hR : alR (alN S cnt j) cnt = 0 := by unfold alR; rw [if_neg (fun h => hne h.1)]
  refine ⟨hR, ?_⟩
  have hI : alI (alN S cnt j) cnt = S.freed[S.freed.length - (j + 1)]'(by omega) := by
    unfold alI
    rw [if_pos hR]
    unfold Pd.Ab.allocI
    rw [if_neg hne, ih, List.getLast?_take, if_neg (by omega), show S.freed.length - j - 1 = S.freed.length - (j + 1) by omega, List.getElem?_eq_getElem (by omega)]
    rfl
  rw [hI, ← List.getElem_cons_drop (by omega : S.freed.length - (j + 1) < S.freed.length), show S.freed.length - (j + 1) + 1 = S.freed.length - j by omega]
end Go.Proofs.YtcfninpokngmlaaGreatDoor
/- Proved: what the laws' helper state tells of a database. -/
namespace Go.Proofs.YtcfninpokngmlaaGreatDoor
open Go.RowKit
/- a state in memory of the call's own -/
structure StO (w : World) (B : Nat) (vP vF vR : Value) (S : Pd.Ab) : Prop where
  pg : w.ownsRow B 83 3 vP S.pgs.length (S.pgs.flatMap pgC)
  fr : w.ownsRow B 3 1 vF S.freed.length (intC S.freed)
  rt : w.ownsRow B 3 1 vR 4 (intC [S.r0, S.r1, S.r2, S.r3])
def StPost (W w : World) (A : Ad) (K : Nat) (d : Pd.Db) (S : Pd.Ab) (e : Ending) (w' : World) : Prop :=
  ∃ vP vF vR, e = .returned (.tuple #[.agg #[vP, vF, vR], .bool true]) ∧ GD W w' A K d S ∧ StO w' w.heap.size vP vF vR S ∧ (∀ k, vP.ownBlock = some k ∨ vF.ownBlock = some k ∨ vR.ownBlock = some k → k ∉ A.ft) ∧ Turn A.ft A.ft w w'
section
variable {W w w' : World} {A : Ad} {t bt K : Nat} {d : Pd.Db} {S T : Pd.Ab} {sp : Bool} {tm : Pd.Mp}
theorem si_start {w0 w1 : World} (hT0 : Below w.heap.size w w0) (hR : w0.heap[w.heap.size]? = some (.cells nil3 39 (0, 0))) (hs0 : w0.heap.size = w.heap.size + 1) (G : GT W w1 A t bt K d S S false []) (hT : Turn A.ft (tft A t bt) w0 w1) (hlt : ∀ k ∈ A.ft, k < w.heap.size) (hp : 0 < W.heap.size) (hww : W.heap.size ≤ w.heap.size) :
    SI W w (((w1.alloc (.cells #[.int .i64 0, .string ⟨#[]⟩, .bool false] 83)).alloc (.cells #[.int .i64 (rootV S.stt 0 : Int), .int .i64 (rootV S.stt 1 : Int), .int .i64 (rootV S.stt 2 : Int), .int .i64 (rootV S.stt 3 : Int)] 3)).alloc (.cells #[.slice (some ⟨w1.heap.size, 0, none⟩) 1 1, .slice none 0 0, .slice (some ⟨w1.heap.size + 1, 0, none⟩) 4 4] 39)) A t bt K d S S [] w.heap.size (w1.heap.size + 1 + 1) (w1.heap.size + 1) (.slice (some ⟨w1.heap.size, 0, none⟩) 1 1) (.slice none 0 0) 1 [] := by
  have hs1 := hT.chg.size
  have s1 : (w1.alloc (.cells #[.int .i64 0, .string ⟨#[]⟩, .bool false] 83)).heap.size = w1.heap.size + 1 := by simp
  have s2 : ((w1.alloc (.cells #[.int .i64 0, .string ⟨#[]⟩, .bool false] 83)).alloc (.cells #[.int .i64 (rootV S.stt 0 : Int), .int .i64 (rootV S.stt 1 : Int), .int .i64 (rootV S.stt 2 : Int), .int .i64 (rootV S.stt 3 : Int)] 3)).heap.size = w1.heap.size + 1 + 1 := by simp
  have h1 := heap_alloc_new w1 (.cells #[.int .i64 0, .string ⟨#[]⟩, .bool false] 83)
  have h2 := heap_alloc_new (w1.alloc (.cells #[.int .i64 0, .string ⟨#[]⟩, .bool false] 83)) (.cells #[.int .i64 (rootV S.stt 0 : Int), .int .i64 (rootV S.stt 1 : Int), .int .i64 (rootV S.stt 2 : Int), .int .i64 (rootV S.stt 3 : Int)] 3)
  have h3 := heap_alloc_new ((w1.alloc (.cells #[.int .i64 0, .string ⟨#[]⟩, .bool false] 83)).alloc (.cells #[.int .i64 (rootV S.stt 0 : Int), .int .i64 (rootV S.stt 1 : Int), .int .i64 (rootV S.stt 2 : Int), .int .i64 (rootV S.stt 3 : Int)] 3)) (.cells #[.slice (some ⟨w1.heap.size, 0, none⟩) 1 1, .slice none 0 0, .slice (some ⟨w1.heap.size + 1, 0, none⟩) 4 4] 39)
  rw [s1] at h2
  rw [s2] at h3
  have hB : Below w1.heap.size w1 (((w1.alloc (.cells #[.int .i64 0, .string ⟨#[]⟩, .bool false] 83)).alloc (.cells #[.int .i64 (rootV S.stt 0 : Int), .int .i64 (rootV S.stt 1 : Int), .int .i64 (rootV S.stt 2 : Int), .int .i64 (rootV S.stt 3 : Int)] 3)).alloc (.cells #[.slice (some ⟨w1.heap.size, 0, none⟩) 1 1, .slice none 0 0, .slice (some ⟨w1.heap.size + 1, 0, none⟩) 4 4] 39)) := (((Below.refl _ w1).alloc (Nat.le_refl _) _).alloc (by rw [s1]; omega) _).alloc (by rw [s2]; omega) _
  have hlt1 := G.tx.lt
  have hone := G.inv.fnd.ok.one
  have htk : S.pgs.take 1 = [some Pd.page00] := by
    cases hz : S.pgs with
    | nil => rw [hz] at hone; cases hone
    | cons a l => rw [hz] at hone; cases hone; rfl
  have hRt : w.heap.size ∉ tft A t bt := fun hm => by
    rcases hT.grow _ hm with h | h
    · have := hlt _ h; omega
    · omega
  refine ⟨G.below hB, ?_, h3, ?_, ⟨rfl, .inl ⟨rfl, rfl⟩⟩, ?_, ?_, ?_, ?_, ?_, ?_, ?_, ⟨Nat.le_refl _, by omega, by omega⟩, ?_, hp, hww⟩
  · rw [hB.block _ (by omega), hT.chg.block _ (by omega) (fun hm => by have := hlt _ hm; omega)]
    exact hR
  · rw [htk]
    refine ⟨rfl, .inr ⟨w1.heap.size, 1, #[.int .i64 0, .string ⟨#[]⟩, .bool false], rfl, by omega, ?_, Nat.le_refl _, by unfold maxLen; omega, rfl, rfl⟩⟩
    rw [Below.heap_alloc _ _ _ (by rw [s2]; omega), Below.heap_alloc _ _ _ (by rw [s1]; omega)]
    exact h1
  · refine ⟨rfl, .inr ⟨w1.heap.size + 1, 4, #[.int .i64 (rootV S.stt 0 : Int), .int .i64 (rootV S.stt 1 : Int), .int .i64 (rootV S.stt 2 : Int), .int .i64 (rootV S.stt 3 : Int)], rfl, by omega, ?_, Nat.le_refl _, by unfold maxLen; omega, rfl, rfl⟩⟩
    rw [Below.heap_alloc _ _ _ (by rw [s2]; omega)]
    exact h2
  · intro hm
    simp at hm
    rcases hm with e | e | e
    · omega
    · omega
    · exact hRt e
  · intro hm
    simp at hm
    have := hlt1 _ hm; omega
  · intro hm
    have := hlt1 _ hm; omega
  · intro k hk hm
    have : k = w1.heap.size := (Option.some.inj hk).symm
    subst this
    simp at hm
    rcases hm with e | e | e
    · omega
    · omega
    · have := hlt1 _ e; omega
  · intro k hk; cases hk
  · intro k hk h; cases h
  · exact (((Turn.of_below hT0).trans hT)).trans (Turn.of_below hB)
theorem sizeRs : (Tryz.prog.info? 39).map (·.size) = some 3 := by kernel_rfl
/- behind Abort: what was told is still there -/
structure SE (W w w3 : World) (A : Ad) (K : Nat) (d : Pd.Db) (S : Pd.Ab) (q rb : Nat) (vP vF : Value) : Prop where
  gd : GD W w3 A K d S
  res : w3.heap[w.heap.size]? = some (.cells nil3 39 (0, 0))
  box : w3.heap[q]? = some (.cells (st3 vP vF rb) 39 (0, 0))
  sto : StO w3 w.heap.size vP vF (.slice (some ⟨rb, 0, none⟩) 4 4) S
  ap : ∀ k, vP.ownBlock = some k ∨ vF.ownBlock = some k ∨ rb = k → k ∉ w.heap.size :: A.ft
  aR : w.heap.size ∉ A.ft
  turn : Turn A.ft A.ft w w3
  pos : 0 < W.heap.size
  ww : W.heap.size ≤ w.heap.size
theorem si_end {wr w3 : World} {q rb : Nat} {vP vF : Value} (h : SI W w wr A t bt K d S T tm w.heap.size q rb vP vF S.pgs.length S.freed) (hG : GD W w3 A K d S) (hT : Turn (tft A t bt) A.ft wr w3) : SE W w w3 A K d S q rb vP vF := by
  have hb : ∀ k, k < wr.heap.size → k ∉ tft A t bt → w3.heap[k]? = wr.heap[k]? := fun k h1 h2 => hT.chg.block k h1 h2
  have hpg := h.pg
  rw [List.take_length] at hpg
  have hRt : w.heap.size ∉ tft A t bt := fun hm => h.aR (by simp [hm])
  refine ⟨hG, (hb _ (h.lt _ (by simp)) hRt).trans h.res, (hb q (h.lt q (by simp)) (fun hm => h.aq (by simp [hm]))).trans h.box, ⟨own_keep hpg (fun k hk => hb k (hpg.lt k hk).2 (fun hm => h.aP k hk (by simp [hm]))), own_keep h.fr (fun k hk => hb k (h.fr.lt k hk).2 (fun hm => h.aF k hk (by simp [hm]))), own_keep h.rt (fun k hk => ?_)⟩, fun k hk hm => ?_, fun hm => hRt (tft_a hm), h.turn.trans hT, h.pos, h.ww⟩
  · have : k = rb := (Option.some.inj hk).symm
    subst this
    exact hb k (h.lt k (by simp)) h.ab
  · have hm2 : k = w.heap.size ∨ k ∈ tft A t bt := by
      rcases List.mem_cons.1 hm with e | e
      · exact .inl e
      · exact .inr (tft_a e)
    rcases hk with e | e | e
    · exact h.aP k e (by rcases hm2 with e2 | e2 <;> simp [e2])
    · exact h.aF k e (by rcases hm2 with e2 | e2 <;> simp [e2])
    · subst e
      rcases hm2 with e2 | e2
      · exact h.aR (by simp [e2])
      · exact h.ab e2
def fin3 (w w3 : World) (vP vF : Value) (rb : Nat) : World := ((w3.setCell ⟨w.heap.size, 0, none⟩ vP).setCell ⟨w.heap.size, 1, none⟩ vF).setCell ⟨w.heap.size, 2, none⟩ (.slice (some ⟨rb, 0, none⟩) 4 4)
theorem fin3_row {w3 : World} {q rb : Nat} {vP vF : Value} (h : SE W w w3 A K d S q rb vP vF) : (fin3 w w3 vP vF rb).heap[w.heap.size]? = some (.cells #[vP, vF, .slice (some ⟨rb, 0, none⟩) 4 4] 39 (0, 0)) := by
  have h1 := heap_setCell_same w3 w.heap.size 0 _ _ vP h.res
  have h2 := heap_setCell_same _ w.heap.size 1 _ _ vF h1
  have h3 := heap_setCell_same _ w.heap.size 2 _ _ (.slice (some ⟨rb, 0, none⟩) 4 4) h2
  exact h3.trans rfl
theorem SE.finrow {w3 : World} {q rb : Nat} {vP vF : Value} (h : SE W w w3 A K d S q rb vP vF) : (((w3.setCell ⟨w.heap.size, 0, none⟩ vP).setCell ⟨w.heap.size, 1, none⟩ vF).setCell ⟨w.heap.size, 2, none⟩ (.slice (some ⟨rb, 0, none⟩) 4 4)).heap[w.heap.size]? = some (.cells #[vP, vF, .slice (some ⟨rb, 0, none⟩) 4 4] 39 (0, 0)) := fin3_row h
theorem SE.fin {w3 : World} {q rb : Nat} {vP vF : Value} (h : SE W w w3 A K d S q rb vP vF) : StPost W w A K d S (.returned (.tuple #[.agg #[vP, vF, .slice (some ⟨rb, 0, none⟩) 4 4], .bool true])) (((w3.setCell ⟨w.heap.size, 0, none⟩ vP).setCell ⟨w.heap.size, 1, none⟩ vF).setCell ⟨w.heap.size, 2, none⟩ (.slice (some ⟨rb, 0, none⟩) 4 4)) := by
  have hc : Chg [w.heap.size] w3 (((w3.setCell ⟨w.heap.size, 0, none⟩ vP).setCell ⟨w.heap.size, 1, none⟩ vF).setCell ⟨w.heap.size, 2, none⟩ (.slice (some ⟨rb, 0, none⟩) 4 4)) := ((Chg.setCell _ _ _ _).trans (Chg.setCell _ _ _ _)).trans (Chg.setCell _ _ _ _)
  have hlt : ∀ k ∈ [w.heap.size], w.heap.size ≤ k := fun k hk => by rw [List.mem_singleton.1 hk]; exact Nat.le_refl _
  have hb : ∀ k, k < w3.heap.size → k ≠ w.heap.size → (((w3.setCell ⟨w.heap.size, 0, none⟩ vP).setCell ⟨w.heap.size, 1, none⟩ vF).setCell ⟨w.heap.size, 2, none⟩ (.slice (some ⟨rb, 0, none⟩) 4 4)).heap[k]? = w3.heap[k]? := fun k h1 h2 => hc.block k h1 (fun hm => h2 (List.mem_singleton.1 hm))
  refine ⟨vP, vF, _, rfl, ⟨h.gd.db.keep hc (fun k hk hm => h.aR (by rw [← List.mem_singleton.1 hm]; exact hk)) (fun hm => by have := List.mem_singleton.1 hm; have := h.pos; have := h.ww; omega), h.gd.inv, h.gd.bel.trans (hc.below (fun k hk => Nat.le_trans h.ww (hlt k hk)) h.gd.bel.size), h.gd.new⟩, ⟨own_keep h.sto.pg (fun k hk => hb k (h.sto.pg.lt k hk).2 (fun e => h.ap k (.inl hk) (by simp [e]))), own_keep h.sto.fr (fun k hk => hb k (h.sto.fr.lt k hk).2 (fun e => h.ap k (.inr (.inl hk)) (by simp [e]))), own_keep h.sto.rt (fun k hk => hb k (h.sto.rt.lt k hk).2 (fun e => h.ap k (.inr (.inr (Option.some.inj hk))) (by simp [e])))⟩, fun k hk hm => ?_, h.turn.new hc hlt⟩
  refine h.ap k ?_ (List.mem_cons_of_mem _ hm)
  rcases hk with e | e | e
  · exact .inl e
  · exact .inr (.inl e)
  · exact .inr (.inr (Option.some.inj e))
theorem results_sta {fn : Func} {p u : Tmp} (h : fn.results = #[.cell p 39, .tmp u]) (tmps : Array Value) (w : World) (g t : Nat) (x y z v : Value) (hp : tmps.getD p undef = .pointer (some ⟨g, 0, none⟩)) (hv : tmps.getD u undef = v) (hg : w.heap[g]? = some (.cells #[x, y, z] t (0, 0))) :
    (results fn tmps).run Tryz.prog w = .ok (.tuple #[.agg #[x, y, z], v]) w := by
  have hp' : tmps[p]?.getD undef = .pointer (some ⟨g, 0, none⟩) := by simpa using hp
  have hv' : tmps[u]?.getD undef = v := by simpa using hv
  simp [results, h, hp', hv', asAddr, run_loadVar_row w g t 39 #[x, y, z] (0, 0) _ hg Tryz.underlying39 rfl sizeRs]
/- what Read tells of a page -/
theorem read_pg {o : Option Pd.Sheet} {j : Nat} (hk : S.Ok d.cnt) (h1 : 1 ≤ j) (ho : S.pgs[j]? = some o) : ∃ (kd : Nat) (b : ByteArray) (E : Int), thereR S.pgs.length (j : Int) (S.sh j) = (⟨kd, b⟩, E) ∧ (E = 0 ∧ pgC o = [.int .i64 (kd : Int), .string b, .bool false] ∨ E = 8 ∧ pgC o = [.int .i64 (kd : Int), .string b, .bool true]) := by
  have hl := (List.getElem?_eq_some_iff.1 ho).1
  unfold thereR
  rw [if_neg (by omega)]
  cases o with
  | none =>
    rw [Pd.Ab.sh_free h1 ho, if_pos (show (Pd.freeSheet (Pd.prev S.freed j)).kind = 255 from rfl)]
    exact ⟨0, ⟨#[]⟩, 8, rfl, .inr ⟨rfl, rfl⟩⟩
  | some x =>
    obtain ⟨e, hne⟩ := Pd.Ab.sh_there hk h1 ho
    rw [e, if_neg hne]
    exact ⟨x.kind, x.body, 0, rfl, .inl ⟨rfl, rfl⟩⟩
set_option maxHeartbeats 8000000 in
set_option maxRecDepth 20000 in
theorem state_any (G : GD W w A K d S) (hp : 0 < W.heap.size) :
    Calls Tryz.prog 18 #[ptr A.x] w (StPost W w A K d S) := by
  have HG : Hid (GD W w A K d S) := G
  have hcn := G.inv.n2.2.2
  have hmo := G.inv.fnd.ok.most
  have hfl := G.inv.fnd.ok.free_lt
  have hsh : d.st.high = S.pgs.length := by rw [G.inv.st]; rfl
  have hsf : d.st.free = S.freed.length := by rw [G.inv.st]; rfl
  have HSH : Hid (d.st.high = S.pgs.length ∧ d.st.free = S.freed.length) := ⟨hsh, hsf⟩
  have HOK : Hid (S.Ok d.cnt) := G.inv.fnd.ok
  clear G hsh hsf
  unfold ptr
  go_enter Tryz.func18, Tryz.ntmps18
  go_wp2_with fail
  have HB0 : Hid (Below w.heap.size w (w.alloc (.cells #[.slice none 0 0, .slice none 0 0, .slice none 0 0] 39))) := (Below.refl _ _).alloc (Nat.le_refl _) _
  have HR0 : Hid ((w.alloc (.cells #[.slice none 0 0, .slice none 0 0, .slice none 0 0] 39)).heap[w.heap.size]? = some (.cells nil3 39 (0, 0))) := heap_alloc_new w _
  have HS0 : Hid ((w.alloc (.cells #[.slice none 0 0, .slice none 0 0, .slice none 0 0] 39)).heap.size = w.heap.size + 1) := by show _ = _; simp
  have HBE := gbegin (HG.out.below HB0.out)
  unfold ptr at HBE
  refine HBE.mono ?_
  rintro e w1 ⟨t, bt, rfl, hG1, hT1⟩
  have HG1 : Hid (GT W w1 A t bt K d S S false []) := hG1
  have HSI := (show Hid _ from si_start HB0.out HR0.out HS0.out hG1 hT1 HG.out.db.lt hp HG.out.bel.size)
  clear hT1 hG1 HBE HB0 HR0 HS0
  have HBP : Hid (Below w1.heap.size w1 (w1.alloc (.cells #[.int .i64 0, .string ⟨#[]⟩, .bool false] 83))) := (Below.refl _ _).alloc (Nat.le_refl _) _
  have HRT : Hid (∀ i : Int, Calls Tryz.prog 16 #[.pointer (some ⟨t, 0, none⟩), .int .i64 i] (w1.alloc (.cells #[.int .i64 0, .string ⟨#[]⟩, .bool false] 83)) fun e w' => e = .returned (.int .i64 (rootV S.stt i : Int)) ∧ w' = (w1.alloc (.cells #[.int .i64 0, .string ⟨#[]⟩, .bool false] 83))) := fun i => groot i (HG1.out.below HBP.out)
  go_wp2_with (go_at_call 16; refine (HRT.out _).mono ?_; rintro e wS ⟨rfl, hwS⟩; rw [hwS]; clear hwS wS)
  clear HRT HBP HG1 HG
  generalize World.alloc (World.alloc (World.alloc w1 _) _) _ = w2 at *
  generalize (.slice (some ⟨w1.heap.size, 0, none⟩) 1 1 : Value) = vP0 at *
  generalize w1.heap.size + 1 + 1 = q at *
  generalize w1.heap.size + 1 = rb at *
  go_loopw [7, 8, 9, 10] (fun s7 _ _ _ wr => ∃ (j : Nat) (vP : Value), 1 ≤ j ∧ j ≤ S.pgs.length ∧ s7 = .int .i64 (j : Int) ∧ SI W w wr A t bt K d S S [] w.heap.size q rb vP (.slice none 0 0) j []) (fun s7 _ _ _ _ => S.pgs.length - (intOf s7).toNat)
  case atStart => exact ⟨1, vP0, by omega, by omega, rfl, HSI.out⟩
  case round =>
    clear HSI
    obtain ⟨j, vP, hj1, hj, rfl, hI⟩ := hrel
    have HI : Hid (SI W w wr A t bt K d S S [] w.heap.size q rb vP (.slice none 0 0) j []) := hI
    clear hI
    have HHI := dhigh_any (A := A) (op := ptr t) (d := d) (w := wr) HI.out.g.tx.db
    rw [HSH.out.1] at HHI
    unfold ptr at HHI
    by_cases hjl : j < S.pgs.length
    · have dk : decide ((j : Int) < (S.pgs.length : Int)) = true := decide_eq_true (by omega)
      obtain ⟨o, ho⟩ : ∃ o, S.pgs[j]? = some o := ⟨_, List.getElem?_eq_getElem hjl⟩
      obtain ⟨kd, b, E, hth, hor⟩ := read_pg (d := d) HOK.out hj1 ho
      have HRD := gread (j : Int) HI.out.g
      rw [Int.toNat_natCast, hth] at HRD
      unfold ptr at HRD
      clear hth
      have HO : Hid (S.pgs[j]? = some o) := ho
      clear ho
      go_wp2_with (go_at_call 12; refine HHI.mono ?_; rintro e wS ⟨rfl, hwS⟩; rw [hwS]; clear hwS wS)
      refine HRD.mono ?_
      rintro e w3 ⟨rfl, hB3⟩
      have HI3 : Hid (SI W w w3 A t bt K d S S [] w.heap.size q rb vP (.slice none 0 0) j []) := HI.out.below hB3
      clear hB3 HRD HHI HI
      rcases hor with ⟨rfl, hpc⟩ | ⟨rfl, hpc⟩
      · have c0 : w3.cell? ⟨q, 0, none⟩ = some vP := (cell_of_row w3 q 0 _ _ (0, 0) HI3.out.box).trans rfl
        have hpo := HI3.out.pg
        obtain ⟨v', w4, hr, hO4, hg4, hv4⟩ := app_pg (w3.alloc (.cells (pgC o).toArray 83)) w.heap.size vP (S.pgs.take j) o w3.heap.size (own_alloc hpo _) (by rw [List.length_take]; omega) (by have := HI3.out.turn.chg.size; simp; omega) (heap_alloc_new _ _)
        obtain ⟨ad4, cp4, hve⟩ := own_slice hO4
        rw [hve] at hO4 hv4 hr
        have HFN : Hid (SI W w (w4.setCell ⟨q, 0, none⟩ (.slice ad4 (S.pgs.take j ++ [o]).length cp4)) A t bt K d S S [] w.heap.size q rb (.slice ad4 (S.pgs.take j ++ [o]).length cp4) (.slice none 0 0) (j + 1) []) := HI3.out.page HO.out hO4 hg4 hv4
        have hq4 : w4.heap[q]? = some (.cells (st3 vP (.slice none 0 0) rb) 39 (0, 0)) := by
          rw [hg4.block q (by have := HI3.out.lt q (by simp); simp; omega) (fun e => HI3.out.aP q e.symm (by simp)), Below.heap_alloc _ _ _ (HI3.out.lt q (by simp))]
          exact HI3.out.box
        have c4 : w4.cell? ⟨q, 0, none⟩ = some vP := (cell_of_row w4 q 0 _ _ (0, 0) hq4).trans rfl
        have z4 : w4.frozen? ⟨q, 0, none⟩ = false := frozen_of_row w4 q 0 _ _ hq4
        rw [hpc] at hr
        have HR4 := (show Hid _ from hr)
        clear hO4 hg4 hv4 hq4 hpo HI3 hpc hr hve
        generalize (S.pgs.take j ++ [o]).length = ln4 at *
        go_wp2_with (at_builtin; refine wpList_run_append rfl _ _ 36 rfl _ _ _ w4 rfl rfl HR4.out ?_)
        go_roundw
        case rel => exact ⟨j + 1, _, by omega, by omega, by go_num, HFN.out⟩
        case measure => (simp [intOf]) <;> omega
      · have c0 : w3.cell? ⟨q, 0, none⟩ = some vP := (cell_of_row w3 q 0 _ _ (0, 0) HI3.out.box).trans rfl
        have hpo := HI3.out.pg
        obtain ⟨v', w4, hr, hO4, hg4, hv4⟩ := app_pg (w3.alloc (.cells (pgC o).toArray 83)) w.heap.size vP (S.pgs.take j) o w3.heap.size (own_alloc hpo _) (by rw [List.length_take]; omega) (by have := HI3.out.turn.chg.size; simp; omega) (heap_alloc_new _ _)
        obtain ⟨ad4, cp4, hve⟩ := own_slice hO4
        rw [hve] at hO4 hv4 hr
        have HFN : Hid (SI W w (w4.setCell ⟨q, 0, none⟩ (.slice ad4 (S.pgs.take j ++ [o]).length cp4)) A t bt K d S S [] w.heap.size q rb (.slice ad4 (S.pgs.take j ++ [o]).length cp4) (.slice none 0 0) (j + 1) []) := HI3.out.page HO.out hO4 hg4 hv4
        have hq4 : w4.heap[q]? = some (.cells (st3 vP (.slice none 0 0) rb) 39 (0, 0)) := by
          rw [hg4.block q (by have := HI3.out.lt q (by simp); simp; omega) (fun e => HI3.out.aP q e.symm (by simp)), Below.heap_alloc _ _ _ (HI3.out.lt q (by simp))]
          exact HI3.out.box
        have c4 : w4.cell? ⟨q, 0, none⟩ = some vP := (cell_of_row w4 q 0 _ _ (0, 0) hq4).trans rfl
        have z4 : w4.frozen? ⟨q, 0, none⟩ = false := frozen_of_row w4 q 0 _ _ hq4
        rw [hpc] at hr
        have HR4 := (show Hid _ from hr)
        clear hO4 hg4 hv4 hq4 hpo HI3 hpc hr hve
        generalize (S.pgs.take j ++ [o]).length = ln4 at *
        go_wp2_with (at_builtin; refine wpList_run_append rfl _ _ 36 rfl _ _ _ w4 rfl rfl HR4.out ?_)
        go_roundw
        case rel => exact ⟨j + 1, _, by omega, by omega, by go_num, HFN.out⟩
        case measure => (simp [intOf]) <;> omega
    · have dk : decide ((j : Int) < (S.pgs.length : Int)) = false := decide_eq_false (by omega)
      have hjj : j = S.pgs.length := by omega
      have HI2 : Hid (SI W w wr A t bt K d S S [] w.heap.size q rb vP (.slice none 0 0) S.pgs.length []) := by rw [← hjj]; exact HI.out
      have HFR := dfree_any (A := A) (op := ptr t) (d := d) (w := wr) HI.out.g.tx.db
      rw [HSH.out.2] at HFR
      unfold ptr at HFR
      clear hjj hj hj1 HI
      go_wp2_with (first | (go_at_call 12; refine HHI.mono ?_; rintro e wS ⟨rfl, hwS⟩; rw [hwS]; clear hwS wS) | (go_at_call 13; refine HFR.mono ?_; rintro e wS ⟨rfl, hwS⟩; rw [hwS]; clear hwS wS))
      clear HHI HFR dk hjl
      go_loopw [11, 12, 69] (fun _ _ s69 wr => ∃ (i : Nat) (tm : Pd.Mp) (vF : Value), i ≤ S.freed.length ∧ s69 = .int .i64 (i : Int) ∧ SI W w wr A t bt K d S (alN S d.cnt i) tm w.heap.size q rb vP vF S.pgs.length (S.freed.drop (S.freed.length - i))) (fun _ _ s69 _ => S.freed.length - (intOf s69).toNat)
      case atStart => exact ⟨0, [], .slice none 0 0, by omega, rfl, by rw [Nat.sub_zero, List.drop_length]; exact HI2.out⟩
      case round =>
        clear HI2
        obtain ⟨i, tm, vF, hi, rfl, hI⟩ := hrel
        have HI : Hid (SI W w wr A t bt K d S (alN S d.cnt i) tm w.heap.size q rb vP vF S.pgs.length (S.freed.drop (S.freed.length - i))) := hI
        clear hI
        by_cases hil : i < S.freed.length
        · have dk : decide ((i : Int) < (S.freed.length : Int)) = true := decide_eq_true (by omega)
          obtain ⟨hR, hN⟩ := alN_next S d.cnt i hil
          have HA := galloc HI.out.g
          rw [hR] at HA
          unfold ptr at HA
          have HN : Hid (alI (alN S d.cnt i) d.cnt :: S.freed.drop (S.freed.length - i) = S.freed.drop (S.freed.length - (i + 1))) := hN
          clear hN hR
          go_wp2_with fail
          refine HA.mono ?_
          rintro e w3 ⟨rfl, hG3, hT3⟩
          have HI3 := (show Hid (SI W w w3 A t bt K d S (alN S d.cnt (i + 1)) _ w.heap.size q rb vP vF S.pgs.length (S.freed.drop (S.freed.length - i))) from HI.out.step hT3 hG3)
          clear hG3 hT3 HA HI
          generalize alM (alN S d.cnt i) tm d.cnt = tm3 at *
          generalize alI (alN S d.cnt i) d.cnt = id at *
          have c1 : (w3.alloc (.cells #[.int .i64 (id : Int)] 3)).cell? ⟨q, 1, none⟩ = some vF := by
            rw [World.cell?_of_block (Below.heap_alloc _ _ _ (HI3.out.lt q (by simp)))]
            exact (cell_of_row w3 q 1 _ _ (0, 0) HI3.out.box).trans rfl
          have hpo := HI3.out.fr
          obtain ⟨v', w4, hr, hO4, hg4, hv4⟩ := app_int (w3.alloc (.cells #[.int .i64 (id : Int)] 3)) w.heap.size vF (S.freed.drop (S.freed.length - i)) id w3.heap.size (own_alloc hpo _) (by rw [List.length_drop]; omega) (by have := HI3.out.turn.chg.size; omega) (by have := HI3.out.turn.chg.size; simp; omega) (heap_alloc_new _ _)
          obtain ⟨ad4, cp4, hve⟩ := own_slice hO4
          rw [hve] at hO4 hv4 hr
          have HFN : Hid (SI W w (w4.setCell ⟨q, 1, none⟩ (.slice ad4 (id :: S.freed.drop (S.freed.length - i)).length cp4)) A t bt K d S (alN S d.cnt (i + 1)) tm3 w.heap.size q rb vP (.slice ad4 (id :: S.freed.drop (S.freed.length - i)).length cp4) S.pgs.length (S.freed.drop (S.freed.length - (i + 1)))) := (by rw [← HN.out]; exact HI3.out.ahead hO4 hg4 hv4)
          have hq4 : w4.heap[q]? = some (.cells (st3 vP vF rb) 39 (0, 0)) := by
            have hql := HI3.out.lt q (by simp)
            rw [hg4.block q (by simp; omega) (fun e => by have := Option.some.inj e; omega), Below.heap_alloc _ _ _ hql]
            exact HI3.out.box
          have c4 : w4.cell? ⟨q, 1, none⟩ = some vF := (cell_of_row w4 q 1 _ _ (0, 0) hq4).trans rfl
          have z4 : w4.frozen? ⟨q, 1, none⟩ = false := frozen_of_row w4 q 1 _ _ hq4
          have HR4 := (show Hid _ from hr)
          clear hO4 hg4 hv4 hq4 hpo HI3 HN hr hve
          generalize (id :: S.freed.drop (S.freed.length - i)).length = ln4 at *
          go_wp2_with (at_builtin; refine wpList_run_append rfl _ _ 37 rfl _ _ _ w4 rfl rfl HR4.out ?_)
          go_roundw
          case rel => exact ⟨i + 1, tm3, _, by omega, by go_num, HFN.out⟩
          case measure => (simp [intOf]) <;> omega
        · have dk : decide ((i : Int) < (S.freed.length : Int)) = false := decide_eq_false (by omega)
          have hii : i = S.freed.length := by omega
          have HI2 : Hid (SI W w wr A t bt K d S (alN S d.cnt i) tm w.heap.size q rb vP vF S.pgs.length S.freed) := by
            have := HI.out
            rw [show S.freed.length - i = 0 by omega, List.drop_zero] at this
            exact this
          clear HI hii hi
          obtain ⟨aP, cP, hvP⟩ := own_slice HI2.out.pg
          obtain ⟨aF, cF, hvF⟩ := own_slice HI2.out.fr
          rw [hvP, hvF] at HI2
          generalize (S.pgs.take S.pgs.length).length = nP at *
          generalize hnf : S.freed.length = nF at HI2
          clear hvP hvF
          have HAB := gabort HI2.out.g
          unfold ptr at HAB
          go_wp2_with fail
          refine HAB.mono ?_
          rintro e w3 ⟨rfl, hG3, hE3, hT3⟩
          have HE := (show Hid _ from si_end HI2.out hG3 hT3)
          clear hG3 hE3 hT3 HAB HI2 hnf
          have c0 : w3.cell? ⟨q, 0, none⟩ = some (.slice aP nP cP) := (cell_of_row w3 q 0 _ _ (0, 0) HE.out.box).trans rfl
          have c1 : w3.cell? ⟨q, 1, none⟩ = some (.slice aF nF cF) := (cell_of_row w3 q 1 _ _ (0, 0) HE.out.box).trans rfl
          have c2 : w3.cell? ⟨q, 2, none⟩ = some (.slice (some ⟨rb, 0, none⟩) 4 4) := (cell_of_row w3 q 2 _ _ (0, 0) HE.out.box).trans rfl
          have r0 : w3.cell? ⟨w.heap.size, 0, none⟩ = some (.slice none 0 0) := (cell_of_row w3 _ 0 _ _ (0, 0) HE.out.res).trans rfl
          have r1 : w3.cell? ⟨w.heap.size, 1, none⟩ = some (.slice none 0 0) := (cell_of_row w3 _ 1 _ _ (0, 0) HE.out.res).trans rfl
          have r2 : w3.cell? ⟨w.heap.size, 2, none⟩ = some (.slice none 0 0) := (cell_of_row w3 _ 2 _ _ (0, 0) HE.out.res).trans rfl
          have z0 : ∀ i, w3.frozen? ⟨w.heap.size, i, none⟩ = false := fun i => frozen_of_row w3 _ i _ _ HE.out.res
          have HF := (show Hid _ from HE.out.fin)
          have HRW := (show Hid _ from HE.out.finrow)
          go_wp2
          refine bodyPost_ret (results_sta Tryz.results18 _ _ w.heap.size 39 _ _ _ _ rfl rfl HRW.out) rfl ?_
          exact HF.out
end
end Go.Proofs.YtcfninpokngmlaaGreatDoor
/- Proved: PagedbStays' walk. -/
namespace Go.Proofs.YtcfninpokngmlaaGreatDoor
open Go.RowKit
def txtM : ByteArray := ⟨#[109, 105, 110, 101]⟩
theorem flat3 : ∀ (l : List (Option Pd.Sheet)) (j : Nat) (o : Option Pd.Sheet) (i : Nat) (u : Value), l[j]? = some o → (pgC o)[i]? = some u → (l.flatMap pgC)[j * 3 + i]? = some u
  | [], _, _, _, _, h, _ => by simp at h
  | a :: l, 0, o, i, u, h, hi => by
    have e : a = o := by simpa using h
    subst e
    rw [List.flatMap_cons, Nat.zero_mul, Nat.zero_add, List.getElem?_append_left (List.getElem?_eq_some_iff.1 hi).1]
    exact hi
  | a :: l, j + 1, o, i, u, h, hi => by
    have h' : l[j]? = some o := by simpa using h
    have ih := flat3 l j o i u h' hi
    rw [List.flatMap_cons, List.getElem?_append_right (by rw [pgC_length]; omega), pgC_length, show (j + 1) * 3 + i - 3 = j * 3 + i by omega]
    exact ih
/- the cells of a page that was told -/
theorem pg_cells {w : World} {B : Nat} {vP : Value} {l : List (Option Pd.Sheet)} (h : w.ownsRow B 83 3 vP l.length (l.flatMap pgC)) (h0 : 0 < l.length) : ∃ g cap, vP = .slice (some ⟨g, 0, none⟩) l.length cap ∧ l.length ≤ cap ∧ B ≤ g ∧ g < w.heap.size ∧ ∀ (j : Nat) (o : Option Pd.Sheet) (i : Nat) (u : Value), l[j]? = some o → (pgC o)[i]? = some u → w.cell? ⟨g, j * 3 + i, none⟩ = some u := by
  rcases h.2 with ⟨_, h1⟩ | ⟨g, cap, cur, rfl, hg, hb, h1, h2, h3, h4⟩
  · omega
  · refine ⟨g, cap, rfl, h1, hg, (Array.getElem?_eq_some_iff.1 hb).1, fun j o i u hj hi => ?_⟩
    have hi3 : i < 3 := by have := (List.getElem?_eq_some_iff.1 hi).1; rw [pgC_length] at this; exact this
    have hjl := (List.getElem?_eq_some_iff.1 hj).1
    have hfm : (l.flatMap pgC)[j * 3 + i]? = some u := flat3 l j o i u hj hi
    rw [← h4, List.getElem?_take_of_lt (by omega)] at hfm
    rw [cell_of_row w g _ _ _ (0, 0) hb, ← Array.getElem?_toList]
    exact hfm
theorem InB.up {W W' : World} {a : Option Addr} {len : Nat} {m : Nat → Bool} (h : InB W a len m) (hB : Below W.heap.size W W') : InB W' a len m := by
  rcases h with h | ⟨b, off, h1, h2⟩
  · exact .inl h
  · exact .inr ⟨b, off, h1, fun i hi => (hB.cell (p := ⟨b, off + i, none⟩) (block_lt_of_cell (h2 i hi))).trans (h2 i hi)⟩
theorem Acts.up {W W' : World} {a : Option Addr} {len : Nat} (h : Acts W a len) (hB : Below W.heap.size W W') : Acts W' a len := by
  rcases h with h | ⟨b, off, h1, h2⟩
  · exact .inl h
  · refine .inr ⟨b, off, h1, fun i hi => ?_⟩
    obtain ⟨x, hx, hr⟩ := h2 i hi
    refine ⟨x, ⟨hx.kind, hx.id, hx.kd, hx.s, hx.kl, hx.kc, hx.ks.up hB⟩, fun j u hj => ?_⟩
    have h3 := hr j u hj
    exact (hB.cell (block_lt_of_cell h3)).trans h3
/- a state that was told, in a box, beside a transaction -/
structure Was (wr : World) (fs : List Nat) (u g cap : Nat) (vF vR : Value) (S : Pd.Ab) : Prop where
  box : wr.heap[u]? = some (.cells #[.slice (some ⟨g, 0, none⟩) S.pgs.length cap, vF, vR] 39 (0, 0))
  row : wr.ownsRow 0 83 3 (.slice (some ⟨g, 0, none⟩) S.pgs.length cap) S.pgs.length (S.pgs.flatMap pgC)
  au : u ∉ fs
  ag : g ∉ fs
theorem Was.step {wr w' : World} {fs : List Nat} {u g cap : Nat} {vF vR : Value} {S : Pd.Ab} (h : Was wr fs u g cap vF vR S) (hC : Chg fs wr w') : Was w' fs u g cap vF vR S := by
  refine ⟨(hC.block u (Array.getElem?_eq_some_iff.1 h.box).1 h.au).trans h.box, own_keep h.row (fun k hk => ?_), h.au, h.ag⟩
  have : k = g := (Option.some.inj hk).symm
  subst this
  exact hC.block k (h.row.lt k rfl).2 h.ag
theorem Was.cells {wr : World} {fs : List Nat} {u g cap : Nat} {vF vR : Value} {S : Pd.Ab} (h : Was wr fs u g cap vF vR S) (h0 : 0 < S.pgs.length) (j : Nat) (o : Option Pd.Sheet) (hj : S.pgs[j]? = some o) (i : Nat) (x : Value) (hi : (pgC o)[i]? = some x) : wr.cell? ⟨g, j * 3 + i, none⟩ = some x := by
  obtain ⟨g', cap', e, _, _, _, hc⟩ := pg_cells h.row h0
  cases e
  exact hc j o i x hj hi
theorem Was.c0 {wr : World} {fs : List Nat} {u g cap : Nat} {vF vR : Value} {S : Pd.Ab} (h : Was wr fs u g cap vF vR S) : wr.cell? ⟨u, 0, none⟩ = some (.slice (some ⟨g, 0, none⟩) S.pgs.length cap) := (cell_of_row wr u 0 _ _ (0, 0) h.box).trans rfl
end Go.Proofs.YtcfninpokngmlaaGreatDoor
/- Proved: what the document's comparison of two states answers (the document's Same; stage 10). -/
namespace Go.Proofs.YtcfninpokngmlaaGreatDoor
open Go.RowKit
theorem int_cells {w : World} {B : Nat} {v : Value} {l : List Nat} {n : Nat} (h : w.ownsRow B 3 1 v n (intC l)) (hn : n = l.length) (h0 : 0 < n) : ∃ g cap, v = .slice (some ⟨g, 0, none⟩) n cap ∧ n ≤ cap ∧ B ≤ g ∧ g < w.heap.size ∧ ∀ (j x : Nat), l[j]? = some x → w.cell? ⟨g, j, none⟩ = some (.int .i64 (x : Int)) := by
  rcases h.2 with ⟨_, h1⟩ | ⟨g, cap, cur, rfl, hg, hb, h1, h2, h3, h4⟩
  · omega
  · refine ⟨g, cap, rfl, h1, hg, (Array.getElem?_eq_some_iff.1 hb).1, fun j x hj => ?_⟩
    have hjl := (List.getElem?_eq_some_iff.1 hj).1
    have hfm : (intC l)[j]? = some (.int .i64 (x : Int)) := by
      show (l.map _)[j]? = _
      rw [List.getElem?_map, hj]
      rfl
    rw [← h4, List.getElem?_take_of_lt (by omega)] at hfm
    rw [cell_of_row w g _ _ _ (0, 0) hb, ← Array.getElem?_toList]
    exact hfm
/- a page's three cells -/
theorem pgC_three (o : Option Pd.Sheet) : ∃ (k : Nat) (b : ByteArray) (f : Bool), pgC o = [.int .i64 (k : Int), .string b, .bool f] := by
  cases o with
  | none => exact ⟨0, ⟨#[]⟩, true, rfl⟩
  | some x => exact ⟨x.kind, x.body, false, rfl⟩
/- two boxes of states -/
structure Two (w w2 : World) (a b : Nat) (p p' : Value) (f f' r r' : Value) (S S' : Pd.Ab) : Prop where
  bel : Below w.heap.size w w2
  ca : w2.heap[a]? = some (.cells #[p, f, r] 39 (0, 0))
  cb : w2.heap[b]? = some (.cells #[p', f', r'] 39 (0, 0))
  sa : StO w2 0 p f r S
  sb : StO w2 0 p' f' r' S'
theorem StO.below {w w' : World} {B : Nat} {p f r : Value} {S : Pd.Ab} (h : StO w B p f r S) (hB : Below w.heap.size w w') : StO w' B p f r S := ⟨own_below h.pg hB, own_below h.fr hB, own_below h.rt hB⟩
theorem StO.zero {w : World} {B : Nat} {p f r : Value} {S : Pd.Ab} (h : StO w B p f r S) : StO w 0 p f r S := ⟨own_zero h.pg, own_zero h.fr, own_zero h.rt⟩
theorem two_start {w : World} {B B' : Nat} {p p' f f' r r' : Value} {S S' : Pd.Ab} (h : StO w B p f r S) (h' : StO w B' p' f' r' S') : Two w ((w.alloc (.cells #[p, f, r] 39)).alloc (.cells #[p', f', r'] 39)) w.heap.size (w.heap.size + 1) p p' f f' r r' S S' := by
  have s1 : (w.alloc (.cells #[p, f, r] 39)).heap.size = w.heap.size + 1 := by simp
  have hB : Below w.heap.size w ((w.alloc (.cells #[p, f, r] 39)).alloc (.cells #[p', f', r'] 39)) := ((Below.refl _ w).alloc (Nat.le_refl _) _).alloc (by rw [s1]; omega) _
  have h1 := heap_alloc_new w (.cells #[p, f, r] 39)
  have h2 := heap_alloc_new (w.alloc (.cells #[p, f, r] 39)) (.cells #[p', f', r'] 39)
  rw [s1] at h2
  refine ⟨hB, ?_, h2, (h.below hB).zero, (h'.below hB).zero⟩
  rw [Below.heap_alloc _ _ _ (by rw [s1]; omega)]
  exact h1
theorem Two.cells {w w2 : World} {a b : Nat} {p p' f f' r r' : Value} {S S' : Pd.Ab} (h : Two w w2 a b p p' f f' r r' S S') : (w2.cell? ⟨a, 0, none⟩ = some p ∧ w2.cell? ⟨a, 1, none⟩ = some f ∧ w2.cell? ⟨a, 2, none⟩ = some r) ∧ (w2.cell? ⟨b, 0, none⟩ = some p' ∧ w2.cell? ⟨b, 1, none⟩ = some f' ∧ w2.cell? ⟨b, 2, none⟩ = some r') :=
  ⟨⟨(cell_of_row w2 a 0 _ _ (0, 0) h.ca).trans rfl, (cell_of_row w2 a 1 _ _ (0, 0) h.ca).trans rfl, (cell_of_row w2 a 2 _ _ (0, 0) h.ca).trans rfl⟩, (cell_of_row w2 b 0 _ _ (0, 0) h.cb).trans rfl, (cell_of_row w2 b 1 _ _ (0, 0) h.cb).trans rfl, (cell_of_row w2 b 2 _ _ (0, 0) h.cb).trans rfl⟩
theorem Two.drew {w w2 : World} {a b : Nat} {p p' f f' r r' : Value} {S S' : Pd.Ab} (h : Two w w2 a b p p' f f' r r' S S') (n : Nat) : Two w (w2.drewN n) a b p p' f f' r r' S S' := by
  have hB : Below w2.heap.size w2 (w2.drewN n) := ⟨rfl, rfl, rfl, Nat.le_refl _, fun _ _ => rfl⟩
  exact ⟨h.bel.trans (hB.mono h.bel.size), h.ca, h.cb, h.sa.below hB, h.sb.below hB⟩
theorem Two.pcell {w w2 : World} {a b gP n cP : Nat} {p' f f' r r' : Value} {S S' : Pd.Ab} (h : Two w w2 a b (.slice (some ⟨gP, 0, none⟩) n cP) p' f f' r r' S S') (h0 : 0 < S.pgs.length) (j : Nat) (o : Option Pd.Sheet) (hj : S.pgs[j]? = some o) (i : Nat) (u : Value) (hi : (pgC o)[i]? = some u) : w2.cell? ⟨gP, j * 3 + i, none⟩ = some u := by
  obtain ⟨g, c, e, _, _, _, hc⟩ := pg_cells h.sa.pg h0
  cases e
  exact hc j o i u hj hi
theorem Two.qcell {w w2 : World} {a b gP n cP : Nat} {p f f' r r' : Value} {S S' : Pd.Ab} (h : Two w w2 a b p (.slice (some ⟨gP, 0, none⟩) n cP) f f' r r' S S') (h0 : 0 < S'.pgs.length) (j : Nat) (o : Option Pd.Sheet) (hj : S'.pgs[j]? = some o) (i : Nat) (u : Value) (hi : (pgC o)[i]? = some u) : w2.cell? ⟨gP, j * 3 + i, none⟩ = some u := by
  obtain ⟨g, c, e, _, _, _, hc⟩ := pg_cells h.sb.pg h0
  cases e
  exact hc j o i u hj hi
/- beside a state, drawn orders do nothing -/
theorem drew_below (w w2 : World) (n : Nat) (h : Below w.heap.size w w2) : Below w.heap.size w (w2.drewN n) := by
  have hB : Below w2.heap.size w2 (w2.drewN n) := ⟨rfl, rfl, rfl, Nat.le_refl _, fun _ _ => rfl⟩
  exact h.trans (hB.mono h.size)
set_option maxHeartbeats 8000000 in
set_option maxRecDepth 20000 in
theorem rsame_any (B B' : Nat) (p p' f f' r r' : Value) (S S' : Pd.Ab) (w : World) (h : StO w B p f r S) (h' : StO w B' p' f' r' S') (hpos : 0 < S.pgs.length) (hmx : S.pgs.length ≤ 1000) (hmf : S.freed.length ≤ 1000) (hpos' : 0 < S'.pgs.length) :
    Calls Tryz.prog 19 #[.agg #[p, f, r], .agg #[p', f', r']] w fun e w' => (∃ q : Bool, e = .returned (.bool q) ∧ (S = S' → q = true)) ∧ Below w.heap.size w w' := by
  have HW : Hid (Two w ((w.alloc (.cells #[p, f, r] 39)).alloc (.cells #[p', f', r'] 39)) w.heap.size (w.heap.size + 1) p p' f f' r r' S S') := two_start h h'
  obtain ⟨gP, cP, hp, hcP, _, _, _⟩ := pg_cells h.pg hpos
  obtain ⟨gQ, cQ, hp', hcQ, _, _, _⟩ := pg_cells h'.pg hpos'
  obtain ⟨aF, cF, hf⟩ := own_slice h.fr
  obtain ⟨aG, cG, hf'⟩ := own_slice h'.fr
  obtain ⟨gR, cR, hr, hcR, _, _, _⟩ := int_cells h.rt rfl (by omega)
  obtain ⟨gT, cT, hr', hcT, _, _, _⟩ := int_cells h'.rt rfl (by omega)
  subst hp hp' hf hf' hr hr'
  clear h h'
  have HNE : Hid (¬ S.pgs.length = S'.pgs.length ∨ ¬ S.freed.length = S'.freed.length → ¬ S = S') := fun hh e => by rw [e] at hh; simp at hh
  by_cases hl : S.pgs.length = S'.pgs.length
  · have hb1 : ((S.pgs.length : Int) != (S'.pgs.length : Int)) = false := by simp [hl]
    by_cases hlf : S.freed.length = S'.freed.length
    · have hb2 : ((S.freed.length : Int) != (S'.freed.length : Int)) = false := by simp [hlf]
      have HL : Hid (S.pgs.length = S'.pgs.length ∧ S.freed.length = S'.freed.length) := ⟨hl, hlf⟩
      clear hl hlf HNE
      go_enter Tryz.func19, Tryz.ntmps19
      go_wp2_with fail
      generalize (w.alloc (.cells #[.slice (some ⟨gP, 0, none⟩) S.pgs.length cP, .slice aF S.freed.length cF, .slice (some ⟨gR, 0, none⟩) 4 cR] 39)).alloc (.cells #[.slice (some ⟨gQ, 0, none⟩) S'.pgs.length cQ, .slice aG S'.freed.length cG, .slice (some ⟨gT, 0, none⟩) 4 cT] 39) = w2 at *
      obtain ⟨aa, haa⟩ : ∃ aa, w.heap.size = aa := ⟨_, rfl⟩
      obtain ⟨bb, hbb⟩ : ∃ bb, w.heap.size + 1 = bb := ⟨_, rfl⟩
      rw [hbb, haa]
      rw [hbb, haa] at HW
      clear hbb haa
      go_loopw [5] (fun s5 wr => ∃ j : Nat, j ≤ S.pgs.length ∧ s5 = .int .i64 (j : Int) ∧ Two w wr aa bb (.slice (some ⟨gP, 0, none⟩) S.pgs.length cP) (.slice (some ⟨gQ, 0, none⟩) S'.pgs.length cQ) (.slice aF S.freed.length cF) (.slice aG S'.freed.length cG) (.slice (some ⟨gR, 0, none⟩) 4 cR) (.slice (some ⟨gT, 0, none⟩) 4 cT) S S') (fun s5 _ => S.pgs.length - (intOf s5).toNat)
      case atStart => exact ⟨0, by omega, rfl, HW.out⟩
      case round =>
        clear HW hb1 hb2
        obtain ⟨j, hj, rfl, hWr⟩ := hrel
        have HWr : Hid (Two w wr aa bb (.slice (some ⟨gP, 0, none⟩) S.pgs.length cP) (.slice (some ⟨gQ, 0, none⟩) S'.pgs.length cQ) (.slice aF S.freed.length cF) (.slice aG S'.freed.length cG) (.slice (some ⟨gR, 0, none⟩) 4 cR) (.slice (some ⟨gT, 0, none⟩) 4 cT) S S') := hWr
        obtain ⟨⟨ca0, ca1, ca2⟩, cb0, cb1, cb2⟩ := hWr.cells
        clear hWr
        by_cases hjl : j < S.pgs.length
        · have dk : decide ((j : Int) < (S.pgs.length : Int)) = true := decide_eq_true (by omega)
          have k0 : (0 : Int) ≤ (j : Int) := by omega
          have k1 : (j : Int) < (S.pgs.length : Int) := by omega
          have k2 : (j : Int) < (S'.pgs.length : Int) := by have := HL.out.1; omega
          obtain ⟨o, ho⟩ : ∃ o, S.pgs[j]? = some o := ⟨_, List.getElem?_eq_getElem hjl⟩
          obtain ⟨o', ho'⟩ : ∃ o, S'.pgs[j]? = some o := ⟨_, List.getElem?_eq_getElem (by have := HL.out.1; omega)⟩
          obtain ⟨x0, x1, x2, hx⟩ := pgC_three o
          obtain ⟨y0, y1, y2, hy⟩ := pgC_three o'
          have hPc := HWr.out.pcell hpos j o ho
          have hQc := HWr.out.qcell hpos' j o' ho'
          rw [hx] at hPc
          rw [hy] at hQc
          have p0 : wr.cell? ⟨gP, j * 3, none⟩ = some (.int .i64 (x0 : Int)) := hPc 0 _ rfl
          have p1 : wr.cell? ⟨gP, j * 3 + 1, none⟩ = some (.string x1) := hPc 1 _ rfl
          have p2 : wr.cell? ⟨gP, j * 3 + 2, none⟩ = some (.bool x2) := hPc 2 _ rfl
          have p3 : wr.cell? ⟨gQ, j * 3, none⟩ = some (.int .i64 (y0 : Int)) := hQc 0 _ rfl
          have p4 : wr.cell? ⟨gQ, j * 3 + 1, none⟩ = some (.string y1) := hQc 1 _ rfl
          have p5 : wr.cell? ⟨gQ, j * 3 + 2, none⟩ = some (.bool y2) := hQc 2 _ rfl
          have HNS : Hid (¬ (x0 = y0 ∧ x1 = y1 ∧ x2 = y2) → ¬ S = S') := fun hh e => by
            rw [e, ho'] at ho
            have := Option.some.inj ho
            rw [this, hx] at hy
            simp at hy
            exact hh ⟨by omega, hy.2.1, hy.2.2⟩
          clear hPc hQc hx hy ho ho'
          by_cases he : x0 = y0 ∧ x1 = y1 ∧ x2 = y2
          · obtain ⟨rfl, rfl, rfl⟩ := he
            clear HNS
            have HFN : Hid (∀ W, (∃ n, W = wr.drewN n) → ∃ j' : Nat, j' ≤ S.pgs.length ∧ Value.int .i64 ((j : Int) + 1) = .int .i64 (j' : Int) ∧ Two w W aa bb (.slice (some ⟨gP, 0, none⟩) S.pgs.length cP) (.slice (some ⟨gQ, 0, none⟩) S'.pgs.length cQ) (.slice aF S.freed.length cF) (.slice aG S'.freed.length cG) (.slice (some ⟨gR, 0, none⟩) 4 cR) (.slice (some ⟨gT, 0, none⟩) 4 cT) S S') := fun W ⟨n, hW⟩ => ⟨j + 1, by omega, by go_num, by rw [hW]; exact HWr.out.drew n⟩
            go_wp2_with fail
            go_quiet (fail)
            go_wp2
            go_roundw
            case rel => first | exact HFN.out _ ⟨_, rfl⟩ | ((repeat apply Exists.intro); exact ⟨HFN.out _ ⟨_, rfl⟩, rfl⟩)
            case measure => (simp [intOf]) <;> omega
          · have HN : Hid (¬ S = S') := HNS.out he
            have HFN : Hid (∀ n, Below w.heap.size w (wr.drewN n)) := fun n => drew_below _ _ n HWr.out.bel
            clear HNS
            have hcs : ¬ x0 = y0 ∨ (x0 = y0 ∧ ¬ x1 = y1) ∨ (x0 = y0 ∧ x1 = y1 ∧ ¬ x2 = y2) := by
              by_cases e0 : x0 = y0
              · by_cases e1 : x1 = y1
                · exact .inr (.inr ⟨e0, e1, fun e2 => he ⟨e0, e1, e2⟩⟩)
                · exact .inr (.inl ⟨e0, e1⟩)
              · exact .inl e0
            clear he
            rcases hcs with e0 | ⟨rfl, e1⟩ | ⟨rfl, rfl, e2⟩
            · have f1 : ((x0 : Int) == (y0 : Int)) = false := by simp; omega
              have f2 : decide ((x0 : Int) = (y0 : Int)) = false := decide_eq_false (by omega)
              have f3 : ¬ (x0 : Int) = (y0 : Int) := by omega
              have f4 : (x0 == y0) = false := by simp; omega
              go_wp2_with fail
              go_quiet (fail)
              go_wp2
              go_ret
              exact ⟨⟨false, rfl, fun e => absurd e HN.out⟩, HFN.out nq⟩
            · have hne := toList_ne e1
              go_wp2_with fail
              go_quiet (fail)
              go_wp2
              go_ret
              exact ⟨⟨false, rfl, fun e => absurd e HN.out⟩, HFN.out nq⟩
            · have f4 : (x2 == y2) = false := by simp [e2]
              go_wp2_with fail
              go_quiet (fail)
              go_wp2
              go_ret
              exact ⟨⟨false, rfl, fun e => absurd e HN.out⟩, HFN.out nq⟩
        · have dk : decide ((j : Int) < (S.pgs.length : Int)) = false := decide_eq_false (by omega)
          go_wp2_with fail
          clear ca0 ca1 ca2 cb0 cb1 cb2
          go_loopw [6] (fun s6 wr => ∃ i : Nat, i ≤ S.freed.length ∧ s6 = .int .i64 (i : Int) ∧ Two w wr aa bb (.slice (some ⟨gP, 0, none⟩) S.pgs.length cP) (.slice (some ⟨gQ, 0, none⟩) S'.pgs.length cQ) (.slice aF S.freed.length cF) (.slice aG S'.freed.length cG) (.slice (some ⟨gR, 0, none⟩) 4 cR) (.slice (some ⟨gT, 0, none⟩) 4 cT) S S') (fun s6 _ => S.freed.length - (intOf s6).toNat)
          case atStart => exact ⟨0, by omega, rfl, HWr.out⟩
          case round =>
            rename_i wr0 _ _
            clear HWr
            obtain ⟨i, hi, rfl, hWr⟩ := hrel
            have HWr : Hid (Two w wr aa bb (.slice (some ⟨gP, 0, none⟩) S.pgs.length cP) (.slice (some ⟨gQ, 0, none⟩) S'.pgs.length cQ) (.slice aF S.freed.length cF) (.slice aG S'.freed.length cG) (.slice (some ⟨gR, 0, none⟩) 4 cR) (.slice (some ⟨gT, 0, none⟩) 4 cT) S S') := hWr
            obtain ⟨⟨ca0, ca1, ca2⟩, cb0, cb1, cb2⟩ := hWr.cells
            clear hWr
            by_cases hil : i < S.freed.length
            · have dk2 : decide ((i : Int) < (S.freed.length : Int)) = true := decide_eq_true (by omega)
              have k0 : (0 : Int) ≤ (i : Int) := by omega
              have k1 : (i : Int) < (S.freed.length : Int) := by omega
              have k2 : (i : Int) < (S'.freed.length : Int) := by have := HL.out.2; omega
              obtain ⟨x, hx⟩ : ∃ x, S.freed[i]? = some x := ⟨_, List.getElem?_eq_getElem hil⟩
              obtain ⟨y, hy⟩ : ∃ x, S'.freed[i]? = some x := ⟨_, List.getElem?_eq_getElem (by have := HL.out.2; omega)⟩
              obtain ⟨g1, c1, e1, _, _, _, hc1⟩ := int_cells HWr.out.sa.fr rfl (by omega)
              obtain ⟨g2, c2, e2, _, _, _, hc2⟩ := int_cells HWr.out.sb.fr rfl (by have := HL.out.2; omega)
              have p0 := hc1 i x hx
              have p1 := hc2 i y hy
              have HNS : Hid (¬ x = y → ¬ S = S') := fun hh e => by
                rw [e, hy] at hx
                exact hh (Option.some.inj hx).symm
              clear hc1 hc2 hx hy
              injection e1 with e1 _ e3
              injection e2 with e2 _ e4
              subst e1 e2 e3 e4
              by_cases he : x = y
              · subst he
                clear HNS
                have HFN : Hid (∀ W, (∃ n, W = wr.drewN n) → ∃ i' : Nat, i' ≤ S.freed.length ∧ Value.int .i64 ((i : Int) + 1) = .int .i64 (i' : Int) ∧ Two w W aa bb (.slice (some ⟨gP, 0, none⟩) S.pgs.length cP) (.slice (some ⟨gQ, 0, none⟩) S'.pgs.length cQ) (.slice (some ⟨g1, 0, none⟩) S.freed.length cF) (.slice (some ⟨g2, 0, none⟩) S'.freed.length cG) (.slice (some ⟨gR, 0, none⟩) 4 cR) (.slice (some ⟨gT, 0, none⟩) 4 cT) S S') := fun W ⟨n, hW⟩ => ⟨i + 1, by omega, by go_num, by rw [hW]; exact HWr.out.drew n⟩
                go_wp2_with fail
                go_quiet (fail)
                go_wp2
                go_roundw
                case rel => first | exact HFN.out _ ⟨_, rfl⟩ | ((repeat apply Exists.intro); exact ⟨HFN.out _ ⟨_, rfl⟩, rfl⟩)
                case measure => (simp [intOf]) <;> omega
              · have HN : Hid (¬ S = S') := HNS.out he
                have HFN : Hid (∀ n, Below w.heap.size w (wr.drewN n)) := fun n => drew_below _ _ n HWr.out.bel
                clear HNS
                have f1 : ((x : Int) == (y : Int)) = false := by simp; omega
                have f2 : decide ((x : Int) = (y : Int)) = false := decide_eq_false (by omega)
                have f3 : ¬ (x : Int) = (y : Int) := by omega
                have f5 : ((x : Int) != (y : Int)) = true := by simp; omega
                go_wp2_with fail
                go_quiet (fail)
                go_wp2
                go_ret
                exact ⟨⟨false, rfl, fun e => absurd e HN.out⟩, HFN.out nq⟩
            · have dk2 : decide ((i : Int) < (S.freed.length : Int)) = false := decide_eq_false (by omega)
              go_wp2_with fail
              clear ca0 ca1 ca2 cb0 cb1 cb2
              go_loopw [7] (fun s7 wr => ∃ i : Nat, i ≤ 4 ∧ s7 = .int .i64 (i : Int) ∧ Two w wr aa bb (.slice (some ⟨gP, 0, none⟩) S.pgs.length cP) (.slice (some ⟨gQ, 0, none⟩) S'.pgs.length cQ) (.slice aF S.freed.length cF) (.slice aG S'.freed.length cG) (.slice (some ⟨gR, 0, none⟩) 4 cR) (.slice (some ⟨gT, 0, none⟩) 4 cT) S S') (fun s7 _ => 4 - (intOf s7).toNat)
              case atStart => exact ⟨0, by omega, rfl, HWr.out⟩
              case round =>
                rename_i wr1 _ _
                clear HWr
                obtain ⟨r, hr, rfl, hWr⟩ := hrel
                have HWr : Hid (Two w wr aa bb (.slice (some ⟨gP, 0, none⟩) S.pgs.length cP) (.slice (some ⟨gQ, 0, none⟩) S'.pgs.length cQ) (.slice aF S.freed.length cF) (.slice aG S'.freed.length cG) (.slice (some ⟨gR, 0, none⟩) 4 cR) (.slice (some ⟨gT, 0, none⟩) 4 cT) S S') := hWr
                obtain ⟨⟨ca0, ca1, ca2⟩, cb0, cb1, cb2⟩ := hWr.cells
                clear hWr
                by_cases hrl : r < 4
                · have dk3 : decide ((r : Int) < 4) = true := decide_eq_true (by omega)
                  have k0 : (0 : Int) ≤ (r : Int) := by omega
                  have k1 : (r : Int) < 4 := by omega
                  obtain ⟨x, hx⟩ : ∃ x, [S.r0, S.r1, S.r2, S.r3][r]? = some x := ⟨_, List.getElem?_eq_getElem hrl⟩
                  obtain ⟨y, hy⟩ : ∃ x, [S'.r0, S'.r1, S'.r2, S'.r3][r]? = some x := ⟨_, List.getElem?_eq_getElem hrl⟩
                  obtain ⟨g1, c1, e1, _, _, _, hc1⟩ := int_cells HWr.out.sa.rt rfl (by omega)
                  obtain ⟨g2, c2, e2, _, _, _, hc2⟩ := int_cells HWr.out.sb.rt rfl (by omega)
                  have p0 := hc1 r x hx
                  have p1 := hc2 r y hy
                  have HNS : Hid (¬ x = y → ¬ S = S') := fun hh e => by
                    rw [e, hy] at hx
                    exact hh (Option.some.inj hx).symm
                  clear hc1 hc2 hx hy
                  cases e1
                  cases e2
                  by_cases he : x = y
                  · subst he
                    clear HNS
                    have HFN : Hid (∀ W, (∃ n, W = wr.drewN n) → ∃ i' : Nat, i' ≤ 4 ∧ Value.int .i64 ((r : Int) + 1) = .int .i64 (i' : Int) ∧ Two w W aa bb (.slice (some ⟨gP, 0, none⟩) S.pgs.length cP) (.slice (some ⟨gQ, 0, none⟩) S'.pgs.length cQ) (.slice aF S.freed.length cF) (.slice aG S'.freed.length cG) (.slice (some ⟨gR, 0, none⟩) 4 cR) (.slice (some ⟨gT, 0, none⟩) 4 cT) S S') := fun W ⟨n, hW⟩ => ⟨r + 1, by omega, by go_num, by rw [hW]; exact HWr.out.drew n⟩
                    go_wp2_with fail
                    go_quiet (fail)
                    go_wp2
                    go_roundw
                    case rel => first | exact HFN.out _ ⟨_, rfl⟩ | ((repeat apply Exists.intro); exact ⟨HFN.out _ ⟨_, rfl⟩, rfl⟩)
                    case measure => (simp [intOf]) <;> omega
                  · have HN : Hid (¬ S = S') := HNS.out he
                    have HFN : Hid (∀ n, Below w.heap.size w (wr.drewN n)) := fun n => drew_below _ _ n HWr.out.bel
                    clear HNS
                    have f1 : ((x : Int) == (y : Int)) = false := by simp; omega
                    have f2 : decide ((x : Int) = (y : Int)) = false := decide_eq_false (by omega)
                    have f3 : ¬ (x : Int) = (y : Int) := by omega
                    have f5 : ((x : Int) != (y : Int)) = true := by simp; omega
                    go_wp2_with fail
                    go_quiet (fail)
                    go_wp2
                    go_ret
                    exact ⟨⟨false, rfl, fun e => absurd e HN.out⟩, HFN.out nq⟩
                · have dk3 : decide ((r : Int) < 4) = false := decide_eq_false (by omega)
                  have HFN : Hid (Below w.heap.size w wr) := HWr.out.bel
                  go_wp2
                  go_ret
                  exact ⟨⟨true, rfl, fun _ => rfl⟩, HFN.out⟩
    · have hb2 : ((S.freed.length : Int) != (S'.freed.length : Int)) = true := by simp; omega
      have HB : Hid (Below w.heap.size w ((w.alloc (.cells #[.slice (some ⟨gP, 0, none⟩) S.pgs.length cP, .slice aF S.freed.length cF, .slice (some ⟨gR, 0, none⟩) 4 cR] 39)).alloc (.cells #[.slice (some ⟨gQ, 0, none⟩) S'.pgs.length cQ, .slice aG S'.freed.length cG, .slice (some ⟨gT, 0, none⟩) 4 cT] 39))) := HW.out.bel
      have HN : Hid (¬ S = S') := HNE.out (.inr hlf)
      clear HNE hl hlf HW
      go_enter Tryz.func19, Tryz.ntmps19
      go_wp2
      go_ret
      exact ⟨⟨false, rfl, fun e => absurd e HN.out⟩, HB.out⟩
  · have hb1 : ((S.pgs.length : Int) != (S'.pgs.length : Int)) = true := by simp; omega
    have HB : Hid (Below w.heap.size w ((w.alloc (.cells #[.slice (some ⟨gP, 0, none⟩) S.pgs.length cP, .slice aF S.freed.length cF, .slice (some ⟨gR, 0, none⟩) 4 cR] 39)).alloc (.cells #[.slice (some ⟨gQ, 0, none⟩) S'.pgs.length cQ, .slice aG S'.freed.length cG, .slice (some ⟨gT, 0, none⟩) 4 cT] 39))) := HW.out.bel
    have HN : Hid (¬ S = S') := HNE.out (.inl hl)
    clear HNE hl HW
    go_enter Tryz.func19, Tryz.ntmps19
    go_wp2
    go_ret
    exact ⟨⟨false, rfl, fun e => absurd e HN.out⟩, HB.out⟩
end Go.Proofs.YtcfninpokngmlaaGreatDoor
/- Proved: the power of a database's disk goes, comes back, or is to go (stage 10). -/
namespace Go.Proofs.YtcfninpokngmlaaGreatDoor
open Go.RowKit
/- a disk without power, and what is found on it -/
structure Pw (W w : World) (g kg : Nat) (vp : Value) (s : Sc.St) (n cnt K : Nat) (R R' : Pd.Ab) : Prop where
  dk : Dk w g kg vp s
  tab : Tab w
  down : s.down = true
  dn : s.dn ≤ K
  found : ∀ f, Pd.Dsk (Pd.KK f s) n cnt K R ∨ Pd.Dsk (Pd.KK f s) n cnt K R'
  cnts : cnt = (s.kept.length - n) / 8
  four : 4 ≤ cnt
  pos : 0 < W.heap.size
  bel : Below W.heap.size W w
  new : ∀ k ∈ foot g kg vp, W.heap.size ≤ k
section
variable {W w w' : World} {A : Ad} {t bt K : Nat} {d : Pd.Db} {S T : Pd.Ab} {sp : Bool} {tm : Pd.Mp} {g kg n cnt : Nat} {vp : Value} {s : Sc.St} {R R' : Pd.Ab}
theorem foot_ft (A : Ad) : ∀ k ∈ foot A.g A.kg A.vp, k ∈ A.ft := fun _ hk => A.ml (List.mem_append_right _ hk)
theorem GK.keep (G : GK W w g kg vp s n cnt K S) {fs : List Nat} (hc : Chg fs w w') (ha : ∀ k ∈ foot g kg vp, k ∉ fs) (hW : ∀ k ∈ fs, W.heap.size ≤ k) : GK W w' g kg vp s n cnt K S :=
  ⟨G.dk.keep hc ha, G.tab.of_block (hc.block 0 G.tab.pos (fun h => by have := hW 0 h; have := G.pos; omega)), G.down, G.pend, G.dsk, G.dn, G.cnts, G.four, G.pos, G.bel.trans (hc.below hW G.bel.size), G.new⟩
theorem Pw.keep (G : Pw W w g kg vp s n cnt K R R') {fs : List Nat} (hc : Chg fs w w') (ha : ∀ k ∈ foot g kg vp, k ∉ fs) (hW : ∀ k ∈ fs, W.heap.size ≤ k) : Pw W w' g kg vp s n cnt K R R' :=
  ⟨G.dk.keep hc ha, G.tab.of_block (hc.block 0 G.tab.pos (fun h => by have := hW 0 h; have := G.pos; omega)), G.down, G.dn, G.found, G.cnts, G.four, G.pos, G.bel.trans (hc.below hW G.bel.size), G.new⟩
theorem Pw.below (G : Pw W w g kg vp s n cnt K R R') (hB : Below w.heap.size w w') : Pw W w' g kg vp s n cnt K R R' := G.keep (fs := []) (Chg.of_below hB) (by simp) (by simp)
theorem GK.below (G : GK W w g kg vp s n cnt K S) (hB : Below w.heap.size w w') : GK W w' g kg vp s n cnt K S := G.keep (fs := []) (Chg.of_below hB) (by simp) (by simp)
theorem GT.disk (G : GT W w A t bt K d S T sp tm) (hc : d.cnt = (d.s.kept.length - d.n) / 8) (h4 : 4 ≤ d.cnt) (hp : 0 < W.heap.size) : GK W w A.g A.kg A.vp d.s d.n d.cnt K S :=
  ⟨G.tx.db.lp.dk, G.tx.db.tab, G.inv.down, G.inv.pend, (Pd.KK_nil G.inv.pend (fun _ => true)) ▸ G.inv.dsk (fun _ => true), G.inv.dn, hc, h4, hp, G.bel, fun k hk => G.new k (tft_a (foot_ft A k hk))⟩
theorem Txw.turn {u : Pd.Tx} (H : Txw w A t bt d u) {vr vw vp : Value} {l : Wl.Lg} {s : Sc.St} (hL : LP w' A.q A.g vr vw l A.kg vp s) (hT : Turn A.lf (A.to vr vw vp).lf w w') :
    Txw w' (A.to vr vw vp) t bt { d with l := l, s := s } u ∧ Turn (tft A t bt) (tft (A.to vr vw vp) t bt) w w' := by
  obtain ⟨h1, h2⟩ := H.db.turn hL hT
  have hta := h2.apart (rs := [t]) (fun k hk => by rw [List.mem_singleton.1 hk]; exact H.ta) (fun k hk => by rw [List.mem_singleton.1 hk]; exact H.tlt) t List.mem_cons_self
  have hba := h2.apart (rs := [bt]) (fun k hk => by rw [List.mem_singleton.1 hk]; exact H.ba) (fun k hk => by rw [List.mem_singleton.1 hk]; exact H.mp.lt) bt List.mem_cons_self
  refine ⟨⟨h1, (h2.chg.block t H.tlt H.ta).trans H.row, H.mp.chg h2.chg H.ba, hta, hba, H.tb, H.z⟩, h2.chg.mono (fun k hk => tft_a hk), fun k hk => ?_⟩
  rcases List.mem_cons.1 hk with rfl | hk
  · exact .inl tft_t
  · rcases List.mem_cons.1 hk with rfl | hk
    · exact .inl tft_b
    · rcases h2.grow k hk with h | h
      · exact .inl (tft_a h)
      · exact .inr h
/- the power goes -/
theorem goff (G : GK W w g kg vp s n cnt K S) : Calls Tryz.prog 22 #[ptr g] w fun e w' => e = .returned (.int .i64 0) ∧ ∃ vp', Pw W w' g kg vp' (Sc.fell s) n cnt K S S ∧ Turn (foot g kg vp) (foot g kg vp') w w' := by
  refine (off_any g kg vp s w G.dk).mono ?_
  rintro e w' ⟨v', rfl, hD, hT⟩
  have e1 : Sc.offS s = Sc.fell s := by unfold Sc.offS; rw [G.down]; rfl
  have e2 : Sc.liveE s = 0 := by unfold Sc.liveE; rw [G.down]; rfl
  rw [e1] at hD
  rw [e2]
  have hTb := hT.below G.new G.bel.size
  have hbel := G.bel.trans hTb
  refine ⟨rfl, v', ⟨hD, ?_, rfl, G.dn, fun f => .inl ?_, G.cnts, G.four, G.pos, hbel, hT.above G.new G.bel.size⟩, hT⟩
  · exact G.tab.of_block (hT.chg.block 0 G.tab.pos (fun h => by have := G.new 0 h; have := G.pos; omega))
  · rw [Pd.KK_nil (show (Sc.fell s).pend = [] from G.pend) f]
    exact G.dsk
/- the power comes back -/
theorem gon (a : Option Addr) (len cp : Nat) (m : Nat → Bool) (G : Pw W w g kg vp s n cnt K R R') (hB : Bools (foot g kg vp) w a len m) (hlen : len ≤ cp) (hcp : cp ≤ 9223372036854775807) : Calls Tryz.prog 38 #[ptr g, .slice a len cp] w fun e w' => e = .returned (.int .i64 0) ∧ ∃ vp', (GK W w' g kg vp' (Sc.back s (marks len m)) n cnt K R ∨ GK W w' g kg vp' (Sc.back s (marks len m)) n cnt K R') ∧ Turn (foot g kg vp) (foot g kg vp') w w' := by
  refine (on_any g kg vp s a len cp m w G.dk hB hlen hcp).mono ?_
  rintro e w' ⟨v', rfl, hD, hT⟩
  have e1 : Sc.onS s (marks len m) = Sc.back s (marks len m) := by unfold Sc.onS; rw [G.down]; rfl
  have e2 : Sc.onE s = 0 := by unfold Sc.onE; rw [G.down]; rfl
  rw [e1] at hD
  rw [e2]
  have hTb := hT.below G.new G.bel.size
  have hbel := G.bel.trans hTb
  have hlk : (Sc.back s (marks len m)).kept.length = s.kept.length := Pd.KK_length (marks len m) s
  have hmk : ∀ X, Pd.Dsk (Pd.KK (marks len m) s) n cnt K X → GK W w' g kg v' (Sc.back s (marks len m)) n cnt K X := fun X hX => ⟨hD, G.tab.of_block (hT.chg.block 0 G.tab.pos (fun h => by have := G.new 0 h; have := G.pos; omega)), rfl, rfl, hX, G.dn, by rw [hlk]; exact G.cnts, G.four, G.pos, hbel, hT.above G.new G.bel.size⟩
  refine ⟨rfl, v', ?_, hT⟩
  rcases G.found (marks len m) with h | h
  · exact .inl (hmk _ h)
  · exact .inr (hmk _ h)
end
end Go.Proofs.YtcfninpokngmlaaGreatDoor
