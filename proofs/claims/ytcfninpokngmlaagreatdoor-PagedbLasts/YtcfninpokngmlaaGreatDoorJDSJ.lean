/- Proved: a state that is being told, beside a transaction: a page more, a free page's number more (stage 10). -/
import Derived.Test.YtcfninpokngmlaaGreatDoorJLAbort
import Derived.Test.YtcfninpokngmlaaGreatDoorJDWh
namespace Go.Proofs.YtcfninpokngmlaaGreatDoor
open Go.RowKit
theorem app_iend (W : World) (B : Nat) (v : Value) (fl : List Nat) (id y : Nat) (hown : W.ownsRow B 3 1 v fl.length (intC fl)) (hl : fl.length ≤ 100000) (hB : B ≤ W.heap.size) (hy : W.heap[y]? = some (.cells #[.int .i64 (id : Int)] 3 (0, 0))) :
    ∃ v' w', (∀ ty, (Builtin.append_ #[37, 37] ty #[v, .slice (some ⟨y, 0, none⟩) 1 1]).run Tryz.prog W = .ok v' w') ∧ w'.ownsRow B 3 1 v' (fl ++ [id]).length (intC (fl ++ [id])) ∧ W.grownBy w' v.ownBlock ∧ (v'.ownBlock = v.ownBlock ∨ v'.ownBlock = some W.heap.size) := by
  obtain ⟨i0, hi, hz0, hz1, hz2⟩ := info_parts infoInt
  obtain ⟨v', w', hr, h2, h3, h4, h5⟩ := run_append_own_at (P := Tryz.prog) W B 37 0 3 i0 (.int .i64 0) 1 8 Tryz.underlying37 hi hz0 hz1 hz2 rfl (by omega) v fl.length (intC fl) hown ⟨y, 0, none⟩ 1 1 (intC [id]) rfl (fun j u hj => by rw [Addr.add_mid]; exact range_all hy j u hj) (intC_one [id]) (by unfold maxLen; omega) (by omega) hB
  refine ⟨v', w', fun _ => hr, ?_, h3, h5⟩
  have e : intC (fl ++ [id]) = intC fl ++ intC [id] := by unfold intC; rw [List.map_append]
  rw [e, List.length_append]
  exact h2
section
variable {W wr w' : World} {A : Ad} {t bt K : Nat} {d : Pd.Db} {S T : Pd.Ab} {tm : Pd.Mp}
structure SJ (W wr : World) (A : Ad) (t bt K : Nat) (d : Pd.Db) (S T : Pd.Ab) (tm : Pd.Mp) (q rb : Nat) (vP vF : Value) (np : Nat) (fl : List Nat) : Prop where
  g : GT W wr A t bt K d S T false tm
  box : wr.heap[q]? = some (.cells (st3 vP vF rb) 39 (0, 0))
  pg : wr.ownsRow W.heap.size 83 3 vP (T.pgs.take np).length ((T.pgs.take np).flatMap pgC)
  fr : wr.ownsRow W.heap.size 3 1 vF fl.length (intC fl)
  rt : wr.ownsRow W.heap.size 3 1 (.slice (some ⟨rb, 0, none⟩) 4 4) 4 (intC [T.r0, T.r1, T.r2, T.r3])
  aq : q ∉ rb :: tft A t bt
  ab : rb ∉ tft A t bt
  aP : ∀ k, vP.ownBlock = some k → k ∉ q :: rb :: tft A t bt
  aF : ∀ k, vF.ownBlock = some k → k ∉ q :: rb :: tft A t bt
  pf : ∀ k, vP.ownBlock = some k → vF.ownBlock ≠ some k
  hi : W.heap.size ≤ q ∧ W.heap.size ≤ rb
  pos : 0 < W.heap.size
variable {q rb np : Nat} {vP vF : Value} {fl : List Nat}
theorem SJ.lt (h : SJ W wr A t bt K d S T tm q rb vP vF np fl) : ∀ k ∈ q :: rb :: tft A t bt, k < wr.heap.size := fun k hk => by
  rcases List.mem_cons.1 hk with rfl | hk
  · exact (Array.getElem?_eq_some_iff.1 h.box).1
  · rcases List.mem_cons.1 hk with rfl | hk
    · exact (h.rt.lt k rfl).2
    · exact h.g.tx.lt k hk
theorem SJ.below (h : SJ W wr A t bt K d S T tm q rb vP vF np fl) (hB : Below wr.heap.size wr w') : SJ W w' A t bt K d S T tm q rb vP vF np fl :=
  ⟨h.g.below hB, (hB.block q (h.lt q (by simp))).trans h.box, own_below h.pg hB, own_below h.fr hB, own_below h.rt hB, h.aq, h.ab, h.aP, h.aF, h.pf, h.hi, h.pos⟩
theorem sj_start {w1 : World} (G : GT W w1 A t bt K d S T false tm) (hp : 0 < W.heap.size) (hone : T.pgs[0]? = some (some Pd.page00)) :
    SJ W (((w1.alloc (.cells #[.int .i64 0, .string ⟨#[]⟩, .bool false] 83)).alloc (.cells #[.int .i64 (rootV T.stt 0 : Int), .int .i64 (rootV T.stt 1 : Int), .int .i64 (rootV T.stt 2 : Int), .int .i64 (rootV T.stt 3 : Int)] 3)).alloc (.cells #[.slice (some ⟨w1.heap.size, 0, none⟩) 1 1, .slice none 0 0, .slice (some ⟨w1.heap.size + 1, 0, none⟩) 4 4] 39)) A t bt K d S T tm (w1.heap.size + 1 + 1) (w1.heap.size + 1) (.slice (some ⟨w1.heap.size, 0, none⟩) 1 1) (.slice none 0 0) 1 [] := by
  have hww := G.bel.size
  have s1 : (w1.alloc (.cells #[.int .i64 0, .string ⟨#[]⟩, .bool false] 83)).heap.size = w1.heap.size + 1 := by simp
  have s2 : ((w1.alloc (.cells #[.int .i64 0, .string ⟨#[]⟩, .bool false] 83)).alloc (.cells #[.int .i64 (rootV T.stt 0 : Int), .int .i64 (rootV T.stt 1 : Int), .int .i64 (rootV T.stt 2 : Int), .int .i64 (rootV T.stt 3 : Int)] 3)).heap.size = w1.heap.size + 1 + 1 := by simp
  have h1 := heap_alloc_new w1 (.cells #[.int .i64 0, .string ⟨#[]⟩, .bool false] 83)
  have h2 := heap_alloc_new (w1.alloc (.cells #[.int .i64 0, .string ⟨#[]⟩, .bool false] 83)) (.cells #[.int .i64 (rootV T.stt 0 : Int), .int .i64 (rootV T.stt 1 : Int), .int .i64 (rootV T.stt 2 : Int), .int .i64 (rootV T.stt 3 : Int)] 3)
  have h3 := heap_alloc_new ((w1.alloc (.cells #[.int .i64 0, .string ⟨#[]⟩, .bool false] 83)).alloc (.cells #[.int .i64 (rootV T.stt 0 : Int), .int .i64 (rootV T.stt 1 : Int), .int .i64 (rootV T.stt 2 : Int), .int .i64 (rootV T.stt 3 : Int)] 3)) (.cells #[.slice (some ⟨w1.heap.size, 0, none⟩) 1 1, .slice none 0 0, .slice (some ⟨w1.heap.size + 1, 0, none⟩) 4 4] 39)
  rw [s1] at h2
  rw [s2] at h3
  have hB : Below w1.heap.size w1 (((w1.alloc (.cells #[.int .i64 0, .string ⟨#[]⟩, .bool false] 83)).alloc (.cells #[.int .i64 (rootV T.stt 0 : Int), .int .i64 (rootV T.stt 1 : Int), .int .i64 (rootV T.stt 2 : Int), .int .i64 (rootV T.stt 3 : Int)] 3)).alloc (.cells #[.slice (some ⟨w1.heap.size, 0, none⟩) 1 1, .slice none 0 0, .slice (some ⟨w1.heap.size + 1, 0, none⟩) 4 4] 39)) := (((Below.refl _ w1).alloc (Nat.le_refl _) _).alloc (by rw [s1]; omega) _).alloc (by rw [s2]; omega) _
  have hlt1 := G.tx.lt
  have htk : T.pgs.take 1 = [some Pd.page00] := by
    cases hz : T.pgs with
    | nil => rw [hz] at hone; cases hone
    | cons a l => rw [hz] at hone; cases hone; rfl
  refine ⟨G.below hB, h3, ?_, ⟨rfl, .inl ⟨rfl, rfl⟩⟩, ?_, ?_, ?_, ?_, (fun k hk => nomatch hk), (fun k hk h => nomatch h), ⟨by omega, by omega⟩, hp⟩
  · rw [htk]
    refine ⟨rfl, .inr ⟨w1.heap.size, 1, #[.int .i64 0, .string ⟨#[]⟩, .bool false], rfl, by omega, ?_, Nat.le_refl _, by unfold maxLen; omega, rfl, rfl⟩⟩
    rw [Below.heap_alloc _ _ _ (by rw [s2]; omega), Below.heap_alloc _ _ _ (by rw [s1]; omega)]
    exact h1
  · refine ⟨rfl, .inr ⟨w1.heap.size + 1, 4, #[.int .i64 (rootV T.stt 0 : Int), .int .i64 (rootV T.stt 1 : Int), .int .i64 (rootV T.stt 2 : Int), .int .i64 (rootV T.stt 3 : Int)], rfl, by omega, ?_, Nat.le_refl _, by unfold maxLen; omega, rfl, rfl⟩⟩
    rw [Below.heap_alloc _ _ _ (by rw [s2]; omega)]
    exact h2
  · intro hm
    simp at hm
    have := hlt1 _ hm; omega
  · intro hm
    have := hlt1 _ hm; omega
  · intro k hk hm
    have : k = w1.heap.size := (Option.some.inj hk).symm
    subst this
    simp at hm
    rcases hm with e | e
    · omega
    · have := hlt1 _ e; omega
/- a page more -/
theorem SJ.page {o : Option Pd.Sheet} {v' : Value} {w3 : World} (h : SJ W wr A t bt K d S T tm q rb vP vF np fl) (ho : T.pgs[np]? = some o)
    (hO : w3.ownsRow W.heap.size 83 3 v' (T.pgs.take np ++ [o]).length ((T.pgs.take np ++ [o]).flatMap pgC)) (hG : (wr.alloc (.cells (pgC o).toArray 83)).grownBy w3 vP.ownBlock) (hv : v'.ownBlock = vP.ownBlock ∨ v'.ownBlock = some (wr.alloc (.cells (pgC o).toArray 83)).heap.size) :
    SJ W (w3.setCell ⟨q, 0, none⟩ v') A t bt K d S T tm q rb v' vF (np + 1) fl := by
  have hl := h.lt
  have s2 : (wr.alloc (.cells (pgC o).toArray 83)).heap.size = wr.heap.size + 1 := by simp
  have h2 := h.below ((Below.refl _ wr).alloc (Nat.le_refl _) (.cells (pgC o).toArray 83))
  have htk : T.pgs.take np ++ [o] = T.pgs.take (np + 1) := by
    rw [List.take_add_one, ho]
    rfl
  rw [htk] at hO
  have hcg : Chg vP.ownBlock.toList (wr.alloc (.cells (pgC o).toArray 83)) w3 := Chg.grown hG
  have hqP : q ∉ vP.ownBlock.toList := fun hm => h.aP q (by simpa using hm) (by simp)
  have hc3 : Chg (q :: vP.ownBlock.toList) (wr.alloc (.cells (pgC o).toArray 83)) (w3.setCell ⟨q, 0, none⟩ v') := (hcg.mono (fun k hk => List.mem_cons_of_mem _ hk)).trans ((Chg.setCell w3 q 0 v').mono (fun k hk => by rw [List.mem_singleton.1 hk]; exact List.mem_cons_self))
  have hq3 : w3.heap[q]? = some (.cells (st3 vP vF rb) 39 (0, 0)) := (hcg.block q (h2.lt q (by simp)) hqP).trans h2.box
  have hne : ∀ k, v'.ownBlock = some k → k ∉ q :: rb :: tft A t bt := fun k hk hm => by
    rcases hv with e | e
    · exact h.aP k (e ▸ hk) hm
    · rw [e] at hk
      have := Option.some.inj hk
      have := hl k hm
      omega
  have hbl : ∀ k, k < wr.heap.size + 1 → k ≠ q → vP.ownBlock ≠ some k → (w3.setCell ⟨q, 0, none⟩ v').heap[k]? = (wr.alloc (.cells (pgC o).toArray 83)).heap[k]? := fun k h1 h2 h3 => hc3.block k (by rw [s2]; exact h1) (fun hm => by
    rcases List.mem_cons.1 hm with e | e
    · exact h2 e
    · exact h3 (by simpa using e))
  have hfs : ∀ k ∈ q :: vP.ownBlock.toList, W.heap.size ≤ k := fun k hk => by
    rcases List.mem_cons.1 hk with rfl | hk
    · exact h.hi.1
    · exact (h.pg.lt k (by simpa using hk)).1
  have hft : ∀ k ∈ tft A t bt, k ∉ q :: vP.ownBlock.toList := fun k hk hm => by
    rcases List.mem_cons.1 hm with rfl | e
    · exact h.aq (by simp [hk])
    · exact h.aP k (by simpa using e) (by simp [hk])
  refine ⟨h2.g.keep hc3 hft hfs h.pos, ?_, ?_, ?_, ?_, h.aq, h.ab, hne, h.aF, fun k hk => ?_, h.hi, h.pos⟩
  · exact (heap_setCell_same w3 q 0 _ _ v' hq3).trans rfl
  · exact own_keep hO (fun k hk => heap_setCell_other _ _ _ _ (fun e => hne k hk (by simp [e])))
  · refine own_keep h2.fr (fun k hk => hbl k (by have := (h.fr.lt k hk).2; omega) (fun e => h.aF k hk (by simp [e])) (fun e => h.pf k e hk))
  · refine own_keep h2.rt (fun k hk => ?_)
    have : k = rb := (Option.some.inj hk).symm
    subst this
    exact hbl k (by have := hl k (by simp); omega) (fun e => h.aq (by simp [← e])) (fun e => h.aP k e (by simp))
  · rcases hv with e | e
    · exact h.pf k (e ▸ hk)
    · rw [e] at hk
      have h1 := Option.some.inj hk
      intro h3
      have := (h.fr.lt k h3).2
      omega
/- a number more -/
theorem SJ.behind {id : Nat} {v' : Value} {w3 : World} (h : SJ W wr A t bt K d S T tm q rb vP vF np fl)
    (hO : w3.ownsRow W.heap.size 3 1 v' (fl ++ [id]).length (intC (fl ++ [id]))) (hG : (wr.alloc (.cells #[.int .i64 (id : Int)] 3)).grownBy w3 vF.ownBlock) (hv : v'.ownBlock = vF.ownBlock ∨ v'.ownBlock = some (wr.alloc (.cells #[.int .i64 (id : Int)] 3)).heap.size) :
    SJ W (w3.setCell ⟨q, 1, none⟩ v') A t bt K d S T tm q rb vP v' np (fl ++ [id]) := by
  have hl := h.lt
  have s2 : (wr.alloc (.cells #[.int .i64 (id : Int)] 3)).heap.size = wr.heap.size + 1 := by simp
  have h2 := h.below ((Below.refl _ wr).alloc (Nat.le_refl _) (.cells #[.int .i64 (id : Int)] 3))
  have hcg : Chg vF.ownBlock.toList (wr.alloc (.cells #[.int .i64 (id : Int)] 3)) w3 := Chg.grown hG
  have hqF : q ∉ vF.ownBlock.toList := fun hm => h.aF q (by simpa using hm) (by simp)
  have hc3 : Chg (q :: vF.ownBlock.toList) (wr.alloc (.cells #[.int .i64 (id : Int)] 3)) (w3.setCell ⟨q, 1, none⟩ v') := (hcg.mono (fun k hk => List.mem_cons_of_mem _ hk)).trans ((Chg.setCell w3 q 1 v').mono (fun k hk => by rw [List.mem_singleton.1 hk]; exact List.mem_cons_self))
  have hq3 : w3.heap[q]? = some (.cells (st3 vP vF rb) 39 (0, 0)) := (hcg.block q (h2.lt q (by simp)) hqF).trans h2.box
  have hne : ∀ k, v'.ownBlock = some k → k ∉ q :: rb :: tft A t bt := fun k hk hm => by
    rcases hv with e | e
    · exact h.aF k (e ▸ hk) hm
    · rw [e] at hk
      have := Option.some.inj hk
      have := hl k hm
      omega
  have hbl : ∀ k, k < wr.heap.size + 1 → k ≠ q → vF.ownBlock ≠ some k → (w3.setCell ⟨q, 1, none⟩ v').heap[k]? = (wr.alloc (.cells #[.int .i64 (id : Int)] 3)).heap[k]? := fun k h1 h2 h3 => hc3.block k (by rw [s2]; exact h1) (fun hm => by
    rcases List.mem_cons.1 hm with e | e
    · exact h2 e
    · exact h3 (by simpa using e))
  have hfs : ∀ k ∈ q :: vF.ownBlock.toList, W.heap.size ≤ k := fun k hk => by
    rcases List.mem_cons.1 hk with rfl | hk
    · exact h.hi.1
    · exact (h.fr.lt k (by simpa using hk)).1
  have hft : ∀ k ∈ tft A t bt, k ∉ q :: vF.ownBlock.toList := fun k hk hm => by
    rcases List.mem_cons.1 hm with rfl | e
    · exact h.aq (by simp [hk])
    · exact h.aF k (by simpa using e) (by simp [hk])
  refine ⟨h2.g.keep hc3 hft hfs h.pos, ?_, ?_, ?_, ?_, h.aq, h.ab, h.aP, hne, fun k hk e => ?_, h.hi, h.pos⟩
  · exact (heap_setCell_same w3 q 1 _ _ v' hq3).trans rfl
  · refine own_keep h2.pg (fun k hk => hbl k (by have := (h.pg.lt k hk).2; omega) (fun e => h.aP k hk (by simp [e])) (fun e => h.pf k hk e))
  · exact own_keep hO (fun k hk => heap_setCell_other _ _ _ _ (fun e => hne k hk (by simp [e])))
  · refine own_keep h2.rt (fun k hk => ?_)
    have : k = rb := (Option.some.inj hk).symm
    subst this
    exact hbl k (by have := hl k (by simp); omega) (fun e => h.aq (by simp [← e])) (fun e => h.aF k e (by simp))
  · rcases hv with e2 | e2
    · exact h.pf k hk (e2 ▸ e)
    · rw [e2] at e
      have h1 := Option.some.inj e
      have := (h.pg.lt k hk).2
      omega
end
end Go.Proofs.YtcfninpokngmlaaGreatDoor
