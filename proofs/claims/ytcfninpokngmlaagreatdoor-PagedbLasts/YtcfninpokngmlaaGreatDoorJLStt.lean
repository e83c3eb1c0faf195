/- Proved: what the laws' helper state tells of a database. -/
import Derived.Test.YtcfninpokngmlaaGreatDoorJ21
namespace Go.Proofs.YtcfninpokngmlaaGreatDoor
open Go.RowKit
/- a state in memory of the call's own -/
structure StO (w : World) (B : Nat) (vP vF vR : Value) (S : Pd.Ab) : Prop where
  pg : w.ownsRow B 83 3 vP S.pgs.length (S.pgs.flatMap pgC)
  fr : w.ownsRow B 3 1 vF S.freed.length (intC S.freed)
  rt : w.ownsRow B 3 1 vR 4 (intC [S.r0, S.r1, S.r2, S.r3])
def StPost (W w : World) (A : Ad) (K : Nat) (d : Pd.Db) (S : Pd.Ab) (e : Ending) (w' : World) : Prop :=
  ∃ vP vF vR, e = .returned (.tuple #[.agg #[vP, vF, vR], .bool true]) ∧ GD W w' A K d S ∧ StO w' w.heap.size vP vF vR S ∧ (∀ k, vP.ownBlock = some k ∨ vF.ownBlock = some k ∨ vR.ownBlock = some k → k ∉ A.ft) ∧ Turn A.ft A.ft w w'
section
variable {W w w' : World} {A : Ad} {t bt K : Nat} {d : Pd.Db} {S T : Pd.Ab} {sp : Bool} {tm : Pd.Mp}
theorem si_start {w0 w1 : World} (hT0 : Below w.heap.size w w0) (hR : w0.heap[w.heap.size]? = some (.cells nil3 39 (0, 0))) (hs0 : w0.heap.size = w.heap.size + 1) (G : GT W w1 A t bt K d S S false []) (hT : Turn A.ft (tft A t bt) w0 w1) (hlt : ∀ k ∈ A.ft, k < w.heap.size) (hp : 0 < W.heap.size) (hww : W.heap.size ≤ w.heap.size) :
    SI W w (((w1.alloc (.cells #[.int .i64 0, .string ⟨#[]⟩, .bool false] 83)).alloc (.cells #[.int .i64 (rootV S.stt 0 : Int), .int .i64 (rootV S.stt 1 : Int), .int .i64 (rootV S.stt 2 : Int), .int .i64 (rootV S.stt 3 : Int)] 3)).alloc (.cells #[.slice (some ⟨w1.heap.size, 0, none⟩) 1 1, .slice none 0 0, .slice (some ⟨w1.heap.size + 1, 0, none⟩) 4 4] 39)) A t bt K d S S [] w.heap.size (w1.heap.size + 1 + 1) (w1.heap.size + 1) (.slice (some ⟨w1.heap.size, 0, none⟩) 1 1) (.slice none 0 0) 1 [] := by
  have hs1 := hT.chg.size
  have s1 : (w1.alloc (.cells #[.int .i64 0, .string ⟨#[]⟩, .bool false] 83)).heap.size = w1.heap.size + 1 := by simp
  have s2 : ((w1.alloc (.cells #[.int .i64 0, .string ⟨#[]⟩, .bool false] 83)).alloc (.cells #[.int .i64 (rootV S.stt 0 : Int), .int .i64 (rootV S.stt 1 : Int), .int .i64 (rootV S.stt 2 : Int), .int .i64 (rootV S.stt 3 : Int)] 3)).heap.size = w1.heap.size + 1 + 1 := by simp
  have h1 := heap_alloc_new w1 (.cells #[.int .i64 0, .string ⟨#[]⟩, .bool false] 83)
  have h2 := heap_alloc_new (w1.alloc (.cells #[.int .i64 0, .string ⟨#[]⟩, .bool false] 83)) (.cells #[.int .i64 (rootV S.stt 0 : Int), .int .i64 (rootV S.stt 1 : Int), .int .i64 (rootV S.stt 2 : Int), .int .i64 (rootV S.stt 3 : Int)] 3)
  have h3 := heap_alloc_new ((w1.alloc (.cells #[.int .i64 0, .string ⟨#[]⟩, .bool false] 83)).alloc (.cells #[.int .i64 (rootV S.stt 0 : Int), .int .i64 (rootV S.stt 1 : Int), .int .i64 (rootV S.stt 2 : Int), .int .i64 (rootV S.stt 3 : Int)] 3)) (.cells #[.slice (some ⟨w1.heap.size, 0, none⟩) 1 1, .slice none 0 0, .slice (some ⟨w1.heap.size + 1, 0, none⟩) 4 4] 39)
  rw [s1] at h2
  rw [s2] at h3
  have hB : Below w1.heap.size w1 (((w1.alloc (.cells #[.int .i64 0, .string ⟨#[]⟩, .bool false] 83)).alloc (.cells #[.int .i64 (rootV S.stt 0 : Int), .int .i64 (rootV S.stt 1 : Int), .int .i64 (rootV S.stt 2 : Int), .int .i64 (rootV S.stt 3 : Int)] 3)).alloc (.cells #[.slice (some ⟨w1.heap.size, 0, none⟩) 1 1, .slice none 0 0, .slice (some ⟨w1.heap.size + 1, 0, none⟩) 4 4] 39)) := (((Below.refl _ w1).alloc (Nat.le_refl _) _).alloc (by rw [s1]; omega) _).alloc (by rw [s2]; omega) _
  have hlt1 := G.tx.lt
  have hone := G.inv.fnd.ok.one
  have htk : S.pgs.take 1 = [some Pd.page00] := by
    cases hz : S.pgs with
    | nil => rw [hz] at hone; cases hone
    | cons a l => rw [hz] at hone; cases hone; rfl
  have hRt : w.heap.size ∉ tft A t bt := fun hm => by
    rcases hT.grow _ hm with h | h
    · have := hlt _ h; omega
    · omega
  refine ⟨G.below hB, ?_, h3, ?_, ⟨rfl, .inl ⟨rfl, rfl⟩⟩, ?_, ?_, ?_, ?_, ?_, ?_, ?_, ⟨Nat.le_refl _, by omega, by omega⟩, ?_, hp, hww⟩
  · rw [hB.block _ (by omega), hT.chg.block _ (by omega) (fun hm => by have := hlt _ hm; omega)]
    exact hR
  · rw [htk]
    refine ⟨rfl, .inr ⟨w1.heap.size, 1, #[.int .i64 0, .string ⟨#[]⟩, .bool false], rfl, by omega, ?_, Nat.le_refl _, by unfold maxLen; omega, rfl, rfl⟩⟩
    rw [Below.heap_alloc _ _ _ (by rw [s2]; omega), Below.heap_alloc _ _ _ (by rw [s1]; omega)]
    exact h1
  · refine ⟨rfl, .inr ⟨w1.heap.size + 1, 4, #[.int .i64 (rootV S.stt 0 : Int), .int .i64 (rootV S.stt 1 : Int), .int .i64 (rootV S.stt 2 : Int), .int .i64 (rootV S.stt 3 : Int)], rfl, by omega, ?_, Nat.le_refl _, by unfold maxLen; omega, rfl, rfl⟩⟩
    rw [Below.heap_alloc _ _ _ (by rw [s2]; omega)]
    exact h2
  · intro hm
    simp at hm
    rcases hm with e | e | e
    · omega
    · omega
    · exact hRt e
  · intro hm
    simp at hm
    have := hlt1 _ hm; omega
  · intro hm
    have := hlt1 _ hm; omega
  · intro k hk hm
    have : k = w1.heap.size := (Option.some.inj hk).symm
    subst this
    simp at hm
    rcases hm with e | e | e
    · omega
    · omega
    · have := hlt1 _ e; omega
  · intro k hk; cases hk
  · intro k hk h; cases h
  · exact (((Turn.of_below hT0).trans hT)).trans (Turn.of_below hB)
theorem sizeRs : (Tryz.prog.info? 39).map (·.size) = some 3 := by kernel_rfl
/- behind Abort: what was told is still there -/
structure SE (W w w3 : World) (A : Ad) (K : Nat) (d : Pd.Db) (S : Pd.Ab) (q rb : Nat) (vP vF : Value) : Prop where
  gd : GD W w3 A K d S
  res : w3.heap[w.heap.size]? = some (.cells nil3 39 (0, 0))
  box : w3.heap[q]? = some (.cells (st3 vP vF rb) 39 (0, 0))
  sto : StO w3 w.heap.size vP vF (.slice (some ⟨rb, 0, none⟩) 4 4) S
  ap : ∀ k, vP.ownBlock = some k ∨ vF.ownBlock = some k ∨ rb = k → k ∉ w.heap.size :: A.ft
  aR : w.heap.size ∉ A.ft
  turn : Turn A.ft A.ft w w3
  pos : 0 < W.heap.size
  ww : W.heap.size ≤ w.heap.size
theorem si_end {wr w3 : World} {q rb : Nat} {vP vF : Value} (h : SI W w wr A t bt K d S T tm w.heap.size q rb vP vF S.pgs.length S.freed) (hG : GD W w3 A K d S) (hT : Turn (tft A t bt) A.ft wr w3) : SE W w w3 A K d S q rb vP vF := by
  have hb : ∀ k, k < wr.heap.size → k ∉ tft A t bt → w3.heap[k]? = wr.heap[k]? := fun k h1 h2 => hT.chg.block k h1 h2
  have hpg := h.pg
  rw [List.take_length] at hpg
  have hRt : w.heap.size ∉ tft A t bt := fun hm => h.aR (by simp [hm])
  refine ⟨hG, (hb _ (h.lt _ (by simp)) hRt).trans h.res, (hb q (h.lt q (by simp)) (fun hm => h.aq (by simp [hm]))).trans h.box, ⟨own_keep hpg (fun k hk => hb k (hpg.lt k hk).2 (fun hm => h.aP k hk (by simp [hm]))), own_keep h.fr (fun k hk => hb k (h.fr.lt k hk).2 (fun hm => h.aF k hk (by simp [hm]))), own_keep h.rt (fun k hk => ?_)⟩, fun k hk hm => ?_, fun hm => hRt (tft_a hm), h.turn.trans hT, h.pos, h.ww⟩
  · have : k = rb := (Option.some.inj hk).symm
    subst this
    exact hb k (h.lt k (by simp)) h.ab
  · have hm2 : k = w.heap.size ∨ k ∈ tft A t bt := by
      rcases List.mem_cons.1 hm with e | e
      · exact .inl e
      · exact .inr (tft_a e)
    rcases hk with e | e | e
    · exact h.aP k e (by rcases hm2 with e2 | e2 <;> simp [e2])
    · exact h.aF k e (by rcases hm2 with e2 | e2 <;> simp [e2])
    · subst e
      rcases hm2 with e2 | e2
      · exact h.aR (by simp [e2])
      · exact h.ab e2
def fin3 (w w3 : World) (vP vF : Value) (rb : Nat) : World := ((w3.setCell ⟨w.heap.size, 0, none⟩ vP).setCell ⟨w.heap.size, 1, none⟩ vF).setCell ⟨w.heap.size, 2, none⟩ (.slice (some ⟨rb, 0, none⟩) 4 4)
theorem fin3_row {w3 : World} {q rb : Nat} {vP vF : Value} (h : SE W w w3 A K d S q rb vP vF) : (fin3 w w3 vP vF rb).heap[w.heap.size]? = some (.cells #[vP, vF, .slice (some ⟨rb, 0, none⟩) 4 4] 39 (0, 0)) := by
  have h1 := heap_setCell_same w3 w.heap.size 0 _ _ vP h.res
  have h2 := heap_setCell_same _ w.heap.size 1 _ _ vF h1
  have h3 := heap_setCell_same _ w.heap.size 2 _ _ (.slice (some ⟨rb, 0, none⟩) 4 4) h2
  exact h3.trans rfl
theorem SE.finrow {w3 : World} {q rb : Nat} {vP vF : Value} (h : SE W w w3 A K d S q rb vP vF) : (((w3.setCell ⟨w.heap.size, 0, none⟩ vP).setCell ⟨w.heap.size, 1, none⟩ vF).setCell ⟨w.heap.size, 2, none⟩ (.slice (some ⟨rb, 0, none⟩) 4 4)).heap[w.heap.size]? = some (.cells #[vP, vF, .slice (some ⟨rb, 0, none⟩) 4 4] 39 (0, 0)) := fin3_row h
theorem SE.fin {w3 : World} {q rb : Nat} {vP vF : Value} (h : SE W w w3 A K d S q rb vP vF) : StPost W w A K d S (.returned (.tuple #[.agg #[vP, vF, .slice (some ⟨rb, 0, none⟩) 4 4], .bool true])) (((w3.setCell ⟨w.heap.size, 0, none⟩ vP).setCell ⟨w.heap.size, 1, none⟩ vF).setCell ⟨w.heap.size, 2, none⟩ (.slice (some ⟨rb, 0, none⟩) 4 4)) := by
  have hc : Chg [w.heap.size] w3 (((w3.setCell ⟨w.heap.size, 0, none⟩ vP).setCell ⟨w.heap.size, 1, none⟩ vF).setCell ⟨w.heap.size, 2, none⟩ (.slice (some ⟨rb, 0, none⟩) 4 4)) := ((Chg.setCell _ _ _ _).trans (Chg.setCell _ _ _ _)).trans (Chg.setCell _ _ _ _)
  have hlt : ∀ k ∈ [w.heap.size], w.heap.size ≤ k := fun k hk => by rw [List.mem_singleton.1 hk]; exact Nat.le_refl _
  have hb : ∀ k, k < w3.heap.size → k ≠ w.heap.size → (((w3.setCell ⟨w.heap.size, 0, none⟩ vP).setCell ⟨w.heap.size, 1, none⟩ vF).setCell ⟨w.heap.size, 2, none⟩ (.slice (some ⟨rb, 0, none⟩) 4 4)).heap[k]? = w3.heap[k]? := fun k h1 h2 => hc.block k h1 (fun hm => h2 (List.mem_singleton.1 hm))
  refine ⟨vP, vF, _, rfl, ⟨h.gd.db.keep hc (fun k hk hm => h.aR (by rw [← List.mem_singleton.1 hm]; exact hk)) (fun hm => by have := List.mem_singleton.1 hm; have := h.pos; have := h.ww; omega), h.gd.inv, h.gd.bel.trans (hc.below (fun k hk => Nat.le_trans h.ww (hlt k hk)) h.gd.bel.size), h.gd.new⟩, ⟨own_keep h.sto.pg (fun k hk => hb k (h.sto.pg.lt k hk).2 (fun e => h.ap k (.inl hk) (by simp [e]))), own_keep h.sto.fr (fun k hk => hb k (h.sto.fr.lt k hk).2 (fun e => h.ap k (.inr (.inl hk)) (by simp [e]))), own_keep h.sto.rt (fun k hk => hb k (h.sto.rt.lt k hk).2 (fun e => h.ap k (.inr (.inr (Option.some.inj hk))) (by simp [e])))⟩, fun k hk hm => ?_, h.turn.new hc hlt⟩
  refine h.ap k ?_ (List.mem_cons_of_mem _ hm)
  rcases hk with e | e | e
  · exact .inl e
  · exact .inr (.inl e)
  · exact .inr (.inr (Option.some.inj e))
theorem results_sta {fn : Func} {p u : Tmp} (h : fn.results = #[.cell p 39, .tmp u]) (tmps : Array Value) (w : World) (g t : Nat) (x y z v : Value) (hp : tmps.getD p undef = .pointer (some ⟨g, 0, none⟩)) (hv : tmps.getD u undef = v) (hg : w.heap[g]? = some (.cells #[x, y, z] t (0, 0))) :
    (results fn tmps).run Tryz.prog w = .ok (.tuple #[.agg #[x, y, z], v]) w := by
  have hp' : tmps[p]?.getD undef = .pointer (some ⟨g, 0, none⟩) := by simpa using hp
  have hv' : tmps[u]?.getD undef = v := by simpa using hv
  simp [results, h, hp', hv', asAddr, run_loadVar_row w g t 39 #[x, y, z] (0, 0) _ hg Tryz.underlying39 rfl sizeRs]
/- what Read tells of a page -/
theorem read_pg {o : Option Pd.Sheet} {j : Nat} (hk : S.Ok d.cnt) (h1 : 1 ≤ j) (ho : S.pgs[j]? = some o) : ∃ (kd : Nat) (b : ByteArray) (E : Int), thereR S.pgs.length (j : Int) (S.sh j) = (⟨kd, b⟩, E) ∧ (E = 0 ∧ pgC o = [.int .i64 (kd : Int), .string b, .bool false] ∨ E = 8 ∧ pgC o = [.int .i64 (kd : Int), .string b, .bool true]) := by
  have hl := (List.getElem?_eq_some_iff.1 ho).1
  unfold thereR
  rw [if_neg (by omega)]
  cases o with
  | none =>
    rw [Pd.Ab.sh_free h1 ho, if_pos (show (Pd.freeSheet (Pd.prev S.freed j)).kind = 255 from rfl)]
    exact ⟨0, ⟨#[]⟩, 8, rfl, .inr ⟨rfl, rfl⟩⟩
  | some x =>
    obtain ⟨e, hne⟩ := Pd.Ab.sh_there hk h1 ho
    rw [e, if_neg hne]
    exact ⟨x.kind, x.body, 0, rfl, .inl ⟨rfl, rfl⟩⟩
set_option maxHeartbeats 8000000 in
set_option maxRecDepth 20000 in
theorem state_any (G : GD W w A K d S) (hp : 0 < W.heap.size) :
    Calls Tryz.prog 18 #[ptr A.x] w (StPost W w A K d S) := by
  have HG : Hid (GD W w A K d S) := G
  have hcn := G.inv.n2.2.2
  have hmo := G.inv.fnd.ok.most
  have hfl := G.inv.fnd.ok.free_lt
  have hsh : d.st.high = S.pgs.length := by rw [G.inv.st]; rfl
  have hsf : d.st.free = S.freed.length := by rw [G.inv.st]; rfl
  have HSH : Hid (d.st.high = S.pgs.length ∧ d.st.free = S.freed.length) := ⟨hsh, hsf⟩
  have HOK : Hid (S.Ok d.cnt) := G.inv.fnd.ok
  clear G hsh hsf
  unfold ptr
  go_enter Tryz.func18, Tryz.ntmps18
  go_wp2_with fail
  have HB0 : Hid (Below w.heap.size w (w.alloc (.cells #[.slice none 0 0, .slice none 0 0, .slice none 0 0] 39))) := (Below.refl _ _).alloc (Nat.le_refl _) _
  have HR0 : Hid ((w.alloc (.cells #[.slice none 0 0, .slice none 0 0, .slice none 0 0] 39)).heap[w.heap.size]? = some (.cells nil3 39 (0, 0))) := heap_alloc_new w _
  have HS0 : Hid ((w.alloc (.cells #[.slice none 0 0, .slice none 0 0, .slice none 0 0] 39)).heap.size = w.heap.size + 1) := by show _ = _; simp
  have HBE := gbegin (HG.out.below HB0.out)
  unfold ptr at HBE
  refine HBE.mono ?_
  rintro e w1 ⟨t, bt, rfl, hG1, hT1⟩
  have HG1 : Hid (GT W w1 A t bt K d S S false []) := hG1
  have HSI := (show Hid _ from si_start HB0.out HR0.out HS0.out hG1 hT1 HG.out.db.lt hp HG.out.bel.size)
  clear hT1 hG1 HBE HB0 HR0 HS0
  have HBP : Hid (Below w1.heap.size w1 (w1.alloc (.cells #[.int .i64 0, .string ⟨#[]⟩, .bool false] 83))) := (Below.refl _ _).alloc (Nat.le_refl _) _
  have HRT : Hid (∀ i : Int, Calls Tryz.prog 16 #[.pointer (some ⟨t, 0, none⟩), .int .i64 i] (w1.alloc (.cells #[.int .i64 0, .string ⟨#[]⟩, .bool false] 83)) fun e w' => e = .returned (.int .i64 (rootV S.stt i : Int)) ∧ w' = (w1.alloc (.cells #[.int .i64 0, .string ⟨#[]⟩, .bool false] 83))) := fun i => groot i (HG1.out.below HBP.out)
  go_wp2_with (go_at_call 16; refine (HRT.out _).mono ?_; rintro e wS ⟨rfl, hwS⟩; rw [hwS]; clear hwS wS)
  clear HRT HBP HG1 HG
  generalize World.alloc (World.alloc (World.alloc w1 _) _) _ = w2 at *
  generalize (.slice (some ⟨w1.heap.size, 0, none⟩) 1 1 : Value) = vP0 at *
  generalize w1.heap.size + 1 + 1 = q at *
  generalize w1.heap.size + 1 = rb at *
  go_loopw [7, 8, 9, 10] (fun s7 _ _ _ wr => ∃ (j : Nat) (vP : Value), 1 ≤ j ∧ j ≤ S.pgs.length ∧ s7 = .int .i64 (j : Int) ∧ SI W w wr A t bt K d S S [] w.heap.size q rb vP (.slice none 0 0) j []) (fun s7 _ _ _ _ => S.pgs.length - (intOf s7).toNat)
  case atStart => exact ⟨1, vP0, by omega, by omega, rfl, HSI.out⟩
  case round =>
    clear HSI
    obtain ⟨j, vP, hj1, hj, rfl, hI⟩ := hrel
    have HI : Hid (SI W w wr A t bt K d S S [] w.heap.size q rb vP (.slice none 0 0) j []) := hI
    clear hI
    have HHI := dhigh_any (A := A) (op := ptr t) (d := d) (w := wr) HI.out.g.tx.db
    rw [HSH.out.1] at HHI
    unfold ptr at HHI
    by_cases hjl : j < S.pgs.length
    · have dk : decide ((j : Int) < (S.pgs.length : Int)) = true := decide_eq_true (by omega)
      obtain ⟨o, ho⟩ : ∃ o, S.pgs[j]? = some o := ⟨_, List.getElem?_eq_getElem hjl⟩
      obtain ⟨kd, b, E, hth, hor⟩ := read_pg (d := d) HOK.out hj1 ho
      have HRD := gread (j : Int) HI.out.g
      rw [Int.toNat_natCast, hth] at HRD
      unfold ptr at HRD
      clear hth
      have HO : Hid (S.pgs[j]? = some o) := ho
      clear ho
      go_wp2_with (go_at_call 12; refine HHI.mono ?_; rintro e wS ⟨rfl, hwS⟩; rw [hwS]; clear hwS wS)
      refine HRD.mono ?_
      rintro e w3 ⟨rfl, hB3⟩
      have HI3 : Hid (SI W w w3 A t bt K d S S [] w.heap.size q rb vP (.slice none 0 0) j []) := HI.out.below hB3
      clear hB3 HRD HHI HI
      rcases hor with ⟨rfl, hpc⟩ | ⟨rfl, hpc⟩
      · have c0 : w3.cell? ⟨q, 0, none⟩ = some vP := (cell_of_row w3 q 0 _ _ (0, 0) HI3.out.box).trans rfl
        have hpo := HI3.out.pg
        obtain ⟨v', w4, hr, hO4, hg4, hv4⟩ := app_pg (w3.alloc (.cells (pgC o).toArray 83)) w.heap.size vP (S.pgs.take j) o w3.heap.size (own_alloc hpo _) (by rw [List.length_take]; omega) (by have := HI3.out.turn.chg.size; simp; omega) (heap_alloc_new _ _)
        obtain ⟨ad4, cp4, hve⟩ := own_slice hO4
        rw [hve] at hO4 hv4 hr
        have HFN : Hid (SI W w (w4.setCell ⟨q, 0, none⟩ (.slice ad4 (S.pgs.take j ++ [o]).length cp4)) A t bt K d S S [] w.heap.size q rb (.slice ad4 (S.pgs.take j ++ [o]).length cp4) (.slice none 0 0) (j + 1) []) := HI3.out.page HO.out hO4 hg4 hv4
        have hq4 : w4.heap[q]? = some (.cells (st3 vP (.slice none 0 0) rb) 39 (0, 0)) := by
          rw [hg4.block q (by have := HI3.out.lt q (by simp); simp; omega) (fun e => HI3.out.aP q e.symm (by simp)), Below.heap_alloc _ _ _ (HI3.out.lt q (by simp))]
          exact HI3.out.box
        have c4 : w4.cell? ⟨q, 0, none⟩ = some vP := (cell_of_row w4 q 0 _ _ (0, 0) hq4).trans rfl
        have z4 : w4.frozen? ⟨q, 0, none⟩ = false := frozen_of_row w4 q 0 _ _ hq4
        rw [hpc] at hr
        have HR4 := (show Hid _ from hr)
        clear hO4 hg4 hv4 hq4 hpo HI3 hpc hr hve
        generalize (S.pgs.take j ++ [o]).length = ln4 at *
        go_wp2_with (at_builtin; refine wpList_run_append rfl _ _ 36 rfl _ _ _ w4 rfl rfl HR4.out ?_)
        go_roundw
        case rel => exact ⟨j + 1, _, by omega, by omega, by go_num, HFN.out⟩
        case measure => (simp [intOf]) <;> omega
      · have c0 : w3.cell? ⟨q, 0, none⟩ = some vP := (cell_of_row w3 q 0 _ _ (0, 0) HI3.out.box).trans rfl
        have hpo := HI3.out.pg
        obtain ⟨v', w4, hr, hO4, hg4, hv4⟩ := app_pg (w3.alloc (.cells (pgC o).toArray 83)) w.heap.size vP (S.pgs.take j) o w3.heap.size (own_alloc hpo _) (by rw [List.length_take]; omega) (by have := HI3.out.turn.chg.size; simp; omega) (heap_alloc_new _ _)
        obtain ⟨ad4, cp4, hve⟩ := own_slice hO4
        rw [hve] at hO4 hv4 hr
        have HFN : Hid (SI W w (w4.setCell ⟨q, 0, none⟩ (.slice ad4 (S.pgs.take j ++ [o]).length cp4)) A t bt K d S S [] w.heap.size q rb (.slice ad4 (S.pgs.take j ++ [o]).length cp4) (.slice none 0 0) (j + 1) []) := HI3.out.page HO.out hO4 hg4 hv4
        have hq4 : w4.heap[q]? = some (.cells (st3 vP (.slice none 0 0) rb) 39 (0, 0)) := by
          rw [hg4.block q (by have := HI3.out.lt q (by simp); simp; omega) (fun e => HI3.out.aP q e.symm (by simp)), Below.heap_alloc _ _ _ (HI3.out.lt q (by simp))]
          exact HI3.out.box
        have c4 : w4.cell? ⟨q, 0, none⟩ = some vP := (cell_of_row w4 q 0 _ _ (0, 0) hq4).trans rfl
        have z4 : w4.frozen? ⟨q, 0, none⟩ = false := frozen_of_row w4 q 0 _ _ hq4
        rw [hpc] at hr
        have HR4 := (show Hid _ from hr)
        clear hO4 hg4 hv4 hq4 hpo HI3 hpc hr hve
        generalize (S.pgs.take j ++ [o]).length = ln4 at *
        go_wp2_with (at_builtin; refine wpList_run_append rfl _ _ 36 rfl _ _ _ w4 rfl rfl HR4.out ?_)
        go_roundw
        case rel => exact ⟨j + 1, _, by omega, by omega, by go_num, HFN.out⟩
        case measure => (simp [intOf]) <;> omega
    · have dk : decide ((j : Int) < (S.pgs.length : Int)) = false := decide_eq_false (by omega)
      have hjj : j = S.pgs.length := by omega
      have HI2 : Hid (SI W w wr A t bt K d S S [] w.heap.size q rb vP (.slice none 0 0) S.pgs.length []) := by rw [← hjj]; exact HI.out
      have HFR := dfree_any (A := A) (op := ptr t) (d := d) (w := wr) HI.out.g.tx.db
      rw [HSH.out.2] at HFR
      unfold ptr at HFR
      clear hjj hj hj1 HI
      go_wp2_with (first | (go_at_call 12; refine HHI.mono ?_; rintro e wS ⟨rfl, hwS⟩; rw [hwS]; clear hwS wS) | (go_at_call 13; refine HFR.mono ?_; rintro e wS ⟨rfl, hwS⟩; rw [hwS]; clear hwS wS))
      clear HHI HFR dk hjl
      go_loopw [11, 12, 69] (fun _ _ s69 wr => ∃ (i : Nat) (tm : Pd.Mp) (vF : Value), i ≤ S.freed.length ∧ s69 = .int .i64 (i : Int) ∧ SI W w wr A t bt K d S (alN S d.cnt i) tm w.heap.size q rb vP vF S.pgs.length (S.freed.drop (S.freed.length - i))) (fun _ _ s69 _ => S.freed.length - (intOf s69).toNat)
      case atStart => exact ⟨0, [], .slice none 0 0, by omega, rfl, by rw [Nat.sub_zero, List.drop_length]; exact HI2.out⟩
      case round =>
        clear HI2
        obtain ⟨i, tm, vF, hi, rfl, hI⟩ := hrel
        have HI : Hid (SI W w wr A t bt K d S (alN S d.cnt i) tm w.heap.size q rb vP vF S.pgs.length (S.freed.drop (S.freed.length - i))) := hI
        clear hI
        by_cases hil : i < S.freed.length
        · have dk : decide ((i : Int) < (S.freed.length : Int)) = true := decide_eq_true (by omega)
          obtain ⟨hR, hN⟩ := alN_next S d.cnt i hil
          have HA := galloc HI.out.g
          rw [hR] at HA
          unfold ptr at HA
          have HN : Hid (alI (alN S d.cnt i) d.cnt :: S.freed.drop (S.freed.length - i) = S.freed.drop (S.freed.length - (i + 1))) := hN
          clear hN hR
          go_wp2_with fail
          refine HA.mono ?_
          rintro e w3 ⟨rfl, hG3, hT3⟩
          have HI3 := (show Hid (SI W w w3 A t bt K d S (alN S d.cnt (i + 1)) _ w.heap.size q rb vP vF S.pgs.length (S.freed.drop (S.freed.length - i))) from HI.out.step hT3 hG3)
          clear hG3 hT3 HA HI
          generalize alM (alN S d.cnt i) tm d.cnt = tm3 at *
          generalize alI (alN S d.cnt i) d.cnt = id at *
          have c1 : (w3.alloc (.cells #[.int .i64 (id : Int)] 3)).cell? ⟨q, 1, none⟩ = some vF := by
            rw [World.cell?_of_block (Below.heap_alloc _ _ _ (HI3.out.lt q (by simp)))]
            exact (cell_of_row w3 q 1 _ _ (0, 0) HI3.out.box).trans rfl
          have hpo := HI3.out.fr
          obtain ⟨v', w4, hr, hO4, hg4, hv4⟩ := app_int (w3.alloc (.cells #[.int .i64 (id : Int)] 3)) w.heap.size vF (S.freed.drop (S.freed.length - i)) id w3.heap.size (own_alloc hpo _) (by rw [List.length_drop]; omega) (by have := HI3.out.turn.chg.size; omega) (by have := HI3.out.turn.chg.size; simp; omega) (heap_alloc_new _ _)
          obtain ⟨ad4, cp4, hve⟩ := own_slice hO4
          rw [hve] at hO4 hv4 hr
          have HFN : Hid (SI W w (w4.setCell ⟨q, 1, none⟩ (.slice ad4 (id :: S.freed.drop (S.freed.length - i)).length cp4)) A t bt K d S (alN S d.cnt (i + 1)) tm3 w.heap.size q rb vP (.slice ad4 (id :: S.freed.drop (S.freed.length - i)).length cp4) S.pgs.length (S.freed.drop (S.freed.length - (i + 1)))) := (by rw [← HN.out]; exact HI3.out.ahead hO4 hg4 hv4)
          have hq4 : w4.heap[q]? = some (.cells (st3 vP vF rb) 39 (0, 0)) := by
            have hql := HI3.out.lt q (by simp)
            rw [hg4.block q (by simp; omega) (fun e => by have := Option.some.inj e; omega), Below.heap_alloc _ _ _ hql]
            exact HI3.out.box
          have c4 : w4.cell? ⟨q, 1, none⟩ = some vF := (cell_of_row w4 q 1 _ _ (0, 0) hq4).trans rfl
          have z4 : w4.frozen? ⟨q, 1, none⟩ = false := frozen_of_row w4 q 1 _ _ hq4
          have HR4 := (show Hid _ from hr)
          clear hO4 hg4 hv4 hq4 hpo HI3 HN hr hve
          generalize (id :: S.freed.drop (S.freed.length - i)).length = ln4 at *
          go_wp2_with (at_builtin; refine wpList_run_append rfl _ _ 37 rfl _ _ _ w4 rfl rfl HR4.out ?_)
          go_roundw
          case rel => exact ⟨i + 1, tm3, _, by omega, by go_num, HFN.out⟩
          case measure => (simp [intOf]) <;> omega
        · have dk : decide ((i : Int) < (S.freed.length : Int)) = false := decide_eq_false (by omega)
          have hii : i = S.freed.length := by omega
          have HI2 : Hid (SI W w wr A t bt K d S (alN S d.cnt i) tm w.heap.size q rb vP vF S.pgs.length S.freed) := by
            have := HI.out
            rw [show S.freed.length - i = 0 by omega, List.drop_zero] at this
            exact this
          clear HI hii hi
          obtain ⟨aP, cP, hvP⟩ := own_slice HI2.out.pg
          obtain ⟨aF, cF, hvF⟩ := own_slice HI2.out.fr
          rw [hvP, hvF] at HI2
          generalize (S.pgs.take S.pgs.length).length = nP at *
          generalize hnf : S.freed.length = nF at HI2
          clear hvP hvF
          have HAB := gabort HI2.out.g
          unfold ptr at HAB
          go_wp2_with fail
          refine HAB.mono ?_
          rintro e w3 ⟨rfl, hG3, hE3, hT3⟩
          have HE := (show Hid _ from si_end HI2.out hG3 hT3)
          clear hG3 hE3 hT3 HAB HI2 hnf
          have c0 : w3.cell? ⟨q, 0, none⟩ = some (.slice aP nP cP) := (cell_of_row w3 q 0 _ _ (0, 0) HE.out.box).trans rfl
          have c1 : w3.cell? ⟨q, 1, none⟩ = some (.slice aF nF cF) := (cell_of_row w3 q 1 _ _ (0, 0) HE.out.box).trans rfl
          have c2 : w3.cell? ⟨q, 2, none⟩ = some (.slice (some ⟨rb, 0, none⟩) 4 4) := (cell_of_row w3 q 2 _ _ (0, 0) HE.out.box).trans rfl
          have r0 : w3.cell? ⟨w.heap.size, 0, none⟩ = some (.slice none 0 0) := (cell_of_row w3 _ 0 _ _ (0, 0) HE.out.res).trans rfl
          have r1 : w3.cell? ⟨w.heap.size, 1, none⟩ = some (.slice none 0 0) := (cell_of_row w3 _ 1 _ _ (0, 0) HE.out.res).trans rfl
          have r2 : w3.cell? ⟨w.heap.size, 2, none⟩ = some (.slice none 0 0) := (cell_of_row w3 _ 2 _ _ (0, 0) HE.out.res).trans rfl
          have z0 : ∀ i, w3.frozen? ⟨w.heap.size, i, none⟩ = false := fun i => frozen_of_row w3 _ i _ _ HE.out.res
          have HF := (show Hid _ from HE.out.fin)
          have HRW := (show Hid _ from HE.out.finrow)
          go_wp2
          refine bodyPost_ret (results_sta Tryz.results18 _ _ w.heap.size 39 _ _ _ _ rfl rfl HRW.out) rfl ?_
          exact HF.out
end
end Go.Proofs.YtcfninpokngmlaaGreatDoor
