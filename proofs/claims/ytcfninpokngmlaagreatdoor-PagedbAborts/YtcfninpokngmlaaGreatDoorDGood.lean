/- Proved: a database and its transaction between calls: what each call makes of them (stage 10). -/
import Derived.Test.YtcfninpokngmlaaGreatDoorDOps
namespace Go.Proofs.YtcfninpokngmlaaGreatDoor
open Go.RowKit
def wrM (T : Pd.Ab) (tm : Pd.Mp) (id k : Int) (b : ByteArray) : Pd.Mp := if wrR T id k b = 0 then Pd.set tm id.toNat ⟨k.toNat, b⟩ else tm
def frM (T : Pd.Ab) (tm : Pd.Mp) (id : Int) : Pd.Mp := if frR T id = 0 then Pd.set (Pd.set tm id.toNat (Pd.freeSheet T.stt.last)) 0 (T.free id.toNat).stt.sheet else tm
def alM (T : Pd.Ab) (tm : Pd.Mp) (cnt : Nat) : Pd.Mp := if alR T cnt = 0 then Pd.set (Pd.set tm T.allocI Pd.page1) 0 T.alloc.stt.sheet else tm
def srM (T : Pd.Ab) (tm : Pd.Mp) (i n : Int) : Pd.Mp := if setrootR i n = 0 then Pd.set tm 0 (T.root i.toNat n.toNat).stt.sheet else tm
/- an idle database; all of it behind the memory of W -/
structure GD (W w : World) (A : Ad) (K : Nat) (d : Pd.Db) (S : Pd.Ab) : Prop where
  db : Dbw w A nilP d
  inv : Pd.Inv K d S
  bel : Below W.heap.size W w
  new : ∀ k ∈ A.ft, W.heap.size ≤ k
structure GT (W w : World) (A : Ad) (t bt K : Nat) (d : Pd.Db) (S T : Pd.Ab) (sp : Bool) (tm : Pd.Mp) : Prop where
  tx : Txw w A t bt d ⟨T.stt, tm, sp⟩
  inv : Pd.Inv K d S
  txi : Pd.TxI d.cnt S T tm
  bel : Below W.heap.size W w
  new : ∀ k ∈ tft A t bt, W.heap.size ≤ k
section
variable {W w w' : World} {A : Ad} {t bt K : Nat} {d : Pd.Db} {S T : Pd.Ab} {sp : Bool} {tm : Pd.Mp}
theorem fits_of (I : Pd.Inv K d S) : Fits d := ⟨I.down, I.fnd.room, I.n2.2.2, I.n2.2.1, I.lost⟩
theorem GD.below (G : GD W w A K d S) (hB : Below w.heap.size w w') : GD W w' A K d S := ⟨G.db.below hB, G.inv, G.bel.trans (hB.mono G.bel.size), G.new⟩
theorem GT.below (G : GT W w A t bt K d S T sp tm) (hB : Below w.heap.size w w') : GT W w' A t bt K d S T sp tm := ⟨G.tx.below hB, G.inv, G.txi, G.bel.trans (hB.mono G.bel.size), G.new⟩
theorem GT.hh (G : GT W w A t bt K d S T sp tm) : T.pgs.length ≤ d.cnt := G.txi.ok.most
theorem GT.ml (G : GT W w A t bt K d S T sp tm) : tm.length ≤ 1000 := Nat.le_trans G.txi.length G.inv.n2.2.2
theorem GT.sees (G : GT W w A t bt K d S T sp tm) (id : Int) : ∀ i : Nat, id = (i : Int) → 1 ≤ i → i < T.pgs.length → Pd.TSees ⟨T.stt, tm, sp⟩ d i (T.sh id.toNat) := fun i e h1 h2 => by
  have : id.toNat = i := by omega
  rw [this]
  exact tsees G.inv G.txi h1 h2
theorem GT.turned {T' : Pd.Ab} {sp' : Bool} {tm' : Pd.Mp} (G : GT W w A t bt K d S T sp tm) (hX : Txw w' A t bt d ⟨T'.stt, tm', sp'⟩) (hT : Turn (tft A t bt) (tft A t bt) w w') (hI : Pd.TxI d.cnt S T' tm') : GT W w' A t bt K d S T' sp' tm' :=
  ⟨hX, G.inv, hI, G.bel.trans (hT.below G.new G.bel.size), G.new⟩
theorem gbegin (G : GD W w A K d S) : Calls Tryz.prog 24 #[ptr A.x] w fun e w' => ∃ t bt, e = .returned (.tuple #[ptr t, .int .i64 0]) ∧ GT W w' A t bt K d S S false [] ∧ Turn A.ft (tft A t bt) w w' := by
  refine (begin_ok A d w G.db G.inv.lost).mono ?_
  rintro e w' ⟨t, bt, rfl, hX, hC, ht, hbt⟩
  have hs := G.bel.size
  have e1 : tx0 d = ⟨S.stt, [], false⟩ := by unfold tx0; rw [G.inv.st]
  rw [e1] at hX
  have hn : ∀ k ∈ tft A t bt, W.heap.size ≤ k := fun k hk => by
    rcases List.mem_cons.1 hk with rfl | hk
    · omega
    · rcases List.mem_cons.1 hk with rfl | hk
      · omega
      · exact G.new k hk
  refine ⟨t, bt, rfl, ⟨hX, G.inv, Pd.TxI.start G.inv.fnd.ok, G.bel.trans (hC.below G.new hs), hn⟩, hC, fun k hk => ?_⟩
  rcases List.mem_cons.1 hk with rfl | hk
  · exact .inr ht
  · rcases List.mem_cons.1 hk with rfl | hk
    · exact .inr hbt
    · exact .inl hk
theorem gread (id : Int) (G : GT W w A t bt K d S T sp tm) : Calls Tryz.prog 26 #[ptr t, .int .i64 id] w fun e w' => e = .returned (.tuple #[.int .i64 ((thereR T.pgs.length id (T.sh id.toNat)).1.kind : Int), .string (thereR T.pgs.length id (T.sh id.toNat)).1.body, .int .i64 (thereR T.pgs.length id (T.sh id.toNat)).2]) ∧ Below w.heap.size w w' :=
  tread_any A t bt d ⟨T.stt, tm, sp⟩ w id (T.sh id.toNat) G.tx (fits_of G.inv) G.hh (G.sees id)
theorem gwrite (id k : Int) (b : ByteArray) (G : GT W w A t bt K d S T sp tm) : Calls Tryz.prog 30 #[ptr t, .int .i64 id, .int .i64 k, .string b] w fun e w' => e = .returned (.int .i64 (wrR T id k b)) ∧ GT W w' A t bt K d S (wrA T id k b) sp (wrM T tm id k b) ∧ Turn (tft A t bt) (tft A t bt) w w' := by
  refine (twrite_any A t bt d ⟨T.stt, tm, sp⟩ w id k b (T.sh id.toNat) G.tx (fits_of G.inv) G.hh (by have := G.ml; show tm.length ≤ _; omega) (G.sees id)).mono ?_
  rintro e w' ⟨rfl, hX, hT⟩
  refine ⟨rfl, ?_, hT⟩
  have hR : writeR T.pgs.length id k b (T.sh id.toNat) = wrR T id k b := rfl
  have hX : Txw w' A t bt d (writeU ⟨T.stt, tm, sp⟩ (wrR T id k b) id k b) := hX
  unfold wrA wrM
  by_cases h : wrR T id k b = 0
  · rw [if_pos h, if_pos h]
    obtain ⟨h1, h2, h3, h4⟩ := write_zero h
    obtain ⟨h5, h6, h7, y, hy⟩ := there_zero h1
    unfold writeU at hX
    rw [if_pos h] at hX
    have hst : (T.write id.toNat ⟨k.toNat, b⟩).stt = T.stt := by unfold Pd.Ab.stt Pd.Ab.write; simp
    refine G.turned (by rw [hst]; exact hX) hT (G.txi.write h5 hy ⟨⟨?_, ?_, h4⟩, ?_⟩)
    · show 1 ≤ k.toNat; omega
    · show k.toNat ≤ 255; omega
    · show k.toNat ≤ 254; omega
  · rw [if_neg h, if_neg h]
    unfold writeU at hX
    rw [if_neg h] at hX
    exact G.turned hX hT G.txi
theorem gfree (id : Int) (G : GT W w A t bt K d S T sp tm) : Calls Tryz.prog 31 #[ptr t, .int .i64 id] w fun e w' => e = .returned (.int .i64 (frR T id)) ∧ GT W w' A t bt K d S (frA T id) sp (frM T tm id) ∧ Turn (tft A t bt) (tft A t bt) w w' := by
  have hfl := G.txi.ok.free_lt
  have hm := G.hh
  have hc := G.inv.n2.2.2
  refine (tfree_any A t bt d ⟨T.stt, tm, sp⟩ w id (T.sh id.toNat) G.tx (fits_of G.inv) G.hh (by have := G.ml; show tm.length ≤ _; omega) (by show T.freed.length ≤ 1000; omega) (G.sees id)).mono ?_
  rintro e w' ⟨rfl, hX, hT⟩
  refine ⟨rfl, ?_, hT⟩
  have hX : Txw w' A t bt d (freeU ⟨T.stt, tm, sp⟩ (frR T id) id) := hX
  unfold frA frM
  by_cases h : frR T id = 0
  · rw [if_pos h, if_pos h]
    obtain ⟨h5, h6, h7, y, hy⟩ := there_zero h
    unfold freeU at hX
    rw [if_pos h] at hX
    simp only [free_stt] at hX
    exact G.turned hX hT (G.txi.free h5 hy)
  · rw [if_neg h, if_neg h]
    unfold freeU at hX
    rw [if_neg h] at hX
    exact G.turned hX hT G.txi
theorem gsetroot (i n : Int) (G : GT W w A t bt K d S T sp tm) : Calls Tryz.prog 32 #[ptr t, .int .i64 i, .int .i64 n] w fun e w' => e = .returned (.int .i64 (setrootR i n)) ∧ GT W w' A t bt K d S (srA T i n) sp (srM T tm i n) ∧ Turn (tft A t bt) (tft A t bt) w w' := by
  refine (tsetroot_any A t bt d ⟨T.stt, tm, sp⟩ w i n G.tx (fits_of G.inv) (by have := G.ml; show tm.length ≤ _; omega)).mono ?_
  rintro e w' ⟨rfl, hX, hT⟩
  refine ⟨rfl, ?_, hT⟩
  unfold srA srM
  by_cases h : setrootR i n = 0
  · rw [if_pos h, if_pos h]
    unfold rootU at hX
    rw [if_pos h] at hX
    simp only [root_stt] at hX
    have hn : ¬ (isR i = false ∨ n < 0 ∨ 2147483647 < n) := fun e => by unfold setrootR at h; rw [if_pos e] at h; cases h
    exact G.turned hX hT (G.txi.root _ _ (by omega))
  · rw [if_neg h, if_neg h]
    unfold rootU at hX
    rw [if_neg h] at hX
    exact G.turned hX hT G.txi
theorem galloc (G : GT W w A t bt K d S T sp tm) : Calls Tryz.prog 27 #[ptr t] w fun e w' => e = .returned (.tuple #[.int .i64 (alI T d.cnt : Int), .int .i64 (alR T d.cnt)]) ∧ GT W w' A t bt K d S (alA T d.cnt) sp (alM T tm d.cnt) ∧ Turn (tft A t bt) (tft A t bt) w w' := by
  have hml := G.ml
  have hm := G.hh
  have hc := G.inv.n2.2.2
  have hfl := G.txi.ok.free_lt
  by_cases hf : T.freed = []
  · have h0 : T.stt.last = 0 := by show T.freed.getLast?.getD 0 = 0; rw [hf]; rfl
    by_cases hh : d.cnt ≤ T.pgs.length
    · have hR : alR T d.cnt = 7 := by unfold alR; rw [if_pos ⟨hf, hh⟩]
      have hne : ¬ alR T d.cnt = 0 := by rw [hR]; decide
      refine (talloc_full A t bt d ⟨T.stt, tm, sp⟩ w G.tx (fits_of G.inv) h0 hh).mono ?_
      rintro e w' ⟨rfl, rfl⟩
      unfold alA alM alI
      rw [if_neg hne, if_neg hne, if_neg hne, hR]
      exact ⟨rfl, G, Turn.refl _ _⟩
    · have hR : alR T d.cnt = 0 := by unfold alR; rw [if_neg (fun h => hh h.2)]
      refine (talloc_high A t bt d ⟨T.stt, tm, sp⟩ w G.tx (fits_of G.inv) (by show tm.length ≤ _; omega) h0 (by show T.pgs.length < _; omega)).mono ?_
      rintro e w' ⟨rfl, hX, hT⟩
      have hI : T.allocI = T.pgs.length := by unfold Pd.Ab.allocI; rw [if_pos hf]
      unfold alA alM alI
      rw [if_pos hR, if_pos hR, if_pos hR, hR, hI]
      refine ⟨rfl, ?_, hT⟩
      have h := G.txi.alloc (fun _ => by omega)
      rw [hI] at h
      refine G.turned ?_ hT h
      have hX : Txw w' A t bt d ⟨upSt T.stt, Pd.set (Pd.set tm T.pgs.length Pd.page1) 0 (upSt T.stt).sheet, sp⟩ := hX
      rw [up_stt hf] at hX
      exact hX
  · have hR : alR T d.cnt = 0 := by unfold alR; rw [if_neg (fun h => hf h.1)]
    have hmem := Pd.last_mem_of hf
    have hlt := G.txi.ok.flt hmem
    have hok := G.txi.ok.alloc (fun h => absurd h hf)
    have hpos : 1 ≤ T.freed.length := by
      cases hq : T.freed with
      | nil => exact absurd hq hf
      | cons a l => rw [List.length_cons]; omega
    have hI : T.allocI = T.freed.getLast?.getD 0 := by unfold Pd.Ab.allocI; rw [if_neg hf]
    have hS := tsees (sp := sp) G.inv G.txi hlt.1 hlt.2
    rw [Pd.Ab.last_sh G.txi.ok hf] at hS
    refine (talloc_last A t bt d ⟨T.stt, tm, sp⟩ w (T.freed.dropLast.getLast?.getD 0) G.tx (fits_of G.inv) (by show tm.length ≤ _; omega) (by show T.freed.getLast?.getD 0 ≠ 0; omega) (by show T.freed.getLast?.getD 0 < _; omega) hpos (by show T.freed.length ≤ _; omega) (by rw [un_stt hf]; exact hok.small_stt) hS).mono ?_
    rintro e w' ⟨rfl, hX, hT⟩
    unfold alA alM alI
    rw [if_pos hR, if_pos hR, if_pos hR, hR, hI]
    refine ⟨rfl, ?_, hT⟩
    have h := G.txi.alloc (fun h => absurd h hf)
    rw [hI] at h
    refine G.turned ?_ hT h
    have hX : Txw w' A t bt d ⟨unSt T.stt (T.freed.dropLast.getLast?.getD 0), Pd.set (Pd.set tm (T.freed.getLast?.getD 0) Pd.page1) 0 (unSt T.stt (T.freed.dropLast.getLast?.getD 0)).sheet, sp⟩ := hX
    rw [un_stt hf] at hX
    exact hX
theorem groot (i : Int) (G : GT W w A t bt K d S T sp tm) : Calls Tryz.prog 16 #[ptr t, .int .i64 i] w fun e w' => e = .returned (.int .i64 (rootV T.stt i : Int)) ∧ w' = w := root_any A t bt d ⟨T.stt, tm, sp⟩ w i G.tx
theorem gabort (G : GT W w A t bt K d S T sp tm) : Calls Tryz.prog 28 #[ptr t] w fun e w' => e = .returned (.tuple #[]) ∧ GD W w' A K d S ∧ TxEnd w' t ∧ Turn (tft A t bt) A.ft w w' := by
  refine (tabort_any A t bt d _ w G.tx).mono ?_
  rintro e w' ⟨rfl, hX, hE, hC⟩
  exact ⟨rfl, ⟨hX, G.inv, G.bel.trans (hC.below G.new G.bel.size), fun k hk => G.new k (tft_a hk)⟩, hE, hC, fun k hk => .inl (tft_a hk)⟩
end
end Go.Proofs.YtcfninpokngmlaaGreatDoor
