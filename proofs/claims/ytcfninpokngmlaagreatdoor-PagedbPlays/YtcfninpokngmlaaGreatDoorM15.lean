/- Proved: a database and its transaction between calls: what each call makes of them (stage 10). -/
import Derived.Test.YtcfninpokngmlaaGreatDoorM14
import Derived.Test.YtcfninpokngmlaaGreatDoorRows
import Derived.ProofKit
import Derived.OpenShut
import Derived.ShutString
import Derived.ChangeOld
import Derived.Below
import Derived.LaidMore
import Derived.Lay
import Derived.HandedShaped
import Derived.Stop.Joined
import Derived.Lib.LaidTab
import Derived.Lib.LaidU8
import Derived.Lib.SmallJoins
import Derived.ChangeMaps5
import Derived.Deep.Slices
import Derived.Deep.Grids
import Derived.SliceStrings
import Derived.Maps.AppendAt
import Derived.Deep.AppendSrc
namespace Go.Proofs.YtcfninpokngmlaaGreatDoor
open Go.RowKit
def wrM (T : Pd.Ab) (tm : Pd.Mp) (id k : Int) (b : ByteArray) : Pd.Mp := if wrR T id k b = 0 then Pd.set tm id.toNat ⟨k.toNat, b⟩ else tm
def frM (T : Pd.Ab) (tm : Pd.Mp) (id : Int) : Pd.Mp := if frR T id = 0 then Pd.set (Pd.set tm id.toNat (Pd.freeSheet T.stt.last)) 0 (T.free id.toNat).stt.sheet else tm
def alM (T : Pd.Ab) (tm : Pd.Mp) (cnt : Nat) : Pd.Mp := if alR T cnt = 0 then Pd.set (Pd.set tm T.allocI Pd.page1) 0 T.alloc.stt.sheet else tm
def srM (T : Pd.Ab) (tm : Pd.Mp) (i n : Int) : Pd.Mp := if setrootR i n = 0 then Pd.set tm 0 (T.root i.toNat n.toNat).stt.sheet else tm
/- an idle database; all of it behind the memory of W -/
structure GD (W w : World) (A : Ad) (K : Nat) (d : Pd.Db) (S : Pd.Ab) : Prop where
  db : Dbw w A nilP d
  inv : Pd.Inv K d S
  bel : Below W.heap.size W w
  new : ∀ k ∈ A.ft, W.heap.size ≤ k
structure GT (W w : World) (A : Ad) (t bt K : Nat) (d : Pd.Db) (S T : Pd.Ab) (sp : Bool) (tm : Pd.Mp) : Prop where
  tx : Txw w A t bt d ⟨T.stt, tm, sp⟩
  inv : Pd.Inv K d S
  txi : Pd.TxI d.cnt S T tm
  bel : Below W.heap.size W w
  new : ∀ k ∈ tft A t bt, W.heap.size ≤ k
section
variable {W w w' : World} {A : Ad} {t bt K : Nat} {d : Pd.Db} {S T : Pd.Ab} {sp : Bool} {tm : Pd.Mp}
theorem fits_of (I : Pd.Inv K d S) : Fits d := ⟨I.down, I.fnd.room, I.n2.2.2, I.n2.2.1, I.lost⟩
theorem GD.below (G : GD W w A K d S) (hB : Below w.heap.size w w') : GD W w' A K d S := ⟨G.db.below hB, G.inv, G.bel.trans (hB.mono G.bel.size), G.new⟩
theorem GT.below (G : GT W w A t bt K d S T sp tm) (hB : Below w.heap.size w w') : GT W w' A t bt K d S T sp tm := ⟨G.tx.below hB, G.inv, G.txi, G.bel.trans (hB.mono G.bel.size), G.new⟩
theorem GT.hh (G : GT W w A t bt K d S T sp tm) : T.pgs.length ≤ d.cnt := G.txi.ok.most
theorem GT.ml (G : GT W w A t bt K d S T sp tm) : tm.length ≤ 1000 := Nat.le_trans G.txi.length G.inv.n2.2.2
theorem GT.sees (G : GT W w A t bt K d S T sp tm) (id : Int) : ∀ i : Nat, id = (i : Int) → 1 ≤ i → i < T.pgs.length → Pd.TSees ⟨T.stt, tm, sp⟩ d i (T.sh id.toNat) := fun i e h1 h2 => by
  have : id.toNat = i := by omega
  rw [this]
  exact tsees G.inv G.txi h1 h2
theorem GT.turned {T' : Pd.Ab} {sp' : Bool} {tm' : Pd.Mp} (G : GT W w A t bt K d S T sp tm) (hX : Txw w' A t bt d ⟨T'.stt, tm', sp'⟩) (hT : Turn (tft A t bt) (tft A t bt) w w') (hI : Pd.TxI d.cnt S T' tm') : GT W w' A t bt K d S T' sp' tm' :=
  ⟨hX, G.inv, hI, G.bel.trans (hT.below G.new G.bel.size), G.new⟩
theorem gbegin (G : GD W w A K d S) : Calls Tryz.prog 24 #[ptr A.x] w fun e w' => ∃ t bt, e = .returned (.tuple #[ptr t, .int .i64 0]) ∧ GT W w' A t bt K d S S false [] ∧ Turn A.ft (tft A t bt) w w' := by
  refine (begin_ok A d w G.db G.inv.lost).mono ?_
  rintro e w' ⟨t, bt, rfl, hX, hC, ht, hbt⟩
  have hs := G.bel.size
  have e1 : tx0 d = ⟨S.stt, [], false⟩ := by unfold tx0; rw [G.inv.st]
  rw [e1] at hX
  have hn : ∀ k ∈ tft A t bt, W.heap.size ≤ k := fun k hk => by
    rcases List.mem_cons.1 hk with rfl | hk
    · omega
    · rcases List.mem_cons.1 hk with rfl | hk
      · omega
      · exact G.new k hk
  refine ⟨t, bt, rfl, ⟨hX, G.inv, Pd.TxI.start G.inv.fnd.ok, G.bel.trans (hC.below G.new hs), hn⟩, hC, fun k hk => ?_⟩
  rcases List.mem_cons.1 hk with rfl | hk
  · exact .inr ht
  · rcases List.mem_cons.1 hk with rfl | hk
    · exact .inr hbt
    · exact .inl hk
theorem gread (id : Int) (G : GT W w A t bt K d S T sp tm) : Calls Tryz.prog 26 #[ptr t, .int .i64 id] w fun e w' => e = .returned (.tuple #[.int .i64 ((thereR T.pgs.length id (T.sh id.toNat)).1.kind : Int), .string (thereR T.pgs.length id (T.sh id.toNat)).1.body, .int .i64 (thereR T.pgs.length id (T.sh id.toNat)).2]) ∧ Below w.heap.size w w' :=
  tread_any A t bt d ⟨T.stt, tm, sp⟩ w id (T.sh id.toNat) G.tx (fits_of G.inv) G.hh (G.sees id)
theorem gwrite (id k : Int) (b : ByteArray) (G : GT W w A t bt K d S T sp tm) : Calls Tryz.prog 30 #[ptr t, .int .i64 id, .int .i64 k, .string b] w fun e w' => e = .returned (.int .i64 (wrR T id k b)) ∧ GT W w' A t bt K d S (wrA T id k b) sp (wrM T tm id k b) ∧ Turn (tft A t bt) (tft A t bt) w w' := by
  refine (twrite_any A t bt d ⟨T.stt, tm, sp⟩ w id k b (T.sh id.toNat) G.tx (fits_of G.inv) G.hh (by have := G.ml; show tm.length ≤ _; omega) (G.sees id)).mono ?_
  rintro e w' ⟨rfl, hX, hT⟩
  refine ⟨rfl, ?_, hT⟩
  have hR : writeR T.pgs.length id k b (T.sh id.toNat) = wrR T id k b := rfl
  have hX : Txw w' A t bt d (writeU ⟨T.stt, tm, sp⟩ (wrR T id k b) id k b) := hX
  unfold wrA wrM
  by_cases h : wrR T id k b = 0
  · rw [if_pos h, if_pos h]
    obtain ⟨h1, h2, h3, h4⟩ := write_zero h
    obtain ⟨h5, h6, h7, y, hy⟩ := there_zero h1
    unfold writeU at hX
    rw [if_pos h] at hX
    have hst : (T.write id.toNat ⟨k.toNat, b⟩).stt = T.stt := by unfold Pd.Ab.stt Pd.Ab.write; simp
    refine G.turned (by rw [hst]; exact hX) hT (G.txi.write h5 hy ⟨⟨?_, ?_, h4⟩, ?_⟩)
    · show 1 ≤ k.toNat; omega
    · show k.toNat ≤ 255; omega
    · show k.toNat ≤ 254; omega
  · rw [if_neg h, if_neg h]
    unfold writeU at hX
    rw [if_neg h] at hX
    exact G.turned hX hT G.txi
theorem gfree (id : Int) (G : GT W w A t bt K d S T sp tm) : Calls Tryz.prog 31 #[ptr t, .int .i64 id] w fun e w' => e = .returned (.int .i64 (frR T id)) ∧ GT W w' A t bt K d S (frA T id) sp (frM T tm id) ∧ Turn (tft A t bt) (tft A t bt) w w' := by
  have hfl := G.txi.ok.free_lt
  have hm := G.hh
  have hc := G.inv.n2.2.2
  refine (tfree_any A t bt d ⟨T.stt, tm, sp⟩ w id (T.sh id.toNat) G.tx (fits_of G.inv) G.hh (by have := G.ml; show tm.length ≤ _; omega) (by show T.freed.length ≤ 1000; omega) (G.sees id)).mono ?_
  rintro e w' ⟨rfl, hX, hT⟩
  refine ⟨rfl, ?_, hT⟩
  have hX : Txw w' A t bt d (freeU ⟨T.stt, tm, sp⟩ (frR T id) id) := hX
  unfold frA frM
  by_cases h : frR T id = 0
  · rw [if_pos h, if_pos h]
    obtain ⟨h5, h6, h7, y, hy⟩ := there_zero h
    unfold freeU at hX
    rw [if_pos h] at hX
    simp only [free_stt] at hX
    exact G.turned hX hT (G.txi.free h5 hy)
  · rw [if_neg h, if_neg h]
    unfold freeU at hX
    rw [if_neg h] at hX
    exact G.turned hX hT G.txi
theorem gsetroot (i n : Int) (G : GT W w A t bt K d S T sp tm) : Calls Tryz.prog 32 #[ptr t, .int .i64 i, .int .i64 n] w fun e w' => e = .returned (.int .i64 (setrootR i n)) ∧ GT W w' A t bt K d S (srA T i n) sp (srM T tm i n) ∧ Turn (tft A t bt) (tft A t bt) w w' := by
  refine (tsetroot_any A t bt d ⟨T.stt, tm, sp⟩ w i n G.tx (fits_of G.inv) (by have := G.ml; show tm.length ≤ _; omega)).mono ?_
  rintro e w' ⟨rfl, hX, hT⟩
  refine ⟨rfl, ?_, hT⟩
  unfold srA srM
  by_cases h : setrootR i n = 0
  · rw [if_pos h, if_pos h]
    unfold rootU at hX
    rw [if_pos h] at hX
    simp only [root_stt] at hX
    have hn : ¬ (isR i = false ∨ n < 0 ∨ 2147483647 < n) := fun e => by unfold setrootR at h; rw [if_pos e] at h; cases h
    exact G.turned hX hT (G.txi.root _ _ (by omega))
  · rw [if_neg h, if_neg h]
    unfold rootU at hX
    rw [if_neg h] at hX
    exact G.turned hX hT G.txi
theorem galloc (G : GT W w A t bt K d S T sp tm) : Calls Tryz.prog 27 #[ptr t] w fun e w' => e = .returned (.tuple #[.int .i64 (alI T d.cnt : Int), .int .i64 (alR T d.cnt)]) ∧ GT W w' A t bt K d S (alA T d.cnt) sp (alM T tm d.cnt) ∧ Turn (tft A t bt) (tft A t bt) w w' := by
  have hml := G.ml
  have hm := G.hh
  have hc := G.inv.n2.2.2
  have hfl := G.txi.ok.free_lt
  by_cases hf : T.freed = []
  · have h0 : T.stt.last = 0 := by show T.freed.getLast?.getD 0 = 0; rw [hf]; rfl
    by_cases hh : d.cnt ≤ T.pgs.length
    · have hR : alR T d.cnt = 7 := by unfold alR; rw [if_pos ⟨hf, hh⟩]
      have hne : ¬ alR T d.cnt = 0 := by rw [hR]; decide
      refine (talloc_full A t bt d ⟨T.stt, tm, sp⟩ w G.tx (fits_of G.inv) h0 hh).mono ?_
      rintro e w' ⟨rfl, rfl⟩
      unfold alA alM alI
      rw [if_neg hne, if_neg hne, if_neg hne, hR]
      exact ⟨rfl, G, Turn.refl _ _⟩
    · have hR : alR T d.cnt = 0 := by unfold alR; rw [if_neg (fun h => hh h.2)]
      refine (talloc_high A t bt d ⟨T.stt, tm, sp⟩ w G.tx (fits_of G.inv) (by show tm.length ≤ _; omega) h0 (by show T.pgs.length < _; omega)).mono ?_
      rintro e w' ⟨rfl, hX, hT⟩
      have hI : T.allocI = T.pgs.length := by unfold Pd.Ab.allocI; rw [if_pos hf]
      unfold alA alM alI
      rw [if_pos hR, if_pos hR, if_pos hR, hR, hI]
      refine ⟨rfl, ?_, hT⟩
      have h := G.txi.alloc (fun _ => by omega)
      rw [hI] at h
      refine G.turned ?_ hT h
      have hX : Txw w' A t bt d ⟨upSt T.stt, Pd.set (Pd.set tm T.pgs.length Pd.page1) 0 (upSt T.stt).sheet, sp⟩ := hX
      rw [up_stt hf] at hX
      exact hX
  · have hR : alR T d.cnt = 0 := by unfold alR; rw [if_neg (fun h => hf h.1)]
    have hmem := Pd.last_mem_of hf
    have hlt := G.txi.ok.flt hmem
    have hok := G.txi.ok.alloc (fun h => absurd h hf)
    have hpos : 1 ≤ T.freed.length := by
      cases hq : T.freed with
      | nil => exact absurd hq hf
      | cons a l => rw [List.length_cons]; omega
    have hI : T.allocI = T.freed.getLast?.getD 0 := by unfold Pd.Ab.allocI; rw [if_neg hf]
    have hS := tsees (sp := sp) G.inv G.txi hlt.1 hlt.2
    rw [Pd.Ab.last_sh G.txi.ok hf] at hS
    refine (talloc_last A t bt d ⟨T.stt, tm, sp⟩ w (T.freed.dropLast.getLast?.getD 0) G.tx (fits_of G.inv) (by show tm.length ≤ _; omega) (by show T.freed.getLast?.getD 0 ≠ 0; omega) (by show T.freed.getLast?.getD 0 < _; omega) hpos (by show T.freed.length ≤ _; omega) (by rw [un_stt hf]; exact hok.small_stt) hS).mono ?_
    rintro e w' ⟨rfl, hX, hT⟩
    unfold alA alM alI
    rw [if_pos hR, if_pos hR, if_pos hR, hR, hI]
    refine ⟨rfl, ?_, hT⟩
    have h := G.txi.alloc (fun h => absurd h hf)
    rw [hI] at h
    refine G.turned ?_ hT h
    have hX : Txw w' A t bt d ⟨unSt T.stt (T.freed.dropLast.getLast?.getD 0), Pd.set (Pd.set tm (T.freed.getLast?.getD 0) Pd.page1) 0 (unSt T.stt (T.freed.dropLast.getLast?.getD 0)).sheet, sp⟩ := hX
    rw [un_stt hf] at hX
    exact hX
theorem groot (i : Int) (G : GT W w A t bt K d S T sp tm) : Calls Tryz.prog 16 #[ptr t, .int .i64 i] w fun e w' => e = .returned (.int .i64 (rootV T.stt i : Int)) ∧ w' = w := root_any A t bt d ⟨T.stt, tm, sp⟩ w i G.tx
theorem gabort (G : GT W w A t bt K d S T sp tm) : Calls Tryz.prog 28 #[ptr t] w fun e w' => e = .returned (.tuple #[]) ∧ GD W w' A K d S ∧ TxEnd w' t ∧ Turn (tft A t bt) A.ft w w' := by
  refine (tabort_any A t bt d _ w G.tx).mono ?_
  rintro e w' ⟨rfl, hX, hE, hC⟩
  exact ⟨rfl, ⟨hX, G.inv, G.bel.trans (hC.below G.new G.bel.size), fun k hk => G.new k (tft_a hk)⟩, hE, hC, fun k hk => .inl (tft_a hk)⟩
end
end Go.Proofs.YtcfninpokngmlaaGreatDoor
/- Proved: Commit, Checkpoint and Open of a database, whether the power goes within them or not (stage 10). -/
namespace Pd
open Wl
theorem wrs_ok : ∀ (l : List (Nat × ByteArray)) (s : Sc.St), Sc.Ok s → Sc.Ok (wrs l s).1
  | [], _, h => h
  | p :: l, s, h => by
    rw [wrs_cons]
    by_cases e : Sc.writeE s (p.1 : Int) p.2 = 0
    · rw [if_pos e]; exact wrs_ok l _ (Sc.writeS_ok h _ _)
    · rw [if_neg e]; exact Sc.writeS_ok h _ _
theorem hdS_ok {s : Sc.St} (h : Sc.Ok s) (base e l : Nat) : Sc.Ok (hdS s base e l) := by
  unfold hdS
  split
  · exact Sc.flushS_ok (Sc.writeS_ok h _ _)
  · exact Sc.writeS_ok h _ _
theorem resetS_ok {s : Sc.St} (h : Sc.Ok s) (l : Lg) : Sc.Ok (resetS l s) := by
  unfold resetS
  split
  · exact h
  · split
    · exact h
    · split
      · exact h
      · exact hdS_ok h _ _ _
theorem setT_ok {d : Db} (h : Sc.Ok d.s) : Sc.Ok (setT d).1.s := by
  have h1 : Sc.Ok (setW d).1 := wrs_ok _ _ h
  unfold setT
  split
  · exact h
  · split
    · split
      · exact resetS_ok (Sc.flushS_ok h1) _
      · exact Sc.flushS_ok h1
    · exact h1
theorem takeA_ok {d : Db} (h : Sc.Ok d.s) (tm : Mp) : Sc.Ok (takeA d tm).1.s := by
  unfold takeA
  split
  · exact setT_ok h
  · exact h
theorem hdS_pend (s : Sc.St) (base e l : Nat) : (hdS s base e l).pend.length ≤ s.pend.length + 2 ∧ (hdS s base e l).dn ≤ s.dn + 2 := by
  have h1 := Sc.writeS_step s (base : Int) (head e l)
  have h2 := Sc.flushS_step (Sc.writeS s (base : Int) (head e l))
  have a1 := h1.pend
  have a2 := h2.pend
  have a3 := h1.dn
  have a4 := h2.dn
  unfold hdS
  split <;> exact ⟨by omega, by omega⟩
theorem resetS_pend (l : Lg) (s : Sc.St) : (resetS l s).pend.length ≤ s.pend.length + 2 ∧ (resetS l s).dn ≤ s.dn + 2 := by
  have := hdS_pend s l.base (l.epoch + 1) 0
  unfold resetS
  split
  · exact ⟨by omega, by omega⟩
  · split
    · exact ⟨by omega, by omega⟩
    · split
      · exact ⟨by omega, by omega⟩
      · exact this
theorem lose_n (l : Lg) (e : Int) : (lose l e).n = l.n := by unfold lose; split <;> rfl
theorem resetL_n (l : Lg) (s : Sc.St) : (resetL l s).n = l.n := by
  unfold resetL
  split
  · rfl
  · split
    · rfl
    · split
      · rfl
      · split
        · rfl
        · exact lose_n _ _
theorem setT_more (d : Db) : (setT d).1.s.pend.length ≤ d.s.pend.length + 8 * d.m.length + 3 ∧ (setT d).1.s.dn ≤ d.s.dn + 8 * d.m.length + 3 ∧ (setT d).1.l.n = d.l.n := by
  have h1 := wrs_step (wrAll d.n d.m) d.s
  rw [wrAll_length] at h1
  have h2 : (setW d).1.dn ≤ d.s.dn + 8 * d.m.length ∧ (setW d).1.pend.length ≤ d.s.pend.length + 8 * d.m.length := h1.2
  have h3 := Sc.flushS_step (setW d).1
  have h4 := h3.pend
  have h5 := h3.dn
  have h6 := resetS_pend d.l (Sc.flushS (setW d).1)
  unfold setT
  split
  · exact ⟨by simp only; omega, by simp only; omega, rfl⟩
  · split
    · split
      · exact ⟨by simp only; omega, by simp only; omega, resetL_n _ _⟩
      · exact ⟨by simp only; omega, by simp only; omega, rfl⟩
    · exact ⟨by simp only; omega, by simp only; omega, rfl⟩
theorem takeA_more (d : Db) (tm : Mp) : (takeA d tm).1.s.pend.length ≤ d.s.pend.length + 8 * d.m.length + 3 ∧ (takeA d tm).1.s.dn ≤ d.s.dn + 8 * d.m.length + 3 ∧ (takeA d tm).1.l.n = d.l.n := by
  unfold takeA
  split
  · exact setT_more d
  · exact ⟨by simp only; omega, by simp only; omega, rfl⟩
theorem setT_st (d : Db) (t : Stt) : setT { d with st := t } = ({ (setT d).1 with st := t }, (setT d).2) := by
  have hw : setW { d with st := t } = setW d := rfl
  unfold setT
  rw [hw]
  by_cases h0 : d.l.recs = []
  · rw [if_pos h0, if_pos h0]
  · rw [if_neg h0, if_neg h0]
    by_cases h1 : (setW d).2 = 0
    · rw [if_pos h1, if_pos h1]
      by_cases h2 : Sc.flushE (setW d).1 = 0
      · rw [if_pos h2, if_pos h2]
      · rw [if_neg h2, if_neg h2]
    · rw [if_neg h1, if_neg h1]
/- the power went: the disk alone is left, and what is found on it -/
structure Fell (K n cnt : Nat) (s0 s : Sc.St) (was now : Ab) : Prop where
  armed : s0.left ≠ -1
  down : s.down = true
  dn : s.dn ≤ K
  len : s.kept.length = s0.kept.length
  found : ∀ f, Dsk (KK f s) n cnt K was ∨ Dsk (KK f s) n cnt K now
structure Kin (d d' : Db) : Prop where
  n : d'.n = d.n
  cnt : d'.cnt = d.cnt
  len : d'.s.kept.length = d.s.kept.length
  left : d.s.left = -1 → d'.s.left = -1
theorem Kin.refl (d : Db) : Kin d d := ⟨rfl, rfl, rfl, fun h => h⟩
theorem Inv.of_lost {K : Nat} {d : Db} {S : Ab} (h : Inv K d S) : Inv K { d with lost := false } S :=
  ⟨h.down, h.pend, h.sok, rfl, h.llost, h.wait, h.base, h.ln, h.lok, h.on, h.recs, h.fnd, h.st, h.ep, h.dn⟩
end Pd
namespace Go.Proofs.YtcfninpokngmlaaGreatDoor
open Go.RowKit
def comE (n : Nat) (sp : Bool) (tm : Pd.Mp) : Int := if sp = true then 9 else if holdsB n tm.length = false then 7 else 0
def comA (n : Nat) (sp : Bool) (tm : Pd.Mp) (S T : Pd.Ab) : Pd.Ab := if comE n sp tm = 0 then T else S
/- Commit's end: done, or refused; or the power went -/
def ComDone (W w : World) (A : Ad) (t bt K : Nat) (d : Pd.Db) (S : Pd.Ab) (E : Int) (e : Ending) (w' : World) : Prop := e = .returned (.int .i64 E) ∧ ∃ vr vw vp d', GD W w' (A.to vr vw vp) (K + 8 * d.cnt + d.n + 8) d' S ∧ Pd.Kin d d' ∧ TxEnd w' t ∧ Turn (tft A t bt) (tft (A.to vr vw vp) t bt) w w'
def ComFell (w : World) (A : Ad) (t bt K : Nat) (d : Pd.Db) (S T : Pd.Ab) (e : Ending) (w' : World) : Prop := e = .returned (.int .i64 10) ∧ ∃ vr vw vp s', Dk w' A.g A.kg vp s' ∧ Pd.Fell (K + 8 * d.cnt + d.n + 8) d.n d.cnt d.s s' S T ∧ Turn (tft A t bt) (tft (A.to vr vw vp) t bt) w w'
section
variable {W w w' : World} {A : Ad} {t bt K : Nat} {d : Pd.Db} {S T : Pd.Ab} {sp : Bool} {tm : Pd.Mp}
theorem gcommit (G : GT W w A t bt K d S T sp tm) (hK : K ≤ 60000) (hn : d.n ≤ 10000) : Calls Tryz.prog 33 #[ptr t] w fun e w' => ComDone W w A t bt K d (comA d.n sp tm S T) (comE d.n sp tm) e w' ∨ (comE d.n sp tm = 0 ∧ tm ≠ [] ∧ ComFell w A t bt K d S T e w') := by
  have hF := fits_of G.inv
  have hn2 := G.inv.n2
  have hml := G.ml
  obtain ⟨hu, hf, hdl⟩ := G.inv.upm
  have hdn := G.inv.dn
  have hpe : d.s.pend.length = 0 := by rw [G.inv.pend]; rfl
  by_cases hc : sp = true ∨ holdsB d.n tm.length = false ∨ tm = []
  · refine (commit_no A t bt d ⟨T.stt, tm, sp⟩ w G.tx hF (by omega) hml hc).mono ?_
    rintro e w' ⟨rfl, hX, hE, hC⟩
    have hA : comA d.n sp tm S T = S := by
      unfold comA comE
      by_cases h1 : sp = true
      · rw [if_pos h1, if_neg (by decide)]
      · rw [if_neg h1]
        by_cases h2 : holdsB d.n tm.length = false
        · rw [if_pos h2, if_neg (by decide)]
        · rw [if_neg h2, if_pos rfl]
          exact G.txi.emp ((hc.resolve_left h1).resolve_left h2)
    rw [hA]
    exact .inl ⟨rfl, A.vr, A.vw, A.vp, d, ⟨hX, G.inv.up (by omega), G.bel.trans (hC.below G.new G.bel.size), fun k hk => G.new k (tft_a hk)⟩, Pd.Kin.refl d, hE, hC, fun k hk => .inl hk⟩
  · have h1 : sp = false := by cases sp with
      | false => rfl
      | true => exact absurd (.inl rfl) hc
    have h2 : holdsB d.n tm.length = true := by
      cases h : holdsB d.n tm.length with
      | true => rfl
      | false => exact absurd (.inr (.inl h)) hc
    have h3 : tm ≠ [] := fun h => hc (.inr (.inr h))
    have hE : comE d.n sp tm = 0 := by unfold comE; rw [h1, h2]; rfl
    have hh : 4 + 516 * tm.length ≤ 65536 ∧ 12 + 516 * tm.length ≤ 64 * (d.n - 1) := by
      unfold holdsB at h2
      simpa using h2
    obtain ⟨b1, b2, b3⟩ := Pd.takeA_more d tm
    rw [G.inv.ln] at b3
    have hk0 := Pd.takeA_ok G.inv.sok tm
    refine (commit_take A t bt d ⟨T.stt, tm, sp⟩ w G.tx hF (by omega) h1 h2 h3 hf G.txi.fine (by omega) (by omega) (by show (Pd.takeA d tm).1.s.dn + (Pd.takeA d tm).1.l.n ≤ _; omega) (by show (Pd.takeA d tm).1.s.pend.length + (Pd.takeA d tm).1.l.n ≤ _; omega) (fun q1 _ => ?_)).mono ?_
    · have J : Pd.Inv (K + 8 * d.cnt + 4) (Pd.takeA d tm).1 S := by
        have q1 : (Pd.takeA d tm).2 = 0 := q1
        unfold Pd.takeA at q1 hk0 ⊢
        by_cases hr : Wl.room d.l < ((12 + 516 * tm.length : Nat) : Int)
        · rw [if_pos hr] at q1 hk0 ⊢
          rcases (Pd.settle_res G.inv (by omega) hk0).1.told with ⟨_, J, _⟩ | ⟨e, _⟩
          · exact J
          · rw [q1] at e; cases e
        · rw [if_neg hr]
          exact G.inv.up (by omega)
      refine ⟨J.down, fun j hj => ?_⟩
      have hj : j < (Pd.takeA d tm).1.l.bytes.size % 64 := hj
      have hon : Wl.On (Wl.flat (Pd.takeA d tm).1.s) (Pd.takeA d tm).1.l.base (Pd.takeA d tm).1.n (Pd.takeA d tm).1.l.epoch (Pd.takeA d tm).1.l.bytes := by rw [Wl.flat_nil J.pend, J.base]; exact J.on
      exact hon.tail (i := (Pd.takeA d tm).1.l.bytes.size / 64) (by omega) (by omega)
    · rintro e w' ⟨rfl, vr, vw, vp, hor, hT⟩
      have hT : Turn (tft A t bt) (tft (A.to vr vw vp) t bt) w w' := hT
      have hok : Sc.Ok (Pd.takeT d tm T.stt).1.s ∧ (Pd.takeT d tm T.stt).1.l.Ok := by
        rcases hor with ⟨_, hD, _⟩ | ⟨_, hD⟩
        · exact ⟨hD.lp.dk.ok, hD.lp.pk.ok⟩
        · exact ⟨hD.lp.dk.ok, hD.lp.pk.ok⟩
      obtain ⟨hAf, _⟩ := Pd.take_res G.inv G.txi h3 hh (by omega) hk0 hok.1 hok.2
      rcases hAf.told with ⟨e0, J, hl⟩ | ⟨e0, hl, hdw, hfd⟩
      · left
        have e0' : (Pd.takeT d tm T.stt).2 = 0 := e0
        have hA : comA d.n sp tm S T = T := by unfold comA; rw [if_pos hE]
        rw [hA, hE]
        rcases hor with ⟨_, hD, hEnd⟩ | ⟨hh, _⟩
        · refine ⟨by show Ending.returned (.int .i64 (Pd.takeT d tm T.stt).2) = _; rw [e0'], vr, vw, vp, _, ⟨hD, J.of_lost, G.bel.trans (hT.below G.new G.bel.size), fun k hk => hT.above G.new G.bel.size k (tft_a hk)⟩, ⟨hAf.n, hAf.cnt, hAf.len, hl⟩, hEnd, hT⟩
        · exact absurd hh (by show ¬ heedB (Pd.takeT d tm T.stt).2 = true; rw [e0']; decide)
      · right
        have e0' : (Pd.takeT d tm T.stt).2 = 10 := e0
        refine ⟨hE, h3, by show Ending.returned (.int .i64 (Pd.takeT d tm T.stt).2) = _; rw [e0'], vr, vw, vp, (Pd.takeT d tm T.stt).1.s, ?_, ⟨hl, hdw, hAf.dn, hAf.len, hfd⟩, hT⟩
        rcases hor with ⟨_, hD, _⟩ | ⟨_, hD⟩
        · exact hD.lp.dk
        · exact hD.lp.dk
def CkDone (W w : World) (A : Ad) (K : Nat) (d : Pd.Db) (S : Pd.Ab) (e : Ending) (w' : World) : Prop := e = .returned (.int .i64 0) ∧ ∃ vr vw vp d', GD W w' (A.to vr vw vp) (K + 8 * d.cnt + 4) d' S ∧ Pd.Kin d d' ∧ Turn A.ft (A.to vr vw vp).ft w w'
def CkFell (w : World) (A : Ad) (K : Nat) (d : Pd.Db) (S : Pd.Ab) (e : Ending) (w' : World) : Prop := e = .returned (.int .i64 10) ∧ ∃ vr vw vp s', Dk w' A.g A.kg vp s' ∧ Pd.Fell (K + 8 * d.cnt + 4) d.n d.cnt d.s s' S S ∧ Turn A.ft (A.to vr vw vp).ft w w'
theorem gckpt (G : GD W w A K d S) (hK : K ≤ 60000) : Calls Tryz.prog 25 #[ptr A.x] w fun e w' => CkDone W w A K d S e w' ∨ CkFell w A K d S e w' := by
  have hn2 := G.inv.n2
  obtain ⟨hu, hf, hdl⟩ := G.inv.upm
  have hdn := G.inv.dn
  have hpe : d.s.pend.length = 0 := by rw [G.inv.pend]; rfl
  refine (ckpt_any A d w G.db G.inv.lost hf (by omega) (by omega) (by omega) (by omega)).mono ?_
  rintro e w' ⟨vr, vw, vp, rfl, hD, hT⟩
  obtain ⟨hAf, _⟩ := Pd.settle_res G.inv (by omega) (Pd.setT_ok G.inv.sok)
  rcases hAf.told with ⟨e0, J, hl⟩ | ⟨e0, hl, hdw, hfd⟩
  · left
    rw [e0] at hD ⊢
    exact ⟨rfl, vr, vw, vp, _, ⟨hD, J.of_lost, G.bel.trans (hT.below G.new G.bel.size), fun k hk => hT.above G.new G.bel.size k hk⟩, ⟨hAf.n, hAf.cnt, hAf.len, hl⟩, hT⟩
  · right
    rw [e0] at hD ⊢
    exact ⟨rfl, vr, vw, vp, _, hD.lp.dk, ⟨hl, hdw, hAf.dn, hAf.len, hfd⟩, hT⟩
/- a disk that has power, and a database on it -/
structure GK (W w : World) (g kg : Nat) (vp : Value) (s : Sc.St) (n cnt K : Nat) (S : Pd.Ab) : Prop where
  dk : Dk w g kg vp s
  tab : Tab w
  down : s.down = false
  pend : s.pend = []
  dsk : Pd.Dsk s.kept n cnt K S
  dn : s.dn ≤ K
  cnts : cnt = (s.kept.length - n) / 8
  four : 4 ≤ cnt
  pos : 0 < W.heap.size
  bel : Below W.heap.size W w
  new : ∀ k ∈ foot g kg vp, W.heap.size ≤ k
def OpDone (W w : World) (g kg : Nat) (vp : Value) (s : Sc.St) (n cnt K : Nat) (S : Pd.Ab) (e : Ending) (w' : World) : Prop := ∃ A d, e = .returned (.tuple #[ptr A.x, .int .i64 0]) ∧ A.g = g ∧ A.kg = kg ∧ GD W w' A (K + 8 * cnt + 4) d S ∧ d.n = n ∧ d.cnt = cnt ∧ d.s.kept.length = s.kept.length ∧ (s.left = -1 → d.s.left = -1) ∧ Turn (foot g kg vp) A.ft w w'
def OpFell (W w : World) (g kg : Nat) (vp : Value) (s : Sc.St) (n cnt K : Nat) (S : Pd.Ab) (e : Ending) (w' : World) : Prop := e = .returned (.tuple #[nilP, .int .i64 10]) ∧ ∃ vp' s', Dk w' g kg vp' s' ∧ Tab w' ∧ Below W.heap.size W w' ∧ (∀ k ∈ foot g kg vp', W.heap.size ≤ k) ∧ Pd.Fell (K + 8 * cnt + 4) n cnt s s' S S ∧ Turn (foot g kg vp) (foot g kg vp') w w'
theorem gopendb (W w : World) (g kg : Nat) (vp : Value) (s : Sc.St) (n cnt K : Nat) (S : Pd.Ab) (G : GK W w g kg vp s n cnt K S) (hK : K ≤ 60000) : Calls Tryz.prog 23 #[ptr g, .int .i64 (n : Int)] w fun e w' => OpDone W w g kg vp s n cnt K S e w' ∨ OpFell W w g kg vp s n cnt K S e w' := by
  obtain ⟨ep, rs, ms, hep, hfit, hon, hR, hfnd⟩ := G.dsk
  have hlen := G.dk.ok.most
  have hn2 := hon.two
  have hfits := hon.fits
  have hsm := hfnd.ok.small
  have hS : Safe w (foot g kg vp) := ⟨G.tab, fun h => by have := G.new 0 h; have := G.pos; omega⟩
  have hfl := Wl.flat_nil G.pend
  have hI : Pd.Inv K { d0of n cnt ep rs ms s with st := S.stt } S :=
    { down := G.down, pend := G.pend, sok := G.dk.ok, lost := rfl, llost := rfl, wait := rfl, base := rfl, ln := rfl, lok := opened_ok (ks := s.kept) hon hfit hlen, on := hon, recs := ⟨ms, hR, rfl⟩, fnd := hfnd, st := rfl, ep := hep, dn := G.dn }
  obtain ⟨hAf, hAm⟩ := Pd.settle_res hI (by omega) (Pd.setT_ok G.dk.ok)
  rw [Pd.setT_st] at hAf hAm
  have hpe : s.pend.length = 0 := by rw [G.pend]; rfl
  have hdn := G.dn
  refine (dopen_any g kg vp s n cnt ep rs ms S.stt w G.dk hS G.down hfit (by rw [hfl]; exact hon) G.cnts G.four hsm (by omega) hR (by omega) (by omega) ?_).mono ?_
  · intro h07
    rcases hAf.told with ⟨e0, J, _⟩ | ⟨e0, _⟩
    · have hm0 := (hAm e0).1
      have hJd : (Pd.setT (d0of n cnt ep rs ms s)).1.s.down = false := J.down
      have hJp : (Pd.setT (d0of n cnt ep rs ms s)).1.s.pend = [] := J.pend
      have hn' : (Pd.setT (d0of n cnt ep rs ms s)).1.n = n := hAf.n
      refine ⟨hJd, hAf.len, ?_⟩
      rw [Wl.flat_nil hJp]
      have hz := J.fnd.zero
      rw [hm0] at hz
      rcases hz with hz | ⟨_, hz⟩
      · cases hz
      · have hz : Pd.plc (Pd.setT (d0of n cnt ep rs ms s)).1.s.kept (Pd.setT (d0of n cnt ep rs ms s)).1.n 0 = Pd.pageOf 0 S.stt.sheet ∨ (Pd.plc (Pd.setT (d0of n cnt ep rs ms s)).1.s.kept (Pd.setT (d0of n cnt ep rs ms s)).1.n 0 = Pg.blank ∧ S = Pd.Ab.init) := hz
        rw [hn'] at hz
        rcases hz with hz | ⟨hz, hi⟩
        · exact .inr ⟨hz, hfnd.ok.small_stt⟩
        · exact .inl ⟨hz, by rw [hi]; rfl⟩
    · have e0 : (Pd.setT (d0of n cnt ep rs ms s)).2 = 10 := e0
      rw [e0] at h07
      rcases h07 with h | h <;> cases h
  · intro r w' hP
    rcases hAf.told with ⟨e0, J, hl⟩ | ⟨e0, hl, hdw, hfd⟩
    · left
      obtain ⟨A, hr, hg, hkg, hD, hT⟩ := hP.1 (.inl e0)
      exact ⟨A, _, hr, hg, hkg, ⟨hD, J, G.bel.trans (hT.below G.new G.bel.size), hT.above G.new G.bel.size⟩, hAf.n, hAf.cnt, hAf.len, hl, hT⟩
    · right
      have e0' : (Pd.setT (d0of n cnt ep rs ms s)).2 = 10 := e0
      obtain ⟨vp', hr, hD, hT⟩ := hP.2 (by rw [e0']; decide)
      rw [e0'] at hr
      exact ⟨hr, vp', _, hD, (hS.turn hT).tab, G.bel.trans (hT.below G.new G.bel.size), hT.above G.new G.bel.size, ⟨hl, hdw, hAf.dn, hAf.len, hfd⟩, hT⟩
end
end Go.Proofs.YtcfninpokngmlaaGreatDoor
/- Proved: the chapter's example comes out as it says (stage 10). -/
namespace Pd
open Wl
theorem plc_made (N n i : Nat) : plc (List.replicate N Sc.zero64) n i = Pg.blank := by
  have h : ∀ j, (List.replicate N Sc.zero64).getD j Sc.zero64 = Sc.zero64 := fun j => by
    rw [List.getD_eq_getElem?_getD, List.getElem?_replicate]
    split <;> rfl
  unfold plc
  simp only [h]
  exact ext_list (by decide +kernel)
theorem made_dsk (N n cnt : Nat) (h2 : 2 ≤ n) (hn : n + 8 * cnt ≤ N) (h4 : 1 ≤ cnt) (hc : cnt ≤ 1000) : Dsk (Sc.made N).kept n cnt 0 Ab.init := by
  refine ⟨0, [], [], Nat.le_refl _, (by intro r hr; cases hr), ?_, nilRecs _ _, init_ok h4 hc, ?_, fun i h1 hi => ?_, .inr ⟨rfl, .inr ⟨plc_made N n 0, rfl⟩⟩⟩
  · have := Go.Proofs.YtcfninpokngmlaaGreatDoor.made_on N 0 n h2 (by omega)
    rw [flat_nil (by rfl)] at this
    exact this
  · show n + 8 * cnt ≤ (List.replicate N Sc.zero64).length
    rw [List.length_replicate]; exact hn
  · have : i < 1 := hi
    omega
end Pd
namespace Go.Proofs.YtcfninpokngmlaaGreatDoor
open Go.RowKit
section
variable {W w w' : World} {A : Ad} {t bt K : Nat} {d : Pd.Db} {S T : Pd.Ab} {sp : Bool} {tm : Pd.Mp}
theorem gopen1 (g kg : Nat) (vp : Value) (s : Sc.St) (n cnt : Nat) (G : GK W w g kg vp s n cnt K S) (hK : K ≤ 60000) (hl : s.left = -1) : Calls Tryz.prog 23 #[ptr g, .int .i64 (n : Int)] w (OpDone W w g kg vp s n cnt K S) := by
  refine (gopendb W w g kg vp s n cnt K S G hK).mono ?_
  rintro e w' (h | ⟨_, _, _, _, _, _, _, h, _⟩)
  · exact h
  · exact absurd hl h.armed
theorem gcommit1 (G : GT W w A t bt K d S T sp tm) (hK : K ≤ 60000) (hn : d.n ≤ 10000) (hl : d.s.left = -1) : Calls Tryz.prog 33 #[ptr t] w (ComDone W w A t bt K d (comA d.n sp tm S T) (comE d.n sp tm)) := by
  refine (gcommit G hK hn).mono ?_
  rintro e w' (h | ⟨_, _, _, _, _, _, _, _, h, _⟩)
  · exact h
  · exact absurd hl h.armed
theorem gckpt1 (G : GD W w A K d S) (hK : K ≤ 60000) (hl : d.s.left = -1) : Calls Tryz.prog 25 #[ptr A.x] w (CkDone W w A K d S) := by
  refine (gckpt G hK).mono ?_
  rintro e w' (h | ⟨_, _, _, _, _, _, h, _⟩)
  · exact h
  · exact absurd hl h.armed
theorem GD.disk (G : GD W w A K d S) (hc : d.cnt = (d.s.kept.length - d.n) / 8) (h4 : 4 ≤ d.cnt) (hp : 0 < W.heap.size) : GK W w A.g A.kg A.vp d.s d.n d.cnt K S := by
  have h := G.inv.dsk (fun _ => true)
  rw [Pd.KK_nil G.inv.pend] at h
  exact ⟨G.db.lp.dk, G.db.tab, G.inv.down, G.inv.pend, h, G.inv.dn, hc, h4, hp, G.bel, fun k hk => G.new k (A.ml (foot_lf A hk))⟩
theorem made_gk (g kg N n cnt : Nat) (hD : Dk w' g kg nil0 (Sc.made N)) (hT : Tab w) (hB : Below w.heap.size w w') (hg : w.heap.size ≤ g) (hkg : w.heap.size ≤ kg) (h2 : 2 ≤ n) (hc : cnt = (N - n) / 8) (hn : n ≤ N) (h4 : 4 ≤ cnt) (h1 : cnt ≤ 1000) : GK w w' g kg nil0 (Sc.made N) n cnt 0 Pd.Ab.init := by
  refine ⟨hD, hT.below hB hT.pos, rfl, rfl, Pd.made_dsk N n cnt h2 (by omega) (by omega) h1, Nat.le_refl _, ?_, h4, hT.pos, hB, fun k hk => ?_⟩
  · show cnt = ((List.replicate N Sc.zero64).length - n) / 8
    rw [List.length_replicate]; exact hc
  · simp [foot, Value.ownBlock] at hk
    omega
end
def txtAB : ByteArray := ⟨#[97, 98]⟩
def wT1 : Pd.Ab := alA Pd.Ab.init 20
def wT2 : Pd.Ab := wrA wT1 1 5 txtAB
def wT3 : Pd.Ab := srA wT2 0 1
def wM1 : Pd.Mp := alM Pd.Ab.init [] 20
def wM2 : Pd.Mp := wrM wT1 wM1 1 5 txtAB
def wM3 : Pd.Mp := srM wT2 wM2 0 1
theorem w_al : alR Pd.Ab.init 20 = 0 ∧ alI Pd.Ab.init 20 = 1 := by decide
theorem w_wr : wrR wT1 1 5 txtAB = 0 := by decide
theorem w_sr : setrootR 0 1 = 0 := by decide
theorem w_com : comE 40 false wM3 = 0 := by decide
theorem w_comA : comA 40 false wM3 Pd.Ab.init wT3 = wT3 := by unfold comA; rw [if_pos w_com]
theorem w_rd : (thereR wT3.pgs.length 1 (wT3.sh 1)).1.kind = 5 ∧ (thereR wT3.pgs.length 1 (wT3.sh 1)).1.body = txtAB ∧ (thereR wT3.pgs.length 1 (wT3.sh 1)).2 = 0 := ⟨by decide, rfl, by decide⟩
theorem w_rt : rootV wT3.stt 0 = 1 := by decide
theorem txtAB_list : txtAB.toList = [97, 98] := by rw [ByteArray.toList_eq]; rfl
set_option maxHeartbeats 4000000 in
set_option maxRecDepth 20000 in
theorem works_any (w : World) (hT : Tab w) : Calls Tryz.prog 20 #[] w fun e w' => e = .returned (.bool true) ∧ Below w.heap.size w w' := by
  have HT : Hid (Tab w) := hT
  clear hT
  go_enter Tryz.func20, Tryz.ntmps20
  go_wp2_with fail
  refine (new_any 200 w (by omega) (by omega)).mono ?_
  rintro e w0 ⟨g, kg, rfl, hD0, hB0, hg, hkg⟩
  have G0 : Hid (GK w w0 g kg nil0 (Sc.made 200) 40 20 0 Pd.Ab.init) := made_gk g kg 200 40 20 hD0 HT.out hB0 hg hkg (by omega) (by omega) (by omega) (by omega) (by omega)
  clear hD0 hB0 hg hkg
  go_wp2_with fail
  refine (gopen1 g kg nil0 (Sc.made 200) 40 20 G0.out (by omega) rfl).mono ?_
  rintro e w1 ⟨A1, d1, rfl, hAg, hAk, hG1, hn1, hc1, hl1, hlf1, hT1⟩
  have G1 : Hid (GD w w1 A1 (0 + 8 * 20 + 4) d1 Pd.Ab.init) := hG1
  have N1 : Hid (d1.n = 40 ∧ d1.cnt = 20 ∧ d1.s.left = -1 ∧ d1.s.kept.length = 200 ∧ A1.g = g ∧ A1.kg = kg) := ⟨hn1, hc1, hlf1 rfl, by rw [hl1]; exact List.length_replicate, hAg, hAk⟩
  clear hG1 hn1 hc1 hl1 hlf1 hT1 hAg hAk G0
  have HC := dcount_any (w := w1) (A := A1) (op := nilP) (d := d1) G1.out.db
  rw [N1.out.2.1] at HC
  go_wp2_with fail
  refine (HC).mono ?_
  rintro e wS ⟨rfl, hwS⟩
  rw [hwS]
  clear hwS wS
  clear HC
  go_wp2_with fail
  refine (gbegin G1.out).mono ?_
  rintro e w2 ⟨t, bt, rfl, hG2, _⟩
  have G2 : Hid (GT w w2 A1 t bt (0 + 8 * 20 + 4) d1 Pd.Ab.init Pd.Ab.init false []) := hG2
  clear hG2 G1
  have HA := galloc G2.out
  rw [N1.out.2.1, w_al.1, w_al.2] at HA
  go_wp2_with fail
  refine HA.mono ?_
  rintro e w3 ⟨rfl, hG3, _⟩
  have G3 : Hid (GT w w3 A1 t bt (0 + 8 * 20 + 4) d1 Pd.Ab.init wT1 false wM1) := hG3
  clear hG3 G2 HA
  have HW := gwrite 1 5 txtAB G3.out
  rw [w_wr] at HW
  go_wp2_with fail
  refine HW.mono ?_
  rintro e w4 ⟨rfl, hG4, _⟩
  have G4 : Hid (GT w w4 A1 t bt (0 + 8 * 20 + 4) d1 Pd.Ab.init wT2 false wM2) := hG4
  clear hG4 G3 HW
  have HS := gsetroot 0 1 G4.out
  rw [w_sr] at HS
  go_wp2_with fail
  refine HS.mono ?_
  rintro e w5 ⟨rfl, hG5, _⟩
  have G5 : Hid (GT w w5 A1 t bt (0 + 8 * 20 + 4) d1 Pd.Ab.init wT3 false wM3) := hG5
  clear hG5 G4 HS
  have HK := gcommit1 G5.out (by omega) (by rw [N1.out.1]; omega) N1.out.2.2.1
  rw [N1.out.1, w_comA, w_com] at HK
  go_wp2_with fail
  refine HK.mono ?_
  rintro e w6 ⟨rfl, vr, vw, vp, d2, hG6, hk, _, _⟩
  have G6 : Hid (GD w w6 (A1.to vr vw vp) (0 + 8 * 20 + 4 + 8 * d1.cnt + d1.n + 8) d2 wT3) := hG6
  have N2 : Hid (d2.n = 40 ∧ d2.cnt = 20 ∧ d2.s.left = -1 ∧ d2.s.kept.length = 200) := ⟨hk.n.trans N1.out.1, hk.cnt.trans N1.out.2.1, hk.left N1.out.2.2.1, hk.len.trans N1.out.2.2.2.1⟩
  have GQ := G6.out.disk (by rw [N2.out.2.1, N2.out.2.2.2, N2.out.1]) (by rw [N2.out.2.1]; omega) HT.out.pos
  rw [N2.out.1, N2.out.2.1, N1.out.1, N1.out.2.1] at GQ
  have G7 : Hid (GK w w6 g kg vp d2.s 40 20 372 wT3) := by rw [← N1.out.2.2.2.2.1, ← N1.out.2.2.2.2.2]; exact GQ
  clear hG6 hk G5 HK GQ G6
  go_wp2_with fail
  refine (gopen1 g kg vp d2.s 40 20 G7.out (by omega) N2.out.2.2.1).mono ?_
  rintro e w7 ⟨A3, d3, rfl, _, _, hG8, _, _, _, _, _⟩
  have G8 : Hid (GD w w7 A3 (372 + 8 * 20 + 4) d3 wT3) := hG8
  clear hG8 G7
  go_wp2_with fail
  refine (gbegin G8.out).mono ?_
  rintro e w8 ⟨t3, bt3, rfl, hG9, _⟩
  have G9 : Hid (GT w w8 A3 t3 bt3 (372 + 8 * 20 + 4) d3 wT3 wT3 false []) := hG9
  clear hG9 G8
  have HR := gread 1 G9.out
  have e1 : (1 : Int).toNat = 1 := rfl
  rw [e1, w_rd.1, w_rd.2.1, w_rd.2.2] at HR
  go_wp2_with fail
  refine HR.mono ?_
  rintro e w9 ⟨rfl, hB⟩
  have G10 : Hid (GT w w9 A3 t3 bt3 (372 + 8 * 20 + 4) d3 wT3 wT3 false []) := G9.out.below hB
  clear hB G9 HR
  have HO := groot 0 G10.out
  rw [w_rt] at HO
  go_wp2_with fail
  refine (HO).mono ?_
  rintro e wS ⟨rfl, hwS⟩
  rw [hwS]
  clear hwS wS
  clear HO
  have hab : txtAB.toList = [97, 98] := txtAB_list
  go_wp2_with fail
  go_ret
  exact ⟨rfl, G10.out.bel⟩
end Go.Proofs.YtcfninpokngmlaaGreatDoor
/- Proved: the program's start lays the table of sixteen numbers, and what comes in is read as calls, bools, texts and three numbers. What every law's proof of this seat shares; conditions: the row's own. -/
namespace Go.Proofs.YtcfninpokngmlaaGreatDoor
open Go.ChangeShapes Go.WideShapes Go.ChangeAt Go.RowKit
theorem own : ownKnob Tryz.prog.godebug = none := by kernel_rfl
theorem laidOut : laidOutB Tryz.prog = true := by kernel_rfl
def laid1 : List (String × DataW Unit) := [("aquifer/castagnoli.nibbles", Rows.laid_aquifer_castagnoli_nibbles), ("unicode/utf8.acceptRanges", Rows.laid_unicode_utf8_acceptRanges), ("unicode/utf8.first", Rows.laid_unicode_utf8_first)]
theorem gNib : Tryz.prog.globalNamed "aquifer/castagnoli.nibbles" = some 0 := by kernel_rfl
theorem gNibType : (Tryz.prog.globals[0]?).map (·.type) = some 211 := by kernel_rfl
def zs16 : List Int := Crc.tab.map Int.ofNat
theorem laid1_eq : laid1 = [("aquifer/castagnoli.nibbles", Lib.tabData .u32 zs16), ("unicode/utf8.acceptRanges", Rows.laid_unicode_utf8_acceptRanges), ("unicode/utf8.first", Rows.laid_unicode_utf8_first)] := rfl
theorem nib_at : ∀ i, i < 16 → zs16.getD i 0 = (Crc.nib i : Int) := by decide
/- the wrap that hands on both the listed tables and the world's shape -/
theorem wrap_both {H : Type} {enc : TypeId × Value → H} {a : Assume} {C : Checked} {os : Os} {f : FuncId} {fn : Func} {s : ChangeSpec} {conds : List PathCond} {apart fresh handsOn again : Bool} {X : World → Array Value → Prop}
    (hX : ∀ (w w' : World) (args : Array Value), w.heap = w'.heap → X w args → X w' args)
    (own : ownKnob C.prog.godebug = none) (started : os.Started) (noInit : C.prog.inits.idxOf? f = none) (hfn : C.prog.funcs[f]? = some fn)
    (witness : ∃ (w : World) (tape : Tape) (i : Input), w.os = os ∧ (w.forCall tape i).Shaped C.prog ∧ i.vars = [] ∧ Input.okWide C.prog (w.forCall tape i) .any w.heap.size f i ∧
      ((s.pre enc C.prog fn conds apart (w.forCall tape i).memory i.args ∧ X (w.forCall tape i).memory i.args) ∧ sizedMet enc C.prog fn (OpenSpec.ofChange s) apart (w.forCall tape i).memory i.args) ∧ a.holds C.prog (lone (Frame.enter C.prog f i.args .normal) [] (w.forCall tape i)))
    (contract : ∀ (W : World) (base : Nat) (args : Array Value) (ds gs : List (DataW H)) (before : List MemPlace),
      (∀ (j : Nat) t v, fn.params[j]? = some t → args[j]? = some v → Value.okWide C.prog W .any base t v) →
      DataW.Whole enc C.prog fn.params.toList s.vars apart W args.toList ds gs before → X W args → W.ShapedOpen C.prog →
      Calls C.prog f args W fun e W' => ∃ v, e = .returned v ∧ s.post enc C.prog fn apart fresh handsOn again W args v W') :
    ReturnsInHanded a C os f .any (fun w args => (s.pre enc C.prog fn conds apart w args ∧ X w args) ∧ sizedMet enc C.prog fn (OpenSpec.ofChange s) apart w args) (s.post enc C.prog fn apart fresh handsOn again) := by
  refine returnsInHanded_of_calls own started noInit witness ?_
  intro w tape i _ hsh _ hok hpre _
  obtain ⟨_, _, _, fn', hfn', _, _, _, _, hval⟩ := hok
  have e : fn' = fn := Option.some.inj (hfn'.symm.trans hfn)
  subst e
  obtain ⟨⟨⟨ds, gs, before, hw, _⟩, hx⟩, _⟩ := hpre
  have hw' := DataW.Whole.of_heap (w' := w.forCall tape i) (by rfl) hw
  refine (contract (w.forCall tape i) w.heap.size i.args ds gs before hval hw' (hX _ _ _ (by rfl) hx) hsh).mono fun e W' ⟨v, he, hp⟩ => ?_
  subst he
  exact ChangeSpec.post_blind hp
/- What the condition gives the walks: the sixteen numbers. -/
theorem tab_of_laid {W : World} (h : laidMetH Tryz.prog laid1 W) : Tab W := by
  rw [MakeChecks.laidMetH_plain _ _ _ (by kernel_rfl), laid1_eq] at h
  have hT := Lib.tabIs_of_head gNib gNibType Tryz.underlying211 Tryz.underlying159 (by kernel_rfl) (by kernel_rfl) h
  intro i hi
  rw [← nib_at i hi]
  exact hT.cell gNib i hi
def In64 (z : Int) : Prop := -9223372036854775808 ≤ z ∧ z ≤ 9223372036854775807
/- bools that came in -/
def InB (W : World) (a : Option Addr) (len : Nat) (m : Nat → Bool) : Prop :=
  len = 0 ∨ ∃ b off, a = some ⟨b, off, none⟩ ∧ ∀ i, i < len → W.cell? ⟨b, off + i, none⟩ = some (.bool (m i))
theorem InB.bools {W w : World} {a : Option Addr} {len : Nat} {m : Nat → Bool} {fs : List Nat} (h : InB W a len m) (hb : Below W.heap.size W w) (hf : ∀ k ∈ fs, W.heap.size ≤ k) : Bools fs w a len m := by
  rcases h with h | ⟨b, off, h1, h2⟩
  · exact .inl h
  · by_cases h0 : len = 0
    · exact .inl h0
    · have hl : b < W.heap.size := block_lt_of_cell (h2 0 (by omega))
      exact .inr ⟨b, off, h1, fun hm => by have := hf b hm; omega, fun i hi => (hb.cell (p := ⟨b, off + i, none⟩) hl).trans (h2 i hi)⟩
set_option maxRecDepth 100000 in
theorem inb_of {H : Type} {enc : TypeId × Value → H} {W : World} {fuel : Nat} {cs : List Value} {x : DataW H × List MemPlace} (h : DataW.trod enc Tryz.prog W 0 (fun _ => true) true fuel 26 cs = some x) :
    ∃ a len cap m, cs = [.slice a len cap] ∧ len ≤ cap ∧ cap ≤ 9223372036854775807 ∧ InB W a len m := by
  rcases Go.Deep.open_bools Tryz.underlying26 Tryz.underlying4 (by kernel_rfl) h with ⟨hcs, _⟩ | ⟨a, len, cap, B, hcs, _, hl, hm, _, hc⟩
  · exact ⟨none, 0, 0, fun _ => false, hcs, by omega, by omega, .inl rfl⟩
  · unfold maxLen at hm
    refine ⟨some a, len, cap, B, hcs, hl, by omega, ?_⟩
    by_cases h0 : len = 0
    · exact .inl h0
    · obtain ⟨b, off, spot⟩ := a
      have hspot : spot = none := by simpa [Addr.add] using World.cell?_spot (hc 0 (by omega))
      subst hspot
      refine .inr ⟨b, off, rfl, fun i hi => ?_⟩
      have := hc i (by omega)
      rwa [add_plain] at this
/- a struct of five, opened -/
theorem trod5 {H : Type} {enc : TypeId × Value → H} {W : World} {t : TypeId} {f0 f1 f2 f3 f4 : Field} {fuel : Nat} {cs : List Value} {x : DataW H × List MemPlace} (ht : Tryz.prog.underlying t = some (.struct #[f0, f1, f2, f3, f4])) (h : DataW.trod enc Tryz.prog W 0 (fun _ => true) true fuel t cs = some x) :
    ∃ y0 y1 y2 y3 y4 n, DataW.trod enc Tryz.prog W 0 (fun _ => true) true n f0.type ((cs.drop f0.offset).take (Tryz.prog.cellsOf f0.type)) = some y0 ∧ DataW.trod enc Tryz.prog W 0 (fun _ => true) true n f1.type ((cs.drop f1.offset).take (Tryz.prog.cellsOf f1.type)) = some y1 ∧ DataW.trod enc Tryz.prog W 0 (fun _ => true) true n f2.type ((cs.drop f2.offset).take (Tryz.prog.cellsOf f2.type)) = some y2 ∧ DataW.trod enc Tryz.prog W 0 (fun _ => true) true n f3.type ((cs.drop f3.offset).take (Tryz.prog.cellsOf f3.type)) = some y3 ∧ DataW.trod enc Tryz.prog W 0 (fun _ => true) true n f4.type ((cs.drop f4.offset).take (Tryz.prog.cellsOf f4.type)) = some y4 := by
  obtain ⟨xs, n, _, rfl, hl, hlen, hf⟩ := DataW.trod_struct ht h
  match xs, hlen with
  | [y0, y1, y2, y3, y4], _ => exact ⟨y0, y1, y2, y3, y4, n, by simpa using hf 0 f0 rfl, by simpa using hf 1 f1 rfl, by simpa using hf 2 f2 rfl, by simpa using hf 3 f3 rfl, by simpa using hf 4 f4 rfl⟩
/- a call, as it comes in -/
structure Actv where
  kind : Int
  id : Int
  kd : Int
  s : ByteArray
  ka : Option Addr
  kl : Nat
  kc : Nat
  m : Nat → Bool
def Actv.cells (x : Actv) : Array Value := #[.int .i64 x.kind, .int .i64 x.id, .int .i64 x.kd, .string x.s, .slice x.ka x.kl x.kc]
structure Actv.Fits (W : World) (x : Actv) : Prop where
  kind : In64 x.kind
  id : In64 x.id
  kd : In64 x.kd
  s : x.s.size ≤ 9223372036854775807
  kl : x.kl ≤ x.kc
  kc : x.kc ≤ 9223372036854775807
  ks : InB W x.ka x.kl x.m
set_option maxRecDepth 100000 in
theorem act_trod {H : Type} {enc : TypeId × Value → H} {W : World} {fuel : Nat} {cs : List Value} {x : DataW H × List MemPlace} (hlen : cs.length = 5) (h : DataW.trod enc Tryz.prog W 0 (fun _ => true) true fuel 28 cs = some x) :
    ∃ a : Actv, cs = a.cells.toList ∧ a.Fits W := by
  have c3 : Tryz.prog.cellsOf 3 = 1 := by kernel_rfl
  have c9 : Tryz.prog.cellsOf 9 = 1 := by kernel_rfl
  have c31 : Tryz.prog.cellsOf 26 = 1 := by kernel_rfl
  obtain ⟨y0, y1, y1b, y2, y3, k, h0, h1, h1b, h2, h3⟩ := trod5 Tryz.underlying28 h
  obtain ⟨z0, e0, _, w0⟩ := DataW.trod_int Tryz.underlying3 h0
  obtain ⟨z1, e1, _, w1⟩ := DataW.trod_int Tryz.underlying3 h1
  obtain ⟨z1b, e1b, _, w1b⟩ := DataW.trod_int Tryz.underlying3 h1b
  obtain ⟨s2, e2, _, w2⟩ := DataW.trod_string Tryz.underlying9 h2
  obtain ⟨ka, kl, kc, m, e3, g1, g2, g3⟩ := inb_of h3
  unfold maxLen at w2
  match cs, hlen with
  | [q0, q1, q1b, q2, q3], _ =>
    change List.take (Tryz.prog.cellsOf 3) (List.drop 0 [q0, q1, q1b, q2, q3]) = _ at e0
    change List.take (Tryz.prog.cellsOf 3) (List.drop 1 [q0, q1, q1b, q2, q3]) = _ at e1
    change List.take (Tryz.prog.cellsOf 3) (List.drop 2 [q0, q1, q1b, q2, q3]) = _ at e1b
    change List.take (Tryz.prog.cellsOf 9) (List.drop 3 [q0, q1, q1b, q2, q3]) = _ at e2
    change List.take (Tryz.prog.cellsOf 26) (List.drop 4 [q0, q1, q1b, q2, q3]) = _ at e3
    rw [c3] at e0 e1 e1b
    rw [c9] at e2
    rw [c31] at e3
    simp at e0 e1 e1b e2 e3
    subst e0
    subst e1
    subst e1b
    subst e2
    subst e3
    exact ⟨⟨z0, z1, z1b, s2, ka, kl, kc, m⟩, rfl, ⟨bounds_i64 w0, bounds_i64 w1, bounds_i64 w1b, by simp only; omega, g1, g2, g3⟩⟩
/- calls that came in -/
def Acts (W : World) (a : Option Addr) (len : Nat) : Prop :=
  len = 0 ∨ ∃ b off, a = some ⟨b, off, none⟩ ∧ ∀ i, i < len → ∃ x : Actv, x.Fits W ∧ W.rangeAt b (off + i * 5) x.cells.toList
set_option maxRecDepth 100000 in
theorem acts_of {H : Type} {enc : TypeId × Value → H} {W : World} {a : Option Addr} {len cap : Nat} {d : DataW H} {p : List MemPlace} (h : DataW.Trod enc Tryz.prog W 0 (fun _ => true) true 22 (.slice a len cap) d p) :
    Acts W a len ∧ len ≤ cap ∧ cap ≤ 9223372036854775807 := by
  have c33 : Tryz.prog.cellsOf 28 = 5 := by kernel_rfl
  obtain ⟨fuel, hf⟩ := h
  rcases Go.Deep.open_slice Tryz.underlying22 hf with ⟨hcs, _⟩ | ⟨x, l, c, m, n, D, Pl, hcs, _, hl, hm, hmm, _, hel⟩
  · simp [Value.cells] at hcs
    obtain ⟨rfl, rfl, rfl⟩ := hcs
    exact ⟨.inl rfl, Nat.le_refl _, by omega⟩
  · simp [Value.cells] at hcs
    obtain ⟨rfl, rfl, rfl⟩ := hcs
    unfold maxLen at hm
    refine ⟨?_, hl, by omega⟩
    simp only [if_true] at hmm
    subst hmm
    rw [c33] at hel
    have each : ∀ i, i < m → ∃ y : Actv, y.Fits W ∧ ∀ j u, y.cells.toList[j]? = some u → W.cell? (x.add (i * 5 + j)) = some u := fun i hi => by
      obtain ⟨cs, hc, ht⟩ := hel i hi
      obtain ⟨_, hlen, hcell⟩ := World.cells?_some hc
      obtain ⟨y, hy, hfit⟩ := act_trod hlen ht
      refine ⟨y, hfit, fun j u hu => ?_⟩
      rw [← hy] at hu
      obtain ⟨hj, hju⟩ := List.getElem?_eq_some_iff.1 hu
      have := hcell j (by omega)
      rw [Go.Deep.add_add] at this
      rw [this]
      exact hu
    by_cases h0 : len = 0
    · exact .inl h0
    · obtain ⟨b, off, spot⟩ := x
      have hspot : spot = none := by
        obtain ⟨f, _, h1⟩ := each 0 (by omega)
        simpa [Addr.add] using World.cell?_spot (h1 0 _ rfl)
      subst hspot
      refine .inr ⟨b, off, rfl, fun i hi => ?_⟩
      obtain ⟨y, hy, h1⟩ := each i (by omega)
      refine ⟨y, hy, fun j u hu => ?_⟩
      have := h1 j u hu
      rw [add_plain] at this
      rwa [Nat.add_assoc]
end Go.Proofs.YtcfninpokngmlaaGreatDoor
/- Proved: databases and transactions that no call made have nothing, and do nothing (stage 10). -/
namespace Go.Proofs.YtcfninpokngmlaaGreatDoor
open Go.RowKit
def NoDb (w : World) (v : Value) : Prop := v = nilP ∨ ∃ x, v = ptr x ∧ w.cell? ⟨x, 0, none⟩ = some (.pointer none)
section
variable (w : World) (v : Value)
theorem cell_bel {w w' : World} {x i : Nat} {u : Value} (hB : Below w.heap.size w w') (h : w.cell? ⟨x, i, none⟩ = some u) : w'.cell? ⟨x, i, none⟩ = some u := by
  by_cases hx : x < w.heap.size
  · rw [World.cell?_of_block (hB.block x hx)]; exact h
  · have : w.heap[x]? = none := Array.getElem?_eq_none (by omega)
    simp [World.cell?, this] at h
theorem Shut.below {w w' : World} {v : Value} (h : Shut w v) (hB : Below w.heap.size w w') : Shut w' v := by
  rcases h with h | ⟨t, h, c⟩
  · exact .inl h
  · exact .inr ⟨t, h, cell_bel hB c⟩
theorem NoDb.below {w w' : World} {v : Value} (h : NoDb w v) (hB : Below w.heap.size w w') : NoDb w' v := by
  rcases h with h | ⟨t, h, c⟩
  · exact .inl h
  · exact .inr ⟨t, h, cell_bel hB c⟩
theorem alloc_no (h : Shut w v) : Calls Tryz.prog 27 #[v] w fun e w' => e = .returned (.tuple #[.int .i64 0, .int .i64 1]) ∧ w' = w := by
  have HM := tready_no w v h
  clear h
  go_enter Tryz.func27, Tryz.ntmps27
  go_wp2_with (go_at_call 62; refine HM.mono ?_; rintro e w' ⟨rfl, rfl⟩)
  go_ret2
  exact ⟨rfl, rfl⟩
theorem setroot_no (i n : Int) (h : Shut w v) : Calls Tryz.prog 32 #[v, .int .i64 i, .int .i64 n] w fun e w' => e = .returned (.int .i64 1) ∧ w' = w := by
  have HM := tready_no w v h
  clear h
  go_enter Tryz.func32, Tryz.ntmps32
  go_wp2_with (go_at_call 62; refine HM.mono ?_; rintro e w' ⟨rfl, rfl⟩)
  go_ret
  exact ⟨rfl, rfl⟩
theorem commit_nob (h : Shut w v) : Calls Tryz.prog 33 #[v] w fun e w' => e = .returned (.int .i64 1) ∧ w' = w := by
  have HM := tready_no w v h
  clear h
  go_enter Tryz.func33, Tryz.ntmps33
  go_wp2_with (go_at_call 62; refine HM.mono ?_; rintro e w' ⟨rfl, rfl⟩)
  go_ret
  exact ⟨rfl, rfl⟩
set_option maxHeartbeats 4000000 in
set_option maxRecDepth 100000 in
theorem there_no (id : Int) (h : Shut w v) : Calls Tryz.prog 61 #[v, .int .i64 id] w fun e w' => e = .returned (.tuple #[.agg #[.int .i64 0, .string ⟨#[]⟩], .int .i64 1]) ∧ Below w.heap.size w w' := by
  have hz := zeroSh
  unfold shV sh00 Pd.none0 at hz
  have HR0 : Hid ((w.alloc (.cells #[.int .i64 0, .string ⟨#[]⟩] 102)).heap[w.heap.size]? = some (.cells #[.int .i64 0, .string ⟨#[]⟩] 102 (0, 0))) := heap_alloc_new w _
  have HB0 : Hid (Below w.heap.size w (w.alloc (.cells #[.int .i64 0, .string ⟨#[]⟩] 102))) := (Below.refl _ _).alloc (Nat.le_refl _) _
  have HM := tready_no (w.alloc (.cells #[.int .i64 0, .string ⟨#[]⟩] 102)) v (h.below HB0.out)
  clear h
  go_enter Tryz.func61, Tryz.ntmps61
  go_wp2_with (go_at_call 62; refine HM.mono ?_; rintro e wS ⟨rfl, hwS⟩; rw [hwS]; clear hwS wS)
  refine bodyPost_ret (results_she Tryz.results61 _ _ w.heap.size 102 _ _ _ rfl rfl HR0.out) rfl ⟨rfl, HB0.out⟩
set_option maxHeartbeats 4000000 in
set_option maxRecDepth 100000 in
theorem read_nob (id : Int) (h : Shut w v) : Calls Tryz.prog 26 #[v, .int .i64 id] w fun e w' => e = .returned (.tuple #[.int .i64 0, .string ⟨#[]⟩, .int .i64 1]) ∧ Below w.heap.size w w' := by
  have HT : Hid (Calls Tryz.prog 61 #[v, .int .i64 id] w fun e w' => e = .returned (.tuple #[.agg #[.int .i64 0, .string ⟨#[]⟩], .int .i64 1]) ∧ Below w.heap.size w w') := there_no w v id h
  have hz := zeroSh
  unfold shV sh00 Pd.none0 at hz
  clear h
  go_enter Tryz.func26, Tryz.ntmps26
  go_wp2_with fail
  refine HT.out.mono ?_
  rintro e w1 ⟨rfl, hB1⟩
  have HB2 : Hid (Below w.heap.size w (w1.alloc (.cells #[.int .i64 0, .string ⟨#[]⟩] 102))) := hB1.alloc hB1.size _
  have c0 : (w1.alloc (.cells #[.int .i64 0, .string ⟨#[]⟩] 102)).cell? ⟨w1.heap.size, 0, none⟩ = some (.int .i64 0) := cell_of_row _ _ _ _ _ (0, 0) (heap_alloc_new w1 _)
  have c1 : (w1.alloc (.cells #[.int .i64 0, .string ⟨#[]⟩] 102)).cell? ⟨w1.heap.size, 1, none⟩ = some (.string ⟨#[]⟩) := cell_of_row _ _ _ _ _ (0, 0) (heap_alloc_new w1 _)
  clear hB1 HT
  go_wp2_with fail
  generalize hw2 : World.alloc w1 _ = w2 at *
  clear hw2
  go_quiet (fail)
  have HB3 : Hid (Below w.heap.size w (w2.drewN nq)) := drewN_below HB2.out nq
  go_wp2
  go_ret3
  exact ⟨rfl, HB3.out⟩
set_option maxHeartbeats 4000000 in
set_option maxRecDepth 100000 in
theorem write_nob (id k : Int) (b : ByteArray) (h : Shut w v) : Calls Tryz.prog 30 #[v, .int .i64 id, .int .i64 k, .string b] w fun e w' => e = .returned (.int .i64 1) ∧ Below w.heap.size w w' := by
  have HT : Hid (Calls Tryz.prog 61 #[v, .int .i64 id] w fun e w' => e = .returned (.tuple #[.agg #[.int .i64 0, .string ⟨#[]⟩], .int .i64 1]) ∧ Below w.heap.size w w') := there_no w v id h
  have hz := zeroSh
  unfold shV sh00 Pd.none0 at hz
  clear h
  go_enter Tryz.func30, Tryz.ntmps30
  go_wp2_with fail
  refine HT.out.mono ?_
  rintro e w1 ⟨rfl, hB1⟩
  have HB2 : Hid (Below w.heap.size w (w1.alloc (.cells #[.int .i64 0, .string ⟨#[]⟩] 102))) := hB1.alloc hB1.size _
  clear hB1 HT
  go_wp2
  go_ret
  exact ⟨rfl, HB2.out⟩
set_option maxHeartbeats 4000000 in
set_option maxRecDepth 100000 in
theorem free_nob (id : Int) (h : Shut w v) : Calls Tryz.prog 31 #[v, .int .i64 id] w fun e w' => e = .returned (.int .i64 1) ∧ Below w.heap.size w w' := by
  have HT : Hid (Calls Tryz.prog 61 #[v, .int .i64 id] w fun e w' => e = .returned (.tuple #[.agg #[.int .i64 0, .string ⟨#[]⟩], .int .i64 1]) ∧ Below w.heap.size w w') := there_no w v id h
  have hz := zeroSh
  unfold shV sh00 Pd.none0 at hz
  clear h
  go_enter Tryz.func31, Tryz.ntmps31
  go_wp2_with fail
  refine HT.out.mono ?_
  rintro e w1 ⟨rfl, hB1⟩
  have HB2 : Hid (Below w.heap.size w (w1.alloc (.cells #[.int .i64 0, .string ⟨#[]⟩] 102))) := hB1.alloc hB1.size _
  have HB1 : Hid (Below w.heap.size w w1) := hB1
  clear hB1 HT
  go_wp2
  go_ret
  exact ⟨rfl, by first | exact HB2.out | exact HB1.out⟩
end
end Go.Proofs.YtcfninpokngmlaaGreatDoor
/- Proved: where Open refuses; PagedbOpens' walk. -/
namespace Go.Proofs.YtcfninpokngmlaaGreatDoor
open Go.RowKit
theorem mod_pos (n : Int) (m : Nat) (hm : 0 < m) : ∃ K : Nat, K < m ∧ (n.tmod m + m).tmod m = (K : Int) ∧ (n.tmod m + m) % m = (K : Int) ∧ -(m : Int) < n.tmod m ∧ n.tmod m < m := by
  have h1 := Int.tmod_lt_of_pos n (show (0 : Int) < m by omega)
  have h2 : -(m : Int) < n.tmod m := Int.lt_tmod_of_pos n (by omega)
  have h3 : (n.tmod m + m).tmod m = (n.tmod m + m) % m := Int.tmod_eq_emod_of_nonneg (by omega)
  have h4 := Int.emod_nonneg (n.tmod m + m) (show (m : Int) ≠ 0 by omega)
  have h5 := Int.emod_lt_of_pos (n.tmod m + m) (show (0 : Int) < m by omega)
  refine ⟨((n.tmod m + m) % m).toNat, ?_, ?_, ?_, h2, h1⟩
  · omega
  · rw [h3]; omega
  · omega
end Go.Proofs.YtcfninpokngmlaaGreatDoor
/- Proved: PagedbNobody's walk. -/
namespace Go.Proofs.YtcfninpokngmlaaGreatDoor
open Go.RowKit
def actV (k i n : Int) (s : ByteArray) (kp : Value) : Value := .agg #[.int .i64 k, .int .i64 i, .int .i64 n, .string s, kp]
def actC (k i n : Int) (s : ByteArray) (kp : Value) : Array Value := #[.int .i64 k, .int .i64 i, .int .i64 n, .string s, kp]
def dbE : Array Value := #[.pointer none, .pointer none, .int .i64 0, .int .i64 0, .int .i64 0, .int .i64 0, .int .i64 0, .int .i64 0, .int .i64 0, .int .i64 0, .int .i64 0, .map none, .pointer none, .bool false]
/- what stands there ahead of the loops -/
structure NobA (w w3 : World) (a x q : Nat) (k i n : Int) (s : ByteArray) (kp : Value) : Prop where
  bel : Below w.heap.size w w3
  act : w3.heap[a]? = some (.cells (actC k i n s kp) 28 (0, 0))
  row : w3.heap[q]? = some (.cells #[.pointer none, .pointer (some ⟨x, 0, none⟩)] 30 (0, 0))
  db : w3.cell? ⟨x, 0, none⟩ = some (.pointer none)
structure NobB (w w3 : World) (a x q : Nat) (k i n : Int) (s : ByteArray) (kp : Value) : Prop where
  bel : Below w.heap.size w w3
  act : w3.heap[a]? = some (.cells (actC k i n s kp) 28 (0, 0))
  row : w3.heap[q]? = some (.cells #[.pointer none, .pointer (some ⟨x, 0, none⟩)] 31 (0, 0))
  tx : w3.cell? ⟨x, 0, none⟩ = some (.pointer none)
theorem NobB.below {w w3 w4 : World} {a x q : Nat} {k i n : Int} {s : ByteArray} {kp : Value} (h : NobB w w3 a x q k i n s kp) (hB : Below w3.heap.size w3 w4) : NobB w w4 a x q k i n s kp := by
  refine ⟨h.bel.trans (hB.mono h.bel.size), ?_, ?_, cell_bel hB h.tx⟩
  · rw [hB.block _ (Array.getElem?_eq_some_iff.1 h.act).1]; exact h.act
  · rw [hB.block _ (Array.getElem?_eq_some_iff.1 h.row).1]; exact h.row
theorem NobB.c {w w3 : World} {a x q : Nat} {k i n : Int} {s : ByteArray} {kp : Value} (h : NobB w w3 a x q k i n s kp) : w3.cell? ⟨a, 1, none⟩ = some (.int .i64 i) ∧ w3.cell? ⟨a, 2, none⟩ = some (.int .i64 n) ∧ w3.cell? ⟨a, 3, none⟩ = some (.string s) := by
  refine ⟨?_, ?_, ?_⟩ <;> rw [cell_of_row _ _ _ _ _ (0, 0) h.act] <;> rfl
end Go.Proofs.YtcfninpokngmlaaGreatDoor
/- Proved: what the laws' helpers change and build make of a database. -/
namespace Go.Proofs.YtcfninpokngmlaaGreatDoor
open Go.RowKit
def pm (n : Int) (m : Nat) : Nat := ((n.tmod m + m) % m).toNat
/- what change does, by one act -/
structure Chp where
  r : Nat
  kd : Nat
  i9 : Nat
  z : Bool
  s : ByteArray
  i4 : Nat
  n : Nat
def chOf (k i n : Int) (s : ByteArray) : Chp := ⟨1 + pm n 3, 1 + pm n 200, pm i 9, k.tmod 3 == 0, s.extract 0 (min s.size 100), pm i 4, pm n 100⟩
def ch1 (T : Pd.Ab) (cnt : Nat) (p : Chp) : Pd.Ab := if alR T cnt = 0 then wrA (alA T cnt) (alI T cnt : Int) (p.kd : Int) p.s else alA T cnt
def ch2 (T : Pd.Ab) (p : Chp) (j : Nat) : Pd.Ab := if p.z = true then frA T ((1 + (p.i9 + j) % 9 : Nat) : Int) else wrA T ((1 + (p.i9 + j) % 9 : Nat) : Int) 7 (p.s ++ ⟨#[120]⟩)
def chN (T : Pd.Ab) (cnt : Nat) (p : Chp) : Nat → Pd.Ab
  | 0 => T
  | j + 1 => ch2 (ch1 (chN T cnt p j) cnt p) p j
def chA (T : Pd.Ab) (cnt : Nat) (p : Chp) : Pd.Ab := srA (chN T cnt p p.r) (p.i4 : Int) (p.n : Int)
structure ChW (W w0 w : World) (A : Ad) (t bt K : Nat) (d : Pd.Db) (S T : Pd.Ab) (sp : Bool) (a0 : Nat) (k i n : Int) (s : ByteArray) (kp : Value) : Prop where
  g : ∃ tm', GT W w A t bt K d S T sp tm'
  act : w.heap[a0]? = some (.cells (actC k i n s kp) 28 (0, 0))
  turn : Turn (tft A t bt) (tft A t bt) w0 w
  ap : a0 ∉ tft A t bt
theorem ChW.cell {W w0 w : World} {A : Ad} {t bt K : Nat} {d : Pd.Db} {S T : Pd.Ab} {sp : Bool} {a0 : Nat} {k i n : Int} {s : ByteArray} {kp : Value} (h : ChW W w0 w A t bt K d S T sp a0 k i n s kp) (j : Nat) (v : Value) (e : (actC k i n s kp)[j]? = some v) : w.cell? ⟨a0, j, none⟩ = some v := (cell_of_row w a0 j _ _ (0, 0) h.act).trans e
section
variable {W w w' : World} {A : Ad} {t bt K : Nat} {d : Pd.Db} {S T : Pd.Ab} {sp : Bool} {tm : Pd.Mp}
end
end Go.Proofs.YtcfninpokngmlaaGreatDoor
/- Proved: what the laws' helper build makes of a database. -/
namespace Go.Proofs.YtcfninpokngmlaaGreatDoor
open Go.RowKit
theorem Acts.at {W w : World} {a : Option Addr} {len k : Nat} (h : Acts W a len) (hB : Below W.heap.size W w) (hk : k < len) : ∃ b off, a = some ⟨b, off, none⟩ ∧ ∃ x : Actv, x.Fits W ∧ w.cell? ⟨b, off + k * 5, none⟩ = some (.int .i64 x.kind) ∧ w.cell? ⟨b, off + k * 5 + 1, none⟩ = some (.int .i64 x.id) ∧ w.cell? ⟨b, off + k * 5 + 2, none⟩ = some (.int .i64 x.kd) ∧ w.cell? ⟨b, off + k * 5 + 3, none⟩ = some (.string x.s) ∧ w.cell? ⟨b, off + k * 5 + 4, none⟩ = some (.slice x.ka x.kl x.kc) := by
  rcases h with h | ⟨b, off, rfl, h⟩
  · omega
  · obtain ⟨x, hx, hr⟩ := h k hk
    have hc : ∀ j u, x.cells.toList[j]? = some u → w.cell? ⟨b, off + k * 5 + j, none⟩ = some u := fun j u hu => by
      have h1 := hr j u hu
      exact (hB.cell (p := ⟨b, off + k * 5 + j, none⟩) (block_lt_of_cell h1)).trans h1
    exact ⟨b, off, rfl, x, hx, hc 0 _ rfl, hc 1 _ rfl, hc 2 _ rfl, hc 3 _ rfl, hc 4 _ rfl⟩
theorem Turn.less {fs gs hs : List Nat} {w w' : World} (h : Turn fs gs w w') (hs' : ∀ k ∈ hs, k ∈ gs) : Turn fs hs w w' := ⟨h.chg, fun k hk => h.grow k (hs' k hk)⟩
/- a database on the way, from world w on -/
structure GB (W w wr : World) (A : Ad) (K : Nat) (d : Pd.Db) (A' : Ad) (d' : Pd.Db) (S' : Pd.Ab) : Prop where
  gd : GD W wr A' K d' S'
  kin : Pd.Kin d d'
  turn : Turn A.ft A'.ft w wr
  to : ∃ vr vw vp, A' = A.to vr vw vp
section
variable {W w w' : World} {A : Ad} {t bt K : Nat} {d : Pd.Db} {S T : Pd.Ab} {sp : Bool} {tm : Pd.Mp}
end
end Go.Proofs.YtcfninpokngmlaaGreatDoor
/- Proved: a page put behind pages, a number put ahead of numbers, in memory of the call's own (stage 10). -/
namespace Go.Proofs.YtcfninpokngmlaaGreatDoor
open Go.RowKit
def pgC : Option Pd.Sheet → List Value
  | some x => [.int .i64 (x.kind : Int), .string x.body, .bool false]
  | none => [.int .i64 0, .string ⟨#[]⟩, .bool true]
theorem pgC_length (o : Option Pd.Sheet) : (pgC o).length = 3 := by cases o <;> rfl
theorem pgC_one (o : Option Pd.Sheet) : ∀ u ∈ pgC o, u.oneCell' = true := by
  cases o <;> intro u hu <;> simp [pgC] at hu <;> rcases hu with rfl | rfl | rfl <;> rfl
def intC (l : List Nat) : List Value := l.map fun i : Nat => Value.int .i64 (i : Int)
theorem intC_one (l : List Nat) : ∀ u ∈ intC l, u.oneCell' = true := fun u hu => by
  obtain ⟨i, _, rfl⟩ := List.mem_map.1 hu
  rfl
theorem info_pg : (Tryz.prog.info? 83).map (fun i => (i.zero, i.size, i.bytes)) = some (some (.agg #[.int .i64 0, .string ⟨#[]⟩, .bool false]), 3, 32) := by kernel_rfl
/- 'append', by what it comes to -/
theorem wpList_run_append {P : Program} {w : World} {ops : Array Oper} {rest : List Oper} {o : Oper} {a : Act} {Q : Exit → Act → World → Prop} (hg : o.guard = none) (s x : Operand) (t : TypeId) (hop : o.op = Op.call { callee := Callee.builtin Builtin.append, args := #[s, x], argTypes := #[t, t] })
    (v u v' : Value) (w' : World) (hs : a.eval s = v) (hx : a.eval x = u) (hr : ∀ ty, (Builtin.append_ #[t, t] ty #[v, u]).run P w = .ok v' w') (hK : wpList P ops Q rest (a.put o.dst v') w') : wpList P ops Q (o :: rest) a w := by
  refine wpList_plain hg fun K hK' => ?_
  have hrun := hr o.type
  unfold Oper.wp
  simp [execOp, hop, resolve, invoke, builtin, hs, hx, hrun, Result.andThen]
  exact hK' _ _ hK
theorem app_pg (W : World) (B : Nat) (v : Value) (xs : List (Option Pd.Sheet)) (o : Option Pd.Sheet) (y : Nat) (hown : W.ownsRow B 83 3 v xs.length (xs.flatMap pgC)) (hl : xs.length ≤ 100000) (hB : B ≤ W.heap.size) (hy : W.heap[y]? = some (.cells (pgC o).toArray 83 (0, 0))) :
    ∃ v' w', (∀ ty, (Builtin.append_ #[36, 36] ty #[v, .slice (some ⟨y, 0, none⟩) 1 1]).run Tryz.prog W = .ok v' w') ∧ w'.ownsRow B 83 3 v' (xs ++ [o]).length ((xs ++ [o]).flatMap pgC) ∧ W.grownBy w' v.ownBlock ∧ (v'.ownBlock = v.ownBlock ∨ v'.ownBlock = some W.heap.size) := by
  obtain ⟨i0, hi, hz0, hz1, hz2⟩ := info_parts info_pg
  obtain ⟨v', w', hr, h2, h3, h4, h5⟩ := run_append_own_at (P := Tryz.prog) W B 36 0 83 i0 (.agg #[.int .i64 0, .string ⟨#[]⟩, .bool false]) 3 32 Tryz.underlying36 hi hz0 hz1 hz2 rfl (by omega) v xs.length (xs.flatMap pgC) hown ⟨y, 0, none⟩ 1 1 (pgC o) (by rw [pgC_length]) (fun j u hj => by rw [Addr.add_mid]; exact range_all hy j u hj) (pgC_one o) (by unfold maxLen; omega) (by omega) hB
  exact ⟨v', w', fun _ => hr, by simpa using h2, h3, h5⟩
theorem app_int (W : World) (B : Nat) (v : Value) (fl : List Nat) (id y : Nat) (hown : W.ownsRow B 3 1 v fl.length (intC fl)) (hl : fl.length ≤ 100000) (hBy : B ≤ y) (hB : B ≤ W.heap.size) (hy : W.heap[y]? = some (.cells #[.int .i64 (id : Int)] 3 (0, 0))) :
    ∃ v' w', (∀ ty, (Builtin.append_ #[37, 37] ty #[.slice (some ⟨y, 0, none⟩) 1 1, v]).run Tryz.prog W = .ok v' w') ∧ w'.ownsRow B 3 1 v' (id :: fl).length (intC (id :: fl)) ∧ W.grownBy w' (some y) ∧ (v'.ownBlock = some y ∨ v'.ownBlock = some W.heap.size) := by
  obtain ⟨i0, hi, hz0, hz1, hz2⟩ := info_parts infoInt
  have hrow : W.ownsRow B 3 1 (.slice (some ⟨y, 0, none⟩) 1 1) 1 (intC [id]) := ⟨rfl, .inr ⟨y, 1, _, rfl, hBy, hy, Nat.le_refl _, by unfold maxLen; omega, rfl, rfl⟩⟩
  rcases hown.2 with ⟨rfl, h0⟩ | ⟨g, cap, cur, rfl, hg, hb, h1, h2, h3, h4⟩
  · have hfl : fl = [] := List.length_eq_zero_iff.1 h0
    subst hfl
    have hS := Src.ofNil (P := Tryz.prog) W (size := i0.size) (tx := 37) Tryz.underlying37 0
    have hr := run_append_room_src (P := Tryz.prog) W 37 37 0 3 i0 Tryz.underlying37 hi y 0 1 1 (.slice none 0 0) 0 [] hS (Nat.le_refl _) (fun j hj => by cases hj) (fun j hj => by cases hj)
    refine ⟨_, _, fun _ => hr, ?_, ⟨rfl, rfl, rfl, Nat.le_refl _, fun _ _ _ => rfl⟩, .inl rfl⟩
    exact hrow
  · obtain ⟨v', w', hr, h2', h3', h4', h5'⟩ := run_append_own_at (P := Tryz.prog) W B 37 0 3 i0 (.int .i64 0) 1 8 Tryz.underlying37 hi hz0 hz1 hz2 rfl (by omega) _ 1 (intC [id]) hrow ⟨g, 0, none⟩ fl.length cap (intC fl) (by unfold intC; rw [List.length_map]; omega) (fun j u hj => by
      rw [Addr.add_mid, cell_of_row W g _ _ _ (0, 0) hb]
      have hlt : j < (intC fl).length := (List.getElem?_eq_some_iff.1 hj).1
      rw [← h4] at hj
      rw [Nat.zero_add, ← Array.getElem?_toList]
      rw [List.getElem?_take_of_lt (by unfold intC at hlt; rw [List.length_map] at hlt; omega)] at hj
      exact hj) (intC_one fl) (by unfold maxLen; omega) (by omega) hB
    refine ⟨v', w', fun _ => hr, ?_, h3', h5'⟩
    rw [List.length_cons, Nat.add_comm]
    exact h2'
end Go.Proofs.YtcfninpokngmlaaGreatDoor
