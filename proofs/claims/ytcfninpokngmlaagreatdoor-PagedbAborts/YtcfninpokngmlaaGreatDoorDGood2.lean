/- Proved: Commit, Checkpoint and Open of a database, whether the power goes within them or not (stage 10). -/
import Derived.Test.YtcfninpokngmlaaGreatDoorDGood
namespace Pd
open Wl
theorem wrs_ok : ∀ (l : List (Nat × ByteArray)) (s : Sc.St), Sc.Ok s → Sc.Ok (wrs l s).1
  | [], _, h => h
  | p :: l, s, h => by
    rw [wrs_cons]
    by_cases e : Sc.writeE s (p.1 : Int) p.2 = 0
    · rw [if_pos e]; exact wrs_ok l _ (Sc.writeS_ok h _ _)
    · rw [if_neg e]; exact Sc.writeS_ok h _ _
theorem hdS_ok {s : Sc.St} (h : Sc.Ok s) (base e l : Nat) : Sc.Ok (hdS s base e l) := by
  unfold hdS
  split
  · exact Sc.flushS_ok (Sc.writeS_ok h _ _)
  · exact Sc.writeS_ok h _ _
theorem resetS_ok {s : Sc.St} (h : Sc.Ok s) (l : Lg) : Sc.Ok (resetS l s) := by
  unfold resetS
  split
  · exact h
  · split
    · exact h
    · split
      · exact h
      · exact hdS_ok h _ _ _
theorem setT_ok {d : Db} (h : Sc.Ok d.s) : Sc.Ok (setT d).1.s := by
  have h1 : Sc.Ok (setW d).1 := wrs_ok _ _ h
  unfold setT
  split
  · exact h
  · split
    · split
      · exact resetS_ok (Sc.flushS_ok h1) _
      · exact Sc.flushS_ok h1
    · exact h1
theorem takeA_ok {d : Db} (h : Sc.Ok d.s) (tm : Mp) : Sc.Ok (takeA d tm).1.s := by
  unfold takeA
  split
  · exact setT_ok h
  · exact h
theorem hdS_pend (s : Sc.St) (base e l : Nat) : (hdS s base e l).pend.length ≤ s.pend.length + 2 ∧ (hdS s base e l).dn ≤ s.dn + 2 := by
  have h1 := Sc.writeS_step s (base : Int) (head e l)
  have h2 := Sc.flushS_step (Sc.writeS s (base : Int) (head e l))
  have a1 := h1.pend
  have a2 := h2.pend
  have a3 := h1.dn
  have a4 := h2.dn
  unfold hdS
  split <;> exact ⟨by omega, by omega⟩
theorem resetS_pend (l : Lg) (s : Sc.St) : (resetS l s).pend.length ≤ s.pend.length + 2 ∧ (resetS l s).dn ≤ s.dn + 2 := by
  have := hdS_pend s l.base (l.epoch + 1) 0
  unfold resetS
  split
  · exact ⟨by omega, by omega⟩
  · split
    · exact ⟨by omega, by omega⟩
    · split
      · exact ⟨by omega, by omega⟩
      · exact this
theorem lose_n (l : Lg) (e : Int) : (lose l e).n = l.n := by unfold lose; split <;> rfl
theorem resetL_n (l : Lg) (s : Sc.St) : (resetL l s).n = l.n := by
  unfold resetL
  split
  · rfl
  · split
    · rfl
    · split
      · rfl
      · split
        · rfl
        · exact lose_n _ _
theorem setT_more (d : Db) : (setT d).1.s.pend.length ≤ d.s.pend.length + 8 * d.m.length + 3 ∧ (setT d).1.s.dn ≤ d.s.dn + 8 * d.m.length + 3 ∧ (setT d).1.l.n = d.l.n := by
  have h1 := wrs_step (wrAll d.n d.m) d.s
  rw [wrAll_length] at h1
  have h2 : (setW d).1.dn ≤ d.s.dn + 8 * d.m.length ∧ (setW d).1.pend.length ≤ d.s.pend.length + 8 * d.m.length := h1.2
  have h3 := Sc.flushS_step (setW d).1
  have h4 := h3.pend
  have h5 := h3.dn
  have h6 := resetS_pend d.l (Sc.flushS (setW d).1)
  unfold setT
  split
  · exact ⟨by simp only; omega, by simp only; omega, rfl⟩
  · split
    · split
      · exact ⟨by simp only; omega, by simp only; omega, resetL_n _ _⟩
      · exact ⟨by simp only; omega, by simp only; omega, rfl⟩
    · exact ⟨by simp only; omega, by simp only; omega, rfl⟩
theorem takeA_more (d : Db) (tm : Mp) : (takeA d tm).1.s.pend.length ≤ d.s.pend.length + 8 * d.m.length + 3 ∧ (takeA d tm).1.s.dn ≤ d.s.dn + 8 * d.m.length + 3 ∧ (takeA d tm).1.l.n = d.l.n := by
  unfold takeA
  split
  · exact setT_more d
  · exact ⟨by simp only; omega, by simp only; omega, rfl⟩
theorem setT_st (d : Db) (t : Stt) : setT { d with st := t } = ({ (setT d).1 with st := t }, (setT d).2) := by
  have hw : setW { d with st := t } = setW d := rfl
  unfold setT
  rw [hw]
  by_cases h0 : d.l.recs = []
  · rw [if_pos h0, if_pos h0]
  · rw [if_neg h0, if_neg h0]
    by_cases h1 : (setW d).2 = 0
    · rw [if_pos h1, if_pos h1]
      by_cases h2 : Sc.flushE (setW d).1 = 0
      · rw [if_pos h2, if_pos h2]
      · rw [if_neg h2, if_neg h2]
    · rw [if_neg h1, if_neg h1]
/- the power went: the disk alone is left, and what is found on it -/
structure Fell (K n cnt : Nat) (s0 s : Sc.St) (was now : Ab) : Prop where
  armed : s0.left ≠ -1
  down : s.down = true
  dn : s.dn ≤ K
  len : s.kept.length = s0.kept.length
  found : ∀ f, Dsk (KK f s) n cnt K was ∨ Dsk (KK f s) n cnt K now
structure Kin (d d' : Db) : Prop where
  n : d'.n = d.n
  cnt : d'.cnt = d.cnt
  len : d'.s.kept.length = d.s.kept.length
  left : d.s.left = -1 → d'.s.left = -1
theorem Kin.refl (d : Db) : Kin d d := ⟨rfl, rfl, rfl, fun h => h⟩
theorem Inv.of_lost {K : Nat} {d : Db} {S : Ab} (h : Inv K d S) : Inv K { d with lost := false } S :=
  ⟨h.down, h.pend, h.sok, rfl, h.llost, h.wait, h.base, h.ln, h.lok, h.on, h.recs, h.fnd, h.st, h.ep, h.dn⟩
end Pd
namespace Go.Proofs.YtcfninpokngmlaaGreatDoor
open Go.RowKit
def comE (n : Nat) (sp : Bool) (tm : Pd.Mp) : Int := if sp = true then 9 else if holdsB n tm.length = false then 7 else 0
def comA (n : Nat) (sp : Bool) (tm : Pd.Mp) (S T : Pd.Ab) : Pd.Ab := if comE n sp tm = 0 then T else S
/- Commit's end: done, or refused; or the power went -/
def ComDone (W w : World) (A : Ad) (t bt K : Nat) (d : Pd.Db) (S : Pd.Ab) (E : Int) (e : Ending) (w' : World) : Prop := e = .returned (.int .i64 E) ∧ ∃ vr vw vp d', GD W w' (A.to vr vw vp) (K + 8 * d.cnt + d.n + 8) d' S ∧ Pd.Kin d d' ∧ TxEnd w' t ∧ Turn (tft A t bt) (tft (A.to vr vw vp) t bt) w w'
def ComFell (w : World) (A : Ad) (t bt K : Nat) (d : Pd.Db) (S T : Pd.Ab) (e : Ending) (w' : World) : Prop := e = .returned (.int .i64 10) ∧ ∃ vr vw vp s', Dk w' A.g A.kg vp s' ∧ Pd.Fell (K + 8 * d.cnt + d.n + 8) d.n d.cnt d.s s' S T ∧ Turn (tft A t bt) (tft (A.to vr vw vp) t bt) w w'
section
variable {W w w' : World} {A : Ad} {t bt K : Nat} {d : Pd.Db} {S T : Pd.Ab} {sp : Bool} {tm : Pd.Mp}
theorem gcommit (G : GT W w A t bt K d S T sp tm) (hK : K ≤ 60000) (hn : d.n ≤ 10000) : Calls Tryz.prog 33 #[ptr t] w fun e w' => ComDone W w A t bt K d (comA d.n sp tm S T) (comE d.n sp tm) e w' ∨ (comE d.n sp tm = 0 ∧ tm ≠ [] ∧ ComFell w A t bt K d S T e w') := by
  have hF := fits_of G.inv
  have hn2 := G.inv.n2
  have hml := G.ml
  obtain ⟨hu, hf, hdl⟩ := G.inv.upm
  have hdn := G.inv.dn
  have hpe : d.s.pend.length = 0 := by rw [G.inv.pend]; rfl
  by_cases hc : sp = true ∨ holdsB d.n tm.length = false ∨ tm = []
  · refine (commit_no A t bt d ⟨T.stt, tm, sp⟩ w G.tx hF (by omega) hml hc).mono ?_
    rintro e w' ⟨rfl, hX, hE, hC⟩
    have hA : comA d.n sp tm S T = S := by
      unfold comA comE
      by_cases h1 : sp = true
      · rw [if_pos h1, if_neg (by decide)]
      · rw [if_neg h1]
        by_cases h2 : holdsB d.n tm.length = false
        · rw [if_pos h2, if_neg (by decide)]
        · rw [if_neg h2, if_pos rfl]
          exact G.txi.emp ((hc.resolve_left h1).resolve_left h2)
    rw [hA]
    exact .inl ⟨rfl, A.vr, A.vw, A.vp, d, ⟨hX, G.inv.up (by omega), G.bel.trans (hC.below G.new G.bel.size), fun k hk => G.new k (tft_a hk)⟩, Pd.Kin.refl d, hE, hC, fun k hk => .inl hk⟩
  · have h1 : sp = false := by cases sp with
      | false => rfl
      | true => exact absurd (.inl rfl) hc
    have h2 : holdsB d.n tm.length = true := by
      cases h : holdsB d.n tm.length with
      | true => rfl
      | false => exact absurd (.inr (.inl h)) hc
    have h3 : tm ≠ [] := fun h => hc (.inr (.inr h))
    have hE : comE d.n sp tm = 0 := by unfold comE; rw [h1, h2]; rfl
    have hh : 4 + 516 * tm.length ≤ 65536 ∧ 12 + 516 * tm.length ≤ 64 * (d.n - 1) := by
      unfold holdsB at h2
      simpa using h2
    obtain ⟨b1, b2, b3⟩ := Pd.takeA_more d tm
    rw [G.inv.ln] at b3
    have hk0 := Pd.takeA_ok G.inv.sok tm
    refine (commit_take A t bt d ⟨T.stt, tm, sp⟩ w G.tx hF (by omega) h1 h2 h3 hf G.txi.fine (by omega) (by omega) (by show (Pd.takeA d tm).1.s.dn + (Pd.takeA d tm).1.l.n ≤ _; omega) (by show (Pd.takeA d tm).1.s.pend.length + (Pd.takeA d tm).1.l.n ≤ _; omega) (fun q1 _ => ?_)).mono ?_
    · have J : Pd.Inv (K + 8 * d.cnt + 4) (Pd.takeA d tm).1 S := by
        have q1 : (Pd.takeA d tm).2 = 0 := q1
        unfold Pd.takeA at q1 hk0 ⊢
        by_cases hr : Wl.room d.l < ((12 + 516 * tm.length : Nat) : Int)
        · rw [if_pos hr] at q1 hk0 ⊢
          rcases (Pd.settle_res G.inv (by omega) hk0).1.told with ⟨_, J, _⟩ | ⟨e, _⟩
          · exact J
          · rw [q1] at e; cases e
        · rw [if_neg hr]
          exact G.inv.up (by omega)
      refine ⟨J.down, fun j hj => ?_⟩
      have hj : j < (Pd.takeA d tm).1.l.bytes.size % 64 := hj
      have hon : Wl.On (Wl.flat (Pd.takeA d tm).1.s) (Pd.takeA d tm).1.l.base (Pd.takeA d tm).1.n (Pd.takeA d tm).1.l.epoch (Pd.takeA d tm).1.l.bytes := by rw [Wl.flat_nil J.pend, J.base]; exact J.on
      exact hon.tail (i := (Pd.takeA d tm).1.l.bytes.size / 64) (by omega) (by omega)
    · rintro e w' ⟨rfl, vr, vw, vp, hor, hT⟩
      have hT : Turn (tft A t bt) (tft (A.to vr vw vp) t bt) w w' := hT
      have hok : Sc.Ok (Pd.takeT d tm T.stt).1.s ∧ (Pd.takeT d tm T.stt).1.l.Ok := by
        rcases hor with ⟨_, hD, _⟩ | ⟨_, hD⟩
        · exact ⟨hD.lp.dk.ok, hD.lp.pk.ok⟩
        · exact ⟨hD.lp.dk.ok, hD.lp.pk.ok⟩
      obtain ⟨hAf, _⟩ := Pd.take_res G.inv G.txi h3 hh (by omega) hk0 hok.1 hok.2
      rcases hAf.told with ⟨e0, J, hl⟩ | ⟨e0, hl, hdw, hfd⟩
      · left
        have e0' : (Pd.takeT d tm T.stt).2 = 0 := e0
        have hA : comA d.n sp tm S T = T := by unfold comA; rw [if_pos hE]
        rw [hA, hE]
        rcases hor with ⟨_, hD, hEnd⟩ | ⟨hh, _⟩
        · refine ⟨by show Ending.returned (.int .i64 (Pd.takeT d tm T.stt).2) = _; rw [e0'], vr, vw, vp, _, ⟨hD, J.of_lost, G.bel.trans (hT.below G.new G.bel.size), fun k hk => hT.above G.new G.bel.size k (tft_a hk)⟩, ⟨hAf.n, hAf.cnt, hAf.len, hl⟩, hEnd, hT⟩
        · exact absurd hh (by show ¬ heedB (Pd.takeT d tm T.stt).2 = true; rw [e0']; decide)
      · right
        have e0' : (Pd.takeT d tm T.stt).2 = 10 := e0
        refine ⟨hE, h3, by show Ending.returned (.int .i64 (Pd.takeT d tm T.stt).2) = _; rw [e0'], vr, vw, vp, (Pd.takeT d tm T.stt).1.s, ?_, ⟨hl, hdw, hAf.dn, hAf.len, hfd⟩, hT⟩
        rcases hor with ⟨_, hD, _⟩ | ⟨_, hD⟩
        · exact hD.lp.dk
        · exact hD.lp.dk
def CkDone (W w : World) (A : Ad) (K : Nat) (d : Pd.Db) (S : Pd.Ab) (e : Ending) (w' : World) : Prop := e = .returned (.int .i64 0) ∧ ∃ vr vw vp d', GD W w' (A.to vr vw vp) (K + 8 * d.cnt + 4) d' S ∧ Pd.Kin d d' ∧ Turn A.ft (A.to vr vw vp).ft w w'
def CkFell (w : World) (A : Ad) (K : Nat) (d : Pd.Db) (S : Pd.Ab) (e : Ending) (w' : World) : Prop := e = .returned (.int .i64 10) ∧ ∃ vr vw vp s', Dk w' A.g A.kg vp s' ∧ Pd.Fell (K + 8 * d.cnt + 4) d.n d.cnt d.s s' S S ∧ Turn A.ft (A.to vr vw vp).ft w w'
theorem gckpt (G : GD W w A K d S) (hK : K ≤ 60000) : Calls Tryz.prog 25 #[ptr A.x] w fun e w' => CkDone W w A K d S e w' ∨ CkFell w A K d S e w' := by
  have hn2 := G.inv.n2
  obtain ⟨hu, hf, hdl⟩ := G.inv.upm
  have hdn := G.inv.dn
  have hpe : d.s.pend.length = 0 := by rw [G.inv.pend]; rfl
  refine (ckpt_any A d w G.db G.inv.lost hf (by omega) (by omega) (by omega) (by omega)).mono ?_
  rintro e w' ⟨vr, vw, vp, rfl, hD, hT⟩
  obtain ⟨hAf, _⟩ := Pd.settle_res G.inv (by omega) (Pd.setT_ok G.inv.sok)
  rcases hAf.told with ⟨e0, J, hl⟩ | ⟨e0, hl, hdw, hfd⟩
  · left
    rw [e0] at hD ⊢
    exact ⟨rfl, vr, vw, vp, _, ⟨hD, J.of_lost, G.bel.trans (hT.below G.new G.bel.size), fun k hk => hT.above G.new G.bel.size k hk⟩, ⟨hAf.n, hAf.cnt, hAf.len, hl⟩, hT⟩
  · right
    rw [e0] at hD ⊢
    exact ⟨rfl, vr, vw, vp, _, hD.lp.dk, ⟨hl, hdw, hAf.dn, hAf.len, hfd⟩, hT⟩
/- a disk that has power, and a database on it -/
structure GK (W w : World) (g kg : Nat) (vp : Value) (s : Sc.St) (n cnt K : Nat) (S : Pd.Ab) : Prop where
  dk : Dk w g kg vp s
  tab : Tab w
  down : s.down = false
  pend : s.pend = []
  dsk : Pd.Dsk s.kept n cnt K S
  dn : s.dn ≤ K
  cnts : cnt = (s.kept.length - n) / 8
  four : 4 ≤ cnt
  pos : 0 < W.heap.size
  bel : Below W.heap.size W w
  new : ∀ k ∈ foot g kg vp, W.heap.size ≤ k
def OpDone (W w : World) (g kg : Nat) (vp : Value) (s : Sc.St) (n cnt K : Nat) (S : Pd.Ab) (e : Ending) (w' : World) : Prop := ∃ A d, e = .returned (.tuple #[ptr A.x, .int .i64 0]) ∧ A.g = g ∧ A.kg = kg ∧ GD W w' A (K + 8 * cnt + 4) d S ∧ d.n = n ∧ d.cnt = cnt ∧ d.s.kept.length = s.kept.length ∧ (s.left = -1 → d.s.left = -1) ∧ Turn (foot g kg vp) A.ft w w'
def OpFell (W w : World) (g kg : Nat) (vp : Value) (s : Sc.St) (n cnt K : Nat) (S : Pd.Ab) (e : Ending) (w' : World) : Prop := e = .returned (.tuple #[nilP, .int .i64 10]) ∧ ∃ vp' s', Dk w' g kg vp' s' ∧ Tab w' ∧ Below W.heap.size W w' ∧ (∀ k ∈ foot g kg vp', W.heap.size ≤ k) ∧ Pd.Fell (K + 8 * cnt + 4) n cnt s s' S S ∧ Turn (foot g kg vp) (foot g kg vp') w w'
theorem gopendb (W w : World) (g kg : Nat) (vp : Value) (s : Sc.St) (n cnt K : Nat) (S : Pd.Ab) (G : GK W w g kg vp s n cnt K S) (hK : K ≤ 60000) : Calls Tryz.prog 23 #[ptr g, .int .i64 (n : Int)] w fun e w' => OpDone W w g kg vp s n cnt K S e w' ∨ OpFell W w g kg vp s n cnt K S e w' := by
  obtain ⟨ep, rs, ms, hep, hfit, hon, hR, hfnd⟩ := G.dsk
  have hlen := G.dk.ok.most
  have hn2 := hon.two
  have hfits := hon.fits
  have hsm := hfnd.ok.small
  have hS : Safe w (foot g kg vp) := ⟨G.tab, fun h => by have := G.new 0 h; have := G.pos; omega⟩
  have hfl := Wl.flat_nil G.pend
  have hI : Pd.Inv K { d0of n cnt ep rs ms s with st := S.stt } S :=
    { down := G.down, pend := G.pend, sok := G.dk.ok, lost := rfl, llost := rfl, wait := rfl, base := rfl, ln := rfl, lok := opened_ok (ks := s.kept) hon hfit hlen, on := hon, recs := ⟨ms, hR, rfl⟩, fnd := hfnd, st := rfl, ep := hep, dn := G.dn }
  obtain ⟨hAf, hAm⟩ := Pd.settle_res hI (by omega) (Pd.setT_ok G.dk.ok)
  rw [Pd.setT_st] at hAf hAm
  have hpe : s.pend.length = 0 := by rw [G.pend]; rfl
  have hdn := G.dn
  refine (dopen_any g kg vp s n cnt ep rs ms S.stt w G.dk hS G.down hfit (by rw [hfl]; exact hon) G.cnts G.four hsm (by omega) hR (by omega) (by omega) ?_).mono ?_
  · intro h07
    rcases hAf.told with ⟨e0, J, _⟩ | ⟨e0, _⟩
    · have hm0 := (hAm e0).1
      have hJd : (Pd.setT (d0of n cnt ep rs ms s)).1.s.down = false := J.down
      have hJp : (Pd.setT (d0of n cnt ep rs ms s)).1.s.pend = [] := J.pend
      have hn' : (Pd.setT (d0of n cnt ep rs ms s)).1.n = n := hAf.n
      refine ⟨hJd, hAf.len, ?_⟩
      rw [Wl.flat_nil hJp]
      have hz := J.fnd.zero
      rw [hm0] at hz
      rcases hz with hz | ⟨_, hz⟩
      · cases hz
      · have hz : Pd.plc (Pd.setT (d0of n cnt ep rs ms s)).1.s.kept (Pd.setT (d0of n cnt ep rs ms s)).1.n 0 = Pd.pageOf 0 S.stt.sheet ∨ (Pd.plc (Pd.setT (d0of n cnt ep rs ms s)).1.s.kept (Pd.setT (d0of n cnt ep rs ms s)).1.n 0 = Pg.blank ∧ S = Pd.Ab.init) := hz
        rw [hn'] at hz
        rcases hz with hz | ⟨hz, hi⟩
        · exact .inr ⟨hz, hfnd.ok.small_stt⟩
        · exact .inl ⟨hz, by rw [hi]; rfl⟩
    · have e0 : (Pd.setT (d0of n cnt ep rs ms s)).2 = 10 := e0
      rw [e0] at h07
      rcases h07 with h | h <;> cases h
  · intro r w' hP
    rcases hAf.told with ⟨e0, J, hl⟩ | ⟨e0, hl, hdw, hfd⟩
    · left
      obtain ⟨A, hr, hg, hkg, hD, hT⟩ := hP.1 (.inl e0)
      exact ⟨A, _, hr, hg, hkg, ⟨hD, J, G.bel.trans (hT.below G.new G.bel.size), hT.above G.new G.bel.size⟩, hAf.n, hAf.cnt, hAf.len, hl, hT⟩
    · right
      have e0' : (Pd.setT (d0of n cnt ep rs ms s)).2 = 10 := e0
      obtain ⟨vp', hr, hD, hT⟩ := hP.2 (by rw [e0']; decide)
      rw [e0'] at hr
      exact ⟨hr, vp', _, hD, (hS.turn hT).tab, G.bel.trans (hT.below G.new G.bel.size), hT.above G.new G.bel.size, ⟨hl, hdw, hAf.dn, hAf.len, hfd⟩, hT⟩
end
end Go.Proofs.YtcfninpokngmlaaGreatDoor
