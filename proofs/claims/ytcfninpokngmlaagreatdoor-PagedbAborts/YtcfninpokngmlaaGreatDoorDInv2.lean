/- Proved: plain facts of settle and take over what a database has (stage 10). No program is named. -/
import Derived.Test.YtcfninpokngmlaaGreatDoorDInv
namespace Pd
open Wl
theorem Recs.nil {n cnt : Nat} {ms : List Mp} (h : Recs n cnt [] ms) : ms = [] := by
  have := h.eq
  cases ms with
  | nil => rfl
  | cons a ms => cases this
theorem nilRecs (n cnt : Nat) : Recs n cnt [] [] := ⟨rfl, fun _ h => (nomatch h), fun _ h => (nomatch h), fun _ h => (nomatch h)⟩
theorem wrAll_fits {ks : List ByteArray} {n cnt : Nat} {m : Mp} (hf : Fine cnt m) (hr : n + 8 * cnt ≤ ks.length) : ∀ p ∈ wrAll n m, p.1 < ks.length ∧ p.2.size = 64 := fun p hp => by
  obtain ⟨q, hq, j, hj, rfl⟩ := wr_mem hp
  have h1 := hf q hq
  exact ⟨by simp only; omega, secAt_size (pageOf_size h1.2) j⟩
/- the log's records are gone: the pages are at their places -/
theorem settle_res {K : Nat} {d : Db} {S : Ab} (I : Inv K d S) (hK : K ≤ 1000000) (hk1 : Sc.Ok (setT d).1.s) : Aft (K + 8 * d.cnt + 4) d (setT d).1 (setT d).2 S S ∧ ((setT d).2 = 0 → (setT d).1.m = [] ∧ (setT d).1.l.recs = []) := by
  obtain ⟨hn1, hn2, hn3, hn4, hn5⟩ := setT_n d
  obtain ⟨ms, hR, hm⟩ := I.recs
  obtain ⟨hu, hf, hml⟩ := I.upm
  have hroom := I.fnd.room
  have hwf := wrAll_fits hf hroom
  have hlen8 := wrAll_length d.n d.m
  by_cases h0 : d.l.recs = []
  · have e : setT d = (d, 0) := by unfold setT; rw [if_pos h0]
    rw [e]
    have hms : ms = [] := by rw [h0] at hR; exact hR.nil
    refine ⟨⟨rfl, rfl, rfl, by have := I.dn; simp only; omega, I.sok, .inl ⟨rfl, I.up (by omega), fun h => h⟩⟩, fun _ => ⟨by rw [hm, hms]; rfl, h0⟩⟩
  · obtain ⟨k, a1, a2, a3, a4⟩ := wrs_res (wrAll d.n d.m) d.s I.down hwf
    rw [I.pend, List.nil_append] at a2
    have hw : setW d = wrs (wrAll d.n d.m) d.s := rfl
    rw [← hw] at a1 a2 a3 a4
    have hsub : ∀ q ∈ (wrAll d.n d.m).take k, q ∈ wrAll d.n d.m := fun q hq => List.mem_of_mem_take hq
    have hfound : ∀ f, Dsk (Sc.keepI f ((wrAll d.n d.m).take k) 0 d.s.kept) d.n d.cnt (K + 8 * d.cnt + 4) S := fun f =>
      ⟨d.l.epoch, d.l.recs, ms, by have := I.ep; omega, I.lok.is.2, by
        rw [← I.lok.is.1]
        exact On.low I.on (Sc.keepI_length _ _ _ _) (fun x hx => keep_log hsub f 0 _ hx), hR, by
        rw [← hm]
        exact I.fnd.kept hu hsub f 0⟩
    have hdn := I.dn
    rcases a4 with ⟨b1, b2, b3, b4⟩ | ⟨b1, b2, b3⟩
    · by_cases hfl : (setW d).1.left = 0
      · have e1 : Sc.flushE (setW d).1 = 10 := by unfold Sc.flushE; rw [if_neg (by rw [b2]; decide), if_pos hfl]
        have e2 : Sc.flushS (setW d).1 = Sc.fell (setW d).1 := by unfold Sc.flushS; rw [if_neg (by rw [b2]; decide), if_pos hfl]
        have e : setT d = ({ d with s := Sc.fell (setW d).1 }, 10) := by unfold setT; rw [if_neg h0, if_pos b1, e1, if_neg (by decide), e2]
        rw [e] at hk1 ⊢
        refine ⟨⟨rfl, rfl, by show (setW d).1.kept.length = _; rw [a1], by show (setW d).1.dn ≤ _; omega, hk1, .inr ⟨rfl, fun h => ?_, rfl, fun f => .inl ?_⟩⟩, fun h => by cases h⟩
        · rw [b4 h] at hfl; omega
        · show Dsk (Sc.keepI f (setW d).1.pend 0 (setW d).1.kept) d.n d.cnt _ S
          rw [a1, a2]; exact hfound f
      · have e1 : Sc.flushE (setW d).1 = 0 := by unfold Sc.flushE; rw [if_neg (by rw [b2]; decide), if_neg hfl]
        have e2 : Sc.flushS (setW d).1 = Sc.flushed (setW d).1 := by unfold Sc.flushS; rw [if_neg (by rw [b2]; decide), if_neg hfl]
        have e : setT d = ({ d with m := [], l := resetL d.l (Sc.flushed (setW d).1), s := resetS d.l (Sc.flushed (setW d).1) }, resetE d.l (Sc.flushed (setW d).1)) := by unfold setT; rw [if_neg h0, if_pos b1, e1, if_pos rfl, e2]
        generalize hs2 : Sc.flushed (setW d).1 = s2 at e
        have c1 : s2.kept = Sc.keepI (fun _ => true) (wrAll d.n d.m) 0 d.s.kept := by
          rw [← hs2]
          show Sc.keepI (fun _ => true) (setW d).1.pend 0 (setW d).1.kept = _
          rw [a1, a2, b3, List.take_length]
        have c2 : s2.pend = [] := by rw [← hs2]; rfl
        have c3 : s2.down = false := by rw [← hs2]; exact b2
        have c4 : s2.dn = (setW d).1.dn + 1 := by rw [← hs2]; rfl
        have c5 : d.s.left = -1 → s2.left = -1 := fun h => by
          rw [← hs2]
          show (if 0 < (setW d).1.left then _ else _) = _
          rw [b4 h]
          rfl
        have c6 : s2.kept.length = d.s.kept.length := by rw [c1, Sc.keepI_length]
        have hon2 : On s2.kept 0 d.n d.l.epoch d.l.bytes := by
          rw [c1]
          exact On.low I.on (Sc.keepI_length _ _ _ _) (fun x hx => keep_log (fun q hq => hq) _ 0 _ hx)
        have hF1 : Fnd s2.kept d.n d.cnt S d.m := by rw [c1]; exact I.fnd.kept hu (fun q hq => hq) _ 0
        have hF2 : Fnd s2.kept d.n d.cnt S [] := by rw [c1]; exact I.fnd.settled hu hf 0
        have h1 : ¬ d.l.lost = true := by rw [I.llost]; decide
        have h2 : ¬ 0 < d.l.wait.length := by rw [I.wait]; decide
        have h3 : ¬ d.l.epoch = 4611686018427387904 := by have := I.ep; omega
        have hn2' := I.n2
        obtain ⟨g1, g2⟩ := hd_mark (s := s2) (base := d.l.base) (e := d.l.epoch + 1) (l := 0) c3 (by rw [I.base, c6]; omega)
        have eE : resetE d.l s2 = markE s2 0 (d.l.epoch + 1) 0 := by unfold resetE; rw [if_neg h1, if_neg h2, if_neg h3, g2, I.base]
        have eS : resetS d.l s2 = markS s2 0 (d.l.epoch + 1) 0 := by unfold resetS; rw [if_neg h1, if_neg h2, if_neg h3, g1, I.base]
        obtain ⟨f1, f2⟩ := mark_found (s := s2) (base := 0) (n := d.n) (e := d.l.epoch) (b := d.l.bytes) c2 hon2 (e' := d.l.epoch + 1) (b' := ob []) (Holds.nil _ _) (by rw [ob_size]; simp) (by have := I.ep; omega)
        obtain ⟨r1, r2, r3, r4⟩ := mark_res s2 0 (d.l.epoch + 1) 0 c2
        have hlen : (markS s2 0 (d.l.epoch + 1) 0).kept.length = d.s.kept.length := by rw [markS_len, c6]
        have hnn := hn2'.1
        rw [e] at hk1 ⊢
        rw [eS] at hk1
        have hdn2 : (markS s2 0 (d.l.epoch + 1) 0).dn ≤ K + 8 * d.cnt + 4 := by omega
        rcases markE_two s2 0 (d.l.epoch + 1) 0 c3 with ⟨t1, t2⟩ | ⟨t1, t2⟩
        · obtain ⟨f3, f4⟩ := f2 t1
          have hk := KK_nil f4 (fun _ => true)
          have hL : resetL d.l s2 = { d.l with epoch := d.l.epoch + 1, bytes := ob [], recs := [] } := by
            have t1' : hdE s2 d.l.base (d.l.epoch + 1) 0 = 0 := by rw [g2, I.base]; exact t1
            unfold resetL
            rw [if_neg h1, if_neg h2, if_neg h3, if_pos t1']
          refine ⟨⟨rfl, rfl, by show (resetS d.l s2).kept.length = _; rw [eS, hlen], by show (resetS d.l s2).dn ≤ _; rw [eS]; exact hdn2, by show Sc.Ok (resetS d.l s2); rw [eS]; exact hk1, .inl ⟨by show resetE d.l s2 = 0; rw [eE]; exact t1, ?_, fun h => by show (resetS d.l s2).left = -1; rw [eS]; exact r4 (c5 h)⟩⟩, fun _ => ⟨rfl, by show (resetL d.l s2).recs = []; rw [hL]⟩⟩
          have hon3 : On (KK (fun _ => true) (markS s2 0 (d.l.epoch + 1) 0)) 0 d.n (d.l.epoch + 1) (ob []) := f3 (fun _ => true)
          have hk : KK (fun _ => true) (markS s2 0 (d.l.epoch + 1) 0) = (markS s2 0 (d.l.epoch + 1) 0).kept := hk
          rw [hk] at hon3
          have hF3 : Fnd (markS s2 0 (d.l.epoch + 1) 0).kept d.n d.cnt S [] := hF2.out (by rw [hlen, c6]) (fun x hx => by have := r2 (fun _ => true) x (by omega); rw [hk] at this; exact this)
          rw [eS, hL]
          exact { down := t2, pend := f4, sok := hk1, lost := I.lost, llost := I.llost, wait := I.wait, base := I.base, ln := I.ln, lok := by have := resetL_ok I.lok s2; rw [hL] at this; exact this, on := hon3, recs := ⟨[], nilRecs _ _, rfl⟩, fnd := hF3, st := I.st, ep := by have := I.ep; show d.l.epoch + 1 ≤ _; omega, dn := hdn2 }
        · refine ⟨⟨rfl, rfl, by show (resetS d.l s2).kept.length = _; rw [eS, hlen], by show (resetS d.l s2).dn ≤ _; rw [eS]; exact hdn2, by show Sc.Ok (resetS d.l s2); rw [eS]; exact hk1, .inr ⟨by show resetE d.l s2 = 10; rw [eE]; exact t1, fun h => r3 t1 (c5 h), by show (resetS d.l s2).down = true; rw [eS]; exact t2, fun f => .inl ?_⟩⟩, fun h => by
            have h' : resetE d.l s2 = 0 := h
            rw [eE, t1] at h'; cases h'⟩
          show Dsk (KK f (resetS d.l s2)) d.n d.cnt _ S
          rw [eS]
          have hout : ∀ x, d.n ≤ x → (KK f (markS s2 0 (d.l.epoch + 1) 0)).getD x Sc.zero64 = s2.kept.getD x Sc.zero64 := fun x hx => r2 f x (by omega)
          have hlenK : (KK f (markS s2 0 (d.l.epoch + 1) 0)).length = s2.kept.length := by rw [KK_length, hlen, c6]
          rcases f1 f with h | h
          · exact ⟨d.l.epoch, d.l.recs, ms, by have := I.ep; omega, I.lok.is.2, by rw [← I.lok.is.1]; exact h, hR, by rw [← hm]; exact hF1.out hlenK hout⟩
          · exact ⟨d.l.epoch + 1, [], [], by have := I.ep; omega, (by intro r hr; cases hr), h, nilRecs _ _, hF2.out hlenK hout⟩
    · have e : setT d = ({ d with s := (setW d).1 }, 10) := by unfold setT; rw [if_neg h0, if_neg (by rw [b1]; decide), b1]
      rw [e] at hk1 ⊢
      refine ⟨⟨rfl, rfl, by show (setW d).1.kept.length = _; rw [a1], by show (setW d).1.dn ≤ _; omega, hk1, .inr ⟨rfl, b3, b2, fun f => .inl ?_⟩⟩, fun h => by cases h⟩
      show Dsk (Sc.keepI f (setW d).1.pend 0 (setW d).1.kept) d.n d.cnt _ S
      rw [a1, a2]; exact hfound f
end Pd
