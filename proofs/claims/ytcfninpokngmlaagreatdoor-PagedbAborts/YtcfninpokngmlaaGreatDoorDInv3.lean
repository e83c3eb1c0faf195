/- Proved: plain facts of a transaction's pages, and of take over what a database has (stage 10). No program is named. -/
import Derived.Test.YtcfninpokngmlaaGreatDoorDInv2
namespace Pd
open Wl
theorem init_of {T : Ab} {cnt : Nat} (h : T.Ok cnt) (e : T.stt = Ab.init.stt) : T = Ab.init := by
  obtain ⟨p, fr, r0, r1, r2, r3⟩ := T
  have e1 : p.length = 1 := congrArg Stt.high e
  have e2 : fr.length = 0 := congrArg Stt.free e
  have e3 : r0 = 0 := congrArg Stt.r0 e
  have e4 : r1 = 0 := congrArg Stt.r1 e
  have e5 : r2 = 0 := congrArg Stt.r2 e
  have e6 : r3 = 0 := congrArg Stt.r3 e
  have h1 : p[0]? = some (some page00) := h.one
  subst e3 e4 e5 e6
  rw [List.length_eq_zero_iff.1 e2]
  obtain ⟨x, rfl⟩ := List.length_eq_one_iff.1 e1
  have : x = some page00 := Option.some.inj h1
  rw [this]
  rfl
/- what a transaction has changed, between what was there and what it sees -/
structure TxI (cnt : Nat) (S T : Ab) (tm : Mp) : Prop where
  ok : T.Ok cnt
  up : Up tm
  fine : Fine cnt tm
  has : ∀ i, 1 ≤ i → i < T.pgs.length → get tm i = some (T.sh i) ∨ (get tm i = none ∧ i < S.pgs.length ∧ T.sh i = S.sh i)
  zero : get tm 0 = some T.stt.sheet ∨ (get tm 0 = none ∧ T.stt = S.stt)
  emp : tm = [] → T = S
theorem TxI.start {cnt : Nat} {S : Ab} (h : S.Ok cnt) : TxI cnt S S [] :=
  ⟨h, up_nil, fun _ h => (nomatch h), fun _ _ h2 => .inr ⟨rfl, h2, rfl⟩, .inr ⟨rfl, rfl⟩, fun _ => rfl⟩
theorem TxI.length {cnt : Nat} {S T : Ab} {tm : Mp} (h : TxI cnt S T tm) : tm.length ≤ cnt := fine_length h.up h.fine
theorem Fnd.over {ks : List ByteArray} {n cnt : Nat} {S T : Ab} {m tm : Mp} (h : Fnd ks n cnt S m) (hu : Up m) (t : TxI cnt S T tm) : Fnd ks n cnt T (copy m tm) := by
  refine ⟨t.ok, h.room, fun i h1 h2 => ?_, ?_⟩
  · rw [get_copy i tm hu t.up]
    rcases t.has i h1 h2 with e | ⟨e, e2, e3⟩
    · rw [e]; exact .inl rfl
    · rw [e, e3]; exact h.has i h1 e2
  · rw [get_copy 0 tm hu t.up]
    rcases t.zero with e | ⟨e, e2⟩
    · rw [e]; exact .inl rfl
    · rw [e, e2]
      rcases h.zero with g | ⟨g, g2⟩
      · exact .inl g
      · refine .inr ⟨g, ?_⟩
        rcases g2 with g2 | ⟨g2, g3⟩
        · exact .inl g2
        · exact .inr ⟨g2, init_of t.ok (by rw [e2, g3])⟩
/- a commit's record, and its sync -/
theorem take_res {K : Nat} {d : Db} {S T : Ab} {tm : Mp} (I : Inv K d S) (t : TxI d.cnt S T tm) (hne : tm ≠ []) (hh : 4 + 516 * tm.length ≤ 65536 ∧ 12 + 516 * tm.length ≤ 64 * (d.n - 1)) (hK : K + 8 * d.cnt + 4 ≤ 1000000) (hk0 : Sc.Ok (takeA d tm).1.s) (hk1 : Sc.Ok (takeT d tm T.stt).1.s) (hlk : (takeT d tm T.stt).1.l.Ok) : Aft (K + 8 * d.cnt + d.n + 8) d (takeT d tm T.stt).1 (takeT d tm T.stt).2 S T ∧ ((takeA d tm).2 = 0 → addE (takeA d tm).1.l (recText d.n tm) = 0 ∧ Inv (K + 8 * d.cnt + 4) (takeA d tm).1 S) := by
  have hsz := recText_size (n := d.n) t.fine
  -- ahead of the record
  have hA : Aft (K + 8 * d.cnt + 4) d (takeA d tm).1 (takeA d tm).2 S S ∧ ((takeA d tm).2 = 0 → ((12 + 516 * tm.length : Nat) : Int) ≤ room (takeA d tm).1.l) := by
    unfold takeA at hk0 ⊢
    by_cases hr : room d.l < ((12 + 516 * tm.length : Nat) : Int)
    · rw [if_pos hr] at hk0 ⊢
      obtain ⟨h1, h2⟩ := settle_res I (by omega) hk0
      refine ⟨h1, fun h0 => ?_⟩
      obtain ⟨h3, h4⟩ := h2 h0
      rcases h1.told with ⟨_, J, _⟩ | ⟨e, _⟩
      · have hb := J.lok.is.1
        rw [h4] at hb
        unfold room
        rw [hb, J.wait, J.ln, h1.n]
        have : (frames []).size = 0 := by rw [frames_size]; rfl
        rw [this]
        have := hh.2
        have hn := I.n2.1
        show _ ≤ _ - ((0 : Nat) : Int) - ((total [] : Nat) : Int)
        have : total [] = 0 := rfl
        omega
      · rw [e] at h0; cases h0
    · rw [if_neg hr] at hk0 ⊢
      exact ⟨⟨rfl, rfl, rfl, by have := I.dn; simp only; omega, I.sok, .inl ⟨rfl, I.up (by omega), fun h => h⟩⟩, fun _ => by simp only; omega⟩
  obtain ⟨h1, h2⟩ := hA
  rcases h1.told with ⟨e0, J, hl⟩ | ⟨e0, hl, hdn, hD⟩
  · have hadd : addE (takeA d tm).1.l (recText d.n tm) = 0 := by
      have := h2 e0
      unfold addE
      rw [if_neg (by rw [J.llost]; decide), if_neg (by omega), if_neg (by omega)]
    refine ⟨?_, fun _ => ⟨hadd, J⟩⟩
    have hmd : (takeA d tm).1.n = d.n ∧ (takeA d tm).1.cnt = d.cnt := ⟨h1.n, h1.cnt⟩
    unfold takeT at hk1 hlk ⊢
    rw [if_pos e0, if_pos hadd] at hk1 hlk ⊢
    generalize hd2 : (takeA d tm).1 = d2 at *
    obtain ⟨hn2, hc2⟩ := hmd
    have hadS : addS d2.l (recText d.n tm) = { d2.l with wait := [recText d.n tm] } := by unfold addS; rw [if_pos hadd, J.wait]; rfl
    have hlo := addS_ok J.lok (recText d.n tm)
    generalize hl2 : addS d2.l (recText d.n tm) = l2 at *
    have w1 : l2.wait = [recText d.n tm] := by rw [hadS]
    have w2 : l2.base = 0 := by rw [hadS]; exact J.base
    have w3 : l2.n = d.n := by rw [hadS]; exact J.ln.trans hn2
    have w4 : l2.lost = false := by rw [hadS]; exact J.llost
    have w5 : l2.epoch = d2.l.epoch := by rw [hadS]
    have w6 : l2.bytes = d2.l.bytes := by rw [hadS]
    have w7 : l2.recs = d2.l.recs := by rw [hadS]
    have q1 : ¬ l2.lost = true := by rw [w4]; decide
    have q2 : ¬ l2.wait.length = 0 := by rw [w1]; simp
    have hlen := h1.len
    have hroom : d.n + 8 * d.cnt ≤ d2.s.kept.length := by rw [hlen]; exact I.fnd.room
    have hT := syncT_power (l := l2) (s := d2.s) J.down hlo (by rw [w2, w3]; omega)
    have hz := all_size l2
    have hr := hlo.room
    rw [w3] at hr
    have hon : On d2.s.kept 0 d.n l2.epoch l2.bytes := by rw [w5, w6, ← hn2]; exact J.on
    obtain ⟨hf1, hf2⟩ := sync_found (s := d2.s) (base := 0) (n := d.n) (e := l2.epoch) (b := l2.bytes) (new := frames l2.wait) J.pend hon (by show (all l2).size ≤ _; omega)
    obtain ⟨m1, m2, m3, m4⟩ := sync_more d2.s d.n l2.epoch l2.bytes (all l2) J.pend I.n2.1 (by omega)
    have eE : sycE l2 d2.s = syncE d2.s 0 l2.epoch l2.bytes (all l2) := by unfold sycE; rw [if_neg q1, if_neg q2, hT, w2]
    have eS : sycS l2 d2.s = syncS d2.s 0 l2.epoch l2.bytes (all l2) := by unfold sycS; rw [if_neg q1, if_neg q2, hT, w2]
    have hfr : frames (l2.recs ++ l2.wait) = all l2 := by rw [frames_append, ← hlo.is.1]; rfl
    have hft : Fit (l2.recs ++ l2.wait) := fun r hr => by
      rcases List.mem_append.1 hr with h | h
      · exact hlo.is.2 r h
      · exact hlo.fit r h
    obtain ⟨ms, hR, hm⟩ := J.recs
    rw [hn2, hc2] at hR
    have hR2 : Recs d.n d.cnt (l2.recs ++ l2.wait) (ms ++ [tm]) := by
      refine ⟨by rw [w7, w1, hR.eq, List.map_append]; rfl, fun a ha => ?_, fun a ha => ?_, fun a ha => ?_⟩
      · rcases List.mem_append.1 ha with h | h
        · exact hR.up a h
        · rw [List.mem_singleton.1 h]; exact t.up
      · rcases List.mem_append.1 ha with h | h
        · exact hR.fine a h
        · rw [List.mem_singleton.1 h]; exact t.fine
      · rcases List.mem_append.1 ha with h | h
        · exact hR.ne a h
        · rw [List.mem_singleton.1 h]; exact hne
    have hm2 : mOf (ms ++ [tm]) = copy d2.m tm := by rw [mOf_snoc, hm]
    have hfS : Fnd d2.s.kept d.n d.cnt S d2.m := by have := J.fnd; rw [hn2, hc2] at this; exact this
    have hfT : Fnd d2.s.kept d.n d.cnt T (copy d2.m tm) := hfS.over J.upm.1 t
    have hlenS : (syncS d2.s 0 l2.epoch l2.bytes (all l2)).kept.length = d2.s.kept.length := syncS_len _ _ _ _ _
    have hep := J.ep
    have hdnJ := J.dn
    rcases syncE_two d2.s 0 l2.epoch l2.bytes (all l2) J.down with ⟨t1, t2⟩ | ⟨t1, t2⟩
    · rw [eE, if_pos t1, eS] at hk1 hlk ⊢
      obtain ⟨f3, f4⟩ := hf2 t1
      have hk : KK (fun _ => true) (syncS d2.s 0 l2.epoch l2.bytes (all l2)) = (syncS d2.s 0 l2.epoch l2.bytes (all l2)).kept := KK_nil f4 _
      have hon3 : On (KK (fun _ => true) (syncS d2.s 0 l2.epoch l2.bytes (all l2))) 0 d.n l2.epoch (all l2) := f3 (fun _ => true)
      rw [hk] at hon3
      have hL : sycL l2 d2.s = { l2 with bytes := all l2, recs := l2.recs ++ l2.wait, wait := [] } := by
        have : (syncT l2 d2.s).2 = 0 := by rw [hT, w2]; exact t1
        unfold sycL
        rw [if_neg q1, if_neg q2, if_pos this]
      rw [hL] at hlk ⊢
      have hfT2 : Fnd (syncS d2.s 0 l2.epoch l2.bytes (all l2)).kept d.n d.cnt T (copy d2.m tm) := hfT.out hlenS (fun x hx => by have := m2 (fun _ => true) x hx; rw [hk] at this; exact this)
      refine ⟨hn2, hc2, hlenS.trans hlen, by show (syncS d2.s 0 l2.epoch l2.bytes (all l2)).dn ≤ _; omega, hk1, .inl ⟨rfl, ?_, fun h => m4 (hl h)⟩⟩
      exact { down := t2, pend := f4, sok := hk1, lost := J.lost, llost := w4, wait := rfl, base := w2, ln := w3.trans hn2.symm, lok := hlk, on := by show On _ 0 d2.n l2.epoch (all l2); rw [hn2]; exact hon3, recs := ⟨ms ++ [tm], by show Recs d2.n d2.cnt (l2.recs ++ l2.wait) _; rw [hn2, hc2]; exact hR2, hm2.symm⟩, fnd := by show Fnd _ d2.n d2.cnt T (copy d2.m tm); rw [hn2, hc2]; exact hfT2, st := rfl, ep := by show l2.epoch ≤ _; omega, dn := by show (syncS d2.s 0 l2.epoch l2.bytes (all l2)).dn ≤ _; omega }
    · have hne10 : ¬ syncE d2.s 0 l2.epoch l2.bytes (all l2) = 0 := by rw [t1]; decide
      rw [eE, if_neg hne10, eS] at hk1 hlk ⊢
      refine ⟨hn2, hc2, hlenS.trans hlen, by show (syncS d2.s 0 l2.epoch l2.bytes (all l2)).dn ≤ _; omega, hk1, .inr ⟨t1, fun h => m3 t1 (hl h), t2, fun f => ?_⟩⟩
      show Dsk (KK f (syncS d2.s 0 l2.epoch l2.bytes (all l2))) d.n d.cnt _ S ∨ Dsk (KK f (syncS d2.s 0 l2.epoch l2.bytes (all l2))) d.n d.cnt _ T
      have hlenK : (KK f (syncS d2.s 0 l2.epoch l2.bytes (all l2))).length = d2.s.kept.length := by rw [KK_length, hlenS]
      rcases hf1 f with h | h
      · exact .inl ⟨l2.epoch, l2.recs, ms, by omega, hlo.is.2, by rw [← hlo.is.1]; exact h, by rw [w7]; exact hR, by rw [← hm]; exact hfS.out hlenK (fun x hx => m2 f x hx)⟩
      · exact .inr ⟨l2.epoch, l2.recs ++ l2.wait, ms ++ [tm], by omega, hft, by rw [hfr]; exact h, hR2, by rw [hm2]; exact hfT.out hlenK (fun x hx => m2 f x hx)⟩
  · have hn0 : ¬ (takeA d tm).2 = 0 := by rw [e0]; decide
    refine ⟨?_, fun h => absurd h hn0⟩
    unfold takeT at hk1 ⊢
    rw [if_neg hn0] at hk1 ⊢
    exact ⟨h1.n, h1.cnt, h1.len, by have := h1.dn; omega, hk1, .inr ⟨e0, hl, hdn, fun f => .inl (by rcases hD f with h | h <;> exact h.up (by omega))⟩⟩
end Pd
