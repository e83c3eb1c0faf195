/- Proved: the law of what was synced. -/
import Derived.Test.YtkfgcbpiellimaaDoorLSteps
namespace Wl
open Sc (St)
/- the power is lost, and comes back, where nothing is pending -/
theorem lost_back {N : Nat} {s : St} (hu : Up N s) (hp : s.pend = []) (f : Nat → Bool) : Sc.liveE s = 0 ∧ Sc.onE (Sc.offS s) = 0 ∧ Up N (Sc.onS (Sc.offS s) f) ∧ flat (Sc.onS (Sc.offS s) f) = s.kept := by
  have h1 : Sc.offS s = Sc.fell s := by unfold Sc.offS; rw [hu.down]; simp
  have h2 : Sc.onS (Sc.fell s) f = Sc.back (Sc.fell s) f := rfl
  have hk : (Sc.back (Sc.fell s) f).kept = s.kept := by
    show Sc.keepI f s.pend 0 s.kept = _
    rw [hp]
    rfl
  refine ⟨by unfold Sc.liveE; rw [hu.down]; simp, by rw [h1]; rfl, ?_, ?_⟩
  · rw [h1, h2]
    exact ⟨rfl, rfl, by rw [hk]; exact hu.len⟩
  · rw [h1, h2, flat_nil rfl, hk]
end Wl
namespace Go.Proofs.YtkfgcbpiellimaaDoor
open Go.RowKit
set_option maxHeartbeats 8000000 in
set_option maxRecDepth 20000 in
theorem keeps_walk (a1 : Option Addr) (len1 cap1 : Nat) (a2 : Option Addr) (len2 cap2 : Nat) (m : Nat → Bool) (w : World) (hA1 : Acts w a1 len1) (hlc1 : len1 ≤ cap1) (hcm1 : cap1 ≤ 9223372036854775807) (hB2 : InB w a2 len2 m) (hlc2 : len2 ≤ cap2) (hcm2 : cap2 ≤ 9223372036854775807) (hT : Tab w) :
    Calls Tryd.prog 4 #[.slice a1 len1 cap1, .slice a2 len2 cap2] w fun e w' => e = .returned (.bool true) ∧ Below w.heap.size w w' := by
  have HA1 : Hid (Acts w a1 len1) := hA1
  have HB2 : Hid (InB w a2 len2 m) := hB2
  have HBG := begin_any w hT
  have hpos := hT.pos
  clear hA1 hB2 hT
  go_enter Tryd.func4, Tryd.ntmps4
  go_wp2_with fail
  refine HBG.mono ?_
  rintro e w1 ⟨g, kg, q, vr, rfl, hG1, hB1, hF1⟩
  have HB1 : Hid (Below w.heap.size w w1) := hB1
  have HF1 : Hid (∀ k ∈ lfoot q g vr nil0 kg nil0, w.heap.size ≤ k) := hF1
  have hs1 := hB1.size
  have HST := steps_any w q g kg vr nil0 lgB (Sc.made 20) a1 len1 cap1 40 w1 hG1 HA1.out hlc1 hcm1 hB1 hF1 rfl rfl rfl rfl rfl rfl (by decide) (by omega)
  clear hG1 hB1 hF1 HBG
  go_wp2_with fail
  refine HST.mono ?_
  rintro e w2 ⟨vr2, vw2, vp2, l, s, u, v9, rfl, hR⟩
  have HR : Hid (SR w1 q g kg (lfoot q g vr nil0 kg nil0) (Sc.made 20).dn 40 vr2 vw2 l vp2 s u v9 w2) := hR
  have HB2w : Hid (Below w.heap.size w w2) := HB1.out.trans (hR.turn.below HF1.out hs1)
  have HF2 : Hid (∀ k ∈ lfoot q g vr2 vw2 kg vp2, w.heap.size ≤ k) := hR.turn.above HF1.out hs1
  have hs2 := HB2w.out.size
  clear hR HST
  go_wp2_with fail
  refine (lrecords_any q g vr2 vw2 l w2 HR.out.good.lp.pk).mono ?_
  rintro e w3 ⟨u3, rfl, hO3, hB3⟩
  have HH3 : Hid (OwnS w3 w1.heap.size u l.recs) := own_below HR.out.held.a hB3
  have HD3 : Hid (Dk w3 g kg vp2 s) := HR.out.good.lp.dk.below hB3
  have HB3 : Hid (Below w.heap.size w w3) := HB2w.out.trans (hB3.mono hs2)
  have HS3 : Hid (Safe w3 (foot g kg vp2)) := (HR.out.good.safe.below hB3).of (fun k hk => List.mem_append.2 (.inr hk))
  have hs3 := HB3.out.size
  have HSM := same_any u3 u l.recs l.recs w3 (own_zero hO3) (own_zero HH3.out)
  rw [decide_eq_true rfl] at HSM
  clear hO3 hB3
  go_wp2_with fail
  refine HSM.mono ?_
  rintro e w4 ⟨rfl, hB4, _⟩
  have HH4 : Hid (OwnS w4 w1.heap.size u l.recs) := own_below HH3.out hB4
  have HD4 : Hid (Dk w4 g kg vp2 s) := HD3.out.below hB4
  have HB4 : Hid (Below w.heap.size w w4) := HB3.out.trans (hB4.mono hs3)
  have HS4 : Hid (Safe w4 (foot g kg vp2)) := HS3.out.below hB4
  have HAF : Hid (∀ k, u.ownBlock = some k → k ∉ foot g kg vp2) := fun k hk hm => HR.out.held.af k hk (List.mem_append.2 (.inr hm))
  have HFD : Hid (∀ k ∈ foot g kg vp2, w.heap.size ≤ k) := fun k hk => HF2.out k (List.mem_append.2 (.inr hk))
  have hs4 := HB4.out.size
  obtain ⟨e1, e2, hUp, hFl⟩ := Wl.lost_back HR.out.good.up HR.out.pend (marks len2 m)
  have HOF := off_any g kg vp2 s w4 HD4.out
  rw [e1] at HOF
  have HON : Hid (Wl.On (Wl.flat (Sc.onS (Sc.offS s) (marks len2 m))) 2 16 l.epoch (Wl.frames l.recs)) := by
    rw [hFl]
    have := HR.out.good.onR
    rw [Wl.flat_nil HR.out.pend, HR.out.base, HR.out.n] at this
    exact this
  have HFT : Hid (Wl.Fit l.recs) := HR.out.good.lp.pk.ok.is.2
  have HUP : Hid (Wl.Up 20 (Sc.onS (Sc.offS s) (marks len2 m))) := hUp
  clear HSM hB4 HH3 HD3 HB3 HS3 hUp hFl e1
  go_wp2_with fail
  refine HOF.mono ?_
  rintro e w5 ⟨vp5, rfl, hD5, hT5⟩
  have HD5 : Hid (Dk w5 g kg vp5 (Sc.offS s)) := hD5
  have HB5 : Hid (Below w.heap.size w w5) := HB4.out.trans (hT5.below HFD.out hs4)
  have HF5 : Hid (∀ k ∈ foot g kg vp5, w.heap.size ≤ k) := hT5.above HFD.out hs4
  have HS5 : Hid (Safe w5 (foot g kg vp5)) := HS4.out.turn hT5
  have HA5 : Hid (∀ k, u.ownBlock = some k → k ∉ foot g kg vp5) := fun k hk => hT5.apart (rs := [k]) (fun j hj => by rw [List.mem_singleton.1 hj]; exact HAF.out k hk) (fun j hj => by rw [List.mem_singleton.1 hj]; exact (HH4.out.lt k hk).2) k (List.mem_singleton.2 rfl)
  have HH5 : Hid (OwnS w5 w1.heap.size u l.recs) := own_keep HH4.out (fun k hk => hT5.chg.block k (HH4.out.lt k hk).2 (HAF.out k hk))
  have hs5 := HB5.out.size
  have HOO := on_any g kg vp5 (Sc.offS s) a2 len2 cap2 m w5 HD5.out (HB2.out.bools HB5.out HF5.out) hlc2 hcm2
  rw [e2] at HOO
  clear hD5 hT5 HOF HH4 HD4 HB4 HS4 HAF e2
  generalize Sc.onS (Sc.offS s) (marks len2 m) = s6 at *
  go_wp2_with fail
  refine HOO.mono ?_
  rintro e w6 ⟨vp6, rfl, hD6, hT6⟩
  have HD6 : Hid (Dk w6 g kg vp6 s6) := hD6
  have HB6 : Hid (Below w.heap.size w w6) := HB5.out.trans (hT6.below HF5.out hs5)
  have HS6 : Hid (Safe w6 (foot g kg vp6)) := HS5.out.turn hT6
  have HH6 : Hid (OwnS w6 w1.heap.size u l.recs) := own_keep HH5.out (fun k hk => hT6.chg.block k (HH5.out.lt k hk).2 (HA5.out k hk))
  have hs6 := HB6.out.size
  clear hD6 hT6 HOO HH5 HD5 HB5 HS5 HA5
  go_wp2_with fail
  refine (gopen g kg vp6 s6 2 16 l.epoch 20 l.recs w6 HD6.out HUP.out HS6.out HFT.out HON.out).mono ?_
  rintro e w7 ⟨q7, vr7, rfl, hG7, hB7, _⟩
  have HG7 : Hid (Good w7 q7 g vr7 nil0 (opened 2 16 l.epoch l.recs) kg vp6 s6 20) := hG7
  have HB7 : Hid (Below w.heap.size w w7) := HB6.out.trans (hB7.mono hs6)
  have HH7 : Hid (OwnS w7 w1.heap.size u l.recs) := own_below HH6.out hB7
  have hs7 := HB7.out.size
  clear hG7 hB7 HH6 HB6
  go_wp2_with fail
  refine (lrecords_any q7 g vr7 nil0 _ w7 HG7.out.lp.pk).mono ?_
  rintro e w8 ⟨u8, rfl, hO8, hB8⟩
  have HG8 : Hid (Good w8 q7 g vr7 nil0 (opened 2 16 l.epoch l.recs) kg vp6 s6 20) := HG7.out.below hB8
  have HB8 : Hid (Below w.heap.size w w8) := HB7.out.trans (hB8.mono hs7)
  have HH8 : Hid (OwnS w8 w1.heap.size u l.recs) := own_below HH7.out hB8
  have hs8 := HB8.out.size
  have HSM8 := same_any u8 u l.recs l.recs w8 (own_zero hO8) (own_zero HH8.out)
  rw [decide_eq_true rfl] at HSM8
  clear hO8 hB8 HG7 HB7 HH7
  go_wp2_with fail
  refine HSM8.mono ?_
  rintro e w9 ⟨rfl, hB9, _⟩
  have HG9 : Hid (Good w9 q7 g vr7 nil0 (opened 2 16 l.epoch l.recs) kg vp6 s6 20) := HG8.out.below hB9
  have HB9 : Hid (Below w.heap.size w w9) := HB8.out.trans (hB9.mono hs8)
  have hs9 := HB9.out.size
  have HWT := lwaiting_any q7 g vr7 nil0 _ w9 HG9.out.lp.pk
  rw [show ((opened 2 16 l.epoch l.recs).wait.length : Int) = 0 from rfl] at HWT
  have HWK := works_any w9 HG9.out.safe.tab
  clear hB9 HSM8 HG8 HB8 HH8
  go_wp2_with fail
  refine HWT.mono ?_
  rintro e w' ⟨rfl, hw⟩
  rw [hw]
  clear hw w' HWT
  go_wp2_with fail
  refine HWK.mono ?_
  rintro e wA ⟨rfl, hBA⟩
  have HFN : Hid (Below w.heap.size w wA) := HB9.out.trans (hBA.mono hs9)
  clear hBA HWK
  go_wp2
  go_ret
  exact ⟨rfl, HFN.out⟩
end Go.Proofs.YtkfgcbpiellimaaDoor
