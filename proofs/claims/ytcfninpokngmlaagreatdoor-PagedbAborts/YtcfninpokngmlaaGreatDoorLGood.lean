/- Proved: what a log on a disk that has power and is not armed makes of Add, Sync and Reset. -/
import Derived.Test.YtcfninpokngmlaaGreatDoorLSame
namespace Wl
open Sc (St)
def synced (l : Lg) : Lg := { l with bytes := all l, recs := l.recs ++ l.wait, wait := [] }
theorem synced_none {l : Lg} (h : l.wait = []) : synced l = l := by
  unfold synced all
  rw [h, app_none, List.append_nil]
  obtain ⟨a, b, c, d, e, f, g⟩ := l
  simp only at h
  subst h
  rfl
def emptied (l : Lg) : Lg := { l with epoch := l.epoch + 1, bytes := ob [], recs := [] }
theorem sync_dn {N : Nat} {l : Lg} {s : St} (hu : Up N s) (hok : l.Ok) (hf : l.base + l.n ≤ N) : (syncT l s).1.dn = s.dn + many l.bytes.size (all l).size + 3 := by
  rw [syncT_power hu.down hok (by rw [hu.len]; exact hf)]
  simp only
  have hL : ¬ (0 ≤ s.left ∧ s.left < (many l.bytes.size (all l).size : Int)) := by have := hu.left; omega
  unfold syncS
  rw [if_neg hL]
  have hP := hu.puts l.base (all l).data.toList (l.bytes.size / 64) (many l.bytes.size (all l).size)
  have hP0 : ¬ (putsN s l.base (all l).data.toList (l.bytes.size / 64) (many l.bytes.size (all l).size)).left = 0 := by have := hP.left; omega
  rw [if_neg hP0, (hP.flushed.mark l.base l.epoch (all l).size).1]
  rfl
theorem addS_base (l : Lg) (r : ByteArray) : (addS l r).base = l.base ∧ (addS l r).n = l.n ∧ (addS l r).epoch = l.epoch ∧ (addS l r).bytes = l.bytes ∧ (addS l r).recs = l.recs ∧ (addS l r).lost = l.lost := by
  unfold addS
  split
  · exact ⟨rfl, rfl, rfl, rfl, rfl, rfl⟩
  · exact ⟨rfl, rfl, rfl, rfl, rfl, rfl⟩
end Wl
namespace Go.Proofs.YtcfninpokngmlaaGreatDoor
open Go.RowKit
structure Good (w : World) (q g : Nat) (vr vw : Value) (l : Wl.Lg) (kg : Nat) (vp : Value) (s : Sc.St) (N : Nat) : Prop where
  lp : LP w q g vr vw l kg vp s
  up : Wl.Up N s
  on : Wl.On (Wl.flat s) l.base l.n l.epoch l.bytes
  lost : l.lost = false
  safe : Safe w (lfoot q g vr vw kg vp)
section
variable {w w' : World} {q g kg N : Nat} {vr vw vr' vw' vp vp' : Value} {l l' : Wl.Lg} {s s' : Sc.St}
theorem Good.fits (G : Good w q g vr vw l kg vp s N) : l.base + l.n ≤ N := by have := G.lp.fits; rw [G.up.len] at this; exact this
theorem Good.below (G : Good w q g vr vw l kg vp s N) (hB : Below w.heap.size w w') : Good w' q g vr vw l kg vp s N := ⟨G.lp.below hB, G.up, G.on, G.lost, G.safe.below hB⟩
theorem LP.keep (L : LP w q g vr vw l kg vp s) {fs : List Nat} (hc : Chg fs w w') (ha : ∀ k ∈ lfoot q g vr vw kg vp, k ∉ fs) : LP w' q g vr vw l kg vp s := ⟨L.pk.keep hc (fun k hk => ha k (List.mem_append.2 (.inl hk))), L.dk.keep hc (fun k hk => ha k (List.mem_append.2 (.inr hk))), L.ap, L.fits⟩
theorem Good.keep (G : Good w q g vr vw l kg vp s N) {fs : List Nat} (hc : Chg fs w w') (ha : ∀ k ∈ lfoot q g vr vw kg vp, k ∉ fs) (h0 : 0 ∉ fs) : Good w' q g vr vw l kg vp s N := ⟨G.lp.keep hc ha, G.up, G.on, G.lost, ⟨G.safe.tab.of_block (hc.block 0 G.safe.tab.pos h0), G.safe.no⟩⟩
theorem Good.tail (G : Good w q g vr vw l kg vp s N) : ∀ j, j < l.bytes.size % 64 → (Sc.now s (l.base + 1 + l.bytes.size / 64)).data.toList[j]? = l.bytes.data.toList[64 * (l.bytes.size / 64) + j]? := fun j hj => G.on.tail (i := l.bytes.size / 64) (by omega) (by omega)
theorem gadd (r : ByteArray) (G : Good w q g vr vw l kg vp s N) (hr : r.size ≤ 9223372036854775807) :
    Calls Tryz.prog 93 #[ptr q, .string r] w fun e w' => ∃ vr' vw', e = .returned (.int .i64 (Wl.addE l r)) ∧ Good w' q g vr' vw' (Wl.addS l r) kg vp s N ∧ Turn (lfoot q g vr vw kg vp) (lfoot q g vr' vw' kg vp) w w' := by
  refine (ladd_any q g vr vw l r w G.lp.pk hr).mono ?_
  rintro e w' ⟨vr', vw', rfl, hP, hT⟩
  obtain ⟨h1, h2, h3, h4, h5, h6⟩ := Wl.addS_base l r
  obtain ⟨hL, hTL⟩ := G.lp.p hP hT h1 h2
  exact ⟨vr', vw', rfl, ⟨hL, G.up, by rw [h1, h2, h3, h4]; exact G.on, h6.trans G.lost, G.safe.turn hTL⟩, hTL⟩
theorem gsync (G : Good w q g vr vw l kg vp s N) (hn : s.dn + l.n ≤ 80000) (hp : s.pend.length + l.n ≤ 19000) :
    Calls Tryz.prog 95 #[ptr q] w fun e w' => ∃ vr' vw' vp' s', e = .returned (.int .i64 0) ∧ Good w' q g vr' vw' (Wl.synced l) kg vp' s' N ∧ Turn (lfoot q g vr vw kg vp) (lfoot q g vr' vw' kg vp') w w' ∧ ((s' = s ∧ l.wait = []) ∨ s'.pend = []) ∧ Wl.Out (Wl.flat s) (Wl.flat s') l.base l.n ∧ s'.dn ≤ s.dn + l.n + 3 ∧ s'.pend.length ≤ s.pend.length ∧ (l.wait ≠ [] → s'.dn = s.dn + Wl.many l.bytes.size (Wl.all l).size + 3) := by
  refine (lsync_any q g vr vw l kg vp s w G.lp G.safe (fun _ _ => ⟨G.up.down, G.tail⟩) (by omega) hp).mono ?_
  rintro e w' ⟨vr', vw', vp', rfl, hL, hT⟩
  have hl : ¬ l.lost = true := by rw [G.lost]; decide
  by_cases h0 : l.wait.length = 0
  · have hw : l.wait = [] := List.length_eq_zero_iff.1 h0
    have e1 : Wl.sycE l s = 0 := by unfold Wl.sycE; rw [if_neg hl, if_pos h0]
    have e2 : Wl.sycL l s = l := by unfold Wl.sycL; rw [if_neg hl, if_pos h0]
    have e3 : Wl.sycS l s = s := by unfold Wl.sycS; rw [if_neg hl, if_pos h0]
    rw [e2, e3] at hL
    rw [e1]
    refine ⟨vr', vw', vp', s, rfl, ?_, hT, .inl ⟨rfl, hw⟩, fun _ _ => rfl, by omega, Nat.le_refl _, fun h => absurd hw h⟩
    rw [Wl.synced_none hw]
    exact ⟨hL, G.up, G.on, G.lost, G.safe.turn hT⟩
  · have e1 : Wl.sycE l s = (Wl.syncT l s).2 := by unfold Wl.sycE; rw [if_neg hl, if_neg h0]
    have e3 : Wl.sycS l s = (Wl.syncT l s).1 := by unfold Wl.sycS; rw [if_neg hl, if_neg h0]
    obtain ⟨h5, h6⟩ := Wl.sync_live G.up G.lp.pk.ok G.fits G.on
    have e2 : Wl.sycL l s = Wl.synced l := by unfold Wl.sycL; rw [if_neg hl, if_neg h0, if_pos h5]; rfl
    have hdn := Wl.sync_dn G.up G.lp.pk.ok G.fits
    rw [e2, e3] at hL
    rw [e1, h5]
    refine ⟨vr', vw', vp', (Wl.syncT l s).1, rfl, ⟨hL, h6.up, ?_, G.lost, G.safe.turn hT⟩, hT, .inr h6.pend, ?_, h6.dn, by rw [h6.pend]; exact Nat.zero_le _, fun _ => hdn⟩
    · rw [Wl.flat_nil h6.pend]; exact h6.on
    · rw [Wl.flat_nil h6.pend]; exact h6.out
theorem greset (G : Good w q g vr vw l kg vp s N) (hw : l.wait = []) (hpe : s.pend = []) (he : l.epoch ≤ 1000000) (hn : s.dn ≤ 80000) :
    Calls Tryz.prog 80 #[ptr q] w fun e w' => ∃ vr' vw' vp' s', e = .returned (.int .i64 0) ∧ Good w' q g vr' vw' (Wl.emptied l) kg vp' s' N ∧ Turn (lfoot q g vr vw kg vp) (lfoot q g vr' vw' kg vp') w w' ∧ s'.pend = [] ∧ s'.dn ≤ s.dn + l.n + 3 := by
  refine (lreset_any q g vr vw l kg vp s w G.lp G.safe.tab (by omega) (by rw [hpe]; exact Nat.zero_le _)).mono ?_
  rintro e w' ⟨vr', vw', vp', rfl, hL, hT⟩
  have hl : ¬ l.lost = true := by rw [G.lost]; decide
  have h0 : ¬ 0 < l.wait.length := by rw [hw]; decide
  have h1 : ¬ l.epoch = 4611686018427387904 := by omega
  have hon := G.on
  rw [Wl.flat_nil hpe] at hon
  obtain ⟨h5, h6⟩ := Wl.reset_live G.up G.lp.pk.ok hpe G.fits hon (by omega)
  have e1 : Wl.resetE l s = 0 := by unfold Wl.resetE; rw [if_neg hl, if_neg h0, if_neg h1]; exact h5
  have e2 : Wl.resetL l s = Wl.emptied l := by unfold Wl.resetL; rw [if_neg hl, if_neg h0, if_neg h1, if_pos h5]; rfl
  have e3 : Wl.resetS l s = Wl.hdS s l.base (l.epoch + 1) 0 := by unfold Wl.resetS; rw [if_neg hl, if_neg h0, if_neg h1]
  rw [e2, e3] at hL
  rw [e1]
  refine ⟨vr', vw', vp', _, rfl, ⟨hL, h6.up, ?_, G.lost, G.safe.turn hT⟩, hT, h6.pend, h6.dn⟩
  rw [Wl.flat_nil h6.pend]; exact h6.on
theorem greset_no (G : Good w q g vr vw l kg vp s N) (hw : l.wait ≠ []) (hn : s.dn ≤ 80000) (hp : s.pend.length ≤ 19000) :
    Calls Tryz.prog 80 #[ptr q] w fun e w' => ∃ vr' vw' vp', e = .returned (.int .i64 9) ∧ Good w' q g vr' vw' l kg vp' s N ∧ Turn (lfoot q g vr vw kg vp) (lfoot q g vr' vw' kg vp') w w' := by
  refine (lreset_any q g vr vw l kg vp s w G.lp G.safe.tab (by omega) (by omega)).mono ?_
  rintro e w' ⟨vr', vw', vp', rfl, hL, hT⟩
  have hl : ¬ l.lost = true := by rw [G.lost]; decide
  have h0 : 0 < l.wait.length := Nat.pos_of_ne_zero (fun h => hw (List.length_eq_zero_iff.1 h))
  have e1 : Wl.resetE l s = 9 := by unfold Wl.resetE; rw [if_neg hl, if_pos h0]
  have e2 : Wl.resetL l s = l := by unfold Wl.resetL; rw [if_neg hl, if_pos h0]
  have e3 : Wl.resetS l s = s := by unfold Wl.resetS; rw [if_neg hl, if_pos h0]
  rw [e2, e3] at hL
  rw [e1]
  exact ⟨vr', vw', vp', rfl, ⟨hL, G.up, G.on, G.lost, G.safe.turn hT⟩, hT⟩
end
/- a log that is opened on a new disk, or again -/
theorem gopen (g kg : Nat) (vp : Value) (s : Sc.St) (base n e N : Nat) (rs : List ByteArray) (w : World) (hD : Dk w g kg vp s) (hu : Wl.Up N s) (hS : Safe w (foot g kg vp)) (hf : Wl.Fit rs) (hon : Wl.On (Wl.flat s) base n e (Wl.frames rs)) :
    Calls Tryz.prog 54 #[ptr g, .int .i64 (base : Int), .int .i64 (n : Int)] w fun r w' => ∃ q vr, r = .returned (.tuple #[ptr q, .int .i64 0]) ∧ Good w' q g vr nil0 (opened base n e rs) kg vp s N ∧ Below w.heap.size w w' ∧ ∀ k ∈ pfoot q vr nil0, w.heap.size ≤ k := by
  refine (open_any g kg vp s base n e rs w hD hu.down hS.tab hf hon).mono ?_
  rintro r w' ⟨q, vr, rfl, hL, hB, hab⟩
  have hp := hS.tab.pos
  refine ⟨q, vr, rfl, ⟨hL, hu, hon, rfl, hS.tab.below hB hp, fun hm => ?_⟩, hB, hab⟩
  rcases List.mem_append.1 hm with h | h
  · have := hab 0 h; omega
  · exact hS.no h
theorem made_up (n : Nat) : Wl.Up n (Sc.made n) := ⟨rfl, rfl, by simp [Sc.made]⟩
theorem made_on (n base m : Nat) (h2 : 2 ≤ m) (hf : base + m ≤ n) : Wl.On (Wl.flat (Sc.made n)) base m 0 (Wl.frames []) := by
  have e : Wl.flat (Sc.made n) = List.replicate n Sc.zero64 := Wl.flat_nil rfl
  rw [e]
  refine Wl.On.zero ?_ h2 (by rw [List.length_replicate]; exact hf)
  rw [List.getD_eq_getElem?_getD, List.getElem?_replicate]
  split <;> rfl
end Go.Proofs.YtcfninpokngmlaaGreatDoor
