/- Proved: two logs on one disk, side by side: what one of them does leaves the other one's as it was. -/
import Derived.Test.YtkfgcbpiellimaaDoorLHeld
namespace Go.Proofs.YtkfgcbpiellimaaDoor
open Go.RowKit
def dfoot (q1 : Nat) (vr1 vw1 : Value) (q2 : Nat) (vr2 vw2 : Value) (g kg : Nat) (vp : Value) : List Nat := pfoot q1 vr1 vw1 ++ (pfoot q2 vr2 vw2 ++ foot g kg vp)
structure Duo (w : World) (q1 : Nat) (vr1 vw1 : Value) (l1 : Wl.Lg) (q2 : Nat) (vr2 vw2 : Value) (l2 : Wl.Lg) (g kg : Nat) (vp : Value) (s : Sc.St) : Prop where
  p1 : Pk w q1 g vr1 vw1 l1
  p2 : Pk w q2 g vr2 vw2 l2
  dk : Dk w g kg vp s
  a12 : ∀ k ∈ pfoot q1 vr1 vw1, k ∉ pfoot q2 vr2 vw2
  a1 : ∀ k ∈ pfoot q1 vr1 vw1, k ∉ foot g kg vp
  a2 : ∀ k ∈ pfoot q2 vr2 vw2, k ∉ foot g kg vp
  up : Wl.Up 20 s
  on1 : Wl.On (Wl.flat s) l1.base l1.n l1.epoch l1.bytes
  on2 : Wl.On (Wl.flat s) l2.base l2.n l2.epoch l2.bytes
  lost1 : l1.lost = false
  lost2 : l2.lost = false
  b1 : l1.base = 2 ∧ l1.n = 16
  b2 : l2.base = 18 ∧ l2.n = 2
  safe : Safe w (dfoot q1 vr1 vw1 q2 vr2 vw2 g kg vp)
section
variable {w w' : World} {q1 q2 g kg : Nat} {vr1 vw1 vr2 vw2 vp vr vw vp' : Value} {l1 l2 l : Wl.Lg} {s s' : Sc.St}
theorem mem_d1 {k : Nat} (h : k ∈ lfoot q1 g vr1 vw1 kg vp) : k ∈ dfoot q1 vr1 vw1 q2 vr2 vw2 g kg vp := by
  unfold dfoot
  rcases List.mem_append.1 h with h | h
  · exact List.mem_append.2 (.inl h)
  · exact List.mem_append.2 (.inr (List.mem_append.2 (.inr h)))
theorem mem_d2 {k : Nat} (h : k ∈ lfoot q2 g vr2 vw2 kg vp) : k ∈ dfoot q1 vr1 vw1 q2 vr2 vw2 g kg vp := by
  unfold dfoot
  rcases List.mem_append.1 h with h | h
  · exact List.mem_append.2 (.inr (List.mem_append.2 (.inl h)))
  · exact List.mem_append.2 (.inr (List.mem_append.2 (.inr h)))
theorem Duo.good1 (D : Duo w q1 vr1 vw1 l1 q2 vr2 vw2 l2 g kg vp s) : Good w q1 g vr1 vw1 l1 kg vp s 20 := ⟨⟨D.p1, D.dk, D.a1, by rw [D.b1.1, D.b1.2, D.up.len]; omega⟩, D.up, D.on1, D.lost1, D.safe.of (fun _ h => mem_d1 h)⟩
theorem Duo.good2 (D : Duo w q1 vr1 vw1 l1 q2 vr2 vw2 l2 g kg vp s) : Good w q2 g vr2 vw2 l2 kg vp s 20 := ⟨⟨D.p2, D.dk, D.a2, by rw [D.b2.1, D.b2.2, D.up.len]; omega⟩, D.up, D.on2, D.lost2, D.safe.of (fun _ h => mem_d2 h)⟩
theorem Duo.below (D : Duo w q1 vr1 vw1 l1 q2 vr2 vw2 l2 g kg vp s) (hB : Below w.heap.size w w') : Duo w' q1 vr1 vw1 l1 q2 vr2 vw2 l2 g kg vp s := ⟨D.p1.below hB, D.p2.below hB, D.dk.below hB, D.a12, D.a1, D.a2, D.up, D.on1, D.on2, D.lost1, D.lost2, D.b1, D.b2, D.safe.below hB⟩
theorem Duo.lt (D : Duo w q1 vr1 vw1 l1 q2 vr2 vw2 l2 g kg vp s) : ∀ k ∈ dfoot q1 vr1 vw1 q2 vr2 vw2 g kg vp, k < w.heap.size := fun k hk => by
  rcases List.mem_append.1 hk with h | h
  · exact D.p1.lt k h
  · rcases List.mem_append.1 h with h | h
    · exact D.p2.lt k h
    · exact D.dk.lt k h
/- the first one's call -/
theorem Duo.step1 (D : Duo w q1 vr1 vw1 l1 q2 vr2 vw2 l2 g kg vp s) (hG : Good w' q1 g vr vw l kg vp' s' 20) (hT : Turn (lfoot q1 g vr1 vw1 kg vp) (lfoot q1 g vr vw kg vp') w w') (ho : Wl.Out (Wl.flat s) (Wl.flat s') 2 16) (hb : l.base = 2 ∧ l.n = 16) :
    Duo w' q1 vr vw l q2 vr2 vw2 l2 g kg vp' s' ∧ Turn (dfoot q1 vr1 vw1 q2 vr2 vw2 g kg vp) (dfoot q1 vr vw q2 vr2 vw2 g kg vp') w w' := by
  have ha : ∀ k ∈ pfoot q2 vr2 vw2, k ∉ lfoot q1 g vr1 vw1 kg vp := fun k hk hm => by
    rcases List.mem_append.1 hm with h | h
    · exact D.a12 k h hk
    · exact D.a2 k hk h
  have ha' : ∀ k ∈ pfoot q2 vr2 vw2, k ∉ lfoot q1 g vr vw kg vp' := hT.apart ha D.p2.lt
  have hTT : Turn (dfoot q1 vr1 vw1 q2 vr2 vw2 g kg vp) (dfoot q1 vr vw q2 vr2 vw2 g kg vp') w w' := by
    refine ⟨hT.chg.mono (fun k hk => mem_d1 hk), fun k hk => ?_⟩
    rcases List.mem_append.1 hk with h | h
    · rcases hT.grow k (List.mem_append.2 (.inl h)) with h1 | h1
      · exact .inl (mem_d1 h1)
      · exact .inr h1
    · rcases List.mem_append.1 h with h | h
      · exact .inl (List.mem_append.2 (.inr (List.mem_append.2 (.inl h))))
      · rcases hT.grow k (List.mem_append.2 (.inr h)) with h1 | h1
        · exact .inl (mem_d1 h1)
        · exact .inr h1
  refine ⟨⟨hG.lp.pk, D.p2.keep hT.chg ha, hG.lp.dk, fun k hk hm => ha' k hm (List.mem_append.2 (.inl hk)), hG.lp.ap, fun k hk hm => ha' k hk (List.mem_append.2 (.inr hm)), hG.up, hG.on, ?_, hG.lost, D.lost2, hb, D.b2, D.safe.turn hTT⟩, hTT⟩
  exact D.on2.out (by rw [Wl.flat_length, Wl.flat_length, hG.up.len, D.up.len]) ho (.inr (by rw [D.b2.1]; exact Nat.le_refl _))
/- the second one's call -/
theorem Duo.step2 (D : Duo w q1 vr1 vw1 l1 q2 vr2 vw2 l2 g kg vp s) (hG : Good w' q2 g vr vw l kg vp' s' 20) (hT : Turn (lfoot q2 g vr2 vw2 kg vp) (lfoot q2 g vr vw kg vp') w w') (ho : Wl.Out (Wl.flat s) (Wl.flat s') 18 2) (hb : l.base = 18 ∧ l.n = 2) :
    Duo w' q1 vr1 vw1 l1 q2 vr vw l g kg vp' s' ∧ Turn (dfoot q1 vr1 vw1 q2 vr2 vw2 g kg vp) (dfoot q1 vr1 vw1 q2 vr vw g kg vp') w w' := by
  have ha : ∀ k ∈ pfoot q1 vr1 vw1, k ∉ lfoot q2 g vr2 vw2 kg vp := fun k hk hm => by
    rcases List.mem_append.1 hm with h | h
    · exact D.a12 k hk h
    · exact D.a1 k hk h
  have ha' : ∀ k ∈ pfoot q1 vr1 vw1, k ∉ lfoot q2 g vr vw kg vp' := hT.apart ha D.p1.lt
  have hTT : Turn (dfoot q1 vr1 vw1 q2 vr2 vw2 g kg vp) (dfoot q1 vr1 vw1 q2 vr vw g kg vp') w w' := by
    refine ⟨hT.chg.mono (fun k hk => mem_d2 hk), fun k hk => ?_⟩
    rcases List.mem_append.1 hk with h | h
    · exact .inl (List.mem_append.2 (.inl h))
    · have h2 : k ∈ lfoot q2 g vr vw kg vp' := h
      rcases hT.grow k h2 with h1 | h1
      · exact .inl (mem_d2 h1)
      · exact .inr h1
  refine ⟨⟨D.p1.keep hT.chg ha, hG.lp.pk, hG.lp.dk, fun k hk hm => ha' k hk (List.mem_append.2 (.inl hm)), fun k hk hm => ha' k hk (List.mem_append.2 (.inr hm)), hG.lp.ap, hG.up, ?_, hG.on, D.lost1, hG.lost, D.b1, hb, D.safe.turn hTT⟩, hTT⟩
  exact D.on1.out (by rw [Wl.flat_length, Wl.flat_length, hG.up.len, D.up.len]) ho (.inl (by rw [D.b1.1, D.b1.2]; exact Nat.le_refl _))
/- a list of the call's own grows -/
theorem Duo.grown {v : Value} (D : Duo w q1 vr1 vw1 l1 q2 vr2 vw2 l2 g kg vp s) (hG : w.grownBy w' v.ownBlock) (hf : ∀ k, v.ownBlock = some k → k ∉ dfoot q1 vr1 vw1 q2 vr2 vw2 g kg vp) (h0 : ∀ k, v.ownBlock = some k → 0 < k) : Duo w' q1 vr1 vw1 l1 q2 vr2 vw2 l2 g kg vp s := by
  have hc := Chg.grown hG
  have hk : ∀ k ∈ dfoot q1 vr1 vw1 q2 vr2 vw2 g kg vp, k ∉ v.ownBlock.toList := fun k hk hm => hf k (by simpa using hm) hk
  refine ⟨D.p1.keep hc (fun k h => hk k (List.mem_append.2 (.inl h))), D.p2.keep hc (fun k h => hk k (mem_d2 (List.mem_append.2 (.inl h)))), D.dk.keep hc (fun k h => hk k (mem_d2 (List.mem_append.2 (.inr h)))), D.a12, D.a1, D.a2, D.up, D.on1, D.on2, D.lost1, D.lost2, D.b1, D.b2, ⟨D.safe.tab.of_block (hc.block 0 D.safe.tab.pos (fun hm => ?_)), D.safe.no⟩⟩
  have := h0 0 (by simpa using hm)
  omega
end
end Go.Proofs.YtkfgcbpiellimaaDoor
