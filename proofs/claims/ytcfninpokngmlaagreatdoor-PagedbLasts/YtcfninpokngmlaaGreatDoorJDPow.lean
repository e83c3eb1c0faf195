/- Proved: the power of a database's disk goes, comes back, or is to go (stage 10). -/
import Derived.Test.YtcfninpokngmlaaGreatDoorJ20
namespace Go.Proofs.YtcfninpokngmlaaGreatDoor
open Go.RowKit
/- a disk without power, and what is found on it -/
structure Pw (W w : World) (g kg : Nat) (vp : Value) (s : Sc.St) (n cnt K : Nat) (R R' : Pd.Ab) : Prop where
  dk : Dk w g kg vp s
  tab : Tab w
  down : s.down = true
  dn : s.dn ≤ K
  found : ∀ f, Pd.Dsk (Pd.KK f s) n cnt K R ∨ Pd.Dsk (Pd.KK f s) n cnt K R'
  cnts : cnt = (s.kept.length - n) / 8
  four : 4 ≤ cnt
  pos : 0 < W.heap.size
  bel : Below W.heap.size W w
  new : ∀ k ∈ foot g kg vp, W.heap.size ≤ k
section
variable {W w w' : World} {A : Ad} {t bt K : Nat} {d : Pd.Db} {S T : Pd.Ab} {sp : Bool} {tm : Pd.Mp} {g kg n cnt : Nat} {vp : Value} {s : Sc.St} {R R' : Pd.Ab}
theorem foot_ft (A : Ad) : ∀ k ∈ foot A.g A.kg A.vp, k ∈ A.ft := fun _ hk => A.ml (List.mem_append_right _ hk)
theorem GK.keep (G : GK W w g kg vp s n cnt K S) {fs : List Nat} (hc : Chg fs w w') (ha : ∀ k ∈ foot g kg vp, k ∉ fs) (hW : ∀ k ∈ fs, W.heap.size ≤ k) : GK W w' g kg vp s n cnt K S :=
  ⟨G.dk.keep hc ha, G.tab.of_block (hc.block 0 G.tab.pos (fun h => by have := hW 0 h; have := G.pos; omega)), G.down, G.pend, G.dsk, G.dn, G.cnts, G.four, G.pos, G.bel.trans (hc.below hW G.bel.size), G.new⟩
theorem Pw.keep (G : Pw W w g kg vp s n cnt K R R') {fs : List Nat} (hc : Chg fs w w') (ha : ∀ k ∈ foot g kg vp, k ∉ fs) (hW : ∀ k ∈ fs, W.heap.size ≤ k) : Pw W w' g kg vp s n cnt K R R' :=
  ⟨G.dk.keep hc ha, G.tab.of_block (hc.block 0 G.tab.pos (fun h => by have := hW 0 h; have := G.pos; omega)), G.down, G.dn, G.found, G.cnts, G.four, G.pos, G.bel.trans (hc.below hW G.bel.size), G.new⟩
theorem Pw.below (G : Pw W w g kg vp s n cnt K R R') (hB : Below w.heap.size w w') : Pw W w' g kg vp s n cnt K R R' := G.keep (fs := []) (Chg.of_below hB) (by simp) (by simp)
theorem GK.below (G : GK W w g kg vp s n cnt K S) (hB : Below w.heap.size w w') : GK W w' g kg vp s n cnt K S := G.keep (fs := []) (Chg.of_below hB) (by simp) (by simp)
theorem GT.disk (G : GT W w A t bt K d S T sp tm) (hc : d.cnt = (d.s.kept.length - d.n) / 8) (h4 : 4 ≤ d.cnt) (hp : 0 < W.heap.size) : GK W w A.g A.kg A.vp d.s d.n d.cnt K S :=
  ⟨G.tx.db.lp.dk, G.tx.db.tab, G.inv.down, G.inv.pend, (Pd.KK_nil G.inv.pend (fun _ => true)) ▸ G.inv.dsk (fun _ => true), G.inv.dn, hc, h4, hp, G.bel, fun k hk => G.new k (tft_a (foot_ft A k hk))⟩
theorem Txw.turn {u : Pd.Tx} (H : Txw w A t bt d u) {vr vw vp : Value} {l : Wl.Lg} {s : Sc.St} (hL : LP w' A.q A.g vr vw l A.kg vp s) (hT : Turn A.lf (A.to vr vw vp).lf w w') :
    Txw w' (A.to vr vw vp) t bt { d with l := l, s := s } u ∧ Turn (tft A t bt) (tft (A.to vr vw vp) t bt) w w' := by
  obtain ⟨h1, h2⟩ := H.db.turn hL hT
  have hta := h2.apart (rs := [t]) (fun k hk => by rw [List.mem_singleton.1 hk]; exact H.ta) (fun k hk => by rw [List.mem_singleton.1 hk]; exact H.tlt) t List.mem_cons_self
  have hba := h2.apart (rs := [bt]) (fun k hk => by rw [List.mem_singleton.1 hk]; exact H.ba) (fun k hk => by rw [List.mem_singleton.1 hk]; exact H.mp.lt) bt List.mem_cons_self
  refine ⟨⟨h1, (h2.chg.block t H.tlt H.ta).trans H.row, H.mp.chg h2.chg H.ba, hta, hba, H.tb, H.z⟩, h2.chg.mono (fun k hk => tft_a hk), fun k hk => ?_⟩
  rcases List.mem_cons.1 hk with rfl | hk
  · exact .inl tft_t
  · rcases List.mem_cons.1 hk with rfl | hk
    · exact .inl tft_b
    · rcases h2.grow k hk with h | h
      · exact .inl (tft_a h)
      · exact .inr h
/- the power goes -/
theorem goff (G : GK W w g kg vp s n cnt K S) : Calls Tryz.prog 22 #[ptr g] w fun e w' => e = .returned (.int .i64 0) ∧ ∃ vp', Pw W w' g kg vp' (Sc.fell s) n cnt K S S ∧ Turn (foot g kg vp) (foot g kg vp') w w' := by
  refine (off_any g kg vp s w G.dk).mono ?_
  rintro e w' ⟨v', rfl, hD, hT⟩
  have e1 : Sc.offS s = Sc.fell s := by unfold Sc.offS; rw [G.down]; rfl
  have e2 : Sc.liveE s = 0 := by unfold Sc.liveE; rw [G.down]; rfl
  rw [e1] at hD
  rw [e2]
  have hTb := hT.below G.new G.bel.size
  have hbel := G.bel.trans hTb
  refine ⟨rfl, v', ⟨hD, ?_, rfl, G.dn, fun f => .inl ?_, G.cnts, G.four, G.pos, hbel, hT.above G.new G.bel.size⟩, hT⟩
  · exact G.tab.of_block (hT.chg.block 0 G.tab.pos (fun h => by have := G.new 0 h; have := G.pos; omega))
  · rw [Pd.KK_nil (show (Sc.fell s).pend = [] from G.pend) f]
    exact G.dsk
/- the power comes back -/
theorem gon (a : Option Addr) (len cp : Nat) (m : Nat → Bool) (G : Pw W w g kg vp s n cnt K R R') (hB : Bools (foot g kg vp) w a len m) (hlen : len ≤ cp) (hcp : cp ≤ 9223372036854775807) : Calls Tryz.prog 38 #[ptr g, .slice a len cp] w fun e w' => e = .returned (.int .i64 0) ∧ ∃ vp', (GK W w' g kg vp' (Sc.back s (marks len m)) n cnt K R ∨ GK W w' g kg vp' (Sc.back s (marks len m)) n cnt K R') ∧ Turn (foot g kg vp) (foot g kg vp') w w' := by
  refine (on_any g kg vp s a len cp m w G.dk hB hlen hcp).mono ?_
  rintro e w' ⟨v', rfl, hD, hT⟩
  have e1 : Sc.onS s (marks len m) = Sc.back s (marks len m) := by unfold Sc.onS; rw [G.down]; rfl
  have e2 : Sc.onE s = 0 := by unfold Sc.onE; rw [G.down]; rfl
  rw [e1] at hD
  rw [e2]
  have hTb := hT.below G.new G.bel.size
  have hbel := G.bel.trans hTb
  have hlk : (Sc.back s (marks len m)).kept.length = s.kept.length := Pd.KK_length (marks len m) s
  have hmk : ∀ X, Pd.Dsk (Pd.KK (marks len m) s) n cnt K X → GK W w' g kg v' (Sc.back s (marks len m)) n cnt K X := fun X hX => ⟨hD, G.tab.of_block (hT.chg.block 0 G.tab.pos (fun h => by have := G.new 0 h; have := G.pos; omega)), rfl, rfl, hX, G.dn, by rw [hlk]; exact G.cnts, G.four, G.pos, hbel, hT.above G.new G.bel.size⟩
  refine ⟨rfl, v', ?_, hT⟩
  rcases G.found (marks len m) with h | h
  · exact .inl (hmk _ h)
  · exact .inr (hmk _ h)
/- the power is to go behind so many writes -/
theorem garmK (i : Int) (hi : i ≤ 9223372036854775807) (G : GK W w g kg vp s n cnt K S) : Calls Tryz.prog 36 #[ptr g, .int .i64 i] w fun e w' => e = .returned (.int .i64 0) ∧ ∃ vp', GK W w' g kg vp' (Sc.armed s i) n cnt K S ∧ Turn (foot g kg vp) (foot g kg vp') w w' := by
  refine (arm_any g kg vp s i w G.dk hi).mono ?_
  rintro e w' ⟨v', rfl, hD, hT⟩
  have e1 : Sc.armS s i = Sc.armed s i := by unfold Sc.armS; rw [G.down]; rfl
  have e2 : Sc.liveE s = 0 := by unfold Sc.liveE; rw [G.down]; rfl
  rw [e1] at hD
  rw [e2]
  exact ⟨rfl, v', ⟨hD, G.tab.of_block (hT.chg.block 0 G.tab.pos (fun h => by have := G.new 0 h; have := G.pos; omega)), G.down, G.pend, G.dsk, G.dn, G.cnts, G.four, G.pos, G.bel.trans (hT.below G.new G.bel.size), hT.above G.new G.bel.size⟩, hT⟩
theorem garmT (i : Int) (hi : i ≤ 9223372036854775807) (G : GT W w A t bt K d S T sp tm) : Calls Tryz.prog 36 #[ptr A.g, .int .i64 i] w fun e w' => e = .returned (.int .i64 0) ∧ ∃ vp', GT W w' (A.to A.vr A.vw vp') t bt K { d with s := Sc.armed d.s i } S T sp tm ∧ Turn (tft A t bt) (tft (A.to A.vr A.vw vp') t bt) w w' := by
  refine (arm_any A.g A.kg A.vp d.s i w G.tx.db.lp.dk hi).mono ?_
  rintro e w' ⟨v', rfl, hD, hT⟩
  have e1 : Sc.armS d.s i = Sc.armed d.s i := by unfold Sc.armS; rw [G.inv.down]; rfl
  have e2 : Sc.liveE d.s = 0 := by unfold Sc.liveE; rw [G.inv.down]; rfl
  rw [e1] at hD
  rw [e2]
  obtain ⟨hL, hTL⟩ := G.tx.db.lp.d hD hT rfl
  have hX := G.tx.turn hL hTL
  refine ⟨rfl, v', ⟨hX.1, ?_, G.txi, G.bel.trans (hX.2.below G.new G.bel.size), hX.2.above G.new G.bel.size⟩, hX.2⟩
  exact ⟨G.inv.down, G.inv.pend, hD.ok, G.inv.lost, G.inv.llost, G.inv.wait, G.inv.base, G.inv.ln, G.inv.lok, G.inv.on, G.inv.recs, G.inv.fnd, G.inv.st, G.inv.ep, G.inv.dn⟩
end
end Go.Proofs.YtcfninpokngmlaaGreatDoor
