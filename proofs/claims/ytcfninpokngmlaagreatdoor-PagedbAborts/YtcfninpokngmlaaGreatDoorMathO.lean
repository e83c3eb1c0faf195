/- Proved: plain facts of what is found behind a sync or a reset at which the power may go (stage 8). No program is named. -/
import Derived.Test.YtcfninpokngmlaaGreatDoorLGood
namespace Wl
open Sc (St)
/- what a call tells, and what is found behind a loss of power then: what it makes, or, where it told an error, what was there -/
structure Res (was now : List ByteArray) (s : St) (e : Int) : Prop where
  told : (e = 0 ∧ s.down = false) ∨ (e = 10 ∧ s.down = true)
  len : s.kept.length = 20
  found : ∀ f, ∃ rs ep, Fit rs ∧ On (Sc.keepI f s.pend 0 s.kept) 2 16 ep (frames rs) ∧ (rs = now ∨ (e ≠ 0 ∧ rs = was))
/- armed, with power, nothing pending -/
structure Arm (s : St) : Prop where
  down : s.down = false
  pend : s.pend = []
  len : s.kept.length = 20
theorem markE_two (s : St) (base e l : Nat) (hd : s.down = false) : (markE s base e l = 0 ∧ (markS s base e l).down = false) ∨ (markE s base e l = 10 ∧ (markS s base e l).down = true) := by
  unfold markE markS
  by_cases h0 : s.left = 0
  · rw [if_pos h0, if_pos h0]; exact .inr ⟨rfl, rfl⟩
  · rw [if_neg h0, if_neg h0]
    by_cases h1 : (Sc.put s base (head20 e l)).left = 0
    · rw [if_pos h1, if_pos h1]; exact .inr ⟨rfl, rfl⟩
    · rw [if_neg h1, if_neg h1]; exact .inl ⟨rfl, hd⟩
theorem markS_len (s : St) (base e l : Nat) : (markS s base e l).kept.length = s.kept.length := by
  unfold markS
  split
  · rfl
  · split
    · rfl
    · show (Sc.keepI _ _ _ _).length = _
      rw [Sc.keepI_length]
      rfl
theorem syncE_two (s : St) (base e : Nat) (b al : ByteArray) (hd : s.down = false) : (syncE s base e b al = 0 ∧ (syncS s base e b al).down = false) ∨ (syncE s base e b al = 10 ∧ (syncS s base e b al).down = true) := by
  unfold syncE syncS
  by_cases h0 : 0 ≤ s.left ∧ s.left < (many b.size al.size : Int)
  · rw [if_pos h0, if_pos h0]; exact .inr ⟨rfl, rfl⟩
  · rw [if_neg h0, if_neg h0]
    by_cases h1 : (putsN s base al.data.toList (b.size / 64) (many b.size al.size)).left = 0
    · rw [if_pos h1, if_pos h1]; exact .inr ⟨rfl, rfl⟩
    · rw [if_neg h1, if_neg h1]
      exact markE_two _ base e al.size hd
theorem syncS_len (s : St) (base e : Nat) (b al : ByteArray) : (syncS s base e b al).kept.length = s.kept.length := by
  unfold syncS
  split
  · rfl
  · split
    · rfl
    · rw [markS_len]
      show (Sc.keepI _ _ _ _).length = _
      rw [Sc.keepI_length]
      rfl
theorem reset_res {l : Lg} {s : St} (ha : Arm s) (hok : l.Ok) (hl : l.lost = false) (hw : l.wait = []) (hb : l.base = 2 ∧ l.n = 16) (he : l.epoch ≤ 1000000) (hon : On s.kept l.base l.n l.epoch l.bytes) : Res l.recs [] (resetS l s) (resetE l s) ∧ (resetE l s ≠ 0 → (resetL l s).lost = true) := by
  have h1 : ¬ l.lost = true := by rw [hl]; decide
  have h2 : ¬ 0 < l.wait.length := by rw [hw]; decide
  have h3 : ¬ l.epoch = 4611686018427387904 := by omega
  obtain ⟨e1, e2⟩ := hd_mark (s := s) (base := l.base) (e := l.epoch + 1) (l := 0) ha.down (by rw [ha.len, hb.1]; omega)
  have eE : resetE l s = markE s l.base (l.epoch + 1) 0 := by unfold resetE; rw [if_neg h1, if_neg h2, if_neg h3, e2]
  have eS : resetS l s = markS s l.base (l.epoch + 1) 0 := by unfold resetS; rw [if_neg h1, if_neg h2, if_neg h3, e1]
  obtain ⟨hf1, hf2⟩ := mark_found (s := s) (base := l.base) (n := l.n) (e := l.epoch) (b := l.bytes) ha.pend hon (e' := l.epoch + 1) (b' := ob []) (Holds.nil _ _) (by rw [ob_size]; simp) (by omega)
  have h2t := markE_two s l.base (l.epoch + 1) 0 ha.down
  refine ⟨⟨by rw [eE, eS]; exact h2t, by rw [eS, markS_len]; exact ha.len, fun f => ?_⟩, fun hne => ?_⟩
  · rw [eS, eE]
    by_cases h0 : markE s l.base (l.epoch + 1) 0 = 0
    · have := (hf2 h0).1 f
      rw [hb.1, hb.2] at this
      exact ⟨[], l.epoch + 1, (by intro r hr; cases hr), by rw [hb.1]; exact this, .inl rfl⟩
    · rcases hf1 f with h | h
      · rw [hb.1, hb.2] at h
        exact ⟨l.recs, l.epoch, hok.is.2, by rw [hb.1, ← hok.is.1]; exact h, .inr ⟨h0, rfl⟩⟩
      · rw [hb.1, hb.2] at h
        exact ⟨[], l.epoch + 1, (by intro r hr; cases hr), by rw [hb.1]; exact h, .inl rfl⟩
  · rw [eE] at hne
    have hne' : ¬ hdE s l.base (l.epoch + 1) 0 = 0 := by rw [e2]; exact hne
    unfold resetL
    rw [if_neg h1, if_neg h2, if_neg h3, if_neg hne']
    unfold lose
    rw [if_neg hne']
theorem sync_res {l : Lg} {s : St} (ha : Arm s) (hok : l.Ok) (hl : l.lost = false) (hb : l.base = 2 ∧ l.n = 16) (hon : On s.kept l.base l.n l.epoch l.bytes) : Res l.recs (l.recs ++ l.wait) (sycS l s) (sycE l s) ∧ (sycE l s ≠ 0 → (sycL l s).lost = true) := by
  have h1 : ¬ l.lost = true := by rw [hl]; decide
  by_cases h2 : l.wait.length = 0
  · have hw : l.wait = [] := List.length_eq_zero_iff.1 h2
    have eE : sycE l s = 0 := by unfold sycE; rw [if_neg h1, if_pos h2]
    have eS : sycS l s = s := by unfold sycS; rw [if_neg h1, if_pos h2]
    refine ⟨⟨.inl ⟨eE, by rw [eS]; exact ha.down⟩, by rw [eS]; exact ha.len, fun f => ?_⟩, fun h => absurd eE h⟩
    rw [eS, ha.pend]
    have := hon
    rw [hb.1, hb.2] at this
    exact ⟨l.recs, l.epoch, hok.is.2, by rw [← hok.is.1]; exact this, .inl (by rw [hw, List.append_nil])⟩
  · have hT := syncT_power (l := l) (s := s) ha.down hok (by rw [ha.len, hb.1, hb.2]; omega)
    have eE : sycE l s = syncE s l.base l.epoch l.bytes (all l) := by unfold sycE; rw [if_neg h1, if_neg h2, hT]
    have eS : sycS l s = syncS s l.base l.epoch l.bytes (all l) := by unfold sycS; rw [if_neg h1, if_neg h2, hT]
    have hz := all_size l
    have hr := hok.room
    obtain ⟨hf1, hf2⟩ := sync_found (s := s) (base := l.base) (n := l.n) (e := l.epoch) (b := l.bytes) (new := frames l.wait) ha.pend hon (by show (all l).size ≤ _; omega)
    have hfr : frames (l.recs ++ l.wait) = all l := by rw [frames_append, ← hok.is.1]; rfl
    have hft : Fit (l.recs ++ l.wait) := fun r hr => by
      rcases List.mem_append.1 hr with h | h
      · exact hok.is.2 r h
      · exact hok.fit r h
    refine ⟨⟨by rw [eE, eS]; exact syncE_two _ _ _ _ _ ha.down, by rw [eS, syncS_len]; exact ha.len, fun f => ?_⟩, fun hne => ?_⟩
    · rw [eS, eE]
      by_cases h0 : syncE s l.base l.epoch l.bytes (all l) = 0
      · have := (hf2 h0).1 f
        rw [hb.1, hb.2] at this
        exact ⟨l.recs ++ l.wait, l.epoch, hft, by rw [hfr, hb.1]; exact this, .inl rfl⟩
      · rcases hf1 f with h | h
        · rw [hb.1, hb.2] at h
          exact ⟨l.recs, l.epoch, hok.is.2, by rw [hb.1, ← hok.is.1]; exact h, .inr ⟨h0, rfl⟩⟩
        · rw [hb.1, hb.2] at h
          exact ⟨l.recs ++ l.wait, l.epoch, hft, by rw [hfr, hb.1]; exact h, .inl rfl⟩
    · have hne' : ¬ (syncT l s).2 = 0 := by rw [hT]; rw [eE] at hne; exact hne
      unfold sycL
      rw [if_neg h1, if_neg h2, if_neg hne']
      unfold lose
      rw [if_neg hne']
/- the power is lost, if it is not, and comes back -/
theorem res_back {was now : List ByteArray} {s : St} {e : Int} (h : Res was now s e) (f : Nat → Bool) : Sc.onE (Sc.offS s) = 0 ∧ Up 20 (Sc.onS (Sc.offS s) f) ∧ ∃ rs ep, Fit rs ∧ On (flat (Sc.onS (Sc.offS s) f)) 2 16 ep (frames rs) ∧ (rs = now ∨ (e ≠ 0 ∧ rs = was)) := by
  have hdn : (Sc.offS s).down = true := by
    unfold Sc.offS
    split
    · assumption
    · rfl
  have hk : (Sc.offS s).kept = s.kept ∧ (Sc.offS s).pend = s.pend := by
    unfold Sc.offS
    split
    · exact ⟨rfl, rfl⟩
    · exact ⟨rfl, rfl⟩
  have h2 : Sc.onS (Sc.offS s) f = Sc.back (Sc.offS s) f := by unfold Sc.onS; rw [hdn]; rfl
  have h3 : (Sc.back (Sc.offS s) f).kept = Sc.keepI f s.pend 0 s.kept := by show Sc.keepI f (Sc.offS s).pend 0 (Sc.offS s).kept = _; rw [hk.1, hk.2]
  refine ⟨by unfold Sc.onE; rw [hdn]; rfl, ⟨by rw [h2]; rfl, by rw [h2]; rfl, by rw [h2, h3, Sc.keepI_length]; exact h.len⟩, ?_⟩
  rw [h2, flat_nil rfl, h3]
  exact h.found f
end Wl
