/- Proved: what the document's keep, Flush and On make of its disk. -/
import Derived.Test.YtbhbfnnlpkikbaaRWrite
namespace Go.Proofs.Ytbhbfnnlpkikbaa
open Go.RowKit
def rmarks (all : Bool) (len : Nat) (m : Nat → Bool) (i : Nat) : Bool := all || marks len m i
theorem rfoot_kept {h kg : Nat} {vk : Value} (hv : vk.ownBlock = some kg) (vp : Value) (w : World) (i : Nat) (x : Value) : Turn (rfoot h vk vp) (rfoot h vk vp) w (w.setCell ⟨kg, i, none⟩ x) := ⟨(Chg.setCell w kg i x).mono (fun k hk => by rw [List.mem_singleton.1 hk]; simp [rfoot, hv]), fun _ h => .inl h⟩
theorem Rk.setKept {w : World} {h kg : Nat} {vk vp : Value} {s : Sc.St} {i : Nat} {x : ByteArray} (H : Rk w h vk vp s) (hv : vk.ownBlock = some kg) (_hi : i < s.kept.length) (hx : x.size = 64) : Rk (w.setCell ⟨kg, i, none⟩ (.string x)) h vk vp { s with kept := s.kept.set i x } := by
  refine ⟨?_, ?_, own_keep H.pend (fun k hk => heap_setCell_other _ _ _ _ (fun e => H.kp kg hv (by rw [hk, e]))), H.hk, H.hp, H.kp, ⟨by simpa using H.ok.one, by simpa using H.ok.most, fun y hy => ?_, by simpa using H.ok.pat, H.ok.psize, H.ok.left⟩⟩
  · rw [heap_setCell_other _ _ _ _ (by intro e; exact H.hk (by rw [hv]; exact congrArg some e.symm))]
    exact H.row
  · refine ⟨by simp, ?_⟩
    rcases H.kept.2 with ⟨h1, h2⟩ | ⟨g, cap, cur, h1, hN, hh, hc, hm, hs, ht⟩
    · rw [h1] at hv; cases hv
    · have hg : g = kg := by rw [h1] at hv; exact Option.some.inj hv
      subst hg
      refine .inr ⟨g, cap, cur.setIfInBounds i (.string x), by simpa using h1, hN, heap_setCell_same w g i _ _ _ hh, by simpa using hc, hm, by simpa using hs, ?_⟩
      rw [Array.toList_setIfInBounds, List.length_set, List.take_set, ht, List.map_set]
  · rcases List.mem_or_eq_of_mem_set hy with h | h
    · exact H.ok.size y h
    · rw [h]; exact hx
set_option maxHeartbeats 8000000 in
set_option maxRecDepth 20000 in
theorem rkeep_any (h : Nat) (vk vp : Value) (s : Sc.St) (a : Option Addr) (len cp : Nat) (m : Nat → Bool) (all : Bool) (w : World) (H : Rk w h vk vp s) (hB : Bools (rfoot h vk vp) w a len m) (hlen : len ≤ cp) (hcp : cp ≤ 9223372036854775807) :
    Calls Try.prog 40 #[ptr h, .slice a len cp, .bool all] w fun e w' => e = .returned (.tuple #[]) ∧ Rk w' h vk (.slice none 0 0) { s with kept := Sc.keepI (rmarks all len m) s.pend 0 s.kept, pend := [] } ∧ Turn (rfoot h vk vp) (rfoot h vk (.slice none 0 0)) w w' := by
  have HH : Hid (Rk w h vk vp s) := H
  have HBL : Hid (Bools (rfoot h vk vp) w a len m) := hB
  obtain ⟨pa, pcap, hpv, hpc1, hpc2, _⟩ := H.pval
  have HVP : Hid (vp = .slice pa s.pend.length pcap) := hpv
  have hpm : s.pend.length ≤ 9223372036854775807 := Nat.le_trans hpc1 hpc2
  clear H hB hpv
  go_enter Try.func40, Try.ntmps40
  go_wp2_with fail
  go_loopw [6] (fun s6 wr => ∃ k : Nat, k ≤ s.pend.length ∧ s6 = .int .i64 (k : Int) ∧ Rk wr h vk vp (mid (rmarks all len m) s k) ∧ Turn (rfoot h vk vp) (rfoot h vk vp) w wr) (fun s6 _ => s.pend.length - (intOf s6).toNat)
  case atStart => exact ⟨0, by omega, rfl, HH.out, Turn.refl _ _⟩
  case round =>
    obtain ⟨k, hk, rfl, hD, hT⟩ := hrel
    have HD : Hid (Rk wr h vk vp (mid (rmarks all len m) s k)) := hD
    have HT : Hid (Turn (rfoot h vk vp) (rfoot h vk vp) w wr) := hT
    clear hD hT
    have c1 := HD.out.c1
    rw [HVP.out] at c1
    by_cases hkl : k < s.pend.length
    · have dk : decide ((k : Int) < (s.pend.length : Int)) = true := by simp; omega
      have k0 : (0 : Int) ≤ (k : Int) := by omega
      have k1 : (k : Int) < (s.pend.length : Int) := by omega
      have c0 := HD.out.c0
      obtain ⟨kg, kcap, hkv, hkc1, hkc2, hkr⟩ := HD.out.kval
      have hkl2 : (mid (rmarks all len m) s k).kept.length = s.kept.length := by unfold mid; simp only; rw [Sc.keepI_length]
      rw [hkl2] at hkv hkr hkc1
      rw [hkv] at c0
      have HVK : Hid (vk = .slice (some ⟨kg, 0, none⟩) s.kept.length kcap) := hkv
      obtain ⟨pa', pcap', hpv', _, _, hpr⟩ := HD.out.pval
      obtain ⟨pg, hpa, _, hpp⟩ := hpr (Nat.lt_of_le_of_lt (Nat.zero_le k) hkl)
      have ea : pa = some ⟨pg, 0, none⟩ := by
        rw [HVP.out] at hpv'
        exact (Value.slice.inj hpv').1.trans hpa
      subst ea
      obtain ⟨i, x, hp⟩ : ∃ i x, s.pend[k]? = some (i, x) := ⟨_, _, List.getElem?_eq_getElem hkl⟩
      obtain ⟨q0, q1⟩ := hpp k (i, x) hp
      simp only at q0 q1
      have HP : Hid (s.pend[k]? = some (i, x)) := hp
      have hmem : (i, x) ∈ s.pend := List.mem_of_getElem? hp
      have hi : i < (mid (rmarks all len m) s k).kept.length := by rw [hkl2]; exact HH.out.ok.pat _ hmem
      have hx : x.size = 64 := HH.out.ok.psize _ hmem
      have hi' : i < s.kept.length := by rw [← hkl2]; exact hi
      have HCK : Hid (wr.drew.cell? ⟨kg, i, none⟩ = some (.string ((mid (rmarks all len m) s k).kept.getD i Sc.zero64)) ∧ wr.drew.frozen? ⟨kg, i, none⟩ = false) := hkr i hi'
      have i0 : (0 : Int) ≤ (i : Int) := by omega
      have i1 : (i : Int) < (s.kept.length : Int) := by omega
      have HBK : Hid (Bools (rfoot h vk vp) wr a len m) := HBL.out.keep HT.out.chg
      clear hkr hkv hpp hpr hpv' hp hmem
      cases all
      · by_cases hlt : k < len
        · have dl : decide ((k : Int) < (len : Int)) = true := by simp; omega
          have l1 : (k : Int) < (len : Int) := by omega
          obtain ⟨bb, boff, rfl, hbb, hbc⟩ : ∃ b off, a = some ⟨b, off, none⟩ ∧ b ∉ rfoot h vk vp ∧ ∀ j, j < len → wr.cell? ⟨b, off + j, none⟩ = some (.bool (m j)) := by
            rcases HBK.out with h | h
            · omega
            · exact h
          have hbk := hbc k hlt
          clear hbc hbb
          cases hm : m k
          · rw [hm] at hbk
            have HMK : Hid (rmarks false len m k = false) := by show rmarks false len m k = false; unfold rmarks marks; rw [hm, Bool.and_false]; rfl
            have HFN : Hid (∃ k' : Nat, k' ≤ s.pend.length ∧ Value.int .i64 ((k : Int) + 1) = .int .i64 (k' : Int) ∧ Rk wr h vk vp (mid (rmarks false len m) s k') ∧ Turn (rfoot h vk vp) (rfoot h vk vp) w wr) := ⟨k + 1, by omega, by go_num, by rw [mid_skip _ _ _ (i, x) HP.out HMK.out]; exact HD.out, HT.out⟩
            go_wp2
            go_roundw
            case rel => first | exact HFN.out | ((repeat apply Exists.intro); exact ⟨HFN.out, rfl⟩)
            case measure => (simp [intOf]) <;> omega
          · rw [hm] at hbk
            have HMK : Hid (rmarks false len m k = true) := by show rmarks false len m k = true; unfold rmarks marks; rw [hm, Bool.and_true]; simpa using hlt
            have HS : Hid ((fun W : World => W.cell? ⟨h, 0, none⟩ = some (.slice (some ⟨kg, 0, none⟩) s.kept.length kcap) ∧ W.cell? ⟨h, 1, none⟩ = some (.slice (some ⟨pg, 0, none⟩) s.pend.length pcap) ∧ W.cell? ⟨pg, k * 2, none⟩ = some (.int .i64 (i : Int)) ∧ W.cell? ⟨pg, k * 2 + 1, none⟩ = some (.string x)) wr.drew) := ⟨c0, c1, q0, q1⟩
            have HFN : Hid (∃ k' : Nat, k' ≤ s.pend.length ∧ Value.int .i64 ((k : Int) + 1) = .int .i64 (k' : Int) ∧ Rk (wr.drew.setCell ⟨kg, i, none⟩ (.string x)) h vk vp (mid (rmarks false len m) s k') ∧ Turn (rfoot h vk vp) (rfoot h vk vp) w (wr.drew.setCell ⟨kg, i, none⟩ (.string x))) := ⟨k + 1, by omega, by go_num, by rw [mid_next _ _ _ i x HP.out HMK.out]; exact HD.out.drew.setKept (by rw [HVK.out]; rfl) hi hx, HT.out.drew.trans (rfoot_kept (by rw [HVK.out]; rfl) _ _ _ _)⟩
            go_wp2_with fail
            clear c0 c1 q0 q1
            refine AnyBut.begin (z := 21) (S := fun W => W.cell? ⟨h, 0, none⟩ = some (.slice (some ⟨kg, 0, none⟩) s.kept.length kcap) ∧ W.cell? ⟨h, 1, none⟩ = some (.slice (some ⟨pg, 0, none⟩) s.pend.length pcap) ∧ W.cell? ⟨pg, k * 2, none⟩ = some (.int .i64 (i : Int)) ∧ W.cell? ⟨pg, k * 2 + 1, none⟩ = some (.string x)) (by kernel_rfl) ?_
            refine AnyBut.take 0 (some 29) (v := (ptr h)) rfl rfl (by kernel_rfl) (by decide) (by kernel_rfl) (by kernel_rfl) (by kernel_rfl) (by kernel_rfl) (fun _ _ _ h => h) (Or.inl ⟨by rfl, fun w hS => ?_⟩) HS.out ?_
            · (go_simp)
            simp only [Act.put, List.setIfInBounds_toArray, List.set_cons_zero, List.set_cons_succ]
            refine AnyBut.take 1 (some 30) (v := (ptr h)) rfl rfl (by kernel_rfl) (by decide) (by kernel_rfl) (by kernel_rfl) (by kernel_rfl) (by kernel_rfl) (fun _ _ _ h => h) (Or.inl ⟨by rfl, fun w hS => ?_⟩) HS.out ?_
            · (go_simp)
            simp only [Act.put, List.setIfInBounds_toArray, List.set_cons_zero, List.set_cons_succ]
            refine AnyBut.take 2 (some 31) (v := (ptr h)) rfl rfl (by kernel_rfl) (by decide) (by kernel_rfl) (by kernel_rfl) (by kernel_rfl) (by kernel_rfl) (fun _ _ _ h => h) (Or.inl ⟨by rfl, fun w hS => ?_⟩) HS.out ?_
            · (go_simp)
            simp only [Act.put, List.setIfInBounds_toArray, List.set_cons_zero, List.set_cons_succ]
            refine AnyBut.take 3 (some 32) (v := (.slice (some ⟨kg, 0, none⟩) s.kept.length kcap)) rfl rfl (by kernel_rfl) (by decide) (by kernel_rfl) (by kernel_rfl) (by kernel_rfl) (by kernel_rfl) (fun _ _ _ h => h) (Or.inl ⟨by rfl, fun w hS => ?_⟩) HS.out ?_
            · (obtain ⟨q1, q2, q3, q4⟩ := hS; go_simp)
            simp only [Act.put, List.setIfInBounds_toArray, List.set_cons_zero, List.set_cons_succ]
            refine AnyBut.take 4 (some 33) (v := (ptr h)) rfl rfl (by kernel_rfl) (by decide) (by kernel_rfl) (by kernel_rfl) (by kernel_rfl) (by kernel_rfl) (fun _ _ _ h => h) (Or.inl ⟨by rfl, fun w hS => ?_⟩) HS.out ?_
            · (go_simp)
            simp only [Act.put, List.setIfInBounds_toArray, List.set_cons_zero, List.set_cons_succ]
            refine AnyBut.take 5 (some 34) (v := (ptr h)) rfl rfl (by kernel_rfl) (by decide) (by kernel_rfl) (by kernel_rfl) (by kernel_rfl) (by kernel_rfl) (fun _ _ _ h => h) (Or.inl ⟨by rfl, fun w hS => ?_⟩) HS.out ?_
            · (go_simp)
            simp only [Act.put, List.setIfInBounds_toArray, List.set_cons_zero, List.set_cons_succ]
            refine AnyBut.take 6 (some 35) (v := (.pointer (some ⟨h, 1, none⟩))) rfl rfl (by kernel_rfl) (by decide) (by kernel_rfl) (by kernel_rfl) (by kernel_rfl) (by kernel_rfl) (fun _ _ _ h => h) (Or.inl ⟨by rfl, fun w hS => ?_⟩) HS.out ?_
            · (go_simp)
            simp only [Act.put, List.setIfInBounds_toArray, List.set_cons_zero, List.set_cons_succ]
            refine AnyBut.take 7 (some 36) (v := (.slice (some ⟨pg, 0, none⟩) s.pend.length pcap)) rfl rfl (by kernel_rfl) (by decide) (by kernel_rfl) (by kernel_rfl) (by kernel_rfl) (by kernel_rfl) (fun _ _ _ h => h) (Or.inl ⟨by rfl, fun w hS => ?_⟩) HS.out ?_
            · (obtain ⟨q1, q2, q3, q4⟩ := hS; go_simp)
            simp only [Act.put, List.setIfInBounds_toArray, List.set_cons_zero, List.set_cons_succ]
            refine AnyBut.take 8 (some 37) (v := (.int .i64 (k : Int))) rfl rfl (by kernel_rfl) (by decide) (by kernel_rfl) (by kernel_rfl) (by kernel_rfl) (by kernel_rfl) (fun _ _ _ h => h) (Or.inl ⟨by rfl, fun w hS => ?_⟩) HS.out ?_
            · (go_simp)
            simp only [Act.put, List.setIfInBounds_toArray, List.set_cons_zero, List.set_cons_succ]
            refine AnyBut.take 9 (some 38) (v := (.pointer (some ⟨pg, k * 2, none⟩))) rfl rfl (by kernel_rfl) (by decide) (by kernel_rfl) (by kernel_rfl) (by kernel_rfl) (by kernel_rfl) (fun _ _ _ h => h) (Or.inl ⟨by rfl, fun w hS => ?_⟩) HS.out ?_
            · (go_simp)
            simp only [Act.put, List.setIfInBounds_toArray, List.set_cons_zero, List.set_cons_succ]
            refine AnyBut.take 10 (some 39) (v := (.pointer (some ⟨pg, k * 2, none⟩))) rfl rfl (by kernel_rfl) (by decide) (by kernel_rfl) (by kernel_rfl) (by kernel_rfl) (by kernel_rfl) (fun _ _ _ h => h) (Or.inl ⟨by rfl, fun w hS => ?_⟩) HS.out ?_
            · (go_simp)
            simp only [Act.put, List.setIfInBounds_toArray, List.set_cons_zero, List.set_cons_succ]
            refine AnyBut.take 11 (some 40) (v := (.int .i64 (i : Int))) rfl rfl (by kernel_rfl) (by decide) (by kernel_rfl) (by kernel_rfl) (by kernel_rfl) (by kernel_rfl) (fun _ _ _ h => h) (Or.inl ⟨by rfl, fun w hS => ?_⟩) HS.out ?_
            · (obtain ⟨q1, q2, q3, q4⟩ := hS; go_simp)
            simp only [Act.put, List.setIfInBounds_toArray, List.set_cons_zero, List.set_cons_succ]
            refine AnyBut.take 12 (some 41) (v := (ptr h)) rfl rfl (by kernel_rfl) (by decide) (by kernel_rfl) (by kernel_rfl) (by kernel_rfl) (by kernel_rfl) (fun _ _ _ h => h) (Or.inl ⟨by rfl, fun w hS => ?_⟩) HS.out ?_
            · (go_simp)
            simp only [Act.put, List.setIfInBounds_toArray, List.set_cons_zero, List.set_cons_succ]
            refine AnyBut.take 13 (some 42) (v := (ptr h)) rfl rfl (by kernel_rfl) (by decide) (by kernel_rfl) (by kernel_rfl) (by kernel_rfl) (by kernel_rfl) (fun _ _ _ h => h) (Or.inl ⟨by rfl, fun w hS => ?_⟩) HS.out ?_
            · (go_simp)
            simp only [Act.put, List.setIfInBounds_toArray, List.set_cons_zero, List.set_cons_succ]
            refine AnyBut.take 14 (some 43) (v := (.pointer (some ⟨h, 1, none⟩))) rfl rfl (by kernel_rfl) (by decide) (by kernel_rfl) (by kernel_rfl) (by kernel_rfl) (by kernel_rfl) (fun _ _ _ h => h) (Or.inl ⟨by rfl, fun w hS => ?_⟩) HS.out ?_
            · (go_simp)
            simp only [Act.put, List.setIfInBounds_toArray, List.set_cons_zero, List.set_cons_succ]
            refine AnyBut.take 15 (some 44) (v := (.slice (some ⟨pg, 0, none⟩) s.pend.length pcap)) rfl rfl (by kernel_rfl) (by decide) (by kernel_rfl) (by kernel_rfl) (by kernel_rfl) (by kernel_rfl) (fun _ _ _ h => h) (Or.inl ⟨by rfl, fun w hS => ?_⟩) HS.out ?_
            · (obtain ⟨q1, q2, q3, q4⟩ := hS; go_simp)
            simp only [Act.put, List.setIfInBounds_toArray, List.set_cons_zero, List.set_cons_succ]
            refine AnyBut.take 16 (some 45) (v := (.int .i64 (k : Int))) rfl rfl (by kernel_rfl) (by decide) (by kernel_rfl) (by kernel_rfl) (by kernel_rfl) (by kernel_rfl) (fun _ _ _ h => h) (Or.inl ⟨by rfl, fun w hS => ?_⟩) HS.out ?_
            · (go_simp)
            simp only [Act.put, List.setIfInBounds_toArray, List.set_cons_zero, List.set_cons_succ]
            refine AnyBut.take 17 (some 46) (v := (.pointer (some ⟨pg, k * 2, none⟩))) rfl rfl (by kernel_rfl) (by decide) (by kernel_rfl) (by kernel_rfl) (by kernel_rfl) (by kernel_rfl) (fun _ _ _ h => h) (Or.inl ⟨by rfl, fun w hS => ?_⟩) HS.out ?_
            · (go_simp)
            simp only [Act.put, List.setIfInBounds_toArray, List.set_cons_zero, List.set_cons_succ]
            refine AnyBut.take 18 (some 47) (v := (.pointer (some ⟨pg, k * 2 + 1, none⟩))) rfl rfl (by kernel_rfl) (by decide) (by kernel_rfl) (by kernel_rfl) (by kernel_rfl) (by kernel_rfl) (fun _ _ _ h => h) (Or.inl ⟨by rfl, fun w hS => ?_⟩) HS.out ?_
            · (go_simp)
            simp only [Act.put, List.setIfInBounds_toArray, List.set_cons_zero, List.set_cons_succ]
            refine AnyBut.take 19 (some 48) (v := (.string x)) rfl rfl (by kernel_rfl) (by decide) (by kernel_rfl) (by kernel_rfl) (by kernel_rfl) (by kernel_rfl) (fun _ _ _ h => h) (Or.inl ⟨by rfl, fun w hS => ?_⟩) HS.out ?_
            · (obtain ⟨q1, q2, q3, q4⟩ := hS; go_simp)
            simp only [Act.put, List.setIfInBounds_toArray, List.set_cons_zero, List.set_cons_succ]
            refine AnyBut.take 20 (some 49) (v := (.pointer (some ⟨kg, i, none⟩))) rfl rfl (by kernel_rfl) (by decide) (by kernel_rfl) (by kernel_rfl) (by kernel_rfl) (by kernel_rfl) (fun _ _ _ h => h) (Or.inl ⟨by rfl, fun w hS => ?_⟩) HS.out ?_
            · (go_simp)
            simp only [Act.put, List.setIfInBounds_toArray, List.set_cons_zero, List.set_cons_succ]
            refine AnyBut.one 21 (by kernel_rfl) rfl (by rfl) (fun KK hK => ?_)
            have ck := HCK.out.1
            have fk := HCK.out.2
            go_simp
            refine hK.out _ _ (fun h => absurd rfl h) ?_
            clear hK KK
            refine AnyBut.done (by kernel_rfl) ?_
            go_wp2
            go_roundw
            case rel => first | exact HFN.out | ((repeat apply Exists.intro); exact ⟨HFN.out, rfl⟩)
            case measure => (simp [intOf]) <;> omega
        · have dl : decide ((k : Int) < (len : Int)) = false := by simp; omega
          have HMK : Hid (rmarks false len m k = false) := by show rmarks false len m k = false; unfold rmarks marks; simp [hlt]
          have HFN : Hid (∃ k' : Nat, k' ≤ s.pend.length ∧ Value.int .i64 ((k : Int) + 1) = .int .i64 (k' : Int) ∧ Rk wr h vk vp (mid (rmarks false len m) s k') ∧ Turn (rfoot h vk vp) (rfoot h vk vp) w wr) := ⟨k + 1, by omega, by go_num, by rw [mid_skip _ _ _ (i, x) HP.out HMK.out]; exact HD.out, HT.out⟩
          go_wp2
          go_roundw
          case rel => first | exact HFN.out | ((repeat apply Exists.intro); exact ⟨HFN.out, rfl⟩)
          case measure => (simp [intOf]) <;> omega
      · have HMK : Hid (rmarks true len m k = true) := rfl
        have HS : Hid ((fun W : World => W.cell? ⟨h, 0, none⟩ = some (.slice (some ⟨kg, 0, none⟩) s.kept.length kcap) ∧ W.cell? ⟨h, 1, none⟩ = some (.slice (some ⟨pg, 0, none⟩) s.pend.length pcap) ∧ W.cell? ⟨pg, k * 2, none⟩ = some (.int .i64 (i : Int)) ∧ W.cell? ⟨pg, k * 2 + 1, none⟩ = some (.string x)) wr.drew) := ⟨c0, c1, q0, q1⟩
        have HFN : Hid (∃ k' : Nat, k' ≤ s.pend.length ∧ Value.int .i64 ((k : Int) + 1) = .int .i64 (k' : Int) ∧ Rk (wr.drew.setCell ⟨kg, i, none⟩ (.string x)) h vk vp (mid (rmarks true len m) s k') ∧ Turn (rfoot h vk vp) (rfoot h vk vp) w (wr.drew.setCell ⟨kg, i, none⟩ (.string x))) := ⟨k + 1, by omega, by go_num, by rw [mid_next _ _ _ i x HP.out HMK.out]; exact HD.out.drew.setKept (by rw [HVK.out]; rfl) hi hx, HT.out.drew.trans (rfoot_kept (by rw [HVK.out]; rfl) _ _ _ _)⟩
        go_wp2_with fail
        clear c0 c1 q0 q1
        refine AnyBut.begin (z := 21) (S := fun W => W.cell? ⟨h, 0, none⟩ = some (.slice (some ⟨kg, 0, none⟩) s.kept.length kcap) ∧ W.cell? ⟨h, 1, none⟩ = some (.slice (some ⟨pg, 0, none⟩) s.pend.length pcap) ∧ W.cell? ⟨pg, k * 2, none⟩ = some (.int .i64 (i : Int)) ∧ W.cell? ⟨pg, k * 2 + 1, none⟩ = some (.string x)) (by kernel_rfl) ?_
        refine AnyBut.take 0 (some 29) (v := (ptr h)) rfl rfl (by kernel_rfl) (by decide) (by kernel_rfl) (by kernel_rfl) (by kernel_rfl) (by kernel_rfl) (fun _ _ _ h => h) (Or.inl ⟨by rfl, fun w hS => ?_⟩) HS.out ?_
        · (go_simp)
        simp only [Act.put, List.setIfInBounds_toArray, List.set_cons_zero, List.set_cons_succ]
        refine AnyBut.take 1 (some 30) (v := (ptr h)) rfl rfl (by kernel_rfl) (by decide) (by kernel_rfl) (by kernel_rfl) (by kernel_rfl) (by kernel_rfl) (fun _ _ _ h => h) (Or.inl ⟨by rfl, fun w hS => ?_⟩) HS.out ?_
        · (go_simp)
        simp only [Act.put, List.setIfInBounds_toArray, List.set_cons_zero, List.set_cons_succ]
        refine AnyBut.take 2 (some 31) (v := (ptr h)) rfl rfl (by kernel_rfl) (by decide) (by kernel_rfl) (by kernel_rfl) (by kernel_rfl) (by kernel_rfl) (fun _ _ _ h => h) (Or.inl ⟨by rfl, fun w hS => ?_⟩) HS.out ?_
        · (go_simp)
        simp only [Act.put, List.setIfInBounds_toArray, List.set_cons_zero, List.set_cons_succ]
        refine AnyBut.take 3 (some 32) (v := (.slice (some ⟨kg, 0, none⟩) s.kept.length kcap)) rfl rfl (by kernel_rfl) (by decide) (by kernel_rfl) (by kernel_rfl) (by kernel_rfl) (by kernel_rfl) (fun _ _ _ h => h) (Or.inl ⟨by rfl, fun w hS => ?_⟩) HS.out ?_
        · (obtain ⟨q1, q2, q3, q4⟩ := hS; go_simp)
        simp only [Act.put, List.setIfInBounds_toArray, List.set_cons_zero, List.set_cons_succ]
        refine AnyBut.take 4 (some 33) (v := (ptr h)) rfl rfl (by kernel_rfl) (by decide) (by kernel_rfl) (by kernel_rfl) (by kernel_rfl) (by kernel_rfl) (fun _ _ _ h => h) (Or.inl ⟨by rfl, fun w hS => ?_⟩) HS.out ?_
        · (go_simp)
        simp only [Act.put, List.setIfInBounds_toArray, List.set_cons_zero, List.set_cons_succ]
        refine AnyBut.take 5 (some 34) (v := (ptr h)) rfl rfl (by kernel_rfl) (by decide) (by kernel_rfl) (by kernel_rfl) (by kernel_rfl) (by kernel_rfl) (fun _ _ _ h => h) (Or.inl ⟨by rfl, fun w hS => ?_⟩) HS.out ?_
        · (go_simp)
        simp only [Act.put, List.setIfInBounds_toArray, List.set_cons_zero, List.set_cons_succ]
        refine AnyBut.take 6 (some 35) (v := (.pointer (some ⟨h, 1, none⟩))) rfl rfl (by kernel_rfl) (by decide) (by kernel_rfl) (by kernel_rfl) (by kernel_rfl) (by kernel_rfl) (fun _ _ _ h => h) (Or.inl ⟨by rfl, fun w hS => ?_⟩) HS.out ?_
        · (go_simp)
        simp only [Act.put, List.setIfInBounds_toArray, List.set_cons_zero, List.set_cons_succ]
        refine AnyBut.take 7 (some 36) (v := (.slice (some ⟨pg, 0, none⟩) s.pend.length pcap)) rfl rfl (by kernel_rfl) (by decide) (by kernel_rfl) (by kernel_rfl) (by kernel_rfl) (by kernel_rfl) (fun _ _ _ h => h) (Or.inl ⟨by rfl, fun w hS => ?_⟩) HS.out ?_
        · (obtain ⟨q1, q2, q3, q4⟩ := hS; go_simp)
        simp only [Act.put, List.setIfInBounds_toArray, List.set_cons_zero, List.set_cons_succ]
        refine AnyBut.take 8 (some 37) (v := (.int .i64 (k : Int))) rfl rfl (by kernel_rfl) (by decide) (by kernel_rfl) (by kernel_rfl) (by kernel_rfl) (by kernel_rfl) (fun _ _ _ h => h) (Or.inl ⟨by rfl, fun w hS => ?_⟩) HS.out ?_
        · (go_simp)
        simp only [Act.put, List.setIfInBounds_toArray, List.set_cons_zero, List.set_cons_succ]
        refine AnyBut.take 9 (some 38) (v := (.pointer (some ⟨pg, k * 2, none⟩))) rfl rfl (by kernel_rfl) (by decide) (by kernel_rfl) (by kernel_rfl) (by kernel_rfl) (by kernel_rfl) (fun _ _ _ h => h) (Or.inl ⟨by rfl, fun w hS => ?_⟩) HS.out ?_
        · (go_simp)
        simp only [Act.put, List.setIfInBounds_toArray, List.set_cons_zero, List.set_cons_succ]
        refine AnyBut.take 10 (some 39) (v := (.pointer (some ⟨pg, k * 2, none⟩))) rfl rfl (by kernel_rfl) (by decide) (by kernel_rfl) (by kernel_rfl) (by kernel_rfl) (by kernel_rfl) (fun _ _ _ h => h) (Or.inl ⟨by rfl, fun w hS => ?_⟩) HS.out ?_
        · (go_simp)
        simp only [Act.put, List.setIfInBounds_toArray, List.set_cons_zero, List.set_cons_succ]
        refine AnyBut.take 11 (some 40) (v := (.int .i64 (i : Int))) rfl rfl (by kernel_rfl) (by decide) (by kernel_rfl) (by kernel_rfl) (by kernel_rfl) (by kernel_rfl) (fun _ _ _ h => h) (Or.inl ⟨by rfl, fun w hS => ?_⟩) HS.out ?_
        · (obtain ⟨q1, q2, q3, q4⟩ := hS; go_simp)
        simp only [Act.put, List.setIfInBounds_toArray, List.set_cons_zero, List.set_cons_succ]
        refine AnyBut.take 12 (some 41) (v := (ptr h)) rfl rfl (by kernel_rfl) (by decide) (by kernel_rfl) (by kernel_rfl) (by kernel_rfl) (by kernel_rfl) (fun _ _ _ h => h) (Or.inl ⟨by rfl, fun w hS => ?_⟩) HS.out ?_
        · (go_simp)
        simp only [Act.put, List.setIfInBounds_toArray, List.set_cons_zero, List.set_cons_succ]
        refine AnyBut.take 13 (some 42) (v := (ptr h)) rfl rfl (by kernel_rfl) (by decide) (by kernel_rfl) (by kernel_rfl) (by kernel_rfl) (by kernel_rfl) (fun _ _ _ h => h) (Or.inl ⟨by rfl, fun w hS => ?_⟩) HS.out ?_
        · (go_simp)
        simp only [Act.put, List.setIfInBounds_toArray, List.set_cons_zero, List.set_cons_succ]
        refine AnyBut.take 14 (some 43) (v := (.pointer (some ⟨h, 1, none⟩))) rfl rfl (by kernel_rfl) (by decide) (by kernel_rfl) (by kernel_rfl) (by kernel_rfl) (by kernel_rfl) (fun _ _ _ h => h) (Or.inl ⟨by rfl, fun w hS => ?_⟩) HS.out ?_
        · (go_simp)
        simp only [Act.put, List.setIfInBounds_toArray, List.set_cons_zero, List.set_cons_succ]
        refine AnyBut.take 15 (some 44) (v := (.slice (some ⟨pg, 0, none⟩) s.pend.length pcap)) rfl rfl (by kernel_rfl) (by decide) (by kernel_rfl) (by kernel_rfl) (by kernel_rfl) (by kernel_rfl) (fun _ _ _ h => h) (Or.inl ⟨by rfl, fun w hS => ?_⟩) HS.out ?_
        · (obtain ⟨q1, q2, q3, q4⟩ := hS; go_simp)
        simp only [Act.put, List.setIfInBounds_toArray, List.set_cons_zero, List.set_cons_succ]
        refine AnyBut.take 16 (some 45) (v := (.int .i64 (k : Int))) rfl rfl (by kernel_rfl) (by decide) (by kernel_rfl) (by kernel_rfl) (by kernel_rfl) (by kernel_rfl) (fun _ _ _ h => h) (Or.inl ⟨by rfl, fun w hS => ?_⟩) HS.out ?_
        · (go_simp)
        simp only [Act.put, List.setIfInBounds_toArray, List.set_cons_zero, List.set_cons_succ]
        refine AnyBut.take 17 (some 46) (v := (.pointer (some ⟨pg, k * 2, none⟩))) rfl rfl (by kernel_rfl) (by decide) (by kernel_rfl) (by kernel_rfl) (by kernel_rfl) (by kernel_rfl) (fun _ _ _ h => h) (Or.inl ⟨by rfl, fun w hS => ?_⟩) HS.out ?_
        · (go_simp)
        simp only [Act.put, List.setIfInBounds_toArray, List.set_cons_zero, List.set_cons_succ]
        refine AnyBut.take 18 (some 47) (v := (.pointer (some ⟨pg, k * 2 + 1, none⟩))) rfl rfl (by kernel_rfl) (by decide) (by kernel_rfl) (by kernel_rfl) (by kernel_rfl) (by kernel_rfl) (fun _ _ _ h => h) (Or.inl ⟨by rfl, fun w hS => ?_⟩) HS.out ?_
        · (go_simp)
        simp only [Act.put, List.setIfInBounds_toArray, List.set_cons_zero, List.set_cons_succ]
        refine AnyBut.take 19 (some 48) (v := (.string x)) rfl rfl (by kernel_rfl) (by decide) (by kernel_rfl) (by kernel_rfl) (by kernel_rfl) (by kernel_rfl) (fun _ _ _ h => h) (Or.inl ⟨by rfl, fun w hS => ?_⟩) HS.out ?_
        · (obtain ⟨q1, q2, q3, q4⟩ := hS; go_simp)
        simp only [Act.put, List.setIfInBounds_toArray, List.set_cons_zero, List.set_cons_succ]
        refine AnyBut.take 20 (some 49) (v := (.pointer (some ⟨kg, i, none⟩))) rfl rfl (by kernel_rfl) (by decide) (by kernel_rfl) (by kernel_rfl) (by kernel_rfl) (by kernel_rfl) (fun _ _ _ h => h) (Or.inl ⟨by rfl, fun w hS => ?_⟩) HS.out ?_
        · (go_simp)
        simp only [Act.put, List.setIfInBounds_toArray, List.set_cons_zero, List.set_cons_succ]
        refine AnyBut.one 21 (by kernel_rfl) rfl (by rfl) (fun KK hK => ?_)
        have ck := HCK.out.1
        have fk := HCK.out.2
        go_simp
        refine hK.out _ _ (fun h => absurd rfl h) ?_
        clear hK KK
        refine AnyBut.done (by kernel_rfl) ?_
        go_wp2
        go_roundw
        case rel => first | exact HFN.out | ((repeat apply Exists.intro); exact ⟨HFN.out, rfl⟩)
        case measure => (simp [intOf]) <;> omega
    · have hke : k = s.pend.length := by omega
      have dk : decide ((k : Int) < (s.pend.length : Int)) = false := by simp; omega
      have f1 := HD.out.fz 1
      have HFN : Hid (Rk (wr.setCell ⟨h, 1, none⟩ (.slice none 0 0)) h vk (.slice none 0 0) { s with kept := Sc.keepI (rmarks all len m) s.pend 0 s.kept, pend := [] } ∧ Turn (rfoot h vk vp) (rfoot h vk (.slice none 0 0)) w (wr.setCell ⟨h, 1, none⟩ (.slice none 0 0))) := by
        have hok : Sc.Ok { s with kept := Sc.keepI (rmarks all len m) s.pend 0 s.kept, pend := [] } := ⟨by simpa [Sc.keepI_length] using HH.out.ok.one, by simpa [Sc.keepI_length] using HH.out.ok.most, Sc.keepI_ok HH.out.ok _, (fun _ hp => nomatch hp), (fun _ hp => nomatch hp), HH.out.ok.left⟩
        exact ⟨HD.out.clear (by rw [hke, mid_all]) rfl rfl rfl rfl hok, HT.out.trans (rfoot_nil _ _ _ _ _ _)⟩
      clear hke
      go_wp2
      go_end0
      exact ⟨rfl, HFN.out.1, HFN.out.2⟩
set_option maxHeartbeats 1000000 in
theorem rflush_any (h : Nat) (vk vp : Value) (s : Sc.St) (w : World) (H : Rk w h vk vp s) (hn : s.dn ≤ 1000000000) :
    Calls Try.prog 29 #[ptr h] w (RDoes w h vk vp (Sc.flushS s) (Sc.flushE s)) := by
  have c2 := H.c2
  have HH : Hid (Rk w h vk vp s) := H
  have HSP : Hid (Calls Try.prog 39 #[ptr h] w fun e w' => e = .returned (.int .i64 (spendE s)) ∧ Rk w' h vk vp (spendS s) ∧ Turn (rfoot h vk vp) (rfoot h vk vp) w w') := rdoes_any h vk vp s w H hn
  clear H
  unfold Sc.flushS Sc.flushE
  unfold spendE spendS at HSP
  cases hd : s.down
  · rw [hd] at c2
    simp only [Bool.false_eq_true, if_false] at *
    by_cases h0 : s.left = 0
    · simp only [h0, if_true] at HSP ⊢
      go_enter Try.func29, Try.ntmps29
      go_wp2_with (go_at_call 39; refine HSP.out.mono ?_; rintro e w1 ⟨rfl, hD1, hT1⟩)
      go_ret
      exact ⟨_, rfl, hD1, hT1⟩
    · simp only [h0, if_false] at HSP ⊢
      go_enter Try.func29, Try.ntmps29
      go_wp2_with (first | (go_at_call 39; refine HSP.out.mono ?_; rintro e w1 ⟨rfl, hD1, hT1⟩; have HKP := rkeep_any h vk vp (Sc.spent s) none 0 0 (fun _ => false) true w1 hD1 (.inl rfl) (by omega) (by omega)) | (go_at_call 40; refine HKP.mono ?_; rintro e w2 ⟨rfl, hD2, hT2⟩))
      go_ret
      exact ⟨_, rfl, hD2, hT1.trans hT2⟩
  · rw [hd] at c2
    simp only [if_true] at *
    go_enter Try.func29, Try.ntmps29
    go_wp2
    go_ret
    exact ⟨_, rfl, HH.out, Turn.refl _ _⟩
set_option maxHeartbeats 1000000 in
theorem ron_any (h : Nat) (vk vp : Value) (s : Sc.St) (a : Option Addr) (len cp : Nat) (m : Nat → Bool) (w : World) (H : Rk w h vk vp s) (hB : Bools (rfoot h vk vp) w a len m) (hlen : len ≤ cp) (hcp : cp ≤ 9223372036854775807) :
    Calls Try.prog 32 #[ptr h, .slice a len cp] w (RDoes w h vk vp (Sc.onS s (marks len m)) (Sc.onE s)) := by
  have c2 := H.c2
  have HH : Hid (Rk w h vk vp s) := H
  have HKP := rkeep_any h vk vp s a len cp m false w H hB hlen hcp
  clear H hB
  unfold Sc.onS Sc.onE
  cases hd : s.down
  · rw [hd] at c2
    simp only [Bool.false_eq_true, if_false]
    go_enter Try.func32, Try.ntmps32
    go_wp2
    go_ret
    exact ⟨_, rfl, HH.out, Turn.refl _ _⟩
  · rw [hd] at c2
    simp only [if_true]
    go_enter Try.func32, Try.ntmps32
    go_wp2_with (go_at_call 40; refine HKP.mono ?_; rintro e w2 ⟨rfl, hD2, hT2⟩; have c22 := hD2.c2; have c23 := hD2.c3; have f22 := hD2.fz 2; have f23 := hD2.fz 3)
    go_ret
    have OK := Sc.back_ok HH.out.ok (marks len m)
    have e1 : Rk (w2.setCell ⟨h, 2, none⟩ (.bool false)) h vk (.slice none 0 0) { Sc.back s (marks len m) with left := s.left } := hD2.setSame 2 _ rfl rfl rfl ⟨OK.one, OK.most, OK.size, OK.pat, OK.psize, HH.out.ok.left⟩
    exact ⟨_, rfl, e1.setSame 3 _ rfl rfl rfl OK, (hT2.trans (rfoot_set _ _ _ _ _ _)).trans (rfoot_set _ _ _ _ _ _)⟩
end Go.Proofs.Ytbhbfnnlpkikbaa
