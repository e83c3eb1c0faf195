/- Proved: the law of what was flushed. -/
import Derived.Test.YtbhbfnnlpkikbaaBegin
namespace Go.Proofs.Ytbhbfnnlpkikbaa
open Go.RowKit
theorem readV_live {n : Nat} {s : Sc.St} (h : Live n s) (hp : s.pend = []) {i : Nat} (hi : i < n) : Sc.readV s (i : Int) = s.kept.getD i Sc.zero64 := by
  have hh : Sc.has s (i : Int) = true := Sc.has_iff.2 ⟨by omega, by rw [h.len]; omega⟩
  unfold Sc.readV
  rw [h.down, hh]
  simp only [Bool.false_eq_true, Bool.true_eq_false, if_false]
  unfold Sc.now
  rw [hp, Int.toNat_natCast]
  rfl
/- a list of texts of the call's own, cell by cell -/
theorem own_texts {w : World} {N n : Nat} {u : Value} {s : Sc.St} (h : w.ownsRow N 9 1 u n (allV s n)) (hn : 0 < n) : ∃ b cap, u = .slice (some ⟨b, 0, none⟩) n cap ∧ N ≤ b ∧ b < w.heap.size ∧ n ≤ cap ∧ ∀ i, i < n → w.cell? ⟨b, i, none⟩ = some (.string (Sc.readV s (i : Int))) := by
  rcases h.2 with ⟨_, h2⟩ | ⟨g, cap, cur, hv, hN, hh, hc, _, hs, ht⟩
  · omega
  · refine ⟨g, cap, hv, hN, (Array.getElem?_eq_some_iff.1 hh).1, hc, fun i hi => ?_⟩
    rw [cell_of_row w g i cur _ (0, 0) hh, ← Array.getElem?_toList]
    have e : (cur.toList.take (n * 1))[i]? = (allV s n)[i]? := by rw [ht]
    rw [List.getElem?_take_of_lt (by omega)] at e
    rw [e, allV, List.getElem?_map, List.getElem?_range hi]
    rfl
/- what is known at the head of a round: what was kept lies as texts in block b1, which sectors were touched in block tb -/
structure KRel (w : World) (g kg b1 tb : Nat) (ks : List ByteArray) (k : Nat) (v : Value) (s : Sc.St) (tl : List Bool) (wr : World) : Prop where
  dk : Dk wr g kg v s
  lv : Live 6 s
  pn : s.pend.length ≤ k
  dn : s.dn ≤ 31 + k
  kp : s.kept = ks
  tch : ∀ p ∈ s.pend, tl.getD p.1 false = true
  tln : tl.length = 6
  trow : wr.heap[tb]? = some (.cells (tl.map Value.bool).toArray 57 (0, 0))
  was : ∀ i, i < 6 → wr.cell? ⟨b1, i, none⟩ = some (.string (ks.getD i Sc.zero64))
  nb : b1 ∉ foot g kg v
  nt : tb ∉ foot g kg v
  ne : b1 ≠ tb
  bel : Below w.heap.size w wr
  abv : ∀ k ∈ foot g kg v, w.heap.size ≤ k
  tbn : w.heap.size ≤ tb
theorem KRel.next {w wr w' : World} {g kg b1 tb : Nat} {ks : List ByteArray} {k K : Nat} {v v' : Value} {s : Sc.St} {tl : List Bool} {x : ByteArray} (h : KRel w g kg b1 tb ks k v s tl wr) (hK : K < 6) (hx : x.size ≤ 64) (hD : Dk w' g kg v' (Sc.writeS s (K : Int) x)) (hT : Turn (foot g kg v) (foot g kg v') wr w') :
    KRel w g kg b1 tb ks (k + 1) v' (Sc.writeS s (K : Int) x) (tl.set K true) (w'.setCell ⟨tb, K, none⟩ (.bool true)) := by
  obtain ⟨e, hl, _⟩ := h.lv.write (i := (K : Int)) (by omega) (by omega) (x := x) hx
  have hst := Sc.writeS_step s (K : Int) x
  have lt : tb < wr.heap.size := (Array.getElem?_eq_some_iff.1 h.trow).1
  have lb : b1 < wr.heap.size := block_lt_of_cell (h.was 0 (by omega))
  have ht' : w'.heap[tb]? = some (.cells (tl.map Value.bool).toArray 57 (0, 0)) := (hT.chg.block _ lt h.nt).trans h.trow
  have nt' : tb ∉ foot g kg v' := hT.apart (rs := [tb]) (fun k hk => by rw [List.mem_singleton.1 hk]; exact h.nt) (fun k hk => by rw [List.mem_singleton.1 hk]; exact lt) _ (List.mem_singleton.2 rfl)
  have nb' : b1 ∉ foot g kg v' := hT.apart (rs := [b1]) (fun k hk => by rw [List.mem_singleton.1 hk]; exact h.nb) (fun k hk => by rw [List.mem_singleton.1 hk]; exact lb) _ (List.mem_singleton.2 rfl)
  have hb := h.bel.trans (hT.below h.abv h.bel.size)
  refine ⟨hD.keep (Chg.setCell _ _ _ _) (fun k hk hm => nt' (by rw [← List.mem_singleton.1 hm]; exact hk)), hl, by have := hst.pend; have := h.pn; omega, by have := hst.dn; have := h.dn; omega, ?_, ?_, by rw [List.length_set]; exact h.tln, ?_, fun i hi => ?_, nb', nt', h.ne, hb.setCell h.tbn _, hT.above h.abv h.bel.size, h.tbn⟩
  · rw [e]; exact h.kp
  · rw [e]
    intro p hp
    rcases List.mem_append.1 hp with hp | hp
    · have := h.tch p hp
      rw [List.getD_eq_getElem?_getD, List.getElem?_set]
      split
      · split
        · rfl
        · have := h.tln; omega
      · rw [← List.getD_eq_getElem?_getD]; exact this
    · rw [List.mem_singleton.1 hp, List.getD_eq_getElem?_getD, Int.toNat_natCast, List.getElem?_set_self (by rw [h.tln]; exact hK)]
      rfl
  · rw [heap_setCell_same _ _ _ _ _ _ ht', List.setIfInBounds_toArray, List.map_set]
  · rw [World.cell?_setCell_other _ _ _ _ (by intro e; exact h.ne (by have := congrArg Addr.block e; simpa using this.symm))]
    rw [← h.was i hi]
    exact World.cell?_of_block (hT.chg.block _ lb h.nb)
set_option maxHeartbeats 8000000 in
set_option maxRecDepth 20000 in
theorem keeps_walk (a1 : Option Addr) (len1 cap1 : Nat) (a2 : Option Addr) (len2 cap2 : Nat) (a3 : Option Addr) (len3 cap3 : Nat) (m : Nat → Bool) (w : World) (hA1 : Acts w a1 len1) (hlc1 : len1 ≤ cap1) (hcm1 : cap1 ≤ 9223372036854775807) (hA2 : Acts w a2 len2) (_hlc2 : len2 ≤ cap2) (_hcm2 : cap2 ≤ 9223372036854775807) (hB3 : InB w a3 len3 m) (hlc3 : len3 ≤ cap3) (hcm3 : cap3 ≤ 9223372036854775807) :
    Calls Try.prog 5 #[.slice a1 len1 cap1, .slice a2 len2 cap2, .slice a3 len3 cap3] w fun e w' => e = .returned (.bool true) ∧ Below w.heap.size w w' := by
  have HA2 : Hid (Acts w a2 len2) := hA2
  have HB3 : Hid (InB w a3 len3 m) := hB3
  have HBG := begin_any a1 len1 cap1 w hA1 hlc1 hcm1
  clear hA1 hA2 hB3
  go_enter Try.func5, Try.ntmps5
  go_wp2_with fail
  refine HBG.mono ?_
  rintro e w1 ⟨g, kg, rfl, v1, s1, hD1, hL1, hp1, hn1, hB1, hab1⟩
  clear HBG
  have HD1 : Hid (Dk w1 g kg v1 s1) := hD1
  have HB1 : Hid (Below w.heap.size w w1) := hB1
  have HAB1 : Hid (∀ k ∈ foot g kg v1, w.heap.size ≤ k) := hab1
  have HF := flush_any g kg v1 s1 w1 hD1 (by omega)
  obtain ⟨hfe, hfl, hf0⟩ := hL1.flush
  rw [hf0] at HF
  have HL2 : Hid (Live 6 (Sc.flushS s1)) := hfl
  have HP2 : Hid ((Sc.flushS s1).pend = [] ∧ (Sc.flushS s1).dn ≤ 31) := by
    rw [hfe]
    exact ⟨rfl, by simp only [Sc.flushed, Sc.spent]; omega⟩
  clear hD1 hL1 hB1 hab1 hfe hfl hf0
  generalize Sc.flushS s1 = s2 at *
  go_wp2_with fail
  refine HF.mono ?_
  rintro e w2 ⟨v2, rfl, hD2, hT2⟩
  clear HF
  have HD2 : Hid (Dk w2 g kg v2 s2) := hD2
  have HB2 : Hid (Below w.heap.size w w2) := HB1.out.trans (hT2.below HAB1.out HB1.out.size)
  have HAB2 : Hid (∀ k ∈ foot g kg v2, w.heap.size ≤ k) := hT2.above HAB1.out HB1.out.size
  have HALL := all_any g kg v2 s2 w2 hD2
  rw [HL2.out.len] at HALL
  clear hD2 hT2 HD1 HB1 HAB1
  go_wp2_with fail
  refine HALL.mono ?_
  rintro e w3 ⟨u, rfl, hO3, hB3⟩
  clear HALL
  obtain ⟨b1, uc, rfl, hb1, hb1', huc, hwas⟩ := own_texts hO3 (by omega)
  have HD3 : Hid (Dk w3 g kg v2 s2) := HD2.out.below hB3
  have HBB3 : Hid (Below w.heap.size w w3) := HB2.out.trans (hB3.mono HB2.out.size)
  have HW3 : Hid (∀ i, i < 6 → w3.cell? ⟨b1, i, none⟩ = some (.string (s2.kept.getD i Sc.zero64))) := fun i hi => by rw [hwas i hi, readV_live HL2.out HP2.out.1 hi]
  have HNB : Hid (b1 ∉ foot g kg v2) := fun h => by have := HD2.out.lt _ h; omega
  clear hO3 hB3 hwas HD2
  have HR0 : Hid (KRel w g kg b1 w3.heap.size s2.kept 0 v2 s2 [false, false, false, false, false, false] (w3.alloc (.cells #[.bool false, .bool false, .bool false, .bool false, .bool false, .bool false] 57))) := by
    refine ⟨HD3.out.alloc _, HL2.out, by rw [HP2.out.1]; exact Nat.le_refl 0, HP2.out.2, rfl, fun p hp => (by rw [HP2.out.1] at hp; cases hp), rfl, heap_alloc_new _ _, fun i hi => ?_, HNB.out, fun h => ?_, by omega, HBB3.out.alloc HBB3.out.size _, HAB2.out, HBB3.out.size⟩
    · rw [← HW3.out i hi]
      exact World.cell?_of_block (Below.heap_alloc _ _ _ hb1')
    · have := HD3.out.lt _ h
      omega
  go_wp2_with fail
  have htb : b1 < w3.heap.size := hb1'
  generalize World.alloc w3 _ = w4 at *
  generalize w3.heap.size = tb at *
  clear HD3 HBB3 HW3 HNB HB2 HAB2 HL2 HP2
  go_loopw [10] (fun s10 wr => ∃ k v s tl, k ≤ 20 ∧ k ≤ len2 ∧ s10 = .int .i64 (k : Int) ∧ KRel w g kg b1 tb s2.kept k v s tl wr) (fun s10 _ => 20 - (intOf s10).toNat)
  case atStart => exact ⟨0, v2, s2, _, by omega, by omega, rfl, HR0.out⟩
  case round =>
    obtain ⟨k, v, s, tl, hk20, hkl, rfl, hR⟩ := hrel
    have HR : Hid (KRel w g kg b1 tb s2.kept k v s tl wr) := hR
    clear hR HR0
    by_cases hin : k < len2 ∧ k < 20
    · obtain ⟨hl1, hl2⟩ := hin
      have d1 : decide ((k : Int) < (len2 : Int)) = true := by simp; omega
      have d2 : decide ((k : Int) < 20) = true := by simp; omega
      have k0 : (0 : Int) ≤ (k : Int) := by omega
      have k1 : (k : Int) < (len2 : Int) := by omega
      obtain ⟨b, off, rfl, x, hx, c0, c1, c2, c3⟩ := HA2.out.at HR.out.bel hl1
      obtain ⟨kind, at', sx, ka, kl, kc, mm⟩ := x
      simp only at c0 c1 c2 c3
      clear hx c0 c3
      obtain ⟨K, hK6, hmod, hm1, hm2⟩ := mod6 at'
      obtain ⟨n, hn1, hn2, hnm⟩ := cut_min sx.size 64
      rw [show ((64 : Nat) : Int) = 64 from rfl] at hnm
      have hcs : (sx.extract 0 n).size = n := cut_size sx n hn1
      go_wp2_with fail
      have HS : Hid ((fun W : World => W.cell? ⟨b, off + k * 4 + 2, none⟩ = some (.string sx)) wr.drew) := c2
      have HW := write_any g kg v s (K : Int) (sx.extract 0 n) wr.drew HR.out.dk.drew (by have := HR.out.dn; omega) (by have := HR.out.pn; omega)
      have n0 : (0 : Int) ≤ (n : Int) := by omega
      have n1 : (n : Int) ≤ (sx.size : Int) := by omega
      clear c1 c2
      refine AnyBut.begin (z := 15) (S := fun W => W.cell? ⟨b, off + k * 4 + 2, none⟩ = some (.string sx)) (by kernel_rfl) ?_
      refine AnyBut.take 0 (some 44) (v := (ptr g)) rfl rfl (by kernel_rfl) (by decide) (by kernel_rfl) (by kernel_rfl) (by kernel_rfl) (by kernel_rfl) (fun _ _ _ h => h) (Or.inl ⟨by rfl, fun w hS => ?_⟩) HS.out ?_
      · (go_simp)
      simp only [Act.put, List.setIfInBounds_toArray, List.set_cons_zero, List.set_cons_succ]
      refine AnyBut.take 1 (some 45) (v := (.int .i64 (K : Int))) rfl rfl (by kernel_rfl) (by decide) (by kernel_rfl) (by kernel_rfl) (by kernel_rfl) (by kernel_rfl) (fun _ _ _ h => h) (Or.inl ⟨by rfl, fun w hS => ?_⟩) HS.out ?_
      · (go_simp)
      simp only [Act.put, List.setIfInBounds_toArray, List.set_cons_zero, List.set_cons_succ]
      refine AnyBut.take 2 (some 46) (v := (.slice (some ⟨b, off, none⟩) len2 cap2)) rfl rfl (by kernel_rfl) (by decide) (by kernel_rfl) (by kernel_rfl) (by kernel_rfl) (by kernel_rfl) (fun _ _ _ h => h) (Or.inl ⟨by rfl, fun w hS => ?_⟩) HS.out ?_
      · (go_simp)
      simp only [Act.put, List.setIfInBounds_toArray, List.set_cons_zero, List.set_cons_succ]
      refine AnyBut.take 3 (some 47) (v := (.int .i64 (k : Int))) rfl rfl (by kernel_rfl) (by decide) (by kernel_rfl) (by kernel_rfl) (by kernel_rfl) (by kernel_rfl) (fun _ _ _ h => h) (Or.inl ⟨by rfl, fun w hS => ?_⟩) HS.out ?_
      · (go_simp)
      simp only [Act.put, List.setIfInBounds_toArray, List.set_cons_zero, List.set_cons_succ]
      refine AnyBut.take 4 (some 48) (v := (.pointer (some ⟨b, off + k * 4, none⟩))) rfl rfl (by kernel_rfl) (by decide) (by kernel_rfl) (by kernel_rfl) (by kernel_rfl) (by kernel_rfl) (fun _ _ _ h => h) (Or.inl ⟨by rfl, fun w hS => ?_⟩) HS.out ?_
      · (go_simp)
      simp only [Act.put, List.setIfInBounds_toArray, List.set_cons_zero, List.set_cons_succ]
      refine AnyBut.take 5 (some 49) (v := (.pointer (some ⟨b, off + k * 4 + 2, none⟩))) rfl rfl (by kernel_rfl) (by decide) (by kernel_rfl) (by kernel_rfl) (by kernel_rfl) (by kernel_rfl) (fun _ _ _ h => h) (Or.inl ⟨by rfl, fun w hS => ?_⟩) HS.out ?_
      · (go_simp)
      simp only [Act.put, List.setIfInBounds_toArray, List.set_cons_zero, List.set_cons_succ]
      refine AnyBut.take 6 (some 50) (v := (.string sx)) rfl rfl (by kernel_rfl) (by decide) (by kernel_rfl) (by kernel_rfl) (by kernel_rfl) (by kernel_rfl) (fun _ _ _ h => h) (Or.inl ⟨by rfl, fun w hS => ?_⟩) HS.out ?_
      · (have q1 := hS; go_simp)
      simp only [Act.put, List.setIfInBounds_toArray, List.set_cons_zero, List.set_cons_succ]
      refine AnyBut.take 7 (some 51) (v := (.slice (some ⟨b, off, none⟩) len2 cap2)) rfl rfl (by kernel_rfl) (by decide) (by kernel_rfl) (by kernel_rfl) (by kernel_rfl) (by kernel_rfl) (fun _ _ _ h => h) (Or.inl ⟨by rfl, fun w hS => ?_⟩) HS.out ?_
      · (go_simp)
      simp only [Act.put, List.setIfInBounds_toArray, List.set_cons_zero, List.set_cons_succ]
      refine AnyBut.take 8 (some 52) (v := (.int .i64 (k : Int))) rfl rfl (by kernel_rfl) (by decide) (by kernel_rfl) (by kernel_rfl) (by kernel_rfl) (by kernel_rfl) (fun _ _ _ h => h) (Or.inl ⟨by rfl, fun w hS => ?_⟩) HS.out ?_
      · (go_simp)
      simp only [Act.put, List.setIfInBounds_toArray, List.set_cons_zero, List.set_cons_succ]
      refine AnyBut.take 9 (some 53) (v := (.pointer (some ⟨b, off + k * 4, none⟩))) rfl rfl (by kernel_rfl) (by decide) (by kernel_rfl) (by kernel_rfl) (by kernel_rfl) (by kernel_rfl) (fun _ _ _ h => h) (Or.inl ⟨by rfl, fun w hS => ?_⟩) HS.out ?_
      · (go_simp)
      simp only [Act.put, List.setIfInBounds_toArray, List.set_cons_zero, List.set_cons_succ]
      refine AnyBut.take 10 (some 54) (v := (.pointer (some ⟨b, off + k * 4 + 2, none⟩))) rfl rfl (by kernel_rfl) (by decide) (by kernel_rfl) (by kernel_rfl) (by kernel_rfl) (by kernel_rfl) (fun _ _ _ h => h) (Or.inl ⟨by rfl, fun w hS => ?_⟩) HS.out ?_
      · (go_simp)
      simp only [Act.put, List.setIfInBounds_toArray, List.set_cons_zero, List.set_cons_succ]
      refine AnyBut.take 11 (some 55) (v := (.string sx)) rfl rfl (by kernel_rfl) (by decide) (by kernel_rfl) (by kernel_rfl) (by kernel_rfl) (by kernel_rfl) (fun _ _ _ h => h) (Or.inl ⟨by rfl, fun w hS => ?_⟩) HS.out ?_
      · (have q1 := hS; go_simp)
      simp only [Act.put, List.setIfInBounds_toArray, List.set_cons_zero, List.set_cons_succ]
      refine AnyBut.take 12 (some 56) (v := (.int .i64 (sx.size : Int))) rfl rfl (by kernel_rfl) (by decide) (by kernel_rfl) (by kernel_rfl) (by kernel_rfl) (by kernel_rfl) (fun _ _ _ h => h) (Or.inl ⟨by rfl, fun w hS => ?_⟩) HS.out ?_
      · (go_simp)
      simp only [Act.put, List.setIfInBounds_toArray, List.set_cons_zero, List.set_cons_succ]
      refine AnyBut.take 13 (some 57) (v := (.int .i64 (n : Int))) rfl rfl (by kernel_rfl) (by decide) (by kernel_rfl) (by kernel_rfl) (by kernel_rfl) (by kernel_rfl) (fun _ _ _ h => h) (Or.inl ⟨by rfl, fun w hS => ?_⟩) HS.out ?_
      · (go_simp)
      simp only [Act.put, List.setIfInBounds_toArray, List.set_cons_zero, List.set_cons_succ]
      refine AnyBut.take 14 (some 58) (v := (.string (sx.extract 0 n))) rfl rfl (by kernel_rfl) (by decide) (by kernel_rfl) (by kernel_rfl) (by kernel_rfl) (by kernel_rfl) (fun _ _ _ h => h) (Or.inl ⟨by rfl, fun w hS => ?_⟩) HS.out ?_
      · (go_simp)
      simp only [Act.put, List.setIfInBounds_toArray, List.set_cons_zero, List.set_cons_succ]
      refine AnyBut.one 15 (by kernel_rfl) rfl (by rfl) (fun KK hK => ?_)
      go_simp
      go_at_call 18
      refine HW.mono ?_
      rintro e w5 ⟨v5, rfl, hD5, hT5⟩
      refine hK.out _ _ (fun h => absurd rfl h) ?_
      clear hK KK
      refine AnyBut.done (by kernel_rfl) ?_
      have hT5' : Turn (foot g kg v) (foot g kg v5) wr w5 := (Turn.refl _ wr).drew.trans hT5
      have HN : Hid (KRel w g kg b1 tb s2.kept (k + 1) v5 (Sc.writeS s (K : Int) (sx.extract 0 n)) (tl.set K true) (w5.setCell ⟨tb, K, none⟩ (.bool true))) := HR.out.next hK6 (by omega) hD5 hT5'
      have ht5 : w5.heap[tb]? = some (.cells (tl.map Value.bool).toArray 57 (0, 0)) := (hT5'.chg.block _ (Array.getElem?_eq_some_iff.1 HR.out.trow).1 HR.out.nt).trans HR.out.trow
      have ct : w5.cell? ⟨tb, K, none⟩ = some (.bool (tl.getD K false)) := by
        rw [cell_of_row _ _ _ _ _ (0, 0) ht5, List.getElem?_toArray, List.getElem?_map, List.getD_eq_getElem?_getD, List.getElem?_eq_getElem (by rw [HR.out.tln]; exact hK6)]
        rfl
      have ft : w5.frozen? ⟨tb, K, none⟩ = false := frozen_of_row _ _ _ _ _ ht5
      have K0 : (0 : Int) ≤ (K : Int) := by omega
      have K1 : (K : Int) < 6 := by omega
      have HFN : Hid (∃ k' v s tl, k' ≤ 20 ∧ k' ≤ len2 ∧ Value.int .i64 ((k : Int) + 1) = .int .i64 (k' : Int) ∧ KRel w g kg b1 tb s2.kept k' v s tl (w5.setCell ⟨tb, K, none⟩ (.bool true))) := ⟨k + 1, _, _, _, by omega, by omega, by go_num, HN.out⟩
      clear hD5 hT5 hT5' ht5 HN HW
      go_wp2
      go_roundw
      case rel => first | exact HFN.out | ((repeat apply Exists.intro); exact ⟨HFN.out, rfl⟩)
      case measure => (simp [intOf]) <;> omega
    · by_cases hl1 : k < len2
      · have d1 : decide ((k : Int) < (len2 : Int)) = true := by simp; omega
        have d2 : decide ((k : Int) < 20) = false := by simp; omega
        have hk3 : ¬ k < 20 := by omega
        have hdw : s.down = false := HR.out.lv.down
        have OFF := off_any g kg v s wr HR.out.dk
        rw [show Sc.liveE s = 0 by unfold Sc.liveE; rw [hdw]; rfl, show Sc.offS s = Sc.fell s by unfold Sc.offS; rw [hdw]; rfl] at OFF
        have HRX : Hid (KRel w g kg b1 tb s2.kept k v s tl wr) := HR
        go_wp2_with fail
        refine OFF.mono ?_
        rintro e w6 ⟨v6, rfl, hD6, hT6⟩
        have HB6 : Hid (Below w.heap.size w w6) := HR.out.bel.trans (hT6.below HR.out.abv HR.out.bel.size)
        have HAB6 : Hid (∀ k ∈ foot g kg v6, w.heap.size ≤ k) := hT6.above HR.out.abv HR.out.bel.size
        have ON := on_any g kg v6 (Sc.fell s) a3 len3 cap3 m w6 hD6 (HB3.out.bools HB6.out HAB6.out) hlc3 hcm3
        rw [show Sc.onE (Sc.fell s) = 0 from rfl, show Sc.onS (Sc.fell s) (marks len3 m) = Sc.back (Sc.fell s) (marks len3 m) from rfl] at ON
        have HT6 : Hid (Turn (foot g kg v) (foot g kg v6) wr w6) := hT6
        clear hD6 hT6 OFF
        go_wp2_with fail
        refine ON.mono ?_
        rintro e w7 ⟨v7, rfl, hD7, hT7⟩
        have HT7 : Hid (Turn (foot g kg v) (foot g kg v7) wr w7) := HT6.out.trans hT7
        have HB7 : Hid (Below w.heap.size w w7) := HB6.out.trans (hT7.below HAB6.out HB6.out.size)
        have HL7 : Hid (Live 6 (Sc.back (Sc.fell s) (marks len3 m))) := ⟨rfl, rfl, by show (Sc.keepI _ _ _ _).length = 6; rw [Sc.keepI_length]; exact HR.out.lv.len⟩
        have HK7 : Hid (∀ i, i < 6 → tl.getD i false = false → (Sc.back (Sc.fell s) (marks len3 m)).kept.getD i Sc.zero64 = s2.kept.getD i Sc.zero64) := fun i _ hi => by
          show (Sc.keepI (marks len3 m) s.pend 0 s.kept).getD i Sc.zero64 = _
          rw [List.getD_eq_getElem?_getD, Sc.keepI_apart _ i _ _ _ (fun p hp he => by have := HR.out.tch p hp; rw [he, hi] at this; cases this), HR.out.kp, ← List.getD_eq_getElem?_getD]
        have HP7 : Hid ((Sc.back (Sc.fell s) (marks len3 m)).pend = []) := rfl
        generalize Sc.back (Sc.fell s) (marks len3 m) = s7 at *
        have ALL := all_any g kg v7 s7 w7 hD7
        rw [HL7.out.len] at ALL
        have HD7 : Hid (Dk w7 g kg v7 s7) := hD7
        clear hD7 hT7 ON HT6 HB6 HAB6
        go_wp2_with fail
        refine ALL.mono ?_
        rintro e w8 ⟨u8, rfl, hO8, hB8⟩
        obtain ⟨b8, uc8, rfl, hb8, hb8', huc8, hwas8⟩ := own_texts hO8 (by omega)
        have HD8 : Hid (Dk w8 g kg v7 s7) := HD7.out.below hB8
        have HBB8 : Hid (Below w.heap.size w w8) := HB7.out.trans (hB8.mono HB7.out.size)
        have HC8 : Hid (∀ i, i < 6 → w8.cell? ⟨b8, i, none⟩ = some (.string (s7.kept.getD i Sc.zero64))) := fun i hi => by rw [hwas8 i hi, readV_live HL7.out HP7.out hi]
        have HT8 : Hid (Turn (foot g kg v) (foot g kg v7) wr w8) := HT7.out.trans (Turn.of_below hB8)
        have HW8 : Hid (∀ i, i < 6 → w8.cell? ⟨b1, i, none⟩ = some (.string (s2.kept.getD i Sc.zero64))) := fun i hi => by
          rw [← HRX.out.was i hi]
          exact World.cell?_of_block (HT8.out.chg.block _ (block_lt_of_cell (HRX.out.was i hi)) HRX.out.nb)
        have HTR : Hid (∀ i, i < 6 → w8.cell? ⟨tb, i, none⟩ = some (.bool (tl.getD i false))) := fun i hi => by
          rw [cell_of_row _ _ _ _ _ (0, 0) ((HT8.out.chg.block _ (Array.getElem?_eq_some_iff.1 HRX.out.trow).1 HRX.out.nt).trans HRX.out.trow), List.getElem?_toArray, List.getElem?_map, List.getD_eq_getElem?_getD, List.getElem?_eq_getElem (by rw [HRX.out.tln]; exact hi)]
          rfl
        clear hO8 hB8 hwas8 ALL HD7 HB7 HT7 HT8 HR HRX
        go_wp2_with fail
        go_loopw [74] (fun s74 wq => ∃ i : Nat, i ≤ 6 ∧ s74 = .int .i64 (i : Int) ∧ wq = w8) (fun s74 _ => 6 - (intOf s74).toNat)
        case atStart => exact ⟨0, by omega, rfl, rfl⟩
        case round =>
          obtain ⟨i, hi6, rfl, hwq⟩ := hrel
          subst hwq
          by_cases hi : i < 6
          · have di : decide ((i : Int) < 6) = true := by simp; omega
            have i0 : (0 : Int) ≤ (i : Int) := by omega
            have i1 : (i : Int) < 6 := by omega
            have q1 := HC8.out i hi
            have q2 := HW8.out i hi
            have q3 := HTR.out i hi
            have HFN : ∃ i' : Nat, i' ≤ 6 ∧ Value.int .i64 ((i : Int) + 1) = .int .i64 (i' : Int) := ⟨i + 1, by omega, by go_num⟩
            cases ht : tl.getD i false
            · rw [ht] at q3
              rw [HK7.out i hi ht] at q1
              generalize s2.kept.getD i Sc.zero64 = y at *
              clear ht
              go_wp2
              go_roundw
              case rel =>
                obtain ⟨i', h1, h2⟩ := HFN
                exact ⟨i', h1, h2, trivial⟩
              case measure => (simp [intOf]) <;> omega
            · rw [ht] at q3
              generalize s2.kept.getD i Sc.zero64 = y at *
              generalize s7.kept.getD i Sc.zero64 = z at *
              clear ht
              go_wp2
              go_roundw
              case rel =>
                obtain ⟨i', h1, h2⟩ := HFN
                exact ⟨i', h1, h2, trivial⟩
              case measure => (simp [intOf]) <;> omega
          · obtain rfl : i = 6 := by omega
            have di : decide (((6 : Nat) : Int) < 6) = false := by decide
            have PN := pending_any g kg v7 s7 _ HD8.out
            have DN := down_any g kg v7 s7 _ HD8.out
            rw [HP7.out] at PN
            rw [HL7.out.down] at DN
            go_wp2_with (first | (go_at_call 11; refine PN.mono ?_; rintro e wS ⟨rfl, rfl⟩) | (go_at_call 12; refine DN.mono ?_; rintro e wS ⟨rfl, rfl⟩) | (go_at_call 17; refine (works_any _).mono ?_; rintro e w9 ⟨rfl, hB9⟩))
            go_ret
            exact ⟨rfl, HBB8.out.trans (hB9.mono HBB8.out.size)⟩
      · have d1 : decide ((k : Int) < (len2 : Int)) = false := by simp; omega
        have hdw : s.down = false := HR.out.lv.down
        have OFF := off_any g kg v s wr HR.out.dk
        rw [show Sc.liveE s = 0 by unfold Sc.liveE; rw [hdw]; rfl, show Sc.offS s = Sc.fell s by unfold Sc.offS; rw [hdw]; rfl] at OFF
        have HRX : Hid (KRel w g kg b1 tb s2.kept k v s tl wr) := HR
        go_wp2_with fail
        refine OFF.mono ?_
        rintro e w6 ⟨v6, rfl, hD6, hT6⟩
        have HB6 : Hid (Below w.heap.size w w6) := HR.out.bel.trans (hT6.below HR.out.abv HR.out.bel.size)
        have HAB6 : Hid (∀ k ∈ foot g kg v6, w.heap.size ≤ k) := hT6.above HR.out.abv HR.out.bel.size
        have ON := on_any g kg v6 (Sc.fell s) a3 len3 cap3 m w6 hD6 (HB3.out.bools HB6.out HAB6.out) hlc3 hcm3
        rw [show Sc.onE (Sc.fell s) = 0 from rfl, show Sc.onS (Sc.fell s) (marks len3 m) = Sc.back (Sc.fell s) (marks len3 m) from rfl] at ON
        have HT6 : Hid (Turn (foot g kg v) (foot g kg v6) wr w6) := hT6
        clear hD6 hT6 OFF
        go_wp2_with fail
        refine ON.mono ?_
        rintro e w7 ⟨v7, rfl, hD7, hT7⟩
        have HT7 : Hid (Turn (foot g kg v) (foot g kg v7) wr w7) := HT6.out.trans hT7
        have HB7 : Hid (Below w.heap.size w w7) := HB6.out.trans (hT7.below HAB6.out HB6.out.size)
        have HL7 : Hid (Live 6 (Sc.back (Sc.fell s) (marks len3 m))) := ⟨rfl, rfl, by show (Sc.keepI _ _ _ _).length = 6; rw [Sc.keepI_length]; exact HR.out.lv.len⟩
        have HK7 : Hid (∀ i, i < 6 → tl.getD i false = false → (Sc.back (Sc.fell s) (marks len3 m)).kept.getD i Sc.zero64 = s2.kept.getD i Sc.zero64) := fun i _ hi => by
          show (Sc.keepI (marks len3 m) s.pend 0 s.kept).getD i Sc.zero64 = _
          rw [List.getD_eq_getElem?_getD, Sc.keepI_apart _ i _ _ _ (fun p hp he => by have := HR.out.tch p hp; rw [he, hi] at this; cases this), HR.out.kp, ← List.getD_eq_getElem?_getD]
        have HP7 : Hid ((Sc.back (Sc.fell s) (marks len3 m)).pend = []) := rfl
        generalize Sc.back (Sc.fell s) (marks len3 m) = s7 at *
        have ALL := all_any g kg v7 s7 w7 hD7
        rw [HL7.out.len] at ALL
        have HD7 : Hid (Dk w7 g kg v7 s7) := hD7
        clear hD7 hT7 ON HT6 HB6 HAB6
        go_wp2_with fail
        refine ALL.mono ?_
        rintro e w8 ⟨u8, rfl, hO8, hB8⟩
        obtain ⟨b8, uc8, rfl, hb8, hb8', huc8, hwas8⟩ := own_texts hO8 (by omega)
        have HD8 : Hid (Dk w8 g kg v7 s7) := HD7.out.below hB8
        have HBB8 : Hid (Below w.heap.size w w8) := HB7.out.trans (hB8.mono HB7.out.size)
        have HC8 : Hid (∀ i, i < 6 → w8.cell? ⟨b8, i, none⟩ = some (.string (s7.kept.getD i Sc.zero64))) := fun i hi => by rw [hwas8 i hi, readV_live HL7.out HP7.out hi]
        have HT8 : Hid (Turn (foot g kg v) (foot g kg v7) wr w8) := HT7.out.trans (Turn.of_below hB8)
        have HW8 : Hid (∀ i, i < 6 → w8.cell? ⟨b1, i, none⟩ = some (.string (s2.kept.getD i Sc.zero64))) := fun i hi => by
          rw [← HRX.out.was i hi]
          exact World.cell?_of_block (HT8.out.chg.block _ (block_lt_of_cell (HRX.out.was i hi)) HRX.out.nb)
        have HTR : Hid (∀ i, i < 6 → w8.cell? ⟨tb, i, none⟩ = some (.bool (tl.getD i false))) := fun i hi => by
          rw [cell_of_row _ _ _ _ _ (0, 0) ((HT8.out.chg.block _ (Array.getElem?_eq_some_iff.1 HRX.out.trow).1 HRX.out.nt).trans HRX.out.trow), List.getElem?_toArray, List.getElem?_map, List.getD_eq_getElem?_getD, List.getElem?_eq_getElem (by rw [HRX.out.tln]; exact hi)]
          rfl
        clear hO8 hB8 hwas8 ALL HD7 HB7 HT7 HT8 HR HRX
        go_wp2_with fail
        go_loopw [74] (fun s74 wq => ∃ i : Nat, i ≤ 6 ∧ s74 = .int .i64 (i : Int) ∧ wq = w8) (fun s74 _ => 6 - (intOf s74).toNat)
        case atStart => exact ⟨0, by omega, rfl, rfl⟩
        case round =>
          obtain ⟨i, hi6, rfl, hwq⟩ := hrel
          subst hwq
          by_cases hi : i < 6
          · have di : decide ((i : Int) < 6) = true := by simp; omega
            have i0 : (0 : Int) ≤ (i : Int) := by omega
            have i1 : (i : Int) < 6 := by omega
            have q1 := HC8.out i hi
            have q2 := HW8.out i hi
            have q3 := HTR.out i hi
            have HFN : ∃ i' : Nat, i' ≤ 6 ∧ Value.int .i64 ((i : Int) + 1) = .int .i64 (i' : Int) := ⟨i + 1, by omega, by go_num⟩
            cases ht : tl.getD i false
            · rw [ht] at q3
              rw [HK7.out i hi ht] at q1
              generalize s2.kept.getD i Sc.zero64 = y at *
              clear ht
              go_wp2
              go_roundw
              case rel =>
                obtain ⟨i', h1, h2⟩ := HFN
                exact ⟨i', h1, h2, trivial⟩
              case measure => (simp [intOf]) <;> omega
            · rw [ht] at q3
              generalize s2.kept.getD i Sc.zero64 = y at *
              generalize s7.kept.getD i Sc.zero64 = z at *
              clear ht
              go_wp2
              go_roundw
              case rel =>
                obtain ⟨i', h1, h2⟩ := HFN
                exact ⟨i', h1, h2, trivial⟩
              case measure => (simp [intOf]) <;> omega
          · obtain rfl : i = 6 := by omega
            have di : decide (((6 : Nat) : Int) < 6) = false := by decide
            have PN := pending_any g kg v7 s7 _ HD8.out
            have DN := down_any g kg v7 s7 _ HD8.out
            rw [HP7.out] at PN
            rw [HL7.out.down] at DN
            go_wp2_with (first | (go_at_call 11; refine PN.mono ?_; rintro e wS ⟨rfl, rfl⟩) | (go_at_call 12; refine DN.mono ?_; rintro e wS ⟨rfl, rfl⟩) | (go_at_call 17; refine (works_any _).mono ?_; rintro e w9 ⟨rfl, hB9⟩))
            go_ret
            exact ⟨rfl, HBB8.out.trans (hB9.mono HBB8.out.size)⟩
end Go.Proofs.Ytbhbfnnlpkikbaa
