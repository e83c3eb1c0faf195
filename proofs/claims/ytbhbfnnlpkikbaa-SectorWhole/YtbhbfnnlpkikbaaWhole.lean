/- Proved: the law that each sector has something that was written to it whole. -/
import Derived.Test.YtbhbfnnlpkikbaaBegin
import Derived.BigQuiet
namespace Go.Proofs.Ytbhbfnnlpkikbaa
open Go.RowKit
theorem fill_empty : Sc.fill ⟨#[]⟩ = Sc.zero64 := by
  unfold Sc.fill Sc.zero64
  congr 1
theorem own_texts' {w : World} {N n : Nat} {u : Value} {s : Sc.St} (h : w.ownsRow N 9 1 u n (allV s n)) (hn : 0 < n) : ∃ b cap, u = .slice (some ⟨b, 0, none⟩) n cap ∧ N ≤ b ∧ b < w.heap.size ∧ n ≤ cap ∧ ∀ i, i < n → w.cell? ⟨b, i, none⟩ = some (.string (Sc.readV s (i : Int))) := by
  rcases h.2 with ⟨_, h2⟩ | ⟨g, cap, cur, hv, hN, hh, hc, _, hs, ht⟩
  · omega
  · refine ⟨g, cap, hv, hN, (Array.getElem?_eq_some_iff.1 hh).1, hc, fun i hi => ?_⟩
    rw [cell_of_row w g i cur _ (0, 0) hh, ← Array.getElem?_toList]
    have e : (cur.toList.take (n * 1))[i]? = (allV s n)[i]? := by rw [ht]
    rw [List.getElem?_take_of_lt (by omega)] at e
    rw [e, allV, List.getElem?_map, List.getElem?_range hi]
    rfl
theorem read_live {n : Nat} {s : Sc.St} (h : Live n s) (hp : s.pend = []) {i : Nat} (hi : i < n) : Sc.readV s (i : Int) = s.kept.getD i Sc.zero64 := by
  have hh : Sc.has s (i : Int) = true := Sc.has_iff.2 ⟨by omega, by rw [h.len]; omega⟩
  unfold Sc.readV
  rw [h.down, hh]
  simp only [Bool.false_eq_true, Bool.true_eq_false, if_false]
  unfold Sc.now
  rw [hp, Int.toNat_natCast]
  rfl
/- what is to be there, if just what b marks is kept -/
def wants (b : Nat → Bool) (s : Sc.St) : List ByteArray := Sc.keepI b s.pend 0 (List.replicate 4 Sc.zero64)
structure WRel (w : World) (b : Nat → Bool) (g kg wb k : Nat) (v : Value) (s : Sc.St) (wr : World) : Prop where
  dk : Dk wr g kg v s
  lv : Live 4 s
  pn : s.pend.length = k
  dn : s.dn ≤ k
  kp : s.kept = List.replicate 4 Sc.zero64
  row : wr.heap[wb]? = some (.cells ((wants b s).map Value.string).toArray 9 (0, 0))
  nw : wb ∉ foot g kg v
  bel : Below w.heap.size w wr
  abv : ∀ k ∈ foot g kg v, w.heap.size ≤ k
  wbn : w.heap.size ≤ wb
theorem wants_length (b : Nat → Bool) (s : Sc.St) : (wants b s).length = 4 := by unfold wants; rw [Sc.keepI_length]; rfl
theorem wants_put (b : Nat → Bool) (s : Sc.St) (K : Nat) (x : ByteArray) : wants b (Sc.put s K x) = if b s.pend.length then (wants b s).set K (Sc.fill x) else wants b s := by
  unfold wants Sc.put
  simp only
  rw [Sc.keepI_snoc, Nat.zero_add]
/- a round, without the text that is to be there -/
theorem WRel.step {w wr w' : World} {b : Nat → Bool} {g kg wb k K : Nat} {v v' : Value} {s : Sc.St} {x : ByteArray} (h : WRel w b g kg wb k v s wr) (hK : K < 4) (hx : x.size ≤ 64) (hD : Dk w' g kg v' (Sc.writeS s (K : Int) x)) (hT : Turn (foot g kg v) (foot g kg v') wr w') (hb : b k = false) :
    WRel w b g kg wb (k + 1) v' (Sc.writeS s (K : Int) x) w' := by
  obtain ⟨e, hl, _⟩ := h.lv.write (i := (K : Int)) (by omega) (by omega) (x := x) hx
  rw [Int.toNat_natCast] at e
  have hst := Sc.writeS_step s (K : Int) x
  have lt : wb < wr.heap.size := (Array.getElem?_eq_some_iff.1 h.row).1
  refine ⟨hD, hl, by rw [e]; simp [Sc.put, h.pn], by have := hst.dn; have := h.dn; omega, by rw [e]; exact h.kp, ?_, hT.apart (rs := [wb]) (fun k hk => by rw [List.mem_singleton.1 hk]; exact h.nw) (fun k hk => by rw [List.mem_singleton.1 hk]; exact lt) _ (List.mem_singleton.2 rfl), h.bel.trans (hT.below h.abv h.bel.size), hT.above h.abv h.bel.size, h.wbn⟩
  rw [e, wants_put, h.pn, hb, if_neg (by decide)]
  exact (hT.chg.block _ lt h.nw).trans h.row
/- .. with it -/
theorem WRel.mark {w wr w' w'' : World} {b : Nat → Bool} {g kg wb k K : Nat} {v v' : Value} {s : Sc.St} {x : ByteArray} (h : WRel w b g kg wb k v s wr) (hK : K < 4) (hx : x.size ≤ 64) (hD : Dk w' g kg v' (Sc.writeS s (K : Int) x)) (hT : Turn (foot g kg v) (foot g kg v') wr w') (hB : Below w'.heap.size w' w'') (hb : b k = true) :
    WRel w b g kg wb (k + 1) v' (Sc.writeS s (K : Int) x) (w''.setCell ⟨wb, K, none⟩ (.string (Sc.fill x))) := by
  obtain ⟨e, hl, _⟩ := h.lv.write (i := (K : Int)) (by omega) (by omega) (x := x) hx
  rw [Int.toNat_natCast] at e
  have hst := Sc.writeS_step s (K : Int) x
  have lt : wb < wr.heap.size := (Array.getElem?_eq_some_iff.1 h.row).1
  have nw' : wb ∉ foot g kg v' := hT.apart (rs := [wb]) (fun k hk => by rw [List.mem_singleton.1 hk]; exact h.nw) (fun k hk => by rw [List.mem_singleton.1 hk]; exact lt) _ (List.mem_singleton.2 rfl)
  have hbel := h.bel.trans (hT.below h.abv h.bel.size)
  have hsz := hT.chg.size
  refine ⟨(hD.below hB).keep (Chg.setCell _ _ _ _) (fun k hk hm => nw' (by rw [← List.mem_singleton.1 hm]; exact hk)), hl, by rw [e]; simp [Sc.put, h.pn], by have := hst.dn; have := h.dn; omega, by rw [e]; exact h.kp, ?_, nw', (hbel.trans (hB.mono hbel.size)).setCell h.wbn _, hT.above h.abv h.bel.size, h.wbn⟩
  rw [e, wants_put, h.pn, hb, if_pos rfl, heap_setCell_same w'' wb K _ _ _ ((hB.block _ (by omega)).trans ((hT.chg.block _ lt h.nw).trans h.row)), List.setIfInBounds_toArray, List.map_set]
theorem WRel.drewN {w wr : World} {b : Nat → Bool} {g kg wb k : Nat} {v : Value} {s : Sc.St} (h : WRel w b g kg wb k v s wr) (n : Nat) : WRel w b g kg wb k v s (wr.drewN n) :=
  ⟨⟨h.dk.row, h.dk.kept, h.dk.pend, h.dk.gk, h.dk.gp, h.dk.kp, h.dk.ok⟩, h.lv, h.pn, h.dn, h.kp, h.row, h.nw, ⟨h.bel.os, h.bel.tape, h.bel.output, h.bel.size, h.bel.block⟩, h.abv, h.wbn⟩
theorem mod4 (k : Nat) : (k : Int).tmod 4 = ((k % 4 : Nat) : Int) := by
  rw [Int.tmod_eq_emod_of_nonneg (by omega)]
  omega
set_option maxHeartbeats 8000000 in
set_option maxRecDepth 20000 in
theorem whole_walk (a1 : Option Addr) (len1 cap1 : Nat) (l : Nat → ByteArray) (a2 : Option Addr) (len2 cap2 : Nat) (m : Nat → Bool) (w : World) (hS : Strs w a1 len1 l) (_hlc1 : len1 ≤ cap1) (_hcm1 : cap1 ≤ 9223372036854775807) (hB2 : InB w a2 len2 m) (hlc2 : len2 ≤ cap2) (hcm2 : cap2 ≤ 9223372036854775807) :
    Calls Try.prog 6 #[.slice a1 len1 cap1, .slice a2 len2 cap2] w fun e w' => e = .returned (.bool true) ∧ Below w.heap.size w w' := by
  have HST : Hid (Strs w a1 len1 l) := hS
  have HB2 : Hid (InB w a2 len2 m) := hB2
  clear hS hB2
  have HFE : Hid (∀ W : World, Calls Try.prog 25 #[.string ⟨#[]⟩] W fun e w' => e = .returned (.string Sc.zero64) ∧ Below W.heap.size W w') := fun W => by have := fill_any ⟨#[]⟩ W (by decide); rwa [fill_empty] at this
  go_enter Try.func6, Try.ntmps6
  go_wp2_with fail
  refine (new_any 4 w (by omega) (by omega)).mono ?_
  rintro e w0 ⟨g, kg, rfl, hD0, hB0, hg, hkg⟩
  go_wp2_with fail
  refine (HFE.out _).mono ?_
  rintro e w1 ⟨rfl, hB1⟩
  go_wp2_with fail
  refine (HFE.out _).mono ?_
  rintro e w2 ⟨rfl, hB2⟩
  go_wp2_with fail
  refine (HFE.out _).mono ?_
  rintro e w3 ⟨rfl, hB3⟩
  go_wp2_with fail
  refine (HFE.out _).mono ?_
  rintro e w4 ⟨rfl, hB4⟩
  have hT : Below w0.heap.size w0 w4 := hB1.trans ((hB2.trans ((hB3.trans (hB4.mono hB3.size)).mono hB2.size)).mono hB1.size)
  have HR0 : Hid (WRel w (marks len2 m) g kg w4.heap.size 0 (.slice none 0 0) (Sc.made 4) (w4.alloc (.cells #[.string Sc.zero64, .string Sc.zero64, .string Sc.zero64, .string Sc.zero64] 9))) := by
    have hb : Below w.heap.size w w4 := hB0.trans (hT.mono hB0.size)
    refine ⟨(hD0.below hT).alloc _, ⟨rfl, rfl, rfl⟩, rfl, Nat.le_refl 0, rfl, heap_alloc_new _ _, fun h => ?_, hb.alloc hb.size _, fun k hk => ?_, hb.size⟩
    · have := (hD0.below hT).lt _ h
      omega
    · simp [foot, Value.ownBlock] at hk
      omega
  have hw4 : w.heap.size ≤ w4.heap.size := (hB0.trans (hT.mono hB0.size)).size
  clear hD0 hB0 hg hkg hB1 hB2 hB3 hB4 hT HFE
  go_wp2_with fail
  generalize World.alloc w4 _ = w5 at *
  generalize w4.heap.size = wb at *
  go_loopw [8] (fun s8 wr => ∃ k v s, k ≤ 30 ∧ k ≤ len1 ∧ s8 = .int .i64 (k : Int) ∧ WRel w (marks len2 m) g kg wb k v s wr) (fun s8 _ => 30 - (intOf s8).toNat)
  case atStart => exact ⟨0, _, _, by omega, by omega, rfl, HR0.out⟩
  case round =>
    obtain ⟨k, v, s, hk30, hkl, rfl, hR⟩ := hrel
    have HR : Hid (WRel w (marks len2 m) g kg wb k v s wr) := hR
    clear hR HR0
    by_cases hin : k < len1 ∧ k < 30
    · obtain ⟨hl1, hl2⟩ := hin
      have d1 : decide ((k : Int) < (len1 : Int)) = true := by simp; omega
      have d2 : decide ((k : Int) < 30) = true := by simp; omega
      have k0 : (0 : Int) ≤ (k : Int) := by omega
      have k1 : (k : Int) < (len1 : Int) := by omega
      obtain ⟨b, off, rfl, hc⟩ : ∃ b off, a1 = some ⟨b, off, none⟩ ∧ ∀ i, i < len1 → w.cell? ⟨b, off + i, none⟩ = some (.string (l i)) ∧ (l i).size ≤ 9223372036854775807 := by
        rcases HST.out with h | h
        · omega
        · exact h
      have c0 : wr.cell? ⟨b, off + k, none⟩ = some (.string (l k)) := (HR.out.bel.cell (p := ⟨b, off + k, none⟩) (block_lt_of_cell (hc k hl1).1)).trans (hc k hl1).1
      clear hc
      generalize l k = sx at *
      obtain ⟨n, hn1, hn2, hnm⟩ := cut_min sx.size 64
      rw [show ((64 : Nat) : Int) = 64 from rfl] at hnm
      have hcs : (sx.extract 0 n).size = n := cut_size sx n hn1
      have n0 : (0 : Int) ≤ (n : Int) := by omega
      have n1 : (n : Int) ≤ (sx.size : Int) := by omega
      go_wp2_with fail
      go_quiet (fail)
      have HR6 : Hid (WRel w (marks len2 m) g kg wb k v s (wr.drewN nq)) := HR.out.drewN nq
      clear c0 HR
      generalize wr.drewN nq = w6 at *
      obtain ⟨K, hK⟩ : ∃ K, K = k % 4 := ⟨_, rfl⟩
      have hm4 : (k : Int).tmod 4 = (K : Int) := by rw [hK]; exact mod4 k
      have hK4 : K < 4 := by omega
      clear hK
      have HW := write_any g kg v s (K : Int) (sx.extract 0 n) w6 HR6.out.dk (by have := HR6.out.dn; omega) (by have := HR6.out.pn; omega)
      rw [(HR6.out.lv.write (i := (K : Int)) (by omega) (by omega) (x := sx.extract 0 n) (by omega)).2.2] at HW
      go_wp2_with fail
      refine HW.mono ?_
      rintro e w7 ⟨v7, rfl, hD7, hT7⟩
      have HD7 : Hid (Dk w7 g kg v7 (Sc.writeS s (K : Int) (sx.extract 0 n))) := hD7
      have HT7 : Hid (Turn (foot g kg v) (foot g kg v7) w6 w7) := hT7
      clear hD7 hT7 HW
      by_cases hlt : k < len2
      · have dl : decide ((k : Int) < (len2 : Int)) = true := by simp; omega
        have l1 : (k : Int) < (len2 : Int) := by omega
        obtain ⟨bb, boff, rfl, hbc⟩ : ∃ b off, a2 = some ⟨b, off, none⟩ ∧ ∀ i, i < len2 → w.cell? ⟨b, off + i, none⟩ = some (.bool (m i)) := by
          rcases HB2.out with h | h
          · omega
          · exact h
        have HBE : Hid (Below w.heap.size w w7) := HR6.out.bel.trans (HT7.out.below HR6.out.abv HR6.out.bel.size)
        have hbk : w7.cell? ⟨bb, boff + k, none⟩ = some (.bool (m k)) := (HBE.out.cell (p := ⟨bb, boff + k, none⟩) (block_lt_of_cell (hbc k hlt))).trans (hbc k hlt)
        clear hbc
        cases hm : m k
        · rw [hm] at hbk
          have HFN : Hid (∃ k' v s, k' ≤ 30 ∧ k' ≤ len1 ∧ Value.int .i64 ((k : Int) + 1) = .int .i64 (k' : Int) ∧ WRel w (marks len2 m) g kg wb k' v s w7) := ⟨k + 1, _, _, by omega, by omega, by go_num, HR6.out.step hK4 (by omega) HD7.out HT7.out (by unfold marks; rw [hm, Bool.and_false])⟩
          go_wp2
          go_roundw
          case rel => first | exact HFN.out | ((repeat apply Exists.intro); exact ⟨HFN.out, rfl⟩)
          case measure => (simp [intOf]) <;> omega
        · rw [hm] at hbk
          have HFI := fill_any (sx.extract 0 n) w7 (by omega)
          go_wp2_with fail
          refine HFI.mono ?_
          rintro e w8 ⟨rfl, hB8⟩
          have HN : Hid (WRel w (marks len2 m) g kg wb (k + 1) v7 (Sc.writeS s (K : Int) (sx.extract 0 n)) (w8.setCell ⟨wb, K, none⟩ (.string (Sc.fill (sx.extract 0 n))))) := HR6.out.mark hK4 (by omega) HD7.out HT7.out hB8 (by unfold marks; rw [hm, Bool.and_true]; simpa using hlt)
          have hrow : w8.heap[wb]? = some (.cells ((wants (marks len2 m) s).map Value.string).toArray 9 (0, 0)) := by
            have lt : wb < w6.heap.size := (Array.getElem?_eq_some_iff.1 HR6.out.row).1
            have := HT7.out.chg.size
            exact (hB8.block _ (by omega)).trans ((HT7.out.chg.block _ lt HR6.out.nw).trans HR6.out.row)
          have ct : w8.cell? ⟨wb, K, none⟩ = some (.string ((wants (marks len2 m) s).getD K Sc.zero64)) := by
            rw [cell_of_row _ _ _ _ _ (0, 0) hrow, List.getElem?_toArray, List.getElem?_map, List.getD_eq_getElem?_getD, List.getElem?_eq_getElem (by rw [wants_length]; exact hK4)]
            rfl
          have ft : w8.frozen? ⟨wb, K, none⟩ = false := frozen_of_row _ _ _ _ _ hrow
          have K0 : (0 : Int) ≤ (K : Int) := by omega
          have K1 : (K : Int) < 4 := by omega
          have HFN : Hid (∃ k' v s, k' ≤ 30 ∧ k' ≤ len1 ∧ Value.int .i64 ((k : Int) + 1) = .int .i64 (k' : Int) ∧ WRel w (marks len2 m) g kg wb k' v s (w8.setCell ⟨wb, K, none⟩ (.string (Sc.fill (sx.extract 0 n))))) := ⟨k + 1, _, _, by omega, by omega, by go_num, HN.out⟩
          clear hrow hB8 HN HFI
          generalize Sc.fill (sx.extract 0 n) = fx at *
          generalize (wants (marks len2 m) s).getD K Sc.zero64 = old at *
          go_wp2
          go_roundw
          case rel => first | exact HFN.out | ((repeat apply Exists.intro); exact ⟨HFN.out, rfl⟩)
          case measure => (simp [intOf]) <;> omega
      · have dl : decide ((k : Int) < (len2 : Int)) = false := by simp; omega
        have HFN : Hid (∃ k' v s, k' ≤ 30 ∧ k' ≤ len1 ∧ Value.int .i64 ((k : Int) + 1) = .int .i64 (k' : Int) ∧ WRel w (marks len2 m) g kg wb k' v s w7) := ⟨k + 1, _, _, by omega, by omega, by go_num, HR6.out.step hK4 (by omega) HD7.out HT7.out (by unfold marks; simp [hlt])⟩
        go_wp2
        go_roundw
        case rel => first | exact HFN.out | ((repeat apply Exists.intro); exact ⟨HFN.out, rfl⟩)
        case measure => (simp [intOf]) <;> omega
    · by_cases hl1 : k < len1
      · have d1 : decide ((k : Int) < (len1 : Int)) = true := by simp; omega
        have d2 : decide ((k : Int) < 30) = false := by simp; omega
        have hk3 : ¬ k < 30 := by omega
        have hdw : s.down = false := HR.out.lv.down
        have OFF := off_any g kg v s wr HR.out.dk
        rw [show Sc.liveE s = 0 by unfold Sc.liveE; rw [hdw]; rfl, show Sc.offS s = Sc.fell s by unfold Sc.offS; rw [hdw]; rfl] at OFF
        go_wp2_with fail
        refine OFF.mono ?_
        rintro e w6 ⟨v6, rfl, hD6, hT6⟩
        have HB6 : Hid (Below w.heap.size w w6) := HR.out.bel.trans (hT6.below HR.out.abv HR.out.bel.size)
        have HAB6 : Hid (∀ k ∈ foot g kg v6, w.heap.size ≤ k) := hT6.above HR.out.abv HR.out.bel.size
        have ON := on_any g kg v6 (Sc.fell s) a2 len2 cap2 m w6 hD6 (HB2.out.bools HB6.out HAB6.out) hlc2 hcm2
        rw [show Sc.onE (Sc.fell s) = 0 from rfl, show Sc.onS (Sc.fell s) (marks len2 m) = Sc.back (Sc.fell s) (marks len2 m) from rfl] at ON
        have HT6 : Hid (Turn (foot g kg v) (foot g kg v6) wr w6) := hT6
        clear hD6 hT6 OFF
        go_wp2_with fail
        refine ON.mono ?_
        rintro e w7 ⟨v7, rfl, hD7, hT7⟩
        have HT7 : Hid (Turn (foot g kg v) (foot g kg v7) wr w7) := HT6.out.trans hT7
        have HB7 : Hid (Below w.heap.size w w7) := HB6.out.trans (hT7.below HAB6.out HB6.out.size)
        have HL7 : Hid (Live 4 (Sc.back (Sc.fell s) (marks len2 m))) := ⟨rfl, rfl, by show (Sc.keepI _ _ _ _).length = 4; rw [Sc.keepI_length]; exact HR.out.lv.len⟩
        have HK7 : Hid ((Sc.back (Sc.fell s) (marks len2 m)).kept = wants (marks len2 m) s) := by
          show Sc.keepI (marks len2 m) s.pend 0 s.kept = _
          rw [HR.out.kp]
          rfl
        have HP7 : Hid ((Sc.back (Sc.fell s) (marks len2 m)).pend = []) := rfl
        generalize Sc.back (Sc.fell s) (marks len2 m) = s7 at *
        have ALL := all_any g kg v7 s7 w7 hD7
        rw [HL7.out.len] at ALL
        clear hD7 hT7 ON HT6 HB6 HAB6
        go_wp2_with fail
        refine ALL.mono ?_
        rintro e w8 ⟨u8, rfl, hO8, hB8⟩
        obtain ⟨b8, uc8, rfl, hb8, hb8', huc8, hwas8⟩ := own_texts' hO8 (by omega)
        have HBB8 : Hid (Below w.heap.size w w8) := HB7.out.trans (hB8.mono HB7.out.size)
        have HC8 : Hid (∀ i, i < 4 → w8.cell? ⟨b8, i, none⟩ = some (.string ((wants (marks len2 m) s).getD i Sc.zero64))) := fun i hi => by rw [hwas8 i hi, read_live HL7.out HP7.out hi, HK7.out]
        have HT8 : Hid (Turn (foot g kg v) (foot g kg v7) wr w8) := HT7.out.trans (Turn.of_below hB8)
        have HW8 : Hid (∀ i, i < 4 → w8.cell? ⟨wb, i, none⟩ = some (.string ((wants (marks len2 m) s).getD i Sc.zero64))) := fun i hi => by
          rw [cell_of_row _ _ _ _ _ (0, 0) ((HT8.out.chg.block _ (Array.getElem?_eq_some_iff.1 HR.out.row).1 HR.out.nw).trans HR.out.row), List.getElem?_toArray, List.getElem?_map, List.getD_eq_getElem?_getD, List.getElem?_eq_getElem (by rw [wants_length]; exact hi)]
          rfl
        clear hO8 hB8 hwas8 ALL HB7 HT7 HT8 HR HK7 HP7 HL7
        go_wp2_with fail
        go_loopw [79] (fun s79 wq => ∃ i : Nat, i ≤ 4 ∧ s79 = .int .i64 (i : Int) ∧ wq = w8) (fun s79 _ => 4 - (intOf s79).toNat)
        case atStart => exact ⟨0, by omega, rfl, rfl⟩
        case round =>
          obtain ⟨i, hi4, rfl, hwq⟩ := hrel
          subst hwq
          by_cases hi : i < 4
          · have di : decide ((i : Int) < 4) = true := by simp; omega
            have i0 : (0 : Int) ≤ (i : Int) := by omega
            have i1 : (i : Int) < 4 := by omega
            have q1 := HC8.out i hi
            have q2 := HW8.out i hi
            have HFN : ∃ i' : Nat, i' ≤ 4 ∧ Value.int .i64 ((i : Int) + 1) = .int .i64 (i' : Int) := ⟨i + 1, by omega, by go_num⟩
            generalize (wants (marks len2 m) s).getD i Sc.zero64 = y at *
            go_wp2
            go_roundw
            case rel =>
              obtain ⟨i', h1, h2⟩ := HFN
              exact ⟨i', h1, h2, trivial⟩
            case measure => (simp [intOf]) <;> omega
          · obtain rfl : i = 4 := by omega
            have di : decide (((4 : Nat) : Int) < 4) = false := by decide
            go_wp2_with (go_at_call 17; refine (works_any _).mono ?_; rintro e w9 ⟨rfl, hB9⟩)
            go_ret
            exact ⟨rfl, HBB8.out.trans (hB9.mono HBB8.out.size)⟩
      · have d1 : decide ((k : Int) < (len1 : Int)) = false := by simp; omega
        have hdw : s.down = false := HR.out.lv.down
        have OFF := off_any g kg v s wr HR.out.dk
        rw [show Sc.liveE s = 0 by unfold Sc.liveE; rw [hdw]; rfl, show Sc.offS s = Sc.fell s by unfold Sc.offS; rw [hdw]; rfl] at OFF
        go_wp2_with fail
        refine OFF.mono ?_
        rintro e w6 ⟨v6, rfl, hD6, hT6⟩
        have HB6 : Hid (Below w.heap.size w w6) := HR.out.bel.trans (hT6.below HR.out.abv HR.out.bel.size)
        have HAB6 : Hid (∀ k ∈ foot g kg v6, w.heap.size ≤ k) := hT6.above HR.out.abv HR.out.bel.size
        have ON := on_any g kg v6 (Sc.fell s) a2 len2 cap2 m w6 hD6 (HB2.out.bools HB6.out HAB6.out) hlc2 hcm2
        rw [show Sc.onE (Sc.fell s) = 0 from rfl, show Sc.onS (Sc.fell s) (marks len2 m) = Sc.back (Sc.fell s) (marks len2 m) from rfl] at ON
        have HT6 : Hid (Turn (foot g kg v) (foot g kg v6) wr w6) := hT6
        clear hD6 hT6 OFF
        go_wp2_with fail
        refine ON.mono ?_
        rintro e w7 ⟨v7, rfl, hD7, hT7⟩
        have HT7 : Hid (Turn (foot g kg v) (foot g kg v7) wr w7) := HT6.out.trans hT7
        have HB7 : Hid (Below w.heap.size w w7) := HB6.out.trans (hT7.below HAB6.out HB6.out.size)
        have HL7 : Hid (Live 4 (Sc.back (Sc.fell s) (marks len2 m))) := ⟨rfl, rfl, by show (Sc.keepI _ _ _ _).length = 4; rw [Sc.keepI_length]; exact HR.out.lv.len⟩
        have HK7 : Hid ((Sc.back (Sc.fell s) (marks len2 m)).kept = wants (marks len2 m) s) := by
          show Sc.keepI (marks len2 m) s.pend 0 s.kept = _
          rw [HR.out.kp]
          rfl
        have HP7 : Hid ((Sc.back (Sc.fell s) (marks len2 m)).pend = []) := rfl
        generalize Sc.back (Sc.fell s) (marks len2 m) = s7 at *
        have ALL := all_any g kg v7 s7 w7 hD7
        rw [HL7.out.len] at ALL
        clear hD7 hT7 ON HT6 HB6 HAB6
        go_wp2_with fail
        refine ALL.mono ?_
        rintro e w8 ⟨u8, rfl, hO8, hB8⟩
        obtain ⟨b8, uc8, rfl, hb8, hb8', huc8, hwas8⟩ := own_texts' hO8 (by omega)
        have HBB8 : Hid (Below w.heap.size w w8) := HB7.out.trans (hB8.mono HB7.out.size)
        have HC8 : Hid (∀ i, i < 4 → w8.cell? ⟨b8, i, none⟩ = some (.string ((wants (marks len2 m) s).getD i Sc.zero64))) := fun i hi => by rw [hwas8 i hi, read_live HL7.out HP7.out hi, HK7.out]
        have HT8 : Hid (Turn (foot g kg v) (foot g kg v7) wr w8) := HT7.out.trans (Turn.of_below hB8)
        have HW8 : Hid (∀ i, i < 4 → w8.cell? ⟨wb, i, none⟩ = some (.string ((wants (marks len2 m) s).getD i Sc.zero64))) := fun i hi => by
          rw [cell_of_row _ _ _ _ _ (0, 0) ((HT8.out.chg.block _ (Array.getElem?_eq_some_iff.1 HR.out.row).1 HR.out.nw).trans HR.out.row), List.getElem?_toArray, List.getElem?_map, List.getD_eq_getElem?_getD, List.getElem?_eq_getElem (by rw [wants_length]; exact hi)]
          rfl
        clear hO8 hB8 hwas8 ALL HB7 HT7 HT8 HR HK7 HP7 HL7
        go_wp2_with fail
        go_loopw [79] (fun s79 wq => ∃ i : Nat, i ≤ 4 ∧ s79 = .int .i64 (i : Int) ∧ wq = w8) (fun s79 _ => 4 - (intOf s79).toNat)
        case atStart => exact ⟨0, by omega, rfl, rfl⟩
        case round =>
          obtain ⟨i, hi4, rfl, hwq⟩ := hrel
          subst hwq
          by_cases hi : i < 4
          · have di : decide ((i : Int) < 4) = true := by simp; omega
            have i0 : (0 : Int) ≤ (i : Int) := by omega
            have i1 : (i : Int) < 4 := by omega
            have q1 := HC8.out i hi
            have q2 := HW8.out i hi
            have HFN : ∃ i' : Nat, i' ≤ 4 ∧ Value.int .i64 ((i : Int) + 1) = .int .i64 (i' : Int) := ⟨i + 1, by omega, by go_num⟩
            generalize (wants (marks len2 m) s).getD i Sc.zero64 = y at *
            go_wp2
            go_roundw
            case rel =>
              obtain ⟨i', h1, h2⟩ := HFN
              exact ⟨i', h1, h2, trivial⟩
            case measure => (simp [intOf]) <;> omega
          · obtain rfl : i = 4 := by omega
            have di : decide (((4 : Nat) : Int) < 4) = false := by decide
            go_wp2_with (go_at_call 17; refine (works_any _).mono ?_; rintro e w9 ⟨rfl, hB9⟩)
            go_ret
            exact ⟨rfl, HBB8.out.trans (hB9.mono HBB8.out.size)⟩
end Go.Proofs.Ytbhbfnnlpkikbaa
