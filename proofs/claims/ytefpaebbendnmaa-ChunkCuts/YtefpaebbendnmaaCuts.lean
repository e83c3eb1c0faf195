/- Proved: the law ChunkCuts answers true, whatever comes in. -/
import Derived.Test.YtefpaebbendnmaaCutsH
namespace Go.Proofs.Ytefpaebbendnmaa
open Go.RowKit
open Ck (T bnd cntZ chunks joinT joinE)
set_option maxHeartbeats 8000000 in
set_option maxRecDepth 20000 in
theorem cuts_walk (s : ByteArray) (ad : Option Addr) (len cap : Nat) (l : List T) (x y : Int) (w : World) (hs : s.size ≤ 9223372036854775807) (hl : l.length = len) (hT : Txts w (.slice ad len cap) l) (_hz : ∀ t ∈ l, t.length ≤ 9223372036854775807) (hx : -9223372036854775808 ≤ x ∧ x ≤ 9223372036854775807) (hy : -9223372036854775808 ≤ y ∧ y ≤ 9223372036854775807) :
    Calls Try.prog 3 #[.string s, .slice ad len cap, .agg #[.int .i64 x, .int .i64 y]] w fun e w' => e = .returned (.bool true) ∧ Below w.heap.size w w' := by
  subst hl
  obtain ⟨hx1, hx2⟩ := hx
  obtain ⟨hy1, hy2⟩ := hy
  have HF := (show Hid _ from fun W => few_any s W hs)
  have hz1 := fewT_size s
  generalize fewT s = S at *
  have hT0 := hT
  obtain ⟨ad', cap', hv', hc1, hc2, hcell⟩ := hT.sl
  obtain ⟨rfl, _, rfl⟩ : ad = ad' ∧ l.length = l.length ∧ cap = cap' := by simpa using hv'
  have HV := (show Hid _ from hcell)
  clear hv' hcell hT hT0
  have HB := (show Hid _ from fun W => bounds_any x y W hx2 hy1 hy2)
  have HRB := (show Hid _ from fun W => rbounds_any x y W hx2 hy1 hy2)
  have HC := (show Hid _ from fun W => count_any x W hx2)
  have HRC := (show Hid _ from fun W => rcount_any x W hx2)
  have HJ := (show Hid _ from fun W v (h : Txts W v (few2 l 70)) => join_any v (few2 l 70) x W h hx2)
  have HRJ := (show Hid _ from fun W v (h : Txts W v (few2 l 70)) => rjoin_any v (few2 l 70) x W h (by rw [few2_length]; omega) (few2_short l 70))
  have HS1 := (show Hid _ from fun W => split_any S W (by omega))
  have HS2 := (show Hid _ from fun W => rsplit_any S W (by omega))
  have HX := (show Hid _ from fun W => works_any W)
  have HST : Hid (∀ W v1 v2, Txts W v1 (chunks (bl S)) → Txts W v2 (chunks (bl S)) → Calls Try.prog 13 #[v1, v2] W fun e w' => e = .returned (.bool true) ∧ Below W.heap.size W w') := fun W v1 v2 h1 h2 => by
    have h := rtexts_any v1 v2 _ _ W h1 h2
    rwa [show (chunks (bl S) == chunks (bl S)) = true by simp] at h
  generalize hM : few2 l 70 = M at *
  have HM : Is (few2 l 70) M := ⟨hM⟩
  clear hM
  generalize mk (joinT M x) = J at *
  generalize joinE M x = je at *
  generalize cntZ x = cn at *
  generalize (bnd x y).1 = b1 at *
  generalize (bnd x y).2 = b2 at *
  generalize chunks (bl S) = C at *
  have q1 := seq J
  have HB0 : Hid (Below w.heap.size w (w.alloc (.cells #[.int .i64 x, .int .i64 y] 23))) := (Below.refl _ _).alloc (Nat.le_refl _) _
  have HZ0 : Hid ((w.alloc (.cells #[.int .i64 x, .int .i64 y] 23)).heap.size = w.heap.size + 1) := by show _ = _; simp
  have C0 : (w.alloc (.cells #[.int .i64 x, .int .i64 y] 23)).cell? ⟨w.heap.size, 0, none⟩ = some (.int .i64 x) := by rw [cell_of_row _ _ _ _ _ _ (heap_alloc_new w _)]; rfl
  have C1 : (w.alloc (.cells #[.int .i64 x, .int .i64 y] 23)).cell? ⟨w.heap.size, 1, none⟩ = some (.int .i64 y) := by rw [cell_of_row _ _ _ _ _ _ (heap_alloc_new w _)]; rfl
  go_enter Try.func3, Try.ntmps3
  go_wp2_with fail
  generalize w.alloc (.cells #[.int .i64 x, .int .i64 y] 23) = w0 at *
  refine (HF.out w0).mono ?_
  rintro e wS ⟨rfl, hwS⟩
  rw [hwS]
  clear hwS wS HF
  go_wp2_with fail
  go_loopw [7, 8] (fun s7 s8 wr => ∃ k : Nat, k ≤ l.length ∧ k ≤ 70 ∧ s8 = .int .i64 (k : Int) ∧ OwnT wr w0.heap.size s7 (few2 l k) ∧ Below w0.heap.size w0 wr) (fun _ s8 _ => 70 - (intOf s8).toNat)
  case atStart => exact ⟨0, by omega, by omega, rfl, World.ownsRow_nil _ _ _ _, Below.refl _ _⟩
  case round =>
    obtain ⟨k, hk, hk70, rfl, hO, hB⟩ := hrel
    have HO : Hid (OwnT wr w0.heap.size u7 (few2 l k)) := hO
    have HBL : Hid (Below w0.heap.size w0 wr) := hB
    have D0 : wr.cell? ⟨w.heap.size, 0, none⟩ = some (.int .i64 x) := (hB.cell (p := ⟨w.heap.size, 0, none⟩) (by have := HZ0.out; show w.heap.size < _; omega)).trans C0
    have D1 : wr.cell? ⟨w.heap.size, 1, none⟩ = some (.int .i64 y) := (hB.cell (p := ⟨w.heap.size, 1, none⟩) (by have := HZ0.out; show w.heap.size < _; omega)).trans C1
    have hsz := hB.size
    obtain ⟨ad3, c3, hv3⟩ := own_slice hO
    subst hv3
    clear hO hB
    by_cases hlt : k < l.length ∧ k < 70
    · obtain ⟨hln, hl70⟩ := hlt
      have i0 : (k : Int) < (l.length : Int) := by omega
      have d0 : decide ((k : Int) < (l.length : Int)) = true := decide_eq_true i0
      have i1 : (k : Int) < 70 := by omega
      have j0 : (0 : Int) ≤ (k : Int) := Int.natCast_nonneg _
      obtain ⟨b, off, rfl, hbl, hc⟩ := HV.out (by omega)
      obtain ⟨t, ht⟩ : ∃ t, l[k]? = some t := ⟨_, List.getElem?_eq_getElem hln⟩
      have hb0 : b < w0.heap.size := by have := HZ0.out; omega
      have hbr : b < wr.heap.size := by omega
      have HC0 : Hid (wr.cell? ⟨b, off + k, none⟩ = some (.string (mk t))) := (HBL.out.cell (p := ⟨b, off + k, none⟩) hb0).trans ((HB0.out.cell (p := ⟨b, off + k, none⟩) hbl).trans (hc k t ht))
      have HNX : Is (few2 l (k + 1)) (few2 l k ++ [t.take 70]) := ⟨few2_next ht⟩
      have hX := cut70 t
      have hfl : (few2 l k).length ≤ 1000000 := by rw [few2_length]; omega
      have HFL : Hid ((few2 l k).length ≤ 1000000) := hfl
      clear hc ht hfl D0 D1
      generalize few2 l k = st at *
      generalize hxt : t.take 70 = xt at *
      clear hxt
      generalize mk t = sx at *
      have HXX : Hid (sx.extract 0 (min (sx.size : Int) 70).toNat = mk xt) := hX
      clear hX
      obtain ⟨m, hm⟩ : ∃ m : Nat, (if (70 : Int) < (sx.size : Int) then (70 : Int) else (sx.size : Int)) = (m : Int) := by
        by_cases h : (70 : Int) < (sx.size : Int)
        · exact ⟨70, by rw [if_pos h]; rfl⟩
        · exact ⟨sx.size, by rw [if_neg h]⟩
      have hmm : (min (sx.size : Int) 70).toNat = m := by
        split at hm <;> omega
      have m0 : (0 : Int) ≤ (m : Int) := by omega
      have m1 : (m : Int) ≤ (sx.size : Int) := by omega
      have HXM : Hid (sx.extract 0 m = mk xt) := by
        have h := HXX.out
        rwa [hmm] at h
      clear HXX hmm
      go_wp2_with fail
      go_region_held3 (fun w' => w'.cell? ⟨b, off + k, none⟩ = some (.string sx))
        (first | exact HC0.out | assumption | exact one_cell_new (by exact HC0.out) (show b < _ by omega) _ | exact one_cell_below (by first | exact one_cell_new (W := wr) HC0.out (show b < _ by omega) _ | exact one_cell_new (W := wr.drew) HC0.out (show b < _ by omega) _) (show b < w0.heap.size from hb0) hB')
        (first | (refine step_append_str rfl (.tmp 29) (.tmp 41) rfl w0.heap.size _ st xt rfl (own_below HO.out (by first | exact ((Below.refl _ _).alloc (Nat.le_refl _) _).drew | exact ((Below.refl _ _).drew).alloc (Nat.le_refl _) _)) ⟨wr.heap.size, 0, none⟩ 1 rfl (by rw [HXM.out]; exact one_new wr _ _) HFL.out (by simp; omega) ?_; intro v' w' hO' hB'))
      have HFN : ∃ k' : Nat, k' ≤ l.length ∧ k' ≤ 70 ∧ Value.int .i64 ((k : Int) + 1) = .int .i64 (k' : Int) ∧ OwnT w' w0.heap.size v' (few2 l k') ∧ Below w0.heap.size w0 w' :=
        ⟨k + 1, by omega, by omega, by go_num, by rw [HNX.eq]; exact hO', HBL.out.trans ((((Below.refl _ _).alloc (Nat.le_refl _) _).drew.mono hsz).trans hB')⟩
      go_wp2
      go_roundw
      case rel => first | exact HFN | ((repeat apply Exists.intro); exact ⟨HFN, rfl⟩)
      case measure => (simp [intOf]) <;> omega
    · by_cases hge : l.length ≤ k
      · have HMM : Is M (few2 l k) := ⟨by rw [← HM.eq]; exact few2_all (by omega) (by omega)⟩
        have i0 : ¬ (k : Int) < (l.length : Int) := by omega
        have d0 : decide ((k : Int) < (l.length : Int)) = false := decide_eq_false i0
        have hML : M.length ≤ 70 := by rw [HMM.eq, few2_length]; omega
        have HT : Hid (Txts wr (.slice ad3 (few2 l k).length c3) M) := by rw [HMM.eq]; exact OwnT.txts HO.out
        rw [← HMM.eq] at HO
        rw [← HMM.eq] at HT ⊢
        have hh0 : w.heap.size < wr.heap.size := by have := HZ0.out; omega
        clear HMM HV hlt
        go_wp2_with (first
          | (go_at_call 9; refine (HB.out _).mono ?_; rintro e w1 ⟨rfl, rfl⟩)
          | (go_at_call 10; refine (HRB.out _).mono ?_; rintro e w1 ⟨rfl, rfl⟩)
          | (go_at_call 11
             refine (HJ.out _ _ HT.out).mono ?_
             rintro e w2 ⟨rfl, hB⟩
             have HT2 := (show Hid _ from HT.out.below hB)
             have HB2 := (show Hid _ from hB)
             have E0 := (hB.cell (p := ⟨w.heap.size, 0, none⟩) hh0).trans D0
             clear hB HT HJ D0 D1)
          | (go_at_call 12
             refine (HRJ.out _ _ HT2.out).mono ?_
             rintro e w3 ⟨rfl, hB⟩
             have HB3 := (show Hid _ from hB)
             have G0 := (hB.cell (p := ⟨w.heap.size, 0, none⟩) (Nat.lt_of_lt_of_le hh0 HB2.out.size)).trans E0
             clear hB HT2 HRJ E0))
        have HB4 : Hid (Below w.heap.size w w3) := (HB0.out.trans (HBL.out.mono (by have := HZ0.out; omega))).trans ((HB2.out.mono (by omega)).trans (HB3.out.mono (by have := HB2.out.size; omega)))
        have hh3 : w.heap.size < w3.heap.size := by have := HB2.out.size; have := HB3.out.size; omega
        clear HB2 HB3 HBL HB0 HO
        go_region_held3 (fun w' => w'.cell? ⟨w.heap.size, 0, none⟩ = some (.int .i64 x))
          (first | exact G0 | assumption)
          (first
            | (go_at_call 14
               refine (HS1.out _).mono ?_
               rintro e w4 ⟨v4, rfl, hO4, hB4⟩
               have I0 : w4.cell? ⟨w.heap.size, 0, none⟩ = some (.int .i64 x) := (hB4.cell (p := ⟨w.heap.size, 0, none⟩) (by exact hh3)).trans (by exact G0)
               have hh4 : w.heap.size < w4.heap.size := Nat.lt_of_lt_of_le (by exact hh3) hB4.size)
            | (go_at_call 15
               refine (HS2.out _).mono ?_
               rintro e w5 ⟨v5, rfl, hO5, hB5⟩
               have K0 : w5.cell? ⟨w.heap.size, 0, none⟩ = some (.int .i64 x) := (hB5.cell (p := ⟨w.heap.size, 0, none⟩) (by exact hh4)).trans (by exact I0)
               have hh5 : w.heap.size < w5.heap.size := Nat.lt_of_lt_of_le (by exact hh4) hB5.size)
            | (go_at_call 13
               refine (HST.out _ _ _ (hO4.txts.below (by exact hB5)) hO5.txts).mono ?_
               rintro e w6 ⟨rfl, hB6⟩
               have L0 : w6.cell? ⟨w.heap.size, 0, none⟩ = some (.int .i64 x) := (hB6.cell (p := ⟨w.heap.size, 0, none⟩) (by exact hh5)).trans (by exact K0))
            | (go_at_call 16; refine (HC.out _).mono ?_; rintro e wC ⟨rfl, rfl⟩)
            | (go_at_call 17; refine (HRC.out _).mono ?_; rintro e wC ⟨rfl, rfl⟩)
            | (go_at_call 18; refine (HX.out _).mono ?_; rintro e w7 ⟨rfl, hB7⟩; have N0 : w7.cell? ⟨w.heap.size, 0, none⟩ = some (.int .i64 x) := (hB7.cell (p := ⟨w.heap.size, 0, none⟩) (Nat.lt_of_lt_of_le (by exact hh5) hB6.size)).trans (by exact L0)))
        have HN4 := below_next HB4.out.drew hB4 (show w.heap.size ≤ w3.heap.size by omega)
        have HN5 := below_next HN4 hB5 (by omega)
        have HN6 := below_next HN5 hB6 (by omega)
        have HN7 := (show Hid _ from below_next HN6 hB7 (by have := hB6.size; omega))
        go_wp2
        go_ret
        exact ⟨rfl, HN7.out⟩
      · have HMM : Is M (few2 l k) := ⟨by rw [← HM.eq]; rw [show k = 70 by omega]⟩
        have i0 : (k : Int) < (l.length : Int) := by omega
        have d0 : decide ((k : Int) < (l.length : Int)) = true := decide_eq_true i0
        have i1 : ¬ (k : Int) < 70 := by omega
        have d1 : decide ((k : Int) < 70) = false := decide_eq_false i1
        have hML : M.length ≤ 70 := by rw [HMM.eq, few2_length]; omega
        have HT : Hid (Txts wr (.slice ad3 (few2 l k).length c3) M) := by rw [HMM.eq]; exact OwnT.txts HO.out
        rw [← HMM.eq] at HO
        rw [← HMM.eq] at HT ⊢
        have hh0 : w.heap.size < wr.heap.size := by have := HZ0.out; omega
        clear HMM HV hlt
        go_wp2_with (first
          | (go_at_call 9; refine (HB.out _).mono ?_; rintro e w1 ⟨rfl, rfl⟩)
          | (go_at_call 10; refine (HRB.out _).mono ?_; rintro e w1 ⟨rfl, rfl⟩)
          | (go_at_call 11
             refine (HJ.out _ _ HT.out).mono ?_
             rintro e w2 ⟨rfl, hB⟩
             have HT2 := (show Hid _ from HT.out.below hB)
             have HB2 := (show Hid _ from hB)
             have E0 := (hB.cell (p := ⟨w.heap.size, 0, none⟩) hh0).trans D0
             clear hB HT HJ D0 D1)
          | (go_at_call 12
             refine (HRJ.out _ _ HT2.out).mono ?_
             rintro e w3 ⟨rfl, hB⟩
             have HB3 := (show Hid _ from hB)
             have G0 := (hB.cell (p := ⟨w.heap.size, 0, none⟩) (Nat.lt_of_lt_of_le hh0 HB2.out.size)).trans E0
             clear hB HT2 HRJ E0))
        have HB4 : Hid (Below w.heap.size w w3) := (HB0.out.trans (HBL.out.mono (by have := HZ0.out; omega))).trans ((HB2.out.mono (by omega)).trans (HB3.out.mono (by have := HB2.out.size; omega)))
        have hh3 : w.heap.size < w3.heap.size := by have := HB2.out.size; have := HB3.out.size; omega
        clear HB2 HB3 HBL HB0 HO
        go_region_held3 (fun w' => w'.cell? ⟨w.heap.size, 0, none⟩ = some (.int .i64 x))
          (first | exact G0 | assumption)
          (first
            | (go_at_call 14
               refine (HS1.out _).mono ?_
               rintro e w4 ⟨v4, rfl, hO4, hB4⟩
               have I0 : w4.cell? ⟨w.heap.size, 0, none⟩ = some (.int .i64 x) := (hB4.cell (p := ⟨w.heap.size, 0, none⟩) (by exact hh3)).trans (by exact G0)
               have hh4 : w.heap.size < w4.heap.size := Nat.lt_of_lt_of_le (by exact hh3) hB4.size)
            | (go_at_call 15
               refine (HS2.out _).mono ?_
               rintro e w5 ⟨v5, rfl, hO5, hB5⟩
               have K0 : w5.cell? ⟨w.heap.size, 0, none⟩ = some (.int .i64 x) := (hB5.cell (p := ⟨w.heap.size, 0, none⟩) (by exact hh4)).trans (by exact I0)
               have hh5 : w.heap.size < w5.heap.size := Nat.lt_of_lt_of_le (by exact hh4) hB5.size)
            | (go_at_call 13
               refine (HST.out _ _ _ (hO4.txts.below (by exact hB5)) hO5.txts).mono ?_
               rintro e w6 ⟨rfl, hB6⟩
               have L0 : w6.cell? ⟨w.heap.size, 0, none⟩ = some (.int .i64 x) := (hB6.cell (p := ⟨w.heap.size, 0, none⟩) (by exact hh5)).trans (by exact K0))
            | (go_at_call 16; refine (HC.out _).mono ?_; rintro e wC ⟨rfl, rfl⟩)
            | (go_at_call 17; refine (HRC.out _).mono ?_; rintro e wC ⟨rfl, rfl⟩)
            | (go_at_call 18; refine (HX.out _).mono ?_; rintro e w7 ⟨rfl, hB7⟩; have N0 : w7.cell? ⟨w.heap.size, 0, none⟩ = some (.int .i64 x) := (hB7.cell (p := ⟨w.heap.size, 0, none⟩) (Nat.lt_of_lt_of_le (by exact hh5) hB6.size)).trans (by exact L0)))
        have HN4 := below_next HB4.out.drew hB4 (show w.heap.size ≤ w3.heap.size by omega)
        have HN5 := below_next HN4 hB5 (by omega)
        have HN6 := below_next HN5 hB6 (by omega)
        have HN7 := (show Hid _ from below_next HN6 hB7 (by have := hB6.size; omega))
        go_wp2
        go_ret
        exact ⟨rfl, HN7.out⟩
end Go.Proofs.Ytefpaebbendnmaa
