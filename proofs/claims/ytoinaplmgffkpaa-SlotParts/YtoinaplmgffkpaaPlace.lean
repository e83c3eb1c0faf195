/- Proved: what slices.Index and slot's placeFor answer (stage 11). -/
import Derived.Test.YtoinaplmgffkpaaFind
namespace Go.Proofs.Ytoinaplmgffkpaa
open Go.RowKit
open Sl (Cel Nod)
def idxK (key : ByteArray) : List ByteArray → Option Nat
  | [] => none
  | k :: l => if k = key then some 0 else (idxK key l).map (· + 1)
def idxR (o : Option Nat) : Int := match o with
  | some i => (i : Int)
  | none => -1
theorem idxK_at (key : ByteArray) : ∀ (l : List ByteArray) (k : Nat), k < l.length → (∀ i, i < k → l.getD i ByteArray.empty ≠ key) → l.getD k ByteArray.empty = key → idxK key l = some k
  | [], k, hk, _, _ => by simp at hk
  | x :: l, 0, _, _, h => by unfold idxK; rw [if_pos (by simpa using h)]
  | x :: l, k + 1, hk, h1, h2 => by
    have h0 := h1 0 (by omega)
    unfold idxK
    rw [if_neg (by simpa using h0), idxK_at key l k (by simpa using hk) (fun i hi => by simpa using h1 (i + 1) (by omega)) (by simpa using h2)]
    rfl
theorem idxK_none (key : ByteArray) : ∀ (l : List ByteArray), (∀ i, i < l.length → l.getD i ByteArray.empty ≠ key) → idxK key l = none
  | [], _ => rfl
  | x :: l, h => by
    have h0 := h 0 (by simp)
    unfold idxK
    rw [if_neg (by simpa using h0), idxK_none key l (fun i hi => by simpa using h (i + 1) (by simpa using hi))]; rfl
theorem idxK_lt (key : ByteArray) : ∀ (l : List ByteArray) (k : Nat), idxK key l = some k → k < l.length ∧ l.getD k ByteArray.empty = key
  | [], k, h => by cases h
  | x :: l, k, h => by
    unfold idxK at h
    split at h
    · rename_i e
      cases h
      exact ⟨by simp, by simpa using e⟩
    · obtain ⟨j, hj, rfl⟩ := Option.map_eq_some_iff.1 h
      obtain ⟨h1, h2⟩ := idxK_lt key l j hj
      exact ⟨by simpa using h1, by simpa using h2⟩
theorem idxK_no (key : ByteArray) : ∀ (l : List ByteArray), idxK key l = none → key ∉ l
  | [], _ => by simp
  | x :: l, h => by
    unfold idxK at h
    split at h
    · cases h
    · rename_i e
      have h1 := idxK_no key l (Option.map_eq_none_iff.1 h)
      intro hm
      rcases List.mem_cons.1 hm with e' | hm
      · exact e e'.symm
      · exact h1 hm
set_option maxHeartbeats 1000000 in
theorem idxS_any (ad : Option Addr) (c : Nat) (l : List ByteArray) (key : ByteArray) (w : World) (hA : RowAt w ad (kcells l)) (hl : l.length ≤ 1000) :
    Calls Try.prog 52 #[.slice ad l.length c, .string key] w fun e w' => e = .returned (.int .i64 (idxR (idxK key l))) ∧ w' = w := by
  have HA : Hid (RowAt w ad (kcells l)) := hA
  clear hA
  go_enter Try.func52, Try.ntmps52
  go_wp2_with fail
  go_loopw [8] (fun s8 wr => ∃ k : Nat, k ≤ l.length ∧ s8 = .int .i64 k ∧ (∀ i, i < k → l.getD i ByteArray.empty ≠ key) ∧ wr = w) (fun s8 _ => l.length - (intOf s8).toNat)
  case atStart => exact ⟨0, by omega, rfl, fun i hi => absurd hi (by omega), rfl⟩
  case round =>
    obtain ⟨k, hk, rfl, hall, hwr⟩ := hrel
    subst hwr
    have HALL := (show Hid (∀ i, i < k → l.getD i ByteArray.empty ≠ key) from hall)
    clear hall
    by_cases hlt : k < l.length
    · obtain ⟨b, off, rfl, hb, hc⟩ := HA.out.keyAt (by omega)
      have hc0 := hc k hlt
      clear hc
      have i0 : decide ((k : Int) < (l.length : Int)) = true := by simp; omega
      have HYES := (show Hid (l.getD k ByteArray.empty = key → idxR (idxK key l) = (k : Int)) from fun h => by rw [idxK_at key l k hlt HALL.out h]; rfl)
      have HNO := (show Hid (l.getD k ByteArray.empty ≠ key → ∀ i, i < k + 1 → l.getD i ByteArray.empty ≠ key) from fun h i hi => by
        by_cases e : i = k
        · rw [e]; exact h
        · exact HALL.out i (by omega))
      generalize l.getD k ByteArray.empty = x at *
      by_cases h : x = key
      · have HY := (show Hid _ from HYES.out h)
        have h3 : (key.toList == x.toList) = true := by rw [eq_list]; exact decide_eq_true h.symm
        clear h
        go_wp2
        go_ret
        exact ⟨by rw [HY.out]; rfl, rfl⟩
      · have HY := (show Hid _ from HNO.out h)
        have h3 : (key.toList == x.toList) = false := by rw [eq_list]; exact decide_eq_false (fun e => h e.symm)
        clear h
        go_wp2_with fail
        go_roundw
        case rel => exact ⟨k + 1, by omega, by go_num, HY.out, trivial⟩
        case measure => (simp [intOf]) <;> omega
    · have hkl : ¬ (k : Int) < (l.length : Int) := by omega
      have HFN := (show Hid (idxR (idxK key l) = -1) from by rw [idxK_none key l (fun i hi => HALL.out i (by omega))]; rfl)
      go_wp2
      go_ret
      exact ⟨by rw [HFN.out]; rfl, rfl⟩
def plF (n : Nod) (key : ByteArray) : Nat := match idxK key (Sl.keysOf n) with
  | some i => i
  | none => findI n key
def plT (n : Nod) (key : ByteArray) : Nat := match idxK key (Sl.keysOf n) with
  | some i => i + 1
  | none => findI n key
theorem pl_le (n : Nod) (key : ByteArray) (hl : n.leaf = true) : plF n key ≤ plT n key ∧ plT n key ≤ n.cells.length := by
  unfold plF plT Sl.keysOf findI
  rw [if_pos hl, if_pos hl]
  cases h : idxK key (n.cells.map Cel.key) with
  | some i =>
    have := (idxK_lt key _ i h).1
    rw [List.length_map] at this
    exact ⟨Nat.le_succ _, this⟩
  | none =>
    have := first_le key (n.cells.map Cel.key)
    rw [List.length_map] at this
    exact ⟨Nat.le_refl _, this⟩
set_option maxHeartbeats 1000000 in
theorem place_any (n : Nod) (p : Pt) (key : ByteArray) (w : World) (hN : Lies w n p) (hF : Fit n) :
    Calls Try.prog 28 #[nv n p, .string key] w fun e w' => e = .returned (.tuple #[.int .i64 (plF n key : Int), .int .i64 (plT n key : Int)]) ∧ Below w.heap.size w w' := by
  obtain ⟨hkl, hks⟩ := keysOf_fit hF
  have HB0 : Hid (Below w.heap.size w (boxN w n p)) := below_alloc _ _
  have HA0 : Hid (NodAt (boxN w n p) w.heap.size n p) := boxN_at w n p
  have hs0 : (boxN w n p).heap.size = w.heap.size + 1 := size_alloc1 _ _
  have HK := keysOf_any n p (boxN w n p) (hN.below HB0.out) hF
  have HF := fun (W : World) (h : Below w.heap.size w W) => find_any n p key W (hN.below h) hF
  have HP : Hid (plF n key = (match idxK key (Sl.keysOf n) with | some i => i | none => findI n key) ∧ plT n key = (match idxK key (Sl.keysOf n) with | some i => i + 1 | none => findI n key)) := ⟨rfl, rfl⟩
  have HI := (show Hid (∀ i, idxK key (Sl.keysOf n) = some i → i < 1000) from fun i h => Nat.lt_of_lt_of_le (idxK_lt key _ i h).1 hkl)
  clear hN hF hks
  generalize plF n key = f at *
  generalize plT n key = t at *
  generalize findI n key = fi at *
  generalize findB n key = fb at *
  generalize Sl.keysOf n = l at *
  obtain ⟨lf, cs, ks, ds⟩ := n
  obtain ⟨a1, c1, a2, c2, a3, c3⟩ := p
  unfold nv at *
  simp only at HK HF ⊢
  go_enter Try.func28, Try.ntmps28
  go_wp2_with fail
  refine HK.mono ?_
  rintro e w1 ⟨ad, cap, rfl, hr1, hl1, hl2, hB1⟩
  have HB1 : Hid (Below w.heap.size w w1) := HB0.out.trans (hB1.mono (by omega))
  have hs1 : w.heap.size + 1 ≤ w1.heap.size := by have := hB1.size; omega
  have HA1 : Hid (NodAt w1 w.heap.size ⟨lf, cs, ks, ds⟩ ⟨a1, c1, a2, c2, a3, c3⟩) := HA0.out.below hB1 (by omega)
  have HX := idxS_any ad cap l key w1 hr1 hkl
  clear hr1 hB1 HK HA0 HB0 hs0
  go_wp2_with fail
  refine HX.mono ?_
  rintro e wS ⟨rfl, hwS⟩
  rw [hwS]
  clear hwS wS HX
  generalize hix : idxK key l = ix at *
  clear hix
  cases ix with
  | some i =>
    have hi := HI.out i rfl
    have HP1 : Hid (f = i ∧ t = i + 1) := HP.out
    clear HI HP HF
    unfold idxR
    have d1 : decide ((0 : Int) ≤ (i : Int)) = true := decide_eq_true (by omega)
    go_wp2
    go_ret2
    refine ⟨?_, HB1.out⟩
    rw [HP1.out.1, HP1.out.2]
    rfl
  | none =>
    have HP1 : Hid (f = fi ∧ t = fi) := HP.out
    clear HI HP
    unfold idxR
    obtain ⟨q0, q1, q2, q3⟩ := HA1.out
    simp only at q0 q1 q2 q3
    go_wp2_with fail
    refine (HF _ HB1.out).mono ?_
    rintro e w2 ⟨rfl, hB2⟩
    have HB2 : Hid (Below w.heap.size w w2) := HB1.out.trans (hB2.mono (by omega))
    clear hB2 HF q0 q1 q2 q3
    go_wp2
    go_ret2
    refine ⟨?_, HB2.out⟩
    rw [HP1.out.1, HP1.out.2]
    rfl
end Go.Proofs.Ytoinaplmgffkpaa
