/- Proved: where slot's evenPlace parts sizes (stage 11). -/
import Derived.Test.YtoinaplmgffkpaaApp
namespace Go.Proofs.Ytoinaplmgffkpaa
open Go.RowKit
open Sl (Cel Nod)
def gr (l : List Nat) (b k : Nat) : Nat := max (sumN (l.take k)) (sumN (l.drop (k + b)))
/- the first place from 1 on, up to i, at which g is least -/
def best (g : Nat → Nat) : Nat → Nat
  | 0 => 0
  | i + 1 => if i = 0 ∨ g (i + 1) < g (best g i) then i + 1 else best g i
theorem best_pos (g : Nat → Nat) : ∀ i, 0 < i → 1 ≤ best g i ∧ best g i ≤ i
  | 0, h => absurd h (by omega)
  | i + 1, _ => by
    unfold best
    split
    · omega
    · rename_i h
      have := best_pos g i (by omega)
      omega
theorem best_least (g : Nat → Nat) : ∀ i j, 1 ≤ j → j ≤ i → g (best g i) ≤ g j
  | 0, j, h1, h2 => by omega
  | i + 1, j, h1, h2 => by
    unfold best
    split
    · rename_i h
      by_cases e : j = i + 1
      · rw [e]; exact Nat.le_refl _
      · rcases h with h | h
        · omega
        · have := best_least g i j h1 (by omega)
          omega
    · rename_i h
      by_cases e : j = i + 1
      · rw [e]; omega
      · exact best_least g i j h1 (by omega)
theorem best_first (g : Nat → Nat) : ∀ i j, 1 ≤ j → j < best g i → g (best g i) < g j
  | 0, j, h1, h2 => by unfold best at h2; omega
  | i + 1, j, h1, h2 => by
    unfold best at h2 ⊢
    split at h2
    · rename_i h
      rw [if_pos h]
      rcases h with h | h
      · omega
      · have := best_least g i j h1 (by omega)
        omega
    · rename_i h
      rw [if_neg h]
      exact best_first g i j h1 h2
theorem best_one (g : Nat → Nat) (i p : Nat) (h0 : 1 ≤ p) (hi : p ≤ i) (h1 : ∀ j, 1 ≤ j → j ≤ i → g p ≤ g j) (h2 : ∀ j, 1 ≤ j → j < p → g p < g j) : best g i = p := by
  have hb := best_pos g i (by omega)
  have hl := best_least g i p h0 hi
  have hf := best_first g i p h0
  rcases Nat.lt_trichotomy (best g i) p with h | h | h
  · have := h2 _ hb.1 h; omega
  · exact h
  · have := hf h
    have := h1 _ hb.1 hb.2
    omega
theorem sumN_parts (l : List Nat) (k b : Nat) : sumN l = sumN (l.take k) + (sumN ((l.drop k).take b) + sumN (l.drop (k + b))) := by
  have h1 := sumN_append (l.take k) (l.drop k)
  have h2 := sumN_append ((l.drop k).take b) ((l.drop k).drop b)
  rw [List.take_append_drop] at h1 h2
  rw [List.drop_drop] at h2
  omega
theorem RowAt.part {w : World} {bk off : Nat} {l : List Nat} (h : RowAt w (some ⟨bk, off, none⟩) (icells (ints l))) (k b : Nat) : RowAt w (some ⟨bk, off + k, none⟩) (icells (ints ((l.drop k).take b))) := by
  have := (h.drop k).take b
  unfold icells ints at this ⊢
  rwa [← List.map_drop, ← List.map_drop, ← List.map_take, ← List.map_take] at this
def leaI (k g : Nat) : Int := if k = 0 then 9223372036854775807 else (g : Int)
set_option maxHeartbeats 2000000 in
theorem even_any (ad : Option Addr) (c : Nat) (l : List Nat) (b n : Nat) (w : World) (hA : RowAt w ad (icells (ints l))) (hn : l.length = n) (hb : b ≤ 1) (hl : n ≤ 1000) (hlc : n ≤ c) (hcm : c ≤ 9223372036854775807) (hs : sumN l ≤ 2305843009213693952) :
    Calls Try.prog 31 #[.slice ad n c, .int .i64 (b : Int)] w fun e w' => e = .returned (.tuple #[.int .i64 (best (gr l b) (n - 1 - b) : Int), .bool (decide (0 < best (gr l b) (n - 1 - b)))]) ∧ w' = w := by
  have HA : Hid (RowAt w ad (icells (ints l))) := hA
  have HS0 := sum_any ad c l n w hA hn (by omega) (by omega)
  clear hA
  go_enter Try.func31, Try.ntmps31
  go_wp2_with fail
  refine HS0.mono ?_
  rintro e wS ⟨rfl, hwS⟩
  rw [hwS]
  clear hwS wS HS0
  have HSL : Is (sumN l) (sumN l) := ⟨rfl⟩
  go_wp2_with fail
  go_loopw [4, 7, 8, 19] (fun s4 s7 s8 s19 wr => ∃ k : Nat, k ≤ n - 1 - b ∧ s19 = .int .i64 k ∧ s7 = .int .i64 (sumN (l.take k) : Int) ∧ s4 = .int .i64 (best (gr l b) k : Int) ∧ s8 = .int .i64 (leaI k (gr l b (best (gr l b) k))) ∧ wr = w) (fun _ _ _ s19 _ => n - (intOf s19).toNat)
  case atStart => exact ⟨0, by omega, rfl, rfl, rfl, rfl, rfl⟩
  case round =>
    obtain ⟨k, hk, rfl, rfl, rfl, rfl, hwr⟩ := hrel
    subst hwr
    by_cases hlt : k < n - 1 - b
    · obtain ⟨bk, off, rfl, hbk, hc⟩ := HA.out.intAt (by rw [ints_length]; omega)
      have hc0 := hc k (by rw [ints_length]; omega)
      rw [ints_getD l k (by omega)] at hc0
      clear hc
      have HPS := sum_any (some ⟨bk, off + (k + 1), none⟩) (c - (k + 1)) ((l.drop (k + 1)).take b) b wr (HA.out.part (k + 1) b) (by rw [List.length_take, List.length_drop]; omega) (by rw [List.length_take]; omega) (by have := sumN_parts l (k + 1) b; omega)
      obtain ⟨L', HLP⟩ : ∃ L', Is L' (sumN (l.take (k + 1))) := ⟨_, ⟨rfl⟩⟩
      obtain ⟨G, HGK⟩ : ∃ G, Is G (gr l b (k + 1)) := ⟨_, ⟨rfl⟩⟩
      obtain ⟨P', HBP⟩ : ∃ P', Is P' (best (gr l b) (k + 1)) := ⟨_, ⟨rfl⟩⟩
      obtain ⟨R, HRP⟩ : ∃ R, Is R (sumN (l.drop (k + 1 + b))) := ⟨_, ⟨rfl⟩⟩
      obtain ⟨g, Hg⟩ : ∃ g, Is g (gr l b (best (gr l b) k)) := ⟨_, ⟨rfl⟩⟩
      have HPT : Is (sumN l) (L' + (sumN ((l.drop (k + 1)).take b) + R)) := ⟨by rw [HLP.eq, HRP.eq]; exact sumN_parts l (k + 1) b⟩
      have HBN : Is P' (if k = 0 ∨ G < g then k + 1 else best (gr l b) k) := ⟨by rw [HBP.eq, best, HGK.eq, Hg.eq]⟩
      have HGR : Is G (max L' R) := ⟨by rw [HGK.eq, HLP.eq, HRP.eq]; rfl⟩
      have HTK : Is L' (sumN (l.take k) + l.getD k 0) := ⟨by rw [HLP.eq]; exact sumN_take l k (by omega)⟩
      have HBL := (show Hid (0 < k → 1 ≤ best (gr l b) k ∧ best (gr l b) k ≤ k) from best_pos (gr l b) k)
      have i0 : decide ((k : Int) < (n : Int) - 1 - (b : Int)) = true := decide_eq_true (by omega)
      have i1 : (k : Int) < (n : Int) := by omega
      have e1 : ((k : Int) + 1).toNat = k + 1 := by omega
      have e2 : ((k : Int) + 1 + (b : Int)).toNat = k + 1 + b := by omega
      have e3 : k + 1 + b - (k + 1) = b := by omega
      have e4 : ¬ c = k + 1 := by omega
      have e5 : (0 : Int) ≤ (k : Int) + 1 := by omega
      have e6 : (k : Int) + 1 ≤ (k : Int) + 1 + (b : Int) := by omega
      have e7 : (k : Int) + 1 + (b : Int) ≤ (c : Int) := by omega
      have HLE : Is (leaI k (gr l b (best (gr l b) k))) (if k = 0 then 9223372036854775807 else (g : Int)) := ⟨by rw [Hg.eq]; rfl⟩
      have HPG : Hid (k ≠ 0 → gr l b (best (gr l b) k) = g) := fun _ => Hg.eq.symm
      obtain ⟨M, HMM⟩ : ∃ M, Is M (sumN ((l.drop (k + 1)).take b)) := ⟨_, ⟨rfl⟩⟩
      rw [← HMM.eq] at HPS
      have HPT2 : Is (sumN l) (L' + (M + R)) := ⟨by rw [HPT.eq, HMM.eq]⟩
      obtain ⟨P, HP0⟩ : ∃ P, Is P (best (gr l b) k) := ⟨_, ⟨rfl⟩⟩
      have HBN2 : Is P' (if k = 0 ∨ G < g then k + 1 else P) := ⟨by rw [HBN.eq, HP0.eq]⟩
      have HPG2 : Hid (gr l b P = g) := by show _ = _; rw [HP0.eq, Hg.eq]
      rw [← HP0.eq] at HLE ⊢
      generalize leaI k (gr l b P) = Z at *
      generalize sumN (l.take k) = L at *
      generalize l.getD k 0 = x at *
      generalize sumN l = S at *
      clear HPT HBN HPG
      have b1 : (L : Int) + (x : Int) ≤ (S : Int) := by have := HPT2.eq; have := HTK.eq; omega
      have b2 : (0 : Int) ≤ (L : Int) + (x : Int) := by omega
      have b3 : (S : Int) ≤ 2305843009213693952 := by omega
      clear hs
      go_wp2_with fail
      refine HPS.mono ?_
      rintro e wS ⟨rfl, hwS⟩
      rw [hwS]
      clear hwS wS HPS
      have r1 : (L : Int) + (x : Int) = (L' : Int) := by have := HTK.eq; omega
      have r2 : (S : Int) - (L' : Int) - (M : Int) = (R : Int) := by have := HPT2.eq; omega
      have b4 : (L' : Int) ≤ (S : Int) := by omega
      have b5 : (M : Int) ≤ (S : Int) := by have := HPT2.eq; omega
      have b6 : (R : Int) ≤ (S : Int) := by have := HPT2.eq; omega
      have b7 : (0 : Int) ≤ (S : Int) - (L' : Int) := by omega
      clear b1 b2
      have HREL : Hid (∀ s4 s8 : Value, s4 = .int .i64 (P' : Int) → s8 = .int .i64 (leaI (k + 1) (gr l b P')) → ∃ k' : Nat, k' ≤ n - 1 - b ∧ Value.int .i64 ((k : Int) + 1) = .int .i64 k' ∧ Value.int .i64 (L' : Int) = .int .i64 (sumN (l.take k') : Int) ∧ s4 = .int .i64 (best (gr l b) k' : Int) ∧ s8 = .int .i64 (leaI k' (gr l b (best (gr l b) k')))) := fun s4 s8 h4 h8 => ⟨k + 1, by omega, by go_num, by rw [HLP.eq], by rw [← HBP.eq]; exact h4, by rw [← HBP.eq]; exact h8⟩
      have HLK : Hid (∀ y : Nat, leaI (k + 1) y = (y : Int)) := fun y => by unfold leaI; rw [if_neg (by omega)]
      have HMX : Hid ((L' < R → G = R) ∧ (¬ L' < R → G = L')) := ⟨fun h => by rw [HGR.eq]; omega, fun h => by rw [HGR.eq]; omega⟩
      have HCM : Hid ((G : Int) < Z ↔ (k = 0 ∨ G < g)) := by
        have h1 := HLE.eq
        have h2 : (G : Int) < 9223372036854775807 := by
          by_cases h : L' < R
          · rw [HMX.out.1 h]; omega
          · rw [HMX.out.2 h]; omega
        by_cases h0 : k = 0
        · rw [if_pos h0] at h1
          constructor
          · intro _; exact .inl h0
          · intro _; rw [h1]; exact h2
        · rw [if_neg h0] at h1
          rw [h1]
          constructor
          · intro h; exact .inr (by omega)
          · rintro (h | h)
            · exact absurd h h0
            · omega
      have r3 : max (L' : Int) (R : Int) = (G : Int) := by have := HGR.eq; omega
      by_cases hc : k = 0 ∨ G < g
      · have HPE : Hid (P' = k + 1) := by show _ = _; rw [HBN2.eq, if_pos hc]
        have HGE : Hid (gr l b P' = G) := by show _ = _; rw [HPE.out, ← HGK.eq]
        have c1 : decide ((G : Int) < Z) = true := decide_eq_true (HCM.out.2 hc)
        have HF := (show Hid _ from HREL.out (.int .i64 ((k : Int) + 1)) (.int .i64 (G : Int)) (by rw [HPE.out]; go_num) (by rw [HLK.out, HGE.out]))
        clear hc
        go_wp2_with fail
        go_roundw
        case rel =>
          obtain ⟨k', h1, h2, h3, h4, h5⟩ := HF.out
          exact ⟨k', h1, h2, h3, h4, h5, trivial⟩
        case measure => (simp [intOf]) <;> omega
      · have HPE : Hid (P' = P) := by show _ = _; rw [HBN2.eq, if_neg hc]
        have hk0 : k ≠ 0 := fun h => hc (.inl h)
        have HZE : Hid (Z = (g : Int)) := by show _ = _; rw [HLE.eq, if_neg hk0]
        have c1 : decide ((G : Int) < Z) = false := decide_eq_false (fun h => hc (HCM.out.1 h))
        have HF := (show Hid _ from HREL.out (.int .i64 (P : Int)) (.int .i64 Z) (by rw [HPE.out]) (by rw [HLK.out, HPE.out, HPG2.out, HZE.out]))
        clear hk0
        clear hc
        go_wp2_with fail
        go_roundw
        case rel =>
          obtain ⟨k', h1, h2, h3, h4, h5⟩ := HF.out
          exact ⟨k', h1, h2, h3, h4, h5, trivial⟩
        case measure => (simp [intOf]) <;> omega
    · have hkl : ¬ (k : Int) < (n : Int) - 1 - (b : Int) := by omega
      have HKE : Is k (n - 1 - b) := ⟨by omega⟩
      obtain ⟨P, HP⟩ : ∃ P, Is P (best (gr l b) k) := ⟨_, ⟨rfl⟩⟩
      rw [← HP.eq]
      generalize leaI k (gr l b P) = Z at *
      have d0 : decide ((0 : Int) < (P : Int)) = decide (0 < P) := by
        by_cases h : 0 < P
        · rw [decide_eq_true h]; exact decide_eq_true (by omega)
        · rw [decide_eq_false h]; exact decide_eq_false (by omega)
      go_wp2
      go_ret2
      exact ⟨by rw [← HKE.eq, ← HP.eq, ← d0]; rfl, rfl⟩
end Go.Proofs.Ytoinaplmgffkpaa
