/- Proved: the document's Kind answers as the program's. -/
import Derived.Test.YtbcmgcallidneaaGreatDoorRKind
namespace Go.Proofs.YtbcmgcallidneaaGreatDoor
open Go.RowKit
theorem rnames_row (s : ByteArray) (w : World) (hs : s.size ≤ 30000) :
    Calls Tryz.prog 59 #[.string s] w fun e w' => ∃ g cap, e = .returned (.slice (some ⟨g, 0, none⟩) (Pm.names (bl s)).length cap) ∧ w.heap.size ≤ g ∧ g < w'.heap.size ∧ (Pm.names (bl s)).length ≤ cap ∧ cap ≤ 9223372036854775807 ∧ TextsAt w' g 0 (Pm.names (bl s)) ∧ Below w.heap.size w w' := by
  refine (rnames_any s w hs).mono ?_
  rintro e w' ⟨v, rfl, ho, hb⟩
  rcases own_shape ho with ⟨_, h⟩ | ⟨g, cap, hv, h1, h2, h3, h4, h5⟩
  · exact absurd h (Pm.names_ne _)
  · subst hv
    exact ⟨g, cap, rfl, h1, h2, h3, h4, h5, hb⟩
set_option maxHeartbeats 2000000 in
set_option maxRecDepth 20000 in
theorem rkind_any (s : ByteArray) (w : World) (hs : s.size ≤ 30000) :
    Calls Tryz.prog 41 #[.string s] w fun e w' => e = .returned (.tuple #[.int .i64 ((Pm.kind (bl s)).1 : Nat), .int .i64 ((Pm.kind (bl s)).2 : Nat)]) ∧ Below w.heap.size w w' := by
  have HK : Is (Pm.kind (bl s)) (if 96 < s.size then (0, 3) else if bl s = [] then (1, 0) else if Pm.good (Pm.names (bl s)) = false then (0, 18) else if 8 < (Pm.names (bl s)).length then (0, 7) else (Pm.nk ((Pm.names (bl s)).getLastD []), 0)) := ⟨by rw [← bl_length s]; rfl⟩
  by_cases h96 : 96 < s.size
  · have h96' : (96 : Int) < (s.size : Int) := by omega
    rw [if_pos h96] at HK
    go_enter Tryz.func41, Tryz.ntmps41
    go_wp2
    go_ret2
    exact ⟨by rw [HK.eq]; rfl, Below.refl _ _⟩
  · have h96' : ¬ (96 : Int) < (s.size : Int) := by omega
    rw [if_neg h96] at HK
    by_cases he : bl s = []
    · rw [if_pos he] at HK
      obtain rfl : s = ⟨#[]⟩ := bl_inj he
      go_enter Tryz.func41, Tryz.ntmps41
      go_wp2
      go_ret2
      exact ⟨by rw [HK.eq]; rfl, Below.refl _ _⟩
    · rw [if_neg he] at HK
      have hte : s.toList.isEmpty = false := te_bl he
      have HNS : Hid (∀ n ∈ Pm.names (bl s), n.length < 4294967281) := fun n hn => by have := name_size s hn; omega
      have hL0 : 0 < (Pm.names (bl s)).length := List.length_pos_iff.2 (Pm.names_ne _)
      have hL1 := names_size s
      go_enter Tryz.func41, Tryz.ntmps41
      go_wp2_with fail
      refine (rnames_row s w hs).mono ?_
      rintro e w1 ⟨g, cap, rfl, hg0, hg1, hcap, hcm, hX, hB⟩
      have HB : Hid (Below w.heap.size w w1) := hB
      generalize Pm.names (bl s) = L at *
      obtain ⟨n, hn⟩ : ∃ n, L.length = n + 1 := ⟨L.length - 1, by omega⟩
      have HLn : Is L.length (n + 1) := ⟨hn⟩
      rw [hn] at hL1
      have HNM : Hid (∀ k, k < n + 1 → ∀ W : World, Calls Tryz.prog 60 #[.string (mk (L.getD k []))] W fun e w' => e = .returned (.int .i64 (Pm.nk (L.getD k []) : Nat)) ∧ w' = W) := fun k hk W => rname_any (mk (L.getD k [])) W (HNS.out _ (getD_mem (by rw [HLn.eq]; exact hk)))
      have HCL : Hid (∀ k, k < n + 1 → w1.cell? ⟨g, k, none⟩ = some (.string (mk (L.getD k [])))) := fun k hk => by
        have h := hX k _ (getD_some (by rw [HLn.eq]; exact hk))
        rwa [Nat.zero_add] at h
      rw [hn]
      rw [HLn.eq] at HK
      clear hL0 hX hB hcap hcm hg0 hg1 hn HNS
      go_wp2_with fail
      go_loopw [5] (fun i wr => ∃ k : Nat, k ≤ n + 1 ∧ i = .int .i64 k ∧ ((∀ j, j < k → j < n → Pm.nk (L.getD j []) = 1) ∧ (k = n + 1 → Pm.nk (L.getD n []) ≠ 0)) ∧ wr = w1) (fun i _ => n + 1 - (intOf i).toNat)
      case atStart => exact ⟨0, by omega, rfl, ⟨fun j hj => by omega, fun h => by omega⟩, rfl⟩
      case round =>
        obtain ⟨k, hk, rfl, hd, rfl⟩ := hrel
        have HD : Hid ((∀ j, j < k → j < n → Pm.nk (L.getD j []) = 1) ∧ (k = n + 1 → Pm.nk (L.getD n []) ≠ 0)) := hd
        clear hd
        by_cases hlt : k < n + 1
        · have i0 : (k : Int) < (n : Int) + 1 := by omega
          have j0 : (0 : Int) ≤ (k : Int) := Int.natCast_nonneg _
          have c0 := HCL.out k hlt
          have CN : Hid (∀ W : World, Calls Tryz.prog 60 #[.string (mk (L.getD k []))] W fun e w' => e = .returned (.int .i64 (Pm.nk (L.getD k []) : Nat)) ∧ w' = W) := HNM.out k hlt
          have wk : IntKind.i64.wrap ((k : Int) + 1) = (k : Int) + 1 := by rw [show (k : Int) + 1 = ((k + 1 : Nat) : Int) by omega]; exact wrapN _ (by omega)
          rcases Pm.nk_cases (L.getD k []) with h1 | h1 | h1
          · have hG : Pm.good L = false := by
              by_cases hkn : k < n
              · exact good_no (k := k) (by rw [HLn.eq]; omega) (by rw [h1]; decide)
              · obtain rfl : k = n := by omega
                rw [good_by (fun j hj => HD.out.1 j (by rw [HLn.eq] at hj; omega) (by rw [HLn.eq] at hj; omega)), getLastD_at, HLn.eq, Nat.add_sub_cancel, h1]; rfl
            rw [if_pos hG] at HK
            clear hG
            rw [h1] at CN
            clear h1 HD HCL HNM
            generalize mk (L.getD k []) = x at *
            go_wp2_with fail
            refine (CN.out _).mono ?_
            rintro e wS ⟨rfl, hwS⟩
            rw [hwS]
            clear hwS wS
            go_wp2_with fail
            go_ret2
            exact ⟨by rw [HK.eq]; rfl, HB.out⟩
          · have HD' : Hid ((∀ j, j < k + 1 → j < n → Pm.nk (L.getD j []) = 1) ∧ (k + 1 = n + 1 → Pm.nk (L.getD n []) ≠ 0)) := ⟨fun j hj hjn => by
              by_cases h : j = k
              · subst h; exact h1
              · exact HD.out.1 j (by omega) hjn, fun e => by obtain rfl : k = n := by omega
                                                             rw [h1]; decide⟩
            rw [h1] at CN
            clear h1 HD HCL HNM
            generalize mk (L.getD k []) = x at *
            go_wp2_with fail
            refine (CN.out _).mono ?_
            rintro e wS ⟨rfl, hwS⟩
            rw [hwS]
            clear hwS wS
            go_wp2_with fail
            refine (CN.out _).mono ?_
            rintro e wS ⟨rfl, hwS⟩
            rw [hwS]
            clear hwS wS
            go_wp2_with fail
            go_roundw
            case rel => exact ⟨k + 1, by omega, by go_num, HD'.out, by first | rfl | trivial⟩
            case measure => (simp [intOf]) <;> omega
          · by_cases hkn : k < n
            · have hG : Pm.good L = false := good_no (k := k) (by rw [HLn.eq]; omega) (by rw [h1]; decide)
              rw [if_pos hG] at HK
              have i1 : (k : Int) + 1 < (n : Int) + 1 := by omega
              have i2 : decide ((k : Int) + 1 < (n : Int) + 1) = true := decide_eq_true i1
              clear hG
              rw [h1] at CN
              clear h1 HD HCL HNM
              generalize mk (L.getD k []) = x at *
              go_wp2_with fail
              refine (CN.out _).mono ?_
              rintro e wS ⟨rfl, hwS⟩
              rw [hwS]
              clear hwS wS
              go_wp2_with fail
              refine (CN.out _).mono ?_
              rintro e wS ⟨rfl, hwS⟩
              rw [hwS]
              clear hwS wS
              go_wp2_with fail
              go_ret2
              exact ⟨by rw [HK.eq]; rfl, HB.out⟩
            · have HD' : Hid ((∀ j, j < k + 1 → j < n → Pm.nk (L.getD j []) = 1) ∧ (k + 1 = n + 1 → Pm.nk (L.getD n []) ≠ 0)) := ⟨fun j hj hjn => HD.out.1 j (by omega) hjn, fun e => by
                obtain rfl : k = n := by omega
                rw [h1]; decide⟩
              have i1 : ¬ (k : Int) + 1 < (n : Int) + 1 := by omega
              have i2 : decide ((k : Int) + 1 < (n : Int) + 1) = false := decide_eq_false i1
              rw [h1] at CN
              clear h1 HD HCL HNM
              generalize mk (L.getD k []) = x at *
              go_wp2_with fail
              refine (CN.out _).mono ?_
              rintro e wS ⟨rfl, hwS⟩
              rw [hwS]
              clear hwS wS
              go_wp2_with fail
              refine (CN.out _).mono ?_
              rintro e wS ⟨rfl, hwS⟩
              rw [hwS]
              clear hwS wS
              go_wp2_with fail
              go_roundw
              case rel => exact ⟨k + 1, by omega, by go_num, HD'.out, by first | rfl | trivial⟩
              case measure => (simp [intOf]) <;> omega
        · obtain rfl : k = n + 1 := by omega
          have i0 : ¬ ((n : Int) + 1 < (n : Int) + 1) := by omega
          have i1 : (n : Int) < (n : Int) + 1 := by omega
          have j0 : (0 : Int) ≤ (n : Int) := Int.natCast_nonneg _
          have c0 := HCL.out n (by omega)
          have CN : Hid (∀ W : World, Calls Tryz.prog 60 #[.string (mk (L.getD n []))] W fun e w' => e = .returned (.int .i64 (Pm.nk (L.getD n []) : Nat)) ∧ w' = W) := HNM.out n (by omega)
          have HG : Is (Pm.good L) true := ⟨by
            rw [good_by (fun j hj => HD.out.1 j (by rw [HLn.eq] at hj; omega) (by rw [HLn.eq] at hj; omega)), getLastD_at, HLn.eq, Nat.add_sub_cancel]
            have := HD.out.2 rfl
            simpa using this⟩
          have HGL : Is (L.getLastD []) (L.getD n []) := ⟨by rw [getLastD_at, HLn.eq, Nat.add_sub_cancel]⟩
          rw [if_neg (by rw [HG.eq]; decide), HGL.eq] at HK
          clear HG HGL HD HCL HNM
          generalize Pm.nk (L.getD n []) = kk at *
          generalize mk (L.getD n []) = x at *
          by_cases h8 : 8 < n + 1
          · have h8' : (8 : Int) < (n : Int) + 1 := by omega
            rw [if_pos h8] at HK
            go_wp2_with fail
            go_ret2
            exact ⟨by rw [HK.eq]; rfl, HB.out⟩
          · have h8' : ¬ (8 : Int) < (n : Int) + 1 := by omega
            rw [if_neg h8] at HK
            go_wp2_with fail
            refine (CN.out _).mono ?_
            rintro e wS ⟨rfl, hwS⟩
            rw [hwS]
            clear hwS wS
            go_wp2_with fail
            go_ret2
            exact ⟨by rw [HK.eq]; rfl, HB.out⟩
end Go.Proofs.YtbcmgcallidneaaGreatDoor
