/- Proved: the document's Clean answers as the program's. -/
import Derived.Test.YtlgalcpnodadiaaDoorRFew
import Derived.Test.YtlgalcpnodadiaaDoorClean
namespace Go.Proofs.YtlgalcpnodadiaaDoor
open Go.RowKit
set_option maxHeartbeats 2000000 in
set_option maxRecDepth 20000 in
theorem rclean_any (s : ByteArray) (w : World) :
    Calls Tryd.prog 13 #[.string s] w fun e w' => e = .returned (.tuple #[.string (mk (Pm.clean (bl s)).1), .int .i64 ((Pm.clean (bl s)).2 : Nat)]) ∧ Below w.heap.size w w' := by
  have HK : Is (Pm.clean (bl s)) (if 4096 < s.size then ([], 3) else match Pm.walk (Pm.names (bl s)) [] with | none => ([], 18) | some l => Pm.checked (Pm.join l)) := ⟨by rw [← bl_length s]; rfl⟩
  by_cases h96 : 4096 < s.size
  · have h96' : (4096 : Int) < (s.size : Int) := by omega
    rw [if_pos h96] at HK
    go_enter Tryd.func13, Tryd.ntmps13
    go_wp2
    go_ret2
    exact ⟨by rw [HK.eq]; rfl, Below.refl _ _⟩
  · have h96' : ¬ (4096 : Int) < (s.size : Int) := by omega
    rw [if_neg h96] at HK
    have HNS : Hid (∀ n ∈ Pm.names (bl s), n.length ≤ 5000) := fun n hn => by have := name_size s hn; omega
    have hL1 := names_size s
    go_enter Tryd.func13, Tryd.ntmps13
    go_wp2_with fail
    refine (rnames_row s w (by omega)).mono ?_
    rintro e w1 ⟨g0, cap0, rfl, hg0, hg1, _, _, hX, hB1⟩
    generalize Pm.names (bl s) = L at *
    have HX : Hid (TextsAt w1 g0 0 L) := hX
    have HB1 : Hid (Below w.heap.size w w1) := hB1
    have hz1 := hB1.size
    clear hX hB1 hg0
    obtain ⟨n, hn⟩ : ∃ n, L.length = n := ⟨_, rfl⟩
    have HLn : Is L.length n := ⟨hn⟩
    rw [hn] at hL1
    have HBz : Hid (∀ W : World, Below w1.heap.size w1 W → Below w.heap.size w W) := fun W hW => HB1.out.trans (hW.mono hz1)
    have HCL : Hid (∀ k, k < n → ∀ W : World, Below w1.heap.size w1 W → W.cell? ⟨g0, k, none⟩ = some (.string (mk (L.getD k [])))) := fun k hk W hW => by
      have h := (HX.out.below hW hg1) k _ (getD_some (by rw [HLn.eq]; exact hk))
      rwa [Nat.zero_add] at h
    rw [hn]
    go_wp2_with fail
    clear hn
    go_loopw [5, 6] (fun v i wr => ∃ (k : Nat) (st : List Pm.T), k ≤ n ∧ i = .int .i64 k ∧ st.length ≤ k ∧ (∀ x ∈ st, x.length ≤ 5000) ∧ Pm.walk L [] = Pm.walk (L.drop k) st ∧ wr.ownsRow w1.heap.size 9 1 v st.length (scells st) ∧ Below w1.heap.size w1 wr) (fun _ i _ => n - (intOf i).toNat)
    case atStart => exact ⟨0, [], by omega, rfl, by simp, by simp, rfl, ⟨rfl, .inl ⟨rfl, rfl⟩⟩, Below.refl _ _⟩
    case round =>
      obtain ⟨k, st, hk, rfl, hst, hsl, hwk, ho, hB⟩ := hrel
      have HB : Hid (Below w1.heap.size w1 wr) := hB
      have HSL : Hid (∀ x ∈ st, x.length ≤ 5000) := hsl
      have HW : Is (Pm.walk L []) (Pm.walk (L.drop k) st) := ⟨hwk⟩
      have hsz := hB.size
      have hsh := own_shape ho
      by_cases hlt : k < n
      · have i0 : (k : Int) < (n : Int) := by omega
        have j0 : (0 : Int) ≤ (k : Int) := Int.natCast_nonneg _
        have c0 := HCL.out k hlt wr hB
        rw [drop_getD (l := L) (k := k) (by rw [HLn.eq]; exact hlt)] at HW
        have HXL : Hid ((L.getD k []).length ≤ 5000) := HNS.out _ (getD_mem (by rw [HLn.eq]; exact hlt))
        clear hB hsl hwk
        generalize L.getD k [] = x at *
        have E0 : Is ((mk x).toList.isEmpty) (x.isEmpty) := ⟨by rw [ByteArray.toList_eq]; rfl⟩
        have E1 : Is ((mk x).toList == [46]) (x == [46]) := ⟨by rw [ByteArray.toList_eq]; rfl⟩
        have E2 : Is ((mk x).toList == [46, 46]) (x == [46, 46]) := ⟨by rw [ByteArray.toList_eq]; rfl⟩
        by_cases hx : x = [] ∨ x = [46]
        · rw [walk_skip hx] at HW
          have HO : Hid (wr.ownsRow w1.heap.size 9 1 _ st.length (scells st)) := ho
          clear ho hsh
          rcases hx with rfl | rfl
          · have e0 : (mk []).toList.isEmpty = true := E0.eq
            have e2 : ((mk []).toList == [46, 46]) = false := E2.eq
            clear E0 E1 E2
            generalize mk [] = X at *
            go_wp2_with fail
            go_roundw
            case rel => exact ⟨k + 1, st, by omega, by go_num, by omega, HSL.out, HW.eq, HO.out, HB.out⟩
            case measure => (simp [intOf]) <;> omega
          · have e0 : (mk [46]).toList.isEmpty = false := E0.eq
            have e1 : ((mk [46]).toList == [46]) = true := E1.eq
            have e2 : ((mk [46]).toList == [46, 46]) = false := E2.eq
            clear E0 E1 E2
            generalize mk [46] = X at *
            go_wp2_with fail
            go_roundw
            case rel => exact ⟨k + 1, st, by omega, by go_num, by omega, HSL.out, HW.eq, HO.out, HB.out⟩
            case measure => (simp [intOf]) <;> omega
        · by_cases hx2 : x = [46, 46]
          · subst hx2
            clear hx
            have e0 : (mk [46, 46]).toList.isEmpty = false := E0.eq
            have e1 : ((mk [46, 46]).toList == [46]) = false := E1.eq
            have e2 : ((mk [46, 46]).toList == [46, 46]) = true := E2.eq
            clear E0 E1 E2
            generalize mk [46, 46] = X at *
            rcases hsh with ⟨rfl, rfl⟩ | ⟨g, cap, rfl, _, _, hcap, hcm, _⟩
            · rw [walk_none] at HW
              rw [HW.eq] at HK
              clear ho
              go_wp2_with fail
              go_ret2
              exact ⟨by rw [HK.eq]; rfl, HBz.out _ HB.out⟩
            · by_cases h0 : st = []
              · subst h0
                rw [walk_none] at HW
                rw [HW.eq] at HK
                clear ho
                go_wp2_with fail
                go_ret2
                exact ⟨by rw [HK.eq]; rfl, HBz.out _ HB.out⟩
              · rw [walk_up h0] at HW
                have HO : Hid (wr.ownsRow w1.heap.size 9 1 (.slice (some ⟨g, 0, none⟩) (st.length - 1) cap) st.dropLast.length (scells st.dropLast)) := own_short ho
                have HSL' : Hid (∀ x ∈ st.dropLast, x.length ≤ 5000) := fun x hx => HSL.out x (List.dropLast_subset st hx)
                have hpos : 0 < st.length := List.length_pos_iff.2 h0
                have hdl : Hid (st.dropLast.length ≤ k + 1) := by show _ ≤ _; rw [List.length_dropLast]; omega
                clear ho h0 HSL
                obtain ⟨m, hm⟩ : ∃ m, st.length = m + 1 := ⟨st.length - 1, by omega⟩
                rw [hm, Nat.add_sub_cancel] at HO
                rw [hm] at hcap hst
                have f1 : ¬ ((m : Int) + 1 = 0) := by omega
                have f2 : (m : Int) ≤ (cap : Int) := by omega
                have f3 : (0 : Int) ≤ (m : Int) := by omega
                clear hpos
                generalize st.dropLast = st2 at *
                go_wp2_with fail
                go_roundw
                case rel => exact ⟨k + 1, st2, by omega, by go_num, hdl.out, HSL'.out, HW.eq, HO.out, HB.out⟩
                case measure => (simp [intOf]) <;> omega
          · rw [walk_add hx hx2] at HW
            have hx0 : x ≠ [] := fun e => hx (.inl e)
            have hx1 : x ≠ [46] := fun e => hx (.inr e)
            have e0 : (mk x).toList.isEmpty = false := by rw [E0.eq]; cases x with | nil => exact absurd rfl hx0 | cons a l => rfl
            have e1 : ((mk x).toList == [46]) = false := by rw [E1.eq]; simpa using hx1
            have e2 : ((mk x).toList == [46, 46]) = false := by rw [E2.eq]; simpa using hx2
            clear E0 E1 E2 hx hx2 hx0 hx1
            have HO : Hid (wr.ownsRow w1.heap.size 9 1 _ st.length (scells st)) := ho
            have HSL' : Hid (∀ y ∈ st ++ [x], y.length ≤ 5000) := fun y hy => by
              rcases List.mem_append.1 hy with h | h
              · exact HSL.out y h
              · rw [List.mem_singleton.1 h]; exact HXL.out
            have hv : ∃ ad n c, u5 = .slice ad n c := by
              rcases hsh with ⟨h, _⟩ | ⟨g, cap, h, _⟩
              · exact ⟨_, _, _, h⟩
              · exact ⟨_, _, _, h⟩
            obtain ⟨ad, nn, cc, rfl⟩ := hv
            have HSC : Is (scells (st ++ [x])) (scells st ++ [.string (mk x)]) := ⟨by rw [scells, scells, List.map_append]; rfl⟩
            clear ho hsh HSL
            generalize mk x = X at *
            go_wp2_with (first | (refine append_str rfl (.tmp 50) (.tmp 55) rfl _ w1.heap.size _ st.length (scells st) rfl (own_alloc1 HO.out _) ⟨wr.heap.size, 0, none⟩ 1 X rfl (str_new wr X) (by omega) (by simp; omega) ?_; intro v' w' hO2 hG2; have HO2 := (show Hid (w'.ownsRow w1.heap.size 9 1 v' (st.length + 1) (scells st ++ [.string X])) from hO2); have HB2 : Hid (Below w1.heap.size w1 w') := HB.out.trans ((((Below.refl _ wr).alloc (Nat.le_refl _) _).mono hsz).trans (hG2.below (own_alloc1 HO.out _) (by simp; omega))); clear hO2 hG2))
            go_roundw
            case rel => exact ⟨k + 1, st ++ [x], by omega, by go_num, by simp; omega, HSL'.out, HW.eq, by rw [HSC.eq, List.length_append]; exact HO2.out, HB2.out⟩
            case measure => (simp [intOf]) <;> omega
      · obtain rfl : k = n := by omega
        have i0 : ¬ (k : Int) < (k : Int) := by omega
        rw [List.drop_of_length_le (by rw [HLn.eq]; omega), Pm.walk] at HW
        rw [HW.eq] at HK
        replace HK : Is (Pm.clean (bl s)) (Pm.checked (Pm.join st)) := ⟨HK.eq⟩
        have HO : Hid (wr.ownsRow w1.heap.size 9 1 u5 st.length (scells st)) := ho
        have hv : ∃ ad n c, u5 = .slice ad n c := by
          rcases hsh with ⟨h, _⟩ | ⟨g, cap, h, _⟩
          · exact ⟨_, _, _, h⟩
          · exact ⟨_, _, _, h⟩
        obtain ⟨ad, nn, cc, rfl⟩ := hv
        clear ho hsh hB hsl hwk
        have hjl : (Pm.join st).length ≤ 5000 * 5001 := Nat.le_trans (join_short st 5000 HSL.out) (Nat.mul_le_mul_right _ (by omega))
        have HJ : Hid (∀ W : World, Calls Tryd.prog 38 #[.string (mk (Pm.join st))] W fun e w' => e = .returned (.tuple #[.string (mk (Pm.checked (Pm.join st)).1), .int .i64 ((Pm.checked (Pm.join st)).2 : Nat)]) ∧ Below W.heap.size W w') := fun W => rsure_big (mk (Pm.join st)) W (by rw [mk_size]; omega)
        have HJS : Hid (Calls Tryd.prog 39 #[.slice ad nn cc] wr fun e w' => e = .returned (.string (mk (Pm.join st))) ∧ w' = wr) := by
          obtain ⟨ad', c', hv', ht'⟩ := own_slice HO.out
          cases hv'
          exact rjn_any ad cc st wr (fun h => by obtain ⟨g, h1, _, h2⟩ := ht' h; exact ⟨g, h1, h2⟩) (by omega) (by omega)
        clear hjl
        generalize mk (Pm.join st) = X at *
        generalize Pm.checked (Pm.join st) = C at *
        go_wp2_with fail
        refine (show Calls _ _ _ _ _ from HJS.out).mono ?_
        rintro e w2 ⟨rfl, hw2⟩
        rw [hw2]
        clear hw2 w2
        go_wp2_with fail
        refine (HJ.out _).mono ?_
        rintro e w3 ⟨rfl, hB3⟩
        go_wp2_with fail
        go_ret2
        exact ⟨by rw [HK.eq]; rfl, HBz.out _ (HB.out.trans (hB3.mono hsz))⟩
end Go.Proofs.YtlgalcpnodadiaaDoor
