/- Proved: the law that a disk under any calls answers what the document says. -/
import Derived.Test.YtbhbfnnlpkikbaaDoesL
import Derived.Test.YtbhbfnnlpkikbaaReg
namespace Go.Proofs.Ytbhbfnnlpkikbaa
open Go.RowKit
set_option maxHeartbeats 20000000 in
set_option maxRecDepth 20000 in
theorem plays_walk (n : Int) (a : Option Addr) (len cap : Nat) (w : World) (_hn : -9223372036854775808 ≤ n ∧ n ≤ 9223372036854775807) (hA : Acts w a len) (_hlc : len ≤ cap) (_hcm : cap ≤ 9223372036854775807) :
    Calls Try.prog 3 #[.int .i64 n, .slice a len cap] w fun e w' => e = .returned (.bool true) ∧ Below w.heap.size w w' := by
  have HAC : Hid (Acts w a len) := hA
  clear hA
  by_cases h12 : 12 < n
  · have b12 : decide (12 < n) = true := by simpa using h12
    by_cases hmx : n ≤ 65536
    · have bmx : decide (n ≤ 65536) = true := by simpa using hmx
      obtain ⟨N, hN1, hN2, hNe, ht1, ht2⟩ : ∃ N : Nat, 1 ≤ N ∧ N ≤ 12 ∧ 1 + n % 12 = (N : Int) ∧ 0 ≤ n % 12 ∧ n % 12 < 12 := ⟨(1 + n % 12).toNat, by omega, by omega, by omega, by omega, by omega⟩
      go_enter Try.func3, Try.ntmps3
      go_wp2_with fail
      refine (new_any N w (by omega) (by omega)).mono ?_
      rintro e w0 ⟨g, kg, rfl, hD0, hB0, hg, hkg⟩
      have HD0 : Hid (Dk w0 g kg (.slice none 0 0) (Sc.made N)) := hD0
      have HB0 : Hid (Below w.heap.size w w0) := hB0
      have HA0 : Hid (∀ k ∈ foot g kg (.slice none 0 0), w.heap.size ≤ k) := fun k hk => by
        simp [foot, Value.ownBlock] at hk
        omega
      clear hNe ht1 ht2 b12 bmx h12 hmx hD0 hB0 hg hkg
      go_wp2_with fail
      refine (rnew_any N _ (by omega) (by omega)).mono ?_
      rintro e w1 ⟨h, vk, rfl, hR1, hB1, hab1⟩
      have HP1 : Hid (Pair w w1 g kg (.slice none 0 0) (Sc.made N) h vk (.slice none 0 0) (Sc.made N)) := by
        refine ⟨HD0.out.below hB1, hR1, fun k hk hr => ?_, HB0.out.trans (hB1.mono HB0.out.size), HA0.out, fun k hk => Nat.le_trans HB0.out.size (hab1 k hk)⟩
        have h1 := HD0.out.lt k hk
        have h2 := hab1 k hr
        omega
      clear hR1 hB1 hab1 HD0 HB0 HA0
      go_wp2_with fail
      have HLN : Hid ((Sc.made N).kept.length = N) := by show (Sc.made N).kept.length = N; simp [Sc.made]
      go_loopw [9] (fun s9 wr => ∃ (k : Nat) (v vp : Value) (s : Sc.St), k ≤ 60 ∧ k ≤ len ∧ s9 = .int .i64 (k : Int) ∧ Pair w wr g kg v s h vk vp s ∧ s.kept.length = N ∧ s.pend.length ≤ k ∧ s.dn ≤ k) (fun s9 _ => 60 - (intOf s9).toNat)
      case atStart => exact ⟨0, _, _, Sc.made N, by omega, by omega, rfl, HP1.out, HLN.out, Nat.le_refl 0, Nat.le_refl 0⟩
      case round =>
        obtain ⟨k, v, vp, s, hk60, hkl, rfl, hP, hlen, hpn, hdn⟩ := hrel
        have HP : Hid (Pair w wr g kg v s h vk vp s) := hP
        have HLEN : Hid (s.kept.length = N) := hlen
        clear hP HP1 HLN hlen
        by_cases hin : k < len ∧ k < 60
        · obtain ⟨hl1, hl2⟩ := hin
          have d1 : decide ((k : Int) < (len : Int)) = true := by simp; omega
          have d2 : decide ((k : Int) < 60) = true := by simp; omega
          have k0 : (0 : Int) ≤ (k : Int) := by omega
          have k1 : (k : Int) < (len : Int) := by omega
          obtain ⟨b, off, rfl, x, hx, c0, c1, c2, c3⟩ := HAC.out.at HP.out.bel hl1
          have HDO := does_any x w g kg v h vk vp s wr.drew HP.out.drew hx (by omega) (by omega)
          obtain ⟨kind, at', sx, ka, kl, kc, m⟩ := x
          unfold Act.cells at HDO
          simp only at c0 c1 c2 c3 HDO
          have HDX : Hid (Calls Try.prog 10 #[ptr g, ptr h, .agg #[.int .i64 kind, .int .i64 at', .string sx, .slice ka kl kc]] wr.drew fun e w' => e = .returned (.bool true) ∧ DoesP w g kg h vk s w') := HDO
          clear hx HDO
          go_wp2_with fail
          have HS : Hid ((fun U : World => U.cell? ⟨b, off + k * 4, none⟩ = some (.int .i64 kind) ∧ U.cell? ⟨b, off + k * 4 + 1, none⟩ = some (.int .i64 at') ∧ U.cell? ⟨b, off + k * 4 + 2, none⟩ = some (.string sx) ∧ U.cell? ⟨b, off + k * 4 + 3, none⟩ = some (.slice ka kl kc)) wr.drew) := ⟨c0, c1, c2, c3⟩
          have HBW : Hid (∀ U : World, Below w.heap.size w U → U.cell? ⟨b, off + k * 4, none⟩ = some (.int .i64 kind) ∧ U.cell? ⟨b, off + k * 4 + 1, none⟩ = some (.int .i64 at') ∧ U.cell? ⟨b, off + k * 4 + 2, none⟩ = some (.string sx) ∧ U.cell? ⟨b, off + k * 4 + 3, none⟩ = some (.slice ka kl kc)) := fun U hU => by
            have hl : b < w.heap.size := by
              rcases HAC.out with h | ⟨b', off', ha, hc⟩
              · omega
              · obtain ⟨y, _, hr⟩ := hc k hl1
                cases ha
                exact block_lt_of_cell (hr 0 _ rfl)
            have hw : ∀ o u, wr.cell? ⟨b, o, none⟩ = some u → U.cell? ⟨b, o, none⟩ = some u := fun o u hu => ((hU.cell (p := ⟨b, o, none⟩) hl).trans (HP.out.bel.cell (p := ⟨b, o, none⟩) hl).symm).trans hu
            exact ⟨hw _ _ c0, hw _ _ c1, hw _ _ c2, hw _ _ c3⟩
          clear c0 c1 c2 c3
          refine wp_region_held_drew (S := fun U => U.cell? ⟨b, off + k * 4, none⟩ = some (.int .i64 kind) ∧ U.cell? ⟨b, off + k * 4 + 1, none⟩ = some (.int .i64 at') ∧ U.cell? ⟨b, off + k * 4 + 2, none⟩ = some (.string sx) ∧ U.cell? ⟨b, off + k * 4 + 3, none⟩ = some (.slice ka kl kc)) (by kernel_rfl) HS.out (fun _ => ?_)
          refine heldTake 0 (some 58) (ptr g) rfl rfl (by kernel_rfl) (by kernel_rfl) (by kernel_rfl) (fun _ _ _ h => h) (Or.inl ⟨by rfl, fun w hS => ?_⟩) HS.out ?_
          · (go_simp)
          simp only [Act.put, List.setIfInBounds_toArray, List.set_cons_zero, List.set_cons_succ]
          refine heldTake 1 (some 59) (ptr h) rfl rfl (by kernel_rfl) (by kernel_rfl) (by kernel_rfl) (fun _ _ _ h => h) (Or.inl ⟨by rfl, fun w hS => ?_⟩) HS.out ?_
          · (go_simp)
          simp only [Act.put, List.setIfInBounds_toArray, List.set_cons_zero, List.set_cons_succ]
          refine heldTake 2 (some 60) (.slice (some ⟨b, off, none⟩) len cap) rfl rfl (by kernel_rfl) (by kernel_rfl) (by kernel_rfl) (fun _ _ _ h => h) (Or.inl ⟨by rfl, fun w hS => ?_⟩) HS.out ?_
          · (go_simp)
          simp only [Act.put, List.setIfInBounds_toArray, List.set_cons_zero, List.set_cons_succ]
          refine heldTake 3 (some 61) (.int .i64 (k : Int)) rfl rfl (by kernel_rfl) (by kernel_rfl) (by kernel_rfl) (fun _ _ _ h => h) (Or.inl ⟨by rfl, fun w hS => ?_⟩) HS.out ?_
          · (go_simp)
          simp only [Act.put, List.setIfInBounds_toArray, List.set_cons_zero, List.set_cons_succ]
          refine heldTake 4 (some 62) (.pointer (some ⟨b, off + k * 4, none⟩)) rfl rfl (by kernel_rfl) (by kernel_rfl) (by kernel_rfl) (fun _ _ _ h => h) (Or.inl ⟨by rfl, fun w hS => ?_⟩) HS.out ?_
          · (go_simp)
          simp only [Act.put, List.setIfInBounds_toArray, List.set_cons_zero, List.set_cons_succ]
          refine heldTake 5 (some 63) (.agg #[.int .i64 kind, .int .i64 at', .string sx, .slice ka kl kc]) rfl rfl (by kernel_rfl) (by kernel_rfl) (by kernel_rfl) (fun _ _ _ h => h) (Or.inl ⟨by rfl, fun w hS => ?_⟩) HS.out ?_
          · (obtain ⟨p0, p1, p2, p3⟩ := hS; go_simp)
          simp only [Act.put, List.setIfInBounds_toArray, List.set_cons_zero, List.set_cons_succ]
          refine heldOne 6 (by kernel_rfl) rfl (by rfl) (fun KK hK => ?_)
          go_simp
          go_at_call 10
          refine HDX.out.mono ?_
          rintro e w3 ⟨rfl, v3, vp3, s3, hP3, hst⟩
          have HP3 : Hid (Pair w w3 g kg v3 s3 h vk vp3 s3) := hP3
          have HLEN3 : Hid (s3.kept.length = N) := hst.len.trans HLEN.out
          have hpn3 : s3.pend.length ≤ k + 1 := by have := hst.pend; omega
          have hdn3 : s3.dn ≤ k + 1 := by have := hst.dn; omega
          refine hK.out _ _ (HBW.out w3 hP3.bel) ?_
          clear hK KK
          obtain ⟨kg2, kcap, hkv, hkc1, hkc2, hkr⟩ := hP3.rk.kval
          obtain ⟨pa, pcap, hpv, hpc1, hpc2, _⟩ := hP3.rk.pval
          have HS2 : Hid ((fun U : World => (U.cell? ⟨b, off + k * 4, none⟩ = some (.int .i64 kind) ∧ U.cell? ⟨b, off + k * 4 + 1, none⟩ = some (.int .i64 at') ∧ U.cell? ⟨b, off + k * 4 + 2, none⟩ = some (.string sx) ∧ U.cell? ⟨b, off + k * 4 + 3, none⟩ = some (.slice ka kl kc)) ∧ U.cell? ⟨h, 0, none⟩ = some (.slice (some ⟨kg2, 0, none⟩) s3.kept.length kcap) ∧ U.cell? ⟨h, 1, none⟩ = some (.slice pa s3.pend.length pcap) ∧ U.cell? ⟨h, 2, none⟩ = some (.bool s3.down) ∧ U.cell? ⟨h, 4, none⟩ = some (.int .i64 (s3.dn : Int))) w3) := by
            refine ⟨HBW.out w3 hP3.bel, ?_, ?_, hP3.rk.c2, hP3.rk.c4⟩
            · rw [← hkv]; exact hP3.rk.c0
            · rw [← hpv]; exact hP3.rk.c1
          have HVK : Hid (vk = .slice (some ⟨kg2, 0, none⟩) s3.kept.length kcap) := hkv
          have HPE := pending_any g kg v3 s3 w3 hP3.dk
          have HDN := down_any g kg v3 s3 w3 hP3.dk
          have HDE := done_any g kg v3 s3 w3 hP3.dk
          have HSZ := size_any g kg v3 s3 w3 hP3.dk
          clear hP3 hst hkr hkv hpv HS HP HDX
          refine heldMono (S' := fun U => (U.cell? ⟨b, off + k * 4, none⟩ = some (.int .i64 kind) ∧ U.cell? ⟨b, off + k * 4 + 1, none⟩ = some (.int .i64 at') ∧ U.cell? ⟨b, off + k * 4 + 2, none⟩ = some (.string sx) ∧ U.cell? ⟨b, off + k * 4 + 3, none⟩ = some (.slice ka kl kc)) ∧ U.cell? ⟨h, 0, none⟩ = some (.slice (some ⟨kg2, 0, none⟩) s3.kept.length kcap) ∧ U.cell? ⟨h, 1, none⟩ = some (.slice pa s3.pend.length pcap) ∧ U.cell? ⟨h, 2, none⟩ = some (.bool s3.down) ∧ U.cell? ⟨h, 4, none⟩ = some (.int .i64 (s3.dn : Int))) (fun _ h => h.1) _ _ _ _ ?_
          refine heldTake 7 (some 65) (.bool false) rfl rfl (by kernel_rfl) (by kernel_rfl) (by kernel_rfl) (fun _ _ _ h => h) (Or.inl ⟨by rfl, fun w hS => ?_⟩) HS2.out ?_
          · (go_simp)
          simp only [Act.put, List.setIfInBounds_toArray, List.set_cons_zero, List.set_cons_succ]
          refine heldTake 8 (some 66) (.bool false) rfl rfl (by kernel_rfl) (by kernel_rfl) (by kernel_rfl) (fun _ _ _ h => h) (Or.inl ⟨by rfl, fun w hS => ?_⟩) HS2.out ?_
          · (go_simp)
          simp only [Act.put, List.setIfInBounds_toArray, List.set_cons_zero, List.set_cons_succ]
          refine heldTake 9 (some 67) (ptr g) rfl rfl (by kernel_rfl) (by kernel_rfl) (by kernel_rfl) (fun _ _ _ h => h) (Or.inl ⟨by rfl, fun w hS => ?_⟩) HS2.out ?_
          · (go_simp)
          simp only [Act.put, List.setIfInBounds_toArray, List.set_cons_zero, List.set_cons_succ]
          refine heldTake 11 (some 69) (ptr h) rfl rfl (by kernel_rfl) (by kernel_rfl) (by kernel_rfl) (fun _ _ _ h => h) (Or.inl ⟨by rfl, fun w hS => ?_⟩) HS2.out ?_
          · (go_simp)
          simp only [Act.put, List.setIfInBounds_toArray, List.set_cons_zero, List.set_cons_succ]
          refine heldTake 12 (some 70) (ptr h) rfl rfl (by kernel_rfl) (by kernel_rfl) (by kernel_rfl) (fun _ _ _ h => h) (Or.inl ⟨by rfl, fun w hS => ?_⟩) HS2.out ?_
          · (go_simp)
          simp only [Act.put, List.setIfInBounds_toArray, List.set_cons_zero, List.set_cons_succ]
          refine heldTake 13 (some 71) (.pointer (some ⟨h, 1, none⟩)) rfl rfl (by kernel_rfl) (by kernel_rfl) (by kernel_rfl) (fun _ _ _ h => h) (Or.inl ⟨by rfl, fun w hS => ?_⟩) HS2.out ?_
          · (go_simp)
          simp only [Act.put, List.setIfInBounds_toArray, List.set_cons_zero, List.set_cons_succ]
          refine heldTake 14 (some 72) (.slice pa s3.pend.length pcap) rfl rfl (by kernel_rfl) (by kernel_rfl) (by kernel_rfl) (fun _ _ _ h => h) (Or.inl ⟨by rfl, fun w hS => ?_⟩) HS2.out ?_
          · (obtain ⟨_, p0, p1, p2, p4⟩ := hS; go_simp)
          simp only [Act.put, List.setIfInBounds_toArray, List.set_cons_zero, List.set_cons_succ]
          refine heldTake 15 (some 73) (.int .i64 (s3.pend.length : Int)) rfl rfl (by kernel_rfl) (by kernel_rfl) (by kernel_rfl) (fun _ _ _ h => h) (Or.inl ⟨by rfl, fun w hS => ?_⟩) HS2.out ?_
          · (go_simp)
          simp only [Act.put, List.setIfInBounds_toArray, List.set_cons_zero, List.set_cons_succ]
          refine heldOne 10 (by kernel_rfl) rfl (by rfl) (fun KK hK => ?_)
          go_simp
          go_at_call 11
          refine (HPE).mono ?_
          rintro e wS ⟨rfl, hwS⟩
          rw [hwS]
          clear hwS wS
          refine hK.out _ _ HS2.out ?_
          clear hK KK
          refine heldTake 16 (some 74) (.bool false) rfl rfl (by kernel_rfl) (by kernel_rfl) (by kernel_rfl) (fun _ _ _ h => h) (Or.inl ⟨by rfl, fun w hS => ?_⟩) HS2.out ?_
          · (go_simp)
          simp only [Act.put, List.setIfInBounds_toArray, List.set_cons_zero, List.set_cons_succ]
          refine heldTake 17 (some 75) (.bool false) rfl rfl (by kernel_rfl) (by kernel_rfl) (by kernel_rfl) (fun _ _ _ h => h) (Or.inl ⟨by rfl, fun w hS => ?_⟩) HS2.out ?_
          · (go_simp)
          simp only [Act.put, List.setIfInBounds_toArray, List.set_cons_zero, List.set_cons_succ]
          refine heldTake 18 (some 76) (.bool false) rfl rfl (by kernel_rfl) (by kernel_rfl) (by kernel_rfl) (fun _ _ _ h => h) (Or.inl ⟨by rfl, fun w hS => ?_⟩) HS2.out ?_
          · (go_simp)
          simp only [Act.put, List.setIfInBounds_toArray, List.set_cons_zero, List.set_cons_succ]
          refine heldTake 19 (some 77) (ptr g) rfl rfl (by kernel_rfl) (by kernel_rfl) (by kernel_rfl) (fun _ _ _ h => h) (Or.inl ⟨by rfl, fun w hS => ?_⟩) HS2.out ?_
          · (go_simp)
          simp only [Act.put, List.setIfInBounds_toArray, List.set_cons_zero, List.set_cons_succ]
          refine heldTake 21 (some 79) (ptr h) rfl rfl (by kernel_rfl) (by kernel_rfl) (by kernel_rfl) (fun _ _ _ h => h) (Or.inl ⟨by rfl, fun w hS => ?_⟩) HS2.out ?_
          · (go_simp)
          simp only [Act.put, List.setIfInBounds_toArray, List.set_cons_zero, List.set_cons_succ]
          refine heldTake 22 (some 80) (ptr h) rfl rfl (by kernel_rfl) (by kernel_rfl) (by kernel_rfl) (fun _ _ _ h => h) (Or.inl ⟨by rfl, fun w hS => ?_⟩) HS2.out ?_
          · (go_simp)
          simp only [Act.put, List.setIfInBounds_toArray, List.set_cons_zero, List.set_cons_succ]
          refine heldTake 23 (some 81) (.pointer (some ⟨h, 2, none⟩)) rfl rfl (by kernel_rfl) (by kernel_rfl) (by kernel_rfl) (fun _ _ _ h => h) (Or.inl ⟨by rfl, fun w hS => ?_⟩) HS2.out ?_
          · (go_simp)
          simp only [Act.put, List.setIfInBounds_toArray, List.set_cons_zero, List.set_cons_succ]
          refine heldTake 24 (some 82) (.bool s3.down) rfl rfl (by kernel_rfl) (by kernel_rfl) (by kernel_rfl) (fun _ _ _ h => h) (Or.inl ⟨by rfl, fun w hS => ?_⟩) HS2.out ?_
          · (obtain ⟨_, p0, p1, p2, p4⟩ := hS; go_simp)
          simp only [Act.put, List.setIfInBounds_toArray, List.set_cons_zero, List.set_cons_succ]
          refine heldOne 20 (by kernel_rfl) rfl (by rfl) (fun KK hK => ?_)
          go_simp
          go_at_call 12
          refine (HDN).mono ?_
          rintro e wS ⟨rfl, hwS⟩
          rw [hwS]
          clear hwS wS
          refine hK.out _ _ HS2.out ?_
          clear hK KK
          refine heldTake 25 (some 83) (.bool false) rfl rfl (by kernel_rfl) (by kernel_rfl) (by kernel_rfl) (fun _ _ _ h => h) (Or.inl ⟨by rfl, fun w hS => ?_⟩) HS2.out ?_
          · (go_simp)
          simp only [Act.put, List.setIfInBounds_toArray, List.set_cons_zero, List.set_cons_succ]
          refine heldTake 26 (some 84) (.bool false) rfl rfl (by kernel_rfl) (by kernel_rfl) (by kernel_rfl) (fun _ _ _ h => h) (Or.inl ⟨by rfl, fun w hS => ?_⟩) HS2.out ?_
          · (go_simp)
          simp only [Act.put, List.setIfInBounds_toArray, List.set_cons_zero, List.set_cons_succ]
          refine heldTake 27 (some 85) (.bool false) rfl rfl (by kernel_rfl) (by kernel_rfl) (by kernel_rfl) (fun _ _ _ h => h) (Or.inl ⟨by rfl, fun w hS => ?_⟩) HS2.out ?_
          · (go_simp)
          simp only [Act.put, List.setIfInBounds_toArray, List.set_cons_zero, List.set_cons_succ]
          refine heldTake 28 (some 86) (ptr g) rfl rfl (by kernel_rfl) (by kernel_rfl) (by kernel_rfl) (fun _ _ _ h => h) (Or.inl ⟨by rfl, fun w hS => ?_⟩) HS2.out ?_
          · (go_simp)
          simp only [Act.put, List.setIfInBounds_toArray, List.set_cons_zero, List.set_cons_succ]
          refine heldTake 30 (some 88) (ptr h) rfl rfl (by kernel_rfl) (by kernel_rfl) (by kernel_rfl) (fun _ _ _ h => h) (Or.inl ⟨by rfl, fun w hS => ?_⟩) HS2.out ?_
          · (go_simp)
          simp only [Act.put, List.setIfInBounds_toArray, List.set_cons_zero, List.set_cons_succ]
          refine heldTake 31 (some 89) (ptr h) rfl rfl (by kernel_rfl) (by kernel_rfl) (by kernel_rfl) (fun _ _ _ h => h) (Or.inl ⟨by rfl, fun w hS => ?_⟩) HS2.out ?_
          · (go_simp)
          simp only [Act.put, List.setIfInBounds_toArray, List.set_cons_zero, List.set_cons_succ]
          refine heldTake 32 (some 90) (.pointer (some ⟨h, 4, none⟩)) rfl rfl (by kernel_rfl) (by kernel_rfl) (by kernel_rfl) (fun _ _ _ h => h) (Or.inl ⟨by rfl, fun w hS => ?_⟩) HS2.out ?_
          · (go_simp)
          simp only [Act.put, List.setIfInBounds_toArray, List.set_cons_zero, List.set_cons_succ]
          refine heldTake 33 (some 91) (.int .i64 (s3.dn : Int)) rfl rfl (by kernel_rfl) (by kernel_rfl) (by kernel_rfl) (fun _ _ _ h => h) (Or.inl ⟨by rfl, fun w hS => ?_⟩) HS2.out ?_
          · (obtain ⟨_, p0, p1, p2, p4⟩ := hS; go_simp)
          simp only [Act.put, List.setIfInBounds_toArray, List.set_cons_zero, List.set_cons_succ]
          refine heldOne 29 (by kernel_rfl) rfl (by rfl) (fun KK hK => ?_)
          go_simp
          go_at_call 13
          refine (HDE).mono ?_
          rintro e wS ⟨rfl, hwS⟩
          rw [hwS]
          clear hwS wS
          refine hK.out _ _ HS2.out ?_
          clear hK KK
          refine heldTake 34 (some 92) (.bool false) rfl rfl (by kernel_rfl) (by kernel_rfl) (by kernel_rfl) (fun _ _ _ h => h) (Or.inl ⟨by rfl, fun w hS => ?_⟩) HS2.out ?_
          · (go_simp)
          simp only [Act.put, List.setIfInBounds_toArray, List.set_cons_zero, List.set_cons_succ]
          refine heldTake 35 (some 93) (.bool false) rfl rfl (by kernel_rfl) (by kernel_rfl) (by kernel_rfl) (fun _ _ _ h => h) (Or.inl ⟨by rfl, fun w hS => ?_⟩) HS2.out ?_
          · (go_simp)
          simp only [Act.put, List.setIfInBounds_toArray, List.set_cons_zero, List.set_cons_succ]
          refine heldTake 36 (some 94) (.bool false) rfl rfl (by kernel_rfl) (by kernel_rfl) (by kernel_rfl) (fun _ _ _ h => h) (Or.inl ⟨by rfl, fun w hS => ?_⟩) HS2.out ?_
          · (go_simp)
          simp only [Act.put, List.setIfInBounds_toArray, List.set_cons_zero, List.set_cons_succ]
          refine heldTake 37 (some 95) (ptr g) rfl rfl (by kernel_rfl) (by kernel_rfl) (by kernel_rfl) (fun _ _ _ h => h) (Or.inl ⟨by rfl, fun w hS => ?_⟩) HS2.out ?_
          · (go_simp)
          simp only [Act.put, List.setIfInBounds_toArray, List.set_cons_zero, List.set_cons_succ]
          refine heldTake 39 (some 97) (ptr h) rfl rfl (by kernel_rfl) (by kernel_rfl) (by kernel_rfl) (fun _ _ _ h => h) (Or.inl ⟨by rfl, fun w hS => ?_⟩) HS2.out ?_
          · (go_simp)
          simp only [Act.put, List.setIfInBounds_toArray, List.set_cons_zero, List.set_cons_succ]
          refine heldTake 40 (some 98) (ptr h) rfl rfl (by kernel_rfl) (by kernel_rfl) (by kernel_rfl) (fun _ _ _ h => h) (Or.inl ⟨by rfl, fun w hS => ?_⟩) HS2.out ?_
          · (go_simp)
          simp only [Act.put, List.setIfInBounds_toArray, List.set_cons_zero, List.set_cons_succ]
          refine heldTake 41 (some 99) (ptr h) rfl rfl (by kernel_rfl) (by kernel_rfl) (by kernel_rfl) (fun _ _ _ h => h) (Or.inl ⟨by rfl, fun w hS => ?_⟩) HS2.out ?_
          · (go_simp)
          simp only [Act.put, List.setIfInBounds_toArray, List.set_cons_zero, List.set_cons_succ]
          refine heldTake 42 (some 100) (.slice (some ⟨kg2, 0, none⟩) s3.kept.length kcap) rfl rfl (by kernel_rfl) (by kernel_rfl) (by kernel_rfl) (fun _ _ _ h => h) (Or.inl ⟨by rfl, fun w hS => ?_⟩) HS2.out ?_
          · (obtain ⟨_, p0, p1, p2, p4⟩ := hS; go_simp)
          simp only [Act.put, List.setIfInBounds_toArray, List.set_cons_zero, List.set_cons_succ]
          refine heldTake 43 (some 101) (.int .i64 (s3.kept.length : Int)) rfl rfl (by kernel_rfl) (by kernel_rfl) (by kernel_rfl) (fun _ _ _ h => h) (Or.inl ⟨by rfl, fun w hS => ?_⟩) HS2.out ?_
          · (go_simp)
          simp only [Act.put, List.setIfInBounds_toArray, List.set_cons_zero, List.set_cons_succ]
          refine heldOne 38 (by kernel_rfl) rfl (by rfl) (fun KK hK => ?_)
          go_simp
          go_at_call 14
          refine (HSZ).mono ?_
          rintro e wS ⟨rfl, hwS⟩
          rw [hwS]
          clear hwS wS
          refine hK.out _ _ HS2.out ?_
          clear hK KK
          refine heldTake 44 (some 102) (.bool false) rfl rfl (by kernel_rfl) (by kernel_rfl) (by kernel_rfl) (fun _ _ _ h => h) (Or.inl ⟨by rfl, fun w hS => ?_⟩) HS2.out ?_
          · (go_simp)
          simp only [Act.put, List.setIfInBounds_toArray, List.set_cons_zero, List.set_cons_succ]
          refine heldTake 45 (some 103) (.bool false) rfl rfl (by kernel_rfl) (by kernel_rfl) (by kernel_rfl) (fun _ _ _ h => h) (Or.inl ⟨by rfl, fun w hS => ?_⟩) HS2.out ?_
          · (go_simp)
          simp only [Act.put, List.setIfInBounds_toArray, List.set_cons_zero, List.set_cons_succ]
          refine wpAnyH_done (by kernel_rfl) ?_ _
          have e0 : w3.cell? ⟨h, 0, none⟩ = some (.slice (some ⟨kg2, 0, none⟩) s3.kept.length kcap) := HS2.out.2.1
          clear HPE HDN HDE HSZ HS2 HBW
          go_wp2_with fail
          clear e0
          go_loopw [109] (fun s109 wq => ∃ j : Nat, j ≤ s3.kept.length ∧ s109 = .int .i64 (j : Int) ∧ Pair w wq g kg v3 s3 h vk vp3 s3) (fun s109 _ => s3.kept.length - (intOf s109).toNat)
          case atStart => exact ⟨0, by omega, rfl, HP3.out⟩
          case round =>
            rename World => wq
            obtain ⟨j, hj, rfl, hQ⟩ := hrel
            have HQ : Hid (Pair w wq g kg v3 s3 h vk vp3 s3) := hQ
            clear hQ HP3
            by_cases hjl : j < s3.kept.length
            · have dj : decide ((j : Int) < (s3.kept.length : Int)) = true := by simp; omega
              go_wp2_with fail
              refine (read_any g kg v3 s3 (j : Int) wq HQ.out.dk).mono ?_
              rintro e w5 ⟨rfl, hB5⟩
              have HQ5 : Hid (Pair w w5 g kg v3 s3 h vk vp3 s3) := HQ.out.below hB5
              clear hB5
              go_wp2_with fail
              refine (rread_any h vk vp3 s3 (j : Int) w5 HQ5.out.rk).mono ?_
              rintro e wS ⟨rfl, hwS⟩
              rw [hwS]
              clear hwS wS
              have HFN : Hid (∃ j' : Nat, j' ≤ s3.kept.length ∧ Value.int .i64 ((j : Int) + 1) = .int .i64 (j' : Int) ∧ Pair w w5 g kg v3 s3 h vk vp3 s3) := ⟨j + 1, by omega, by go_num, HQ5.out⟩
              generalize Sc.readV s3 (j : Int) = rv at *
              generalize Sc.readE s3 (j : Int) = re at *
              go_wp2
              go_roundw
              case rel => first | exact HFN.out | ((repeat apply Exists.intro); exact ⟨HFN.out, rfl⟩)
              case measure => (simp [intOf]) <;> omega
            · have dj : decide ((j : Int) < (s3.kept.length : Int)) = false := by simp; omega
              have HFN : Hid (∃ (k' : Nat) (v vp : Value) (s : Sc.St), k' ≤ 60 ∧ k' ≤ len ∧ Value.int .i64 ((k : Int) + 1) = .int .i64 (k' : Int) ∧ Pair w wq g kg v s h vk vp s ∧ s.kept.length = N ∧ s.pend.length ≤ k' ∧ s.dn ≤ k') := ⟨k + 1, v3, vp3, s3, by omega, by omega, by go_num, HQ.out, HLEN3.out, hpn3, hdn3⟩
              go_wp2
              go_roundw
              case rel => first | exact HFN.out | ((repeat apply Exists.intro); exact ⟨HFN.out, rfl⟩)
              case measure => (simp [intOf]) <;> omega
        · by_cases hl1 : k < len
          · have d1 : decide ((k : Int) < (len : Int)) = true := by simp; omega
            have d2 : decide ((k : Int) < 60) = false := by simp; omega
            have hk6 : ¬ k < 60 := by omega
            go_wp2_with (go_at_call 17; refine (works_any _).mono ?_; rintro e w9 ⟨rfl, hB9⟩)
            go_ret
            exact ⟨rfl, HP.out.bel.trans (hB9.mono HP.out.bel.size)⟩
          · have d1 : decide ((k : Int) < (len : Int)) = false := by simp; omega
            go_wp2_with (go_at_call 17; refine (works_any _).mono ?_; rintro e w9 ⟨rfl, hB9⟩)
            go_ret
            exact ⟨rfl, HP.out.bel.trans (hB9.mono HP.out.bel.size)⟩
    · have bmx : decide (n ≤ 65536) = false := by simpa using hmx
      go_enter Try.func3, Try.ntmps3
      have HBN : Hid (∀ W : World, Calls Try.prog 8 #[.int .i64 n] W fun e w' => e = .returned (.tuple #[.pointer none, .int .i64 2]) ∧ w' = W) := fun W => new_bad n W (by omega)
      have HBR : Hid (∀ W : World, Calls Try.prog 9 #[.int .i64 n] W fun e w' => e = .returned (.tuple #[.pointer none, .int .i64 2]) ∧ w' = W) := fun W => rnew_bad n W (by omega)
      go_wp2_with fail
      refine (HBN.out _).mono ?_
      rintro e wS ⟨rfl, hwS⟩
      rw [hwS]
      clear hwS wS
      go_wp2_with fail
      refine (HBR.out _).mono ?_
      rintro e wS ⟨rfl, hwS⟩
      rw [hwS]
      clear hwS wS
      go_wp2_with fail
      go_loopw [9] (fun s9 wr => s9 = .int .i64 0 ∧ wr = w) (fun _ _ => 0)
      case atStart => exact ⟨rfl, rfl⟩
      case round =>
        obtain ⟨rfl, rfl⟩ := hrel
        by_cases hl1 : 0 < len
        · have d1 : decide ((0 : Int) < (len : Int)) = true := by simp; omega
          go_wp2_with (go_at_call 17; refine (works_any _).mono ?_; rintro e w9 ⟨rfl, hB9⟩)
          go_ret
          exact ⟨rfl, hB9⟩
        · have d1 : decide ((0 : Int) < (len : Int)) = false := by simp; omega
          go_wp2_with (go_at_call 17; refine (works_any _).mono ?_; rintro e w9 ⟨rfl, hB9⟩)
          go_ret
          exact ⟨rfl, hB9⟩
  · have b12 : decide (12 < n) = false := by simpa using h12
    by_cases h1 : n < 1
    · go_enter Try.func3, Try.ntmps3
      have HBN : Hid (∀ W : World, Calls Try.prog 8 #[.int .i64 n] W fun e w' => e = .returned (.tuple #[.pointer none, .int .i64 2]) ∧ w' = W) := fun W => new_bad n W (by omega)
      have HBR : Hid (∀ W : World, Calls Try.prog 9 #[.int .i64 n] W fun e w' => e = .returned (.tuple #[.pointer none, .int .i64 2]) ∧ w' = W) := fun W => rnew_bad n W (by omega)
      go_wp2_with fail
      refine (HBN.out _).mono ?_
      rintro e wS ⟨rfl, hwS⟩
      rw [hwS]
      clear hwS wS
      go_wp2_with fail
      refine (HBR.out _).mono ?_
      rintro e wS ⟨rfl, hwS⟩
      rw [hwS]
      clear hwS wS
      go_wp2_with fail
      go_loopw [9] (fun s9 wr => s9 = .int .i64 0 ∧ wr = w) (fun _ _ => 0)
      case atStart => exact ⟨rfl, rfl⟩
      case round =>
        obtain ⟨rfl, rfl⟩ := hrel
        by_cases hl1 : 0 < len
        · have d1 : decide ((0 : Int) < (len : Int)) = true := by simp; omega
          go_wp2_with (go_at_call 17; refine (works_any _).mono ?_; rintro e w9 ⟨rfl, hB9⟩)
          go_ret
          exact ⟨rfl, hB9⟩
        · have d1 : decide ((0 : Int) < (len : Int)) = false := by simp; omega
          go_wp2_with (go_at_call 17; refine (works_any _).mono ?_; rintro e w9 ⟨rfl, hB9⟩)
          go_ret
          exact ⟨rfl, hB9⟩
    · obtain ⟨N, rfl⟩ : ∃ N : Nat, n = (N : Int) := ⟨n.toNat, by omega⟩
      have hN1 : 1 ≤ N := by omega
      have hN2 : N ≤ 12 := by omega
      go_enter Try.func3, Try.ntmps3
      go_wp2_with fail
      refine (new_any N w (by omega) (by omega)).mono ?_
      rintro e w0 ⟨g, kg, rfl, hD0, hB0, hg, hkg⟩
      have HD0 : Hid (Dk w0 g kg (.slice none 0 0) (Sc.made N)) := hD0
      have HB0 : Hid (Below w.heap.size w w0) := hB0
      have HA0 : Hid (∀ k ∈ foot g kg (.slice none 0 0), w.heap.size ≤ k) := fun k hk => by
        simp [foot, Value.ownBlock] at hk
        omega
      clear hD0 hB0 hg hkg
      go_wp2_with fail
      refine (rnew_any N _ (by omega) (by omega)).mono ?_
      rintro e w1 ⟨h, vk, rfl, hR1, hB1, hab1⟩
      have HP1 : Hid (Pair w w1 g kg (.slice none 0 0) (Sc.made N) h vk (.slice none 0 0) (Sc.made N)) := by
        refine ⟨HD0.out.below hB1, hR1, fun k hk hr => ?_, HB0.out.trans (hB1.mono HB0.out.size), HA0.out, fun k hk => Nat.le_trans HB0.out.size (hab1 k hk)⟩
        have h1 := HD0.out.lt k hk
        have h2 := hab1 k hr
        omega
      clear hR1 hB1 hab1 HD0 HB0 HA0
      go_wp2_with fail
      have HLN : Hid ((Sc.made N).kept.length = N) := by show (Sc.made N).kept.length = N; simp [Sc.made]
      go_loopw [9] (fun s9 wr => ∃ (k : Nat) (v vp : Value) (s : Sc.St), k ≤ 60 ∧ k ≤ len ∧ s9 = .int .i64 (k : Int) ∧ Pair w wr g kg v s h vk vp s ∧ s.kept.length = N ∧ s.pend.length ≤ k ∧ s.dn ≤ k) (fun s9 _ => 60 - (intOf s9).toNat)
      case atStart => exact ⟨0, _, _, Sc.made N, by omega, by omega, rfl, HP1.out, HLN.out, Nat.le_refl 0, Nat.le_refl 0⟩
      case round =>
        obtain ⟨k, v, vp, s, hk60, hkl, rfl, hP, hlen, hpn, hdn⟩ := hrel
        have HP : Hid (Pair w wr g kg v s h vk vp s) := hP
        have HLEN : Hid (s.kept.length = N) := hlen
        clear hP HP1 HLN hlen
        by_cases hin : k < len ∧ k < 60
        · obtain ⟨hl1, hl2⟩ := hin
          have d1 : decide ((k : Int) < (len : Int)) = true := by simp; omega
          have d2 : decide ((k : Int) < 60) = true := by simp; omega
          have k0 : (0 : Int) ≤ (k : Int) := by omega
          have k1 : (k : Int) < (len : Int) := by omega
          obtain ⟨b, off, rfl, x, hx, c0, c1, c2, c3⟩ := HAC.out.at HP.out.bel hl1
          have HDO := does_any x w g kg v h vk vp s wr.drew HP.out.drew hx (by omega) (by omega)
          obtain ⟨kind, at', sx, ka, kl, kc, m⟩ := x
          unfold Act.cells at HDO
          simp only at c0 c1 c2 c3 HDO
          have HDX : Hid (Calls Try.prog 10 #[ptr g, ptr h, .agg #[.int .i64 kind, .int .i64 at', .string sx, .slice ka kl kc]] wr.drew fun e w' => e = .returned (.bool true) ∧ DoesP w g kg h vk s w') := HDO
          clear hx HDO
          go_wp2_with fail
          have HS : Hid ((fun U : World => U.cell? ⟨b, off + k * 4, none⟩ = some (.int .i64 kind) ∧ U.cell? ⟨b, off + k * 4 + 1, none⟩ = some (.int .i64 at') ∧ U.cell? ⟨b, off + k * 4 + 2, none⟩ = some (.string sx) ∧ U.cell? ⟨b, off + k * 4 + 3, none⟩ = some (.slice ka kl kc)) wr.drew) := ⟨c0, c1, c2, c3⟩
          have HBW : Hid (∀ U : World, Below w.heap.size w U → U.cell? ⟨b, off + k * 4, none⟩ = some (.int .i64 kind) ∧ U.cell? ⟨b, off + k * 4 + 1, none⟩ = some (.int .i64 at') ∧ U.cell? ⟨b, off + k * 4 + 2, none⟩ = some (.string sx) ∧ U.cell? ⟨b, off + k * 4 + 3, none⟩ = some (.slice ka kl kc)) := fun U hU => by
            have hl : b < w.heap.size := by
              rcases HAC.out with h | ⟨b', off', ha, hc⟩
              · omega
              · obtain ⟨y, _, hr⟩ := hc k hl1
                cases ha
                exact block_lt_of_cell (hr 0 _ rfl)
            have hw : ∀ o u, wr.cell? ⟨b, o, none⟩ = some u → U.cell? ⟨b, o, none⟩ = some u := fun o u hu => ((hU.cell (p := ⟨b, o, none⟩) hl).trans (HP.out.bel.cell (p := ⟨b, o, none⟩) hl).symm).trans hu
            exact ⟨hw _ _ c0, hw _ _ c1, hw _ _ c2, hw _ _ c3⟩
          clear c0 c1 c2 c3
          refine wp_region_held_drew (S := fun U => U.cell? ⟨b, off + k * 4, none⟩ = some (.int .i64 kind) ∧ U.cell? ⟨b, off + k * 4 + 1, none⟩ = some (.int .i64 at') ∧ U.cell? ⟨b, off + k * 4 + 2, none⟩ = some (.string sx) ∧ U.cell? ⟨b, off + k * 4 + 3, none⟩ = some (.slice ka kl kc)) (by kernel_rfl) HS.out (fun _ => ?_)
          refine heldTake 0 (some 58) (ptr g) rfl rfl (by kernel_rfl) (by kernel_rfl) (by kernel_rfl) (fun _ _ _ h => h) (Or.inl ⟨by rfl, fun w hS => ?_⟩) HS.out ?_
          · (go_simp)
          simp only [Act.put, List.setIfInBounds_toArray, List.set_cons_zero, List.set_cons_succ]
          refine heldTake 1 (some 59) (ptr h) rfl rfl (by kernel_rfl) (by kernel_rfl) (by kernel_rfl) (fun _ _ _ h => h) (Or.inl ⟨by rfl, fun w hS => ?_⟩) HS.out ?_
          · (go_simp)
          simp only [Act.put, List.setIfInBounds_toArray, List.set_cons_zero, List.set_cons_succ]
          refine heldTake 2 (some 60) (.slice (some ⟨b, off, none⟩) len cap) rfl rfl (by kernel_rfl) (by kernel_rfl) (by kernel_rfl) (fun _ _ _ h => h) (Or.inl ⟨by rfl, fun w hS => ?_⟩) HS.out ?_
          · (go_simp)
          simp only [Act.put, List.setIfInBounds_toArray, List.set_cons_zero, List.set_cons_succ]
          refine heldTake 3 (some 61) (.int .i64 (k : Int)) rfl rfl (by kernel_rfl) (by kernel_rfl) (by kernel_rfl) (fun _ _ _ h => h) (Or.inl ⟨by rfl, fun w hS => ?_⟩) HS.out ?_
          · (go_simp)
          simp only [Act.put, List.setIfInBounds_toArray, List.set_cons_zero, List.set_cons_succ]
          refine heldTake 4 (some 62) (.pointer (some ⟨b, off + k * 4, none⟩)) rfl rfl (by kernel_rfl) (by kernel_rfl) (by kernel_rfl) (fun _ _ _ h => h) (Or.inl ⟨by rfl, fun w hS => ?_⟩) HS.out ?_
          · (go_simp)
          simp only [Act.put, List.setIfInBounds_toArray, List.set_cons_zero, List.set_cons_succ]
          refine heldTake 5 (some 63) (.agg #[.int .i64 kind, .int .i64 at', .string sx, .slice ka kl kc]) rfl rfl (by kernel_rfl) (by kernel_rfl) (by kernel_rfl) (fun _ _ _ h => h) (Or.inl ⟨by rfl, fun w hS => ?_⟩) HS.out ?_
          · (obtain ⟨p0, p1, p2, p3⟩ := hS; go_simp)
          simp only [Act.put, List.setIfInBounds_toArray, List.set_cons_zero, List.set_cons_succ]
          refine heldOne 6 (by kernel_rfl) rfl (by rfl) (fun KK hK => ?_)
          go_simp
          go_at_call 10
          refine HDX.out.mono ?_
          rintro e w3 ⟨rfl, v3, vp3, s3, hP3, hst⟩
          have HP3 : Hid (Pair w w3 g kg v3 s3 h vk vp3 s3) := hP3
          have HLEN3 : Hid (s3.kept.length = N) := hst.len.trans HLEN.out
          have hpn3 : s3.pend.length ≤ k + 1 := by have := hst.pend; omega
          have hdn3 : s3.dn ≤ k + 1 := by have := hst.dn; omega
          refine hK.out _ _ (HBW.out w3 hP3.bel) ?_
          clear hK KK
          obtain ⟨kg2, kcap, hkv, hkc1, hkc2, hkr⟩ := hP3.rk.kval
          obtain ⟨pa, pcap, hpv, hpc1, hpc2, _⟩ := hP3.rk.pval
          have HS2 : Hid ((fun U : World => (U.cell? ⟨b, off + k * 4, none⟩ = some (.int .i64 kind) ∧ U.cell? ⟨b, off + k * 4 + 1, none⟩ = some (.int .i64 at') ∧ U.cell? ⟨b, off + k * 4 + 2, none⟩ = some (.string sx) ∧ U.cell? ⟨b, off + k * 4 + 3, none⟩ = some (.slice ka kl kc)) ∧ U.cell? ⟨h, 0, none⟩ = some (.slice (some ⟨kg2, 0, none⟩) s3.kept.length kcap) ∧ U.cell? ⟨h, 1, none⟩ = some (.slice pa s3.pend.length pcap) ∧ U.cell? ⟨h, 2, none⟩ = some (.bool s3.down) ∧ U.cell? ⟨h, 4, none⟩ = some (.int .i64 (s3.dn : Int))) w3) := by
            refine ⟨HBW.out w3 hP3.bel, ?_, ?_, hP3.rk.c2, hP3.rk.c4⟩
            · rw [← hkv]; exact hP3.rk.c0
            · rw [← hpv]; exact hP3.rk.c1
          have HVK : Hid (vk = .slice (some ⟨kg2, 0, none⟩) s3.kept.length kcap) := hkv
          have HPE := pending_any g kg v3 s3 w3 hP3.dk
          have HDN := down_any g kg v3 s3 w3 hP3.dk
          have HDE := done_any g kg v3 s3 w3 hP3.dk
          have HSZ := size_any g kg v3 s3 w3 hP3.dk
          clear hP3 hst hkr hkv hpv HS HP HDX
          refine heldMono (S' := fun U => (U.cell? ⟨b, off + k * 4, none⟩ = some (.int .i64 kind) ∧ U.cell? ⟨b, off + k * 4 + 1, none⟩ = some (.int .i64 at') ∧ U.cell? ⟨b, off + k * 4 + 2, none⟩ = some (.string sx) ∧ U.cell? ⟨b, off + k * 4 + 3, none⟩ = some (.slice ka kl kc)) ∧ U.cell? ⟨h, 0, none⟩ = some (.slice (some ⟨kg2, 0, none⟩) s3.kept.length kcap) ∧ U.cell? ⟨h, 1, none⟩ = some (.slice pa s3.pend.length pcap) ∧ U.cell? ⟨h, 2, none⟩ = some (.bool s3.down) ∧ U.cell? ⟨h, 4, none⟩ = some (.int .i64 (s3.dn : Int))) (fun _ h => h.1) _ _ _ _ ?_
          refine heldTake 7 (some 65) (.bool false) rfl rfl (by kernel_rfl) (by kernel_rfl) (by kernel_rfl) (fun _ _ _ h => h) (Or.inl ⟨by rfl, fun w hS => ?_⟩) HS2.out ?_
          · (go_simp)
          simp only [Act.put, List.setIfInBounds_toArray, List.set_cons_zero, List.set_cons_succ]
          refine heldTake 8 (some 66) (.bool false) rfl rfl (by kernel_rfl) (by kernel_rfl) (by kernel_rfl) (fun _ _ _ h => h) (Or.inl ⟨by rfl, fun w hS => ?_⟩) HS2.out ?_
          · (go_simp)
          simp only [Act.put, List.setIfInBounds_toArray, List.set_cons_zero, List.set_cons_succ]
          refine heldTake 9 (some 67) (ptr g) rfl rfl (by kernel_rfl) (by kernel_rfl) (by kernel_rfl) (fun _ _ _ h => h) (Or.inl ⟨by rfl, fun w hS => ?_⟩) HS2.out ?_
          · (go_simp)
          simp only [Act.put, List.setIfInBounds_toArray, List.set_cons_zero, List.set_cons_succ]
          refine heldTake 11 (some 69) (ptr h) rfl rfl (by kernel_rfl) (by kernel_rfl) (by kernel_rfl) (fun _ _ _ h => h) (Or.inl ⟨by rfl, fun w hS => ?_⟩) HS2.out ?_
          · (go_simp)
          simp only [Act.put, List.setIfInBounds_toArray, List.set_cons_zero, List.set_cons_succ]
          refine heldTake 12 (some 70) (ptr h) rfl rfl (by kernel_rfl) (by kernel_rfl) (by kernel_rfl) (fun _ _ _ h => h) (Or.inl ⟨by rfl, fun w hS => ?_⟩) HS2.out ?_
          · (go_simp)
          simp only [Act.put, List.setIfInBounds_toArray, List.set_cons_zero, List.set_cons_succ]
          refine heldTake 13 (some 71) (.pointer (some ⟨h, 1, none⟩)) rfl rfl (by kernel_rfl) (by kernel_rfl) (by kernel_rfl) (fun _ _ _ h => h) (Or.inl ⟨by rfl, fun w hS => ?_⟩) HS2.out ?_
          · (go_simp)
          simp only [Act.put, List.setIfInBounds_toArray, List.set_cons_zero, List.set_cons_succ]
          refine heldTake 14 (some 72) (.slice pa s3.pend.length pcap) rfl rfl (by kernel_rfl) (by kernel_rfl) (by kernel_rfl) (fun _ _ _ h => h) (Or.inl ⟨by rfl, fun w hS => ?_⟩) HS2.out ?_
          · (obtain ⟨_, p0, p1, p2, p4⟩ := hS; go_simp)
          simp only [Act.put, List.setIfInBounds_toArray, List.set_cons_zero, List.set_cons_succ]
          refine heldTake 15 (some 73) (.int .i64 (s3.pend.length : Int)) rfl rfl (by kernel_rfl) (by kernel_rfl) (by kernel_rfl) (fun _ _ _ h => h) (Or.inl ⟨by rfl, fun w hS => ?_⟩) HS2.out ?_
          · (go_simp)
          simp only [Act.put, List.setIfInBounds_toArray, List.set_cons_zero, List.set_cons_succ]
          refine heldOne 10 (by kernel_rfl) rfl (by rfl) (fun KK hK => ?_)
          go_simp
          go_at_call 11
          refine (HPE).mono ?_
          rintro e wS ⟨rfl, hwS⟩
          rw [hwS]
          clear hwS wS
          refine hK.out _ _ HS2.out ?_
          clear hK KK
          refine heldTake 16 (some 74) (.bool false) rfl rfl (by kernel_rfl) (by kernel_rfl) (by kernel_rfl) (fun _ _ _ h => h) (Or.inl ⟨by rfl, fun w hS => ?_⟩) HS2.out ?_
          · (go_simp)
          simp only [Act.put, List.setIfInBounds_toArray, List.set_cons_zero, List.set_cons_succ]
          refine heldTake 17 (some 75) (.bool false) rfl rfl (by kernel_rfl) (by kernel_rfl) (by kernel_rfl) (fun _ _ _ h => h) (Or.inl ⟨by rfl, fun w hS => ?_⟩) HS2.out ?_
          · (go_simp)
          simp only [Act.put, List.setIfInBounds_toArray, List.set_cons_zero, List.set_cons_succ]
          refine heldTake 18 (some 76) (.bool false) rfl rfl (by kernel_rfl) (by kernel_rfl) (by kernel_rfl) (fun _ _ _ h => h) (Or.inl ⟨by rfl, fun w hS => ?_⟩) HS2.out ?_
          · (go_simp)
          simp only [Act.put, List.setIfInBounds_toArray, List.set_cons_zero, List.set_cons_succ]
          refine heldTake 19 (some 77) (ptr g) rfl rfl (by kernel_rfl) (by kernel_rfl) (by kernel_rfl) (fun _ _ _ h => h) (Or.inl ⟨by rfl, fun w hS => ?_⟩) HS2.out ?_
          · (go_simp)
          simp only [Act.put, List.setIfInBounds_toArray, List.set_cons_zero, List.set_cons_succ]
          refine heldTake 21 (some 79) (ptr h) rfl rfl (by kernel_rfl) (by kernel_rfl) (by kernel_rfl) (fun _ _ _ h => h) (Or.inl ⟨by rfl, fun w hS => ?_⟩) HS2.out ?_
          · (go_simp)
          simp only [Act.put, List.setIfInBounds_toArray, List.set_cons_zero, List.set_cons_succ]
          refine heldTake 22 (some 80) (ptr h) rfl rfl (by kernel_rfl) (by kernel_rfl) (by kernel_rfl) (fun _ _ _ h => h) (Or.inl ⟨by rfl, fun w hS => ?_⟩) HS2.out ?_
          · (go_simp)
          simp only [Act.put, List.setIfInBounds_toArray, List.set_cons_zero, List.set_cons_succ]
          refine heldTake 23 (some 81) (.pointer (some ⟨h, 2, none⟩)) rfl rfl (by kernel_rfl) (by kernel_rfl) (by kernel_rfl) (fun _ _ _ h => h) (Or.inl ⟨by rfl, fun w hS => ?_⟩) HS2.out ?_
          · (go_simp)
          simp only [Act.put, List.setIfInBounds_toArray, List.set_cons_zero, List.set_cons_succ]
          refine heldTake 24 (some 82) (.bool s3.down) rfl rfl (by kernel_rfl) (by kernel_rfl) (by kernel_rfl) (fun _ _ _ h => h) (Or.inl ⟨by rfl, fun w hS => ?_⟩) HS2.out ?_
          · (obtain ⟨_, p0, p1, p2, p4⟩ := hS; go_simp)
          simp only [Act.put, List.setIfInBounds_toArray, List.set_cons_zero, List.set_cons_succ]
          refine heldOne 20 (by kernel_rfl) rfl (by rfl) (fun KK hK => ?_)
          go_simp
          go_at_call 12
          refine (HDN).mono ?_
          rintro e wS ⟨rfl, hwS⟩
          rw [hwS]
          clear hwS wS
          refine hK.out _ _ HS2.out ?_
          clear hK KK
          refine heldTake 25 (some 83) (.bool false) rfl rfl (by kernel_rfl) (by kernel_rfl) (by kernel_rfl) (fun _ _ _ h => h) (Or.inl ⟨by rfl, fun w hS => ?_⟩) HS2.out ?_
          · (go_simp)
          simp only [Act.put, List.setIfInBounds_toArray, List.set_cons_zero, List.set_cons_succ]
          refine heldTake 26 (some 84) (.bool false) rfl rfl (by kernel_rfl) (by kernel_rfl) (by kernel_rfl) (fun _ _ _ h => h) (Or.inl ⟨by rfl, fun w hS => ?_⟩) HS2.out ?_
          · (go_simp)
          simp only [Act.put, List.setIfInBounds_toArray, List.set_cons_zero, List.set_cons_succ]
          refine heldTake 27 (some 85) (.bool false) rfl rfl (by kernel_rfl) (by kernel_rfl) (by kernel_rfl) (fun _ _ _ h => h) (Or.inl ⟨by rfl, fun w hS => ?_⟩) HS2.out ?_
          · (go_simp)
          simp only [Act.put, List.setIfInBounds_toArray, List.set_cons_zero, List.set_cons_succ]
          refine heldTake 28 (some 86) (ptr g) rfl rfl (by kernel_rfl) (by kernel_rfl) (by kernel_rfl) (fun _ _ _ h => h) (Or.inl ⟨by rfl, fun w hS => ?_⟩) HS2.out ?_
          · (go_simp)
          simp only [Act.put, List.setIfInBounds_toArray, List.set_cons_zero, List.set_cons_succ]
          refine heldTake 30 (some 88) (ptr h) rfl rfl (by kernel_rfl) (by kernel_rfl) (by kernel_rfl) (fun _ _ _ h => h) (Or.inl ⟨by rfl, fun w hS => ?_⟩) HS2.out ?_
          · (go_simp)
          simp only [Act.put, List.setIfInBounds_toArray, List.set_cons_zero, List.set_cons_succ]
          refine heldTake 31 (some 89) (ptr h) rfl rfl (by kernel_rfl) (by kernel_rfl) (by kernel_rfl) (fun _ _ _ h => h) (Or.inl ⟨by rfl, fun w hS => ?_⟩) HS2.out ?_
          · (go_simp)
          simp only [Act.put, List.setIfInBounds_toArray, List.set_cons_zero, List.set_cons_succ]
          refine heldTake 32 (some 90) (.pointer (some ⟨h, 4, none⟩)) rfl rfl (by kernel_rfl) (by kernel_rfl) (by kernel_rfl) (fun _ _ _ h => h) (Or.inl ⟨by rfl, fun w hS => ?_⟩) HS2.out ?_
          · (go_simp)
          simp only [Act.put, List.setIfInBounds_toArray, List.set_cons_zero, List.set_cons_succ]
          refine heldTake 33 (some 91) (.int .i64 (s3.dn : Int)) rfl rfl (by kernel_rfl) (by kernel_rfl) (by kernel_rfl) (fun _ _ _ h => h) (Or.inl ⟨by rfl, fun w hS => ?_⟩) HS2.out ?_
          · (obtain ⟨_, p0, p1, p2, p4⟩ := hS; go_simp)
          simp only [Act.put, List.setIfInBounds_toArray, List.set_cons_zero, List.set_cons_succ]
          refine heldOne 29 (by kernel_rfl) rfl (by rfl) (fun KK hK => ?_)
          go_simp
          go_at_call 13
          refine (HDE).mono ?_
          rintro e wS ⟨rfl, hwS⟩
          rw [hwS]
          clear hwS wS
          refine hK.out _ _ HS2.out ?_
          clear hK KK
          refine heldTake 34 (some 92) (.bool false) rfl rfl (by kernel_rfl) (by kernel_rfl) (by kernel_rfl) (fun _ _ _ h => h) (Or.inl ⟨by rfl, fun w hS => ?_⟩) HS2.out ?_
          · (go_simp)
          simp only [Act.put, List.setIfInBounds_toArray, List.set_cons_zero, List.set_cons_succ]
          refine heldTake 35 (some 93) (.bool false) rfl rfl (by kernel_rfl) (by kernel_rfl) (by kernel_rfl) (fun _ _ _ h => h) (Or.inl ⟨by rfl, fun w hS => ?_⟩) HS2.out ?_
          · (go_simp)
          simp only [Act.put, List.setIfInBounds_toArray, List.set_cons_zero, List.set_cons_succ]
          refine heldTake 36 (some 94) (.bool false) rfl rfl (by kernel_rfl) (by kernel_rfl) (by kernel_rfl) (fun _ _ _ h => h) (Or.inl ⟨by rfl, fun w hS => ?_⟩) HS2.out ?_
          · (go_simp)
          simp only [Act.put, List.setIfInBounds_toArray, List.set_cons_zero, List.set_cons_succ]
          refine heldTake 37 (some 95) (ptr g) rfl rfl (by kernel_rfl) (by kernel_rfl) (by kernel_rfl) (fun _ _ _ h => h) (Or.inl ⟨by rfl, fun w hS => ?_⟩) HS2.out ?_
          · (go_simp)
          simp only [Act.put, List.setIfInBounds_toArray, List.set_cons_zero, List.set_cons_succ]
          refine heldTake 39 (some 97) (ptr h) rfl rfl (by kernel_rfl) (by kernel_rfl) (by kernel_rfl) (fun _ _ _ h => h) (Or.inl ⟨by rfl, fun w hS => ?_⟩) HS2.out ?_
          · (go_simp)
          simp only [Act.put, List.setIfInBounds_toArray, List.set_cons_zero, List.set_cons_succ]
          refine heldTake 40 (some 98) (ptr h) rfl rfl (by kernel_rfl) (by kernel_rfl) (by kernel_rfl) (fun _ _ _ h => h) (Or.inl ⟨by rfl, fun w hS => ?_⟩) HS2.out ?_
          · (go_simp)
          simp only [Act.put, List.setIfInBounds_toArray, List.set_cons_zero, List.set_cons_succ]
          refine heldTake 41 (some 99) (ptr h) rfl rfl (by kernel_rfl) (by kernel_rfl) (by kernel_rfl) (fun _ _ _ h => h) (Or.inl ⟨by rfl, fun w hS => ?_⟩) HS2.out ?_
          · (go_simp)
          simp only [Act.put, List.setIfInBounds_toArray, List.set_cons_zero, List.set_cons_succ]
          refine heldTake 42 (some 100) (.slice (some ⟨kg2, 0, none⟩) s3.kept.length kcap) rfl rfl (by kernel_rfl) (by kernel_rfl) (by kernel_rfl) (fun _ _ _ h => h) (Or.inl ⟨by rfl, fun w hS => ?_⟩) HS2.out ?_
          · (obtain ⟨_, p0, p1, p2, p4⟩ := hS; go_simp)
          simp only [Act.put, List.setIfInBounds_toArray, List.set_cons_zero, List.set_cons_succ]
          refine heldTake 43 (some 101) (.int .i64 (s3.kept.length : Int)) rfl rfl (by kernel_rfl) (by kernel_rfl) (by kernel_rfl) (fun _ _ _ h => h) (Or.inl ⟨by rfl, fun w hS => ?_⟩) HS2.out ?_
          · (go_simp)
          simp only [Act.put, List.setIfInBounds_toArray, List.set_cons_zero, List.set_cons_succ]
          refine heldOne 38 (by kernel_rfl) rfl (by rfl) (fun KK hK => ?_)
          go_simp
          go_at_call 14
          refine (HSZ).mono ?_
          rintro e wS ⟨rfl, hwS⟩
          rw [hwS]
          clear hwS wS
          refine hK.out _ _ HS2.out ?_
          clear hK KK
          refine heldTake 44 (some 102) (.bool false) rfl rfl (by kernel_rfl) (by kernel_rfl) (by kernel_rfl) (fun _ _ _ h => h) (Or.inl ⟨by rfl, fun w hS => ?_⟩) HS2.out ?_
          · (go_simp)
          simp only [Act.put, List.setIfInBounds_toArray, List.set_cons_zero, List.set_cons_succ]
          refine heldTake 45 (some 103) (.bool false) rfl rfl (by kernel_rfl) (by kernel_rfl) (by kernel_rfl) (fun _ _ _ h => h) (Or.inl ⟨by rfl, fun w hS => ?_⟩) HS2.out ?_
          · (go_simp)
          simp only [Act.put, List.setIfInBounds_toArray, List.set_cons_zero, List.set_cons_succ]
          refine wpAnyH_done (by kernel_rfl) ?_ _
          have e0 : w3.cell? ⟨h, 0, none⟩ = some (.slice (some ⟨kg2, 0, none⟩) s3.kept.length kcap) := HS2.out.2.1
          clear HPE HDN HDE HSZ HS2 HBW
          go_wp2_with fail
          clear e0
          go_loopw [109] (fun s109 wq => ∃ j : Nat, j ≤ s3.kept.length ∧ s109 = .int .i64 (j : Int) ∧ Pair w wq g kg v3 s3 h vk vp3 s3) (fun s109 _ => s3.kept.length - (intOf s109).toNat)
          case atStart => exact ⟨0, by omega, rfl, HP3.out⟩
          case round =>
            rename World => wq
            obtain ⟨j, hj, rfl, hQ⟩ := hrel
            have HQ : Hid (Pair w wq g kg v3 s3 h vk vp3 s3) := hQ
            clear hQ HP3
            by_cases hjl : j < s3.kept.length
            · have dj : decide ((j : Int) < (s3.kept.length : Int)) = true := by simp; omega
              go_wp2_with fail
              refine (read_any g kg v3 s3 (j : Int) wq HQ.out.dk).mono ?_
              rintro e w5 ⟨rfl, hB5⟩
              have HQ5 : Hid (Pair w w5 g kg v3 s3 h vk vp3 s3) := HQ.out.below hB5
              clear hB5
              go_wp2_with fail
              refine (rread_any h vk vp3 s3 (j : Int) w5 HQ5.out.rk).mono ?_
              rintro e wS ⟨rfl, hwS⟩
              rw [hwS]
              clear hwS wS
              have HFN : Hid (∃ j' : Nat, j' ≤ s3.kept.length ∧ Value.int .i64 ((j : Int) + 1) = .int .i64 (j' : Int) ∧ Pair w w5 g kg v3 s3 h vk vp3 s3) := ⟨j + 1, by omega, by go_num, HQ5.out⟩
              generalize Sc.readV s3 (j : Int) = rv at *
              generalize Sc.readE s3 (j : Int) = re at *
              go_wp2
              go_roundw
              case rel => first | exact HFN.out | ((repeat apply Exists.intro); exact ⟨HFN.out, rfl⟩)
              case measure => (simp [intOf]) <;> omega
            · have dj : decide ((j : Int) < (s3.kept.length : Int)) = false := by simp; omega
              have HFN : Hid (∃ (k' : Nat) (v vp : Value) (s : Sc.St), k' ≤ 60 ∧ k' ≤ len ∧ Value.int .i64 ((k : Int) + 1) = .int .i64 (k' : Int) ∧ Pair w wq g kg v s h vk vp s ∧ s.kept.length = N ∧ s.pend.length ≤ k' ∧ s.dn ≤ k') := ⟨k + 1, v3, vp3, s3, by omega, by omega, by go_num, HQ.out, HLEN3.out, hpn3, hdn3⟩
              go_wp2
              go_roundw
              case rel => first | exact HFN.out | ((repeat apply Exists.intro); exact ⟨HFN.out, rfl⟩)
              case measure => (simp [intOf]) <;> omega
        · by_cases hl1 : k < len
          · have d1 : decide ((k : Int) < (len : Int)) = true := by simp; omega
            have d2 : decide ((k : Int) < 60) = false := by simp; omega
            have hk6 : ¬ k < 60 := by omega
            go_wp2_with (go_at_call 17; refine (works_any _).mono ?_; rintro e w9 ⟨rfl, hB9⟩)
            go_ret
            exact ⟨rfl, HP.out.bel.trans (hB9.mono HP.out.bel.size)⟩
          · have d1 : decide ((k : Int) < (len : Int)) = false := by simp; omega
            go_wp2_with (go_at_call 17; refine (works_any _).mono ?_; rintro e w9 ⟨rfl, hB9⟩)
            go_ret
            exact ⟨rfl, HP.out.bel.trans (hB9.mono HP.out.bel.size)⟩
end Go.Proofs.Ytbhbfnnlpkikbaa
