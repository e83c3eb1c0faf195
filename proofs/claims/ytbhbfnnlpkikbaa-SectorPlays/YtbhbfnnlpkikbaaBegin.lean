/- Proved: what the laws' helper begin makes: a small disk with power, not armed, with at most thirty writes. -/
import Derived.Test.YtbhbfnnlpkikbaaAll
namespace Go.Proofs.Ytbhbfnnlpkikbaa
open Go.RowKit
theorem cut_min (sz lim : Nat) : ∃ n : Nat, n ≤ sz ∧ n ≤ lim ∧ (if (lim : Int) < (sz : Int) then (lim : Int) else (sz : Int)) = (n : Int) := by
  by_cases h : (lim : Int) < (sz : Int)
  · exact ⟨lim, by omega, by omega, by rw [if_pos h]⟩
  · exact ⟨sz, by omega, by omega, by rw [if_neg h]⟩
theorem cut_size (x : ByteArray) (n : Nat) (h : n ≤ x.size) : (x.extract 0 n).size = n := by simp; omega
theorem mod6 (n : Int) : ∃ K : Nat, K < 6 ∧ (n.tmod 6 + 6).tmod 6 = (K : Int) ∧ -6 < n.tmod 6 ∧ n.tmod 6 < 6 := by
  have h1 := Int.tmod_lt_of_pos n (show (0 : Int) < 6 by omega)
  have h2 : -6 < n.tmod 6 := by
    have := Int.lt_tmod_of_pos n (show (0 : Int) < 6 by omega)
    omega
  refine ⟨((n.tmod 6 + 6).tmod 6).toNat, ?_, ?_, h2, h1⟩
  · have := Int.tmod_lt_of_pos (n.tmod 6 + 6) (show (0 : Int) < 6 by omega)
    omega
  · have := Int.tmod_nonneg 6 (show 0 ≤ n.tmod 6 + 6 by omega)
    omega
theorem wrap6 (n : Int) (h1 : -6 < n.tmod 6) (h2 : n.tmod 6 < 6) : IntKind.i64.wrap (n.tmod 6 + 6) = n.tmod 6 + 6 := by rw [IntKind.wrap_i64]; omega
/- the cells of one call that came in -/
theorem Acts.at {W w : World} {a : Option Addr} {len k : Nat} (h : Acts W a len) (hb : Below W.heap.size W w) (hk : k < len) : ∃ b off, a = some ⟨b, off, none⟩ ∧ ∃ x : Act, x.Fits W ∧ w.cell? ⟨b, off + k * 4, none⟩ = some (.int .i64 x.kind) ∧ w.cell? ⟨b, off + k * 4 + 1, none⟩ = some (.int .i64 x.at') ∧ w.cell? ⟨b, off + k * 4 + 2, none⟩ = some (.string x.s) ∧ w.cell? ⟨b, off + k * 4 + 3, none⟩ = some (.slice x.ka x.kl x.kc) := by
  rcases h with h | ⟨b, off, ha, hc⟩
  · omega
  · obtain ⟨x, hx, hr⟩ := hc k hk
    have hl : b < W.heap.size := block_lt_of_cell (hr 0 _ rfl)
    refine ⟨b, off, ha, x, hx, ?_, ?_, ?_, ?_⟩
    · exact (hb.cell (p := ⟨b, off + k * 4 + 0, none⟩) hl).trans (hr 0 _ rfl)
    · exact (hb.cell (p := ⟨b, off + k * 4 + 1, none⟩) hl).trans (hr 1 _ rfl)
    · exact (hb.cell (p := ⟨b, off + k * 4 + 2, none⟩) hl).trans (hr 2 _ rfl)
    · exact (hb.cell (p := ⟨b, off + k * 4 + 3, none⟩) hl).trans (hr 3 _ rfl)
def BeginR (w : World) (g kg : Nat) (k : Nat) (wr : World) : Prop := ∃ v s, Dk wr g kg v s ∧ Live 6 s ∧ s.pend.length ≤ k ∧ s.dn ≤ k ∧ Below w.heap.size w wr ∧ ∀ k ∈ foot g kg v, w.heap.size ≤ k
set_option maxHeartbeats 4000000 in
set_option maxRecDepth 20000 in
theorem begin_any (a : Option Addr) (len cap : Nat) (w : World) (hA : Acts w a len) (_hlc : len ≤ cap) (_hcm : cap ≤ 9223372036854775807) :
    Calls Try.prog 23 #[.slice a len cap] w fun e w' => ∃ g kg, e = .returned (ptr g) ∧ BeginR w g kg 30 w' := by
  have HAC : Hid (Acts w a len) := hA
  clear hA
  go_enter Try.func23, Try.ntmps23
  go_wp2_with fail
  refine (new_any 6 w (by omega) (by omega)).mono ?_
  rintro e w0 ⟨g, kg, rfl, hD0, hB0, hg, hkg⟩
  have HR0 : Hid (BeginR w g kg 0 w0) := ⟨_, _, hD0, ⟨rfl, rfl, rfl⟩, Nat.le_refl 0, Nat.le_refl 0, hB0, fun k hk => by
    simp [foot, Value.ownBlock] at hk
    omega⟩
  clear hD0 hB0 hg hkg
  go_wp2_with fail
  go_loopw [5] (fun s5 wr => ∃ k, k ≤ 30 ∧ k ≤ len ∧ s5 = .int .i64 (k : Int) ∧ BeginR w g kg k wr) (fun s5 _ => 30 - (intOf s5).toNat)
  case atStart => exact ⟨0, by omega, by omega, rfl, HR0.out⟩
  case round =>
    obtain ⟨k, hk30, hkl, rfl, hR⟩ := hrel
    have HR : Hid (BeginR w g kg k wr) := hR
    clear hR HR0
    by_cases hin : k < len ∧ k < 30
    · obtain ⟨hl1, hl2⟩ := hin
      have d1 : decide ((k : Int) < (len : Int)) = true := by simp; omega
      have d2 : decide ((k : Int) < 30) = true := by simp; omega
      have k0 : (0 : Int) ≤ (k : Int) := by omega
      have k1 : (k : Int) < (len : Int) := by omega
      obtain ⟨v, s, hD, hL, hpn, hdn, hB, hab⟩ := HR.out
      have HD : Hid (Dk wr g kg v s) := hD
      have HL : Hid (Live 6 s) := hL
      have HB : Hid (Below w.heap.size w wr) := hB
      have HAB : Hid (∀ k ∈ foot g kg v, w.heap.size ≤ k) := hab
      obtain ⟨b, off, rfl, x, hx, c0, c1, c2, c3⟩ := HAC.out.at hB hl1
      clear hD hL hB hab HR
      obtain ⟨kind, at', sx, ka, kl, kc, m⟩ := x
      simp only at c0 c1 c2 c3
      have HX := (show Hid (sx.size ≤ 9223372036854775807) from hx.s)
      clear hx
      by_cases h2 : kind = 2
      · subst h2
        have HDA : Hid (Dk (wr.alloc (.cells #[.int .i64 2, .int .i64 at', .string sx, .slice ka kl kc] 33)) g kg v s) := HD.out.alloc _
        have HF := flush_any g kg v s _ HDA.out (by omega)
        have hfl := HL.out.flush
        have hst := Sc.flushS_step s
        have hs1 := hst.pend
        have hs2 := hst.dn
        have HL2 : Hid (Live 6 (Sc.flushS s)) := hfl.2.1
        clear hfl hst
        generalize Sc.flushS s = s' at *
        go_wp2_with fail
        refine HF.mono ?_
        rintro e w3 ⟨v3, rfl, hD3, hT3⟩
        have HFN : Hid (∃ k', k' ≤ 30 ∧ k' ≤ len ∧ Value.int .i64 ((k : Int) + 1) = .int .i64 (k' : Int) ∧ BeginR w g kg k' w3) := ⟨k + 1, by omega, by omega, by go_num, v3, s', hD3, HL2.out, by omega, by omega, (HB.out.alloc HB.out.size _).trans (hT3.below HAB.out (HB.out.alloc HB.out.size _).size), hT3.above HAB.out (HB.out.alloc HB.out.size _).size⟩
        clear hD3 hT3
        go_wp2
        go_roundw
        case rel => first | exact HFN.out | ((repeat apply Exists.intro); exact ⟨HFN.out, rfl⟩)
        case measure => (simp [intOf]) <;> omega
      · have hb2 : (kind == 2) = false := by simp [h2]
        obtain ⟨K, hK6, hmod, hm1, hm2⟩ := mod6 at'
        obtain ⟨n, hn1, hn2, hnm⟩ := cut_min sx.size 64
        have hwr6 := wrap6 at' hm1 hm2
        rw [show ((64 : Nat) : Int) = 64 from rfl] at hnm
        have hcs : (sx.extract 0 n).size = n := cut_size sx n hn1
        have HDA : Hid (Dk (wr.alloc (.cells #[.int .i64 kind, .int .i64 at', .string sx, .slice ka kl kc] 33)) g kg v s) := HD.out.alloc _
        have HBA : Hid (Below w.heap.size w (wr.alloc (.cells #[.int .i64 kind, .int .i64 at', .string sx, .slice ka kl kc] 33))) := HB.out.alloc HB.out.size _
        have HRW : Hid ((wr.alloc (.cells #[.int .i64 kind, .int .i64 at', .string sx, .slice ka kl kc] 33)).heap[wr.heap.size]? = some (.cells #[.int .i64 kind, .int .i64 at', .string sx, .slice ka kl kc] 33 (0, 0))) := heap_alloc_new _ _
        go_wp2_with fail
        generalize World.alloc wr _ = w2 at *
        generalize wr.heap.size = M at *
        have HS : Hid ((fun W : World => W.cell? ⟨M, 1, none⟩ = some (.int .i64 at') ∧ W.cell? ⟨M, 2, none⟩ = some (.string sx)) w2.drew) := ⟨by show w2.cell? _ = _; rw [cell_of_row _ _ _ _ _ (0, 0) HRW.out]; rfl, by show w2.cell? _ = _; rw [cell_of_row _ _ _ _ _ (0, 0) HRW.out]; rfl⟩
        have HW := write_any g kg v s (K : Int) (sx.extract 0 n) w2.drew HDA.out.drew (by omega) (by omega)
        have hwl := HL.out.write (i := (K : Int)) (by omega) (by omega) (x := sx.extract 0 n) (by omega)
        have hst := Sc.writeS_step s (K : Int) (sx.extract 0 n)
        have hs1 := hst.pend
        have hs2 := hst.dn
        have HL2 : Hid (Live 6 (Sc.writeS s (K : Int) (sx.extract 0 n))) := hwl.2.1
        clear hwl hst
        generalize Sc.writeS s (K : Int) (sx.extract 0 n) = s' at *
        have n0 : (0 : Int) ≤ (n : Int) := by omega
        have n1 : (n : Int) ≤ (sx.size : Int) := by omega
        refine AnyBut.begin (z := 13) (S := fun W => W.cell? ⟨M, 1, none⟩ = some (.int .i64 at') ∧ W.cell? ⟨M, 2, none⟩ = some (.string sx)) (by kernel_rfl) ?_
        refine AnyBut.take 0 (some 34) (v := (ptr g)) rfl rfl (by kernel_rfl) (by decide) (by kernel_rfl) (by kernel_rfl) (by kernel_rfl) (by kernel_rfl) (fun _ _ _ h => h) (Or.inl ⟨by rfl, fun w hS => ?_⟩) HS.out ?_
        · (go_simp)
        simp only [Act.put, List.setIfInBounds_toArray, List.set_cons_zero, List.set_cons_succ]
        refine AnyBut.take 1 (some 35) (v := (.pointer (some ⟨M, 1, none⟩))) rfl rfl (by kernel_rfl) (by decide) (by kernel_rfl) (by kernel_rfl) (by kernel_rfl) (by kernel_rfl) (fun _ _ _ h => h) (Or.inl ⟨by rfl, fun w hS => ?_⟩) HS.out ?_
        · (go_simp)
        simp only [Act.put, List.setIfInBounds_toArray, List.set_cons_zero, List.set_cons_succ]
        refine AnyBut.take 2 (some 36) (v := (.int .i64 at')) rfl rfl (by kernel_rfl) (by decide) (by kernel_rfl) (by kernel_rfl) (by kernel_rfl) (by kernel_rfl) (fun _ _ _ h => h) (Or.inl ⟨by rfl, fun w hS => ?_⟩) HS.out ?_
        · (obtain ⟨q1, q2⟩ := hS; go_simp)
        simp only [Act.put, List.setIfInBounds_toArray, List.set_cons_zero, List.set_cons_succ]
        refine AnyBut.take 3 (some 37) (v := (.int .i64 (at'.tmod 6))) rfl rfl (by kernel_rfl) (by decide) (by kernel_rfl) (by kernel_rfl) (by kernel_rfl) (by kernel_rfl) (fun _ _ _ h => h) (Or.inl ⟨by rfl, fun w hS => ?_⟩) HS.out ?_
        · (go_simp)
        simp only [Act.put, List.setIfInBounds_toArray, List.set_cons_zero, List.set_cons_succ]
        refine AnyBut.take 4 (some 38) (v := (.int .i64 (at'.tmod 6 + 6))) rfl rfl (by kernel_rfl) (by decide) (by kernel_rfl) (by kernel_rfl) (by kernel_rfl) (by kernel_rfl) (fun _ _ _ h => h) (Or.inl ⟨by rfl, fun w hS => ?_⟩) HS.out ?_
        · (go_simp)
        simp only [Act.put, List.setIfInBounds_toArray, List.set_cons_zero, List.set_cons_succ]
        refine AnyBut.take 5 (some 39) (v := (.int .i64 (K : Int))) rfl rfl (by kernel_rfl) (by decide) (by kernel_rfl) (by kernel_rfl) (by kernel_rfl) (by kernel_rfl) (fun _ _ _ h => h) (Or.inl ⟨by rfl, fun w hS => ?_⟩) HS.out ?_
        · (go_simp)
        simp only [Act.put, List.setIfInBounds_toArray, List.set_cons_zero, List.set_cons_succ]
        refine AnyBut.take 6 (some 40) (v := (.pointer (some ⟨M, 2, none⟩))) rfl rfl (by kernel_rfl) (by decide) (by kernel_rfl) (by kernel_rfl) (by kernel_rfl) (by kernel_rfl) (fun _ _ _ h => h) (Or.inl ⟨by rfl, fun w hS => ?_⟩) HS.out ?_
        · (go_simp)
        simp only [Act.put, List.setIfInBounds_toArray, List.set_cons_zero, List.set_cons_succ]
        refine AnyBut.take 7 (some 41) (v := (.string sx)) rfl rfl (by kernel_rfl) (by decide) (by kernel_rfl) (by kernel_rfl) (by kernel_rfl) (by kernel_rfl) (fun _ _ _ h => h) (Or.inl ⟨by rfl, fun w hS => ?_⟩) HS.out ?_
        · (obtain ⟨q1, q2⟩ := hS; go_simp)
        simp only [Act.put, List.setIfInBounds_toArray, List.set_cons_zero, List.set_cons_succ]
        refine AnyBut.take 8 (some 42) (v := (.pointer (some ⟨M, 2, none⟩))) rfl rfl (by kernel_rfl) (by decide) (by kernel_rfl) (by kernel_rfl) (by kernel_rfl) (by kernel_rfl) (fun _ _ _ h => h) (Or.inl ⟨by rfl, fun w hS => ?_⟩) HS.out ?_
        · (go_simp)
        simp only [Act.put, List.setIfInBounds_toArray, List.set_cons_zero, List.set_cons_succ]
        refine AnyBut.take 9 (some 43) (v := (.string sx)) rfl rfl (by kernel_rfl) (by decide) (by kernel_rfl) (by kernel_rfl) (by kernel_rfl) (by kernel_rfl) (fun _ _ _ h => h) (Or.inl ⟨by rfl, fun w hS => ?_⟩) HS.out ?_
        · (obtain ⟨q1, q2⟩ := hS; go_simp)
        simp only [Act.put, List.setIfInBounds_toArray, List.set_cons_zero, List.set_cons_succ]
        refine AnyBut.take 10 (some 44) (v := (.int .i64 (sx.size : Int))) rfl rfl (by kernel_rfl) (by decide) (by kernel_rfl) (by kernel_rfl) (by kernel_rfl) (by kernel_rfl) (fun _ _ _ h => h) (Or.inl ⟨by rfl, fun w hS => ?_⟩) HS.out ?_
        · (go_simp)
        simp only [Act.put, List.setIfInBounds_toArray, List.set_cons_zero, List.set_cons_succ]
        refine AnyBut.take 11 (some 45) (v := (.int .i64 (n : Int))) rfl rfl (by kernel_rfl) (by decide) (by kernel_rfl) (by kernel_rfl) (by kernel_rfl) (by kernel_rfl) (fun _ _ _ h => h) (Or.inl ⟨by rfl, fun w hS => ?_⟩) HS.out ?_
        · (go_simp)
        simp only [Act.put, List.setIfInBounds_toArray, List.set_cons_zero, List.set_cons_succ]
        refine AnyBut.take 12 (some 46) (v := (.string (sx.extract 0 n))) rfl rfl (by kernel_rfl) (by decide) (by kernel_rfl) (by kernel_rfl) (by kernel_rfl) (by kernel_rfl) (fun _ _ _ h => h) (Or.inl ⟨by rfl, fun w hS => ?_⟩) HS.out ?_
        · (go_simp)
        simp only [Act.put, List.setIfInBounds_toArray, List.set_cons_zero, List.set_cons_succ]
        refine AnyBut.one 13 (by kernel_rfl) rfl (by rfl) (fun KK hK => ?_)
        go_simp
        go_at_call 18
        refine HW.mono ?_
        rintro e w3 ⟨v3, rfl, hD3, hT3⟩
        refine hK.out _ _ (fun h => absurd rfl h) ?_
        clear hK KK
        refine AnyBut.done (by kernel_rfl) ?_
        have HFN : Hid (∃ k', k' ≤ 30 ∧ k' ≤ len ∧ Value.int .i64 ((k : Int) + 1) = .int .i64 (k' : Int) ∧ BeginR w g kg k' w3) := ⟨k + 1, by omega, by omega, by go_num, v3, s', hD3, HL2.out, by omega, by omega, HBA.out.drew.trans (hT3.below HAB.out HBA.out.size), hT3.above HAB.out HBA.out.size⟩
        clear hD3 hT3
        go_wp2
        go_roundw
        case rel => first | exact HFN.out | ((repeat apply Exists.intro); exact ⟨HFN.out, rfl⟩)
        case measure => (simp [intOf]) <;> omega
    · obtain ⟨v, s, hD, hL, hpn, hdn, hB, hab⟩ := HR.out
      have HFN : Hid (BeginR w g kg 30 wr) := ⟨v, s, hD, hL, by omega, by omega, hB, hab⟩
      clear hD hL hB hab HR
      by_cases hl1 : k < len
      · have d1 : decide ((k : Int) < (len : Int)) = true := by simp; omega
        have d2 : decide ((k : Int) < 30) = false := by simp; omega
        have hk3 : ¬ k < 30 := by omega
        go_wp2
        go_ret
        exact ⟨g, kg, rfl, HFN.out⟩
      · have d1 : decide ((k : Int) < (len : Int)) = false := by simp; omega
        go_wp2
        go_ret
        exact ⟨g, kg, rfl, HFN.out⟩
end Go.Proofs.Ytbhbfnnlpkikbaa
