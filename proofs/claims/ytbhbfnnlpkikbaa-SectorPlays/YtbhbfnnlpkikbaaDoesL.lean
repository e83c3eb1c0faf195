/- Proved: what the law's helper does makes of both disks. -/
import Derived.Test.YtbhbfnnlpkikbaaRNew
import Derived.Test.YtbhbfnnlpkikbaaFrame
import Derived.Test.YtbhbfnnlpkikbaaBegin
namespace Go.Proofs.Ytbhbfnnlpkikbaa
open Go.RowKit
/- both disks, apart in memory, behind the world W -/
structure Pair (W w : World) (g kg : Nat) (v : Value) (s : Sc.St) (h : Nat) (vk vp : Value) (t : Sc.St) : Prop where
  dk : Dk w g kg v s
  rk : Rk w h vk vp t
  apart : ∀ k ∈ foot g kg v, k ∉ rfoot h vk vp
  bel : Below W.heap.size W w
  dab : ∀ k ∈ foot g kg v, W.heap.size ≤ k
  rab : ∀ k ∈ rfoot h vk vp, W.heap.size ≤ k
section
variable {W w w' : World} {g kg h : Nat} {v v' vk vp vp' : Value} {s s' t t' : Sc.St}
theorem Pair.d (P : Pair W w g kg v s h vk vp t) (hD : Dk w' g kg v' s') (hT : Turn (foot g kg v) (foot g kg v') w w') : Pair W w' g kg v' s' h vk vp t := by
  have ha : ∀ k ∈ rfoot h vk vp, k ∉ foot g kg v := fun k hk hf => P.apart k hf hk
  exact ⟨hD, P.rk.keep hT.chg ha, fun k hk hr => hT.apart ha P.rk.lt k hr hk, P.bel.trans (hT.below P.dab P.bel.size), hT.above P.dab P.bel.size, P.rab⟩
theorem Pair.r (P : Pair W w g kg v s h vk vp t) (hR : Rk w' h vk vp' t') (hT : Turn (rfoot h vk vp) (rfoot h vk vp') w w') : Pair W w' g kg v s h vk vp' t' :=
  ⟨P.dk.keep hT.chg P.apart, hR, hT.apart P.apart P.dk.lt, P.bel.trans (hT.below P.rab P.bel.size), P.dab, hT.above P.rab P.bel.size⟩
theorem Pair.below (P : Pair W w g kg v s h vk vp t) (hB : Below w.heap.size w w') : Pair W w' g kg v s h vk vp t :=
  ⟨P.dk.below hB, P.rk.below hB, P.apart, P.bel.trans (hB.mono P.bel.size), P.dab, P.rab⟩
theorem Pair.drew (P : Pair W w g kg v s h vk vp t) : Pair W w.drew g kg v s h vk vp t := ⟨P.dk.drew, P.rk.drew, P.apart, P.bel.drew, P.dab, P.rab⟩
/- a cell of a block that belongs to neither stays -/
theorem cell_turn {fs fs' : List Nat} {b : Nat} {o : Nat} {u : Value} (hT : Turn fs fs' w w') (hb : b ∉ fs) (hc : w.cell? ⟨b, o, none⟩ = some u) : w'.cell? ⟨b, o, none⟩ = some u := by
  rw [← hc]
  exact World.cell?_of_block (hT.chg.block _ (block_lt_of_cell hc) hb)
end
def DoesP (W : World) (g kg h : Nat) (vk : Value) (s : Sc.St) (w' : World) : Prop := ∃ v' vp' s', Pair W w' g kg v' s' h vk vp' s' ∧ Sc.Step s s'
set_option maxHeartbeats 8000000 in
set_option maxRecDepth 20000 in
theorem does_any (x : Act) (W : World) (g kg : Nat) (v : Value) (h : Nat) (vk vp : Value) (s : Sc.St) (w : World) (P : Pair W w g kg v s h vk vp s) (hx : x.Fits W) (hn : s.dn ≤ 100000) (hl : s.pend.length ≤ 20000) :
    Calls Try.prog 10 #[ptr g, ptr h, .agg x.cells] w fun e w' => e = .returned (.bool true) ∧ DoesP W g kg h vk s w' := by
  obtain ⟨kind, at', sx, ka, kl, kc, m⟩ := x
  obtain ⟨_, hat, hsx, hkl, hkc, hks⟩ := hx
  simp only at hat hsx hkl hkc hks
  obtain ⟨ha1, ha2⟩ := hat
  have HKS : Hid (InB W ka kl m) := hks
  clear hks
  unfold Act.cells
  simp only
  obtain ⟨n, hn1, hn2, hnm⟩ := cut_min sx.size 100
  rw [show ((100 : Nat) : Int) = 100 from rfl] at hnm
  have n0 : (0 : Int) ≤ (n : Int) := by omega
  have n1 : (n : Int) ≤ (sx.size : Int) := by omega
  have HPA : Hid (Pair W (w.alloc (.cells #[.int .i64 kind, .int .i64 at', .string sx, .slice ka kl kc] 33)) g kg v s h vk vp s) := P.below ((Below.refl _ _).alloc (Nat.le_refl _) _)
  have HRW : Hid ((w.alloc (.cells #[.int .i64 kind, .int .i64 at', .string sx, .slice ka kl kc] 33)).heap[w.heap.size]? = some (.cells #[.int .i64 kind, .int .i64 at', .string sx, .slice ka kl kc] 33 (0, 0))) := heap_alloc_new w _
  have HNF : Hid (w.heap.size ∉ foot g kg v ∧ w.heap.size ∉ rfoot h vk vp) := ⟨fun hf => by have := P.dk.lt _ hf; omega, fun hf => by have := P.rk.lt _ hf; omega⟩
  clear P
  go_enter Try.func10, Try.ntmps10
  by_cases e0 : kind = 0
  · have b0 : (kind == 0) = true := by simp [e0]
    clear e0
    go_wp2_with fail
    refine (read_any g kg v s at' _ HPA.out.dk).mono ?_
    rintro e w3 ⟨rfl, hB3⟩
    have HP3 : Hid (Pair W w3 g kg v s h vk vp s) := HPA.out.below hB3
    have q1 : w3.cell? ⟨w.heap.size, 1, none⟩ = some (.int .i64 at') := by
      rw [cell_of_row _ _ _ _ _ (0, 0) ((hB3.block _ (Array.getElem?_eq_some_iff.1 HRW.out).1).trans HRW.out)]
      rfl
    clear hB3
    go_wp2_with fail
    refine (rread_any h vk vp s at' w3 HP3.out.rk).mono ?_
    rintro e wS ⟨rfl, hwS⟩
    rw [hwS]
    clear hwS wS
    have HF : Hid (DoesP W g kg h vk s w3) := ⟨v, vp, s, HP3.out, Sc.Step.refl s⟩
    generalize Sc.readV s at' = rv at *
    generalize Sc.readE s at' = re at *
    go_wp2
    go_ret
    exact ⟨rfl, HF.out⟩
  · have b0 : (kind == 0) = false := by simp [e0]
    by_cases e1 : kind = 1
    · have b1 : (kind == 1) = true := by simp [e1]
      clear e1
      go_wp2_with fail
      generalize World.alloc w _ = w2 at *
      generalize w.heap.size = M at *
      have HS : Hid ((fun U : World => U.cell? ⟨M, 1, none⟩ = some (.int .i64 at')) w2.drew) := by
        show World.cell? w2 _ = _
        rw [cell_of_row _ _ _ _ _ (0, 0) HRW.out]
        rfl
      have HP2 : Hid (Pair W w2.drew g kg v s h vk vp s) := HPA.out.drew
      refine AnyBut.begin (z := 11) (S := fun U => U.cell? ⟨M, 1, none⟩ = some (.int .i64 at')) (by kernel_rfl) ?_
      refine AnyBut.take 0 (some 47) (v := (ptr g)) rfl rfl (by kernel_rfl) (by decide) (by kernel_rfl) (by kernel_rfl) (by kernel_rfl) (by kernel_rfl) (fun _ _ _ h => h) (Or.inl ⟨by rfl, fun w hS => ?_⟩) HS.out ?_
      · (go_simp)
      simp only [Act.put, List.setIfInBounds_toArray, List.set_cons_zero, List.set_cons_succ]
      refine AnyBut.take 1 (some 48) (v := (.pointer (some ⟨M, 1, none⟩))) rfl rfl (by kernel_rfl) (by decide) (by kernel_rfl) (by kernel_rfl) (by kernel_rfl) (by kernel_rfl) (fun _ _ _ h => h) (Or.inl ⟨by rfl, fun w hS => ?_⟩) HS.out ?_
      · (go_simp)
      simp only [Act.put, List.setIfInBounds_toArray, List.set_cons_zero, List.set_cons_succ]
      refine AnyBut.take 2 (some 49) (v := (.int .i64 at')) rfl rfl (by kernel_rfl) (by decide) (by kernel_rfl) (by kernel_rfl) (by kernel_rfl) (by kernel_rfl) (fun _ _ _ h => h) (Or.inl ⟨by rfl, fun w hS => ?_⟩) HS.out ?_
      · (have q1 := hS; go_simp)
      simp only [Act.put, List.setIfInBounds_toArray, List.set_cons_zero, List.set_cons_succ]
      refine AnyBut.take 3 (some 50) (v := (.string (sx.extract 0 n))) rfl rfl (by kernel_rfl) (by decide) (by kernel_rfl) (by kernel_rfl) (by kernel_rfl) (by kernel_rfl) (fun _ _ _ h => h) (Or.inl ⟨by rfl, fun w hS => ?_⟩) HS.out ?_
      · (go_simp)
      simp only [Act.put, List.setIfInBounds_toArray, List.set_cons_zero, List.set_cons_succ]
      refine AnyBut.take 5 (some 52) (v := (ptr h)) rfl rfl (by kernel_rfl) (by decide) (by kernel_rfl) (by kernel_rfl) (by kernel_rfl) (by kernel_rfl) (fun _ _ _ h => h) (Or.inl ⟨by rfl, fun w hS => ?_⟩) HS.out ?_
      · (go_simp)
      simp only [Act.put, List.setIfInBounds_toArray, List.set_cons_zero, List.set_cons_succ]
      refine AnyBut.take 6 (some 53) (v := (.pointer (some ⟨M, 1, none⟩))) rfl rfl (by kernel_rfl) (by decide) (by kernel_rfl) (by kernel_rfl) (by kernel_rfl) (by kernel_rfl) (fun _ _ _ h => h) (Or.inl ⟨by rfl, fun w hS => ?_⟩) HS.out ?_
      · (go_simp)
      simp only [Act.put, List.setIfInBounds_toArray, List.set_cons_zero, List.set_cons_succ]
      refine AnyBut.take 7 (some 54) (v := (.int .i64 at')) rfl rfl (by kernel_rfl) (by decide) (by kernel_rfl) (by kernel_rfl) (by kernel_rfl) (by kernel_rfl) (fun _ _ _ h => h) (Or.inl ⟨by rfl, fun w hS => ?_⟩) HS.out ?_
      · (have q1 := hS; go_simp)
      simp only [Act.put, List.setIfInBounds_toArray, List.set_cons_zero, List.set_cons_succ]
      refine AnyBut.take 8 (some 55) (v := (.string (sx.extract 0 n))) rfl rfl (by kernel_rfl) (by decide) (by kernel_rfl) (by kernel_rfl) (by kernel_rfl) (by kernel_rfl) (fun _ _ _ h => h) (Or.inl ⟨by rfl, fun w hS => ?_⟩) HS.out ?_
      · (go_simp)
      simp only [Act.put, List.setIfInBounds_toArray, List.set_cons_zero, List.set_cons_succ]
      refine AnyBut.one 4 (by kernel_rfl) rfl (by rfl) (fun KK hK => ?_)
      go_simp
      go_at_call 18
      refine (write_any g kg v s at' (sx.extract 0 n) _ HP2.out.dk (by omega) (by omega)).mono ?_
      rintro e w3 ⟨v3, rfl, hD3, hT3⟩
      have HP3 : Hid (Pair W w3 g kg v3 (Sc.writeS s at' (sx.extract 0 n)) h vk vp s) := HP2.out.d hD3 hT3
      have HS3 : Hid ((fun U : World => U.cell? ⟨M, 1, none⟩ = some (.int .i64 at')) w3) := cell_turn hT3 HNF.out.1 HS.out
      clear hD3 hT3
      refine hK.out _ _ (fun _ => HS3.out) ?_
      clear hK KK
      refine AnyBut.one 9 (by kernel_rfl) rfl (by rfl) (fun KK hK => ?_)
      go_simp
      go_at_call 28
      refine (rwrite_any h vk vp s at' (sx.extract 0 n) _ HP3.out.rk (by omega) (by omega)).mono ?_
      rintro e w4 ⟨vp4, rfl, hR4, hT4⟩
      have HF : Hid (DoesP W g kg h vk s w4) := ⟨v3, vp4, _, HP3.out.r hR4 hT4, Sc.writeS_step s at' (sx.extract 0 n)⟩
      have HS4 : Hid ((fun U : World => U.cell? ⟨M, 1, none⟩ = some (.int .i64 at')) w4) := cell_turn hT4 HNF.out.2 HS3.out
      clear hR4 hT4
      refine hK.out _ _ (fun _ => HS4.out) ?_
      clear hK KK
      generalize Sc.writeE s at' (sx.extract 0 n) = re at *
      refine AnyBut.take 10 (some 57) (v := (.bool true)) rfl rfl (by kernel_rfl) (by decide) (by kernel_rfl) (by kernel_rfl) (by kernel_rfl) (by kernel_rfl) (fun _ _ _ h => h) (Or.inl ⟨by rfl, fun w hS => ?_⟩) HS4.out ?_
      · (go_simp)
      simp only [Act.put, List.setIfInBounds_toArray, List.set_cons_zero, List.set_cons_succ]
      refine AnyBut.one 11 (by kernel_rfl) rfl (by rfl) (fun KK hK => ?_)
      go_simp
      refine hK.out _ _ (fun h => absurd rfl h) ?_
      clear hK KK
      refine AnyBut.done (by kernel_rfl) ?_
      go_wp2
      go_ret
      exact ⟨rfl, HF.out⟩
    · have b1 : (kind == 1) = false := by simp [e1]
      by_cases e2 : kind = 2
      · have b2 : (kind == 2) = true := by simp [e2]
        clear e2
        go_wp2_with fail
        refine (flush_any g kg v s _ HPA.out.dk (by omega)).mono ?_
        rintro e w3 ⟨v3, rfl, hD3, hT3⟩
        have HP3 : Hid (Pair W w3 g kg v3 (Sc.flushS s) h vk vp s) := HPA.out.d hD3 hT3
        clear hD3 hT3
        go_wp2_with fail
        refine (rflush_any h vk vp s _ HP3.out.rk (by omega)).mono ?_
        rintro e w4 ⟨vp4, rfl, hR4, hT4⟩
        have HF : Hid (DoesP W g kg h vk s w4) := ⟨v3, vp4, _, HP3.out.r hR4 hT4, Sc.flushS_step s⟩
        clear hR4 hT4
        generalize Sc.flushE s = re at *
        go_wp2
        go_ret
        exact ⟨rfl, HF.out⟩
      · have b2 : (kind == 2) = false := by simp [e2]
        by_cases e3 : kind = 3
        · have b3 : (kind == 3) = true := by simp [e3]
          clear e3
          go_wp2_with fail
          generalize World.alloc w _ = w2 at *
          generalize w.heap.size = M at *
          have HS : Hid ((fun U : World => U.cell? ⟨M, 1, none⟩ = some (.int .i64 at')) w2.drew) := by
            show World.cell? w2 _ = _
            rw [cell_of_row _ _ _ _ _ (0, 0) HRW.out]
            rfl
          have HP2 : Hid (Pair W w2.drew g kg v s h vk vp s) := HPA.out.drew
          refine AnyBut.begin (z := 9) (S := fun U => U.cell? ⟨M, 1, none⟩ = some (.int .i64 at')) (by kernel_rfl) ?_
          refine AnyBut.take 0 (some 67) (v := (ptr g)) rfl rfl (by kernel_rfl) (by decide) (by kernel_rfl) (by kernel_rfl) (by kernel_rfl) (by kernel_rfl) (fun _ _ _ h => h) (Or.inl ⟨by rfl, fun w hS => ?_⟩) HS.out ?_
          · (go_simp)
          simp only [Act.put, List.setIfInBounds_toArray, List.set_cons_zero, List.set_cons_succ]
          refine AnyBut.take 1 (some 68) (v := (.pointer (some ⟨M, 1, none⟩))) rfl rfl (by kernel_rfl) (by decide) (by kernel_rfl) (by kernel_rfl) (by kernel_rfl) (by kernel_rfl) (fun _ _ _ h => h) (Or.inl ⟨by rfl, fun w hS => ?_⟩) HS.out ?_
          · (go_simp)
          simp only [Act.put, List.setIfInBounds_toArray, List.set_cons_zero, List.set_cons_succ]
          refine AnyBut.take 2 (some 69) (v := (.int .i64 at')) rfl rfl (by kernel_rfl) (by decide) (by kernel_rfl) (by kernel_rfl) (by kernel_rfl) (by kernel_rfl) (fun _ _ _ h => h) (Or.inl ⟨by rfl, fun w hS => ?_⟩) HS.out ?_
          · (have q1 := hS; go_simp)
          simp only [Act.put, List.setIfInBounds_toArray, List.set_cons_zero, List.set_cons_succ]
          refine AnyBut.take 4 (some 71) (v := (ptr h)) rfl rfl (by kernel_rfl) (by decide) (by kernel_rfl) (by kernel_rfl) (by kernel_rfl) (by kernel_rfl) (fun _ _ _ h => h) (Or.inl ⟨by rfl, fun w hS => ?_⟩) HS.out ?_
          · (go_simp)
          simp only [Act.put, List.setIfInBounds_toArray, List.set_cons_zero, List.set_cons_succ]
          refine AnyBut.take 5 (some 72) (v := (.pointer (some ⟨M, 1, none⟩))) rfl rfl (by kernel_rfl) (by decide) (by kernel_rfl) (by kernel_rfl) (by kernel_rfl) (by kernel_rfl) (fun _ _ _ h => h) (Or.inl ⟨by rfl, fun w hS => ?_⟩) HS.out ?_
          · (go_simp)
          simp only [Act.put, List.setIfInBounds_toArray, List.set_cons_zero, List.set_cons_succ]
          refine AnyBut.take 6 (some 73) (v := (.int .i64 at')) rfl rfl (by kernel_rfl) (by decide) (by kernel_rfl) (by kernel_rfl) (by kernel_rfl) (by kernel_rfl) (fun _ _ _ h => h) (Or.inl ⟨by rfl, fun w hS => ?_⟩) HS.out ?_
          · (have q1 := hS; go_simp)
          simp only [Act.put, List.setIfInBounds_toArray, List.set_cons_zero, List.set_cons_succ]
          refine AnyBut.one 3 (by kernel_rfl) rfl (by rfl) (fun KK hK => ?_)
          go_simp
          go_at_call 20
          refine (arm_any g kg v s at' _ HP2.out.dk (by omega)).mono ?_
          rintro e w3 ⟨v3, rfl, hD3, hT3⟩
          have HP3 : Hid (Pair W w3 g kg v3 (Sc.armS s at') h vk vp s) := HP2.out.d hD3 hT3
          have HS3 : Hid ((fun U : World => U.cell? ⟨M, 1, none⟩ = some (.int .i64 at')) w3) := cell_turn hT3 HNF.out.1 HS.out
          clear hD3 hT3
          refine hK.out _ _ (fun _ => HS3.out) ?_
          clear hK KK
          refine AnyBut.one 7 (by kernel_rfl) rfl (by rfl) (fun KK hK => ?_)
          go_simp
          go_at_call 30
          refine (rarm_any h vk vp s at' _ HP3.out.rk (by omega)).mono ?_
          rintro e w4 ⟨vp4, rfl, hR4, hT4⟩
          have HF : Hid (DoesP W g kg h vk s w4) := ⟨v3, vp4, _, HP3.out.r hR4 hT4, Sc.armS_step s at'⟩
          have HS4 : Hid ((fun U : World => U.cell? ⟨M, 1, none⟩ = some (.int .i64 at')) w4) := cell_turn hT4 HNF.out.2 HS3.out
          clear hR4 hT4
          refine hK.out _ _ (fun _ => HS4.out) ?_
          clear hK KK
          generalize Sc.liveE s = re at *
          refine AnyBut.take 8 (some 75) (v := (.bool true)) rfl rfl (by kernel_rfl) (by decide) (by kernel_rfl) (by kernel_rfl) (by kernel_rfl) (by kernel_rfl) (fun _ _ _ h => h) (Or.inl ⟨by rfl, fun w hS => ?_⟩) HS4.out ?_
          · (go_simp)
          simp only [Act.put, List.setIfInBounds_toArray, List.set_cons_zero, List.set_cons_succ]
          refine AnyBut.one 9 (by kernel_rfl) rfl (by rfl) (fun KK hK => ?_)
          go_simp
          refine hK.out _ _ (fun h => absurd rfl h) ?_
          clear hK KK
          refine AnyBut.done (by kernel_rfl) ?_
          go_wp2
          go_ret
          exact ⟨rfl, HF.out⟩
        · have b3 : (kind == 3) = false := by simp [e3]
          by_cases e4 : kind = 4
          · have b4 : (kind == 4) = true := by simp [e4]
            clear e4
            go_wp2_with fail
            refine (off_any g kg v s _ HPA.out.dk).mono ?_
            rintro e w3 ⟨v3, rfl, hD3, hT3⟩
            have HP3 : Hid (Pair W w3 g kg v3 (Sc.offS s) h vk vp s) := HPA.out.d hD3 hT3
            clear hD3 hT3
            go_wp2_with fail
            refine (roff_any h vk vp s _ HP3.out.rk).mono ?_
            rintro e w4 ⟨vp4, rfl, hR4, hT4⟩
            have HF : Hid (DoesP W g kg h vk s w4) := ⟨v3, vp4, _, HP3.out.r hR4 hT4, Sc.offS_step s⟩
            clear hR4 hT4
            generalize Sc.liveE s = re at *
            go_wp2
            go_ret
            exact ⟨rfl, HF.out⟩
          · have b4 : (kind == 4) = false := by simp [e4]
            clear e0 e1 e2 e3 e4
            go_wp2_with fail
            generalize World.alloc w _ = w2 at *
            generalize w.heap.size = M at *
            have HS : Hid ((fun U : World => U.cell? ⟨M, 3, none⟩ = some (.slice ka kl kc)) w2.drew) := by
              show World.cell? w2 _ = _
              rw [cell_of_row _ _ _ _ _ (0, 0) HRW.out]
              rfl
            have HP2 : Hid (Pair W w2.drew g kg v s h vk vp s) := HPA.out.drew
            refine AnyBut.begin (z := 9) (S := fun U => U.cell? ⟨M, 3, none⟩ = some (.slice ka kl kc)) (by kernel_rfl) ?_
            refine AnyBut.take 0 (some 83) (v := (ptr g)) rfl rfl (by kernel_rfl) (by decide) (by kernel_rfl) (by kernel_rfl) (by kernel_rfl) (by kernel_rfl) (fun _ _ _ h => h) (Or.inl ⟨by rfl, fun w hS => ?_⟩) HS.out ?_
            · (go_simp)
            simp only [Act.put, List.setIfInBounds_toArray, List.set_cons_zero, List.set_cons_succ]
            refine AnyBut.take 1 (some 84) (v := (.pointer (some ⟨M, 3, none⟩))) rfl rfl (by kernel_rfl) (by decide) (by kernel_rfl) (by kernel_rfl) (by kernel_rfl) (by kernel_rfl) (fun _ _ _ h => h) (Or.inl ⟨by rfl, fun w hS => ?_⟩) HS.out ?_
            · (go_simp)
            simp only [Act.put, List.setIfInBounds_toArray, List.set_cons_zero, List.set_cons_succ]
            refine AnyBut.take 2 (some 85) (v := (.slice ka kl kc)) rfl rfl (by kernel_rfl) (by decide) (by kernel_rfl) (by kernel_rfl) (by kernel_rfl) (by kernel_rfl) (fun _ _ _ h => h) (Or.inl ⟨by rfl, fun w hS => ?_⟩) HS.out ?_
            · (have q1 := hS; go_simp)
            simp only [Act.put, List.setIfInBounds_toArray, List.set_cons_zero, List.set_cons_succ]
            refine AnyBut.take 4 (some 87) (v := (ptr h)) rfl rfl (by kernel_rfl) (by decide) (by kernel_rfl) (by kernel_rfl) (by kernel_rfl) (by kernel_rfl) (fun _ _ _ h => h) (Or.inl ⟨by rfl, fun w hS => ?_⟩) HS.out ?_
            · (go_simp)
            simp only [Act.put, List.setIfInBounds_toArray, List.set_cons_zero, List.set_cons_succ]
            refine AnyBut.take 5 (some 88) (v := (.pointer (some ⟨M, 3, none⟩))) rfl rfl (by kernel_rfl) (by decide) (by kernel_rfl) (by kernel_rfl) (by kernel_rfl) (by kernel_rfl) (fun _ _ _ h => h) (Or.inl ⟨by rfl, fun w hS => ?_⟩) HS.out ?_
            · (go_simp)
            simp only [Act.put, List.setIfInBounds_toArray, List.set_cons_zero, List.set_cons_succ]
            refine AnyBut.take 6 (some 89) (v := (.slice ka kl kc)) rfl rfl (by kernel_rfl) (by decide) (by kernel_rfl) (by kernel_rfl) (by kernel_rfl) (by kernel_rfl) (fun _ _ _ h => h) (Or.inl ⟨by rfl, fun w hS => ?_⟩) HS.out ?_
            · (have q1 := hS; go_simp)
            simp only [Act.put, List.setIfInBounds_toArray, List.set_cons_zero, List.set_cons_succ]
            refine AnyBut.one 3 (by kernel_rfl) rfl (by rfl) (fun KK hK => ?_)
            go_simp
            go_at_call 22
            refine (on_any g kg v s ka kl kc m _ HP2.out.dk (HKS.out.bools HP2.out.bel HP2.out.dab) hkl hkc).mono ?_
            rintro e w3 ⟨v3, rfl, hD3, hT3⟩
            have HP3 : Hid (Pair W w3 g kg v3 (Sc.onS s (marks kl m)) h vk vp s) := HP2.out.d hD3 hT3
            have HS3 : Hid ((fun U : World => U.cell? ⟨M, 3, none⟩ = some (.slice ka kl kc)) w3) := cell_turn hT3 HNF.out.1 HS.out
            clear hD3 hT3
            refine hK.out _ _ (fun _ => HS3.out) ?_
            clear hK KK
            refine AnyBut.one 7 (by kernel_rfl) rfl (by rfl) (fun KK hK => ?_)
            go_simp
            go_at_call 32
            refine (ron_any h vk vp s ka kl kc m _ HP3.out.rk (HKS.out.bools HP3.out.bel HP3.out.rab) hkl hkc).mono ?_
            rintro e w4 ⟨vp4, rfl, hR4, hT4⟩
            have HF : Hid (DoesP W g kg h vk s w4) := ⟨v3, vp4, _, HP3.out.r hR4 hT4, Sc.onS_step s (marks kl m)⟩
            have HS4 : Hid ((fun U : World => U.cell? ⟨M, 3, none⟩ = some (.slice ka kl kc)) w4) := cell_turn hT4 HNF.out.2 HS3.out
            clear hR4 hT4
            refine hK.out _ _ (fun _ => HS4.out) ?_
            clear hK KK
            generalize Sc.onE s = re at *
            refine AnyBut.take 8 (some 91) (v := (.bool true)) rfl rfl (by kernel_rfl) (by decide) (by kernel_rfl) (by kernel_rfl) (by kernel_rfl) (by kernel_rfl) (fun _ _ _ h => h) (Or.inl ⟨by rfl, fun w hS => ?_⟩) HS4.out ?_
            · (go_simp)
            simp only [Act.put, List.setIfInBounds_toArray, List.set_cons_zero, List.set_cons_succ]
            refine AnyBut.one 9 (by kernel_rfl) rfl (by rfl) (fun KK hK => ?_)
            go_simp
            refine hK.out _ _ (fun h => absurd rfl h) ?_
            clear hK KK
            refine AnyBut.done (by kernel_rfl) ?_
            go_wp2
            go_ret
            exact ⟨rfl, HF.out⟩
end Go.Proofs.Ytbhbfnnlpkikbaa
