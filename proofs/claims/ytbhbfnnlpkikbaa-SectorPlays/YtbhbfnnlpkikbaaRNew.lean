/- Proved: what the document's New makes. -/
import Derived.Test.YtbhbfnnlpkikbaaRKeep
namespace Go.Proofs.Ytbhbfnnlpkikbaa
open Go.RowKit
theorem info_str : Try.prog.info? 9 = some Try.t9 := by kernel_rfl
theorem fill_none : Sc.fill ⟨#[]⟩ = Sc.zero64 := by
  unfold Sc.fill Sc.zero64
  congr 1
/- one text behind a list of the call's own, as one step of a statement whose order is drawn -/
theorem wp_append_str {o : Oper} {a : Act} {K : Act → World → Prop} {Q : Exit → Act → World → Prop} (sl x : Operand) (d : Option Tmp) (hd : o.dst = d)
    (ho : o.op = .call { callee := .builtin .append, args := #[sl, x], argTypes := #[35, 35] }) (W : World) (N : Nat) (v : Value) (n : Nat) (vs : List Value) (hs : a.eval sl = v) (hown : W.ownsRow N 9 1 v n vs)
    (ad : Addr) (c : Nat) (t : ByteArray) (hx : a.eval x = .slice (some ad) 1 c) (hnews : ∀ j u, [Value.string t][j]? = some u → W.cell? (ad.add j) = some u) (hb : n + 1 ≤ 100000) (hN : N ≤ W.heap.size)
    (h : ∀ v' w', w'.ownsRow N 9 1 v' (n + 1) (vs ++ [.string t]) → Below N W w' → K (a.put d v') w') : o.wp Try.prog a W K Q := by
  subst hd
  obtain ⟨v', w', hr, h2, h3, h4, h5⟩ := run_append_own_at (P := Try.prog) W N 35 o.type 9 Try.t9 (.string ByteArray.empty) 1 16 Try.underlying35 info_str rfl rfl rfl rfl (by omega) v n vs hown ad 1 c [.string t] rfl hnews (fun u hu => by rw [List.mem_singleton.1 hu]; rfl) (by unfold maxLen; omega) (by omega) hN
  unfold Oper.wp execOp
  simp only [ho, resolve, invoke, builtin, Sem.run_bind, Sem.run_pure, Result.andThen_ok, List.map_toArray, List.map_cons, List.map_nil, hs, hx, hr]
  exact h v' w' h2 ((Below.refl _ _).grown h3 hN (fun k hk => (hown.lt k hk).1))
structure NRel (w : World) (h k : Nat) (vk : Value) (wr : World) : Prop where
  row : wr.heap[h]? = some (.cells #[vk, .slice none 0 0, .bool false, .int .i64 (-1), .int .i64 0] 38 (0, 0))
  own : wr.ownsRow (h + 1) 9 1 vk k (List.replicate k (.string Sc.zero64))
  bel : Below h w wr
theorem NRel.cell {w wr : World} {h k : Nat} {vk : Value} (H : NRel w h k vk wr) : wr.cell? ⟨h, 0, none⟩ = some vk ∧ wr.frozen? ⟨h, 0, none⟩ = false := ⟨by rw [cell_of_row _ _ _ _ _ (0, 0) H.row]; rfl, frozen_of_row _ _ _ _ _ H.row⟩
theorem NRel.next {w wr w' : World} {h k : Nat} {vk v' : Value} (H : NRel w h k vk wr) (hB : Below (h + 1) wr w') (hO : w'.ownsRow (h + 1) 9 1 v' (k + 1) (List.replicate k (.string Sc.zero64) ++ [.string Sc.zero64])) : NRel w h (k + 1) v' (w'.setCell ⟨h, 0, none⟩ v') := by
  have hr : w'.heap[h]? = _ := (hB.block h (by omega)).trans H.row
  refine ⟨?_, ?_, (H.bel.trans (hB.mono (by omega))).setCell (Nat.le_refl _) _⟩
  · rw [heap_setCell_same w' h 0 _ _ _ hr]
    simp
  · rw [List.replicate_succ']
    exact own_keep hO (fun k hk => heap_setCell_other _ _ _ _ (fun e => by have := (hO.lt k hk).1; simp at e; omega))
set_option maxHeartbeats 4000000 in
set_option maxRecDepth 20000 in
theorem rnew_any (n : Nat) (w : World) (h1 : 1 ≤ n) (h2 : n ≤ 65536) :
    Calls Try.prog 9 #[.int .i64 (n : Int)] w fun e w' => ∃ h vk, e = .returned (.tuple #[ptr h, .int .i64 0]) ∧ Rk w' h vk (.slice none 0 0) (Sc.made n) ∧ Below w.heap.size w w' ∧ ∀ k ∈ rfoot h vk (.slice none 0 0), w.heap.size ≤ k := by
  have d1 : decide ((n : Int) < 1) = false := by simp; omega
  have d2 : decide ((65536 : Int) < (n : Int)) = false := by simp; omega
  have HFL : Hid (∀ W : World, Calls Try.prog 27 #[.string ⟨#[]⟩] W fun e w' => e = .returned (.string Sc.zero64) ∧ w' = W) := fun W => by have := rfilled_any ⟨#[]⟩ W (by decide); rwa [fill_none] at this
  have HR0 : Hid (NRel w w.heap.size 0 (.slice none 0 0) (w.alloc (.cells #[.slice none 0 0, .slice none 0 0, .bool false, .int .i64 (-1), .int .i64 0] 38))) := ⟨heap_alloc_new _ _, World.ownsRow_nil _ _ _ _, (Below.refl _ _).alloc (Nat.le_refl _) _⟩
  go_enter Try.func9, Try.ntmps9
  go_wp2_with fail
  generalize World.alloc w _ = w0 at *
  go_loopw [5] (fun s5 wr => ∃ k vk, k ≤ n ∧ s5 = .int .i64 (k : Int) ∧ NRel w w.heap.size k vk wr) (fun s5 _ => n - (intOf s5).toNat)
  case atStart => exact ⟨0, _, by omega, rfl, HR0.out⟩
  case round =>
    obtain ⟨k, vk, hk, rfl, hR⟩ := hrel
    have HR : Hid (NRel w w.heap.size k vk wr) := hR
    have hlt : w.heap.size < wr.heap.size := (Array.getElem?_eq_some_iff.1 hR.row).1
    clear hR HR0
    by_cases hkn : k < n
    · have dk : decide ((k : Int) < (n : Int)) = true := by simp; omega
      go_wp2_with fail
      obtain ⟨h, hh⟩ : ∃ h, h = w.heap.size := ⟨_, rfl⟩
      rw [← hh] at HR hlt ⊢
      have HHW : Hid (h = w.heap.size) := hh
      clear hh
      have HS : Hid ((fun W : World => W.cell? ⟨h, 0, none⟩ = some vk) wr.drew) := HR.out.cell.1
      refine AnyBut.begin (z := 10) (S := fun W => W.cell? ⟨h, 0, none⟩ = some vk) (by kernel_rfl) ?_
      refine AnyBut.take 0 (some 19) (v := (ptr h)) rfl rfl (by kernel_rfl) (by decide) (by kernel_rfl) (by kernel_rfl) (by kernel_rfl) (by kernel_rfl) (fun _ _ _ h => h) (Or.inl ⟨by rfl, fun w hS => ?_⟩) HS.out ?_
      · (go_simp)
      simp only [Act.put, List.setIfInBounds_toArray, List.set_cons_zero, List.set_cons_succ]
      refine AnyBut.take 1 (some 20) (v := (ptr h)) rfl rfl (by kernel_rfl) (by decide) (by kernel_rfl) (by kernel_rfl) (by kernel_rfl) (by kernel_rfl) (fun _ _ _ h => h) (Or.inl ⟨by rfl, fun w hS => ?_⟩) HS.out ?_
      · (go_simp)
      simp only [Act.put, List.setIfInBounds_toArray, List.set_cons_zero, List.set_cons_succ]
      refine AnyBut.take 2 (some 21) (v := (ptr h)) rfl rfl (by kernel_rfl) (by decide) (by kernel_rfl) (by kernel_rfl) (by kernel_rfl) (by kernel_rfl) (fun _ _ _ h => h) (Or.inl ⟨by rfl, fun w hS => ?_⟩) HS.out ?_
      · (go_simp)
      simp only [Act.put, List.setIfInBounds_toArray, List.set_cons_zero, List.set_cons_succ]
      refine AnyBut.take 3 (some 22) (v := (ptr h)) rfl rfl (by kernel_rfl) (by decide) (by kernel_rfl) (by kernel_rfl) (by kernel_rfl) (by kernel_rfl) (fun _ _ _ h => h) (Or.inl ⟨by rfl, fun w hS => ?_⟩) HS.out ?_
      · (go_simp)
      simp only [Act.put, List.setIfInBounds_toArray, List.set_cons_zero, List.set_cons_succ]
      refine AnyBut.take 4 (some 23) (v := (vk)) rfl rfl (by kernel_rfl) (by decide) (by kernel_rfl) (by kernel_rfl) (by kernel_rfl) (by kernel_rfl) (fun _ _ _ h => h) (Or.inl ⟨by rfl, fun w hS => ?_⟩) HS.out ?_
      · (have q1 := hS; go_simp)
      simp only [Act.put, List.setIfInBounds_toArray, List.set_cons_zero, List.set_cons_succ]
      refine AnyBut.one 5 (by kernel_rfl) rfl (by rfl) (fun KK hK => ?_)
      go_simp
      go_at_call 27
      refine (HFL.out _).mono ?_
      rintro e wS ⟨rfl, hwS⟩
      rw [hwS]
      clear hwS wS
      refine hK.out _ _ (fun _ => HS.out) ?_
      clear hK KK
      refine AnyBut.one 6 (by kernel_rfl) rfl (by rfl) (fun KK hK => ?_)
      go_simp
      have HS1 : Hid ((fun W : World => W.cell? ⟨h, 0, none⟩ = some vk) (wr.drew.alloc (.cells #[.string Sc.zero64] 9))) := by
        show World.cell? _ _ = _
        rw [← HS.out]
        exact World.cell?_of_block (Below.heap_alloc _ _ _ hlt)
      refine hK.out _ _ (fun _ => HS1.out) ?_
      clear hK KK
      refine AnyBut.one 7 (by kernel_rfl) rfl (by rfl) (fun KK hK => ?_)
      refine wp_append_str (.tmp 23) (.tmp 25) (some 26) rfl rfl _ (h + 1) vk k _ rfl (show World.ownsRow (wr.drew.alloc _) (h + 1) 9 1 vk k _ from World.ownsRow.alloc (w := wr.drew) HR.out.own _) ⟨wr.heap.size, 0, none⟩ 1 Sc.zero64 rfl (fun j u hj => by rw [Addr.add_mid]; exact range_all (cs := [.string Sc.zero64]) (heap_alloc_new wr.drew _) j u hj) (by omega) (by show h + 1 ≤ (wr.drew.alloc _).heap.size; simp; omega) ?_
      intro v2 w2 hO2 hB2
      have HB2 : Hid (Below (h + 1) wr w2) := ((Below.refl (h + 1) wr).drew.alloc (by show h + 1 ≤ wr.heap.size; omega) _).trans hB2
      have HN : Hid (NRel w h (k + 1) v2 (w2.setCell ⟨h, 0, none⟩ v2)) := HR.out.next HB2.out hO2
      have HS2 : Hid ((fun W : World => W.cell? ⟨h, 0, none⟩ = some vk) w2) := (HB2.out.cell (p := ⟨h, 0, none⟩) (by show h < h + 1; omega)).trans HR.out.cell.1
      have f2 : w2.frozen? ⟨h, 0, none⟩ = false := (World.frozen?_of_block (HB2.out.block h (by omega))).trans HR.out.cell.2
      obtain ⟨va, vc, rfl⟩ := own_slice hO2
      refine hK.out _ _ (fun _ => HS2.out) ?_
      clear hK KK hO2 hB2
      simp only [Act.put, List.setIfInBounds_toArray, List.set_cons_zero, List.set_cons_succ]
      refine AnyBut.take 8 (some 27) (v := (ptr h)) rfl rfl (by kernel_rfl) (by decide) (by kernel_rfl) (by kernel_rfl) (by kernel_rfl) (by kernel_rfl) (fun _ _ _ h => h) (Or.inl ⟨by rfl, fun w hS => ?_⟩) HS2.out ?_
      · (go_simp)
      simp only [Act.put, List.setIfInBounds_toArray, List.set_cons_zero, List.set_cons_succ]
      refine AnyBut.take 9 (some 28) (v := (ptr h)) rfl rfl (by kernel_rfl) (by decide) (by kernel_rfl) (by kernel_rfl) (by kernel_rfl) (by kernel_rfl) (fun _ _ _ h => h) (Or.inl ⟨by rfl, fun w hS => ?_⟩) HS2.out ?_
      · (go_simp)
      simp only [Act.put, List.setIfInBounds_toArray, List.set_cons_zero, List.set_cons_succ]
      refine AnyBut.one 10 (by kernel_rfl) rfl (by rfl) (fun KK hK => ?_)
      have c2 : w2.cell? ⟨h, 0, none⟩ = some vk := HS2.out
      go_simp
      refine hK.out _ _ (fun h => absurd rfl h) ?_
      clear hK KK
      refine AnyBut.done (by kernel_rfl) ?_
      have HFN : Hid (∃ k' vk, k' ≤ n ∧ Value.int .i64 ((k : Int) + 1) = .int .i64 (k' : Int) ∧ NRel w h k' vk (w2.setCell ⟨h, 0, none⟩ (.slice va (k + 1) vc))) := ⟨k + 1, _, by omega, by go_num, HN.out⟩
      have hhw : h = w.heap.size := HHW.out
      subst hhw
      clear HN HS2 HS1 HS HR HB2 f2 c2
      go_wp2
      go_roundw
      case rel => first | exact HFN.out | ((repeat apply Exists.intro); exact ⟨HFN.out, rfl⟩)
      case measure => (simp [intOf]) <;> omega
    · obtain rfl : k = n := by omega
      go_wp2
      go_ret2
      have H := HR.out
      refine ⟨w.heap.size, vk, rfl, ⟨H.row, ?_, World.ownsRow_nil _ _ _ _, fun e => ?_, by simp [Value.ownBlock], fun b _ => by simp [Value.ownBlock], Sc.made_ok h1 h2⟩, H.bel, fun b hb => ?_⟩
      · have e : (Sc.made k).kept.map Value.string = List.replicate k (.string Sc.zero64) := by simp [Sc.made]
        rw [e, show (Sc.made k).kept.length = k by simp [Sc.made]]
        obtain ⟨h0, h1⟩ := H.own
        refine ⟨h0, ?_⟩
        rcases h1 with h1 | ⟨g, cap', cur, hv, _, r⟩
        · exact .inl h1
        · exact .inr ⟨g, cap', cur, hv, Nat.zero_le _, r⟩
      · have := (H.own.lt _ e).1
        omega
      · simp only [rfoot, List.mem_cons, List.mem_append, Option.mem_toList, Value.ownBlock] at hb
        rcases hb with h | h | h
        · omega
        · have := (H.own.lt _ h).1
          omega
        · cases h
set_option maxHeartbeats 1000000 in
theorem rnew_bad (n : Int) (w : World) (h : n < 1 ∨ 65536 < n) :
    Calls Try.prog 9 #[.int .i64 n] w fun e w' => e = .returned (.tuple #[.pointer none, .int .i64 2]) ∧ w' = w := by
  by_cases h1 : n < 1
  · have d1 : decide (n < 1) = true := by simpa using h1
    go_enter Try.func9, Try.ntmps9
    go_wp2
    go_ret2
    exact ⟨rfl, rfl⟩
  · have d1 : decide (n < 1) = false := by simpa using h1
    have d2 : decide (65536 < n) = true := by simp; omega
    go_enter Try.func9, Try.ntmps9
    go_wp2
    go_ret2
    exact ⟨rfl, rfl⟩
end Go.Proofs.Ytbhbfnnlpkikbaa
