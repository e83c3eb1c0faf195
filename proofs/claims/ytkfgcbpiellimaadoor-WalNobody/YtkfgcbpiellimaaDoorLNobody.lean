/- Proved: logs that Open did not make have nothing, and do nothing; there is none on no disk. -/
import Derived.Test.YtkfgcbpiellimaaDoorLWorks
namespace Go.Proofs.YtkfgcbpiellimaaDoor
open Go.RowKit
def NoLog (w : World) (v : Value) : Prop := v = .pointer none ∨ ∃ q, v = ptr q ∧ w.cell? ⟨q, 0, none⟩ = some (.pointer none)
set_option maxHeartbeats 400000 in
theorem lmade_no (v : Value) (w : World) (h : NoLog w v) : Calls Tryd.prog 28 #[v] w fun e w' => e = .returned (.bool false) ∧ w' = w := by
  rcases h with rfl | ⟨q, rfl, c0⟩
  · go_enter Tryd.func28, Tryd.ntmps28
    go_wp2
    go_ret
    exact ⟨rfl, rfl⟩
  · go_enter Tryd.func28, Tryd.ntmps28
    go_wp2
    go_ret
    exact ⟨rfl, rfl⟩
set_option maxHeartbeats 400000 in
theorem lready_no (v : Value) (w : World) (h : NoLog w v) : Calls Tryd.prog 29 #[v] w fun e w' => e = .returned (.int .i64 1) ∧ w' = w := by
  have HM := lmade_no v w h
  clear h
  go_enter Tryd.func29, Tryd.ntmps29
  go_wp2_with (go_at_call 28; refine HM.mono ?_; rintro e w' ⟨rfl, rfl⟩)
  go_ret
  exact ⟨rfl, rfl⟩
set_option maxHeartbeats 400000 in
theorem ladd_no (v u : Value) (w : World) (h : NoLog w v) : Calls Tryd.prog 9 #[v, u] w fun e w' => e = .returned (.int .i64 1) ∧ w' = w := by
  have HM := lready_no v w h
  clear h
  go_enter Tryd.func9, Tryd.ntmps9
  go_wp2_with (go_at_call 29; refine HM.mono ?_; rintro e w' ⟨rfl, rfl⟩)
  go_ret
  exact ⟨rfl, rfl⟩
set_option maxHeartbeats 400000 in
theorem lsync_no (v : Value) (w : World) (h : NoLog w v) : Calls Tryd.prog 10 #[v] w fun e w' => e = .returned (.int .i64 1) ∧ w' = w := by
  have HM := lready_no v w h
  clear h
  go_enter Tryd.func10, Tryd.ntmps10
  go_wp2_with (go_at_call 29; refine HM.mono ?_; rintro e w' ⟨rfl, rfl⟩)
  go_ret
  exact ⟨rfl, rfl⟩
set_option maxHeartbeats 400000 in
theorem lreset_no (v : Value) (w : World) (h : NoLog w v) : Calls Tryd.prog 11 #[v] w fun e w' => e = .returned (.int .i64 1) ∧ w' = w := by
  have HM := lready_no v w h
  clear h
  go_enter Tryd.func11, Tryd.ntmps11
  go_wp2_with (go_at_call 29; refine HM.mono ?_; rintro e w' ⟨rfl, rfl⟩)
  go_ret
  exact ⟨rfl, rfl⟩
set_option maxHeartbeats 400000 in
theorem ldrop_no (v : Value) (w : World) (h : NoLog w v) : Calls Tryd.prog 8 #[v] w fun e w' => e = .returned (.tuple #[]) ∧ w' = w := by
  have HM := lmade_no v w h
  clear h
  go_enter Tryd.func8, Tryd.ntmps8
  go_wp2_with (go_at_call 28; refine HM.mono ?_; rintro e w' ⟨rfl, rfl⟩)
  exact bodyPost_ret (results_none rfl _ _ _) rfl ⟨rfl, rfl⟩
set_option maxHeartbeats 400000 in
theorem lrecords_no (v : Value) (w : World) (h : NoLog w v) : Calls Tryd.prog 12 #[v] w fun e w' => e = .returned (.slice none 0 0) ∧ w' = w := by
  have HM := lmade_no v w h
  clear h
  go_enter Tryd.func12, Tryd.ntmps12
  go_wp2_with (go_at_call 28; refine HM.mono ?_; rintro e w' ⟨rfl, rfl⟩)
  go_ret
  exact ⟨rfl, rfl⟩
set_option maxHeartbeats 400000 in
theorem lwaiting_no (v : Value) (w : World) (h : NoLog w v) : Calls Tryd.prog 13 #[v] w fun e w' => e = .returned (.int .i64 0) ∧ w' = w := by
  have HM := lmade_no v w h
  clear h
  go_enter Tryd.func13, Tryd.ntmps13
  go_wp2_with (go_at_call 28; refine HM.mono ?_; rintro e w' ⟨rfl, rfl⟩)
  go_ret
  exact ⟨rfl, rfl⟩
set_option maxHeartbeats 400000 in
theorem lepoch_no (v : Value) (w : World) (h : NoLog w v) : Calls Tryd.prog 14 #[v] w fun e w' => e = .returned (.int .i64 0) ∧ w' = w := by
  have HM := lmade_no v w h
  clear h
  go_enter Tryd.func14, Tryd.ntmps14
  go_wp2_with (go_at_call 28; refine HM.mono ?_; rintro e w' ⟨rfl, rfl⟩)
  go_ret
  exact ⟨rfl, rfl⟩
set_option maxHeartbeats 400000 in
theorem lroom_no (v : Value) (w : World) (h : NoLog w v) : Calls Tryd.prog 15 #[v] w fun e w' => e = .returned (.int .i64 0) ∧ w' = w := by
  have HM := lmade_no v w h
  clear h
  go_enter Tryd.func15, Tryd.ntmps15
  go_wp2_with (go_at_call 28; refine HM.mono ?_; rintro e w' ⟨rfl, rfl⟩)
  go_ret
  exact ⟨rfl, rfl⟩
set_option maxHeartbeats 400000 in
theorem open_no (b n : Int) (w : World) : Calls Tryd.prog 7 #[.pointer none, .int .i64 b, .int .i64 n] w fun e w' => e = .returned (.tuple #[.pointer none, .int .i64 1]) ∧ w' = w := by
  have HM := size_no (.pointer none) w (.inl rfl)
  go_enter Tryd.func7, Tryd.ntmps7
  go_wp2_with (go_at_call 26; refine HM.mono ?_; rintro e w' ⟨rfl, rfl⟩)
  go_ret2
  exact ⟨rfl, rfl⟩
set_option maxHeartbeats 4000000 in
set_option maxRecDepth 20000 in
theorem nobody_walk (r : ByteArray) (w : World) (_hr : r.size ≤ 9223372036854775807) (hT : Tab w) :
    Calls Tryd.prog 3 #[.string r] w fun e w' => e = .returned (.bool true) ∧ Below w.heap.size w w' := by
  have HT : Hid (Tab w) := hT
  have hpos := hT.pos
  have HON := open_no 0 4 w
  clear hT
  go_enter Tryd.func3, Tryd.ntmps3
  go_wp2_with fail
  refine HON.mono ?_
  rintro e w' ⟨rfl, hw⟩
  rw [hw]
  clear hw w' HON
  go_wp2_with fail
  have HB : Hid (Below w.heap.size w ((w.alloc (.cells #[.pointer none, .int .i64 0, .int .i64 0, .int .i64 0, .int .i64 0, .slice none 0 0, .slice none 0 0, .int .i64 0, .bool false] 29)).alloc (.cells #[.pointer none, .pointer (some ⟨w.heap.size, 0, none⟩), .pointer none] 22))) := ((Below.refl _ w).alloc (Nat.le_refl _) _).alloc (by simp) _
  have HR : Hid (((w.alloc (.cells #[.pointer none, .int .i64 0, .int .i64 0, .int .i64 0, .int .i64 0, .slice none 0 0, .slice none 0 0, .int .i64 0, .bool false] 29)).alloc (.cells #[.pointer none, .pointer (some ⟨w.heap.size, 0, none⟩), .pointer none] 22)).heap[(w.alloc (.cells #[.pointer none, .int .i64 0, .int .i64 0, .int .i64 0, .int .i64 0, .slice none 0 0, .slice none 0 0, .int .i64 0, .bool false] 29)).heap.size]? = some (.cells #[.pointer none, .pointer (some ⟨w.heap.size, 0, none⟩), .pointer none] 22 (0, 0))) := heap_alloc_new _ _
  have HC : Hid (((w.alloc (.cells #[.pointer none, .int .i64 0, .int .i64 0, .int .i64 0, .int .i64 0, .slice none 0 0, .slice none 0 0, .int .i64 0, .bool false] 29)).alloc (.cells #[.pointer none, .pointer (some ⟨w.heap.size, 0, none⟩), .pointer none] 22)).cell? ⟨w.heap.size, 0, none⟩ = some (.pointer none)) := by
    show _ = _
    rw [World.cell?_of_block (Below.heap_alloc _ _ _ (by simp)), cell_of_row _ _ _ _ _ (0, 0) (heap_alloc_new w _)]
    rfl
  have hsz : (w.alloc (.cells #[.pointer none, .int .i64 0, .int .i64 0, .int .i64 0, .int .i64 0, .slice none 0 0, .slice none 0 0, .int .i64 0, .bool false] 29)).heap.size = w.heap.size + 1 := by simp
  rw [hsz] at HR
  clear hsz
  generalize World.alloc (World.alloc w _) _ = w2 at *
  go_loopw [6, 16] (fun _ s16 wr => ∃ k : Nat, k ≤ 3 ∧ s16 = .int .i64 (k : Int) ∧ wr = w2) (fun _ s16 _ => 3 - (intOf s16).toNat)
  case atStart => exact ⟨0, by omega, rfl, rfl⟩
  case round =>
    obtain ⟨k, hk, rfl, hwr⟩ := hrel
    subst hwr
    by_cases hk3 : k < 3
    · have dk : decide ((k : Int) < 3) = true := decide_eq_true (by omega)
      have k0 : (0 : Int) ≤ (k : Int) := by omega
      have k1 : (k : Int) < 3 := by omega
      obtain ⟨v, hv, hno⟩ : ∃ v, wr.cell? ⟨w.heap.size + 1, k, none⟩ = some v ∧ NoLog wr v := by
        rw [cell_of_row _ _ _ _ _ (0, 0) HR.out]
        match k, hk3 with
        | 0, _ => exact ⟨_, rfl, .inl rfl⟩
        | 1, _ => exact ⟨_, rfl, .inr ⟨w.heap.size, rfl, HC.out⟩⟩
        | 2, _ => exact ⟨_, rfl, .inl rfl⟩
      have HDR := ldrop_no v wr hno
      have HAD := ladd_no v (.string r) wr hno
      have HSY := lsync_no v wr hno
      have HRE := lreset_no v wr hno
      have HRC := lrecords_no v wr hno
      have HWA := lwaiting_no v wr hno
      have HEP := lepoch_no v wr hno
      have HRO := lroom_no v wr hno
      have HFN : Hid (∃ k' : Nat, k' ≤ 3 ∧ Value.int .i64 ((k : Int) + 1) = .int .i64 (k' : Int)) := ⟨k + 1, by omega, by go_num⟩
      clear hno
      go_wp2_with (first | (go_at_call 8; refine HDR.mono ?_; rintro e w' ⟨rfl, rfl⟩) | (go_at_call 9; refine HAD.mono ?_; rintro e w' ⟨rfl, rfl⟩) | (go_at_call 10; refine HSY.mono ?_; rintro e w' ⟨rfl, rfl⟩) | (go_at_call 11; refine HRE.mono ?_; rintro e w' ⟨rfl, rfl⟩) | (go_at_call 12; refine HRC.mono ?_; rintro e w' ⟨rfl, rfl⟩) | (go_at_call 13; refine HWA.mono ?_; rintro e w' ⟨rfl, rfl⟩) | (go_at_call 14; refine HEP.mono ?_; rintro e w' ⟨rfl, rfl⟩) | (go_at_call 15; refine HRO.mono ?_; rintro e w' ⟨rfl, rfl⟩))
      go_roundw
      case rel =>
        obtain ⟨k', h1, h2⟩ := HFN.out
        exact ⟨k', h1, h2, trivial⟩
      case measure => (simp [intOf]) <;> omega
    · have dk : decide ((k : Int) < 3) = false := decide_eq_false (by omega)
      have HWK := works_any wr (HT.out.below HB.out hpos)
      have hsw := HB.out.size
      go_wp2_with fail
      refine HWK.mono ?_
      rintro e w3 ⟨rfl, hB3⟩
      have HFN : Hid (Below w.heap.size w w3) := HB.out.trans (hB3.mono hsw)
      clear hB3 HWK
      go_wp2
      go_ret
      exact ⟨rfl, HFN.out⟩
end Go.Proofs.YtkfgcbpiellimaaDoor
