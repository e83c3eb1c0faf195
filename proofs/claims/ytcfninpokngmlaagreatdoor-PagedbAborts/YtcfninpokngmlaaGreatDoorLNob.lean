/- Proved: PagedbNobody's walk. -/
import Derived.Test.YtcfninpokngmlaaGreatDoorDNob
namespace Go.Proofs.YtcfninpokngmlaaGreatDoor
open Go.RowKit
def actV (k i n : Int) (s : ByteArray) (kp : Value) : Value := .agg #[.int .i64 k, .int .i64 i, .int .i64 n, .string s, kp]
def actC (k i n : Int) (s : ByteArray) (kp : Value) : Array Value := #[.int .i64 k, .int .i64 i, .int .i64 n, .string s, kp]
def dbE : Array Value := #[.pointer none, .pointer none, .int .i64 0, .int .i64 0, .int .i64 0, .int .i64 0, .int .i64 0, .int .i64 0, .int .i64 0, .int .i64 0, .int .i64 0, .map none, .pointer none, .bool false]
/- what stands there ahead of the loops -/
structure NobA (w w3 : World) (a x q : Nat) (k i n : Int) (s : ByteArray) (kp : Value) : Prop where
  bel : Below w.heap.size w w3
  act : w3.heap[a]? = some (.cells (actC k i n s kp) 28 (0, 0))
  row : w3.heap[q]? = some (.cells #[.pointer none, .pointer (some ⟨x, 0, none⟩)] 30 (0, 0))
  db : w3.cell? ⟨x, 0, none⟩ = some (.pointer none)
theorem nobA (w : World) (k i n : Int) (s : ByteArray) (kp : Value) : NobA w (((w.alloc (.cells (actC k i n s kp) 28)).alloc (.cells dbE 61)).alloc (.cells #[.pointer none, .pointer (some ⟨w.heap.size + 1, 0, none⟩)] 30)) w.heap.size (w.heap.size + 1) (w.heap.size + 1 + 1) k i n s kp := by
  have s1 : (w.alloc (.cells (actC k i n s kp) 28)).heap.size = w.heap.size + 1 := by simp
  have s2 : ((w.alloc (.cells (actC k i n s kp) 28)).alloc (.cells dbE 61)).heap.size = w.heap.size + 1 + 1 := by simp
  have h1 := heap_alloc_new w (.cells (actC k i n s kp) 28)
  have h2 := heap_alloc_new (w.alloc (.cells (actC k i n s kp) 28)) (.cells dbE 61)
  have h3 := heap_alloc_new ((w.alloc (.cells (actC k i n s kp) 28)).alloc (.cells dbE 61)) (.cells #[.pointer none, .pointer (some ⟨w.heap.size + 1, 0, none⟩)] 30)
  rw [s1] at h2
  rw [s2] at h3
  refine ⟨(((Below.refl _ w).alloc (Nat.le_refl _) _).alloc (by rw [s1]; omega) _).alloc (by rw [s2]; omega) _, ?_, h3, ?_⟩
  · rw [Below.heap_alloc _ _ _ (by rw [s2]; omega), Below.heap_alloc _ _ _ (by rw [s1]; omega)]
    exact h1
  · rw [World.cell?_of_block (Below.heap_alloc _ _ _ (by show w.heap.size + 1 < _; rw [s2]; omega)), cell_of_row _ _ _ _ _ (0, 0) h2]
    rfl
structure NobB (w w3 : World) (a x q : Nat) (k i n : Int) (s : ByteArray) (kp : Value) : Prop where
  bel : Below w.heap.size w w3
  act : w3.heap[a]? = some (.cells (actC k i n s kp) 28 (0, 0))
  row : w3.heap[q]? = some (.cells #[.pointer none, .pointer (some ⟨x, 0, none⟩)] 31 (0, 0))
  tx : w3.cell? ⟨x, 0, none⟩ = some (.pointer none)
theorem nobB {w w1 : World} {a x q : Nat} {k i n : Int} {s : ByteArray} {kp : Value} (h : NobA w w1 a x q k i n s kp) : NobB w ((w1.alloc (.cells txZ 66)).alloc (.cells #[.pointer none, .pointer (some ⟨w1.heap.size, 0, none⟩)] 31)) a w1.heap.size (w1.heap.size + 1) k i n s kp := by
  have hs := h.bel.size
  have hal := (Array.getElem?_eq_some_iff.1 h.act).1
  have s2 : (w1.alloc (.cells txZ 66)).heap.size = w1.heap.size + 1 := by simp
  have h2 := heap_alloc_new w1 (.cells txZ 66)
  have h3 := heap_alloc_new (w1.alloc (.cells txZ 66)) (.cells #[.pointer none, .pointer (some ⟨w1.heap.size, 0, none⟩)] 31)
  rw [s2] at h3
  refine ⟨(h.bel.alloc hs _).alloc (by rw [s2]; omega) _, ?_, h3, ?_⟩
  · rw [Below.heap_alloc _ _ _ (by rw [s2]; omega), Below.heap_alloc _ _ _ hal]
    exact h.act
  · rw [World.cell?_of_block (Below.heap_alloc _ _ _ (by show w1.heap.size < _; rw [s2]; omega)), cell_of_row _ _ _ _ _ (0, 0) h2]
    rfl
theorem NobB.below {w w3 w4 : World} {a x q : Nat} {k i n : Int} {s : ByteArray} {kp : Value} (h : NobB w w3 a x q k i n s kp) (hB : Below w3.heap.size w3 w4) : NobB w w4 a x q k i n s kp := by
  refine ⟨h.bel.trans (hB.mono h.bel.size), ?_, ?_, cell_bel hB h.tx⟩
  · rw [hB.block _ (Array.getElem?_eq_some_iff.1 h.act).1]; exact h.act
  · rw [hB.block _ (Array.getElem?_eq_some_iff.1 h.row).1]; exact h.row
theorem NobB.c {w w3 : World} {a x q : Nat} {k i n : Int} {s : ByteArray} {kp : Value} (h : NobB w w3 a x q k i n s kp) : w3.cell? ⟨a, 1, none⟩ = some (.int .i64 i) ∧ w3.cell? ⟨a, 2, none⟩ = some (.int .i64 n) ∧ w3.cell? ⟨a, 3, none⟩ = some (.string s) := by
  refine ⟨?_, ?_, ?_⟩ <;> rw [cell_of_row _ _ _ _ _ (0, 0) h.act] <;> rfl
set_option maxHeartbeats 4000000 in
set_option maxRecDepth 20000 in
theorem nobody_core (k i n : Int) (s : ByteArray) (kp : Value) (w : World) (hT : Tab w) :
    Calls Tryz.prog 5 #[actV k i n s kp] w fun e w' => e = .returned (.bool true) ∧ Below w.heap.size w w' := by
  have HT : Hid (Tab w) := hT
  have hpos := hT.pos
  clear hT
  unfold actV
  go_enter Tryz.func5, Tryz.ntmps5
  go_wp2_with fail
  have HN : Hid (NobA w (((w.alloc (.cells #[.int .i64 k, .int .i64 i, .int .i64 n, .string s, kp] 28)).alloc (.cells #[.pointer none, .pointer none, .int .i64 0, .int .i64 0, .int .i64 0, .int .i64 0, .int .i64 0, .int .i64 0, .int .i64 0, .int .i64 0, .int .i64 0, .map none, .pointer none, .bool false] 61)).alloc (.cells #[.pointer none, .pointer (some ⟨w.heap.size + 1, 0, none⟩)] 30)) w.heap.size (w.heap.size + 1) (w.heap.size + 1 + 1) k i n s kp) := nobA w k i n s kp
  generalize World.alloc (World.alloc (World.alloc w _) _) _ = w2 at *
  generalize hq : w.heap.size + 1 + 1 = q at *
  generalize hx : w.heap.size + 1 = x at *
  generalize ha : w.heap.size = a at *
  clear hq hx
  go_loopw [4, 5, 6, 18] (fun _ _ _ s16 wr => ∃ k : Nat, k ≤ 2 ∧ s16 = .int .i64 (k : Int) ∧ wr = w2) (fun _ _ _ s16 _ => 2 - (intOf s16).toNat)
  case atStart => exact ⟨0, by omega, rfl, rfl⟩
  case round =>
    obtain ⟨j, hj, rfl, hwr⟩ := hrel
    subst hwr
    by_cases hj3 : j < 2
    · have dk : decide ((j : Int) < 2) = true := decide_eq_true (by omega)
      have k0 : (0 : Int) ≤ (j : Int) := by omega
      have k1 : (j : Int) < 2 := by omega
      obtain ⟨v, hv, hno⟩ : ∃ v, wr.cell? ⟨q, j, none⟩ = some v ∧ NoDb wr v := by
        rw [cell_of_row _ _ _ _ _ (0, 0) HN.out.row]
        match j, hj3 with
        | 0, _ => exact ⟨_, rfl, .inl rfl⟩
        | 1, _ => exact ⟨_, rfl, .inr ⟨x, rfl, HN.out.db⟩⟩
      have HBE := begin_no wr v hno
      have HCK := ckpt_no wr v hno
      have HCO := dcount_no wr v hno
      have HHI := dhigh_no wr v hno
      have HFR := dfree_no wr v hno
      have HFN : Hid (∃ k' : Nat, k' ≤ 2 ∧ Value.int .i64 ((j : Int) + 1) = .int .i64 (k' : Int)) := ⟨j + 1, by omega, by go_num⟩
      clear hno
      unfold nilP at HBE
      go_wp2_with (first | (go_at_call 24; refine HBE.mono ?_; rintro e w' ⟨rfl, rfl⟩) | (go_at_call 25; refine HCK.mono ?_; rintro e w' ⟨rfl, rfl⟩) | (go_at_call 11; refine HCO.mono ?_; rintro e w' ⟨rfl, rfl⟩) | (go_at_call 12; refine HHI.mono ?_; rintro e w' ⟨rfl, rfl⟩) | (go_at_call 13; refine HFR.mono ?_; rintro e w' ⟨rfl, rfl⟩))
      go_roundw
      case rel =>
        obtain ⟨k', h1, h2⟩ := HFN.out
        exact ⟨k', h1, h2, trivial⟩
      case measure => (simp [intOf]) <;> omega
    · have dk : decide ((j : Int) < 2) = false := decide_eq_false (by omega)
      go_wp2_with fail
      have HM : Hid (NobB w ((wr.alloc (.cells #[.pointer none, .int .i64 0, .int .i64 0, .int .i64 0, .int .i64 0, .int .i64 0, .int .i64 0, .int .i64 0, .map none, .bool false] 66)).alloc (.cells #[.pointer none, .pointer (some ⟨wr.heap.size, 0, none⟩)] 31)) a wr.heap.size (wr.heap.size + 1) k i n s kp) := nobB HN.out
      generalize World.alloc (World.alloc wr _) _ = w4 at *
      generalize hq : wr.heap.size + 1 = p at *
      generalize hx : wr.heap.size = y at *
      clear hq hx dk hj3
      go_loopw [8, 9, 10, 11, 12, 13, 58] (fun _ _ _ _ _ _ s16 wz => ∃ k1 : Nat, k1 ≤ 2 ∧ s16 = .int .i64 (k1 : Int) ∧ NobB w wz a y p k i n s kp) (fun _ _ _ _ _ _ s16 _ => 2 - (intOf s16).toNat)
      case atStart => exact ⟨0, by omega, rfl, HM.out⟩
      case round =>
        clear HM
        obtain ⟨j1, hj1, rfl, hN⟩ := hrel
        have HM : Hid (NobB w wr a y p k i n s kp) := hN
        clear hN HN
        by_cases hj3 : j1 < 2
        · have dk : decide ((j1 : Int) < 2) = true := decide_eq_true (by omega)
          have k0 : (0 : Int) ≤ (j1 : Int) := by omega
          have k1 : (j1 : Int) < 2 := by omega
          have HX : Hid (∃ v, wr.cell? ⟨p, j1, none⟩ = some v ∧ Shut wr v) := by
            rw [cell_of_row _ _ _ _ _ (0, 0) HM.out.row]
            match j1, hj3 with
            | 0, _ => exact ⟨_, rfl, .inl rfl⟩
            | 1, _ => exact ⟨_, rfl, .inr ⟨y, rfl, HM.out.tx⟩⟩
          obtain ⟨v, hv, hno⟩ := HX.out
          clear HX
          have HS : Hid (Shut wr v) := hno
          clear hno
          have HFN : Hid (∃ k' : Nat, k' ≤ 2 ∧ Value.int .i64 ((j1 : Int) + 1) = .int .i64 (k' : Int)) := ⟨j1 + 1, by omega, by go_num⟩
          have c1 := HM.out.c.1
          go_wp2_with fail
          refine (read_nob wr v i HS.out).mono ?_
          rintro e w5 ⟨rfl, hB5⟩
          have HS5 : Hid (Shut w5 v) := HS.out.below hB5
          have HM5 : Hid (NobB w w5 a y p k i n s kp) := HM.out.below hB5
          clear hB5 c1 hv HM HS
          have HAL := alloc_no w5 v HS5.out
          have HAB := abort_no w5 v HS5.out
          have HSP := spoil_no w5 v HS5.out
          have c1 := HM5.out.c.1
          have c2 := HM5.out.c.2.1
          have c3 := HM5.out.c.2.2
          go_wp2_with (first | (go_at_call 27; refine HAL.mono ?_; rintro e w' ⟨rfl, rfl⟩) | (go_at_call 28; refine HAB.mono ?_; rintro e w' ⟨rfl, rfl⟩) | (go_at_call 29; refine HSP.mono ?_; rintro e w' ⟨rfl, rfl⟩))
          refine (write_nob _ v i n s HS5.out).mono ?_
          rintro e w6 ⟨rfl, hB6⟩
          have HS6 : Hid (Shut w6 v) := HS5.out.below hB6
          have HM6 : Hid (NobB w w6 a y p k i n s kp) := HM5.out.below hB6
          clear hB6 c1 c2 c3 HM5 HS5 HAL HAB HSP
          have c1 := HM6.out.c.1
          go_wp2_with fail
          refine (free_nob w6 v i HS6.out).mono ?_
          rintro e w7 ⟨rfl, hB7⟩
          have HS7 : Hid (Shut w7 v) := HS6.out.below hB7
          have HM7 : Hid (NobB w w7 a y p k i n s kp) := HM6.out.below hB7
          clear hB7 c1 HM6 HS6
          have c1 := HM7.out.c.1
          have c2 := HM7.out.c.2.1
          have HRT := root_no w7 v i HS7.out
          have HSR := setroot_no w7 v i n HS7.out
          have HCM := commit_nob w7 v HS7.out
          have HCH := changed_no w7 v HS7.out
          go_wp2_with (first | (go_at_call 16; refine HRT.mono ?_; rintro e w' ⟨rfl, rfl⟩) | (go_at_call 32; refine HSR.mono ?_; rintro e w' ⟨rfl, rfl⟩) | (go_at_call 33; refine HCM.mono ?_; rintro e w' ⟨rfl, rfl⟩) | (go_at_call 14; refine HCH.mono ?_; rintro e w' ⟨rfl, rfl⟩))
          go_roundw
          case rel =>
            obtain ⟨k', h1, h2⟩ := HFN.out
            exact ⟨k', h1, h2, HM7.out⟩
          case measure => (simp [intOf]) <;> omega
        · have dk : decide ((j1 : Int) < 2) = false := decide_eq_false (by omega)
          have hps : 0 < w.heap.size := by omega
          have HWK := works_any wr (HT.out.below HM.out.bel hps)
          go_wp2_with fail
          refine HWK.mono ?_
          rintro e w3 ⟨rfl, hB3⟩
          have HFN : Hid (Below w.heap.size w w3) := HM.out.bel.trans (hB3.mono HM.out.bel.size)
          clear hB3 HWK
          go_wp2
          go_ret
          exact ⟨rfl, HFN.out⟩
end Go.Proofs.YtcfninpokngmlaaGreatDoor
