/- Proved: the laws' example comes out as the chapter says; what disks that New did not make answer. -/
import Derived.Test.YtbhbfnnlpkikbaaOn
namespace Go.Proofs.Ytbhbfnnlpkikbaa
open Go.RowKit
def txtA : ByteArray := ⟨#[97]⟩
def txtB : ByteArray := ⟨#[98]⟩
def txtC : ByteArray := ⟨#[99]⟩
def e1 : Sc.St := Sc.writeS (Sc.made 2) 0 txtA
def e2 : Sc.St := Sc.flushS e1
def e3 : Sc.St := Sc.writeS e2 0 txtB
def e4 : Sc.St := Sc.writeS e3 1 txtC
def e5 : Sc.St := Sc.offS e4
def mk2 (i : Nat) : Bool := if i = 0 then false else true
def e6 : Sc.St := Sc.onS e5 (marks 2 mk2)
theorem e6_on : Sc.onE e5 = 0 := by decide
theorem e6_e0 : Sc.readE e6 0 = 0 := by decide
theorem e6_e1 : Sc.readE e6 1 = 0 := by decide
theorem e6_v0 : Sc.readV e6 0 = Sc.fill txtA := by rfl
theorem e6_v1 : Sc.readV e6 1 = Sc.fill txtC := by rfl
theorem fill_get (x : ByteArray) (i : Nat) (hi : i < (Sc.fill x).size) (b : UInt8) (h : (x.data.toList ++ List.replicate (64 - x.size) 0)[i]? = some b) : (Sc.fill x)[i]'hi = b := by
  have e : (Sc.fill x).data.toList[i]? = some b := by rw [Sc.fill_list]; exact h
  rw [Array.getElem?_toList] at e
  exact (Array.getElem?_eq_some_iff.1 e).2
set_option maxHeartbeats 2000000 in
set_option maxRecDepth 20000 in
theorem works_any (w : World) : Calls Try.prog 17 #[] w fun e w' => e = .returned (.bool true) ∧ Below w.heap.size w w' := by
  go_enter Try.func17, Try.ntmps17
  go_wp2_with fail
  refine (new_any 2 w (by omega) (by omega)).mono ?_
  rintro e w0 ⟨g, kg, rfl, hD0, hB0, hg, hkg⟩
  have HB0 : Hid (Below w.heap.size w w0) := hB0
  have HA0 : Hid (∀ k ∈ foot g kg (.slice none 0 0), w.heap.size ≤ k) := fun k hk => by
    simp [foot, Value.ownBlock] at hk
    omega
  have HD0 : Hid (Dk w0 g kg (.slice none 0 0) (Sc.made 2)) := hD0
  clear hB0 hD0 hg hkg
  go_wp2_with fail
  refine (write_any g kg _ _ 0 txtA w0 HD0.out (by decide) (by decide)).mono ?_
  rintro e w1 ⟨v1, rfl, hD1, hT1⟩
  have HD1 : Hid (Dk w1 g kg v1 e1) := hD1
  have HT1 : Hid (Turn (foot g kg (.slice none 0 0)) (foot g kg v1) w0 w1) := hT1
  clear hD1 hT1 HD0
  go_wp2_with fail
  refine (flush_any g kg _ _ w1 HD1.out (by decide)).mono ?_
  rintro e w2 ⟨v2, rfl, hD2, hT2⟩
  have HD2 : Hid (Dk w2 g kg v2 e2) := hD2
  have HT2 : Hid (Turn (foot g kg (.slice none 0 0)) (foot g kg v2) w0 w2) := HT1.out.trans hT2
  clear hD2 hT2 HD1 HT1
  go_wp2_with fail
  refine (write_any g kg _ _ 0 txtB w2 HD2.out (by decide) (by decide)).mono ?_
  rintro e w3 ⟨v3, rfl, hD3, hT3⟩
  have HD3 : Hid (Dk w3 g kg v3 e3) := hD3
  have HT3 : Hid (Turn (foot g kg (.slice none 0 0)) (foot g kg v3) w0 w3) := HT2.out.trans hT3
  clear hD3 hT3 HD2 HT2
  go_wp2_with fail
  refine (write_any g kg _ _ 1 txtC w3 HD3.out (by decide) (by decide)).mono ?_
  rintro e w4 ⟨v4, rfl, hD4, hT4⟩
  have HD4 : Hid (Dk w4 g kg v4 e4) := hD4
  have HT4 : Hid (Turn (foot g kg (.slice none 0 0)) (foot g kg v4) w0 w4) := HT3.out.trans hT4
  clear hD4 hT4 HD3 HT3
  go_wp2_with fail
  refine (off_any g kg _ _ w4 HD4.out).mono ?_
  rintro e w5 ⟨v5, rfl, hD5, hT5⟩
  have HD5 : Hid (Dk w5 g kg v5 e5) := hD5
  have HT5 : Hid (Turn (foot g kg (.slice none 0 0)) (foot g kg v5) w0 w5) := HT4.out.trans hT5
  clear hD5 hT5 HD4 HT4
  have HBS : Hid (Bools (foot g kg v5) (w5.alloc (.cells #[.bool false, .bool true] 4)) (some ⟨w5.heap.size, 0, none⟩) 2 mk2) := .inr ⟨w5.heap.size, 0, rfl, fun h => by have := HD5.out.lt _ h; omega, fun i hi => by
    rw [cell_of_row _ _ _ _ _ (0, 0) (heap_alloc_new w5 _)]
    match i, hi with
    | 0, _ => rfl
    | 1, _ => rfl⟩
  have HD5' : Hid (Dk (w5.alloc (.cells #[.bool false, .bool true] 4)) g kg v5 e5) := HD5.out.alloc _
  have HT5' : Hid (Turn (foot g kg (.slice none 0 0)) (foot g kg v5) w0 (w5.alloc (.cells #[.bool false, .bool true] 4))) := HT5.out.trans (Turn.of_below ((Below.refl _ _).alloc (Nat.le_refl _) _))
  clear HD5 HT5
  go_wp2_with fail
  refine (on_any g kg _ _ _ 2 2 mk2 _ HD5'.out HBS.out (by omega) (by omega)).mono ?_
  rw [e6_on]
  rintro e w6 ⟨v6, rfl, hD6, hT6⟩
  have HD6 : Hid (Dk w6 g kg v6 e6) := hD6
  have HT6 : Hid (Turn (foot g kg (.slice none 0 0)) (foot g kg v6) w0 w6) := HT5'.out.trans hT6
  clear hD6 hT6 HD5' HT5' HBS
  go_wp2_with fail
  refine (read_any g kg _ _ 0 w6 HD6.out).mono ?_
  rw [e6_e0, e6_v0]
  rintro e w7 ⟨rfl, hB7⟩
  have HD7 : Hid (Dk w7 g kg v6 e6) := HD6.out.below hB7
  have HT7 : Hid (Turn (foot g kg (.slice none 0 0)) (foot g kg v6) w0 w7) := HT6.out.trans (Turn.of_below hB7)
  clear hB7 HD6 HT6
  go_wp2_with fail
  refine (read_any g kg _ _ 1 w7 HD7.out).mono ?_
  rw [e6_e1, e6_v1]
  rintro e w8 ⟨rfl, hB8⟩
  have HT8 : Hid (Turn (foot g kg (.slice none 0 0)) (foot g kg v6) w0 w8) := HT7.out.trans (Turn.of_below hB8)
  clear hB8 HD7 HT7
  have z1 : (Sc.fill txtA).size = 64 := Sc.fill_size (by decide)
  have z2 : (Sc.fill txtC).size = 64 := Sc.fill_size (by decide)
  have g1 : ∀ h, ((Sc.fill txtA)[0]'h) = 97 := fun h => fill_get txtA 0 h 97 rfl
  have g2 : ∀ h, ((Sc.fill txtC)[0]'h) = 99 := fun h => fill_get txtC 0 h 99 rfl
  have g3 : ∀ h, ((Sc.fill txtC)[1]'h) = 0 := fun h => fill_get txtC 1 h 0 rfl
  generalize Sc.fill txtA = x at *
  generalize Sc.fill txtC = y at *
  go_wp2
  go_ret
  exact ⟨rfl, HB0.out.trans (HT8.out.below HA0.out HB0.out.size)⟩
/- disks that New did not make -/
def Nobody (w : World) (d : Value) : Prop := d = .pointer none ∨ ∃ g, d = ptr g ∧ w.cell? ⟨g, 0, none⟩ = some (.slice none 0 0)
set_option maxHeartbeats 400000 in
theorem made_no (d : Value) (w : World) (h : Nobody w d) : Calls Try.prog 33 #[d] w fun e w' => e = .returned (.bool false) ∧ w' = w := by
  rcases h with rfl | ⟨g, rfl, c0⟩
  · go_enter Try.func33, Try.ntmps33
    go_wp2
    go_ret
    exact ⟨rfl, rfl⟩
  · go_enter Try.func33, Try.ntmps33
    go_wp2
    go_ret
    exact ⟨rfl, rfl⟩
set_option maxHeartbeats 400000 in
theorem ready_no (d : Value) (w : World) (h : Nobody w d) : Calls Try.prog 34 #[d] w fun e w' => e = .returned (.int .i64 1) ∧ w' = w := by
  have HM := made_no d w h
  clear h
  go_enter Try.func34, Try.ntmps34
  go_wp2_with (go_at_call 33; refine HM.mono ?_; rintro e w' ⟨rfl, rfl⟩)
  go_ret
  exact ⟨rfl, rfl⟩
set_option maxHeartbeats 400000 in
theorem size_no (d : Value) (w : World) (h : Nobody w d) : Calls Try.prog 14 #[d] w fun e w' => e = .returned (.int .i64 0) ∧ w' = w := by
  have HM := made_no d w h
  clear h
  go_enter Try.func14, Try.ntmps14
  go_wp2_with (go_at_call 33; refine HM.mono ?_; rintro e w' ⟨rfl, rfl⟩)
  go_ret
  exact ⟨rfl, rfl⟩
set_option maxHeartbeats 400000 in
theorem pending_no (d : Value) (w : World) (h : Nobody w d) : Calls Try.prog 11 #[d] w fun e w' => e = .returned (.int .i64 0) ∧ w' = w := by
  have HM := made_no d w h
  clear h
  go_enter Try.func11, Try.ntmps11
  go_wp2_with (go_at_call 33; refine HM.mono ?_; rintro e w' ⟨rfl, rfl⟩)
  go_ret
  exact ⟨rfl, rfl⟩
set_option maxHeartbeats 400000 in
theorem down_no (d : Value) (w : World) (h : Nobody w d) : Calls Try.prog 12 #[d] w fun e w' => e = .returned (.bool true) ∧ w' = w := by
  have HM := made_no d w h
  clear h
  go_enter Try.func12, Try.ntmps12
  go_wp2_with (go_at_call 33; refine HM.mono ?_; rintro e w' ⟨rfl, rfl⟩)
  go_ret
  exact ⟨rfl, rfl⟩
set_option maxHeartbeats 400000 in
theorem done_no (d : Value) (w : World) (h : Nobody w d) : Calls Try.prog 13 #[d] w fun e w' => e = .returned (.int .i64 0) ∧ w' = w := by
  have HM := made_no d w h
  clear h
  go_enter Try.func13, Try.ntmps13
  go_wp2_with (go_at_call 33; refine HM.mono ?_; rintro e w' ⟨rfl, rfl⟩)
  go_ret
  exact ⟨rfl, rfl⟩
set_option maxHeartbeats 400000 in
theorem read_no (d u : Value) (w : World) (h : Nobody w d) : Calls Try.prog 15 #[d, u] w fun e w' => e = .returned (.tuple #[.string ⟨#[]⟩, .int .i64 1]) ∧ w' = w := by
  have HM := ready_no d w h
  clear h
  go_enter Try.func15, Try.ntmps15
  go_wp2_with (go_at_call 34; refine HM.mono ?_; rintro e w' ⟨rfl, rfl⟩)
  go_ret2
  exact ⟨rfl, rfl⟩
set_option maxHeartbeats 400000 in
theorem write_no (d u x : Value) (w : World) (h : Nobody w d) : Calls Try.prog 18 #[d, u, x] w fun e w' => e = .returned (.int .i64 1) ∧ w' = w := by
  have HM := ready_no d w h
  clear h
  go_enter Try.func18, Try.ntmps18
  go_wp2_with (go_at_call 34; refine HM.mono ?_; rintro e w' ⟨rfl, rfl⟩)
  go_ret
  exact ⟨rfl, rfl⟩
set_option maxHeartbeats 400000 in
theorem flush_no (d : Value) (w : World) (h : Nobody w d) : Calls Try.prog 19 #[d] w fun e w' => e = .returned (.int .i64 1) ∧ w' = w := by
  have HM := ready_no d w h
  clear h
  go_enter Try.func19, Try.ntmps19
  go_wp2_with (go_at_call 34; refine HM.mono ?_; rintro e w' ⟨rfl, rfl⟩)
  go_ret
  exact ⟨rfl, rfl⟩
set_option maxHeartbeats 400000 in
theorem arm_no (d u : Value) (w : World) (h : Nobody w d) : Calls Try.prog 20 #[d, u] w fun e w' => e = .returned (.int .i64 1) ∧ w' = w := by
  have HM := ready_no d w h
  clear h
  go_enter Try.func20, Try.ntmps20
  go_wp2_with (go_at_call 34; refine HM.mono ?_; rintro e w' ⟨rfl, rfl⟩)
  go_ret
  exact ⟨rfl, rfl⟩
set_option maxHeartbeats 400000 in
theorem off_no (d : Value) (w : World) (h : Nobody w d) : Calls Try.prog 21 #[d] w fun e w' => e = .returned (.int .i64 1) ∧ w' = w := by
  have HM := ready_no d w h
  clear h
  go_enter Try.func21, Try.ntmps21
  go_wp2_with (go_at_call 34; refine HM.mono ?_; rintro e w' ⟨rfl, rfl⟩)
  go_ret
  exact ⟨rfl, rfl⟩
set_option maxHeartbeats 400000 in
theorem on_no (d u : Value) (w : World) (h : Nobody w d) : Calls Try.prog 22 #[d, u] w fun e w' => e = .returned (.int .i64 1) ∧ w' = w := by
  have HM := made_no d w h
  clear h
  go_enter Try.func22, Try.ntmps22
  go_wp2_with (go_at_call 33; refine HM.mono ?_; rintro e w' ⟨rfl, rfl⟩)
  go_ret
  exact ⟨rfl, rfl⟩
end Go.Proofs.Ytbhbfnnlpkikbaa
