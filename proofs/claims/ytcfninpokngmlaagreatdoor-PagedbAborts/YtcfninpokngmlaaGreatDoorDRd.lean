/- Proved: what a database reads at a page's place. -/
import Derived.Test.YtcfninpokngmlaaGreatDoorDDb
namespace Pd
def part (ks : List ByteArray) (a k : Nat) : ByteArray := Pg.joined ((List.range k).map fun j => ks.getD (a + j) Sc.zero64)
theorem part_succ (ks : List ByteArray) (a k : Nat) : part ks a (k + 1) = part ks a k ++ ks.getD (a + k) Sc.zero64 := by
  unfold part
  rw [List.range_succ, List.map_append, Pg.joined_append]
  show _ ++ Pg.joined [ks.getD (a + k) Sc.zero64] = _
  rw [show Pg.joined [ks.getD (a + k) Sc.zero64] = ks.getD (a + k) Sc.zero64 ++ Pg.joined [] from rfl, show Pg.joined [] = none0 from rfl, app_none]
theorem part_plc (ks : List ByteArray) (n i : Nat) : part ks (n + 8 * i) 8 = plc ks n i := rfl
theorem part_size {ks : List ByteArray} (h : ∀ x ∈ ks, x.size = 64) (a : Nat) : ∀ k, (part ks a k).size = 64 * k
  | 0 => rfl
  | k + 1 => by rw [part_succ, ByteArray.size_append, part_size h a k, Sc.getD_size h]; omega
end Pd
namespace Go.Proofs.YtcfninpokngmlaaGreatDoor
open Go.RowKit
theorem at_any (x : Nat) (n id : Nat) (w : World) (hc : w.cell? ⟨x, 2, none⟩ = some (.int .i64 (n : Int))) (hn : n ≤ 1000000) (hi : id ≤ 1000000) :
    Calls Tryz.prog 107 #[ptr x, .int .i64 (id : Int)] w fun e w' => e = .returned (.int .i64 ((n + 8 * id : Nat) : Int)) ∧ w' = w := by
  have h1 : IntKind.i64.wrap ((id : Int) * 8) = (id : Int) * 8 := by rw [IntKind.wrap_i64]; omega
  have h2 : IntKind.i64.wrap ((n : Int) + (id : Int) * 8) = ((n + 8 * id : Nat) : Int) := by rw [IntKind.wrap_i64]; omega
  unfold ptr
  go_enter Tryz.func107, Tryz.ntmps107
  go_wp2
  go_ret
  refine ⟨?_, rfl⟩
  first | rfl | (congr 2; omega)
theorem read_flat {s : Sc.St} {i : Nat} (hd : s.down = false) (hi : i < s.kept.length) : Sc.readV s (i : Int) = (Wl.flat s).getD i Sc.zero64 ∧ Sc.readE s (i : Int) = 0 := by
  have h1 : Sc.has s (i : Int) = true := Sc.has_iff.2 ⟨by omega, by omega⟩
  unfold Sc.readV Sc.readE
  rw [hd, h1]
  simp only [Bool.false_eq_true, if_false, reduceCtorEq, Int.toNat_natCast]
  exact ⟨Wl.now_flat hi, trivial⟩
theorem flat_ok {s : Sc.St} (h : Sc.Ok s) : ∀ x ∈ Wl.flat s, x.size = 64 := Sc.keepI_ok h _
set_option maxHeartbeats 4000000 in
set_option maxRecDepth 100000 in
theorem dread_any (A : Ad) (op : Value) (d : Pd.Db) (id : Nat) (w : World) (H : Dbw w A op d) (hdn : d.s.down = false) (hl : d.n + 8 * id + 8 ≤ d.s.kept.length) (hi : id ≤ 1000000) :
    Calls Tryz.prog 81 #[ptr A.x, .int .i64 (id : Int)] w fun e w' => e = .returned (.tuple #[.string (Pd.plc (Wl.flat d.s) d.n id), .int .i64 0]) ∧ Below w.heap.size w w' := by
  have hz := builder0
  have hmo := H.lp.dk.ok.most
  have HH : Hid (Dbw w A op d) := H
  have HBD0 : Hid (Bd w.heap.size w.heap.size nil0 (Pd.part (Wl.flat d.s) (d.n + 8 * id) 0) (w.alloc (.cells #[.pointer none, .slice none 0 0] 151))) := Bd.new w
  have HB0 : Hid (Below w.heap.size w (w.alloc (.cells #[.pointer none, .slice none 0 0] 151))) := (Below.refl _ _).alloc (Nat.le_refl _) _
  clear H
  unfold ptr
  go_enter Tryz.func81, Tryz.ntmps81
  go_wp2_with fail
  generalize hw0 : World.alloc w _ = w0 at *
  clear hw0
  go_loopw [10] (fun s10 wr => ∃ (k : Nat) (v : Value), k ≤ 8 ∧ s10 = .int .i64 (k : Int) ∧ Bd w.heap.size w.heap.size v (Pd.part (Wl.flat d.s) (d.n + 8 * id) k) wr ∧ Below w.heap.size w wr) (fun s10 _ => 8 - (intOf s10).toNat)
  case atStart => exact ⟨0, nil0, by omega, rfl, HBD0.out, HB0.out⟩
  case round =>
    obtain ⟨k, v, hk, rfl, hD, hB⟩ := hrel
    have HD : Hid (Bd w.heap.size w.heap.size v (Pd.part (Wl.flat d.s) (d.n + 8 * id) k) wr) := hD
    have HB : Hid (Below w.heap.size w wr) := hB
    have HHr : Hid (Dbw wr A op d) := HH.out.below hB
    clear hD hB HBD0 HB0
    by_cases hk8 : k < 8
    · have dk : decide ((k : Int) < 8) = true := decide_eq_true (by omega)
      have HS : Hid ((fun U : World => U.cell? ⟨A.x, 0, none⟩ = some (.pointer (some ⟨A.g, 0, none⟩))) wr) := HHr.out.c0
      have HAT : Hid (∀ U : World, U.cell? ⟨A.x, 2, none⟩ = some (.int .i64 (d.n : Int)) → Calls Tryz.prog 107 #[.pointer (some ⟨A.x, 0, none⟩), .int .i64 (id : Int)] U fun e w' => e = .returned (.int .i64 ((d.n + 8 * id : Nat) : Int)) ∧ w' = U) := fun U hU => at_any A.x d.n id U hU (by omega) hi
      have hsum : IntKind.i64.wrap (((d.n + 8 * id : Nat) : Int) + (k : Int)) = ((d.n + 8 * id + k : Nat) : Int) := by rw [IntKind.wrap_i64]; omega
      obtain ⟨hv, he⟩ := read_flat (s := d.s) (i := d.n + 8 * id + k) hdn (by omega)
      have HRD : Hid (∀ U : World, Dbw U A op d → Calls Tryz.prog 96 #[.pointer (some ⟨A.g, 0, none⟩), .int .i64 ((d.n + 8 * id + k : Nat) : Int)] U fun e w' => e = .returned (.tuple #[.string ((Wl.flat d.s).getD (d.n + 8 * id + k) Sc.zero64), .int .i64 0]) ∧ Below U.heap.size U w') := fun U hU => by
        have h1 := read_any A.g A.kg A.vp d.s ((d.n + 8 * id + k : Nat) : Int) U hU.lp.dk
        rw [hv, he] at h1
        exact h1
      have hsz := Pd.part_size (flat_ok HHr.out.lp.dk.ok) (d.n + 8 * id) k
      have hsx := Sc.getD_size (flat_ok HHr.out.lp.dk.ok) (d.n + 8 * id + k)
      have HPS : Hid (Pd.part (Wl.flat d.s) (d.n + 8 * id) (k + 1) = Pd.part (Wl.flat d.s) (d.n + 8 * id) k ++ (Wl.flat d.s).getD (d.n + 8 * id + k) Sc.zero64) := Pd.part_succ _ _ _
      clear hv he
      generalize hX : (Wl.flat d.s).getD (d.n + 8 * id + k) Sc.zero64 = X at *
      clear hX
      go_wp2_with fail
      refine wp_region_held_drew (S := fun U : World => U.cell? ⟨A.x, 0, none⟩ = some (.pointer (some ⟨A.g, 0, none⟩))) (by kernel_rfl) HS.out (fun _ => ?_)
      refine heldTake 0 (some 14) (.pointer (some ⟨A.x, 0, none⟩)) rfl rfl (by kernel_rfl) (by kernel_rfl) (by kernel_rfl) (fun _ _ _ h => h) (Or.inl ⟨by rfl, fun w hS => ?_⟩) HS.out ?_
      · (go_simp)
      simp only [Act.put, List.setIfInBounds_toArray, List.set_cons_zero, List.set_cons_succ]
      refine heldTake 1 (some 15) (.pointer (some ⟨A.x, 0, none⟩)) rfl rfl (by kernel_rfl) (by kernel_rfl) (by kernel_rfl) (fun _ _ _ h => h) (Or.inl ⟨by rfl, fun w hS => ?_⟩) HS.out ?_
      · (go_simp)
      simp only [Act.put, List.setIfInBounds_toArray, List.set_cons_zero, List.set_cons_succ]
      refine heldTake 2 (some 16) (.pointer (some ⟨A.x, 0, none⟩)) rfl rfl (by kernel_rfl) (by kernel_rfl) (by kernel_rfl) (fun _ _ _ h => h) (Or.inl ⟨by rfl, fun w hS => ?_⟩) HS.out ?_
      · (go_simp)
      simp only [Act.put, List.setIfInBounds_toArray, List.set_cons_zero, List.set_cons_succ]
      refine heldTake 3 (some 17) (.pointer (some ⟨A.g, 0, none⟩)) rfl rfl (by kernel_rfl) (by kernel_rfl) (by kernel_rfl) (fun _ _ _ h => h) (Or.inl ⟨by rfl, fun w hS => ?_⟩) HS.out ?_
      · (go_simp)
      simp only [Act.put, List.setIfInBounds_toArray, List.set_cons_zero, List.set_cons_succ]
      refine heldTake 4 (some 18) (.pointer (some ⟨A.x, 0, none⟩)) rfl rfl (by kernel_rfl) (by kernel_rfl) (by kernel_rfl) (fun _ _ _ h => h) (Or.inl ⟨by rfl, fun w hS => ?_⟩) HS.out ?_
      · (go_simp)
      simp only [Act.put, List.setIfInBounds_toArray, List.set_cons_zero, List.set_cons_succ]
      refine heldTake 5 (some 19) (.int .i64 (id : Int)) rfl rfl (by kernel_rfl) (by kernel_rfl) (by kernel_rfl) (fun _ _ _ h => h) (Or.inl ⟨by rfl, fun w hS => ?_⟩) HS.out ?_
      · (go_simp)
      simp only [Act.put, List.setIfInBounds_toArray, List.set_cons_zero, List.set_cons_succ]
      refine heldTake 7 (some 21) (.int .i64 (k : Int)) rfl rfl (by kernel_rfl) (by kernel_rfl) (by kernel_rfl) (fun _ _ _ h => h) (Or.inl ⟨by rfl, fun w hS => ?_⟩) HS.out ?_
      · (go_simp)
      simp only [Act.put, List.setIfInBounds_toArray, List.set_cons_zero, List.set_cons_succ]
      refine heldOne 6 (by kernel_rfl) rfl (by rfl) (fun KK hK => ?_)
      go_simp
      go_at_call 107
      refine (HAT.out wr.drew HHr.out.c2).mono ?_
      rintro e wS ⟨rfl, hwS⟩
      rw [hwS]
      clear hwS wS
      refine hK.out _ _ HS.out ?_
      clear hK KK
      refine heldTake 8 (some 22) (.int .i64 ((d.n + 8 * id + k : Nat) : Int)) rfl rfl (by kernel_rfl) (by kernel_rfl) (by kernel_rfl) (fun _ _ _ h => h) (Or.inl ⟨by rfl, fun w hS => ?_⟩) HS.out ?_
      · (go_simp; rw [IntKind.wrap_i64]; omega)
      simp only [Act.put, List.setIfInBounds_toArray, List.set_cons_zero, List.set_cons_succ]
      refine heldOne 9 (by kernel_rfl) rfl (by rfl) (fun KK hK => ?_)
      go_simp
      go_at_call 96
      refine (HRD.out wr.drew HHr.out.drew).mono ?_
      rintro e u1 ⟨rfl, hB1⟩
      have HD1 : Hid (Bd w.heap.size w.heap.size v (Pd.part (Wl.flat d.s) (d.n + 8 * id) k) u1) := HD.out.below (below_drew hB1)
      have HB1 : Hid (Below w.heap.size w u1) := below_next HB.out (below_drew hB1) HB.out.size
      have HS1 : Hid ((fun U : World => U.cell? ⟨A.x, 0, none⟩ = some (.pointer (some ⟨A.g, 0, none⟩))) u1) := (HH.out.below HB1.out).c0
      clear hB1 HRD HAT HD HB HHr
      refine hK.out _ _ HS1.out ?_
      clear hK KK
      refine heldTake 10 (some 13) (.tuple #[.string X, .int .i64 0]) rfl rfl (by kernel_rfl) (by kernel_rfl) (by kernel_rfl) (fun _ _ _ h => h) (Or.inl ⟨by rfl, fun w hS => ?_⟩) HS1.out ?_
      · (go_simp)
      simp only [Act.put, List.setIfInBounds_toArray, List.set_cons_zero, List.set_cons_succ]
      refine heldTake 11 (some 24) (.string X) rfl rfl (by kernel_rfl) (by kernel_rfl) (by kernel_rfl) (fun _ _ _ h => h) (Or.inl ⟨by rfl, fun w hS => ?_⟩) HS1.out ?_
      · (go_simp)
      simp only [Act.put, List.setIfInBounds_toArray, List.set_cons_zero, List.set_cons_succ]
      refine heldTake 12 (some 25) (.int .i64 0) rfl rfl (by kernel_rfl) (by kernel_rfl) (by kernel_rfl) (fun _ _ _ h => h) (Or.inl ⟨by rfl, fun w hS => ?_⟩) HS1.out ?_
      · (go_simp)
      simp only [Act.put, List.setIfInBounds_toArray, List.set_cons_zero, List.set_cons_succ]
      refine heldTake 13 (some 8) (.string X) rfl rfl (by kernel_rfl) (by kernel_rfl) (by kernel_rfl) (fun _ _ _ h => h) (Or.inl ⟨by rfl, fun w hS => ?_⟩) HS1.out ?_
      · (go_simp)
      simp only [Act.put, List.setIfInBounds_toArray, List.set_cons_zero, List.set_cons_succ]
      refine heldTake 14 (some 9) (.int .i64 0) rfl rfl (by kernel_rfl) (by kernel_rfl) (by kernel_rfl) (fun _ _ _ h => h) (Or.inl ⟨by rfl, fun w hS => ?_⟩) HS1.out ?_
      · (go_simp)
      simp only [Act.put, List.setIfInBounds_toArray, List.set_cons_zero, List.set_cons_succ]
      refine wpAnyH_done (by kernel_rfl) ?_ _
      have HW : Hid (Calls Tryz.prog 112 #[.pointer (some ⟨w.heap.size, 0, none⟩), .string X] u1 fun e w' => ∃ v', e = .returned (.tuple #[.int .i64 X.size, .nilIface]) ∧ Bd w.heap.size w.heap.size v' (Pd.part (Wl.flat d.s) (d.n + 8 * id) k ++ X) w' ∧ Below w.heap.size u1 w' ∧ Chg (w.heap.size :: v.ownBlock.toList) u1 w') := wstr_t w.heap.size w.heap.size v _ X u1 HD1.out (by omega) HB1.out.size
      rw [← HPS.out] at HW
      go_wp2_with fail
      refine HW.out.mono ?_
      rintro e u2 ⟨v2, rfl, hD2, hB2, _⟩
      have HD2 : Hid (Bd w.heap.size w.heap.size v2 (Pd.part (Wl.flat d.s) (d.n + 8 * id) (k + 1)) u2) := hD2
      have HB2 : Hid (Below w.heap.size w u2) := HB1.out.trans hB2
      clear hD2 hB2
      go_wp2
      go_roundw
      case rel => exact ⟨k + 1, v2, by omega, by go_num, HD2.out, HB2.out⟩
      case measure => (simp [intOf]) <;> omega
    · obtain rfl : k = 8 := by omega
      have dk : decide (((8 : Nat) : Int) < 8) = false := decide_eq_false (by omega)
      rw [Pd.part_plc] at HD
      have HS := (show Hid (Calls Tryz.prog 113 #[.pointer (some ⟨w.heap.size, 0, none⟩)] wr fun e w' => e = .returned (.string (Pd.plc (Wl.flat d.s) d.n id)) ∧ Below w.heap.size wr w') from bstr_t w.heap.size w.heap.size v _ wr HD.out HB.out.size)
      go_wp2_with fail
      refine HS.out.mono ?_
      rintro e u1 ⟨rfl, hB1⟩
      have HB1 : Hid (Below w.heap.size w u1) := HB.out.trans hB1
      clear hB1
      go_wp2
      go_ret2
      exact ⟨rfl, HB1.out⟩
end Go.Proofs.YtcfninpokngmlaaGreatDoor
