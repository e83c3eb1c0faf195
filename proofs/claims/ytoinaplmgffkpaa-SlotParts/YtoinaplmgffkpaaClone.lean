/- Proved: what strings.Clone answers. -/
import Derived.Test.YtoinaplmgffkpaaBase
import Derived.Test.YtoinaplmgffkpaaReg
import Derived.Shelf.Pu.Clone
namespace Go.Proofs.Ytoinaplmgffkpaa
open Go.RowKit
open Sl (Cel Nod)
def renC : Go.Shelf.Ren := ⟨fun | 25 => 61 | n => n, fun | 0 => 0 | 3 => 3 | 4 => 4 | 5 => 5 | 9 => 9 | 37 => 71 | 47 => 98 | n => n, fun | n => n⟩
theorem layC : Go.Proofs.LaysPu.n25 Try.prog renC := {
  mixed := by kernel_rfl
  f25 := Try.func61.trans (congrArg some (by kernel_rfl))
  t0 := Try.underlying0
  a0 := Try.isAgg0
  z0 := Try.sizeOf0
  v0 := Try.zeroValue0
  i0 := by kernel_rfl
  t3 := Try.underlying3
  a3 := Try.isAgg3
  z3 := Try.sizeOf3
  v3 := Try.zeroValue3
  i3 := by kernel_rfl
  t4 := Try.underlying4
  a4 := Try.isAgg4
  z4 := Try.sizeOf4
  v4 := Try.zeroValue4
  i4 := by kernel_rfl
  t5 := Try.underlying5
  a5 := Try.isAgg5
  z5 := Try.sizeOf5
  v5 := Try.zeroValue5
  i5 := by kernel_rfl
  t9 := Try.underlying9
  a9 := Try.isAgg9
  z9 := Try.sizeOf9
  v9 := Try.zeroValue9
  i9 := by kernel_rfl
  t37 := Try.underlying71
  a37 := Try.isAgg71
  z37 := Try.sizeOf71
  v37 := Try.zeroValue71
  i37 := by kernel_rfl
  t47 := Try.underlying98
  a47 := Try.isAgg98
  z47 := Try.sizeOf98
  v47 := Try.zeroValue98
  i47 := by kernel_rfl }
theorem clite_any (s : ByteArray) (w : World) (h : s.size ≤ 281474976710656) :
    Calls Try.prog 61 #[.string s] w fun e w' => e = .returned (.string s) ∧ Below w.heap.size w w' := AnyPu.stringslite_Clone layC s w h
set_option maxHeartbeats 400000 in
theorem sclone_any (s : ByteArray) (w : World) (h : s.size ≤ 281474976710656) :
    Calls Try.prog 34 #[.string s] w fun e w' => e = .returned (.string s) ∧ Below w.heap.size w w' := by
  have H := clite_any s w h
  go_enter Try.func34, Try.ntmps34
  go_wp2_with fail
  refine H.mono ?_
  rintro e w' ⟨rfl, hB⟩
  go_wp2
  go_ret
  exact ⟨rfl, hB⟩
set_option maxHeartbeats 1000000 in
theorem ownCell_any (c : Cel) (w : World) (hc : CelFit c) :
    Calls Try.prog 54 #[cv c] w fun e w' => e = .returned (cv c) ∧ Below w.heap.size w w' := by
  obtain ⟨h1, h2, _, _⟩ := hc
  have HK := fun W => sclone_any c.key W (by omega)
  have HV := fun W => sclone_any c.val W (by omega)
  obtain ⟨ck, cx, co, cl⟩ := c
  unfold cv at *
  simp only at h1 h2 HK HV ⊢
  have HB0 : Hid (Below w.heap.size w ((w.alloc (.cells #[.string ck, .string cx, .int .i64 co, .int .i64 cl] 28)).alloc (.cells #[.string ⟨#[]⟩, .string ⟨#[]⟩, .int .i64 0, .int .i64 0] 28))) := (below_alloc _ _).alloc (by rw [size_alloc1]; omega) _
  have HS0 : Hid ((fun W : World => Brow W w.heap.size [.string ck, .string cx, .int .i64 co, .int .i64 cl] 28 ∧ Brow W (w.heap.size + 1) [.string ⟨#[]⟩, .string ⟨#[]⟩, .int .i64 0, .int .i64 0] 28) ((w.alloc (.cells #[.string ck, .string cx, .int .i64 co, .int .i64 cl] 28)).alloc (.cells #[.string ⟨#[]⟩, .string ⟨#[]⟩, .int .i64 0, .int .i64 0] 28))) := ⟨(Brow.new w [.string ck, .string cx, .int .i64 co, .int .i64 cl] 28).alloc _, by
    have := Brow.new (w.alloc (.cells #[.string ck, .string cx, .int .i64 co, .int .i64 cl] 28)) [.string ⟨#[]⟩, .string ⟨#[]⟩, .int .i64 0, .int .i64 0] 28
    rwa [size_alloc1] at this⟩
  go_enter Try.func54, Try.ntmps54
  go_upto_region 1 with fail
  refine wp_region_held_drew (S := (fun W : World => Brow W w.heap.size [.string ck, .string cx, .int .i64 co, .int .i64 cl] 28 ∧ Brow W (w.heap.size + 1) [.string ⟨#[]⟩, .string ⟨#[]⟩, .int .i64 0, .int .i64 0] 28)) (by kernel_rfl) ⟨HS0.out.1.drew, HS0.out.2.drew⟩ (fun _ => ?_)
  have HS : Hid ((fun W : World => Brow W w.heap.size [.string ck, .string cx, .int .i64 co, .int .i64 cl] 28 ∧ Brow W (w.heap.size + 1) [.string ⟨#[]⟩, .string ⟨#[]⟩, .int .i64 0, .int .i64 0] 28) ((w.alloc (.cells #[.string ck, .string cx, .int .i64 co, .int .i64 cl] 28)).alloc (.cells #[.string ⟨#[]⟩, .string ⟨#[]⟩, .int .i64 0, .int .i64 0] 28)).drew) := ⟨HS0.out.1.drew, HS0.out.2.drew⟩
  have HBD : Hid (Below w.heap.size w ((w.alloc (.cells #[.string ck, .string cx, .int .i64 co, .int .i64 cl] 28)).alloc (.cells #[.string ⟨#[]⟩, .string ⟨#[]⟩, .int .i64 0, .int .i64 0] 28)).drew) := HB0.out.drew
  have hsz : w.heap.size + 2 ≤ ((w.alloc (.cells #[.string ck, .string cx, .int .i64 co, .int .i64 cl] 28)).alloc (.cells #[.string ⟨#[]⟩, .string ⟨#[]⟩, .int .i64 0, .int .i64 0] 28)).drew.heap.size := by show w.heap.size + 2 ≤ ((w.alloc (.cells #[.string ck, .string cx, .int .i64 co, .int .i64 cl] 28)).alloc (.cells #[.string ⟨#[]⟩, .string ⟨#[]⟩, .int .i64 0, .int .i64 0] 28)).heap.size; rw [size_alloc1, size_alloc1]; omega
  generalize ((w.alloc (.cells #[.string ck, .string cx, .int .i64 co, .int .i64 cl] 28)).alloc (.cells #[.string ⟨#[]⟩, .string ⟨#[]⟩, .int .i64 0, .int .i64 0] 28)).drew = w0 at *
  clear HS0 HB0
  refine heldTake 0 (some 3) (.pointer (some ⟨w.heap.size, 0, none⟩)) rfl rfl (by kernel_rfl) (by kernel_rfl) (by kernel_rfl) (fun _ _ _ h => h) (Or.inl ⟨by rfl, fun w hS => ?_⟩) HS.out ?_
  · (go_simp)
  simp only [Act.put, List.setIfInBounds_toArray, List.set_cons_zero, List.set_cons_succ]
  refine heldTake 1 (some 4) (.string ck) rfl rfl (by kernel_rfl) (by kernel_rfl) (by kernel_rfl) (fun _ _ _ h => h) (Or.inl ⟨by rfl, fun w hS => ?_⟩) HS.out ?_
  · (have q := hS.1.at 0 _ rfl; go_simp)
  simp only [Act.put, List.setIfInBounds_toArray, List.set_cons_zero, List.set_cons_succ]
  refine heldTake 3 (some 6) (.pointer (some ⟨w.heap.size, 1, none⟩)) rfl rfl (by kernel_rfl) (by kernel_rfl) (by kernel_rfl) (fun _ _ _ h => h) (Or.inl ⟨by rfl, fun w hS => ?_⟩) HS.out ?_
  · (go_simp)
  simp only [Act.put, List.setIfInBounds_toArray, List.set_cons_zero, List.set_cons_succ]
  refine heldTake 4 (some 7) (.string cx) rfl rfl (by kernel_rfl) (by kernel_rfl) (by kernel_rfl) (fun _ _ _ h => h) (Or.inl ⟨by rfl, fun w hS => ?_⟩) HS.out ?_
  · (have q := hS.1.at 1 _ rfl; go_simp)
  simp only [Act.put, List.setIfInBounds_toArray, List.set_cons_zero, List.set_cons_succ]
  refine heldOne 2 (by kernel_rfl) rfl (by rfl) (fun KK hK => ?_)
  go_simp
  go_at_call 34
  refine (HK _).mono ?_
  rintro e w1 ⟨rfl, hB1⟩
  have HS1 : Hid ((fun W : World => Brow W w.heap.size [.string ck, .string cx, .int .i64 co, .int .i64 cl] 28 ∧ Brow W (w.heap.size + 1) [.string ⟨#[]⟩, .string ⟨#[]⟩, .int .i64 0, .int .i64 0] 28) w1) := ⟨HS.out.1.below hB1 (by omega), HS.out.2.below hB1 (by omega)⟩
  have HB1 : Hid (Below w.heap.size w w1) := HBD.out.trans (hB1.mono (by omega))
  have hsz1 : w.heap.size + 2 ≤ w1.heap.size := Nat.le_trans hsz hB1.size
  clear hB1 HBD HS
  refine hK.out _ _ HS1.out ?_
  clear hK KK
  try simp only [Act.put, List.setIfInBounds_toArray, List.set_cons_zero, List.set_cons_succ]
  refine heldTake 6 (some 9) (.pointer (some ⟨w.heap.size, 0, none⟩)) rfl rfl (by kernel_rfl) (by kernel_rfl) (by kernel_rfl) (fun _ _ _ h => h) (Or.inl ⟨by rfl, fun w hS => ?_⟩) HS1.out ?_
  · (go_simp)
  simp only [Act.put, List.setIfInBounds_toArray, List.set_cons_zero, List.set_cons_succ]
  refine heldOne 5 (by kernel_rfl) rfl (by rfl) (fun KK hK => ?_)
  go_simp
  go_at_call 34
  refine (HV _).mono ?_
  rintro e w2 ⟨rfl, hB2⟩
  have HS2 : Hid ((fun W : World => Brow W w.heap.size [.string ck, .string cx, .int .i64 co, .int .i64 cl] 28 ∧ Brow W (w.heap.size + 1) [.string ⟨#[]⟩, .string ⟨#[]⟩, .int .i64 0, .int .i64 0] 28) w2) := ⟨HS1.out.1.below hB2 (by omega), HS1.out.2.below hB2 (by omega)⟩
  have HB2 : Hid (Below w.heap.size w w2) := HB1.out.trans (hB2.mono (by omega))
  clear hB2 HB1 HS1
  refine hK.out _ _ HS2.out ?_
  clear hK KK
  try simp only [Act.put, List.setIfInBounds_toArray, List.set_cons_zero, List.set_cons_succ]
  have q0 := HS2.out.1.at 0 _ rfl
  have z0 := HS2.out.1.fz 0
  have HS3 : Hid ((fun W : World => Brow W w.heap.size [.string ck, .string cx, .int .i64 co, .int .i64 cl] 28 ∧ Brow W (w.heap.size + 1) [.string ⟨#[]⟩, .string ⟨#[]⟩, .int .i64 0, .int .i64 0] 28) (w2.setCell ⟨w.heap.size, 0, none⟩ (.string ck))) := ⟨HS2.out.1.set 0 (.string ck), HS2.out.2.far (by show w.heap.size ≠ w.heap.size + 1; omega)⟩
  refine heldOne 7 (by kernel_rfl) rfl (by rfl) (fun KK hK => ?_)
  go_simp
  refine hK.out _ _ HS3.out ?_
  clear hK KK
  try simp only [Act.put, List.setIfInBounds_toArray, List.set_cons_zero, List.set_cons_succ]
  have q1 := HS3.out.1.at 1 _ rfl
  have z1 := HS3.out.1.fz 1
  have HS4 : Hid ((fun W : World => Brow W w.heap.size [.string ck, .string cx, .int .i64 co, .int .i64 cl] 28 ∧ Brow W (w.heap.size + 1) [.string ⟨#[]⟩, .string ⟨#[]⟩, .int .i64 0, .int .i64 0] 28) ((w2.setCell ⟨w.heap.size, 0, none⟩ (.string ck)).setCell ⟨w.heap.size, 1, none⟩ (.string cx))) := ⟨HS3.out.1.set 1 (.string cx), HS3.out.2.far (by show w.heap.size ≠ w.heap.size + 1; omega)⟩
  have HB4 : Hid (Below w.heap.size w ((w2.setCell ⟨w.heap.size, 0, none⟩ (.string ck)).setCell ⟨w.heap.size, 1, none⟩ (.string cx))) := (HB2.out.setCell (Nat.le_refl _) _).setCell (Nat.le_refl _) _
  refine heldTake 8 (some 10) (.pointer (some ⟨w.heap.size, 1, none⟩)) rfl rfl (by kernel_rfl) (by kernel_rfl) (by kernel_rfl) (fun _ _ _ h => h) (Or.inl ⟨by rfl, fun w hS => ?_⟩) HS3.out ?_
  · (go_simp)
  simp only [Act.put, List.setIfInBounds_toArray, List.set_cons_zero, List.set_cons_succ]
  refine heldOne 9 (by kernel_rfl) rfl (by rfl) (fun KK hK => ?_)
  go_simp
  refine hK.out _ _ HS4.out ?_
  clear hK KK
  try simp only [Act.put, List.setIfInBounds_toArray, List.set_cons_zero, List.set_cons_succ]
  refine wpAnyH_done (by kernel_rfl) ?_ _
  clear q0 z0 q1 z1 HS3
  generalize (w2.setCell ⟨w.heap.size, 0, none⟩ (.string ck)).setCell ⟨w.heap.size, 1, none⟩ (.string cx) = w4 at *
  have q0 := HS4.out.1.at 0 _ rfl
  have q1 := HS4.out.1.at 1 _ rfl
  have q2 := HS4.out.1.at 2 _ rfl
  have q3 := HS4.out.1.at 3 _ rfl
  have y0 := HS4.out.2.at 0 _ rfl
  have y1 := HS4.out.2.at 1 _ rfl
  have y2 := HS4.out.2.at 2 _ rfl
  have y3 := HS4.out.2.at 3 _ rfl
  have z0 := HS4.out.2.fz 0
  have z1 := HS4.out.2.fz 1
  have z2 := HS4.out.2.fz 2
  have z3 := HS4.out.2.fz 3
  have HR : Hid (Brow ((((w4.setCell ⟨w.heap.size + 1, 0, none⟩ (.string ck)).setCell ⟨w.heap.size + 1, 1, none⟩ (.string cx)).setCell ⟨w.heap.size + 1, 2, none⟩ (.int .i64 co)).setCell ⟨w.heap.size + 1, 3, none⟩ (.int .i64 cl)) (w.heap.size + 1) [.string ck, .string cx, .int .i64 co, .int .i64 cl] 28) := (((HS4.out.2.set 0 (.string ck)).set 1 (.string cx)).set 2 (.int .i64 co)).set 3 (.int .i64 cl)
  go_wp2
  refine bodyPost_ret (res_c rfl _ _ (w.heap.size + 1) 28 _ _ rfl HR.out Try.underlying28 rfl (by kernel_rfl)) rfl ?_
  refine ⟨rfl, ?_⟩
  exact (((HB4.out.setCell (by show w.heap.size ≤ w.heap.size + 1; omega) _).setCell (by show w.heap.size ≤ w.heap.size + 1; omega) _).setCell (by show w.heap.size ≤ w.heap.size + 1; omega) _).setCell (by show w.heap.size ≤ w.heap.size + 1; omega) _
end Go.Proofs.Ytoinaplmgffkpaa
