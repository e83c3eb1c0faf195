/- Proved: appendField puts a field's bytes behind a slice of the call's own. -/
import Derived.Test.YtpbobmhffdmmmaaANum
import Derived.Test.YtpbobmhffdmmmaaReg
namespace Go.Proofs.Ytpbobmhffdmmmaa
open Go.RowKit
/- a field without fault -/
structure Good (f : Fv) : Prop where
  tag1 : 1 ≤ f.tag
  tag63 : f.tag ≤ 63
  len : f.s.size ≤ 4096
  kind : (f.kind = 0 ∧ 0 ≤ f.n ∧ f.n ≤ 4611686018427387904 ∧ f.s = ByteArray.empty) ∨ (f.kind = 1 ∧ f.n = 0)
def fd (f : Fv) : Fi.Fd := ⟨f.tag.toNat, f.kind.toNat, f.n.toNat, bl f.s⟩
abbrev fv (f : Fv) : Value := .agg #[.int .i64 f.tag, .int .i64 f.kind, .int .i64 f.n, .string f.s]
theorem fb_num (t m : Nat) : Fi.fb (fd ⟨(t : Int), 0, (m : Int), ByteArray.empty⟩) = (2 * t) :: Fi.varint m := by
  unfold Fi.fb fd; simp
theorem fb_text (t : Nat) (s : ByteArray) : Fi.fb (fd ⟨(t : Int), 1, 0, s⟩) = (2 * t + 1) :: (Fi.varint s.size ++ bl s) := by
  unfold Fi.fb fd; simp [bl_length]
theorem one_cells_at (W : World) (B : Nat) (hB : W.heap.size = B) (z : Int) (b : Nat) (hz : z = (b : Int)) : ∀ j u, ([b].map V8)[j]? = some u → (W.alloc (.cells #[.int .u8 z] 5)).cell? ((⟨B, 0, none⟩ : Addr).add j) = some u := by
  subst hB
  exact one_cells W z b hz
/- the field in its box -/
abbrev boxed (w : World) (f : Fv) : World := w.alloc (.cells #[.int .i64 f.tag, .int .i64 f.kind, .int .i64 f.n, .string f.s] 38)
theorem box_at (w : World) (f : Fv) : FieldAt (boxed w f) w.heap.size 0 f := by
  have h := field_new w f
  have e : ∀ j, (⟨w.heap.size, 0, none⟩ : Addr).add j = ⟨w.heap.size, 0 + j, none⟩ := fun j => Go.WideShapes.add_plain _ _ _
  exact ⟨by have := h 0 _ rfl; rwa [e] at this, by have := h 1 _ rfl; rwa [e] at this, by have := h 2 _ rfl; rwa [e] at this, by have := h 3 _ rfl; rwa [e] at this⟩
theorem FieldAt.alloc {w : World} {b off : Nat} {f : Fv} (h : FieldAt w b off f) (o : Obj) : FieldAt (w.alloc o) b off f :=
  h.below ((Below.refl w.heap.size w).alloc (Nat.le_refl _) o) (block_lt_of_cell h.tag)
theorem FieldAt.grew {w w' : World} {v v' : Value} {b off : Nat} {f : Fv} (h : FieldAt w b off f) (G : Grew w v w' v') (hne : some b ≠ v.ownBlock) : FieldAt w' b off f :=
  ⟨G.cell h.tag hne, G.cell h.kind hne, G.cell h.n hne, G.cell h.s hne⟩
theorem Grew.ne {w w' : World} {v v' : Value} (h : Grew w v w' v') {b : Nat} (hne : some b ≠ v.ownBlock) (hb : b < w.heap.size) : some b ≠ v'.ownBlock := by
  rcases h.row with e | ⟨g, e, hg⟩
  · rw [e]; exact hne
  · rw [e]; intro he; have := Option.some.inj he; omega
theorem Grew.drew {w w' : World} {v v' : Value} (h : Grew w v w' v') : Grew w v w'.drew v' := ⟨⟨h.by_.os, h.by_.tape, h.by_.output, h.by_.size, h.by_.block⟩, h.row⟩
set_option maxHeartbeats 1000000 in
set_option maxRecDepth 20000 in
theorem afield_num (w : World) (N : Nat) (v : Value) (n : Nat) (vs : List Nat) (t m : Nat) (ht1 : 1 ≤ t) (ht : t ≤ 63) (hm : m ≤ 4611686018427387904) (hown : w.ownsRow N 5 1 v n (vs.map V8)) (hN : N ≤ w.heap.size) (hn : n ≤ 200000) :
    Calls Try.prog 26 #[v, .agg #[.int .i64 (t : Int), .int .i64 0, .int .i64 (m : Int), .string ByteArray.empty]] w fun e w' => ∃ v', e = .returned v' ∧ w'.ownsRow N 5 1 v' (n + 1 + (Fi.varint m).length) ((vs ++ [2 * t] ++ Fi.varint m).map V8) ∧ Grew w v w' v' := by
  have HO : Hid (w.ownsRow N 5 1 v n (vs.map V8)) := hown
  clear hown
  have HC : Hid (∀ j u, ([2 * t].map V8)[j]? = some u → ((w.alloc (.cells #[.int .i64 (t : Int), .int .i64 0, .int .i64 (m : Int), .string ByteArray.empty] 38)).alloc (.cells #[.int .u8 (2 * (t : Int))] 5)).cell? ((⟨w.heap.size + 1, 0, none⟩ : Addr).add j) = some u) := one_cells_at _ _ (size_alloc1 _ _) _ (2 * t) (by omega)
  have HF : Hid (FieldAt ((w.alloc (.cells #[.int .i64 (t : Int), .int .i64 0, .int .i64 (m : Int), .string ByteArray.empty] 38)).alloc (.cells #[.int .u8 (2 * (t : Int))] 5)) w.heap.size 0 ⟨(t : Int), 0, (m : Int), ByteArray.empty⟩) := (box_at w ⟨(t : Int), 0, (m : Int), ByteArray.empty⟩).alloc _
  have HNE : Hid (some w.heap.size ≠ v.ownBlock) := own_ne HO.out (Nat.le_refl _)
  go_enter Try.func26, Try.ntmps26
  go_wp2_with (first | (refine app_bytes rfl (.tmp 5) (.tmp 13) rfl _ N _ n vs rfl (own_alloc8 (own_alloc8 HO.out _) _) ⟨w.heap.size + 1, 0, none⟩ 1 1 [2 * t] rfl rfl HC.out (by omega) (by simp; omega) ?_; intro v' w' hO4 hB4; obtain ⟨c0, c1, c2, c3⟩ := HF.out.grew hB4 HNE.out; have HO4 : Hid (w'.ownsRow N 5 1 v' (n + 1) ((vs ++ [2 * t]).map V8)) := hO4; clear hO4; have HB4 : Hid (Grew _ _ w' v') := hB4; clear hB4; simp only [Nat.zero_add] at c0 c1 c2 c3))
  refine (anum_any w' N v' (n + 1) (vs ++ [2 * t]) m HO4.out (by have := HB4.out.by_.size; simp at this; omega) (by omega) (by omega)).mono ?_
  rintro e w2 ⟨v2, rfl, hO5, hB5⟩
  have HO5 : Hid (w2.ownsRow N 5 1 v2 (n + 1 + (Fi.varint m).length) ((vs ++ [2 * t] ++ Fi.varint m).map V8)) := hO5
  clear hO5
  go_wp2_with fail
  go_ret
  exact ⟨_, rfl, HO5.out, (((Grew.refl w v).alloc _).alloc _).trans (HB4.out.trans hB5)⟩
set_option maxHeartbeats 1000000 in
set_option maxRecDepth 20000 in
theorem afield_text (w : World) (N : Nat) (v : Value) (n : Nat) (vs : List Nat) (t : Nat) (x : ByteArray) (ht1 : 1 ≤ t) (ht : t ≤ 63) (hx : x.size ≤ 4100) (hown : w.ownsRow N 5 1 v n (vs.map V8)) (hN : N ≤ w.heap.size) (hn : n ≤ 200000) :
    Calls Try.prog 26 #[v, .agg #[.int .i64 (t : Int), .int .i64 1, .int .i64 0, .string x]] w fun e w' => ∃ v', e = .returned v' ∧ w'.ownsRow N 5 1 v' (n + 1 + (Fi.varint x.size).length + x.size) ((vs ++ [2 * t + 1] ++ Fi.varint x.size ++ bl x).map V8) ∧ Grew w v w' v' := by
  have HO : Hid (w.ownsRow N 5 1 v n (vs.map V8)) := hown
  clear hown
  have HC : Hid (∀ j u, ([2 * t + 1].map V8)[j]? = some u → ((w.alloc (.cells #[.int .i64 (t : Int), .int .i64 1, .int .i64 0, .string x] 38)).alloc (.cells #[.int .u8 (2 * (t : Int) + 1)] 5)).cell? ((⟨w.heap.size + 1, 0, none⟩ : Addr).add j) = some u) := one_cells_at _ _ (size_alloc1 _ _) _ (2 * t + 1) (by omega)
  have HF : Hid (FieldAt ((w.alloc (.cells #[.int .i64 (t : Int), .int .i64 1, .int .i64 0, .string x] 38)).alloc (.cells #[.int .u8 (2 * (t : Int) + 1)] 5)) w.heap.size 0 ⟨(t : Int), 1, 0, x⟩) := (box_at w ⟨(t : Int), 1, 0, x⟩).alloc _
  have HNE : Hid (some w.heap.size ≠ v.ownBlock) := own_ne HO.out (Nat.le_refl _)
  have HVL := varint_room x.size (by omega)
  go_enter Try.func26, Try.ntmps26
  go_wp2_with (first | (refine app_bytes rfl (.tmp 5) (.tmp 13) rfl _ N _ n vs rfl (own_alloc8 (own_alloc8 HO.out _) _) ⟨w.heap.size + 1, 0, none⟩ 1 1 [2 * t + 1] rfl rfl HC.out (by omega) (by simp; omega) ?_; intro v' w' hO4 hB4; obtain ⟨c0, c1, c2, c3⟩ := HF.out.grew hB4 HNE.out; have HO4 : Hid (w'.ownsRow N 5 1 v' (n + 1) ((vs ++ [2 * t + 1]).map V8)) := hO4; clear hO4; have HB4 : Hid (Grew _ _ w' v') := hB4; clear hB4; simp only [Nat.zero_add] at c0 c1 c2 c3))
  have HNE2 : Hid (some w.heap.size ≠ v'.ownBlock) := HB4.out.ne HNE.out (by simp; omega)
  have HS : Hid ((fun W : World => W.cell? ⟨w.heap.size, 3, none⟩ = some (.string x)) w'.drew) := c3
  have hsz : N ≤ w'.drew.heap.size := by have := HB4.out.by_.size; simp at this; simp; omega
  refine wp_region_held_drew (S := fun W => W.cell? ⟨w.heap.size, 3, none⟩ = some (.string x)) (by kernel_rfl) HS.out (fun _ => ?_)
  refine heldTake 0 (some 22) (v') rfl rfl (by kernel_rfl) (by kernel_rfl) (by kernel_rfl) (fun _ _ _ h => h) (Or.inl ⟨by rfl, fun w hS => ?_⟩) HS.out ?_
  · (go_simp)
  simp only [Act.put, List.setIfInBounds_toArray, List.set_cons_zero, List.set_cons_succ]
  refine heldTake 1 (some 23) (.pointer (some ⟨w.heap.size, 3, none⟩)) rfl rfl (by kernel_rfl) (by kernel_rfl) (by kernel_rfl) (fun _ _ _ h => h) (Or.inl ⟨by rfl, fun w hS => ?_⟩) HS.out ?_
  · (go_simp)
  simp only [Act.put, List.setIfInBounds_toArray, List.set_cons_zero, List.set_cons_succ]
  refine heldTake 2 (some 24) (.string x) rfl rfl (by kernel_rfl) (by kernel_rfl) (by kernel_rfl) (fun _ _ _ h => h) (Or.inl ⟨by rfl, fun w hS => ?_⟩) HS.out ?_
  · (go_simp)
  simp only [Act.put, List.setIfInBounds_toArray, List.set_cons_zero, List.set_cons_succ]
  refine heldTake 3 (some 25) (.int .i64 x.size) rfl rfl (by kernel_rfl) (by kernel_rfl) (by kernel_rfl) (fun _ _ _ h => h) (Or.inl ⟨by rfl, fun w hS => ?_⟩) HS.out ?_
  · (go_simp)
  simp only [Act.put, List.setIfInBounds_toArray, List.set_cons_zero, List.set_cons_succ]
  refine heldTake 5 (some 27) (.pointer (some ⟨w.heap.size, 3, none⟩)) rfl rfl (by kernel_rfl) (by kernel_rfl) (by kernel_rfl) (fun _ _ _ h => h) (Or.inl ⟨by rfl, fun w hS => ?_⟩) HS.out ?_
  · (go_simp)
  simp only [Act.put, List.setIfInBounds_toArray, List.set_cons_zero, List.set_cons_succ]
  refine heldTake 6 (some 28) (.string x) rfl rfl (by kernel_rfl) (by kernel_rfl) (by kernel_rfl) (fun _ _ _ h => h) (Or.inl ⟨by rfl, fun w hS => ?_⟩) HS.out ?_
  · (go_simp)
  simp only [Act.put, List.setIfInBounds_toArray, List.set_cons_zero, List.set_cons_succ]
  refine heldOne 4 (by kernel_rfl) rfl (by rfl) (fun KK hK => ?_)
  go_simp
  go_at_call 31
  refine (anum_any w'.drew N v' (n + 1) (vs ++ [2 * t + 1]) x.size (owns8_below HO4.out (Below.refl _ _).drew rfl) hsz (by omega) (by omega)).mono ?_
  rintro e w2 ⟨v2, rfl, hO5, hB5⟩
  have HS2 : Hid ((fun W : World => W.cell? ⟨w.heap.size, 3, none⟩ = some (.string x)) w2) := hB5.cell HS.out HNE2.out
  have hsz2 : N ≤ w2.heap.size := Nat.le_trans hsz hB5.by_.size
  refine hK.out _ _ HS2.out ?_
  clear hK KK
  try simp only [Act.put, List.setIfInBounds_toArray, List.set_cons_zero, List.set_cons_succ]
  refine heldOne 7 (by kernel_rfl) rfl (by rfl) (fun KK hK => ?_)
  refine step_text (some 29) rfl (.tmp 26) (.tmp 28) rfl N v2 _ _ rfl hO5 x rfl (by omega) hsz2 ?_
  intro v3 w3 hO6 hB6
  have HS3 : Hid ((fun W : World => W.cell? ⟨w.heap.size, 3, none⟩ = some (.string x)) w3) := hB6.cell HS2.out (hB5.ne HNE2.out (block_lt_of_cell HS.out))
  refine hK.out _ _ HS3.out ?_
  clear hK KK
  simp only [Act.put, List.setIfInBounds_toArray, List.set_cons_zero, List.set_cons_succ]
  refine heldTake 8 (some 4) (v3) rfl rfl (by kernel_rfl) (by kernel_rfl) (by kernel_rfl) (fun _ _ _ h => h) (Or.inl ⟨by rfl, fun w hS => ?_⟩) HS3.out ?_
  · (go_simp)
  simp only [Act.put, List.setIfInBounds_toArray, List.set_cons_zero, List.set_cons_succ]
  refine wpAnyH_done (by kernel_rfl) ?_ _
  go_wp2_with fail
  go_ret
  simp only [List.map_append, List.map_cons, List.append_assoc, List.singleton_append] at hO6
  exact ⟨_, rfl, hO6, (((Grew.refl w v).alloc _).alloc _).trans (HB4.out.trans ((Grew.refl w' v').drew.trans (hB5.trans hB6)))⟩
theorem Good.ok {f : Fv} (h : Good f) : Fi.Ok (fd f) := by
  obtain ⟨h1, h2, h3, h4⟩ := h
  refine ⟨?_, ?_, ?_, ?_, ?_, ?_, ?_, ?_⟩ <;> simp only [fd]
  · omega
  · omega
  · omega
  · omega
  · intro hk
    rcases h4 with ⟨_, _, _, h⟩ | ⟨h, _⟩
    · rw [h]; rfl
    · omega
  · intro hk; omega
  · rw [bl_length]; omega
  · exact bl_lt _
theorem afield_any (f : Fv) (hg : Good f) (w : World) (N : Nat) (v : Value) (n : Nat) (vs : List Nat) (hown : w.ownsRow N 5 1 v n (vs.map V8)) (hN : N ≤ w.heap.size) (hn : n ≤ 200000) :
    Calls Try.prog 26 #[v, fv f] w fun e w' => ∃ v', e = .returned v' ∧ w'.ownsRow N 5 1 v' (n + (Fi.fb (fd f)).length) ((vs ++ Fi.fb (fd f)).map V8) ∧ Grew w v w' v' := by
  obtain ⟨h1, h2, h3, h4⟩ := hg
  obtain ⟨ft, fk, fn, fx⟩ := f
  simp only at h1 h2 h3 h4
  obtain ⟨t, rfl⟩ := Int.eq_ofNat_of_zero_le (show (0 : Int) ≤ ft by omega)
  rcases h4 with ⟨rfl, hn0, hn1, rfl⟩ | ⟨rfl, rfl⟩
  · obtain ⟨m, rfl⟩ := Int.eq_ofNat_of_zero_le hn0
    refine (afield_num w N v n vs t m (by omega) (by omega) (by omega) hown hN hn).mono ?_
    rintro e w' ⟨v', rfl, ho, hG⟩
    refine ⟨v', rfl, ?_, hG⟩
    rw [fb_num, List.length_cons, show n + ((Fi.varint m).length + 1) = n + 1 + (Fi.varint m).length by omega]
    rw [List.append_assoc] at ho
    exact ho
  · refine (afield_text w N v n vs t fx (by omega) (by omega) (by omega) hown hN hn).mono ?_
    rintro e w' ⟨v', rfl, ho, hG⟩
    refine ⟨v', rfl, ?_, hG⟩
    rw [fb_text, List.length_cons, List.length_append, bl_length, show n + ((Fi.varint fx.size).length + fx.size + 1) = n + 1 + (Fi.varint fx.size).length + fx.size by omega]
    rw [List.append_assoc, List.append_assoc] at ho
    exact ho
end Go.Proofs.Ytpbobmhffdmmmaa
