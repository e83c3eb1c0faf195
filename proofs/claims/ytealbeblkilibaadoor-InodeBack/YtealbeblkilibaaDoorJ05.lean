/- Proved: appendField puts a field's bytes behind a slice of the call's own. -/
import Derived.Test.YtealbeblkilibaaDoorJ04
import Derived.RangeFuncBox
import Derived.Deep.Cut
import Derived.Deep.RegionHeld
import Derived.Laws.ResultCell
namespace Go.Proofs.YtealbeblkilibaaDoor.FI
open Go.RowKit
/- a field without fault -/
structure Good (f : Fv) : Prop where
  tag1 : 1 ≤ f.tag
  tag63 : f.tag ≤ 63
  len : f.s.size ≤ 4096
  kind : (f.kind = 0 ∧ 0 ≤ f.n ∧ f.n ≤ 4611686018427387904 ∧ f.s = ByteArray.empty) ∨ (f.kind = 1 ∧ f.n = 0)
def fd (f : Fv) : Fi.Fd := ⟨f.tag.toNat, f.kind.toNat, f.n.toNat, bl f.s⟩
abbrev fv (f : Fv) : Value := .agg #[.int .i64 f.tag, .int .i64 f.kind, .int .i64 f.n, .string f.s]
theorem fb_num (t m : Nat) : Fi.fb (fd ⟨(t : Int), 0, (m : Int), ByteArray.empty⟩) = (2 * t) :: Fi.varint m := by
  unfold Fi.fb fd; simp
theorem fb_text (t : Nat) (s : ByteArray) : Fi.fb (fd ⟨(t : Int), 1, 0, s⟩) = (2 * t + 1) :: (Fi.varint s.size ++ bl s) := by
  unfold Fi.fb fd; simp [bl_length]
theorem one_cells_at (W : World) (B : Nat) (hB : W.heap.size = B) (z : Int) (b : Nat) (hz : z = (b : Int)) : ∀ j u, ([b].map V8)[j]? = some u → (W.alloc (.cells #[.int .u8 z] 5)).cell? ((⟨B, 0, none⟩ : Addr).add j) = some u := by
  subst hB
  exact one_cells W z b hz
/- the field in its box -/
abbrev boxed (w : World) (f : Fv) : World := w.alloc (.cells #[.int .i64 f.tag, .int .i64 f.kind, .int .i64 f.n, .string f.s] 79)
theorem box_at (w : World) (f : Fv) : FieldAt (boxed w f) w.heap.size 0 f := by
  have h := field_new w f
  have e : ∀ j, (⟨w.heap.size, 0, none⟩ : Addr).add j = ⟨w.heap.size, 0 + j, none⟩ := fun j => Go.WideShapes.add_plain _ _ _
  exact ⟨by have := h 0 _ rfl; rwa [e] at this, by have := h 1 _ rfl; rwa [e] at this, by have := h 2 _ rfl; rwa [e] at this, by have := h 3 _ rfl; rwa [e] at this⟩
theorem FieldAt.alloc {w : World} {b off : Nat} {f : Fv} (h : FieldAt w b off f) (o : Obj) : FieldAt (w.alloc o) b off f :=
  h.below ((Below.refl w.heap.size w).alloc (Nat.le_refl _) o) (block_lt_of_cell h.tag)
theorem FieldAt.grew {w w' : World} {v v' : Value} {b off : Nat} {f : Fv} (h : FieldAt w b off f) (G : Grew w v w' v') (hne : some b ≠ v.ownBlock) : FieldAt w' b off f :=
  ⟨G.cell h.tag hne, G.cell h.kind hne, G.cell h.n hne, G.cell h.s hne⟩
theorem Grew.ne {w w' : World} {v v' : Value} (h : Grew w v w' v') {b : Nat} (hne : some b ≠ v.ownBlock) (hb : b < w.heap.size) : some b ≠ v'.ownBlock := by
  rcases h.row with e | ⟨g, e, hg⟩
  · rw [e]; exact hne
  · rw [e]; intro he; have := Option.some.inj he; omega
theorem Grew.drew {w w' : World} {v v' : Value} (h : Grew w v w' v') : Grew w v w'.drew v' := ⟨⟨h.by_.os, h.by_.tape, h.by_.output, h.by_.size, h.by_.block⟩, h.row⟩
set_option maxHeartbeats 1000000 in
set_option maxRecDepth 20000 in
theorem afield_num (w : World) (N : Nat) (v : Value) (n : Nat) (vs : List Nat) (t m : Nat) (ht1 : 1 ≤ t) (ht : t ≤ 63) (hm : m ≤ 4611686018427387904) (hown : w.ownsRow N 5 1 v n (vs.map V8)) (hN : N ≤ w.heap.size) (hn : n ≤ 200000) :
    Calls Tryd.prog 54 #[v, .agg #[.int .i64 (t : Int), .int .i64 0, .int .i64 (m : Int), .string ByteArray.empty]] w fun e w' => ∃ v', e = .returned v' ∧ w'.ownsRow N 5 1 v' (n + 1 + (Fi.varint m).length) ((vs ++ [2 * t] ++ Fi.varint m).map V8) ∧ Grew w v w' v' := by
  have HO : Hid (w.ownsRow N 5 1 v n (vs.map V8)) := hown
  clear hown
  have HC : Hid (∀ j u, ([2 * t].map V8)[j]? = some u → ((w.alloc (.cells #[.int .i64 (t : Int), .int .i64 0, .int .i64 (m : Int), .string ByteArray.empty] 79)).alloc (.cells #[.int .u8 (2 * (t : Int))] 5)).cell? ((⟨w.heap.size + 1, 0, none⟩ : Addr).add j) = some u) := one_cells_at _ _ (size_alloc1 _ _) _ (2 * t) (by omega)
  have HF : Hid (FieldAt ((w.alloc (.cells #[.int .i64 (t : Int), .int .i64 0, .int .i64 (m : Int), .string ByteArray.empty] 79)).alloc (.cells #[.int .u8 (2 * (t : Int))] 5)) w.heap.size 0 ⟨(t : Int), 0, (m : Int), ByteArray.empty⟩) := (box_at w ⟨(t : Int), 0, (m : Int), ByteArray.empty⟩).alloc _
  have HNE : Hid (some w.heap.size ≠ v.ownBlock) := own_ne HO.out (Nat.le_refl _)
  go_enter Tryd.func54, Tryd.ntmps54
  go_wp2_with (first | (refine app_bytes rfl (.tmp 5) (.tmp 13) rfl _ N _ n vs rfl (own_alloc8 (own_alloc8 HO.out _) _) ⟨w.heap.size + 1, 0, none⟩ 1 1 [2 * t] rfl rfl HC.out (by omega) (by simp; omega) ?_; intro v' w' hO4 hB4; obtain ⟨c0, c1, c2, c3⟩ := HF.out.grew hB4 HNE.out; have HO4 : Hid (w'.ownsRow N 5 1 v' (n + 1) ((vs ++ [2 * t]).map V8)) := hO4; clear hO4; have HB4 : Hid (Grew _ _ w' v') := hB4; clear hB4; simp only [Nat.zero_add] at c0 c1 c2 c3))
  refine (anum_any w' N v' (n + 1) (vs ++ [2 * t]) m HO4.out (by have := HB4.out.by_.size; simp at this; omega) (by omega) (by omega)).mono ?_
  rintro e w2 ⟨v2, rfl, hO5, hB5⟩
  have HO5 : Hid (w2.ownsRow N 5 1 v2 (n + 1 + (Fi.varint m).length) ((vs ++ [2 * t] ++ Fi.varint m).map V8)) := hO5
  clear hO5
  go_wp2_with fail
  go_ret
  exact ⟨_, rfl, HO5.out, (((Grew.refl w v).alloc _).alloc _).trans (HB4.out.trans hB5)⟩
set_option maxHeartbeats 1000000 in
set_option maxRecDepth 20000 in
theorem afield_text (w : World) (N : Nat) (v : Value) (n : Nat) (vs : List Nat) (t : Nat) (x : ByteArray) (ht1 : 1 ≤ t) (ht : t ≤ 63) (hx : x.size ≤ 4100) (hown : w.ownsRow N 5 1 v n (vs.map V8)) (hN : N ≤ w.heap.size) (hn : n ≤ 200000) :
    Calls Tryd.prog 54 #[v, .agg #[.int .i64 (t : Int), .int .i64 1, .int .i64 0, .string x]] w fun e w' => ∃ v', e = .returned v' ∧ w'.ownsRow N 5 1 v' (n + 1 + (Fi.varint x.size).length + x.size) ((vs ++ [2 * t + 1] ++ Fi.varint x.size ++ bl x).map V8) ∧ Grew w v w' v' := by
  have HO : Hid (w.ownsRow N 5 1 v n (vs.map V8)) := hown
  clear hown
  have HC : Hid (∀ j u, ([2 * t + 1].map V8)[j]? = some u → ((w.alloc (.cells #[.int .i64 (t : Int), .int .i64 1, .int .i64 0, .string x] 79)).alloc (.cells #[.int .u8 (2 * (t : Int) + 1)] 5)).cell? ((⟨w.heap.size + 1, 0, none⟩ : Addr).add j) = some u) := one_cells_at _ _ (size_alloc1 _ _) _ (2 * t + 1) (by omega)
  have HF : Hid (FieldAt ((w.alloc (.cells #[.int .i64 (t : Int), .int .i64 1, .int .i64 0, .string x] 79)).alloc (.cells #[.int .u8 (2 * (t : Int) + 1)] 5)) w.heap.size 0 ⟨(t : Int), 1, 0, x⟩) := (box_at w ⟨(t : Int), 1, 0, x⟩).alloc _
  have HNE : Hid (some w.heap.size ≠ v.ownBlock) := own_ne HO.out (Nat.le_refl _)
  have HVL := varint_room x.size (by omega)
  go_enter Tryd.func54, Tryd.ntmps54
  go_wp2_with (first | (refine app_bytes rfl (.tmp 5) (.tmp 13) rfl _ N _ n vs rfl (own_alloc8 (own_alloc8 HO.out _) _) ⟨w.heap.size + 1, 0, none⟩ 1 1 [2 * t + 1] rfl rfl HC.out (by omega) (by simp; omega) ?_; intro v' w' hO4 hB4; obtain ⟨c0, c1, c2, c3⟩ := HF.out.grew hB4 HNE.out; have HO4 : Hid (w'.ownsRow N 5 1 v' (n + 1) ((vs ++ [2 * t + 1]).map V8)) := hO4; clear hO4; have HB4 : Hid (Grew _ _ w' v') := hB4; clear hB4; simp only [Nat.zero_add] at c0 c1 c2 c3))
  have HNE2 : Hid (some w.heap.size ≠ v'.ownBlock) := HB4.out.ne HNE.out (by simp; omega)
  have HS : Hid ((fun W : World => W.cell? ⟨w.heap.size, 3, none⟩ = some (.string x)) w'.drew) := c3
  have hsz : N ≤ w'.drew.heap.size := by have := HB4.out.by_.size; simp at this; simp; omega
  refine wp_region_held_drew (S := fun W => W.cell? ⟨w.heap.size, 3, none⟩ = some (.string x)) (by kernel_rfl) HS.out (fun _ => ?_)
  refine heldTake 0 (some 22) (v') rfl rfl (by kernel_rfl) (by kernel_rfl) (by kernel_rfl) (fun _ _ _ h => h) (Or.inl ⟨by rfl, fun w hS => ?_⟩) HS.out ?_
  · (go_simp)
  simp only [Act.put, List.setIfInBounds_toArray, List.set_cons_zero, List.set_cons_succ]
  refine heldTake 1 (some 23) (.pointer (some ⟨w.heap.size, 3, none⟩)) rfl rfl (by kernel_rfl) (by kernel_rfl) (by kernel_rfl) (fun _ _ _ h => h) (Or.inl ⟨by rfl, fun w hS => ?_⟩) HS.out ?_
  · (go_simp)
  simp only [Act.put, List.setIfInBounds_toArray, List.set_cons_zero, List.set_cons_succ]
  refine heldTake 2 (some 24) (.string x) rfl rfl (by kernel_rfl) (by kernel_rfl) (by kernel_rfl) (fun _ _ _ h => h) (Or.inl ⟨by rfl, fun w hS => ?_⟩) HS.out ?_
  · (go_simp)
  simp only [Act.put, List.setIfInBounds_toArray, List.set_cons_zero, List.set_cons_succ]
  refine heldTake 3 (some 25) (.int .i64 x.size) rfl rfl (by kernel_rfl) (by kernel_rfl) (by kernel_rfl) (fun _ _ _ h => h) (Or.inl ⟨by rfl, fun w hS => ?_⟩) HS.out ?_
  · (go_simp)
  simp only [Act.put, List.setIfInBounds_toArray, List.set_cons_zero, List.set_cons_succ]
  refine heldTake 5 (some 27) (.pointer (some ⟨w.heap.size, 3, none⟩)) rfl rfl (by kernel_rfl) (by kernel_rfl) (by kernel_rfl) (fun _ _ _ h => h) (Or.inl ⟨by rfl, fun w hS => ?_⟩) HS.out ?_
  · (go_simp)
  simp only [Act.put, List.setIfInBounds_toArray, List.set_cons_zero, List.set_cons_succ]
  refine heldTake 6 (some 28) (.string x) rfl rfl (by kernel_rfl) (by kernel_rfl) (by kernel_rfl) (fun _ _ _ h => h) (Or.inl ⟨by rfl, fun w hS => ?_⟩) HS.out ?_
  · (go_simp)
  simp only [Act.put, List.setIfInBounds_toArray, List.set_cons_zero, List.set_cons_succ]
  refine heldOne 4 (by kernel_rfl) rfl (by rfl) (fun KK hK => ?_)
  go_simp
  go_at_call 73
  refine (anum_any w'.drew N v' (n + 1) (vs ++ [2 * t + 1]) x.size (owns8_below HO4.out (Below.refl _ _).drew rfl) hsz (by omega) (by omega)).mono ?_
  rintro e w2 ⟨v2, rfl, hO5, hB5⟩
  have HS2 : Hid ((fun W : World => W.cell? ⟨w.heap.size, 3, none⟩ = some (.string x)) w2) := hB5.cell HS.out HNE2.out
  have hsz2 : N ≤ w2.heap.size := Nat.le_trans hsz hB5.by_.size
  refine hK.out _ _ HS2.out ?_
  clear hK KK
  try simp only [Act.put, List.setIfInBounds_toArray, List.set_cons_zero, List.set_cons_succ]
  refine heldOne 7 (by kernel_rfl) rfl (by rfl) (fun KK hK => ?_)
  refine step_text (some 29) rfl (.tmp 26) (.tmp 28) rfl N v2 _ _ rfl hO5 x rfl (by omega) hsz2 ?_
  intro v3 w3 hO6 hB6
  have HS3 : Hid ((fun W : World => W.cell? ⟨w.heap.size, 3, none⟩ = some (.string x)) w3) := hB6.cell HS2.out (hB5.ne HNE2.out (block_lt_of_cell HS.out))
  refine hK.out _ _ HS3.out ?_
  clear hK KK
  simp only [Act.put, List.setIfInBounds_toArray, List.set_cons_zero, List.set_cons_succ]
  refine heldTake 8 (some 4) (v3) rfl rfl (by kernel_rfl) (by kernel_rfl) (by kernel_rfl) (fun _ _ _ h => h) (Or.inl ⟨by rfl, fun w hS => ?_⟩) HS3.out ?_
  · (go_simp)
  simp only [Act.put, List.setIfInBounds_toArray, List.set_cons_zero, List.set_cons_succ]
  refine wpAnyH_done (by kernel_rfl) ?_ _
  go_wp2_with fail
  go_ret
  simp only [List.map_append, List.map_cons, List.append_assoc, List.singleton_append] at hO6
  exact ⟨_, rfl, hO6, (((Grew.refl w v).alloc _).alloc _).trans (HB4.out.trans ((Grew.refl w' v').drew.trans (hB5.trans hB6)))⟩
theorem Good.ok {f : Fv} (h : Good f) : Fi.Ok (fd f) := by
  obtain ⟨h1, h2, h3, h4⟩ := h
  refine ⟨?_, ?_, ?_, ?_, ?_, ?_, ?_, ?_⟩ <;> simp only [fd]
  · omega
  · omega
  · omega
  · omega
  · intro hk
    rcases h4 with ⟨_, _, _, h⟩ | ⟨h, _⟩
    · rw [h]; rfl
    · omega
  · intro hk; omega
  · rw [bl_length]; omega
  · exact bl_lt _
theorem afield_any (f : Fv) (hg : Good f) (w : World) (N : Nat) (v : Value) (n : Nat) (vs : List Nat) (hown : w.ownsRow N 5 1 v n (vs.map V8)) (hN : N ≤ w.heap.size) (hn : n ≤ 200000) :
    Calls Tryd.prog 54 #[v, fv f] w fun e w' => ∃ v', e = .returned v' ∧ w'.ownsRow N 5 1 v' (n + (Fi.fb (fd f)).length) ((vs ++ Fi.fb (fd f)).map V8) ∧ Grew w v w' v' := by
  obtain ⟨h1, h2, h3, h4⟩ := hg
  obtain ⟨ft, fk, fn, fx⟩ := f
  simp only at h1 h2 h3 h4
  obtain ⟨t, rfl⟩ := Int.eq_ofNat_of_zero_le (show (0 : Int) ≤ ft by omega)
  rcases h4 with ⟨rfl, hn0, hn1, rfl⟩ | ⟨rfl, rfl⟩
  · obtain ⟨m, rfl⟩ := Int.eq_ofNat_of_zero_le hn0
    refine (afield_num w N v n vs t m (by omega) (by omega) (by omega) hown hN hn).mono ?_
    rintro e w' ⟨v', rfl, ho, hG⟩
    refine ⟨v', rfl, ?_, hG⟩
    rw [fb_num, List.length_cons, show n + ((Fi.varint m).length + 1) = n + 1 + (Fi.varint m).length by omega]
    rw [List.append_assoc] at ho
    exact ho
  · refine (afield_text w N v n vs t fx (by omega) (by omega) (by omega) hown hN hn).mono ?_
    rintro e w' ⟨v', rfl, ho, hG⟩
    refine ⟨v', rfl, ?_, hG⟩
    rw [fb_text, List.length_cons, List.length_append, bl_length, show n + ((Fi.varint fx.size).length + fx.size + 1) = n + 1 + (Fi.varint fx.size).length + fx.size by omega]
    rw [List.append_assoc, List.append_assoc] at ho
    exact ho
end Go.Proofs.YtealbeblkilibaaDoor.FI
/- Proved: number reads a number off the front of the bytes that are still to be read. -/
namespace Go.Proofs.YtealbeblkilibaaDoor.FI
open Go.RowKit
variable {G : Nat}
/- bytes behind an address -/
def At (G : Nat) (w : World) (B : Nat) (a : Option Addr) (bs : List Nat) : Prop :=
  ∃ g off, a = some ⟨g, off, none⟩ ∧ (g < B ∧ g = G) ∧ ∀ i, i < bs.length → w.cell? ⟨g, off + i, none⟩ = some (V8 (bs.getD i 0))
/- what is still to be read, in the box B -/
structure Inp (G : Nat) (w : World) (B : Nat) (v : Value) (bs : List Nat) : Prop where
  box : Boxed w B 97 v
  val : ∃ a cap, v = .slice a bs.length cap ∧ bs.length ≤ cap ∧ cap ≤ 9223372036854775807 ∧ At G w B a bs
  byte : ∀ x ∈ bs, x < 256
theorem val_take_succ (bs : List Nat) (k : Nat) (hk : k < bs.length) : Fi.val (bs.take (k + 1)) = Fi.val (bs.take k) + 128 ^ k * (bs.getD k 0 % 128) := by
  rw [List.take_succ_eq_append_getElem hk, Fi.val_append, List.length_take, Nat.min_eq_left (by omega), List.getD_eq_getElem?_getD, List.getElem?_eq_getElem hk]
  simp [Fi.val]
theorem shl_fact (k r n : Nat) (hk : k ≤ 8) (hr : r < 128) (hn : n < 128 ^ k) : ∃ q n1 : Nat, wrap64 ((r : Int) * 2 ^ (7 * k)) = (q : Int) ∧ wrap64 ((n : Int) + (q : Int)) = (n1 : Int) ∧ n1 < 9223372036854775808 ∧ n + 128 ^ k * r = n1 := by
  have e : (2 : Nat) ^ (7 * k) = 128 ^ k := by rw [Nat.pow_mul]
  have hle : (128 : Nat) ^ k ≤ 128 ^ 8 := Nat.pow_le_pow_right (by omega) hk
  have hm : 128 ^ k * r ≤ 128 ^ k * 127 := Nat.mul_le_mul_left _ (by omega)
  have h8 : (128 : Nat) ^ 8 = 72057594037927936 := by decide
  have e2 : (r : Int) * 2 ^ (7 * k) = ((128 ^ k * r : Nat) : Int) := by
    rw [← e, Int.natCast_mul, Int.natCast_pow, Int.mul_comm]; rfl
  rw [e2]
  generalize 128 ^ k * r = q at *
  generalize 128 ^ k = c at *
  refine ⟨q, n + q, ?_, ?_, by omega, rfl⟩
  · unfold wrap64; omega
  · unfold wrap64; omega
theorem Inp.adv {w : World} {B g off L cap : Nat} {bs : List Nat} (h : Inp G w B (.slice (some ⟨g, off, none⟩) L cap) bs) (hL : bs.length = L) (hgB : g < B ∧ g = G) (hc : ∀ i, i < bs.length → w.cell? ⟨g, off + i, none⟩ = some (V8 (bs.getD i 0))) (j : Nat) (hj : j ≤ L) (hlc : L ≤ cap) (hcm : cap ≤ 9223372036854775807) (off' : Nat) (ho : off' = off + j ∨ j = cap) :
    Inp G (w.setCell ⟨B, 0, none⟩ (.slice (some ⟨g, off', none⟩) (L - j) (cap - j))) B (.slice (some ⟨g, off', none⟩) (L - j) (cap - j)) (bs.drop j) := by
  have hd : (bs.drop j).length = L - j := by rw [List.length_drop, hL]
  refine ⟨h.box.set _, ⟨_, cap - j, by rw [hd], by omega, by omega, ?_⟩, fun x hx => h.byte x (List.mem_of_mem_drop hx)⟩
  refine ⟨g, off', rfl, hgB, fun i hi => ?_⟩
  have ho' : off' = off + j := by omega
  subst ho'
  rw [World.cell?_setCell_far _ _ _ _ (by show B ≠ g; omega), Nat.add_assoc, hc (j + i) (by omega)]
  simp
theorem split_at (bs : List Nat) (k : Nat) (hk : k < bs.length) : bs = bs.take k ++ bs.getD k 0 :: bs.drop (k + 1) := by
  rw [List.getD_eq_getElem?_getD, List.getElem?_eq_getElem hk, Option.getD_some, List.getElem_cons_drop, List.take_append_drop]
/- what number answers -/
def NumPost (G : Nat) (B : Nat) (bs : List Nat) (w : World) (e : Ending) (w' : World) : Prop :=
  (∃ n rest v', Fi.Num bs n rest ∧ e = .returned (.tuple #[.int .i64 (n : Nat), .bool true]) ∧ w' = w.setCell ⟨B, 0, none⟩ v' ∧ Inp G w' B v' rest) ∨
  ((∀ n rest, ¬ Fi.Num bs n rest) ∧ ∃ z, e = .returned (.tuple #[.int .i64 z, .bool false]) ∧ (w' = w ∨ ∃ v', w' = w.setCell ⟨B, 0, none⟩ v'))
set_option maxHeartbeats 1000000 in
set_option maxRecDepth 20000 in
theorem rnum_any (B : Nat) (v : Value) (bs : List Nat) (w : World) (hI : Inp G w B v bs) :
    Calls Tryd.prog 92 #[.pointer (some ⟨B, 0, none⟩)] w (NumPost G B bs w) := by
  have HI : Hid (Inp G w B v bs) := hI
  obtain ⟨a, cap, rfl, hlc, hcm, hat⟩ := hI.val
  have hcell := hI.box.cell
  have hfr := hI.box.frozen
  have HA : Hid (At G w B a bs) := hat
  have HBY : Hid (∀ x ∈ bs, x < 256) := hI.byte
  clear hat hI
  obtain ⟨L, hL⟩ : ∃ L, L = bs.length := ⟨_, rfl⟩
  obtain ⟨m, hm⟩ : ∃ m, m = min L 9 := ⟨_, rfl⟩
  have HM : Is m (min L 9) := ⟨hm⟩
  have HL : Is L bs.length := ⟨hL⟩
  rw [← hL] at hcell hlc
  have hmin : (if (9 : Int) < (L : Int) then (9 : Int) else (L : Int)) = (m : Int) := by split <;> omega
  have hmin2 : (if 9 < L then (9 : Int) else (L : Int)) = (m : Int) := by split <;> omega
  have hmL : m ≤ L := by omega
  have hm9 : m ≤ 9 := by omega
  clear hm hL
  go_enter Tryd.func92, Tryd.ntmps92
  go_wp2_with fail
  go_loopw [4, 13] (fun s4 s13 wr => ∃ k : Nat, k ≤ m ∧ s13 = .int .i64 k ∧ s4 = .int .i64 (Fi.val (bs.take k) : Nat) ∧ (∀ x ∈ bs.take k, 128 ≤ x) ∧ wr = w) (fun _ s13 _ => m - (intOf s13).toNat)
  case atStart => exact ⟨0, by omega, rfl, rfl, by simp, rfl⟩
  case round =>
    obtain ⟨k, hk, rfl, rfl, hge, rfl⟩ := hrel
    have HG : Hid (∀ x ∈ bs.take k, 128 ≤ x) := hge
    clear hge
    by_cases hlt : k < m
    · obtain ⟨g, off, rfl, hgB, hc⟩ : ∃ g off, a = some ⟨g, off, none⟩ ∧ (g < B ∧ g = G) ∧ ∀ i, i < bs.length → wr.cell? ⟨g, off + i, none⟩ = some (V8 (bs.getD i 0)) := HA.out
      obtain ⟨hgB, rfl⟩ := hgB
      have ck := hc k (by rw [← HL.eq]; omega)
      have HVS := val_take_succ bs k (by rw [← HL.eq]; omega)
      have hvl := Fi.val_lt (bs.take k)
      have HLT : Is (bs.take k).length k := ⟨by rw [List.length_take, ← HL.eq]; omega⟩
      rw [HLT.eq] at hvl
      have hb8 : bs.getD k 0 < 256 := HBY.out _ (by rw [List.getD_eq_getElem?_getD, List.getElem?_eq_getElem (by rw [← HL.eq]; omega)]; exact List.getElem_mem _)
      obtain ⟨b, hb⟩ : ∃ b, b = bs.getD k 0 := ⟨_, rfl⟩
      have HBK : Is (bs.getD k 0) b := ⟨hb.symm⟩
      rw [← hb] at ck HVS hb8
      unfold V8 at ck
      have HC : Hid (∀ i, i < bs.length → wr.cell? ⟨g, off + i, none⟩ = some (V8 (bs.getD i 0))) := hc
      clear hb hc
      obtain ⟨n, hn⟩ : ∃ n, n = Fi.val (bs.take k) := ⟨_, rfl⟩
      have HN : Is (Fi.val (bs.take k)) n := ⟨hn.symm⟩
      rw [← hn] at HVS hvl
      rw [← hn]
      clear hn
      have HV1 : Is (Fi.val (bs.take (k + 1))) (n + 128 ^ k * (b % 128)) := ⟨HVS⟩
      clear HVS
      have i0 : (k : Int) < (m : Int) := by omega
      have i1 : (k : Int) < (L : Int) := by omega
      have j0 : (0 : Int) ≤ (k : Int) := Int.natCast_nonneg _
      obtain ⟨r, hr⟩ : ∃ r, r = b % 128 := ⟨_, rfl⟩
      have er1 : (b : Int) % 128 = (r : Int) := by omega
      have er2 : (b : Int).tmod 128 = (r : Int) := by rw [Int.tmod_eq_emod_of_nonneg (by omega)]; omega
      have hr128 : r < 128 := by omega
      rw [← hr] at HV1
      have HR : Is r (b % 128) := ⟨hr⟩
      have HVL : Hid (n < 128 ^ k) := hvl
      clear hr hvl
      have hk8 : k ≤ 8 := by omega
      obtain ⟨q, n1, hsh, hadd, hn63, hn1⟩ := shl_fact k r n hk8 hr128 HVL.out
      rw [hn1] at HV1
      clear hn1
      by_cases hb128 : b < 128
      · have i2 : (b : Int) < 128 := by omega
        have HSP : Is bs (bs.take k ++ b :: bs.drop (k + 1)) := ⟨by have := split_at bs k (by rw [← HL.eq]; omega); rwa [HBK.eq] at this⟩
        have HTK : Is (bs.take (k + 1)) (bs.take k ++ [b]) := ⟨by rw [List.take_succ_eq_append_getElem (by rw [← HL.eq]; omega)]; congr 1; have := HBK.eq; rw [List.getD_eq_getElem?_getD, List.getElem?_eq_getElem (by rw [← HL.eq]; omega)] at this; rw [← this]; rfl⟩
        have HP : Hid (∀ x ∈ bs.take k, 128 ≤ x ∧ x < 256) := fun x hx => ⟨HG.out x hx, HBY.out x (List.mem_of_mem_take hx)⟩
        rw [HTK.eq] at HV1
        have HADV : Hid (∀ off', (off' = off + (k + 1) ∨ k + 1 = cap) → Inp g (wr.setCell ⟨B, 0, none⟩ (.slice (some ⟨g, off', none⟩) (L - (k + 1)) (cap - (k + 1)))) B (.slice (some ⟨g, off', none⟩) (L - (k + 1)) (cap - (k + 1))) (bs.drop (k + 1))) := fun off' ho => Inp.adv (by have := HI.out; rwa [← HL.eq] at this) HL.eq.symm ⟨hgB, rfl⟩ HC.out (k + 1) (by omega) hlc hcm off' ho
        have i3 : (k : Int) + 1 ≤ (L : Int) := by omega
        have i4 : (k : Int) + 1 ≤ (cap : Int) := by omega
        clear HI HA HBY
        by_cases hb0 : b = 0
        · subst hb0
          by_cases hk0 : k = 0
          · subst hk0
            obtain rfl : n = 0 := by rw [← HN.eq]; rfl
            obtain rfl : n1 = 0 := by rw [← HV1.eq]; rfl
            have HNM : Hid (Fi.Num bs 0 (bs.drop (0 + 1))) := by
              have h := Fi.num_yes (r := bs.drop (0 + 1)) HP.out hb128 (.inl rfl) (by simp [Fi.val])
              rw [HV1.eq, ← HSP.eq] at h
              exact h
            have ck' : wr.cell? ⟨g, off, none⟩ = some (.int .u8 0) := ck
            clear hadd hsh
            by_cases hcap : cap = 1
            · subst hcap
              have hL1 : L = 1 := by omega
              go_wp2_with fail
              go_ret2
              exact .inl ⟨0, _, _, HNM.out, rfl, rfl, by have h := HADV.out off (.inr trivial); rw [hL1] at h; exact h⟩
            · have hcap' : ¬ (1 : Int) = (cap : Int) := by omega
              go_wp2_with fail
              go_ret2
              exact .inl ⟨0, _, _, HNM.out, rfl, rfl, HADV.out _ (.inl rfl)⟩
          · have i6 : decide ((0 : Int) < (k : Int)) = true := by simp; omega
            have HX : Hid (∀ n t, ¬ Fi.Num bs n t) := by
              have h := Fi.num_needless (p := bs.take k) (r := bs.drop (k + 1)) (fun x hx => (HP.out x hx).1) (fun e => by have := congrArg List.length e; rw [HLT.eq] at this; exact hk0 this)
              rw [← HSP.eq] at h
              exact h
            by_cases hcap : k + 1 = cap
            · have hcap' : (k : Int) + 1 = (cap : Int) := by omega
              go_wp2_with fail
              go_ret2
              exact .inr ⟨HX.out, _, rfl, .inr ⟨_, rfl⟩⟩
            · have hcap' : ¬ (k : Int) + 1 = (cap : Int) := by omega
              go_wp2_with fail
              go_ret2
              exact .inr ⟨HX.out, _, rfl, .inr ⟨_, rfl⟩⟩
        · have e0 : ((b : Int) == 0) = false := by simp; omega
          have e1 : ¬ (b : Int) = 0 := by omega
          by_cases hmx : n1 ≤ 4611686018427387904
          · have i5 : decide ((n1 : Int) ≤ 4611686018427387904) = true := by simp; omega
            have HNM : Hid (Fi.Num bs n1 (bs.drop (k + 1))) := by
              have h := Fi.num_yes (r := bs.drop (k + 1)) HP.out hb128 (.inr hb0) (by rw [HV1.eq]; exact hmx)
              rw [HV1.eq, ← HSP.eq] at h
              exact h
            by_cases hcap : k + 1 = cap
            · have hcap' : (k : Int) + 1 = (cap : Int) := by omega
              go_wp2_with fail
              go_ret2
              exact .inl ⟨n1, _, _, HNM.out, by show Ending.returned (.tuple #[.int .i64 (wrap64 (↑n + ↑q)), .bool true]) = _; rw [hadd], rfl, by have h := HADV.out off (.inr hcap); rw [show L - (k + 1) = 0 by omega, show cap - (k + 1) = 0 by omega] at h; exact h⟩
            · have hcap' : ¬ (k : Int) + 1 = (cap : Int) := by omega
              go_wp2_with fail
              go_ret2
              exact .inl ⟨n1, _, _, HNM.out, by show Ending.returned (.tuple #[.int .i64 (wrap64 (↑n + ↑q)), .bool true]) = _; rw [hadd], rfl, HADV.out _ (.inl rfl)⟩
          · have i5 : decide ((n1 : Int) ≤ 4611686018427387904) = false := by simp; omega
            have HX : Hid (∀ n t, ¬ Fi.Num bs n t) := by
              have h := Fi.num_big (r := bs.drop (k + 1)) HP.out hb128 (.inr hb0) (by rw [HV1.eq]; exact hmx)
              rw [← HSP.eq] at h
              exact h
            by_cases hcap : k + 1 = cap
            · have hcap' : (k : Int) + 1 = (cap : Int) := by omega
              go_wp2_with fail
              go_ret2
              exact .inr ⟨HX.out, _, rfl, .inr ⟨_, rfl⟩⟩
            · have hcap' : ¬ (k : Int) + 1 = (cap : Int) := by omega
              go_wp2_with fail
              go_ret2
              exact .inr ⟨HX.out, _, rfl, .inr ⟨_, rfl⟩⟩
      · have i2 : ¬ (b : Int) < 128 := by omega
        have HG1 : Hid (∀ x ∈ bs.take (k + 1), 128 ≤ x) := fun x hx => by
          rw [List.take_succ_eq_append_getElem (by rw [← HL.eq]; omega)] at hx
          rcases List.mem_append.1 hx with hx | hx
          · exact HG.out x hx
          · have := HBK.eq
            rw [List.getD_eq_getElem?_getD, List.getElem?_eq_getElem (by rw [← HL.eq]; omega), Option.getD_some] at this
            have := List.mem_singleton.1 hx
            omega
        go_wp2_with fail
        go_roundw
        case rel => exact ⟨k + 1, by omega, by go_num, by rw [HV1.eq, hadd], HG1.out, trivial⟩
        case measure => (simp [intOf]) <;> omega
    · have i0 : ¬ (k : Int) < (m : Int) := by omega
      have hkm : k = m := by omega
      have HX : Hid (∀ n t, ¬ Fi.Num bs n t) := Fi.num_none k (by rw [hkm, HM.eq, HL.eq]) HG.out
      clear hkm
      go_wp2_with fail
      go_ret2
      exact .inr ⟨HX.out, _, rfl, .inl rfl⟩
end Go.Proofs.YtealbeblkilibaaDoor.FI
/- Proved: numField reads a number as a field. -/
namespace Go.Proofs.YtealbeblkilibaaDoor.FI
open Go.RowKit
variable {G : Nat}
theorem Inp.lt {w : World} {B : Nat} {v : Value} {bs : List Nat} (h : Inp G w B v bs) : B < w.heap.size := h.box.lt
theorem Inp.below {w w' : World} {B : Nat} {v : Value} {bs : List Nat} (h : Inp G w B v bs) (hb : Below (B + 1) w w') : Inp G w' B v bs := by
  refine ⟨(hb.block B (by omega)).trans h.box, ?_, h.byte⟩
  obtain ⟨a, cap, h1, h2, h3, h4⟩ := h.val
  refine ⟨a, cap, h1, h2, h3, ?_⟩
  obtain ⟨g, off, e, hg, hc⟩ := h4
  exact ⟨g, off, e, hg, fun i hi => (hb.cell (p := ⟨g, off + i, none⟩) (by show g < B + 1; omega)).trans (hc i hi)⟩
theorem FieldAt.range {w : World} {b off : Nat} {f : Fv} (h : FieldAt w b off f) : w.rangeAt b off (fcells f) := fun j v hj => by
  match j, hj with
  | 0, hj => cases hj; exact h.tag
  | 1, hj => cases hj; exact h.kind
  | 2, hj => cases hj; exact h.n
  | 3, hj => cases hj; exact h.s
theorem size38 : (Tryd.prog.info? 79).map (·.size) = some 4 := by kernel_rfl
theorem results38 {fn : Func} {p u : Tmp} (h : fn.results = #[.cell p 79, .tmp u]) (tmps : Array Value) (w : World) (g : Nat) (f : Fv) (v : Value)
    (hp : tmps.getD p undef = .pointer (some ⟨g, 0, none⟩)) (hv : tmps.getD u undef = v) (hF : FieldAt w g 0 f) : (results fn tmps).run Tryd.prog w = .ok (.tuple #[fv f, v]) w := by
  rw [results_cell_tmp h, hp, hv]
  simp only [asAddr, Sem.run_pure, Result.andThen_ok]
  rw [run_loadVar_mid w g 0 79 (fcells f) _ hF.range Tryd.underlying79 rfl size38]
  rfl
theorem Inp.realloc {W : World} {z o : Obj} {B : Nat} {v : Value} {bs : List Nat} (h : Inp G (W.alloc z) B v bs) (hB : B < W.heap.size) : Inp G (W.alloc o) B v bs :=
  h.below ⟨rfl, rfl, rfl, by simp, fun k hk => by rw [Below.heap_alloc _ _ _ (by omega), Below.heap_alloc _ _ _ (by omega)]⟩
theorem grown_set_alloc (w : World) (B : Nat) (v : Value) (o : Obj) : w.grownBy ((w.setCell ⟨B, 0, none⟩ v).alloc o) (some B) :=
  ⟨rfl, rfl, rfl, by simp [World.setCell], fun k hk hne => by
    rw [Below.heap_alloc _ _ _ (by simpa [World.setCell] using hk)]
    exact Below.heap_setCell _ _ _ _ (fun e => hne (by rw [e]))⟩
theorem size_set (w : World) (a : Addr) (v : Value) : (w.setCell a v).heap.size = w.heap.size := by simp [World.setCell]
theorem box_at' (w : World) (f : Fv) (N : Nat) (h : w.heap.size = N) : FieldAt (boxed w f) N 0 f := by subst h; exact box_at w f
/- what numField, textField and field answer -/
def FieldPost (G : Nat) (R : Fv → List Nat → Prop) (B : Nat) (w : World) (e : Ending) (w' : World) : Prop :=
  (∃ f rest v', R f rest ∧ e = .returned (.tuple #[fv f, .bool true]) ∧ w.grownBy w' (some B) ∧ Inp G w' B v' rest) ∨
  ((∀ f rest, ¬ R f rest) ∧ ∃ f, e = .returned (.tuple #[fv f, .bool false]) ∧ w.grownBy w' (some B))
def NumR (bs : List Nat) (f : Fv) (rest : List Nat) : Prop := ∃ n : Nat, f = ⟨0, 0, n, ByteArray.empty⟩ ∧ Fi.Num bs n rest
set_option maxHeartbeats 1000000 in
set_option maxRecDepth 20000 in
theorem numf_any (B : Nat) (v : Value) (bs : List Nat) (w : World) (hI : Inp G w B v bs) :
    Calls Tryd.prog 84 #[.pointer (some ⟨B, 0, none⟩)] w (FieldPost G (NumR bs) B w) := by
  have HI : Hid (Inp G w B v bs) := hI
  have hB := hI.lt
  clear hI
  have hne : ¬ w.heap.size = B := by omega
  go_enter Tryd.func84, Tryd.ntmps84
  go_wp2_with fail
  refine (rnum_any B v bs _ (HI.out.below (((Below.refl _ w).alloc (Nat.le_refl _) _).mono (by omega)))).mono ?_
  rintro e w1 (⟨n, rest, v', hN, rfl, rfl, hI'⟩ | ⟨hX, z, rfl, (rfl | ⟨v', rfl⟩)⟩)
  · rw [World.setCell_alloc_past _ _ _ _ hB] at hI'
    have HI' : Hid (Inp G _ B v' rest) := hI'
    clear hI'
    go_wp2_with fail
    refine bodyPost_ret (results38 rfl _ _ w.heap.size ⟨0, 0, n, ByteArray.empty⟩ _ rfl rfl (box_at' _ ⟨0, 0, n, ByteArray.empty⟩ _ (size_set _ _ _))) rfl ?_
    exact .inl ⟨_, rest, v', ⟨n, rfl, hN⟩, rfl, grown_set_alloc _ _ _ _, HI'.out.realloc (by rw [size_set]; exact hB)⟩
  · go_wp2_with fail
    refine bodyPost_ret (results38 rfl _ _ w.heap.size ⟨0, 0, z, ByteArray.empty⟩ _ rfl rfl (box_at' _ ⟨0, 0, z, ByteArray.empty⟩ _ rfl)) rfl ?_
    exact .inr ⟨fun f rest ⟨n, _, h⟩ => hX n rest h, _, rfl, World.grownBy_alloc w _ _⟩
  · go_wp2_with fail
    refine bodyPost_ret (results38 rfl _ _ w.heap.size ⟨0, 0, z, ByteArray.empty⟩ _ rfl rfl (box_at' _ ⟨0, 0, z, ByteArray.empty⟩ _ (size_set _ _ _))) rfl ?_
    exact .inr ⟨fun f rest ⟨n, _, h⟩ => hX n rest h, _, rfl, grown_set_alloc _ _ _ _⟩
end Go.Proofs.YtealbeblkilibaaDoor.FI
/- Proved: textField reads a text's length, and the text, as a field. -/
namespace Go.Proofs.YtealbeblkilibaaDoor.FI
open Go.RowKit
variable {G : Nat}
def TextR (bs : List Nat) (f : Fv) (rest : List Nat) : Prop := ∃ (n : Nat) (r : List Nat), Fi.Num bs n r ∧ n ≤ 4096 ∧ n ≤ r.length ∧ rest = r.drop n ∧ f = ⟨0, 1, 0, tb (r.take n)⟩
/- 'string(b)' of bytes behind an address -/
theorem str_at {w : World} {g off : Nat} {bs : List Nat} (hc : ∀ i, i < bs.length → w.cell? ⟨g, off + i, none⟩ = some (V8 (bs.getD i 0))) (h8 : ∀ x ∈ bs, x < 256) (n cap : Nat) (hn : n ≤ bs.length) : (convert 97 9 (.slice (some ⟨g, off, none⟩) n cap)).run Tryd.prog w = .ok (.string (tb (bs.take n))) w := by
  have hl : ((bs.take n).map UInt8.ofNat).length = n := by simp; omega
  have e := run_convert_bytes_back (P := Tryd.prog) w 97 9 5 ⟨g, off, none⟩ cap ((bs.take n).map UInt8.ofNat) Tryd.underlying97 Tryd.underlying5 Tryd.underlying9 (fun j hj => by
    have hj' : j < n := by omega
    have hb := hc j (by omega)
    rw [Go.WideShapes.add_plain, hb, List.getElem_map, List.getElem_take, List.getD_eq_getElem?_getD, List.getElem?_eq_getElem (by omega), Option.getD_some]
    have h1 : bs[j] < 256 := h8 _ (List.getElem_mem _)
    rw [V8, UInt8.toNat_ofNat', Nat.mod_eq_of_lt h1])
  rw [hl] at e
  exact e
theorem Inp.alloc {w : World} {B : Nat} {v : Value} {bs : List Nat} (h : Inp G w B v bs) (o : Obj) : Inp G (w.alloc o) B v bs :=
  h.below (((Below.refl w.heap.size w).alloc (Nat.le_refl _) o).mono h.lt)
theorem grown_set_set (w : World) (B : Nat) (v u : Value) (o o' : Obj) : w.grownBy ((((w.setCell ⟨B, 0, none⟩ v).setCell ⟨B, 0, none⟩ u).alloc o).alloc o') (some B) :=
  ⟨rfl, rfl, rfl, by simp [World.setCell]; omega, fun k hk hne => by
    have hk' : k < ((w.setCell ⟨B, 0, none⟩ v).setCell ⟨B, 0, none⟩ u).heap.size := by rw [size_set, size_set]; exact hk
    rw [Below.heap_alloc _ _ _ (by rw [size_alloc1]; omega), Below.heap_alloc _ _ _ hk', Below.heap_setCell _ _ _ _ (fun e => hne (by rw [e]))]
    exact Below.heap_setCell _ _ _ _ (fun e => hne (by rw [e]))⟩
set_option maxHeartbeats 1000000 in
set_option maxRecDepth 20000 in
theorem textf_any (B : Nat) (v : Value) (bs : List Nat) (w : World) (hI : Inp G w B v bs) :
    Calls Tryd.prog 85 #[.pointer (some ⟨B, 0, none⟩)] w (FieldPost G (TextR bs) B w) := by
  have HI : Hid (Inp G w B v bs) := hI
  have hB := hI.lt
  have hcB := hI.box.cell
  have hfB := hI.box.frozen
  clear hI
  have hne : ¬ w.heap.size = B := by omega
  go_enter Tryd.func85, Tryd.ntmps85
  go_wp2_with fail
  refine (rnum_any B v bs _ (HI.out.below (((Below.refl _ w).alloc (Nat.le_refl _) _).mono (by omega)))).mono ?_
  rintro e w1 (⟨n, r, v', hN, rfl, rfl, hI'⟩ | ⟨hX, z, rfl, (rfl | ⟨v', rfl⟩)⟩)
  · rw [World.setCell_alloc_past _ _ _ _ hB] at hI'
    have HI' : Hid (Inp G _ B v' r) := hI'
    obtain ⟨a, cap, rfl, hlc, hcm, hat⟩ := hI'.val
    obtain ⟨g, off, rfl, ⟨hgB, rfl⟩, hc⟩ := hat
    have HC : Hid (∀ i, i < r.length → _) := hc
    have HN : Hid (Fi.Num bs n r) := hN
    have H8 : Hid (∀ x ∈ r, x < 256) := hI'.byte
    have hn62 := hN.2
    clear hI' hc hN
    obtain ⟨L, hL⟩ : ∃ L, L = r.length := ⟨_, rfl⟩
    have HL : Is L r.length := ⟨hL⟩
    rw [← hL] at hlc
    rw [← hL] at HI' HC ⊢
    clear hL
    obtain ⟨m, hm⟩ : ∃ m, m = min 4096 L := ⟨_, rfl⟩
    have hmin : (if (L : Int) < 4096 then (L : Int) else 4096) = (m : Int) := by split <;> omega
    have hmin2 : (if L < 4096 then (L : Int) else 4096) = (m : Int) := by split <;> omega
    have HM : Is m (min 4096 L) := ⟨hm⟩
    by_cases hbig : m < n
    · have i1 : decide ((m : Int) < (n : Int)) = true := by simp; omega
      have HX : Hid (∀ f rest, ¬ TextR bs f rest) := fun f rest ⟨n', r', hN', h1, h2, _⟩ => by
        have e := Fi.varint_inj n n' r r' (HN.out.1.symm.trans hN'.1)
        have e1 := e.1
        have e2 := congrArg List.length e.2
        have := HL.eq
        omega
      clear hm
      go_wp2_with fail
      refine bodyPost_ret (results38 rfl _ _ w.heap.size ⟨0, 0, 0, ByteArray.empty⟩ _ rfl rfl (box_at' _ ⟨0, 0, 0, ByteArray.empty⟩ _ (size_set _ _ _))) rfl ?_
      exact .inr ⟨HX.out, _, rfl, grown_set_alloc _ _ _ _⟩
    · have i1 : decide ((m : Int) < (n : Int)) = false := by simp; omega
      have hnL : n ≤ L := by omega
      have hn4 : n ≤ 4096 := by omega
      clear hm
      have HTR : Hid (TextR bs ⟨0, 1, 0, tb (r.take n)⟩ (r.drop n)) := ⟨n, r, HN.out, hn4, by rw [← HL.eq]; exact hnL, rfl, rfl⟩
      have HCV := str_at (fun i hi => HC.out i (by rw [HL.eq]; exact hi)) H8.out n cap (by rw [← HL.eq]; exact hnL)
      generalize tb (r.take n) = x at *
      have HADV : Hid (∀ off', (off' = off + n ∨ n = cap) → Inp g (((w.setCell ⟨B, 0, none⟩ (.slice (some ⟨g, off, none⟩) L cap)).setCell ⟨B, 0, none⟩ (.slice (some ⟨g, off', none⟩) (L - n) (cap - n))).alloc (.cells #[.int .i64 0, .int .i64 0, .int .i64 0, .string ByteArray.empty] 79)) B (.slice (some ⟨g, off', none⟩) (L - n) (cap - n)) (r.drop n)) := fun off' ho => by
        have h := Inp.adv HI'.out HL.eq.symm ⟨hgB, rfl⟩ (fun i hi => HC.out i (by rw [HL.eq]; exact hi)) n hnL hlc hcm off' ho
        rw [World.setCell_alloc_past _ _ _ _ (by rw [size_set]; exact hB)] at h
        exact h
      by_cases hcap : n = cap
      · subst hcap
        obtain rfl : L = n := by omega
        have HA2 := HADV.out off (.inr rfl)
        rw [Nat.sub_self] at HA2
        have HA3 : Hid (Inp g _ B _ (r.drop L)) := HA2
        clear HA2
        go_wp2_with fail
        refine bodyPost_ret (results38 rfl _ _ w.heap.size ⟨0, 1, 0, x⟩ _ rfl rfl ((box_at' _ ⟨0, 1, 0, x⟩ _ (by rw [size_set, size_set])).alloc _)) rfl ?_
        exact .inl ⟨_, _, _, HTR.out, rfl, grown_set_set _ _ _ _ _ _, (HA3.out.realloc (by rw [size_set, size_set]; exact hB)).alloc _⟩
      · have hcap' : ¬ (n : Int) = (cap : Int) := by omega
        go_wp2_with fail
        refine bodyPost_ret (results38 rfl _ _ w.heap.size ⟨0, 1, 0, x⟩ _ rfl rfl ((box_at' _ ⟨0, 1, 0, x⟩ _ (by rw [size_set, size_set])).alloc _)) rfl ?_
        exact .inl ⟨_, _, _, HTR.out, rfl, grown_set_set _ _ _ _ _ _, ((HADV.out _ (.inl rfl)).realloc (by rw [size_set, size_set]; exact hB)).alloc _⟩
  · go_wp2_with fail
    refine bodyPost_ret (results38 rfl _ _ w.heap.size ⟨0, 0, 0, ByteArray.empty⟩ _ rfl rfl (box_at' _ ⟨0, 0, 0, ByteArray.empty⟩ _ rfl)) rfl ?_
    exact .inr ⟨fun f rest ⟨n, r, h, _⟩ => hX n r h, _, rfl, World.grownBy_alloc w _ _⟩
  · go_wp2_with fail
    refine bodyPost_ret (results38 rfl _ _ w.heap.size ⟨0, 0, 0, ByteArray.empty⟩ _ rfl rfl (box_at' _ ⟨0, 0, 0, ByteArray.empty⟩ _ (size_set _ _ _))) rfl ?_
    exact .inr ⟨fun f rest ⟨n, r, h, _⟩ => hX n r h, _, rfl, grown_set_alloc _ _ _ _⟩
end Go.Proofs.YtealbeblkilibaaDoor.FI
/- Proved: isTag and mayBe answer whether a field may be. -/
namespace Go.Proofs.YtealbeblkilibaaDoor.FI
open Go.RowKit
/- may be, but for the length of its text -/
def May (f : Fv) : Prop := 1 ≤ f.tag ∧ f.tag ≤ 63 ∧ ((f.kind = 0 ∧ 0 ≤ f.n ∧ f.n ≤ 4611686018427387904 ∧ f.s = ByteArray.empty) ∨ (f.kind = 1 ∧ f.n = 0))
theorem nonempty_text {x : ByteArray} (h : x ≠ ByteArray.empty) : x.toList.isEmpty = false := by
  rw [ByteArray.toList_eq]
  cases e : x.data.toList with
  | nil => exact absurd ((bl_nil_iff x).1 (by unfold bl; rw [e]; rfl)) h
  | cons a l => rfl
theorem istag_yes (z : Int) (h1 : 1 ≤ z) (h2 : z ≤ 63) (w : World) : Calls Tryd.prog 83 #[.int .i64 z] w fun e w' => e = .returned (.bool true) ∧ w' = w := by
  have d1 : decide (1 ≤ z) = true := by simp; omega
  have d2 : decide (z ≤ 63) = true := by simp; omega
  go_enter Tryd.func83, Tryd.ntmps83
  go_wp2
  go_ret
  exact ⟨rfl, rfl⟩
theorem istag_no (z : Int) (h : ¬ (1 ≤ z ∧ z ≤ 63)) (w : World) : Calls Tryd.prog 83 #[.int .i64 z] w fun e w' => e = .returned (.bool false) ∧ w' = w := by
  by_cases h1 : 1 ≤ z
  · have d1 : decide (1 ≤ z) = true := by simp; omega
    have d2 : decide (z ≤ 63) = false := by simp; omega
    go_enter Tryd.func83, Tryd.ntmps83
    go_wp2
    go_ret
    exact ⟨rfl, rfl⟩
  · have d1 : decide (1 ≤ z) = false := by simp; omega
    go_enter Tryd.func83, Tryd.ntmps83
    go_wp2
    go_ret
    exact ⟨rfl, rfl⟩
theorem may_yes (f : Fv) (h : May f) (w : World) : Calls Tryd.prog 72 #[.agg #[.int .i64 f.tag, .int .i64 f.kind, .int .i64 f.n, .string f.s]] w fun e w' => e = .returned (.bool true) ∧ Below w.heap.size w w' := by
  obtain ⟨h1, h2, h3⟩ := h
  obtain ⟨ft, fk, fn, fx⟩ := f
  simp only at h1 h2 h3 ⊢
  rcases h3 with ⟨rfl, a, b, rfl⟩ | ⟨rfl, rfl⟩
  · have d1 : decide (0 ≤ fn) = true := by simp; omega
    have d2 : decide (fn ≤ 4611686018427387904) = true := by simp; omega
    go_enter Tryd.func72, Tryd.ntmps72
    go_wp2_with (first | (go_at_call 83; refine (istag_yes _ h1 h2 _).mono ?_; rintro e w1 ⟨rfl, rfl⟩))
    go_ret
    exact ⟨rfl, (Below.refl _ _).alloc (Nat.le_refl _) _⟩
  · go_enter Tryd.func72, Tryd.ntmps72
    go_wp2_with (first | (go_at_call 83; refine (istag_yes _ h1 h2 _).mono ?_; rintro e w1 ⟨rfl, rfl⟩))
    go_ret
    exact ⟨rfl, (Below.refl _ _).alloc (Nat.le_refl _) _⟩
theorem may_no (f : Fv) (h : ¬ May f) (w : World) : Calls Tryd.prog 72 #[.agg #[.int .i64 f.tag, .int .i64 f.kind, .int .i64 f.n, .string f.s]] w fun e w' => e = .returned (.bool false) ∧ Below w.heap.size w w' := by
  unfold May at h
  obtain ⟨ft, fk, fn, fx⟩ := f
  simp only at h ⊢
  by_cases h1 : 1 ≤ ft ∧ ft ≤ 63
  · obtain ⟨h1, h2⟩ := h1
    by_cases h0 : fk = 0
    · subst h0
      by_cases a : 0 ≤ fn
      · have d1 : decide (0 ≤ fn) = true := by simp; omega
        by_cases b : fn ≤ 4611686018427387904
        · have d2 : decide (fn ≤ 4611686018427387904) = true := by simp; omega
          have hs : fx ≠ ByteArray.empty := fun e => h ⟨h1, h2, .inl ⟨rfl, a, b, e⟩⟩
          have hs' : fx.toList.isEmpty = false := nonempty_text hs
          clear h
          go_enter Tryd.func72, Tryd.ntmps72
          go_wp2_with (first | (go_at_call 83; refine (istag_yes _ h1 h2 _).mono ?_; rintro e w1 ⟨rfl, rfl⟩))
          go_ret
          exact ⟨rfl, (Below.refl _ _).alloc (Nat.le_refl _) _⟩
        · have d2 : decide (fn ≤ 4611686018427387904) = false := by simp; omega
          clear h
          go_enter Tryd.func72, Tryd.ntmps72
          go_wp2_with (first | (go_at_call 83; refine (istag_yes _ h1 h2 _).mono ?_; rintro e w1 ⟨rfl, rfl⟩))
          go_ret
          exact ⟨rfl, (Below.refl _ _).alloc (Nat.le_refl _) _⟩
      · have d1 : decide (0 ≤ fn) = false := by simp; omega
        clear h
        go_enter Tryd.func72, Tryd.ntmps72
        go_wp2_with (first | (go_at_call 83; refine (istag_yes _ h1 h2 _).mono ?_; rintro e w1 ⟨rfl, rfl⟩))
        go_ret
        exact ⟨rfl, (Below.refl _ _).alloc (Nat.le_refl _) _⟩
    · by_cases h01 : fk = 1
      · subst h01
        have a : (fn == 0) = false := by simpa using fun e => h ⟨h1, h2, .inr ⟨rfl, e⟩⟩
        clear h
        go_enter Tryd.func72, Tryd.ntmps72
        go_wp2_with (first | (go_at_call 83; refine (istag_yes _ h1 h2 _).mono ?_; rintro e w1 ⟨rfl, rfl⟩))
        go_ret
        exact ⟨rfl, (Below.refl _ _).alloc (Nat.le_refl _) _⟩
      · clear h
        go_enter Tryd.func72, Tryd.ntmps72
        go_wp2_with (first | (go_at_call 83; refine (istag_yes _ h1 h2 _).mono ?_; rintro e w1 ⟨rfl, rfl⟩))
        go_ret
        exact ⟨rfl, (Below.refl _ _).alloc (Nat.le_refl _) _⟩
  · clear h
    go_enter Tryd.func72, Tryd.ntmps72
    go_wp2_with (first | (go_at_call 83; refine (istag_no _ h1 _).mono ?_; rintro e w1 ⟨rfl, rfl⟩))
    go_ret
    exact ⟨rfl, (Below.refl _ _).alloc (Nat.le_refl _) _⟩
end Go.Proofs.YtealbeblkilibaaDoor.FI
