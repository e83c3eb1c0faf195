/- Proved: what strings.Clone and slices.Clone of texts answer. -/
import Derived.Test.YtcfninpokngmlaaGreatDoorPStr
import Derived.Shelf.Pu.Clone
namespace Go.Proofs.YtcfninpokngmlaaGreatDoor
open Go.RowKit
def renC : Go.Shelf.Ren := ⟨fun | 25 => 89 | n => n, fun | 0 => 0 | 3 => 3 | 4 => 4 | 5 => 5 | 9 => 9 | 37 => 138 | 47 => 166 | n => n, fun | n => n⟩
theorem layC : Go.Proofs.LaysPu.n25 Tryz.prog renC := {
  mixed := by kernel_rfl
  f25 := Tryz.func89.trans (congrArg some (by kernel_rfl))
  t0 := Tryz.underlying0
  a0 := Tryz.isAgg0
  z0 := Tryz.sizeOf0
  v0 := Tryz.zeroValue0
  i0 := by kernel_rfl
  t3 := Tryz.underlying3
  a3 := Tryz.isAgg3
  z3 := Tryz.sizeOf3
  v3 := Tryz.zeroValue3
  i3 := by kernel_rfl
  t4 := Tryz.underlying4
  a4 := Tryz.isAgg4
  z4 := Tryz.sizeOf4
  v4 := Tryz.zeroValue4
  i4 := by kernel_rfl
  t5 := Tryz.underlying5
  a5 := Tryz.isAgg5
  z5 := Tryz.sizeOf5
  v5 := Tryz.zeroValue5
  i5 := by kernel_rfl
  t9 := Tryz.underlying9
  a9 := Tryz.isAgg9
  z9 := Tryz.sizeOf9
  v9 := Tryz.zeroValue9
  i9 := by kernel_rfl
  t37 := Tryz.underlying138
  a37 := Tryz.isAgg138
  z37 := Tryz.sizeOf138
  v37 := Tryz.zeroValue138
  i37 := by kernel_rfl
  t47 := Tryz.underlying166
  a47 := Tryz.isAgg166
  z47 := Tryz.sizeOf166
  v47 := Tryz.zeroValue166
  i47 := by kernel_rfl }
theorem clite_any (s : ByteArray) (w : World) (h : s.size ≤ 281474976710656) :
    Calls Tryz.prog 89 #[.string s] w fun e w' => e = .returned (.string s) ∧ Below w.heap.size w w' := AnyPu.stringslite_Clone layC s w h
set_option maxHeartbeats 400000 in
theorem sclone_any (s : ByteArray) (w : World) (h : s.size ≤ 281474976710656) :
    Calls Tryz.prog 65 #[.string s] w fun e w' => e = .returned (.string s) ∧ Below w.heap.size w w' := by
  have H := clite_any s w h
  go_enter Tryz.func65, Tryz.ntmps65
  go_wp2_with fail
  refine H.mono ?_
  rintro e w' ⟨rfl, hB⟩
  go_wp2
  go_ret
  exact ⟨rfl, hB⟩
theorem own_empty {W : World} {N g : Nat} (hNg : N ≤ g) (hg : W.heap[g]? = some (.cells #[] 9 (0, 0))) : OwnS W N (.slice (some ⟨g, 0, none⟩) 0 0) [] := ⟨rfl, .inr ⟨g, 0, #[], rfl, hNg, hg, Nat.le_refl _, Nat.zero_le _, rfl, rfl⟩⟩
set_option maxHeartbeats 2000000 in
set_option maxRecDepth 20000 in
theorem clone_any (v : Value) (rs : List ByteArray) (w : World) (h : OwnS w 0 v rs) (hl : rs.length ≤ 1000000) :
    Calls Tryz.prog 101 #[v] w fun e w' => ∃ u, e = .returned u ∧ OwnS w' w.heap.size u rs ∧ Below w.heap.size w w' := by
  have HO : Hid (OwnS w 0 v rs) := h
  have q27 : ∀ (w : World) (a : Option Addr) (n c n' c' : Nat), (binOp .eql 114 (.slice a n c) (.slice none n' c')).run Tryz.prog w = .ok (.bool a.isNone) w := fun w a n c n' c' => Lib.run_eql_slice_nil w _ _ a n c n' c' Tryz.underlying114
  rcases h.2 with ⟨hv, h0⟩ | ⟨g, cap, cur, hv, _⟩
  · obtain rfl : rs = [] := List.length_eq_zero_iff.1 h0
    subst hv
    clear h
    go_enter Tryz.func101, Tryz.ntmps101
    go_wp2
    go_ret
    exact ⟨_, rfl, World.ownsRow_nil _ _ _ _, Below.refl _ _⟩
  · subst hv
    clear h
    go_enter Tryz.func101, Tryz.ntmps101
    go_wp2_with (first | (refine app_many rfl (.tmp 5) (.tmp 6) rfl _ w.heap.size _ _ [] rs rfl (own_empty (Nat.le_refl _) (heap_alloc_new w _)) rfl (own_alloc HO.out _) (by simp; omega) (by simp) ?_; intro v3 w3 hO3 hG3 _; have HFN : Hid (OwnS w3 w.heap.size v3 rs ∧ Below w.heap.size w w3) := ⟨hO3, ((Below.refl _ _).alloc (Nat.le_refl _) _).trans (below_grown hG3 (own_empty (Nat.le_refl _) (heap_alloc_new w _)) (by simp))⟩; clear hO3 hG3))
    go_ret
    exact ⟨_, rfl, HFN.out⟩
end Go.Proofs.YtcfninpokngmlaaGreatDoor
