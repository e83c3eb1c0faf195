/- Proved: what strings.Clone and slices.Clone of texts answer. -/
import Derived.Test.YtkfgcbpiellimaaDoorPStr
import Derived.Shelf.Pu.Clone
namespace Go.Proofs.YtkfgcbpiellimaaDoor
open Go.RowKit
def renC : Go.Shelf.Ren := ⟨fun | 25 => 47 | n => n, fun | 0 => 0 | 3 => 3 | 4 => 4 | 5 => 5 | 9 => 9 | 37 => 71 | 47 => 85 | n => n, fun | n => n⟩
theorem layC : Go.Proofs.LaysPu.n25 Tryd.prog renC := {
  mixed := by kernel_rfl
  f25 := Tryd.func47.trans (congrArg some (by kernel_rfl))
  t0 := Tryd.underlying0
  a0 := Tryd.isAgg0
  z0 := Tryd.sizeOf0
  v0 := Tryd.zeroValue0
  i0 := by kernel_rfl
  t3 := Tryd.underlying3
  a3 := Tryd.isAgg3
  z3 := Tryd.sizeOf3
  v3 := Tryd.zeroValue3
  i3 := by kernel_rfl
  t4 := Tryd.underlying4
  a4 := Tryd.isAgg4
  z4 := Tryd.sizeOf4
  v4 := Tryd.zeroValue4
  i4 := by kernel_rfl
  t5 := Tryd.underlying5
  a5 := Tryd.isAgg5
  z5 := Tryd.sizeOf5
  v5 := Tryd.zeroValue5
  i5 := by kernel_rfl
  t9 := Tryd.underlying9
  a9 := Tryd.isAgg9
  z9 := Tryd.sizeOf9
  v9 := Tryd.zeroValue9
  i9 := by kernel_rfl
  t37 := Tryd.underlying71
  a37 := Tryd.isAgg71
  z37 := Tryd.sizeOf71
  v37 := Tryd.zeroValue71
  i37 := by kernel_rfl
  t47 := Tryd.underlying85
  a47 := Tryd.isAgg85
  z47 := Tryd.sizeOf85
  v47 := Tryd.zeroValue85
  i47 := by kernel_rfl }
theorem clite_any (s : ByteArray) (w : World) (h : s.size ≤ 281474976710656) :
    Calls Tryd.prog 47 #[.string s] w fun e w' => e = .returned (.string s) ∧ Below w.heap.size w w' := AnyPu.stringslite_Clone layC s w h
set_option maxHeartbeats 400000 in
theorem sclone_any (s : ByteArray) (w : World) (h : s.size ≤ 281474976710656) :
    Calls Tryd.prog 30 #[.string s] w fun e w' => e = .returned (.string s) ∧ Below w.heap.size w w' := by
  have H := clite_any s w h
  go_enter Tryd.func30, Tryd.ntmps30
  go_wp2_with fail
  refine H.mono ?_
  rintro e w' ⟨rfl, hB⟩
  go_wp2
  go_ret
  exact ⟨rfl, hB⟩
theorem own_empty {W : World} {N g : Nat} (hNg : N ≤ g) (hg : W.heap[g]? = some (.cells #[] 9 (0, 0))) : OwnS W N (.slice (some ⟨g, 0, none⟩) 0 0) [] := ⟨rfl, .inr ⟨g, 0, #[], rfl, hNg, hg, Nat.le_refl _, Nat.zero_le _, rfl, rfl⟩⟩
set_option maxHeartbeats 2000000 in
set_option maxRecDepth 20000 in
theorem clone_any (v : Value) (rs : List ByteArray) (w : World) (h : OwnS w 0 v rs) (hl : rs.length ≤ 1000000) :
    Calls Tryd.prog 34 #[v] w fun e w' => ∃ u, e = .returned u ∧ OwnS w' w.heap.size u rs ∧ Below w.heap.size w w' := by
  have HO : Hid (OwnS w 0 v rs) := h
  have q27 : ∀ (w : World) (a : Option Addr) (n c n' c' : Nat), (binOp .eql 27 (.slice a n c) (.slice none n' c')).run Tryd.prog w = .ok (.bool a.isNone) w := fun w a n c n' c' => Lib.run_eql_slice_nil w _ _ a n c n' c' Tryd.underlying27
  rcases h.2 with ⟨hv, h0⟩ | ⟨g, cap, cur, hv, _⟩
  · obtain rfl : rs = [] := List.length_eq_zero_iff.1 h0
    subst hv
    clear h
    go_enter Tryd.func34, Tryd.ntmps34
    go_wp2
    go_ret
    exact ⟨_, rfl, World.ownsRow_nil _ _ _ _, Below.refl _ _⟩
  · subst hv
    clear h
    go_enter Tryd.func34, Tryd.ntmps34
    go_wp2_with (first | (refine app_many rfl (.tmp 5) (.tmp 6) rfl _ w.heap.size _ _ [] rs rfl (own_empty (Nat.le_refl _) (heap_alloc_new w _)) rfl (own_alloc HO.out _) (by simp; omega) (by simp) ?_; intro v3 w3 hO3 hG3 _; have HFN : Hid (OwnS w3 w.heap.size v3 rs ∧ Below w.heap.size w w3) := ⟨hO3, ((Below.refl _ _).alloc (Nat.le_refl _) _).trans (below_grown hG3 (own_empty (Nat.le_refl _) (heap_alloc_new w _)) (by simp))⟩; clear hO3 hG3))
    go_ret
    exact ⟨_, rfl, HFN.out⟩
end Go.Proofs.YtkfgcbpiellimaaDoor
