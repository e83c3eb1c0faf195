/- Proved: oneNought makes the row of a shift by one nought. Condition: the table holds its sixteen numbers. -/
import Derived.Test.YtojgjgldheenkaaDoorRow
namespace Go.Proofs.YtojgjgldheenkaaDoor
open Go.RowKit
theorem size48 : (Tryd.prog.info? 48).map (·.size) = some 32 := by kernel_rfl
/- block g is an array of 32 numbers of the call's own; of the first k of them it is known what they are -/
def Own32 (w : World) (g : Nat) (m : Nat → Nat) (k : Nat) : Prop :=
  ∃ cs : Array Value, w.heap[g]? = some (.cells cs 48 (0, 0)) ∧ cs.size = 32 ∧ (cs.all (·.oneCell') = true) ∧ ∀ j, j < k → cs[j]? = some (.int .u32 (m j : Nat))
theorem Tab.below {w w' : World} (hT : Tab w) (h0 : 0 < w.heap.size) (hb : Below w.heap.size w w') : Tab w' := fun i hi => (hb.cell (p := ⟨0, i, none⟩) h0).trans (hT i hi)
theorem hi48 {cs : Array Value} (h : cs.size = 32) : (Tryd.prog.info? 48).map (·.size) = some cs.size := by rw [size48, h]
theorem Own32.at {w : World} {g : Nat} {m : Nat → Nat} {k : Nat} (h : Own32 w g m k) (i : Nat) (hi : i < 32) : (∃ v, w.cell? ⟨g, i, none⟩ = some v) ∧ w.frozen? ⟨g, i, none⟩ = false := by
  obtain ⟨cs, hg, hsz, _, _⟩ := h
  refine ⟨⟨cs[i], ?_⟩, frozen_of_row w g i cs 48 hg⟩
  rw [cell_of_row w g i cs 48 (0, 0) hg, Array.getElem?_eq_getElem (by omega)]
theorem Own32.set {w : World} {g : Nat} {m : Nat → Nat} {k : Nat} (h : Own32 w g m k) (hk : k < 32) : Own32 (w.setCell ⟨g, k, none⟩ (.int .u32 (m k : Nat))) g m (k + 1) := by
  obtain ⟨cs, hg, hsz, h1, hat⟩ := h
  refine ⟨_, heap_setCell_same w g k cs 48 _ hg, by simpa using hsz, ?_, fun j hj => ?_⟩
  · rw [Array.all_eq_true] at h1 ⊢
    intro i hi
    simp only [Array.size_setIfInBounds] at hi
    rw [Array.getElem_setIfInBounds (by simpa using hi)]
    split
    · rfl
    · exact h1 i hi
  · rw [Array.getElem?_setIfInBounds]
    split
    · rename_i e; subst e; simp [hsz, hk]
    · exact hat j (by omega)
theorem Own32.other {w : World} {g : Nat} {m : Nat → Nat} {k : Nat} (h : Own32 w g m k) (a : Addr) (v : Value) (hne : g ≠ a.block) : Own32 (w.setCell a v) g m k := by
  obtain ⟨cs, hg, r⟩ := h
  exact ⟨cs, (heap_setCell_other w a g v hne).trans hg, r⟩
theorem Own32.new {w : World} {cs : Array Value} (m : Nat → Nat) (hsz : cs.size = 32) (h1 : cs.all (·.oneCell') = true) : Own32 (w.alloc (.cells cs 48)) w.heap.size m 0 := ⟨cs, heap_alloc_new w _, hsz, h1, fun j hj => by omega⟩
theorem Own32.alloc {w : World} {g : Nat} {m : Nat → Nat} {k : Nat} (h : Own32 w g m k) (hg' : g < w.heap.size) (o : Obj) : Own32 (w.alloc o) g m k := by
  obtain ⟨cs, hg, r⟩ := h
  exact ⟨cs, (Below.heap_alloc w o g hg').trans hg, r⟩
theorem shl1 (k : Nat) (h : k < 32) : 2 ^ k < 4294967296 := by
  exact Nat.pow_lt_pow_right (a := 2) (n := 32) (by omega) h
theorem start2 (w : World) (m m' : Nat → Nat) (c0 c1 : Array Value) (z0 : c0.size = 32) (a0 : c0.all (·.oneCell') = true) (z1 : c1.size = 32) (a1 : c1.all (·.oneCell') = true) :
    Own32 ((w.alloc (.cells c0 48)).alloc (.cells c1 48)) (w.heap.size + 1) m 0 ∧ Own32 ((w.alloc (.cells c0 48)).alloc (.cells c1 48)) w.heap.size m' 0 ∧
    ((w.alloc (.cells c0 48)).alloc (.cells c1 48)).heap.size = w.heap.size + 2 ∧ Below w.heap.size w ((w.alloc (.cells c0 48)).alloc (.cells c1 48)) := by
  have e : (w.alloc (.cells c0 48)).heap.size = w.heap.size + 1 := by simp
  have h := Own32.new (w := w.alloc (.cells c0 48)) (cs := c1) m z1 a1
  rw [e] at h
  exact ⟨h, (Own32.new (w := w) m' z0 a0).alloc (by simp) _, by simp, ((Below.refl _ _).alloc (Nat.le_refl _) _).alloc (by simp) _⟩
theorem below_setRow {B : Nat} {a w : World} (h : Below B a w) {g : Nat} (hg : B ≤ g) (cs : Array Value) : Below B a (w.setRow g cs) :=
  h.trans ⟨rfl, rfl, rfl, by simp, fun k hk => setRow_other w g k cs (by omega)⟩
set_option maxHeartbeats 400000 in
theorem one_any (w : World) (hT : Tab w) (h0 : 0 < w.heap.size) :
    Calls Tryd.prog 23 #[] w fun e w' => ∃ cs, e = .returned (.agg cs) ∧ Rows32 cs (fun i => Crc.tk (2 ^ i) 0) ∧ Below w.heap.size w w' := by
  go_enter Tryd.func23, Tryd.ntmps23
  go_wp2
  go_loopw [2, 3] (fun _ i wr => ∃ k : Nat, k ≤ 32 ∧ i = .int .i64 k ∧ Own32 wr (w.heap.size + 1) (fun i => Crc.tk (2 ^ i) 0) k ∧ Own32 wr w.heap.size (fun i => 0) 0 ∧ wr.heap.size = w.heap.size + 2 ∧ Below w.heap.size w wr) (fun _ i _ => 32 - (intOf i).toNat)
  case atStart =>
    exact ⟨0, by omega, rfl, start2 w _ _ _ _ (by kernel_rfl) (by kernel_rfl) (by kernel_rfl) (by kernel_rfl)⟩
  case round =>
    obtain ⟨k, hk, rfl, ho, hr, hz, hb⟩ := hrel
    by_cases hlt : k < 32
    · obtain ⟨⟨v, hc⟩, hf⟩ := ho.at k hlt
      have hT' := hT.below h0 hb
      have hz' : Hid (wr.heap.size = w.heap.size + 2) := hz
      clear hz
      obtain ⟨q, hq⟩ : ∃ q : Nat, q = 2 ^ k := ⟨_, rfl⟩
      have hql : q < 4294967296 := by rw [hq]; exact shl1 k hlt
      have hqi : (2 : Int) ^ k % 4294967296 = (q : Int) := by
        have : ((2 ^ k : Nat) : Int) = (2 : Int) ^ k := by simp
        rw [← this, ← hq]; omega
      have Hq : Hid (q = 2 ^ k) := hq
      clear hq
      have hcall := take_any q 0 wr hql (by omega) hT'
      have Hc : Hid (Calls Tryd.prog 19 #[.int .u32 (q : Int), .int .u8 0] wr fun e w' => e = .returned (.int .u32 (Crc.tk q 0 : Nat)) ∧ w' = wr) := hcall
      clear hcall
      go_wp2_with (go_at_call 19; refine Hc.out.mono ?_; rintro e w' ⟨rfl, rfl⟩)
      go_roundw
      case rel =>
        have hs := ho.set hlt
        rw [← Hq.out] at hs
        exact ⟨k + 1, by omega, by go_num, hs, hr.other _ _ (by simp), by simpa using hz'.out, hb.setCell (by simp) _⟩
      case measure => simp [intOf]; omega
    · have hk8 : k = 32 := by omega
      subst hk8
      obtain ⟨cs, hg, hsz, h1, hat⟩ := ho
      obtain ⟨cs0, hg0, hsz0, _, _⟩ := hr
      have hi : Hid ((Tryd.prog.info? 48).map (·.size) = some cs.size) := hi48 hsz
      have he : Hid (cs0.size = cs.size) := hsz0.trans hsz.symm
      have H1 : Hid (cs.all (·.oneCell') = true) := h1
      have HS : Hid (cs.size = 32) := hsz
      have HG0 : Hid (wr.heap[w.heap.size]? = some (.cells cs0 48 (0, 0))) := hg0
      have HG : Hid (wr.heap[w.heap.size + 1]? = some (.cells cs 48 (0, 0))) := hg
      clear hsz hsz0 h1 hg hg0
      go_wp2_with (first | (refine wpList_load_row rfl 48 _ rfl (w.heap.size + 1) rfl 48 cs (0, 0) _ HG.out Tryd.underlying48 rfl hi.out ?_) | (refine wpList_store_row rfl 48 _ _ rfl w.heap.size cs rfl rfl 48 cs0 HG0.out hi.out he.out H1.out ?_))
      refine bodyPost_ret (v := .agg cs) ?_ rfl ⟨cs, rfl, ⟨HS.out, fun i hi => hat i hi, ?_⟩, ?_⟩
      · exact results_cell_row Tryd.results23 _ _ w.heap.size 48 cs (0, 0) _ rfl (setRow_heap _ _ cs0 _ _ _ HG0.out) Tryd.underlying48 rfl hi.out
      · exact fun i hi => Crc.tk_lt (shl1 i hi) (by omega)
      · exact below_setRow hb (Nat.le_refl _) _
end Go.Proofs.YtojgjgldheenkaaDoor
