/- Proved: Below answers whether a path lies in a directory. -/
import Derived.Test.YtbcmgcallidneaaGreatDoorIter
namespace Go.Proofs.YtbcmgcallidneaaGreatDoor
open Go.RowKit Go.Shelf
attribute [local go_sem] Oper.semAt_some
theorem upsF_any (s : ByteArray) (w : World) : Calls Tryz.prog 90 #[.string s] w fun e w' => e = .returned (.func (.func 102) #[] #[.pointer (some ⟨w.heap.size, 0, none⟩)]) ∧ w' = w.alloc (.cells #[.string s] 9) := by
  have hmf : ∀ (fn : Fn) (first cap : Array Value) (w : World), (Instr.makeFunc fn first cap).run Tryz.prog w = .ok (.func fn first cap) w := fun _ _ _ _ => rfl
  go_enter Tryz.func90, Tryz.ntmps90
  go_wp2
  go_ret
  exact ⟨rfl, rfl⟩
theorem results_one_cell {fn : Func} {p : Tmp} {t1 : TypeId} (h : fn.results = #[.cell p t1]) (tmps : Array Value) (w : World) (b : Nat) (v : Value)
    (hp : tmps.getD p undef = .pointer (some ⟨b, 0, none⟩)) (l1 : (loadVar t1 ⟨b, 0, none⟩).run Tryz.prog w = .ok v w) : (results fn tmps).run Tryz.prog w = .ok v w := by
  have hp' : tmps[p]?.getD undef = .pointer (some ⟨b, 0, none⟩) := by simpa using hp
  simp [results, h, hp', asAddr, l1]
theorem load4 {w : World} {b : Nat} {v : Value} (hv : w.cell? ⟨b, 0, none⟩ = some v) : (loadVar 4 ⟨b, 0, none⟩).run Tryz.prog w = .ok v w := by
  simp [loadVar, isAgg, run_underlying Tryz.underlying4, hv, go_sem]
def belowI (w : World) (d : ByteArray) (xs : List Pm.T) (A : World) : Prop := bl d ∉ xs ∧ Boxed A w.heap.size 9 (.string d) ∧ Boxed A (w.heap.size + 1) 4 (.bool false) ∧ Below w.heap.size w A
def belowX (w : World) (d : ByteArray) (xs : List Pm.T) (A : World) : Prop := bl d ∈ xs ∧ Boxed A (w.heap.size + 1) 4 (.bool true) ∧ Below w.heap.size w A
theorem str_eq' (x : Pm.T) (d : ByteArray) : ((mk x).toList == d.toList) = decide (x = bl d) := by
  rw [ByteArray.toList_eq, ByteArray.toList_eq]
  show (x == bl d) = _
  by_cases h : x = bl d
  · rw [h]; simp
  · rw [decide_eq_false h]; simpa using h
set_option maxHeartbeats 2000000 in
set_option maxRecDepth 20000 in
theorem below_any (d s : ByteArray) (w : World) (hs : s.size < 4294967281) (hT : Tab w) :
    Calls Tryz.prog 58 #[.string d, .string s] w fun e w' => e = .returned (.bool (Pm.below (bl d) (bl s))) ∧ Below w.heap.size w w' := by
  refine (callsIn_wide (n := 10)).1 ?_
  obtain ⟨W2, hW2⟩ : ∃ W2, (w.alloc (.cells #[.string d] 9)).alloc (.cells #[.bool false] 4) = W2 := ⟨_, rfl⟩
  have FI := upsF_any s W2
  have HB2 : Hid (Below w.heap.size w W2) := by rw [← hW2]; exact ((Below.refl _ w).alloc (Nat.le_refl _) _).alloc (by simp) _
  have HZ2 : Is W2.heap.size (w.heap.size + 2) := ⟨by rw [← hW2]; simp⟩
  have H0 : Hid (Boxed W2 w.heap.size 9 (.string d)) := by rw [← hW2]; exact (Boxed.new w 9 _).alloc _
  have H1 : Hid (Boxed W2 (w.heap.size + 1) 4 (.bool false)) := by rw [← hW2]; have h := Boxed.new (w.alloc (.cells #[.string d] 9)) 4 (.bool false); rw [size_alloc1] at h; exact h
  have HT : Hid (Tab w) := hT
  clear hT
  refine callsIn_of_wp_marks Tryz.func58 rfl trivial ?_ rfl
  simp only [Tryz.ntmps58, List.size_toArray, List.length_cons, List.length_nil, Nat.reduceAdd, Nat.reduceSub, Array.replicate_succ, Array.replicate_zero, List.push_toArray, List.append_toArray, List.nil_append, List.cons_append]
  gi_wp2_with fail
  refine ⟨trivial, ?_⟩
  refine (callsIn_wide.2 FI).mono ?_
  clear FI hW2
  rintro e w1 ⟨rfl, rfl⟩
  gi_wp2_with fail
  have hz2 := HZ2.eq
  obtain ⟨W5, hW5⟩ : ∃ W5, W2.alloc (.cells #[.string s] 9) = W5 := ⟨_, rfl⟩
  rw [hW5]
  have hz5 : W5.heap.size = w.heap.size + 3 := by rw [← hW5, size_alloc1, hz2]
  have hb5 : Below W2.heap.size W2 W5 := by rw [← hW5]; exact (Below.refl _ W2).alloc (Nat.le_refl _) _
  have hbp : Boxed W5 W2.heap.size 9 (.string s) := by rw [← hW5]; exact Boxed.new W2 9 _
  have HBW : Hid (Below w.heap.size w W5) := HB2.out.trans (hb5.mono (by omega))
  have HT5 : Tab W5 := HT.out.below HBW.out
  have G0 : Hid (Boxed W5 w.heap.size 9 (.string d)) := (hb5.block _ (by omega)).trans H0.out
  have G1 : Hid (Boxed W5 (w.heap.size + 1) 4 (.bool false)) := (hb5.block _ (by omega)).trans H1.out
  clear hW5 hb5 H0 H1 HB2
  refine range_rule (gf := 102) (lb := #[.pointer (some ⟨W2.heap.size, 0, none⟩)]) rfl (enters_of Tryz.func102 (by kernel_rfl) rfl) (M := w.heap.size) (by omega)
    (ups_yields 9 W5 W2.heap.size s hbp hs HT5 w.heap.size w HT.out (Nat.le_refl _)) rfl
    (belowI w d) (belowX w d)
    ?_ ?_ ?_
    (fun x => { tmps := #[.string d, .string s, .pointer (some ⟨w.heap.size, 0, none⟩), undef, .pointer (some ⟨w.heap.size + 1, 0, none⟩), .string (mk x), .string s, .func (.func 102) #[] #[.pointer (some ⟨W2.heap.size, 0, none⟩)], .string (mk x), undef, undef, undef], defers := [] })
    ?assign ?body ?done ?stop
  · rintro xs A B ⟨hn, b0, b1, hb⟩ ht
    exact ⟨hn, ht.boxed b0, ht.boxed b1, ht.below hb (by omega) hb.size⟩
  · rintro xs A B ⟨hn, b1, hb⟩ ht
    exact ⟨hn, ht.boxed b1, ht.below hb (by omega) hb.size⟩
  · exact ⟨by simp, G0.out, G1.out, HBW.out⟩
  case assign =>
    intro l x A C hC
    clear hz2
    gi_wp2
    exact hC
  case body =>
    rintro l xs x A0 A ⟨hn, b0, b1, hb⟩ ht hP
    have b0 := ht.boxed b0
    have b1 := ht.boxed b1
    have hb := ht.below hb (by omega) hb.size
    have B0 : Hid (Boxed A w.heap.size 9 (.string d)) := b0
    have B1 : Hid (Boxed A (w.heap.size + 1) 4 (.bool false)) := b1
    have HB : Hid (Below w.heap.size w A) := hb
    have HN : Hid (bl d ∉ xs) := hn
    have x0 := b0.cell; have y0 := b0.frozen; have x1 := b1.cell; have y1 := b1.frozen
    have HE : Is ((mk x).toList == d.toList) (decide (x = bl d)) := ⟨str_eq' x d⟩
    clear b0 b1 hb ht hz2 HBW G0 G1 hbp HT5 hn hP
    by_cases hx : x = bl d
    · have e0 : ((mk x).toList == d.toList) = true := by rw [HE.eq, decide_eq_true hx]
      have HX : Is x (bl d) := ⟨hx⟩
      clear hx HE
      generalize mk x = X at *
      gi_wp2
      exact ⟨KeepsOthers.setCell _ _ _, by rw [HX.eq]; simp, B1.out.set _, HB.out.setCell (p := ⟨w.heap.size + 1, 0, none⟩) (by show w.heap.size ≤ w.heap.size + 1; omega) _⟩
    · have e0 : ((mk x).toList == d.toList) = false := by rw [HE.eq, decide_eq_false hx]
      have HX : Hid (bl d ∉ xs ++ [x]) := by
        show bl d ∉ xs ++ [x]
        simp only [List.mem_append, List.mem_singleton, not_or]
        exact ⟨HN.out, fun e => hx e.symm⟩
      clear hx HE
      generalize mk x = X at *
      gi_wp2
      exact ⟨KeepsOthers.refl _, Kept.refl _ _, HX.out, B0.out, B1.out, HB.out⟩
  case done =>
    rintro xs B hS ⟨hn, b0, b1, hb⟩ hlt hD
    have hS : xs = Pm.ups (bl s) := hS
    have HR : Is (Pm.below (bl d) (bl s)) false := ⟨by rw [Pm.below, ← hS]; simpa using hn⟩
    have HB1 : Hid (Boxed B (w.heap.size + 1) 4 (.bool false)) := b1
    have HB : Hid (Below w.heap.size w B) := hb
    have HD : Hid (B.heap[W5.heap.size]? = some (.deferred (some []))) := hD
    have x1 := b1.cell; have y1 := b1.frozen
    have HZ5 : Is W5.heap.size (w.heap.size + 3) := ⟨hz5⟩
    clear b0 b1 hb hS hD hz2 HBW G0 G1 hbp HT5 hz5 hn
    gi_wp2
    have hz5 := HZ5.eq
    refine ⟨by simp, .inl ⟨_, _, rfl, run_takeDeferred ((KeepsOthers.setCell _ _ _).same _ _ HD.out rfl), ?_⟩⟩
    refine ⟨_, results_one_cell rfl _ _ (w.heap.size + 1) (.bool false) rfl (load4 (Boxed.cell (t := 4) ((World.putObj_heap_other (by omega)).trans (HB1.out.set _)))), ?_⟩
    refine ⟨by rw [HR.eq], ?_⟩
    exact (HB.out.setCell (p := ⟨w.heap.size + 1, 0, none⟩) (by show w.heap.size ≤ w.heap.size + 1; omega) _).grown (grownBy_putObj' _ _ _) (by rw [size_set]; exact HB.out.size) (fun k e => by cases e; omega)
  case stop =>
    rintro xs B hS ⟨hn, b1, hb⟩ hlt hD
    have HR : Pm.below (bl d) (bl s) = true := by
      obtain ⟨pre, x, rfl, hP⟩ := hS
      rw [Pm.below, hP.1]
      simp only [List.mem_append, List.mem_singleton] at hn
      simp only [List.contains_eq_mem, decide_eq_true_eq, List.mem_append, List.mem_cons]
      rcases hn with h | h
      · exact .inl h
      · exact .inr (.inl h)
    gi_wp2
    refine ⟨by simp, .inl ⟨_, _, rfl, run_takeDeferred hD, ?_⟩⟩
    refine ⟨_, results_one_cell rfl _ _ (w.heap.size + 1) (.bool true) rfl (load4 (Boxed.cell (t := 4) ((World.putObj_heap_other (by omega)).trans b1))), ?_⟩
    exact ⟨by rw [HR], hb.grown (grownBy_putObj' _ _ _) hb.size (fun k e => by cases e; omega)⟩
end Go.Proofs.YtbcmgcallidneaaGreatDoor
