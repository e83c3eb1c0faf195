/- Proved: Texts answers all texts of a tag, in order. -/
import Derived.Test.YtpbobmhffdmmmaaNumT
import Derived.Test.YtpbobmhffdmmmaaDec
namespace Go.Proofs.Ytpbobmhffdmmmaa
open Go.RowKit Go.Shelf
attribute [local go_sem] Oper.semAt_some
theorem info9 : Try.prog.info? 9 = some Try.t9 := by kernel_rfl
def tcells (xs : List Fv) : List Value := xs.map (fun f => Value.string f.s)
theorem tcells_one (xs : List Fv) : ∀ u ∈ tcells xs, u.oneCell' = true := fun u hu => by
  obtain ⟨f, _, rfl⟩ := List.mem_map.1 hu
  rfl
def textsI (M : Nat) (w : World) (xs : List Fv) (A : World) : Prop := ∃ v, Boxed A w.heap.size 44 v ∧ A.ownsRow M 9 1 v xs.length (tcells xs) ∧ Below w.heap.size w A
theorem str_new (w : World) (s : ByteArray) : ∀ j u, [Value.string s][j]? = some u → (w.alloc (.cells #[.string s] 9)).cell? ((⟨w.heap.size, 0, none⟩ : Addr).add j) = some u := fun j u hj => by
  rw [Go.WideShapes.add_plain, cell_of_row _ _ (0 + j) _ 9 (0, 0) (heap_alloc_new w _), Nat.zero_add]
  show [Value.string s].toArray[j]? = some u
  rw [List.getElem?_toArray]; exact hj
theorem own_alloc1 {w : World} {N n : Nat} {v : Value} {vs : List Value} {e : TypeId} {k : Nat} (h : w.ownsRow N e k v n vs) (o : Obj) : (w.alloc o).ownsRow N e k v n vs := by
  obtain ⟨h0, h1⟩ := h
  refine ⟨h0, ?_⟩
  rcases h1 with h1 | ⟨g, cap', cur, hv, hN, hh, r⟩
  · exact .inl h1
  · exact .inr ⟨g, cap', cur, hv, hN, (Below.heap_alloc w o g (Array.getElem?_eq_some_iff.1 hh).1).trans hh, r⟩
set_option maxHeartbeats 2000000 in
set_option maxRecDepth 20000 in
theorem texts_any (a : Option Addr) (len cap : Nat) (tag : Int) (fs : List Fv) (w : World) (hF : FieldsL w a len fs) (hlen : len ≤ 40000) : Calls Try.prog 21 #[.slice a len cap, .int .i64 tag] w fun e w' => ∃ v, e = .returned v ∧ w'.ownsRow w.heap.size 9 1 v (fs.filter (hit tag 1)).length (tcells (fs.filter (hit tag 1))) ∧ Below w.heap.size w w' := by
  refine (callsIn_wide (n := 10)).1 ?_
  obtain ⟨W2, hW2⟩ : ∃ W2, w.alloc (.cells #[.slice none 0 0] 44) = W2 := ⟨_, rfl⟩
  have FI := fof_any a len cap tag 1 W2
  have HB2 : Hid (Below w.heap.size w W2) := by rw [← hW2]; exact (Below.refl _ w).alloc (Nat.le_refl _) _
  have HZ2 : Is W2.heap.size (w.heap.size + 1) := ⟨by rw [← hW2]; simp⟩
  have H0 : Hid (Boxed W2 w.heap.size 44 (.slice none 0 0)) := by rw [← hW2]; exact Boxed.new w 44 _
  have HF : Hid (FieldsL w a len fs) := hF
  clear hF
  refine callsIn_of_wp_marks Try.func21 rfl trivial ?_ rfl
  simp only [Try.ntmps21, List.size_toArray, List.length_cons, List.length_nil, Nat.reduceAdd, Nat.reduceSub, Array.replicate_succ, Array.replicate_zero, List.push_toArray, List.append_toArray, List.nil_append, List.cons_append]
  gi_wp2_with fail
  refine ⟨trivial, ?_⟩
  refine (callsIn_wide.2 FI).mono ?_
  clear FI hW2
  rintro e w1 ⟨rfl, rfl⟩
  gi_wp2_with fail
  have hz2 := HZ2.eq
  obtain ⟨W5, hW5⟩ : ∃ W5, ((W2.alloc (.cells #[.slice a len cap] 22)).alloc (.cells #[.int .i64 tag] 3)).alloc (.cells #[.int .i64 1] 3) = W5 := ⟨_, rfl⟩
  rw [hW5]
  have hz5 : W5.heap.size = w.heap.size + 4 := by rw [← hW5, size_alloc1, size_alloc1, size_alloc1, hz2]
  have hb5 : Below W2.heap.size W2 W5 := by rw [← hW5]; exact (((Below.refl _ W2).alloc (Nat.le_refl _) _).alloc (by simp) _).alloc (by simp; omega) _
  have hbl : Boxed W5 W2.heap.size 22 (.slice a len cap) := by rw [← hW5]; exact ((Boxed.new W2 22 _).alloc _).alloc _
  have hbt : Boxed W5 (W2.heap.size + 1) 3 (.int .i64 tag) := by rw [← hW5]; have h := (Boxed.new (W2.alloc (.cells #[.slice a len cap] 22)) 3 (.int .i64 tag)).alloc (.cells #[.int .i64 1] 3); rw [size_alloc1] at h; exact h
  have hbk : Boxed W5 (W2.heap.size + 1 + 1) 3 (.int .i64 1) := by rw [← hW5]; have h := Boxed.new ((W2.alloc (.cells #[.slice a len cap] 22)).alloc (.cells #[.int .i64 tag] 3)) 3 (.int .i64 1); rw [size_alloc1, size_alloc1] at h; exact h
  have HBW : Hid (Below w.heap.size w W5) := HB2.out.trans (hb5.mono (by omega))
  have HF5 : FieldsL W5 a len fs := HF.out.below HBW.out
  have G0 : Hid (Boxed W5 w.heap.size 44 (.slice none 0 0)) := (hb5.block _ (by omega)).trans H0.out
  have HFL : Is fs.length len := ⟨HF.out.1⟩
  clear hW5 hb5 H0 HB2
  refine range_rule (α := Fv) (gf := 35) (lb := #[.pointer (some ⟨W2.heap.size, 0, none⟩), .pointer (some ⟨W2.heap.size + 1, 0, none⟩), .pointer (some ⟨W2.heap.size + 1 + 1, 0, none⟩)]) rfl (enters_of Try.func35 (by kernel_rfl) rfl) (fld := id) (K := fun k => k < w.heap.size ∨ k = W2.heap.size + 1 ∨ k = W2.heap.size + 1 + 1) (by omega)
    (of_yields 9 W5 W2.heap.size (W2.heap.size + 1) (W2.heap.size + 1 + 1) a len cap fs tag 1 hbl hbt hbk HF5 (by omega) _ (.inr (.inl rfl)) (.inr (.inr rfl)) (fun b off e hl => .inl (HF.out.block e hl))) (fun _ => rfl)
    (textsI (W5.heap.size + 3) w) (fun _ _ => False)
    ?_ ?_ ?_
    (fun x b => { tmps := #[.slice a len cap, .int .i64 tag, undef, undef, .slice none 0 0, .pointer (some ⟨w.heap.size, 0, none⟩), .pointer (some ⟨b, 0, none⟩), .slice a len cap, .int .i64 tag, .func (.func 35) #[] #[.pointer (some ⟨W2.heap.size, 0, none⟩), .pointer (some ⟨W2.heap.size + 1, 0, none⟩), .pointer (some ⟨W2.heap.size + 1 + 1, 0, none⟩)], fv x, undef, undef, undef, undef, undef, undef], defers := [] })
    ?assign ?body ?done ?stop
  · rintro xs A B ⟨v, b0, ho, hb⟩ ht
    exact ⟨v, ht.boxed b0 (by omega), ht.owns ho, ht.below hb (by omega) hb.size⟩
  · rintro xs A B h ht
    exact h
  · exact ⟨.slice none 0 0, G0.out, ⟨rfl, .inl ⟨rfl, rfl⟩⟩, HBW.out⟩
  case assign =>
    intro l x A C hC
    clear hz2
    gi_wp2
    exact hC
  case body =>
    rintro l xs f A0 A ⟨v, b0, ho, hb⟩ ht hXb hAb hF1 ⟨k, hk, hfk, hhit, hxs⟩
    have hvb : ∀ g, v.ownBlock = some g → W5.heap.size + 3 ≤ g ∧ g < A0.heap.size := fun g hg => own_row ho hg
    have b0 := ht.boxed b0 (by omega)
    have ho := ht.owns ho
    have hb := ht.below hb (by omega) hb.size
    have hxl : xs.length + 1 ≤ 40000 := by
      have h1 : xs.length ≤ k := by rw [hxs]; exact Nat.le_trans (List.length_filter_le _ _) (by rw [List.length_take]; omega)
      have := HFL.eq
      omega
    clear hfk hhit
    have B0 : Hid (Boxed A w.heap.size 44 v) := b0
    have HO : Hid (A.ownsRow (W5.heap.size + 3) 9 1 v xs.length (tcells xs)) := ho
    have HB : Hid (Below w.heap.size w A) := hb
    have HVB : Hid (∀ g, v.ownBlock = some g → W5.heap.size + 3 ≤ g ∧ g < A0.heap.size) := hvb
    have x0 := b0.cell; have y0 := b0.frozen
    obtain ⟨c0, c1, c2, c3⟩ := hF1
    simp only [Nat.zero_add, id] at c0 c1 c2 c3
    have hNA : W5.heap.size + 3 ≤ A.heap.size := by omega
    have HZ5 : Is W5.heap.size (w.heap.size + 4) := ⟨hz5⟩
    have hv : (∃ ad n c, v = .slice ad n c) := by
      rcases ho.2 with ⟨h, _⟩ | ⟨g, cap', cur, h, _⟩
      · exact ⟨_, _, _, h⟩
      · exact ⟨_, _, _, h⟩
    obtain ⟨ad, nn, cc, rfl⟩ := hv
    clear b0 hb ho hvb ht hz2 HBW G0 hbl hbt hbk HF5 hxs hz5
    gi_wp2_with (first | (gi_at_builtin; refine wpListIn_append_own _ rfl (.tmp 11) (.tmp 14) 44 rfl (W5.heap.size + 3) 9 Try.t9 (.string ByteArray.empty) 1 16 Try.underlying44 info9 rfl rfl rfl rfl (by omega) _ xs.length (tcells xs) rfl (own_alloc1 HO.out _) ⟨A.heap.size, 0, none⟩ 1 1 [.string f.s] rfl rfl (str_new A f.s) (fun u hu => by rw [List.mem_singleton.1 hu]; rfl) (by unfold maxLen; omega) (by omega) (by simp; omega) ?_; intro v' w1 ho1 hg1 _; obtain ⟨g', cap', rfl⟩ := ownsRow_succ ho1; have HO1 := (show Hid (w1.ownsRow (W5.heap.size + 3) 9 1 _ (xs.length + 1) _) from ho1); have HG1 := (show Hid (World.grownBy _ w1 _) from hg1); have B0' := (B0.out.alloc (.cells #[.string f.s] 9)).kept hg1 (fun e => by have := (HVB.out _ e.symm).1; have := HZ5.eq; omega); have x0' := B0'.cell; have y0' := B0'.frozen; clear ho1 hg1))
    have hz5 := HZ5.eq
    have hz2 := HZ2.eq
    have hsA := HB.out.size
    refine ⟨((KeepsOthers.alloc A _).trans (KeepsOthers.of_grownBy HG1.out (own_cells (own_alloc1 HO.out _)))).trans (KeepsOthers.setCell _ _ _), ?_, _, B0'.set _, ?_, ?_⟩
    · refine ((Kept.alloc _ A _).trans (Kept.grown _ HG1.out (fun k hk => ?_))).trans (Kept.setCell _ _ _ _ ?_)
      · have := HVB.out k hk
        omega
      · show ¬ (w.heap.size < w.heap.size ∨ w.heap.size = W2.heap.size + 1 ∨ w.heap.size = W2.heap.size + 1 + 1)
        omega
    · have h := ownsRow_setCell_below HO1.out (a := ⟨w.heap.size, 0, none⟩) (by show w.heap.size < _; omega) (.slice (some ⟨g', 0, none⟩) (xs.length + 1) cap')
      rw [List.length_append, tcells, List.map_append]
      exact h
    · refine (HB.out.trans ((((Below.refl _ A).alloc (Nat.le_refl _) _).mono hsA).trans ((Below.refl _ _).grown HG1.out (by simp; omega) (fun k hk => ?_)))).setCell (p := ⟨w.heap.size, 0, none⟩) (Nat.le_refl _) _
      have := HVB.out k hk
      omega
  case done =>
    rintro xs B hS ⟨v, b0, ho, hb⟩ hlt hD
    have hS : xs = fs.filter (hit tag 1) := hS
    have HS : Is xs (fs.filter (hit tag 1)) := ⟨hS⟩
    have HO : Hid (B.ownsRow (W5.heap.size + 3) 9 1 v xs.length (tcells xs)) := ho
    have HB : Hid (Below w.heap.size w B) := hb
    have HD : Hid (B.heap[W5.heap.size]? = some (.deferred (some []))) := hD
    have x0 := b0.cell
    have HZ5 : Is W5.heap.size (w.heap.size + 4) := ⟨hz5⟩
    have hv : (∃ ad n c, v = .slice ad n c) := by
      rcases ho.2 with ⟨h, _⟩ | ⟨g, cap', cur, h, _⟩
      · exact ⟨_, _, _, h⟩
      · exact ⟨_, _, _, h⟩
    obtain ⟨ad, n, c, rfl⟩ := hv
    clear b0 ho hb hS hD hz2 HBW G0 hbl hbt hbk HF5 hz5
    gi_wp2
    have hz5 := HZ5.eq
    refine ⟨by simp, .inl ⟨_, _, rfl, run_takeDeferred HD.out, ?_⟩⟩
    refine ⟨_, results_tmp rfl _ _ _, _, rfl, ?_, ?_⟩
    · rw [← HS.eq]
      exact ownsRow_putObj (owns_base HO.out (by omega)) _ HD.out rfl
    · exact HB.out.grown (grownBy_putObj' _ _ _) HB.out.size (fun k e => by cases e; omega)
  case stop =>
    rintro xs B hS hf hlt hD
    exact hf.elim
end Go.Proofs.Ytpbobmhffdmmmaa
