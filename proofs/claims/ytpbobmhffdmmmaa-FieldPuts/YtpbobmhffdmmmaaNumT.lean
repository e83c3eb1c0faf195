/- Proved: Num and Text answer the first number, and the first text, of a tag. -/
import Derived.Test.YtpbobmhffdmmmaaIterO
namespace Go.Proofs.Ytpbobmhffdmmmaa
open Go.RowKit Go.Shelf
attribute [local go_sem] Oper.semAt_some
theorem fof_any (a : Option Addr) (len cap : Nat) (tag kind : Int) (w : World) : Calls Try.prog 29 #[.slice a len cap, .int .i64 tag, .int .i64 kind] w fun e w' => e = .returned (.func (.func 35) #[] #[.pointer (some ⟨w.heap.size, 0, none⟩), .pointer (some ⟨w.heap.size + 1, 0, none⟩), .pointer (some ⟨w.heap.size + 1 + 1, 0, none⟩)]) ∧ w' = ((w.alloc (.cells #[.slice a len cap] 22)).alloc (.cells #[.int .i64 tag] 3)).alloc (.cells #[.int .i64 kind] 3) := by
  have hmf : ∀ (fn : Fn) (first cap : Array Value) (w : World), (Instr.makeFunc fn first cap).run Try.prog w = .ok (.func fn first cap) w := fun _ _ _ _ => rfl
  go_enter Try.func29, Try.ntmps29
  go_wp2
  go_ret
  exact ⟨rfl, rfl⟩
theorem results_two_cells {fn : Func} {p u : Tmp} {t1 t2 : TypeId} (h : fn.results = #[.cell p t1, .cell u t2]) (tmps : Array Value) (w : World) (b c : Nat) (v x : Value)
    (hp : tmps.getD p undef = .pointer (some ⟨b, 0, none⟩)) (hu : tmps.getD u undef = .pointer (some ⟨c, 0, none⟩)) (l1 : (loadVar t1 ⟨b, 0, none⟩).run Try.prog w = .ok v w) (l2 : (loadVar t2 ⟨c, 0, none⟩).run Try.prog w = .ok x w) : (results fn tmps).run Try.prog w = .ok (.tuple #[v, x]) w := by
  have hp' : tmps[p]?.getD undef = .pointer (some ⟨b, 0, none⟩) := by simpa using hp
  have hu' : tmps[u]?.getD undef = .pointer (some ⟨c, 0, none⟩) := by simpa using hu
  simp [results, h, hp', hu', asAddr, l1, l2]
theorem load3 {w : World} {b : Nat} {v : Value} (hv : w.cell? ⟨b, 0, none⟩ = some v) : (loadVar 3 ⟨b, 0, none⟩).run Try.prog w = .ok v w := by
  simp [loadVar, isAgg, run_underlying Try.underlying3, hv, go_sem]
theorem load9 {w : World} {b : Nat} {v : Value} (hv : w.cell? ⟨b, 0, none⟩ = some v) : (loadVar 9 ⟨b, 0, none⟩).run Try.prog w = .ok v w := by
  simp [loadVar, isAgg, run_underlying Try.underlying9, hv, go_sem]
theorem load4 {w : World} {b : Nat} {v : Value} (hv : w.cell? ⟨b, 0, none⟩ = some v) : (loadVar 4 ⟨b, 0, none⟩).run Try.prog w = .ok v w := by
  simp [loadVar, isAgg, run_underlying Try.underlying4, hv, go_sem]
theorem first_hit {fs : List Fv} {tag kind : Int} {f : Fv} (h : StopO fs tag kind [f]) : (fs.filter (hit tag kind)).head? = some f := by
  obtain ⟨pre, x, e, k, hk, hx, hh, hp⟩ := h
  have hpn : pre = [] := by
    cases pre with
    | nil => rfl
    | cons a l => have := congrArg List.length e; simp at this
  subst hpn
  have hxf : f = x := by simpa using e
  subst hxf
  have e2 : fs.filter (hit tag kind) = (fs.take k).filter (hit tag kind) ++ (fs.drop k).filter (hit tag kind) := by rw [← List.filter_append, List.take_append_drop]
  rw [e2, ← hp, List.nil_append, drop_getD fs k hk, ← hx, List.filter_cons, if_pos hh]
  rfl

def numPost (fs : List Fv) (tag : Int) (w : World) (e : Ending) (w' : World) : Prop :=
  ((∃ f, (fs.filter (hit tag 0)).head? = some f ∧ e = .returned (.tuple #[.int .i64 f.n, .bool true])) ∨ ((fs.filter (hit tag 0)).head? = none ∧ e = .returned (.tuple #[.int .i64 0, .bool false]))) ∧ Below w.heap.size w w'
def numI (w : World) (xs : List Fv) (A : World) : Prop := xs = [] ∧ Boxed A w.heap.size 3 (.int .i64 0) ∧ Boxed A (w.heap.size + 1) 4 (.bool false) ∧ Below w.heap.size w A
def numX (w : World) (xs : List Fv) (A : World) : Prop := ∃ f, xs = [f] ∧ Boxed A w.heap.size 3 (.int .i64 f.n) ∧ Boxed A (w.heap.size + 1) 4 (.bool true) ∧ Below w.heap.size w A
set_option maxHeartbeats 2000000 in
set_option maxRecDepth 20000 in
theorem num_any (a : Option Addr) (len cap : Nat) (tag : Int) (fs : List Fv) (w : World) (hF : FieldsL w a len fs) (hlen : len ≤ 9223372036854775807) : Calls Try.prog 16 #[.slice a len cap, .int .i64 tag] w (numPost fs tag w) := by
  refine (callsIn_wide (n := 10)).1 ?_
  obtain ⟨W2, hW2⟩ : ∃ W2, (w.alloc (.cells #[.int .i64 0] 3)).alloc (.cells #[.bool false] 4) = W2 := ⟨_, rfl⟩
  have FI := fof_any a len cap tag 0 W2
  have HB2 : Hid (Below w.heap.size w W2) := by rw [← hW2]; exact ((Below.refl _ w).alloc (Nat.le_refl _) _).alloc (by simp) _
  have HZ2 : Is W2.heap.size (w.heap.size + 2) := ⟨by rw [← hW2]; simp⟩
  have H0 : Hid (Boxed W2 w.heap.size 3 (.int .i64 0)) := by rw [← hW2]; exact (Boxed.new w 3 _).alloc _
  have H1 : Hid (Boxed W2 (w.heap.size + 1) 4 (.bool false)) := by rw [← hW2]; have h := Boxed.new (w.alloc (.cells #[.int .i64 0] 3)) 4 (.bool false); rw [size_alloc1] at h; exact h
  have HF : Hid (FieldsL w a len fs) := hF
  clear hF
  refine callsIn_of_wp_marks Try.func16 rfl trivial ?_ rfl
  simp only [Try.ntmps16, List.size_toArray, List.length_cons, List.length_nil, Nat.reduceAdd, Nat.reduceSub, Array.replicate_succ, Array.replicate_zero, List.push_toArray, List.append_toArray, List.nil_append, List.cons_append]
  gi_wp2_with fail
  refine ⟨trivial, ?_⟩
  refine (callsIn_wide.2 FI).mono ?_
  clear FI hW2
  rintro e w1 ⟨rfl, rfl⟩
  gi_wp2_with fail
  have hz2 := HZ2.eq
  obtain ⟨W5, hW5⟩ : ∃ W5, ((W2.alloc (.cells #[.slice a len cap] 22)).alloc (.cells #[.int .i64 tag] 3)).alloc (.cells #[.int .i64 0] 3) = W5 := ⟨_, rfl⟩
  rw [hW5]
  have hz5 : W5.heap.size = w.heap.size + 5 := by rw [← hW5, size_alloc1, size_alloc1, size_alloc1, hz2]
  have hb5 : Below W2.heap.size W2 W5 := by rw [← hW5]; exact (((Below.refl _ W2).alloc (Nat.le_refl _) _).alloc (by simp) _).alloc (by simp; omega) _
  have hbl : Boxed W5 W2.heap.size 22 (.slice a len cap) := by rw [← hW5]; exact ((Boxed.new W2 22 _).alloc _).alloc _
  have hbt : Boxed W5 (W2.heap.size + 1) 3 (.int .i64 tag) := by rw [← hW5]; have h := (Boxed.new (W2.alloc (.cells #[.slice a len cap] 22)) 3 (.int .i64 tag)).alloc (.cells #[.int .i64 0] 3); rw [size_alloc1] at h; exact h
  have hbk : Boxed W5 (W2.heap.size + 1 + 1) 3 (.int .i64 0) := by rw [← hW5]; have h := Boxed.new ((W2.alloc (.cells #[.slice a len cap] 22)).alloc (.cells #[.int .i64 tag] 3)) 3 (.int .i64 0); rw [size_alloc1, size_alloc1] at h; exact h
  have HBW : Hid (Below w.heap.size w W5) := HB2.out.trans (hb5.mono (by omega))
  have HF5 : FieldsL W5 a len fs := HF.out.below HBW.out
  have G0 : Hid (Boxed W5 w.heap.size 3 (.int .i64 0)) := (hb5.block _ (by omega)).trans H0.out
  have G1 : Hid (Boxed W5 (w.heap.size + 1) 4 (.bool false)) := (hb5.block _ (by omega)).trans H1.out
  clear hW5 hb5 H0 H1 HB2
  refine range_rule (α := Fv) (gf := 35) (lb := #[.pointer (some ⟨W2.heap.size, 0, none⟩), .pointer (some ⟨W2.heap.size + 1, 0, none⟩), .pointer (some ⟨W2.heap.size + 1 + 1, 0, none⟩)]) rfl (enters_of Try.func35 (by kernel_rfl) rfl) (fld := id) (K := fun k => k < w.heap.size ∨ k = W2.heap.size + 1 ∨ k = W2.heap.size + 1 + 1) (by omega)
    (of_yields 9 W5 W2.heap.size (W2.heap.size + 1) (W2.heap.size + 1 + 1) a len cap fs tag 0 hbl hbt hbk HF5 hlen _ (.inr (.inl rfl)) (.inr (.inr rfl)) (fun b off e hl => .inl (HF.out.block e hl))) (fun _ => rfl)
    (numI w) (numX w)
    ?_ ?_ ?_
    (fun x b => { tmps := #[.slice a len cap, .int .i64 tag, undef, undef, .pointer (some ⟨w.heap.size, 0, none⟩), .pointer (some ⟨w.heap.size + 1, 0, none⟩), .pointer (some ⟨b, 0, none⟩), .slice a len cap, .int .i64 tag, .func (.func 35) #[] #[.pointer (some ⟨W2.heap.size, 0, none⟩), .pointer (some ⟨W2.heap.size + 1, 0, none⟩), .pointer (some ⟨W2.heap.size + 1 + 1, 0, none⟩)], fv x, undef, undef], defers := [] })
    ?assign ?body ?done ?stop
  · rintro xs A B ⟨rfl, b0, b1, hb⟩ ht
    exact ⟨rfl, ht.boxed b0 (by omega), ht.boxed b1 (by omega), ht.below hb (by omega) hb.size⟩
  · rintro xs A B ⟨f, rfl, b0, b1, hb⟩ ht
    exact ⟨f, rfl, ht.boxed b0 (by omega), ht.boxed b1 (by omega), ht.below hb (by omega) hb.size⟩
  · exact ⟨rfl, G0.out, G1.out, HBW.out⟩
  case assign =>
    intro l x A C hC
    clear hz2
    gi_wp2
    exact hC
  case body =>
    rintro l xs f A0 A ⟨rfl, b0, b1, hb⟩ ht hXb hAb hF1 hP
    have b0 := ht.boxed b0 (by omega)
    have b1 := ht.boxed b1 (by omega)
    have hb := ht.below hb (by omega) hb.size
    have B0 : Hid (Boxed A w.heap.size 3 (.int .i64 0)) := b0
    have B1 : Hid (Boxed A (w.heap.size + 1) 4 (.bool false)) := b1
    have HB : Hid (Below w.heap.size w A) := hb
    have x0 := b0.cell; have y0 := b0.frozen; have x1 := b1.cell; have y1 := b1.frozen
    obtain ⟨c0, c1, c2, c3⟩ := hF1
    simp only [Nat.zero_add, id] at c0 c1 c2 c3
    clear b0 b1 hb ht hz2 HBW G0 G1 hbl hbt hbk HF5
    gi_wp2
    exact ⟨(KeepsOthers.setCell _ _ _).trans (KeepsOthers.setCell _ _ _), f, rfl, (B0.out.set _).other (by omega) _, (B1.out.other (by omega) _).set _, (HB.out.setCell (p := ⟨w.heap.size, 0, none⟩) (Nat.le_refl _) _).setCell (p := ⟨w.heap.size + 1, 0, none⟩) (by show w.heap.size ≤ w.heap.size + 1; omega) _⟩
  case done =>
    rintro xs B hS ⟨rfl, b0, b1, hb⟩ hlt hD
    have hS : [] = fs.filter (hit tag 0) := hS
    have HB0 : Hid (Boxed B w.heap.size 3 (.int .i64 0)) := b0
    have HB1 : Hid (Boxed B (w.heap.size + 1) 4 (.bool false)) := b1
    have HB : Hid (Below w.heap.size w B) := hb
    have HD : Hid (B.heap[W5.heap.size]? = some (.deferred (some []))) := hD
    have HNN : Hid ((fs.filter (hit tag 0)).head? = none) := by rw [← hS]; rfl
    have x0 := b0.cell; have y0 := b0.frozen; have x1 := b1.cell; have y1 := b1.frozen
    have HZ5 : Is W5.heap.size (w.heap.size + 5) := ⟨hz5⟩
    clear b0 b1 hb hS hD hz2 HBW G0 G1 hbl hbt hbk HF5 hz5
    gi_wp2
    have hz5 := HZ5.eq
    refine ⟨by simp, .inl ⟨_, _, rfl, run_takeDeferred (((KeepsOthers.setCell _ _ _).trans (KeepsOthers.setCell _ _ _)).same _ _ HD.out rfl), ?_⟩⟩
    refine ⟨_, results_two_cells rfl _ _ w.heap.size (w.heap.size + 1) (.int .i64 0) (.bool false) rfl rfl (load3 (Boxed.cell (t := 3) ((World.putObj_heap_other (by omega)).trans ((HB0.out.set _).other (by omega) _)))) (load4 (Boxed.cell (t := 4) ((World.putObj_heap_other (by omega)).trans ((HB1.out.other (by omega) _).set _)))), ?_⟩
    refine ⟨.inr ⟨HNN.out, rfl⟩, ?_⟩
    exact ((HB.out.setCell (p := ⟨w.heap.size, 0, none⟩) (Nat.le_refl _) _).setCell (p := ⟨w.heap.size + 1, 0, none⟩) (by show w.heap.size ≤ w.heap.size + 1; omega) _).grown (grownBy_putObj' _ _ _) (by rw [size_set, size_set]; exact HB.out.size) (fun k e => by cases e; omega)
  case stop =>
    rintro xs B hS ⟨f, rfl, b0, b1, hb⟩ hlt hD
    have hfh := first_hit hS
    gi_wp2
    refine ⟨by simp, .inl ⟨_, _, rfl, run_takeDeferred hD, ?_⟩⟩
    refine ⟨_, results_two_cells rfl _ _ w.heap.size (w.heap.size + 1) (.int .i64 f.n) (.bool true) rfl rfl (load3 (Boxed.cell (t := 3) ((World.putObj_heap_other (by omega)).trans b0))) (load4 (Boxed.cell (t := 4) ((World.putObj_heap_other (by omega)).trans b1))), ?_⟩
    exact ⟨.inl ⟨f, hfh, rfl⟩, hb.grown (grownBy_putObj' _ _ _) hb.size (fun k e => by cases e; omega)⟩

def textPost (fs : List Fv) (tag : Int) (w : World) (e : Ending) (w' : World) : Prop :=
  ((∃ f, (fs.filter (hit tag 1)).head? = some f ∧ e = .returned (.tuple #[.string f.s, .bool true])) ∨ ((fs.filter (hit tag 1)).head? = none ∧ e = .returned (.tuple #[.string ⟨#[]⟩, .bool false]))) ∧ Below w.heap.size w w'
def textI (w : World) (xs : List Fv) (A : World) : Prop := xs = [] ∧ Boxed A w.heap.size 9 (.string ⟨#[]⟩) ∧ Boxed A (w.heap.size + 1) 4 (.bool false) ∧ Below w.heap.size w A
def textX (w : World) (xs : List Fv) (A : World) : Prop := ∃ f, xs = [f] ∧ Boxed A w.heap.size 9 (.string f.s) ∧ Boxed A (w.heap.size + 1) 4 (.bool true) ∧ Below w.heap.size w A
set_option maxHeartbeats 2000000 in
set_option maxRecDepth 20000 in
theorem text_any (a : Option Addr) (len cap : Nat) (tag : Int) (fs : List Fv) (w : World) (hF : FieldsL w a len fs) (hlen : len ≤ 9223372036854775807) : Calls Try.prog 18 #[.slice a len cap, .int .i64 tag] w (textPost fs tag w) := by
  refine (callsIn_wide (n := 10)).1 ?_
  obtain ⟨W2, hW2⟩ : ∃ W2, (w.alloc (.cells #[.string ⟨#[]⟩] 9)).alloc (.cells #[.bool false] 4) = W2 := ⟨_, rfl⟩
  have FI := fof_any a len cap tag 1 W2
  have HB2 : Hid (Below w.heap.size w W2) := by rw [← hW2]; exact ((Below.refl _ w).alloc (Nat.le_refl _) _).alloc (by simp) _
  have HZ2 : Is W2.heap.size (w.heap.size + 2) := ⟨by rw [← hW2]; simp⟩
  have H0 : Hid (Boxed W2 w.heap.size 9 (.string ⟨#[]⟩)) := by rw [← hW2]; exact (Boxed.new w 9 _).alloc _
  have H1 : Hid (Boxed W2 (w.heap.size + 1) 4 (.bool false)) := by rw [← hW2]; have h := Boxed.new (w.alloc (.cells #[.string ⟨#[]⟩] 9)) 4 (.bool false); rw [size_alloc1] at h; exact h
  have HF : Hid (FieldsL w a len fs) := hF
  clear hF
  refine callsIn_of_wp_marks Try.func18 rfl trivial ?_ rfl
  simp only [Try.ntmps18, List.size_toArray, List.length_cons, List.length_nil, Nat.reduceAdd, Nat.reduceSub, Array.replicate_succ, Array.replicate_zero, List.push_toArray, List.append_toArray, List.nil_append, List.cons_append]
  gi_wp2_with fail
  refine ⟨trivial, ?_⟩
  refine (callsIn_wide.2 FI).mono ?_
  clear FI hW2
  rintro e w1 ⟨rfl, rfl⟩
  gi_wp2_with fail
  have hz2 := HZ2.eq
  obtain ⟨W5, hW5⟩ : ∃ W5, ((W2.alloc (.cells #[.slice a len cap] 22)).alloc (.cells #[.int .i64 tag] 3)).alloc (.cells #[.int .i64 1] 3) = W5 := ⟨_, rfl⟩
  rw [hW5]
  have hz5 : W5.heap.size = w.heap.size + 5 := by rw [← hW5, size_alloc1, size_alloc1, size_alloc1, hz2]
  have hb5 : Below W2.heap.size W2 W5 := by rw [← hW5]; exact (((Below.refl _ W2).alloc (Nat.le_refl _) _).alloc (by simp) _).alloc (by simp; omega) _
  have hbl : Boxed W5 W2.heap.size 22 (.slice a len cap) := by rw [← hW5]; exact ((Boxed.new W2 22 _).alloc _).alloc _
  have hbt : Boxed W5 (W2.heap.size + 1) 3 (.int .i64 tag) := by rw [← hW5]; have h := (Boxed.new (W2.alloc (.cells #[.slice a len cap] 22)) 3 (.int .i64 tag)).alloc (.cells #[.int .i64 1] 3); rw [size_alloc1] at h; exact h
  have hbk : Boxed W5 (W2.heap.size + 1 + 1) 3 (.int .i64 1) := by rw [← hW5]; have h := Boxed.new ((W2.alloc (.cells #[.slice a len cap] 22)).alloc (.cells #[.int .i64 tag] 3)) 3 (.int .i64 1); rw [size_alloc1, size_alloc1] at h; exact h
  have HBW : Hid (Below w.heap.size w W5) := HB2.out.trans (hb5.mono (by omega))
  have HF5 : FieldsL W5 a len fs := HF.out.below HBW.out
  have G0 : Hid (Boxed W5 w.heap.size 9 (.string ⟨#[]⟩)) := (hb5.block _ (by omega)).trans H0.out
  have G1 : Hid (Boxed W5 (w.heap.size + 1) 4 (.bool false)) := (hb5.block _ (by omega)).trans H1.out
  clear hW5 hb5 H0 H1 HB2
  refine range_rule (α := Fv) (gf := 35) (lb := #[.pointer (some ⟨W2.heap.size, 0, none⟩), .pointer (some ⟨W2.heap.size + 1, 0, none⟩), .pointer (some ⟨W2.heap.size + 1 + 1, 0, none⟩)]) rfl (enters_of Try.func35 (by kernel_rfl) rfl) (fld := id) (K := fun k => k < w.heap.size ∨ k = W2.heap.size + 1 ∨ k = W2.heap.size + 1 + 1) (by omega)
    (of_yields 9 W5 W2.heap.size (W2.heap.size + 1) (W2.heap.size + 1 + 1) a len cap fs tag 1 hbl hbt hbk HF5 hlen _ (.inr (.inl rfl)) (.inr (.inr rfl)) (fun b off e hl => .inl (HF.out.block e hl))) (fun _ => rfl)
    (textI w) (textX w)
    ?_ ?_ ?_
    (fun x b => { tmps := #[.slice a len cap, .int .i64 tag, undef, undef, .pointer (some ⟨w.heap.size, 0, none⟩), .pointer (some ⟨w.heap.size + 1, 0, none⟩), .pointer (some ⟨b, 0, none⟩), .slice a len cap, .int .i64 tag, .func (.func 35) #[] #[.pointer (some ⟨W2.heap.size, 0, none⟩), .pointer (some ⟨W2.heap.size + 1, 0, none⟩), .pointer (some ⟨W2.heap.size + 1 + 1, 0, none⟩)], fv x, undef, undef], defers := [] })
    ?assign ?body ?done ?stop
  · rintro xs A B ⟨rfl, b0, b1, hb⟩ ht
    exact ⟨rfl, ht.boxed b0 (by omega), ht.boxed b1 (by omega), ht.below hb (by omega) hb.size⟩
  · rintro xs A B ⟨f, rfl, b0, b1, hb⟩ ht
    exact ⟨f, rfl, ht.boxed b0 (by omega), ht.boxed b1 (by omega), ht.below hb (by omega) hb.size⟩
  · exact ⟨rfl, G0.out, G1.out, HBW.out⟩
  case assign =>
    intro l x A C hC
    clear hz2
    gi_wp2
    exact hC
  case body =>
    rintro l xs f A0 A ⟨rfl, b0, b1, hb⟩ ht hXb hAb hF1 hP
    have b0 := ht.boxed b0 (by omega)
    have b1 := ht.boxed b1 (by omega)
    have hb := ht.below hb (by omega) hb.size
    have B0 : Hid (Boxed A w.heap.size 9 (.string ⟨#[]⟩)) := b0
    have B1 : Hid (Boxed A (w.heap.size + 1) 4 (.bool false)) := b1
    have HB : Hid (Below w.heap.size w A) := hb
    have x0 := b0.cell; have y0 := b0.frozen; have x1 := b1.cell; have y1 := b1.frozen
    obtain ⟨c0, c1, c2, c3⟩ := hF1
    simp only [Nat.zero_add, id] at c0 c1 c2 c3
    clear b0 b1 hb ht hz2 HBW G0 G1 hbl hbt hbk HF5
    gi_wp2
    exact ⟨(KeepsOthers.setCell _ _ _).trans (KeepsOthers.setCell _ _ _), f, rfl, (B0.out.set _).other (by omega) _, (B1.out.other (by omega) _).set _, (HB.out.setCell (p := ⟨w.heap.size, 0, none⟩) (Nat.le_refl _) _).setCell (p := ⟨w.heap.size + 1, 0, none⟩) (by show w.heap.size ≤ w.heap.size + 1; omega) _⟩
  case done =>
    rintro xs B hS ⟨rfl, b0, b1, hb⟩ hlt hD
    have hS : [] = fs.filter (hit tag 1) := hS
    have HB0 : Hid (Boxed B w.heap.size 9 (.string ⟨#[]⟩)) := b0
    have HB1 : Hid (Boxed B (w.heap.size + 1) 4 (.bool false)) := b1
    have HB : Hid (Below w.heap.size w B) := hb
    have HD : Hid (B.heap[W5.heap.size]? = some (.deferred (some []))) := hD
    have HNN : Hid ((fs.filter (hit tag 1)).head? = none) := by rw [← hS]; rfl
    have x0 := b0.cell; have y0 := b0.frozen; have x1 := b1.cell; have y1 := b1.frozen
    have HZ5 : Is W5.heap.size (w.heap.size + 5) := ⟨hz5⟩
    clear b0 b1 hb hS hD hz2 HBW G0 G1 hbl hbt hbk HF5 hz5
    gi_wp2
    have hz5 := HZ5.eq
    refine ⟨by simp, .inl ⟨_, _, rfl, run_takeDeferred (((KeepsOthers.setCell _ _ _).trans (KeepsOthers.setCell _ _ _)).same _ _ HD.out rfl), ?_⟩⟩
    refine ⟨_, results_two_cells rfl _ _ w.heap.size (w.heap.size + 1) (.string ⟨#[]⟩) (.bool false) rfl rfl (load9 (Boxed.cell (t := 9) ((World.putObj_heap_other (by omega)).trans ((HB0.out.set _).other (by omega) _)))) (load4 (Boxed.cell (t := 4) ((World.putObj_heap_other (by omega)).trans ((HB1.out.other (by omega) _).set _)))), ?_⟩
    refine ⟨.inr ⟨HNN.out, rfl⟩, ?_⟩
    exact ((HB.out.setCell (p := ⟨w.heap.size, 0, none⟩) (Nat.le_refl _) _).setCell (p := ⟨w.heap.size + 1, 0, none⟩) (by show w.heap.size ≤ w.heap.size + 1; omega) _).grown (grownBy_putObj' _ _ _) (by rw [size_set, size_set]; exact HB.out.size) (fun k e => by cases e; omega)
  case stop =>
    rintro xs B hS ⟨f, rfl, b0, b1, hb⟩ hlt hD
    have hfh := first_hit hS
    gi_wp2
    refine ⟨by simp, .inl ⟨_, _, rfl, run_takeDeferred hD, ?_⟩⟩
    refine ⟨_, results_two_cells rfl _ _ w.heap.size (w.heap.size + 1) (.string f.s) (.bool true) rfl rfl (load9 (Boxed.cell (t := 9) ((World.putObj_heap_other (by omega)).trans b0))) (load4 (Boxed.cell (t := 4) ((World.putObj_heap_other (by omega)).trans b1))), ?_⟩
    exact ⟨.inl ⟨f, hfh, rfl⟩, hb.grown (grownBy_putObj' _ _ _) hb.size (fun k e => by cases e; omega)⟩

end Go.Proofs.Ytpbobmhffdmmmaa
