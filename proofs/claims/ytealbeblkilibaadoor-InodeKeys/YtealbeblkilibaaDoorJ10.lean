/- Proved: Num and Text answer the first number, and the first text, of a tag. -/
import Derived.Test.YtealbeblkilibaaDoorJ09
import Derived.Test.YtealbeblkilibaaDoorJ08
import Derived.Test.YtealbeblkilibaaDoorJ04
import Derived.Test.YtealbeblkilibaaDoorJ01
namespace Go.Proofs.YtealbeblkilibaaDoor.FI
open Go.RowKit Go.Shelf
attribute [local go_sem] Oper.semAt_some
theorem fof_any (a : Option Addr) (len cap : Nat) (tag kind : Int) (w : World) : Calls Tryd.prog 81 #[.slice a len cap, .int .i64 tag, .int .i64 kind] w fun e w' => e = .returned (.func (.func 91) #[] #[.pointer (some ⟨w.heap.size, 0, none⟩), .pointer (some ⟨w.heap.size + 1, 0, none⟩), .pointer (some ⟨w.heap.size + 1 + 1, 0, none⟩)]) ∧ w' = ((w.alloc (.cells #[.slice a len cap] 40)).alloc (.cells #[.int .i64 tag] 3)).alloc (.cells #[.int .i64 kind] 3) := by
  have hmf : ∀ (fn : Fn) (first cap : Array Value) (w : World), (Instr.makeFunc fn first cap).run Tryd.prog w = .ok (.func fn first cap) w := fun _ _ _ _ => rfl
  go_enter Tryd.func81, Tryd.ntmps81
  go_wp2
  go_ret
  exact ⟨rfl, rfl⟩
theorem results_two_cells {fn : Func} {p u : Tmp} {t1 t2 : TypeId} (h : fn.results = #[.cell p t1, .cell u t2]) (tmps : Array Value) (w : World) (b c : Nat) (v x : Value)
    (hp : tmps.getD p undef = .pointer (some ⟨b, 0, none⟩)) (hu : tmps.getD u undef = .pointer (some ⟨c, 0, none⟩)) (l1 : (loadVar t1 ⟨b, 0, none⟩).run Tryd.prog w = .ok v w) (l2 : (loadVar t2 ⟨c, 0, none⟩).run Tryd.prog w = .ok x w) : (results fn tmps).run Tryd.prog w = .ok (.tuple #[v, x]) w := by
  have hp' : tmps[p]?.getD undef = .pointer (some ⟨b, 0, none⟩) := by simpa using hp
  have hu' : tmps[u]?.getD undef = .pointer (some ⟨c, 0, none⟩) := by simpa using hu
  simp [results, h, hp', hu', asAddr, l1, l2]
theorem load3 {w : World} {b : Nat} {v : Value} (hv : w.cell? ⟨b, 0, none⟩ = some v) : (loadVar 3 ⟨b, 0, none⟩).run Tryd.prog w = .ok v w := by
  simp [loadVar, isAgg, run_underlying Tryd.underlying3, hv, go_sem]
theorem load9 {w : World} {b : Nat} {v : Value} (hv : w.cell? ⟨b, 0, none⟩ = some v) : (loadVar 9 ⟨b, 0, none⟩).run Tryd.prog w = .ok v w := by
  simp [loadVar, isAgg, run_underlying Tryd.underlying9, hv, go_sem]
theorem load4 {w : World} {b : Nat} {v : Value} (hv : w.cell? ⟨b, 0, none⟩ = some v) : (loadVar 4 ⟨b, 0, none⟩).run Tryd.prog w = .ok v w := by
  simp [loadVar, isAgg, run_underlying Tryd.underlying4, hv, go_sem]
theorem first_hit {fs : List Fv} {tag kind : Int} {f : Fv} (h : StopO fs tag kind [f]) : (fs.filter (hit tag kind)).head? = some f := by
  obtain ⟨pre, x, e, k, hk, hx, hh, hp⟩ := h
  have hpn : pre = [] := by
    cases pre with
    | nil => rfl
    | cons a l => have := congrArg List.length e; simp at this
  subst hpn
  have hxf : f = x := by simpa using e
  subst hxf
  have e2 : fs.filter (hit tag kind) = (fs.take k).filter (hit tag kind) ++ (fs.drop k).filter (hit tag kind) := by rw [← List.filter_append, List.take_append_drop]
  rw [e2, ← hp, List.nil_append, drop_getD fs k hk, ← hx, List.filter_cons, if_pos hh]
  rfl

def numPost (fs : List Fv) (tag : Int) (w : World) (e : Ending) (w' : World) : Prop :=
  ((∃ f, (fs.filter (hit tag 0)).head? = some f ∧ e = .returned (.tuple #[.int .i64 f.n, .bool true])) ∨ ((fs.filter (hit tag 0)).head? = none ∧ e = .returned (.tuple #[.int .i64 0, .bool false]))) ∧ Below w.heap.size w w'
def numI (w : World) (xs : List Fv) (A : World) : Prop := xs = [] ∧ Boxed A w.heap.size 3 (.int .i64 0) ∧ Boxed A (w.heap.size + 1) 4 (.bool false) ∧ Below w.heap.size w A
def numX (w : World) (xs : List Fv) (A : World) : Prop := ∃ f, xs = [f] ∧ Boxed A w.heap.size 3 (.int .i64 f.n) ∧ Boxed A (w.heap.size + 1) 4 (.bool true) ∧ Below w.heap.size w A
set_option maxHeartbeats 2000000 in
set_option maxRecDepth 20000 in
theorem num_any (a : Option Addr) (len cap : Nat) (tag : Int) (fs : List Fv) (w : World) (hF : FieldsL w a len fs) (hlen : len ≤ 9223372036854775807) : Calls Tryd.prog 66 #[.slice a len cap, .int .i64 tag] w (numPost fs tag w) := by
  refine (callsIn_wide (n := 10)).1 ?_
  obtain ⟨W2, hW2⟩ : ∃ W2, (w.alloc (.cells #[.int .i64 0] 3)).alloc (.cells #[.bool false] 4) = W2 := ⟨_, rfl⟩
  have FI := fof_any a len cap tag 0 W2
  have HB2 : Hid (Below w.heap.size w W2) := by rw [← hW2]; exact ((Below.refl _ w).alloc (Nat.le_refl _) _).alloc (by simp) _
  have HZ2 : Is W2.heap.size (w.heap.size + 2) := ⟨by rw [← hW2]; simp⟩
  have H0 : Hid (Boxed W2 w.heap.size 3 (.int .i64 0)) := by rw [← hW2]; exact (Boxed.new w 3 _).alloc _
  have H1 : Hid (Boxed W2 (w.heap.size + 1) 4 (.bool false)) := by rw [← hW2]; have h := Boxed.new (w.alloc (.cells #[.int .i64 0] 3)) 4 (.bool false); rw [size_alloc1] at h; exact h
  have HF : Hid (FieldsL w a len fs) := hF
  clear hF
  refine callsIn_of_wp_marks Tryd.func66 rfl trivial ?_ rfl
  simp only [Tryd.ntmps66, List.size_toArray, List.length_cons, List.length_nil, Nat.reduceAdd, Nat.reduceSub, Array.replicate_succ, Array.replicate_zero, List.push_toArray, List.append_toArray, List.nil_append, List.cons_append]
  gi_wp2_with fail
  refine ⟨trivial, ?_⟩
  refine (callsIn_wide.2 FI).mono ?_
  clear FI hW2
  rintro e w1 ⟨rfl, rfl⟩
  gi_wp2_with fail
  have hz2 := HZ2.eq
  obtain ⟨W5, hW5⟩ : ∃ W5, ((W2.alloc (.cells #[.slice a len cap] 40)).alloc (.cells #[.int .i64 tag] 3)).alloc (.cells #[.int .i64 0] 3) = W5 := ⟨_, rfl⟩
  rw [hW5]
  have hz5 : W5.heap.size = w.heap.size + 5 := by rw [← hW5, size_alloc1, size_alloc1, size_alloc1, hz2]
  have hb5 : Below W2.heap.size W2 W5 := by rw [← hW5]; exact (((Below.refl _ W2).alloc (Nat.le_refl _) _).alloc (by simp) _).alloc (by simp; omega) _
  have hbl : Boxed W5 W2.heap.size 40 (.slice a len cap) := by rw [← hW5]; exact ((Boxed.new W2 40 _).alloc _).alloc _
  have hbt : Boxed W5 (W2.heap.size + 1) 3 (.int .i64 tag) := by rw [← hW5]; have h := (Boxed.new (W2.alloc (.cells #[.slice a len cap] 40)) 3 (.int .i64 tag)).alloc (.cells #[.int .i64 0] 3); rw [size_alloc1] at h; exact h
  have hbk : Boxed W5 (W2.heap.size + 1 + 1) 3 (.int .i64 0) := by rw [← hW5]; have h := Boxed.new ((W2.alloc (.cells #[.slice a len cap] 40)).alloc (.cells #[.int .i64 tag] 3)) 3 (.int .i64 0); rw [size_alloc1, size_alloc1] at h; exact h
  have HBW : Hid (Below w.heap.size w W5) := HB2.out.trans (hb5.mono (by omega))
  have HF5 : FieldsL W5 a len fs := HF.out.below HBW.out
  have G0 : Hid (Boxed W5 w.heap.size 3 (.int .i64 0)) := (hb5.block _ (by omega)).trans H0.out
  have G1 : Hid (Boxed W5 (w.heap.size + 1) 4 (.bool false)) := (hb5.block _ (by omega)).trans H1.out
  clear hW5 hb5 H0 H1 HB2
  refine range_rule (α := Fv) (gf := 91) (lb := #[.pointer (some ⟨W2.heap.size, 0, none⟩), .pointer (some ⟨W2.heap.size + 1, 0, none⟩), .pointer (some ⟨W2.heap.size + 1 + 1, 0, none⟩)]) rfl (enters_of Tryd.func91 (by kernel_rfl) rfl) (fld := id) (K := fun k => k < w.heap.size ∨ k = W2.heap.size + 1 ∨ k = W2.heap.size + 1 + 1) (by omega)
    (of_yields 9 W5 W2.heap.size (W2.heap.size + 1) (W2.heap.size + 1 + 1) a len cap fs tag 0 hbl hbt hbk HF5 hlen _ (.inr (.inl rfl)) (.inr (.inr rfl)) (fun b off e hl => .inl (HF.out.block e hl))) (fun _ => rfl)
    (numI w) (numX w)
    ?_ ?_ ?_
    (fun x b => { tmps := #[.slice a len cap, .int .i64 tag, undef, undef, .pointer (some ⟨w.heap.size, 0, none⟩), .pointer (some ⟨w.heap.size + 1, 0, none⟩), .pointer (some ⟨b, 0, none⟩), .slice a len cap, .int .i64 tag, .func (.func 91) #[] #[.pointer (some ⟨W2.heap.size, 0, none⟩), .pointer (some ⟨W2.heap.size + 1, 0, none⟩), .pointer (some ⟨W2.heap.size + 1 + 1, 0, none⟩)], fv x, undef, undef], defers := [] })
    ?assign ?body ?done ?stop
  · rintro xs A B ⟨rfl, b0, b1, hb⟩ ht
    exact ⟨rfl, ht.boxed b0 (by omega), ht.boxed b1 (by omega), ht.below hb (by omega) hb.size⟩
  · rintro xs A B ⟨f, rfl, b0, b1, hb⟩ ht
    exact ⟨f, rfl, ht.boxed b0 (by omega), ht.boxed b1 (by omega), ht.below hb (by omega) hb.size⟩
  · exact ⟨rfl, G0.out, G1.out, HBW.out⟩
  case assign =>
    intro l x A C hC
    clear hz2
    gi_wp2
    exact hC
  case body =>
    rintro l xs f A0 A ⟨rfl, b0, b1, hb⟩ ht hXb hAb hF1 hP
    have b0 := ht.boxed b0 (by omega)
    have b1 := ht.boxed b1 (by omega)
    have hb := ht.below hb (by omega) hb.size
    have B0 : Hid (Boxed A w.heap.size 3 (.int .i64 0)) := b0
    have B1 : Hid (Boxed A (w.heap.size + 1) 4 (.bool false)) := b1
    have HB : Hid (Below w.heap.size w A) := hb
    have x0 := b0.cell; have y0 := b0.frozen; have x1 := b1.cell; have y1 := b1.frozen
    obtain ⟨c0, c1, c2, c3⟩ := hF1
    simp only [Nat.zero_add, id] at c0 c1 c2 c3
    clear b0 b1 hb ht hz2 HBW G0 G1 hbl hbt hbk HF5
    gi_wp2
    exact ⟨(KeepsOthers.setCell _ _ _).trans (KeepsOthers.setCell _ _ _), f, rfl, (B0.out.set _).other (by omega) _, (B1.out.other (by omega) _).set _, (HB.out.setCell (p := ⟨w.heap.size, 0, none⟩) (Nat.le_refl _) _).setCell (p := ⟨w.heap.size + 1, 0, none⟩) (by show w.heap.size ≤ w.heap.size + 1; omega) _⟩
  case done =>
    rintro xs B hS ⟨rfl, b0, b1, hb⟩ hlt hD
    have hS : [] = fs.filter (hit tag 0) := hS
    have HB0 : Hid (Boxed B w.heap.size 3 (.int .i64 0)) := b0
    have HB1 : Hid (Boxed B (w.heap.size + 1) 4 (.bool false)) := b1
    have HB : Hid (Below w.heap.size w B) := hb
    have HD : Hid (B.heap[W5.heap.size]? = some (.deferred (some []))) := hD
    have HNN : Hid ((fs.filter (hit tag 0)).head? = none) := by rw [← hS]; rfl
    have x0 := b0.cell; have y0 := b0.frozen; have x1 := b1.cell; have y1 := b1.frozen
    have HZ5 : Is W5.heap.size (w.heap.size + 5) := ⟨hz5⟩
    clear b0 b1 hb hS hD hz2 HBW G0 G1 hbl hbt hbk HF5 hz5
    gi_wp2
    have hz5 := HZ5.eq
    refine ⟨by simp, .inl ⟨_, _, rfl, run_takeDeferred (((KeepsOthers.setCell _ _ _).trans (KeepsOthers.setCell _ _ _)).same _ _ HD.out rfl), ?_⟩⟩
    refine ⟨_, results_two_cells rfl _ _ w.heap.size (w.heap.size + 1) (.int .i64 0) (.bool false) rfl rfl (load3 (Boxed.cell (t := 3) ((World.putObj_heap_other (by omega)).trans ((HB0.out.set _).other (by omega) _)))) (load4 (Boxed.cell (t := 4) ((World.putObj_heap_other (by omega)).trans ((HB1.out.other (by omega) _).set _)))), ?_⟩
    refine ⟨.inr ⟨HNN.out, rfl⟩, ?_⟩
    exact ((HB.out.setCell (p := ⟨w.heap.size, 0, none⟩) (Nat.le_refl _) _).setCell (p := ⟨w.heap.size + 1, 0, none⟩) (by show w.heap.size ≤ w.heap.size + 1; omega) _).grown (grownBy_putObj' _ _ _) (by rw [size_set, size_set]; exact HB.out.size) (fun k e => by cases e; omega)
  case stop =>
    rintro xs B hS ⟨f, rfl, b0, b1, hb⟩ hlt hD
    have hfh := first_hit hS
    gi_wp2
    refine ⟨by simp, .inl ⟨_, _, rfl, run_takeDeferred hD, ?_⟩⟩
    refine ⟨_, results_two_cells rfl _ _ w.heap.size (w.heap.size + 1) (.int .i64 f.n) (.bool true) rfl rfl (load3 (Boxed.cell (t := 3) ((World.putObj_heap_other (by omega)).trans b0))) (load4 (Boxed.cell (t := 4) ((World.putObj_heap_other (by omega)).trans b1))), ?_⟩
    exact ⟨.inl ⟨f, hfh, rfl⟩, hb.grown (grownBy_putObj' _ _ _) hb.size (fun k e => by cases e; omega)⟩

def textPost (fs : List Fv) (tag : Int) (w : World) (e : Ending) (w' : World) : Prop :=
  ((∃ f, (fs.filter (hit tag 1)).head? = some f ∧ e = .returned (.tuple #[.string f.s, .bool true])) ∨ ((fs.filter (hit tag 1)).head? = none ∧ e = .returned (.tuple #[.string ⟨#[]⟩, .bool false]))) ∧ Below w.heap.size w w'
def textI (w : World) (xs : List Fv) (A : World) : Prop := xs = [] ∧ Boxed A w.heap.size 9 (.string ⟨#[]⟩) ∧ Boxed A (w.heap.size + 1) 4 (.bool false) ∧ Below w.heap.size w A
def textX (w : World) (xs : List Fv) (A : World) : Prop := ∃ f, xs = [f] ∧ Boxed A w.heap.size 9 (.string f.s) ∧ Boxed A (w.heap.size + 1) 4 (.bool true) ∧ Below w.heap.size w A
set_option maxHeartbeats 2000000 in
set_option maxRecDepth 20000 in
theorem text_any (a : Option Addr) (len cap : Nat) (tag : Int) (fs : List Fv) (w : World) (hF : FieldsL w a len fs) (hlen : len ≤ 9223372036854775807) : Calls Tryd.prog 67 #[.slice a len cap, .int .i64 tag] w (textPost fs tag w) := by
  refine (callsIn_wide (n := 10)).1 ?_
  obtain ⟨W2, hW2⟩ : ∃ W2, (w.alloc (.cells #[.string ⟨#[]⟩] 9)).alloc (.cells #[.bool false] 4) = W2 := ⟨_, rfl⟩
  have FI := fof_any a len cap tag 1 W2
  have HB2 : Hid (Below w.heap.size w W2) := by rw [← hW2]; exact ((Below.refl _ w).alloc (Nat.le_refl _) _).alloc (by simp) _
  have HZ2 : Is W2.heap.size (w.heap.size + 2) := ⟨by rw [← hW2]; simp⟩
  have H0 : Hid (Boxed W2 w.heap.size 9 (.string ⟨#[]⟩)) := by rw [← hW2]; exact (Boxed.new w 9 _).alloc _
  have H1 : Hid (Boxed W2 (w.heap.size + 1) 4 (.bool false)) := by rw [← hW2]; have h := Boxed.new (w.alloc (.cells #[.string ⟨#[]⟩] 9)) 4 (.bool false); rw [size_alloc1] at h; exact h
  have HF : Hid (FieldsL w a len fs) := hF
  clear hF
  refine callsIn_of_wp_marks Tryd.func67 rfl trivial ?_ rfl
  simp only [Tryd.ntmps67, List.size_toArray, List.length_cons, List.length_nil, Nat.reduceAdd, Nat.reduceSub, Array.replicate_succ, Array.replicate_zero, List.push_toArray, List.append_toArray, List.nil_append, List.cons_append]
  gi_wp2_with fail
  refine ⟨trivial, ?_⟩
  refine (callsIn_wide.2 FI).mono ?_
  clear FI hW2
  rintro e w1 ⟨rfl, rfl⟩
  gi_wp2_with fail
  have hz2 := HZ2.eq
  obtain ⟨W5, hW5⟩ : ∃ W5, ((W2.alloc (.cells #[.slice a len cap] 40)).alloc (.cells #[.int .i64 tag] 3)).alloc (.cells #[.int .i64 1] 3) = W5 := ⟨_, rfl⟩
  rw [hW5]
  have hz5 : W5.heap.size = w.heap.size + 5 := by rw [← hW5, size_alloc1, size_alloc1, size_alloc1, hz2]
  have hb5 : Below W2.heap.size W2 W5 := by rw [← hW5]; exact (((Below.refl _ W2).alloc (Nat.le_refl _) _).alloc (by simp) _).alloc (by simp; omega) _
  have hbl : Boxed W5 W2.heap.size 40 (.slice a len cap) := by rw [← hW5]; exact ((Boxed.new W2 40 _).alloc _).alloc _
  have hbt : Boxed W5 (W2.heap.size + 1) 3 (.int .i64 tag) := by rw [← hW5]; have h := (Boxed.new (W2.alloc (.cells #[.slice a len cap] 40)) 3 (.int .i64 tag)).alloc (.cells #[.int .i64 1] 3); rw [size_alloc1] at h; exact h
  have hbk : Boxed W5 (W2.heap.size + 1 + 1) 3 (.int .i64 1) := by rw [← hW5]; have h := Boxed.new ((W2.alloc (.cells #[.slice a len cap] 40)).alloc (.cells #[.int .i64 tag] 3)) 3 (.int .i64 1); rw [size_alloc1, size_alloc1] at h; exact h
  have HBW : Hid (Below w.heap.size w W5) := HB2.out.trans (hb5.mono (by omega))
  have HF5 : FieldsL W5 a len fs := HF.out.below HBW.out
  have G0 : Hid (Boxed W5 w.heap.size 9 (.string ⟨#[]⟩)) := (hb5.block _ (by omega)).trans H0.out
  have G1 : Hid (Boxed W5 (w.heap.size + 1) 4 (.bool false)) := (hb5.block _ (by omega)).trans H1.out
  clear hW5 hb5 H0 H1 HB2
  refine range_rule (α := Fv) (gf := 91) (lb := #[.pointer (some ⟨W2.heap.size, 0, none⟩), .pointer (some ⟨W2.heap.size + 1, 0, none⟩), .pointer (some ⟨W2.heap.size + 1 + 1, 0, none⟩)]) rfl (enters_of Tryd.func91 (by kernel_rfl) rfl) (fld := id) (K := fun k => k < w.heap.size ∨ k = W2.heap.size + 1 ∨ k = W2.heap.size + 1 + 1) (by omega)
    (of_yields 9 W5 W2.heap.size (W2.heap.size + 1) (W2.heap.size + 1 + 1) a len cap fs tag 1 hbl hbt hbk HF5 hlen _ (.inr (.inl rfl)) (.inr (.inr rfl)) (fun b off e hl => .inl (HF.out.block e hl))) (fun _ => rfl)
    (textI w) (textX w)
    ?_ ?_ ?_
    (fun x b => { tmps := #[.slice a len cap, .int .i64 tag, undef, undef, .pointer (some ⟨w.heap.size, 0, none⟩), .pointer (some ⟨w.heap.size + 1, 0, none⟩), .pointer (some ⟨b, 0, none⟩), .slice a len cap, .int .i64 tag, .func (.func 91) #[] #[.pointer (some ⟨W2.heap.size, 0, none⟩), .pointer (some ⟨W2.heap.size + 1, 0, none⟩), .pointer (some ⟨W2.heap.size + 1 + 1, 0, none⟩)], fv x, undef, undef], defers := [] })
    ?assign ?body ?done ?stop
  · rintro xs A B ⟨rfl, b0, b1, hb⟩ ht
    exact ⟨rfl, ht.boxed b0 (by omega), ht.boxed b1 (by omega), ht.below hb (by omega) hb.size⟩
  · rintro xs A B ⟨f, rfl, b0, b1, hb⟩ ht
    exact ⟨f, rfl, ht.boxed b0 (by omega), ht.boxed b1 (by omega), ht.below hb (by omega) hb.size⟩
  · exact ⟨rfl, G0.out, G1.out, HBW.out⟩
  case assign =>
    intro l x A C hC
    clear hz2
    gi_wp2
    exact hC
  case body =>
    rintro l xs f A0 A ⟨rfl, b0, b1, hb⟩ ht hXb hAb hF1 hP
    have b0 := ht.boxed b0 (by omega)
    have b1 := ht.boxed b1 (by omega)
    have hb := ht.below hb (by omega) hb.size
    have B0 : Hid (Boxed A w.heap.size 9 (.string ⟨#[]⟩)) := b0
    have B1 : Hid (Boxed A (w.heap.size + 1) 4 (.bool false)) := b1
    have HB : Hid (Below w.heap.size w A) := hb
    have x0 := b0.cell; have y0 := b0.frozen; have x1 := b1.cell; have y1 := b1.frozen
    obtain ⟨c0, c1, c2, c3⟩ := hF1
    simp only [Nat.zero_add, id] at c0 c1 c2 c3
    clear b0 b1 hb ht hz2 HBW G0 G1 hbl hbt hbk HF5
    gi_wp2
    exact ⟨(KeepsOthers.setCell _ _ _).trans (KeepsOthers.setCell _ _ _), f, rfl, (B0.out.set _).other (by omega) _, (B1.out.other (by omega) _).set _, (HB.out.setCell (p := ⟨w.heap.size, 0, none⟩) (Nat.le_refl _) _).setCell (p := ⟨w.heap.size + 1, 0, none⟩) (by show w.heap.size ≤ w.heap.size + 1; omega) _⟩
  case done =>
    rintro xs B hS ⟨rfl, b0, b1, hb⟩ hlt hD
    have hS : [] = fs.filter (hit tag 1) := hS
    have HB0 : Hid (Boxed B w.heap.size 9 (.string ⟨#[]⟩)) := b0
    have HB1 : Hid (Boxed B (w.heap.size + 1) 4 (.bool false)) := b1
    have HB : Hid (Below w.heap.size w B) := hb
    have HD : Hid (B.heap[W5.heap.size]? = some (.deferred (some []))) := hD
    have HNN : Hid ((fs.filter (hit tag 1)).head? = none) := by rw [← hS]; rfl
    have x0 := b0.cell; have y0 := b0.frozen; have x1 := b1.cell; have y1 := b1.frozen
    have HZ5 : Is W5.heap.size (w.heap.size + 5) := ⟨hz5⟩
    clear b0 b1 hb hS hD hz2 HBW G0 G1 hbl hbt hbk HF5 hz5
    gi_wp2
    have hz5 := HZ5.eq
    refine ⟨by simp, .inl ⟨_, _, rfl, run_takeDeferred (((KeepsOthers.setCell _ _ _).trans (KeepsOthers.setCell _ _ _)).same _ _ HD.out rfl), ?_⟩⟩
    refine ⟨_, results_two_cells rfl _ _ w.heap.size (w.heap.size + 1) (.string ⟨#[]⟩) (.bool false) rfl rfl (load9 (Boxed.cell (t := 9) ((World.putObj_heap_other (by omega)).trans ((HB0.out.set _).other (by omega) _)))) (load4 (Boxed.cell (t := 4) ((World.putObj_heap_other (by omega)).trans ((HB1.out.other (by omega) _).set _)))), ?_⟩
    refine ⟨.inr ⟨HNN.out, rfl⟩, ?_⟩
    exact ((HB.out.setCell (p := ⟨w.heap.size, 0, none⟩) (Nat.le_refl _) _).setCell (p := ⟨w.heap.size + 1, 0, none⟩) (by show w.heap.size ≤ w.heap.size + 1; omega) _).grown (grownBy_putObj' _ _ _) (by rw [size_set, size_set]; exact HB.out.size) (fun k e => by cases e; omega)
  case stop =>
    rintro xs B hS ⟨f, rfl, b0, b1, hb⟩ hlt hD
    have hfh := first_hit hS
    gi_wp2
    refine ⟨by simp, .inl ⟨_, _, rfl, run_takeDeferred hD, ?_⟩⟩
    refine ⟨_, results_two_cells rfl _ _ w.heap.size (w.heap.size + 1) (.string f.s) (.bool true) rfl rfl (load9 (Boxed.cell (t := 9) ((World.putObj_heap_other (by omega)).trans b0))) (load4 (Boxed.cell (t := 4) ((World.putObj_heap_other (by omega)).trans b1))), ?_⟩
    exact ⟨.inl ⟨f, hfh, rfl⟩, hb.grown (grownBy_putObj' _ _ _) hb.size (fun k e => by cases e; omega)⟩

end Go.Proofs.YtealbeblkilibaaDoor.FI
/- Proved: Texts answers all texts of a tag, in order. -/
namespace Go.Proofs.YtealbeblkilibaaDoor.FI
open Go.RowKit Go.Shelf
attribute [local go_sem] Oper.semAt_some
theorem info9 : Tryd.prog.info? 9 = some Tryd.t9 := by kernel_rfl
def tcells (xs : List Fv) : List Value := xs.map (fun f => Value.string f.s)
theorem tcells_one (xs : List Fv) : ∀ u ∈ tcells xs, u.oneCell' = true := fun u hu => by
  obtain ⟨f, _, rfl⟩ := List.mem_map.1 hu
  rfl
def textsI (M : Nat) (w : World) (xs : List Fv) (A : World) : Prop := ∃ v, Boxed A w.heap.size 72 v ∧ A.ownsRow M 9 1 v xs.length (tcells xs) ∧ Below w.heap.size w A
theorem str_new (w : World) (s : ByteArray) : ∀ j u, [Value.string s][j]? = some u → (w.alloc (.cells #[.string s] 9)).cell? ((⟨w.heap.size, 0, none⟩ : Addr).add j) = some u := fun j u hj => by
  rw [Go.WideShapes.add_plain, cell_of_row _ _ (0 + j) _ 9 (0, 0) (heap_alloc_new w _), Nat.zero_add]
  show [Value.string s].toArray[j]? = some u
  rw [List.getElem?_toArray]; exact hj
theorem own_alloc1 {w : World} {N n : Nat} {v : Value} {vs : List Value} {e : TypeId} {k : Nat} (h : w.ownsRow N e k v n vs) (o : Obj) : (w.alloc o).ownsRow N e k v n vs := by
  obtain ⟨h0, h1⟩ := h
  refine ⟨h0, ?_⟩
  rcases h1 with h1 | ⟨g, cap', cur, hv, hN, hh, r⟩
  · exact .inl h1
  · exact .inr ⟨g, cap', cur, hv, hN, (Below.heap_alloc w o g (Array.getElem?_eq_some_iff.1 hh).1).trans hh, r⟩
end Go.Proofs.YtealbeblkilibaaDoor.FI
/- Proved: the document's Num, Texts, Text; SameTexts of like texts. -/
namespace Go.Proofs.YtealbeblkilibaaDoor.FI
open Go.RowKit
theorem head_of_take {fs : List Fv} {p : Fv → Bool} {k : Nat} (hk : k < fs.length) (h0 : (fs.take k).filter p = []) (hh : p (fs.getD k fv0) = true) : (fs.filter p).head? = some (fs.getD k fv0) := by
  have e2 : fs.filter p = (fs.take k).filter p ++ (fs.drop k).filter p := by rw [← List.filter_append, List.take_append_drop]
  rw [e2, h0, List.nil_append, drop_getD fs k hk, List.filter_cons, if_pos hh]
  rfl
set_option maxHeartbeats 1000000 in
set_option maxRecDepth 20000 in
theorem rnumt_any (a : Option Addr) (len cap : Nat) (tag : Int) (fs : List Fv) (w : World) (hF : FieldsL w a len fs) (hlen : len ≤ 9223372036854775807) : Calls Tryd.prog 68 #[.slice a len cap, .int .i64 tag] w (numPost fs tag w) := by
  have HF : Hid (FieldsL w a len fs) := hF
  clear hF
  go_enter Tryd.func68, Tryd.ntmps68
  go_wp2_with fail
  go_loopw [6] (fun s6 wr => ∃ k : Nat, k ≤ len ∧ s6 = .int .i64 k ∧ (fs.take k).filter (hit tag 0) = [] ∧ wr = w) (fun s6 _ => len - (intOf s6).toNat)
  case atStart => exact ⟨0, by omega, rfl, rfl, rfl⟩
  case round =>
    obtain ⟨k, hk, rfl, hft, hw⟩ := hrel
    have hw := hw.symm
    subst hw
    have HFT : Is ((fs.take k).filter (hit tag 0)) [] := ⟨hft⟩
    clear hft
    by_cases hlt : k < len
    · have i0 : (k : Int) < (len : Int) := by omega
      have j0 : (0 : Int) ≤ (k : Int) := Int.natCast_nonneg _
      have hkl : k < fs.length := by rw [HF.out.1]; exact hlt
      obtain ⟨b, off, rfl, hc⟩ : ∃ b off, a = some ⟨b, off, none⟩ ∧ ∀ i, i < len → FieldAt w b (off + i * 4) (fs.getD i fv0) := by
        rcases HF.out.2.2 with h | h
        · omega
        · exact h
      obtain ⟨c0, c1, c2, c3⟩ := hc k hlt
      have HTS : Is ((fs.take (k + 1)).filter (hit tag 0)) ((fs.take k).filter (hit tag 0) ++ (if hit tag 0 (fs.getD k fv0) then [fs.getD k fv0] else [])) := ⟨filter_take_succ (hit tag 0) fs k hkl⟩
      rw [HFT.eq, List.nil_append] at HTS
      have HHD : Hid (hit tag 0 (fs.getD k fv0) = true → (fs.filter (hit tag 0)).head? = some (fs.getD k fv0)) := fun hh => head_of_take hkl HFT.eq hh
      clear hc hkl
      generalize fs.getD k fv0 = f at *
      by_cases hh : hit tag 0 f = true
      · have h12 : f.tag = tag ∧ f.kind = 0 := by unfold hit at hh; simpa using hh
        have b1 : (f.tag == tag) = true := by simpa using h12.1
        have b2 : (f.kind == 0) = true := by simpa using h12.2
        have HX := HHD.out hh
        clear h12 hh HHD
        go_wp2_with fail
        go_ret2
        exact ⟨.inl ⟨f, HX, rfl⟩, Below.refl _ _⟩
      · rw [if_neg hh] at HTS
        by_cases b1' : f.tag = tag
        · have b1 : (f.tag == tag) = true := by simpa using b1'
          have b2 : (f.kind == 0) = false := by
            cases hb2 : (f.kind == 0) with
            | false => rfl
            | true => exact absurd (show hit tag 0 f = true by unfold hit; rw [b1, hb2]; rfl) hh
          clear b1' hh
          go_wp2_with fail
          go_roundw
          case rel => exact ⟨k + 1, by omega, by go_num, HTS.eq, trivial⟩
          case measure => (simp [intOf]) <;> omega
        · have b1 : (f.tag == tag) = false := by simpa using b1'
          clear b1' hh
          go_wp2_with fail
          go_roundw
          case rel => exact ⟨k + 1, by omega, by go_num, HTS.eq, trivial⟩
          case measure => (simp [intOf]) <;> omega
    · have i0 : ¬ (k : Int) < (len : Int) := by omega
      have HT : Is (fs.take k) fs := ⟨List.take_of_length_le (by rw [HF.out.1]; omega)⟩
      rw [HT.eq] at HFT
      go_wp2_with fail
      go_ret2
      exact ⟨.inr ⟨by rw [HFT.eq]; rfl, rfl⟩, Below.refl _ _⟩
/- 'append(x, s)' of one text behind a slice of the call's own -/
theorem append_str {ops : Array Oper} {rest : List Oper} {o : Oper} {a : Act} {Q : Exit → Act → World → Prop} (hgd : o.guard = none) (s x : Operand)
    (ho : o.op = .call { callee := .builtin .append, args := #[s, x], argTypes := #[72, 72] }) (W : World) (N : Nat) (v : Value) (n : Nat) (vs : List Value) (hs : a.eval s = v) (hown : W.ownsRow N 9 1 v n vs)
    (ad : Addr) (c : Nat) (t : ByteArray) (hx : a.eval x = .slice (some ad) 1 c) (hnews : ∀ j u, [Value.string t][j]? = some u → W.cell? (ad.add j) = some u) (hb : n + 1 ≤ 50000) (hN : N ≤ W.heap.size)
    (h : ∀ v' w', w'.ownsRow N 9 1 v' (n + 1) (vs ++ [.string t]) → Grew W v w' v' → wpList Tryd.prog ops Q rest (a.put o.dst v') w') : wpList Tryd.prog ops Q (o :: rest) a W := by
  obtain ⟨v', w', hr, h2, h3, h4, h5⟩ := run_append_own_at (P := Tryd.prog) W N 72 o.type 9 Tryd.t9 (.string ByteArray.empty) 1 16 Tryd.underlying72 info9 rfl rfl rfl rfl (by omega) v n vs hown ad 1 c [.string t] rfl hnews (fun u hu => by rw [List.mem_singleton.1 hu]; rfl) (by unfold maxLen; omega) (by omega) hN
  refine wpList_plain hgd fun K hK => ?_
  unfold Oper.wp execOp
  simp only [ho, resolve, invoke, builtin, Sem.run_bind, Sem.run_pure, Result.andThen_ok, List.map_toArray, List.map_cons, List.map_nil, hs, hx, hr]
  exact hK _ _ (h v' w' h2 ⟨h3, h5.imp id (fun h => ⟨_, h, Nat.le_refl _⟩)⟩)
set_option maxHeartbeats 1000000 in
set_option maxRecDepth 20000 in
theorem rtexts_any (a : Option Addr) (len cap : Nat) (tag : Int) (fs : List Fv) (w : World) (hF : FieldsL w a len fs) (hlen : len ≤ 40000) : Calls Tryd.prog 82 #[.slice a len cap, .int .i64 tag] w fun e w' => ∃ v, e = .returned v ∧ w'.ownsRow w.heap.size 9 1 v (fs.filter (hit tag 1)).length (tcells (fs.filter (hit tag 1))) ∧ Below w.heap.size w w' := by
  have HF : Hid (FieldsL w a len fs) := hF
  clear hF
  go_enter Tryd.func82, Tryd.ntmps82
  go_wp2_with fail
  go_loopw [5, 6] (fun s5 s6 wr => ∃ k : Nat, k ≤ len ∧ s6 = .int .i64 k ∧ wr.ownsRow w.heap.size 9 1 s5 ((fs.take k).filter (hit tag 1)).length (tcells ((fs.take k).filter (hit tag 1))) ∧ Below w.heap.size w wr) (fun _ s6 _ => len - (intOf s6).toNat)
  case atStart => exact ⟨0, by omega, rfl, ⟨rfl, .inl ⟨rfl, rfl⟩⟩, Below.refl _ _⟩
  case round =>
    obtain ⟨k, hk, rfl, hO, hB⟩ := hrel
    have HB : Hid (Below w.heap.size w wr) := hB
    have HO : Hid (wr.ownsRow w.heap.size 9 1 _ ((fs.take k).filter (hit tag 1)).length (tcells ((fs.take k).filter (hit tag 1)))) := hO
    have hsz := hB.size
    clear hB hO
    by_cases hlt : k < len
    · have i0 : (k : Int) < (len : Int) := by omega
      have j0 : (0 : Int) ≤ (k : Int) := Int.natCast_nonneg _
      have hkl : k < fs.length := by rw [HF.out.1]; exact hlt
      obtain ⟨b, off, rfl, hc⟩ : ∃ b off, a = some ⟨b, off, none⟩ ∧ ∀ i, i < len → FieldAt w b (off + i * 4) (fs.getD i fv0) := by
        rcases HF.out.2.2 with h | h
        · omega
        · exact h
      have hbl : b < w.heap.size := block_lt_of_cell (hc k hlt).tag
      obtain ⟨c0, c1, c2, c3⟩ := (hc k hlt).below HB.out hbl
      have HTS : Is ((fs.take (k + 1)).filter (hit tag 1)) ((fs.take k).filter (hit tag 1) ++ (if hit tag 1 (fs.getD k fv0) then [fs.getD k fv0] else [])) := ⟨filter_take_succ (hit tag 1) fs k hkl⟩
      have hfl : ((fs.take k).filter (hit tag 1)).length ≤ k := Nat.le_trans (List.length_filter_le _ _) (by rw [List.length_take]; omega)
      clear hc hkl
      generalize fs.getD k fv0 = f at *
      obtain ⟨xs, hxs⟩ : ∃ xs, xs = (fs.take k).filter (hit tag 1) := ⟨_, rfl⟩
      rw [← hxs] at HTS hfl HO
      clear hxs
      by_cases hh : hit tag 1 f = true
      · have h12 : f.tag = tag ∧ f.kind = 1 := by unfold hit at hh; simpa using hh
        have b1 : (f.tag == tag) = true := by simpa using h12.1
        have b2 : (f.kind == 1) = true := by simpa using h12.2
        rw [if_pos hh] at HTS
        clear h12 hh
        go_wp2_with (first | (refine append_str rfl (.tmp 28) (.tmp 34) rfl _ w.heap.size _ xs.length (tcells xs) rfl (own_alloc1 HO.out _) ⟨wr.heap.size, 0, none⟩ 1 f.s rfl (str_new wr f.s) (by omega) (by simp; omega) ?_; intro v' w' hO2 hG2; have HO2 := (show Hid (w'.ownsRow w.heap.size 9 1 v' (xs.length + 1) (tcells xs ++ [.string f.s])) from hO2); have HB2 : Hid (Below w.heap.size w w') := HB.out.trans ((((Below.refl _ wr).alloc (Nat.le_refl _) _).mono hsz).trans (hG2.below (own_alloc1 HO.out _) (by simp; omega))); clear hO2 hG2))
        go_roundw
        case rel => exact ⟨k + 1, by omega, by go_num, by rw [HTS.eq, List.length_append, tcells, List.map_append]; exact HO2.out, HB2.out⟩
        case measure => (simp [intOf]) <;> omega
      · rw [if_neg hh, List.append_nil] at HTS
        by_cases b1' : f.tag = tag
        · have b1 : (f.tag == tag) = true := by simpa using b1'
          have b2 : (f.kind == 1) = false := by
            cases hb2 : (f.kind == 1) with
            | false => rfl
            | true => exact absurd (show hit tag 1 f = true by unfold hit; rw [b1, hb2]; rfl) hh
          clear b1' hh
          go_wp2_with fail
          go_roundw
          case rel => exact ⟨k + 1, by omega, by go_num, by rw [HTS.eq]; exact HO.out, HB.out⟩
          case measure => (simp [intOf]) <;> omega
        · have b1 : (f.tag == tag) = false := by simpa using b1'
          clear b1' hh
          go_wp2_with fail
          go_roundw
          case rel => exact ⟨k + 1, by omega, by go_num, by rw [HTS.eq]; exact HO.out, HB.out⟩
          case measure => (simp [intOf]) <;> omega
    · have i0 : ¬ (k : Int) < (len : Int) := by omega
      have HT : Is (fs.take k) fs := ⟨List.take_of_length_le (by rw [HF.out.1]; omega)⟩
      rw [HT.eq] at HO
      go_wp2_with fail
      go_ret
      exact ⟨_, rfl, HO.out, HB.out⟩
/- a slice of texts -/
def StrL (w : World) (a : Option Addr) (n : Nat) (xs : List Fv) : Prop := xs.length = n ∧ (n = 0 ∨ ∃ b off, a = some ⟨b, off, none⟩ ∧ ∀ i, i < n → w.cell? ⟨b, off + i, none⟩ = some (.string (xs.getD i fv0).s))
theorem own_strs {w : World} {N n : Nat} {v : Value} {xs : List Fv} (h : w.ownsRow N 9 1 v n (tcells xs)) : ∃ a cap, v = .slice a n cap ∧ StrL w a n xs := by
  have hl : xs.length = n := by have := h.1; simpa [tcells] using this
  rcases h.2 with ⟨hv, hn⟩ | ⟨g, cap, cur, hv, _, hh, hc, _, _, ht⟩
  · exact ⟨none, 0, by rw [hn]; exact hv, hl, .inl hn⟩
  · refine ⟨_, cap, hv, hl, .inr ⟨g, 0, rfl, fun i hi => ?_⟩⟩
    rw [cell_of_row w g _ cur 9 (0, 0) hh, Nat.zero_add, ← Array.getElem?_toList]
    have e : (cur.toList.take (n * 1))[i]? = (tcells xs)[i]? := by rw [ht]
    rw [Nat.mul_one, List.getElem?_take_of_lt hi] at e
    rw [e, tcells, List.getElem?_map, List.getElem?_eq_getElem (by omega), List.getD_eq_getElem?_getD, List.getElem?_eq_getElem (by omega)]
    rfl
theorem StrL.below {w w' : World} {a : Option Addr} {n : Nat} {xs : List Fv} (h : StrL w a n xs) (hb : Below w.heap.size w w') : StrL w' a n xs := by
  refine ⟨h.1, ?_⟩
  rcases h.2 with h0 | ⟨b, off, e, hc⟩
  · exact .inl h0
  · exact .inr ⟨b, off, e, fun i hi => (hb.cell (p := ⟨b, off + i, none⟩) (block_lt_of_cell (hc i hi))).trans (hc i hi)⟩
set_option maxHeartbeats 1000000 in
set_option maxRecDepth 20000 in
theorem rtextt_any (a : Option Addr) (len cap : Nat) (tag : Int) (fs : List Fv) (w : World) (hF : FieldsL w a len fs) (hlen : len ≤ 40000) : Calls Tryd.prog 69 #[.slice a len cap, .int .i64 tag] w (textPost fs tag w) := by
  have T := rtexts_any a len cap tag fs w hF hlen
  have hfl : (fs.filter (hit tag 1)).length ≤ 40000 := Nat.le_trans (List.length_filter_le _ _) (by rw [hF.1]; exact hlen)
  go_enter Tryd.func69, Tryd.ntmps69
  go_wp2_with fail
  refine T.mono ?_
  clear T
  rintro e w1 ⟨v, rfl, hO, hB⟩
  obtain ⟨a1, c1, rfl, hS⟩ := own_strs hO
  have HB : Hid (Below w.heap.size w w1) := hB
  clear hO hB hF
  cases hc : fs.filter (hit tag 1) with
  | nil =>
    rw [List.length_nil]
    go_wp2_with fail
    go_ret2
    exact ⟨.inr ⟨by rw [hc]; rfl, rfl⟩, HB.out⟩
  | cons f l =>
    rw [hc] at hS hfl
    have hne : ¬ (((f :: l).length : Nat) : Int) = 0 := by simp; omega
    rcases hS.2 with h0 | ⟨b, off, rfl, hcl⟩
    · simp at h0
    have c0 : w1.cell? ⟨b, off, none⟩ = some (.string f.s) := hcl 0 (by simp)
    have i0 : (0 : Int) < (((f :: l).length : Nat) : Int) := by simp
    have HH : Hid ((fs.filter (hit tag 1)).head? = some f) := by rw [hc]; rfl
    clear hcl hS hc
    generalize (f :: l).length = n at *
    go_wp2_with fail
    go_ret2
    exact ⟨.inl ⟨f, HH.out, rfl⟩, HB.out⟩
end Go.Proofs.YtealbeblkilibaaDoor.FI
/- Proved: plain facts: fields without fault are the record of their bytes, and the other way. -/
namespace Go.Proofs.YtealbeblkilibaaDoor.FI
open Go.RowKit
theorem Good.fits {f : Fv} (h : Good f) : f.Fits := by
  have h1 := h.tag1; have h2 := h.tag63; have h3 := h.kind; have h4 := h.len
  refine ⟨?_, ?_, ?_, ?_⟩
  · unfold In64; omega
  · unfold In64; omega
  · unfold In64; omega
  · omega
theorem fault_up : ∀ (p : Int) (fs : List Fv), fault p fs = 0 → Fi.Up (fs.map fd)
  | _, [], _ => trivial
  | _, [_], _ => trivial
  | p, f :: g :: l, h => by
    have hg := fault_good p (f :: g :: l) h
    have gf := hg f List.mem_cons_self
    have gg := hg g (List.mem_cons_of_mem _ List.mem_cons_self)
    by_cases h3 : f.tag < p
    · rw [fault_state gf.may (by have := gf.len; omega) h3] at h; omega
    · rw [fault_next gf.may (by have := gf.len; omega) h3] at h
      refine ⟨?_, fault_up f.tag (g :: l) h⟩
      by_cases h4 : g.tag < f.tag
      · rw [fault_state gg.may (by have := gg.len; omega) h4] at h; omega
      · show f.tag.toNat ≤ g.tag.toNat
        omega
theorem fault_none : ∀ (p : Int) (fs : List Fv), (∀ f ∈ fs, Good f) → Fi.Up (fs.map fd) → (∀ f, fs.head? = some f → p ≤ f.tag) → fault p fs = 0
  | _, [], _, _, _ => rfl
  | p, f :: l, hg, hu, hp => by
    have gf := hg f List.mem_cons_self
    rw [fault_next gf.may (by have := gf.len; omega) (by have := hp f rfl; omega)]
    refine fault_none f.tag l (fun x hx => hg x (List.mem_cons_of_mem _ hx)) ?_ ?_
    · cases l with
      | nil => trivial
      | cons g l => exact hu.2
    · intro g he
      cases l with
      | nil => cases he
      | cons g' l =>
        cases he
        have h1 : f.tag.toNat ≤ g.tag.toNat := hu.1
        have h2 := (hg g (List.mem_cons_of_mem _ List.mem_cons_self)).tag1
        have h3 := gf.tag1
        omega
theorem enc_dec {fs : List Fv} (h : encE fs = 0) : Dec (enc fs) fs := by
  unfold encE at h
  by_cases hf : fault 0 fs = 0
  · rw [if_neg (by simp [hf])] at h
    by_cases hl : 65536 < (enc fs).length
    · rw [if_pos hl] at h; omega
    · exact ⟨by omega, fault_good 0 fs hf, fault_up 0 fs hf, rfl⟩
  · rw [if_pos hf] at h
    exact absurd h hf
theorem dec_enc {bs : List Nat} {fs : List Fv} (h : Dec bs fs) : encE fs = 0 := by
  have hf : fault 0 fs = 0 := fault_none 0 fs h.good h.up (fun f hf => by
    have := (h.good f (List.mem_of_head? hf)).tag1
    omega)
  unfold encE
  rw [if_neg (by simp [hf]), if_neg (by rw [h.eq]; have := h.len; omega)]
theorem encS_of {fs : List Fv} (h : encE fs = 0) : encS fs = tb (enc fs) := by unfold encS; rw [if_pos h]
theorem encS_bl {fs : List Fv} (h : encE fs = 0) : bl (encS fs) = enc fs := by
  rw [encS_of h, bl_tb (enc_lt (enc_dec h).good)]
theorem encS_back {s : ByteArray} {fs : List Fv} (h : Dec (bl s) fs) : encS fs = s := by
  rw [encS_of (dec_enc h), h.eq, tb_bl]
theorem encS_size (fs : List Fv) : (encS fs).size ≤ 65536 := by
  by_cases h : encE fs = 0
  · rw [encS_of h, tb_size]; exact (enc_dec h).len
  · unfold encS; rw [if_neg h]; decide
/- the fields as few leaves them -/
theorem cut_fits {f : Fv} (h : f.Fits) : (cut f).Fits := by
  unfold cut
  split
  · exact h
  · refine ⟨h.tag, h.kind, h.n, ?_⟩
    show (f.s.extract 0 4100).size ≤ _
    rw [ByteArray.size_extract]
    omega
theorem few_fits {w : World} {a : Option Addr} {len : Nat} {fs : List Fv} (h : FieldsL w a len fs) (n : Nat) : ∀ f ∈ (fs.take n).map cut, f.Fits := fun f hf => by
  obtain ⟨g, hg, rfl⟩ := List.mem_map.1 hf
  exact cut_fits (h.2.1 g (List.mem_of_mem_take hg))
end Go.Proofs.YtealbeblkilibaaDoor.FI
/- Proved: inodes and what is archived, their records, by plain values. No program, no world. -/
namespace Go.Proofs.YtealbeblkilibaaDoor
open Go.RowKit
open FI (Fv fv0 putV hit)
namespace Ino
structure Nd where
  kind : Int
  size : Int
  sum : List UInt8
  content : Int
  version : Int
  opened : Int
structure Ar where
  version : Int
  size : Int
  sum : List UInt8
def noughts : List UInt8 := List.replicate 32 0
def dirN : Nd := ⟨1, 0, noughts, 0, 0, 0⟩
def zeroN : Nd := ⟨0, 0, noughts, 0, 0, 0⟩
def zeroA : Ar := ⟨0, 0, noughts⟩
def same (a b : Nd) : Bool := a.kind == b.kind && (a.size == b.size && (a.sum == b.sum && (a.content == b.content && (a.version == b.version && a.opened == b.opened))))
theorem same_iff (a b : Nd) : same a b = true ↔ a = b := by
  obtain ⟨a1, a2, a3, a4, a5, a6⟩ := a
  obtain ⟨b1, b2, b3, b4, b5, b6⟩ := b
  simp [same]
def samA (a b : Ar) : Bool := a.version == b.version && (a.size == b.size && a.sum == b.sum)
theorem samA_iff (a b : Ar) : samA a b = true ↔ a = b := by
  obtain ⟨a1, a2, a3⟩ := a
  obtain ⟨b1, b2, b3⟩ := b
  simp [samA]
def okSize (n : Int) : Bool := decide (0 ≤ n) && decide (n ≤ 4096)
def okStamp (n : Int) : Bool := decide (0 ≤ n) && decide (n ≤ 1099511627776)
def isFile (n : Nd) : Bool := n.kind == 2 && (!(n.content == 0 && n.version == 0) && (okSize n.size && (okStamp n.content && (okStamp n.version && okStamp n.opened))))
def chk (n : Nd) : Nat := if same n dirN = true ∨ isFile n = true then 0 else 2
def okA (a : Ar) : Bool := a.version != 0 && (okStamp a.version && okSize a.size)
def chkA (a : Ar) : Nat := if okA a = true then 0 else 2
def numF (tag n : Int) : List Fv := if n = 0 then [] else [⟨tag, 0, n, ⟨#[]⟩⟩]
def sumF (d : List UInt8) : List Fv := [⟨3, 1, 0, mk d⟩]
def recN (n : Nd) : List Fv := numF 1 n.kind ++ numF 2 n.size ++ (if n.kind = 2 then sumF n.sum else []) ++ numF 4 n.content ++ numF 5 n.version ++ numF 6 n.opened
def recA (a : Ar) : List Fv := numF 2 a.size ++ sumF a.sum ++ numF 5 a.version
def numV (fs : List Fv) (tag : Int) : Int := match (fs.filter (hit tag 0)).head? with
  | some f => f.n
  | none => 0
def txtV (fs : List Fv) (tag : Int) : ByteArray := match (fs.filter (hit tag 1)).head? with
  | some f => f.s
  | none => ⟨#[]⟩
def sumV (s : ByteArray) : List UInt8 := (bl s).take 32 ++ List.replicate (32 - min 32 s.size) 0
theorem sumV_length (s : ByteArray) : (sumV s).length = 32 := by
  have := bl_length s
  simp only [sumV, List.length_append, List.length_take, List.length_replicate]; omega
theorem sumV_mk {d : List UInt8} (h : d.length = 32) : sumV (mk d) = d := by
  unfold sumV
  rw [bl_mk, mk_size, h, List.take_of_length_le (by omega)]
  simp
def ndOf (fs : List Fv) : Nd := ⟨numV fs 1, numV fs 2, sumV (txtV fs 3), numV fs 4, numV fs 5, numV fs 6⟩
def arOf (fs : List Fv) : Ar := ⟨numV fs 5, numV fs 2, sumV (txtV fs 3)⟩
def feq (f g : Fv) : Bool := f.tag == g.tag && (f.kind == g.kind && (f.n == g.n && f.s.toList == g.s.toList))
theorem feq_iff (f g : Fv) : feq f g = true ↔ f = g := by
  obtain ⟨a1, a2, a3, a4⟩ := f
  obtain ⟨b1, b2, b3, b4⟩ := g
  simp only [feq, Bool.and_eq_true, beq_iff_eq, Fv.mk.injEq]
  have : a4.toList = b4.toList ↔ a4 = b4 := ⟨fun h => bl_inj (by rw [ByteArray.toList_eq, ByteArray.toList_eq] at h; exact h), fun h => by rw [h]⟩
  rw [this]
def leq : List Fv → List Fv → Bool
  | [], [] => true
  | f :: a, g :: b => feq f g && leq a b
  | _, _ => false
theorem leq_iff : ∀ a b : List Fv, leq a b = true ↔ a = b
  | [], [] => by simp [leq]
  | f :: a, g :: b => by rw [leq, Bool.and_eq_true, feq_iff, leq_iff a b, List.cons.injEq]
  | [], _ :: _ => by simp [leq]
  | _ :: _, [] => by simp [leq]
theorem leq_same (a : List Fv) : leq a a = true := (leq_iff a a).2 rfl
def decE (fs : List Fv) : Nat := if chk (ndOf fs) = 0 ∧ leq (recN (ndOf fs)) fs = true then 0 else 5
def decN (fs : List Fv) : Nd := if decE fs = 0 then ndOf fs else zeroN
def decAE (fs : List Fv) : Nat := if chkA (arOf fs) = 0 ∧ leq (recA (arOf fs)) fs = true then 0 else 5
def decA (fs : List Fv) : Ar := if decAE fs = 0 then arOf fs else zeroA
/- ---- read back ---- -/
theorem fil_num (t k tag n : Int) : (numF tag n).filter (hit t k) = if tag = t ∧ k = 0 then numF tag n else [] := by
  unfold numF hit
  by_cases h : n = 0
  · simp [h]
  · by_cases h1 : tag = t
    · by_cases h2 : k = 0
      · simp [h, h1, h2]
      · simp [h, h1, h2]; omega
    · simp [h, h1]
theorem fil_sum (t k : Int) (d : List UInt8) : (sumF d).filter (hit t k) = if t = 3 ∧ k = 1 then sumF d else [] := by
  unfold sumF hit
  by_cases h1 : t = 3
  · by_cases h2 : k = 1
    · simp [h1, h2]
    · simp [h1, h2]; omega
  · simp [h1]; omega
theorem fil_if (c : Prop) [Decidable c] (t k : Int) (d : List UInt8) : (if c then sumF d else []).filter (hit t k) = if c ∧ t = 3 ∧ k = 1 then sumF d else [] := by
  by_cases h : c
  · simp [h, fil_sum]
  · simp [h]
theorem head_num (tag n : Int) : (match (numF tag n).head? with | some f => f.n | none => 0) = n := by
  unfold numF
  by_cases h : n = 0 <;> simp [h]
theorem nd_back {n : Nd} (hs : n.sum.length = 32) (hk : n.kind = 2 ∨ n.sum = noughts) : ndOf (recN n) = n := by
  obtain ⟨k, s, d, c, v, o⟩ := n
  simp only at hs hk
  have e1 : numV (recN ⟨k, s, d, c, v, o⟩) 1 = k := by simp only [numV, recN, List.filter_append, fil_num, fil_if]; simpa using head_num 1 k
  have e2 : numV (recN ⟨k, s, d, c, v, o⟩) 2 = s := by simp only [numV, recN, List.filter_append, fil_num, fil_if]; simpa using head_num 2 s
  have e4 : numV (recN ⟨k, s, d, c, v, o⟩) 4 = c := by simp only [numV, recN, List.filter_append, fil_num, fil_if]; simpa using head_num 4 c
  have e5 : numV (recN ⟨k, s, d, c, v, o⟩) 5 = v := by simp only [numV, recN, List.filter_append, fil_num, fil_if]; simpa using head_num 5 v
  have e6 : numV (recN ⟨k, s, d, c, v, o⟩) 6 = o := by simp only [numV, recN, List.filter_append, fil_num, fil_if]; simpa using head_num 6 o
  have e3 : sumV (txtV (recN ⟨k, s, d, c, v, o⟩) 3) = d := by
    simp only [txtV, recN, List.filter_append, fil_num, fil_if]
    by_cases h : k = 2
    · simp [h, sumF, sumV_mk hs]
    · rcases hk with hk | hk
      · exact absurd hk h
      · simp [h, hk]; rfl
  unfold ndOf
  rw [e1, e2, e3, e4, e5, e6]
theorem ar_back {a : Ar} (hs : a.sum.length = 32) : arOf (recA a) = a := by
  obtain ⟨v, s, d⟩ := a
  simp only at hs
  have e2 : numV (recA ⟨v, s, d⟩) 2 = s := by simp only [numV, recA, List.filter_append, fil_num, fil_sum]; simpa using head_num 2 s
  have e5 : numV (recA ⟨v, s, d⟩) 5 = v := by simp only [numV, recA, List.filter_append, fil_num, fil_sum]; simpa using head_num 5 v
  have e3 : sumV (txtV (recA ⟨v, s, d⟩) 3) = d := by
    simp only [txtV, recA, List.filter_append, fil_num, fil_sum]
    simp [sumF, sumV_mk hs]
  unfold arOf
  rw [e2, e3, e5]
theorem chk_file {n : Nd} (h : isFile n = true) : n.kind = 2 := by
  simp only [isFile, Bool.and_eq_true, beq_iff_eq] at h
  exact h.1
theorem chk_cases {n : Nd} (h : chk n = 0) : n = dirN ∨ isFile n = true := by
  unfold chk at h
  by_cases h1 : same n dirN = true ∨ isFile n = true
  · exact h1.imp (same_iff _ _).1 id
  · rw [if_neg h1] at h; omega
theorem chk_le (n : Nd) : chk n = 0 ∨ chk n = 2 := by unfold chk; split <;> simp
theorem chkA_le (a : Ar) : chkA a = 0 ∨ chkA a = 2 := by unfold chkA; split <;> simp
theorem dec_back {n : Nd} (hs : n.sum.length = 32) (h : chk n = 0) : decE (recN n) = 0 ∧ decN (recN n) = n := by
  have e : ndOf (recN n) = n := nd_back hs (by rcases chk_cases h with h | h; exact .inr (by rw [h]; rfl); exact .inl (chk_file h))
  have e0 : decE (recN n) = 0 := by unfold decE; rw [e, if_pos ⟨h, leq_same _⟩]
  exact ⟨e0, by unfold decN; rw [if_pos e0, e]⟩
theorem decA_back {a : Ar} (hs : a.sum.length = 32) (h : chkA a = 0) : decAE (recA a) = 0 ∧ decA (recA a) = a := by
  have e : arOf (recA a) = a := ar_back hs
  have e0 : decAE (recA a) = 0 := by unfold decAE; rw [e, if_pos ⟨h, leq_same _⟩]
  exact ⟨e0, by unfold decA; rw [if_pos e0, e]⟩
/- ---- hollow, dirty, like ---- -/
def holl (n : Nd) : Bool := isFile n && n.content == 0
def dirt (n : Nd) (a : Ar) (b : Bool) : Bool := isFile n && (!b || (n.version == 0 || n.version != a.version))
def like (n : Nd) (size : Int) (d : List UInt8) : Bool := isFile n && (n.size == size && n.sum == d)
theorem file_iff (n : Nd) : (chk n = 0 ∧ n.kind = 2) ↔ isFile n = true := by
  constructor
  · rintro ⟨h, hk⟩
    rcases chk_cases h with h | h
    · rw [h] at hk; exact absurd hk (by decide)
    · exact h
  · intro h
    exact ⟨by unfold chk; rw [if_pos (.inr h)], chk_file h⟩
/- ---- a field put behind others ---- -/
theorem putV_end : ∀ (l : List Fv) (f : Fv), (∀ g ∈ l, g.tag ≤ f.tag) → putV l f = l ++ [f]
  | [], _, _ => rfl
  | g :: l, f, h => by
    have h1 := h g (by simp)
    rw [putV, if_neg (by omega), putV_end l f (fun x hx => h x (by simp [hx]))]; rfl
def putN (l : List Fv) (tag n : Int) : List Fv := if n = 0 then l else putV l ⟨tag, 0, n, ⟨#[]⟩⟩
theorem putN_eq {l : List Fv} {tag : Int} (n : Int) (h : ∀ g ∈ l, g.tag ≤ tag) : putN l tag n = l ++ numF tag n := by
  unfold putN numF
  by_cases h0 : n = 0
  · simp [h0]
  · rw [if_neg h0, if_neg h0, putV_end _ _ (fun g hg => h g hg)]
theorem tag_num {tag n : Int} {g : Fv} (h : g ∈ numF tag n) : g.tag = tag := by
  unfold numF at h
  split at h
  · cases h
  · rw [List.mem_singleton] at h; rw [h]
theorem tag_sum {d : List UInt8} {g : Fv} (h : g ∈ sumF d) : g.tag = 3 := by
  rw [sumF, List.mem_singleton] at h; rw [h]
theorem rec_put (n : Nd) : putN (putN (putN ((if n.kind = 2 then fun l => putV l ⟨3, 1, 0, mk n.sum⟩ else id) (putN (putN [] 1 n.kind) 2 n.size)) 4 n.content) 5 n.version) 6 n.opened = recN n := by
  have t1 : ∀ g ∈ numF 1 n.kind, g.tag ≤ 2 := fun g hg => by rw [tag_num hg]; omega
  have t2 : ∀ g ∈ numF 1 n.kind ++ numF 2 n.size, g.tag ≤ 3 := fun g hg => by
    rcases List.mem_append.1 hg with hg | hg
    · rw [tag_num hg]; omega
    · rw [tag_num hg]; omega
  rw [putN_eq n.kind (fun g hg => by cases hg), List.nil_append, putN_eq n.size t1]
  have e3 : (if n.kind = 2 then fun l => putV l ⟨3, 1, 0, mk n.sum⟩ else id) (numF 1 n.kind ++ numF 2 n.size) = numF 1 n.kind ++ numF 2 n.size ++ (if n.kind = 2 then sumF n.sum else []) := by
    by_cases h : n.kind = 2
    · rw [if_pos h, if_pos h, putV_end _ _ t2]; rfl
    · rw [if_neg h, if_neg h]; simp
  rw [e3]
  have t3 : ∀ g ∈ numF 1 n.kind ++ numF 2 n.size ++ (if n.kind = 2 then sumF n.sum else []), g.tag ≤ 3 := fun g hg => by
    rcases List.mem_append.1 hg with hg | hg
    · exact t2 g hg
    · by_cases h : n.kind = 2
      · rw [if_pos h] at hg; rw [tag_sum hg]; omega
      · rw [if_neg h] at hg; cases hg
  rw [putN_eq n.content (fun g hg => by have := t3 g hg; omega)]
  have t4 : ∀ g ∈ numF 1 n.kind ++ numF 2 n.size ++ (if n.kind = 2 then sumF n.sum else []) ++ numF 4 n.content, g.tag ≤ 4 := fun g hg => by
    rcases List.mem_append.1 hg with hg | hg
    · have := t3 g hg; omega
    · rw [tag_num hg]; omega
  rw [putN_eq n.version (fun g hg => by have := t4 g hg; omega)]
  have t5 : ∀ g ∈ numF 1 n.kind ++ numF 2 n.size ++ (if n.kind = 2 then sumF n.sum else []) ++ numF 4 n.content ++ numF 5 n.version, g.tag ≤ 5 := fun g hg => by
    rcases List.mem_append.1 hg with hg | hg
    · have := t4 g hg; omega
    · rw [tag_num hg]; omega
  rw [putN_eq n.opened (fun g hg => by have := t5 g hg; omega)]
  rfl
theorem recA_put (a : Ar) : putN (putV (putN [] 2 a.size) ⟨3, 1, 0, mk a.sum⟩) 5 a.version = recA a := by
  rw [putN_eq a.size (fun g hg => by cases hg), List.nil_append, putV_end _ _ (fun g hg => by rw [tag_num hg]; show (2 : Int) ≤ 3; omega)]
  have t3 : ∀ g ∈ numF 2 a.size ++ [(⟨3, 1, 0, mk a.sum⟩ : Fv)], g.tag ≤ 5 := fun g hg => by
    rcases List.mem_append.1 hg with hg | hg
    · rw [tag_num hg]; omega
    · rw [List.mem_singleton.1 hg]; show (3 : Int) ≤ 5; omega
  rw [putN_eq a.version t3]
  rfl
end Ino
end Go.Proofs.YtealbeblkilibaaDoor
