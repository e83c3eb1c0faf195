/- Proved: Decode answers the record that has the bytes, or none. -/
import Derived.Test.YtealbeblkilibaaDoorJ07
import Derived.Lib.ConvBytes
import Derived.Maps.AppendAt
namespace Go.Proofs.YtealbeblkilibaaDoor.FI
open Go.RowKit Go.Shelf
attribute [local go_sem] Oper.semAt_some
def DecPost (bs : List Nat) (w : World) (e : Ending) (w' : World) : Prop :=
  (∃ l v, Dec bs l ∧ e = .returned (.tuple #[v, .int .i64 0]) ∧ w'.ownsRow w.heap.size 79 4 v l.length (l.flatMap fcells) ∧ Below w.heap.size w w') ∨
  ((∀ l, ¬ Dec bs l) ∧ e = .returned (.tuple #[.slice none 0 0, .int .i64 5]) ∧ Below w.heap.size w w')
theorem oks_inj {a b : List Fv} (h : oks a = oks b) : a = b := by
  have h := congrArg (List.map Prod.fst) h
  simpa [oks, Function.comp_def] using h
theorem own_cells {w : World} {N n : Nat} {v : Value} {vs : List Value} {e : TypeId} {k : Nat} (h : w.ownsRow N e k v n vs) : ∀ (j : Nat) (o : Obj), v.ownBlock = some j → w.heap[j]? = some o → o.isCells = true := fun j o hj ho => by
  rcases h.2 with ⟨hv, _⟩ | ⟨g', cap', cur, hv, hNg, hh, _⟩
  · subst hv; cases hj
  · subst hv
    have : g' = j := Option.some.inj hj
    subst this
    rw [hh] at ho
    cases ho
    rfl
theorem Kept.setCell (K : Nat → Prop) (A : World) (a : Addr) (v : Value) (h : ¬ K a.block) : Kept K A (A.setCell a v) :=
  ⟨by rw [size_set]; exact Nat.le_refl _, fun k hk _ => Below.heap_setCell _ _ _ _ (fun e => h (e ▸ hk))⟩
theorem Kept.grown (K : Nat → Prop) {A B : World} {row : Option Nat} (hg : A.grownBy B row) (h : ∀ k, row = some k → ¬ K k) : Kept K A B :=
  ⟨hg.size, fun k hk hl => hg.block k hl (fun e => h k e.symm hk)⟩
theorem owns_base {w : World} {N M n : Nat} {v : Value} {vs : List Value} {e : TypeId} {k : Nat} (h : w.ownsRow M e k v n vs) (hN : N ≤ M) : w.ownsRow N e k v n vs := by
  obtain ⟨h0, h1⟩ := h
  refine ⟨h0, ?_⟩
  rcases h1 with h1 | ⟨g, cap', cur, hv, hM, r⟩
  · exact .inl h1
  · exact .inr ⟨g, cap', cur, hv, Nat.le_trans hN hM, r⟩
theorem fin_any (v : Value) (a : Option Addr) (len cap : Nat) (hv : v = .slice a len cap) (w : World) : Calls Tryd.prog 55 #[v] w fun e w' => e = .returned (.func (.func 74) #[] #[.pointer (some ⟨w.heap.size, 0, none⟩)]) ∧ w' = w.alloc (.cells #[v] 97) := by
  subst hv
  have hmf : ∀ (fn : Fn) (first cap : Array Value) (w : World), (Instr.makeFunc fn first cap).run Tryd.prog w = .ok (.func fn first cap) w := fun _ _ _ _ => rfl
  go_enter Tryd.func55, Tryd.ntmps55
  go_wp2
  go_ret
  exact ⟨rfl, rfl⟩
theorem results_22_24 {fn : Func} {p u : Tmp} (h : fn.results = #[.cell p 40, .cell u 25]) (tmps : Array Value) (w : World) (b c : Nat) (v x : Value)
    (hp : tmps.getD p undef = .pointer (some ⟨b, 0, none⟩)) (hu : tmps.getD u undef = .pointer (some ⟨c, 0, none⟩)) (hv : w.cell? ⟨b, 0, none⟩ = some v) (hx : w.cell? ⟨c, 0, none⟩ = some x) : (results fn tmps).run Tryd.prog w = .ok (.tuple #[v, x]) w := by
  have hp' : tmps[p]?.getD undef = .pointer (some ⟨b, 0, none⟩) := by simpa using hp
  have hu' : tmps[u]?.getD undef = .pointer (some ⟨c, 0, none⟩) := by simpa using hu
  have l1 : (loadVar 40 ⟨b, 0, none⟩).run Tryd.prog w = .ok v w := by
    simp [loadVar, isAgg, run_underlying Tryd.underlying40, hv, go_sem]
  have l2 : (loadVar 25 ⟨c, 0, none⟩).run Tryd.prog w = .ok x w := by
    simp [loadVar, isAgg, run_underlying Tryd.underlying25, hx, go_sem]
  simp [results, h, hp', hu', asAddr, l1, l2]
theorem conv_any (s : ByteArray) (hs : s.size ≤ 9223372036854775807) (W : World) (B : Nat) (hB : W.heap.size = B) : ∃ (W5 : World) (C : Nat), (convert 9 97 (.string s)).run Tryd.prog W = .ok (.slice (some ⟨B, 0, none⟩) s.size C) W5 ∧ W5.heap.size = B + 1 ∧ Below B W W5 ∧ (∀ i, i < (bl s).length → W5.cell? ⟨B, 0 + i, none⟩ = some (V8 ((bl s).getD i 0))) ∧ s.size ≤ C ∧ C ≤ 9223372036854775807 := by
  subst hB
  refine ⟨_, _, Lib.run_convert_string_bytes (P := Tryd.prog) W 9 97 5 s Tryd.underlying9 Tryd.underlying97 Tryd.underlying5, Lib.bytesWorld_size _ _ _, ⟨rfl, rfl, rfl, by rw [Lib.bytesWorld_size]; omega, fun k hk => Lib.bytesWorld_at_old _ _ _ _ hk⟩, fun i hi => ?_, grownCap_ge _ _ _ _, ?_⟩
  · rw [bl_length] at hi
    rw [Nat.zero_add, Lib.bytesWorld_cell W 5 s i hi]
    have hi' : i < s.data.toList.length := by rw [Array.length_toList]; exact hi
    unfold bl V8
    rw [List.getD_eq_getElem?_getD, List.getD_eq_getElem?_getD, List.getElem?_map, List.getElem?_eq_getElem hi']
    rfl
  · have := grownCap_le_maxLen W s.size 0 5 (by unfold maxLen; omega)
    unfold maxLen at this
    omega
/- what holds between two rounds of Decode's loop; what holds when a round has left it -/
def DI (M : Nat) (w : World) (xs : List (Fv × Bool)) (A : World) : Prop :=
  ∃ pre v, xs = oks pre ∧ Boxed A w.heap.size 40 (.slice none 0 0) ∧ Boxed A (w.heap.size + 1) 25 (.int .i64 0) ∧ Boxed A (w.heap.size + 1 + 1) 40 v ∧ Boxed A (w.heap.size + 1 + 1 + 1) 3 (.int .i64 (lastTag pre)) ∧ A.ownsRow M 79 4 v pre.length (pre.flatMap fcells) ∧ Fi.Up (pre.map fd) ∧ Below w.heap.size w A
def DX (bs : List Nat) (w : World) (A : World) : Prop := Boxed A w.heap.size 40 (.slice none 0 0) ∧ Boxed A (w.heap.size + 1) 25 (.int .i64 5) ∧ (∀ l, ¬ Dec bs l) ∧ Below w.heap.size w A
set_option maxHeartbeats 2000000 in
set_option maxRecDepth 20000 in
theorem dec_any (s : ByteArray) (w : World) (hs : s.size ≤ 9223372036854775807) : Calls Tryd.prog 34 #[.string s] w (DecPost (bl s) w) := by
  refine (callsIn_wide (n := 10)).1 ?_
  by_cases hbig : 65536 < s.size
  · have hbig' : (65536 : Int) < (s.size : Int) := by omega
    refine callsIn_of_wp_marks Tryd.func34 rfl trivial ?_ rfl
    simp only [Tryd.ntmps34, List.size_toArray, List.length_cons, List.length_nil, Nat.reduceAdd, Nat.reduceSub, Array.replicate_succ, Array.replicate_zero, List.push_toArray, List.append_toArray, List.nil_append, List.cons_append]
    gi_wp2_with fail
    refine ⟨_, results_22_24 rfl _ _ w.heap.size (w.heap.size + 1) _ _ rfl rfl (Boxed.cell ((Boxed.new w 40 _).alloc _)) (Boxed.cell (by have h := Boxed.new (w.alloc (.cells #[.slice none 0 0] 40)) 25 (.int .i64 5); rw [size_alloc1] at h; exact h)), ?_⟩
    exact .inr ⟨fun l hl => by have := hl.len; rw [bl_length] at this; omega, rfl, ((Below.refl _ _).alloc (Nat.le_refl _) _).alloc (by simp) _⟩
  · have hbig' : ¬ (65536 : Int) < (s.size : Int) := by omega
    obtain ⟨W5, C, HCV, hz5, hb5, hc5, hC1, hC2⟩ := conv_any s hs ((((w.alloc (.cells #[.slice none 0 0] 40)).alloc (.cells #[.int .i64 0] 25)).alloc (.cells #[.slice none 0 0] 40)).alloc (.cells #[.int .i64 0] 3)) (w.heap.size + 1 + 1 + 1 + 1) (by simp)
    have HB5 : Hid (Below (w.heap.size + 1 + 1 + 1 + 1) _ W5) := hb5
    have HC5 : Hid (∀ i, i < (bl s).length → W5.cell? ⟨w.heap.size + 1 + 1 + 1 + 1, 0 + i, none⟩ = some (V8 ((bl s).getD i 0))) := hc5
    have HZ5 : Is W5.heap.size (w.heap.size + 1 + 1 + 1 + 1 + 1) := ⟨hz5⟩
    clear hb5 hc5 hz5
    have FI := fin_any (.slice (some ⟨w.heap.size + 1 + 1 + 1 + 1, 0, none⟩) s.size C) _ _ _ rfl W5
    refine callsIn_of_wp_marks Tryd.func34 rfl trivial ?_ rfl
    simp only [Tryd.ntmps34, List.size_toArray, List.length_cons, List.length_nil, Nat.reduceAdd, Nat.reduceSub, Array.replicate_succ, Array.replicate_zero, List.push_toArray, List.append_toArray, List.nil_append, List.cons_append]
    gi_wp2_with (first | (refine ⟨trivial, ?_⟩; gi_at_call 55; refine (callsIn_wide.2 FI).mono ?_; rintro e w1 ⟨rfl, rfl⟩))
    obtain ⟨G, hG⟩ : ∃ G, G = w.heap.size + 1 + 1 + 1 + 1 := ⟨_, rfl⟩
    obtain ⟨Bin, hBin⟩ : ∃ Bin, Bin = W5.heap.size := ⟨_, rfl⟩
    rw [← hG, ← hBin]
    obtain ⟨W6, hW6⟩ : ∃ W6, W5.alloc (.cells #[.slice (some ⟨G, 0, none⟩) s.size C] 97) = W6 := ⟨_, rfl⟩
    rw [hW6]
    have hz6 : W6.heap.size = w.heap.size + 6 := by rw [← hW6, size_alloc1, HZ5.eq]
    have hBin5 : Bin = w.heap.size + 5 := by rw [hBin, HZ5.eq]
    have hG4 : G = w.heap.size + 4 := hG
    have hb6 : Below W5.heap.size W5 W6 := by rw [← hW6]; exact (Below.refl _ _).alloc (Nat.le_refl _) _
    have HB6 : Hid (Boxed W6 Bin 97 (.slice (some ⟨G, 0, none⟩) (bl s).length C)) := by rw [← hW6, hBin, bl_length]; exact Boxed.new W5 97 _
    have HC6 : Hid (∀ i, i < (bl s).length → W6.cell? ⟨G, 0 + i, none⟩ = some (V8 ((bl s).getD i 0))) := fun i hi => (hb6.cell (p := ⟨G, 0 + i, none⟩) (by show G < W5.heap.size; rw [HZ5.eq]; omega)).trans (by rw [hG]; exact HC5.out i hi)
    have hold : ∀ k, k < w.heap.size + 4 → W6.heap[k]? = ((((w.alloc (.cells #[.slice none 0 0] 40)).alloc (.cells #[.int .i64 0] 25)).alloc (.cells #[.slice none 0 0] 40)).alloc (.cells #[.int .i64 0] 3)).heap[k]? := fun k hk => (hb6.block k (by rw [HZ5.eq]; omega)).trans (HB5.out.block k (by omega))
    have HBW : Hid (Below w.heap.size w W6) := ((((((Below.refl w.heap.size w).alloc (Nat.le_refl _) _).alloc (by simp) _).alloc (by simp; omega) _).alloc (by simp; omega) _).trans (HB5.out.mono (by omega))).trans (hb6.mono (by rw [HZ5.eq]; omega))
    have H0 : Hid (Boxed W6 w.heap.size 40 (.slice none 0 0)) := (hold _ (by omega)).trans (((Boxed.new w 40 _).alloc _).alloc _ |>.alloc _)
    have H1 : Hid (Boxed W6 (w.heap.size + 1) 25 (.int .i64 0)) := (hold _ (by omega)).trans (by have h := ((Boxed.new (w.alloc (.cells #[.slice none 0 0] 40)) 25 (.int .i64 0)).alloc (.cells #[.slice none 0 0] 40)).alloc (.cells #[.int .i64 0] 3); rw [size_alloc1] at h; exact h)
    have H2 : Hid (Boxed W6 (w.heap.size + 1 + 1) 40 (.slice none 0 0)) := (hold _ (by omega)).trans (by have h := (Boxed.new ((w.alloc (.cells #[.slice none 0 0] 40)).alloc (.cells #[.int .i64 0] 25)) 40 (.slice none 0 0)).alloc (.cells #[.int .i64 0] 3); rw [size_alloc1, size_alloc1] at h; exact h)
    have H3 : Hid (Boxed W6 (w.heap.size + 1 + 1 + 1) 3 (.int .i64 0)) := (hold _ (by omega)).trans (by have h := Boxed.new (((w.alloc (.cells #[.slice none 0 0] 40)).alloc (.cells #[.int .i64 0] 25)).alloc (.cells #[.slice none 0 0] 40)) 3 (.int .i64 0); rw [size_alloc1, size_alloc1, size_alloc1] at h; exact h)
    have hsl : (bl s).length ≤ 65536 := by rw [bl_length]; omega
    clear hold hb6 HB5 HC5 HZ5 hBin hG HCV FI hW6
    obtain ⟨X, hX⟩ : ∃ X, X = W6.heap.size + 2 := ⟨_, rfl⟩
    refine range_rule (α := Fv × Bool) (gf := 74) (lb := #[.pointer (some ⟨Bin, 0, none⟩)]) rfl (enters_of Tryd.func74 (by kernel_rfl) rfl) (fld := Prod.fst) (K := fun k => k = G ∨ k = X) (by omega)
      (iter_yields 9 G X (bl s) W6 Bin 0 C hX HB6.out (by omega) (bl_lt s) (by rw [bl_length]; exact hC1) hC2 HC6.out) (fun _ => rfl)
      (DI (W6.heap.size + 3) w) (fun _ A => DX (bl s) w A)
      ?_ ?_ ?_
      (fun x b => { tmps := #[.string s, undef, .pointer (some ⟨w.heap.size, 0, none⟩), .pointer (some ⟨w.heap.size + 1, 0, none⟩), .pointer (some ⟨w.heap.size + 1 + 1, 0, none⟩), .pointer (some ⟨w.heap.size + 1 + 1 + 1, 0, none⟩), .pointer (some ⟨b, 0, none⟩), .bool x.2, .string s, .int .i64 s.size, .bool false, .string s, .slice (some ⟨G, 0, none⟩) s.size C, .func (.func 74) #[] #[.pointer (some ⟨Bin, 0, none⟩)], fv x.1, .bool x.2, undef, undef, undef, undef, undef, undef, undef, undef, undef, undef, undef, undef, undef, undef, undef], defers := [] })
      ?assign ?body ?done ?stop
    · rintro xs A B ⟨pre, v, rfl, b0, b1, b2, b3, ho, hu, hb⟩ ht
      exact ⟨pre, v, rfl, ht.boxed b0 (by omega), ht.boxed b1 (by omega), ht.boxed b2 (by omega), ht.boxed b3 (by omega), ht.owns ho, hu, ht.below hb (by omega) hb.size⟩
    · rintro xs A B ⟨b0, b1, hd, hb⟩ ht
      exact ⟨ht.boxed b0 (by omega), ht.boxed b1 (by omega), hd, ht.below hb (by omega) hb.size⟩
    · exact ⟨[], .slice none 0 0, rfl, H0.out, H1.out, H2.out, H3.out, ⟨rfl, .inl ⟨rfl, rfl⟩⟩, trivial, HBW.out⟩
    case assign =>
      intro l x A C hC
      obtain ⟨f, ok⟩ := x
      clear hG4 hBin5
      gi_wp2
      exact hC
    case body =>
      rintro l xs ⟨f, ok⟩ A0 A ⟨pre, v, rfl, b0, b1, b2, b3, ho, hu, hb⟩ ht hXb hAb hF ⟨pre', hpre, hP⟩
      obtain rfl : pre = pre' := oks_inj hpre
      have hvb : ∀ g, v.ownBlock = some g → W6.heap.size + 3 ≤ g ∧ g < A0.heap.size := fun g hg => own_row ho hg
      have b0 := ht.boxed b0 (by omega)
      have b1 := ht.boxed b1 (by omega)
      have b2 := ht.boxed b2 (by omega)
      have b3 := ht.boxed b3 (by omega)
      have ho := ht.owns ho
      have hb := ht.below hb (by omega) hb.size
      have B0 : Hid (Boxed A w.heap.size 40 (.slice none 0 0)) := b0
      have B1 : Hid (Boxed A (w.heap.size + 1) 25 (.int .i64 0)) := b1
      have B2 : Hid (Boxed A (w.heap.size + 1 + 1) 40 v) := b2
      have B3 : Hid (Boxed A (w.heap.size + 1 + 1 + 1) 3 (.int .i64 (lastTag pre))) := b3
      have HO : Hid (A.ownsRow (W6.heap.size + 3) 79 4 v pre.length (pre.flatMap fcells)) := ho
      have HB : Hid (Below w.heap.size w A) := hb
      have HVB : Hid (∀ g, v.ownBlock = some g → W6.heap.size + 3 ≤ g ∧ g < A0.heap.size) := hvb
      have x0 := b0.cell; have y0 := b0.frozen; have x1 := b1.cell; have y1 := b1.frozen; have x2 := b2.cell; have y2 := b2.frozen; have x3 := b3.cell; have y3 := b3.frozen
      obtain ⟨c0, c1, c2, c3⟩ := hF
      simp only [Nat.zero_add] at c0 c1 c2 c3
      have HGX : Hid (G = w.heap.size + 4 ∧ X = W6.heap.size + 2) := ⟨hG4, hX⟩
      clear b0 b1 b2 b3 ho hb hvb ht hpre hBin5 hG4 hX
      rcases hP with ⟨hok, rest, hrd⟩ | ⟨hok, rest, hne, hrd, hno⟩
      · obtain rfl : ok = true := hok
        have hrd : Read (bl s) (pre ++ [f]) rest := hrd
        have hlen : pre.length + 1 ≤ 40000 := by
          have h1 := enc_len (pre ++ [f])
          have h2 := congrArg List.length hrd.2
          rw [List.length_append] at h2
          rw [List.length_append] at h1
          simp only [List.length_singleton] at h1
          omega
        have HU : Hid (lastTag pre ≤ f.tag → Fi.Up ((pre ++ [f]).map fd)) := fun h => (up_snoc pre f (fun x hx => hrd.1 x (List.mem_append_left _ hx)) (hrd.1 f (List.mem_append_right _ List.mem_cons_self))).2 ⟨hu, h⟩
        by_cases hfall : f.tag < lastTag pre
        · have HD : Hid (∀ l, ¬ Dec (bl s) l) := dec_falls hrd hfall
          generalize lastTag pre = lt at *
          gi_wp2
          exact ⟨(KeepsOthers.setCell _ _ _).trans (KeepsOthers.setCell _ _ _), (B0.out.set _).other (by omega) _, (B1.out.other (by omega) _).set _, HD.out, (HB.out.setCell (p := ⟨w.heap.size, 0, none⟩) (Nat.le_refl _) _).setCell (p := ⟨w.heap.size + 1, 0, none⟩) (by show w.heap.size ≤ w.heap.size + 1; omega) _⟩
        · have HU2 : Hid (Fi.Up ((pre ++ [f]).map fd)) := HU.out (by omega)
          have hNA : W6.heap.size + 3 ≤ A.heap.size := by omega
          have HNE : Hid (∀ k, k < W6.heap.size + 3 → some k ≠ v.ownBlock) := fun k hk e => by have := (HVB.out k e.symm).1; omega
          have HNF : Hid (some A0.heap.size ≠ v.ownBlock) := fun e => by have := (HVB.out _ e.symm).2; omega
          have HF : Hid (FieldAt A A0.heap.size 0 f) := ⟨c0, by simpa using c1, by simpa using c2, by simpa using c3⟩
          have hB6 : w.heap.size + 1 + 1 + 1 < W6.heap.size + 3 := by rw [hz6]; omega
          clear HU hrd hu
          have HZ6 : Is W6.heap.size (w.heap.size + 6) := ⟨hz6⟩
          clear hz6
          generalize lastTag pre = lt at *
          gi_wp2_with (first | (gi_at_builtin; refine wpListIn_append_own _ rfl (.tmp 24) (.tmp 26) 40 rfl (W6.heap.size + 3) 79 Tryd.t79 (.agg #[.int .i64 0, .int .i64 0, .int .i64 0, .string ByteArray.empty]) 4 40 Tryd.underlying40 info38 rfl rfl rfl rfl (by omega) v pre.length (pre.flatMap fcells) rfl (owns_alloc HO.out _) ⟨A.heap.size, 0, none⟩ 1 1 (fcells f) rfl rfl (field_new A f) (fun u hu => fcells_one [f] u (by simpa using hu)) (by unfold maxLen; omega) (by omega) (by simp; omega) ?_; intro v' w1 ho1 hg1 _; obtain ⟨g', cap', rfl⟩ := ownsRow_succ ho1; have HO1 := (show Hid (w1.ownsRow (W6.heap.size + 3) 79 4 _ (pre.length + 1) _) from ho1); have HG1 := (show Hid (World.grownBy _ w1 v.ownBlock) from hg1); have B2' := (B2.out.alloc (.cells #[.int .i64 f.tag, .int .i64 f.kind, .int .i64 f.n, .string f.s] 79)).kept hg1 (HNE.out _ (by omega)); have B3' := (B3.out.alloc (.cells #[.int .i64 f.tag, .int .i64 f.kind, .int .i64 f.n, .string f.s] 79)).kept hg1 (HNE.out _ (by omega)); have x2' := B2'.cell; have y2' := B2'.frozen; have x3' := B3'.cell; have y3' := B3'.frozen; have d0 := ((World.cell?_of_block (w := A.alloc (.cells #[.int .i64 f.tag, .int .i64 f.kind, .int .i64 f.n, .string f.s] 79)) (hg1.block A0.heap.size (by simp; omega) HNF.out)).trans (HF.out.alloc _).tag : w1.cell? ⟨A0.heap.size, 0, none⟩ = _); clear ho1 hg1))
          have hgx := HGX.out
          have hz6 := HZ6.eq
          have hsA := HB.out.size
          refine ⟨((KeepsOthers.alloc A _).trans (KeepsOthers.of_grownBy HG1.out (own_cells (owns_alloc HO.out _)))).trans ((KeepsOthers.setCell _ _ _).trans (KeepsOthers.setCell _ _ _)), ?_, pre ++ [f], .slice (some ⟨g', 0, none⟩) (pre.length + 1) cap', by simp [oks], ?_, ?_, ?_, ?_, ?_, HU2.out, ?_⟩
          · refine ((Kept.alloc _ A _).trans (Kept.grown _ HG1.out (fun k hk => ?_))).trans ((Kept.setCell _ _ _ _ ?_).trans (Kept.setCell _ _ _ _ ?_))
            · have := HVB.out k hk
              omega
            · show ¬ (w.heap.size + 1 + 1 = G ∨ w.heap.size + 1 + 1 = X)
              omega
            · show ¬ (w.heap.size + 1 + 1 + 1 = G ∨ w.heap.size + 1 + 1 + 1 = X)
              omega
          · exact ((((B0.out.alloc _).kept HG1.out (HNE.out _ (by omega))).other (by omega) _).other (by omega) _)
          · exact ((((B1.out.alloc _).kept HG1.out (HNE.out _ (by omega))).other (by omega) _).other (by omega) _)
          · exact ((B2'.set _).other (by omega) _)
          · rw [lastTag_snoc]; exact ((B3'.other (by omega) _).set _)
          · have h := ownsRow_setCell_below (ownsRow_setCell_below HO1.out (a := ⟨w.heap.size + 1 + 1, 0, none⟩) (by show w.heap.size + 1 + 1 < _; omega) (.slice (some ⟨g', 0, none⟩) (pre.length + 1) cap')) (a := ⟨w.heap.size + 1 + 1 + 1, 0, none⟩) (by show w.heap.size + 1 + 1 + 1 < _; omega) (.int .i64 f.tag)
            rw [List.length_append, List.flatMap_append]
            simpa using h
          · refine ((HB.out.trans ((((Below.refl _ A).alloc (Nat.le_refl _) _).mono hsA).trans ((Below.refl _ _).grown HG1.out (by simp; omega) (fun k hk => ?_)))).setCell (p := ⟨w.heap.size + 1 + 1, 0, none⟩) (by show w.heap.size ≤ w.heap.size + 1 + 1; omega) _).setCell (p := ⟨w.heap.size + 1 + 1 + 1, 0, none⟩) (by show w.heap.size ≤ w.heap.size + 1 + 1 + 1; omega) _
            have := HVB.out k hk
            omega
      · obtain rfl : ok = false := hok
        have HD : Hid (∀ l, ¬ Dec (bl s) l) := dec_stuck hrd hne hno
        generalize lastTag pre = lt at *
        gi_wp2
        exact ⟨(KeepsOthers.setCell _ _ _).trans (KeepsOthers.setCell _ _ _), (B0.out.set _).other (by omega) _, (B1.out.other (by omega) _).set _, HD.out, (HB.out.setCell (p := ⟨w.heap.size, 0, none⟩) (Nat.le_refl _) _).setCell (p := ⟨w.heap.size + 1, 0, none⟩) (by show w.heap.size ≤ w.heap.size + 1; omega) _⟩
    case done =>
      rintro xs B hS ⟨pre, v, rfl, b0, b1, b2, b3, ho, hu, hb⟩ hlt hD
      have HDC : Hid (Dec (bl s) pre) := by
        rcases hS with ⟨pre', e, hrd⟩ | ⟨pre', x, e, hx, _⟩
        · obtain rfl := oks_inj e
          exact ⟨hsl, hrd.1, hu, by rw [hrd.2, List.append_nil]⟩
        · have hm : x ∈ oks pre := by rw [e]; exact List.mem_append_right _ List.mem_cons_self
          obtain ⟨f, _, rfl⟩ := List.mem_map.1 hm
          cases hx
      have HB0 : Hid (Boxed B w.heap.size 40 (.slice none 0 0)) := b0
      have HB1 : Hid (Boxed B (w.heap.size + 1) 25 (.int .i64 0)) := b1
      have HO : Hid (B.ownsRow (W6.heap.size + 3) 79 4 v pre.length (pre.flatMap fcells)) := ho
      have HB : Hid (Below w.heap.size w B) := hb
      have HD : Hid (B.heap[W6.heap.size]? = some (.deferred (some []))) := hD
      have HZ6 : Is W6.heap.size (w.heap.size + 6) := ⟨hz6⟩
      have x0 := b0.cell; have y0 := b0.frozen; have x1 := b1.cell; have y1 := b1.frozen; have x2 := b2.cell
      have hv : (∃ ad n c, v = .slice ad n c) := by
        rcases ho.2 with ⟨h, _⟩ | ⟨g, cap', cur, h, _⟩
        · exact ⟨_, _, _, h⟩
        · exact ⟨_, _, _, h⟩
      obtain ⟨ad, n, c, rfl⟩ := hv
      clear b0 b1 b2 b3 ho hb hu hS hD hz6 hBin5 hG4 hX HB6 HC6 HBW H0 H1 H2 H3
      gi_wp2
      have hz6 := HZ6.eq
      refine ⟨by simp, .inl ⟨_, _, rfl, run_takeDeferred (((KeepsOthers.setCell _ _ _).trans (KeepsOthers.setCell _ _ _)).same _ _ HD.out rfl), ?_⟩⟩
      refine ⟨_, results_22_24 rfl _ _ w.heap.size (w.heap.size + 1) (.slice ad n c) (.int .i64 0) rfl rfl (Boxed.cell (t := 40) ((World.putObj_heap_other (by omega)).trans ((HB0.out.set _).other (by omega) _))) (Boxed.cell (t := 25) ((World.putObj_heap_other (by omega)).trans ((HB1.out.other (by omega) _).set _))), ?_⟩
      refine .inl ⟨pre, _, HDC.out, rfl, ?_, ?_⟩
      · refine ownsRow_putObj (owns_base (ownsRow_setCell_below (ownsRow_setCell_below HO.out (a := ⟨w.heap.size, 0, none⟩) (by show w.heap.size < _; omega) _) (a := ⟨w.heap.size + 1, 0, none⟩) (by show w.heap.size + 1 < _; omega) _) (by omega)) _ (((KeepsOthers.setCell _ _ _).trans (KeepsOthers.setCell _ _ _)).same _ _ HD.out rfl) rfl
      · exact ((HB.out.setCell (p := ⟨w.heap.size, 0, none⟩) (Nat.le_refl _) _).setCell (p := ⟨w.heap.size + 1, 0, none⟩) (by show w.heap.size ≤ w.heap.size + 1; omega) _).grown (grownBy_putObj' _ _ _) (by rw [size_set, size_set]; exact HB.out.size) (fun k e => by cases e; omega)
    case stop =>
      rintro xs B hS ⟨b0, b1, hd, hb⟩ hlt hD
      have HB0 : Hid (Boxed B w.heap.size 40 (.slice none 0 0)) := b0
      have HB1 : Hid (Boxed B (w.heap.size + 1) 25 (.int .i64 5)) := b1
      gi_wp2
      refine ⟨by simp, .inl ⟨_, _, rfl, run_takeDeferred hD, ?_⟩⟩
      refine ⟨_, results_22_24 rfl _ _ w.heap.size (w.heap.size + 1) (.slice none 0 0) (.int .i64 5) rfl rfl (Boxed.cell (t := 40) ((World.putObj_heap_other (by omega)).trans HB0.out)) (Boxed.cell (t := 25) ((World.putObj_heap_other (by omega)).trans HB1.out)), ?_⟩
      exact .inr ⟨hd, rfl, hb.grown (grownBy_putObj' _ _ _) hb.size (fun k e => by cases e; omega)⟩
end Go.Proofs.YtealbeblkilibaaDoor.FI
