/- Proved: field reads a field off the front of the bytes that are still to be read. -/
import Derived.Test.YtealbeblkilibaaDoorJ05
namespace Go.Proofs.YtealbeblkilibaaDoor.FI
open Go.RowKit
variable {G : Nat}
/- the field that stands at the front: its first byte is h -/
def HeadR (h : Nat) (bs : List Nat) (f : Fv) (rest : List Nat) : Prop :=
  (h % 2 = 0 ∧ NumR bs f rest) ∨ (h % 2 = 1 ∧ TextR bs f rest)
def FieldR (h : Nat) (bs : List Nat) (f : Fv) (rest : List Nat) : Prop :=
  1 ≤ h / 2 ∧ h / 2 ≤ 63 ∧ ∃ f0, HeadR h bs f0 rest ∧ f = { f0 with tag := ((h / 2 : Nat) : Int) }
theorem grownBy_heap {w w' : World} {B k : Nat} (h : w.grownBy w' (some B)) (hk : k < w.heap.size) (hne : k ≠ B) : w'.heap[k]? = w.heap[k]? :=
  h.block k hk (fun e => hne (Option.some.inj e))
theorem FieldAt.drew {w : World} {b off : Nat} {f : Fv} (h : FieldAt w b off f) : FieldAt w.drew b off f := ⟨h.tag, h.kind, h.n, h.s⟩
def Result4 (W : World) (b : Nat) : Prop := ∃ c0 c1 c2 c3 : Value, W.heap[b]? = some (.cells #[c0, c1, c2, c3] 79 (0, 0))
theorem Result4.of {W : World} {b : Nat} {c0 c1 c2 c3 : Value} (h : W.heap[b]? = some (.cells #[c0, c1, c2, c3] 79 (0, 0))) : Result4 W b := ⟨c0, c1, c2, c3, h⟩
theorem size_row (w : World) (g : Nat) (cs : Array Value) : (w.setRow g cs).heap.size = w.heap.size := by simp [World.setRow]
/- a whole field stored, as one step of a statement whose order is drawn -/
theorem step_store38 {o : Oper} {a : Act} {w : World} {K : Act → World → Prop} {Q : Exit → Act → World → Prop} (hd : o.dst = none) (x y : Operand) (ho : o.op = .store 79 x y) (g : Nat) (f : Fv) (hx : a.eval x = .pointer (some ⟨g, 0, none⟩)) (hy : a.eval y = fv f)
    (hz : Result4 w g) (h : K a (w.setRow g #[.int .i64 f.tag, .int .i64 f.kind, .int .i64 f.n, .string f.s])) : o.wp Tryd.prog a w K Q := by
  obtain ⟨c0, c1, c2, c3, hz⟩ := hz
  refine wp_store_row 79 x y ho g _ hx hy 79 _ hz size38 rfl (by simp [Value.oneCell']) ?_
  rw [hd]
  exact h
theorem FieldAt.row {W : World} {N : Nat} (f : Fv) (hz : Result4 W N) : FieldAt (W.setRow N #[.int .i64 f.tag, .int .i64 f.kind, .int .i64 f.n, .string f.s]) N 0 f := by
  obtain ⟨c0, c1, c2, c3, hz⟩ := hz
  have e := setRow_heap W N _ #[.int .i64 f.tag, .int .i64 f.kind, .int .i64 f.n, .string f.s] 79 (0, 0) hz
  exact ⟨cell_of_row _ _ 0 _ _ _ e, cell_of_row _ _ 1 _ _ _ e, cell_of_row _ _ 2 _ _ _ e, cell_of_row _ _ 3 _ _ _ e⟩
theorem Result4.row {W : World} {N : Nat} (f : Fv) (hz : Result4 W N) : Result4 (W.setRow N #[.int .i64 f.tag, .int .i64 f.kind, .int .i64 f.n, .string f.s]) N := by
  obtain ⟨c0, c1, c2, c3, hz⟩ := hz
  exact ⟨_, _, _, _, setRow_heap W N _ _ 79 (0, 0) hz⟩
theorem FieldAt.other {W : World} {N b off : Nat} {f : Fv} (h : FieldAt W b off f) (hne : b ≠ N) (cs : Array Value) : FieldAt (W.setRow N cs) b off f := by
  have e : ∀ j, (W.setRow N cs).cell? ⟨b, j, none⟩ = W.cell? ⟨b, j, none⟩ := fun j => World.cell?_of_block (w := W) (setRow_other W N b cs hne)
  exact ⟨(e _).trans h.tag, (e _).trans h.kind, (e _).trans h.n, (e _).trans h.s⟩
theorem end_grown {w W1 w2 : World} {B : Nat} (h1 : w.grownBy W1 (some B)) (h2 : W1.grownBy w2 (some B)) (o : Obj) (cs : Array Value) : w.grownBy ((w2.alloc o).drew.setRow w.heap.size cs) (some B) := by
  have s1 := h1.size
  have s2 := h2.size
  refine ⟨h2.os.trans h1.os, h2.tape.trans h1.tape, h2.output.trans h1.output, by rw [size_row]; show _ ≤ (w2.alloc o).heap.size; rw [size_alloc1]; omega, fun k hk hne => ?_⟩
  rw [setRow_other _ _ _ _ (by omega)]
  show (w2.alloc o).heap[k]? = _
  rw [Below.heap_alloc _ _ _ (by omega), h2.block k (by omega) hne, h1.block k hk hne]
theorem end_inp {w2 : World} {B N : Nat} {v : Value} {bs : List Nat} (h : Inp G w2 B v bs) (hB : B < N) (hN : N < w2.heap.size) (o : Obj) (cs : Array Value) : Inp G ((w2.alloc o).drew.setRow N cs) B v bs :=
  h.below ⟨rfl, rfl, rfl, by rw [size_row]; show _ ≤ (w2.alloc o).heap.size; rw [size_alloc1]; omega, fun k hk => by
    rw [setRow_other _ _ _ _ (by omega)]
    exact Below.heap_alloc _ _ _ (by omega)⟩
set_option maxHeartbeats 1000000 in
set_option maxRecDepth 20000 in
theorem field_num1 (B : Nat) (v : Value) (h : Nat) (bs : List Nat) (w : World) (hI : Inp G w B v (h :: bs)) (hpar : h % 2 = 0) (hcp : ∃ a l, v = .slice a l 1) :
    Calls Tryd.prog 75 #[.pointer (some ⟨B, 0, none⟩)] w (FieldPost G (FieldR h bs) B w) := by
  have HI : Hid (Inp G w B v (h :: bs)) := hI
  have hB := hI.lt
  have hcB := hI.box.cell
  have hfB := hI.box.frozen
  obtain ⟨a, cap, rfl, hlc, hcm, hat⟩ := hI.val
  obtain ⟨g, off, rfl, ⟨hgB, rfl⟩, hc⟩ := hat
  have h0 := hc 0 (by simp)
  have c0 : w.cell? ⟨g, off, none⟩ = some (.int .u8 (h : Int)) := h0
  have h8 : h < 256 := hI.byte h List.mem_cons_self
  have HC : Hid (∀ i, i < (h :: bs).length → w.cell? ⟨g, off + i, none⟩ = some (V8 ((h :: bs).getD i 0))) := hc
  clear hI hc h0
  have hne : ¬ w.heap.size = B := by omega
  have hgw : g < w.heap.size := by omega
  obtain ⟨L, hL⟩ : ∃ L, L = bs.length := ⟨_, rfl⟩
  have HL : Is (h :: bs).length (L + 1) := ⟨by rw [List.length_cons, hL]⟩
  rw [HL.eq] at hcB hlc HI
  have HADV : Hid (∀ off', (off' = off + 1 ∨ 1 = cap) → Inp g ((w.setCell ⟨B, 0, none⟩ (.slice (some ⟨g, off', none⟩) L (cap - 1))).alloc (.cells #[.int .i64 0, .int .i64 0, .int .i64 0, .string ByteArray.empty] 79)) B (.slice (some ⟨g, off', none⟩) L (cap - 1)) bs) := fun off' ho => by
    have := Inp.adv HI.out HL.eq ⟨hgB, rfl⟩ HC.out 1 (by omega) hlc hcm off' ho
    rw [Nat.add_sub_cancel] at this
    exact this.alloc _
  clear hL HL HC
  obtain ⟨t, ht⟩ : ∃ t, t = h / 2 := ⟨_, rfl⟩
  have HT : Is (h / 2) t := ⟨ht.symm⟩
  have et1 : (h : Int) / 2 = (t : Int) := by omega
  have et2 : (h : Int).tdiv 2 = (t : Int) := by rw [Int.tdiv_eq_ediv_of_nonneg (by omega)]; omega
  have er0 : (h : Int).tmod 2 = (h : Int) % 2 := by rw [Int.tmod_eq_emod_of_nonneg (by omega)]
  clear ht
  have er1 : (h : Int) % 2 = 0 := by omega
  have hcap : cap = 1 := by obtain ⟨a, l, e⟩ := hcp; cases e; rfl
  subst hcap
  obtain rfl : L = 0 := by omega
  have HA2 := HADV.out off (.inr rfl)
  rw [Nat.sub_self] at HA2
  have C := numf_any B _ bs _ HA2
  clear HA2
  go_enter Tryd.func75, Tryd.ntmps75
  go_wp2_with fail
  refine C.mono ?_
  clear C
  rintro e w2 (⟨f0, rest, v2, hR, rfl, hg2, hI2⟩ | ⟨hX, f0, rfl, hg2⟩)
  · have hres : w2.heap[w.heap.size]? = some (.cells #[.int .i64 0, .int .i64 0, .int .i64 0, .string ByteArray.empty] 79 (0, 0)) := (grownBy_heap hg2 (k := w.heap.size) (by rw [size_alloc1, size_set]; omega) (by omega)).trans (by have h := heap_alloc_new (w.setCell ⟨B, 0, none⟩ (.slice (some ⟨g, off, none⟩) 0 0)) (.cells #[.int .i64 0, .int .i64 0, .int .i64 0, .string ByteArray.empty] 79); rw [size_set] at h; exact h)
    have hlt2 : w.heap.size < w2.heap.size := (Array.getElem?_eq_some_iff.1 hres).1
    have HG2 : Hid (World.grownBy _ w2 (some B)) := hg2
    have HI2 : Hid (Inp g w2 B v2 rest) := hI2
    have HR : Hid (NumR bs f0 rest) := hR
    clear hg2 hI2 hR HADV HI
    go_wp2_with fail
    by_cases htag : 1 ≤ t ∧ t ≤ 63
    · obtain ⟨ht1, ht2⟩ := htag
      have HS : Hid ((fun W : World => FieldAt W w2.heap.size 0 ⟨(t : Int), f0.kind, f0.n, f0.s⟩ ∧ Result4 W w.heap.size) (w2.alloc (.cells #[.int .i64 (t : Int), .int .i64 f0.kind, .int .i64 f0.n, .string f0.s] 79)).drew) := ⟨(box_at w2 ⟨(t : Int), f0.kind, f0.n, f0.s⟩).drew, (Below.heap_alloc _ _ _ (by omega)).trans hres |> Result4.of⟩
      refine wp_region_held_drew (S := (fun W : World => FieldAt W w2.heap.size 0 ⟨(t : Int), f0.kind, f0.n, f0.s⟩ ∧ Result4 W w.heap.size)) (by kernel_rfl) HS.out (fun _ => ?_)
      refine heldTake 0 (some 32) (fv ⟨(t : Int), f0.kind, f0.n, f0.s⟩) rfl rfl (by kernel_rfl) (by kernel_rfl) (by kernel_rfl) (fun _ _ _ h => h) ((yieldsIf_load_mid (by rfl) _ _ rfl _ _ rfl (fcells ⟨(t : Int), f0.kind, f0.n, f0.s⟩) _ (fun w hS => hS.1.range) Tryd.underlying79 rfl size38)) HS.out ?_
      simp only [Act.put, List.setIfInBounds_toArray, List.set_cons_zero, List.set_cons_succ]
      refine heldTake 1 (some 33) (.bool true) rfl rfl (by kernel_rfl) (by kernel_rfl) (by kernel_rfl) (fun _ _ _ h => h) (Or.inl ⟨by rfl, fun w hS => ?_⟩) HS.out ?_
      · (go_simp)
      simp only [Act.put, List.setIfInBounds_toArray, List.set_cons_zero, List.set_cons_succ]
      refine heldTake 2 (some 34) (.bool true) rfl rfl (by kernel_rfl) (by kernel_rfl) (by kernel_rfl) (fun _ _ _ h => h) (Or.inl ⟨by rfl, fun w hS => ?_⟩) HS.out ?_
      · (go_simp)
      simp only [Act.put, List.setIfInBounds_toArray, List.set_cons_zero, List.set_cons_succ]
      refine heldTake 3 (some 35) (.pointer (some ⟨w2.heap.size, 0, none⟩)) rfl rfl (by kernel_rfl) (by kernel_rfl) (by kernel_rfl) (fun _ _ _ h => h) (Or.inl ⟨by rfl, fun w hS => ?_⟩) HS.out ?_
      · (go_simp)
      simp only [Act.put, List.setIfInBounds_toArray, List.set_cons_zero, List.set_cons_succ]
      refine heldTake 4 (some 36) (.int .i64 (t : Int)) rfl rfl (by kernel_rfl) (by kernel_rfl) (by kernel_rfl) (fun _ _ _ h => h) (Or.inl ⟨by rfl, fun w hS => ?_⟩) HS.out ?_
      · (have c := hS.1.tag; go_simp)
      simp only [Act.put, List.setIfInBounds_toArray, List.set_cons_zero, List.set_cons_succ]
      refine heldOne 5 (by kernel_rfl) rfl (by rfl) (fun KK hK => ?_)
      go_simp
      go_at_call 83
      refine (istag_yes (t : Int) (by omega) (by omega) _).mono ?_
      rintro e w3 ⟨rfl, rfl⟩
      refine hK.out _ _ HS.out ?_
      clear hK KK
      try simp only [Act.put, List.setIfInBounds_toArray, List.set_cons_zero, List.set_cons_succ]
      refine heldTake 6 (some 38) (.bool true) rfl rfl (by kernel_rfl) (by kernel_rfl) (by kernel_rfl) (fun _ _ _ h => h) (Or.inl ⟨by rfl, fun w hS => ?_⟩) HS.out ?_
      · (go_simp)
      simp only [Act.put, List.setIfInBounds_toArray, List.set_cons_zero, List.set_cons_succ]
      refine heldOne 7 (by kernel_rfl) rfl (by rfl) (fun KK hK => ?_)
      refine step_store38 rfl (.tmp 2) (.tmp 32) rfl w.heap.size ⟨(t : Int), f0.kind, f0.n, f0.s⟩ rfl rfl HS.out.2 ?_
      have HS7 : Hid ((fun W : World => FieldAt W w2.heap.size 0 ⟨(t : Int), f0.kind, f0.n, f0.s⟩ ∧ Result4 W w.heap.size) ((w2.alloc (.cells #[.int .i64 (t : Int), .int .i64 f0.kind, .int .i64 f0.n, .string f0.s] 79)).drew.setRow w.heap.size #[.int .i64 (t : Int), .int .i64 f0.kind, .int .i64 f0.n, .string f0.s])) := ⟨HS.out.1.other (by omega) _, HS.out.2.row ⟨(t : Int), f0.kind, f0.n, f0.s⟩⟩
      refine hK.out _ _ HS7.out ?_
      clear hK KK
      refine heldTake 8 (some 3) (.bool true) rfl rfl (by kernel_rfl) (by kernel_rfl) (by kernel_rfl) (fun _ _ _ h => h) (Or.inl ⟨by rfl, fun w hS => ?_⟩) HS7.out ?_
      · (go_simp)
      simp only [Act.put, List.setIfInBounds_toArray, List.set_cons_zero, List.set_cons_succ]
      refine wpAnyH_done (by kernel_rfl) ?_ _
      go_wp2_with fail
      refine bodyPost_ret (results38 rfl _ _ w.heap.size ⟨(t : Int), f0.kind, f0.n, f0.s⟩ _ rfl rfl (FieldAt.row ⟨(t : Int), f0.kind, f0.n, f0.s⟩ HS.out.2)) rfl ?_
      exact .inl ⟨_, rest, v2, ⟨by rw [HT.eq]; exact ht1, by rw [HT.eq]; exact ht2, f0, Or.inl ⟨hpar, HR.out⟩, by rw [HT.eq]⟩, rfl, end_grown (grown_set_alloc _ _ _ _) HG2.out _ _, end_inp HI2.out hB hlt2 _ _⟩
    · have HX : Hid (∀ f rest, ¬ FieldR h bs f rest) := fun f rest hf => htag ⟨by have := hf.1; rwa [HT.eq] at this, by have := hf.2.1; rwa [HT.eq] at this⟩
      have HS : Hid ((fun W : World => FieldAt W w2.heap.size 0 ⟨(t : Int), f0.kind, f0.n, f0.s⟩ ∧ Result4 W w.heap.size) (w2.alloc (.cells #[.int .i64 (t : Int), .int .i64 f0.kind, .int .i64 f0.n, .string f0.s] 79)).drew) := ⟨(box_at w2 ⟨(t : Int), f0.kind, f0.n, f0.s⟩).drew, (Below.heap_alloc _ _ _ (by omega)).trans hres |> Result4.of⟩
      refine wp_region_held_drew (S := (fun W : World => FieldAt W w2.heap.size 0 ⟨(t : Int), f0.kind, f0.n, f0.s⟩ ∧ Result4 W w.heap.size)) (by kernel_rfl) HS.out (fun _ => ?_)
      refine heldTake 0 (some 32) (fv ⟨(t : Int), f0.kind, f0.n, f0.s⟩) rfl rfl (by kernel_rfl) (by kernel_rfl) (by kernel_rfl) (fun _ _ _ h => h) ((yieldsIf_load_mid (by rfl) _ _ rfl _ _ rfl (fcells ⟨(t : Int), f0.kind, f0.n, f0.s⟩) _ (fun w hS => hS.1.range) Tryd.underlying79 rfl size38)) HS.out ?_
      simp only [Act.put, List.setIfInBounds_toArray, List.set_cons_zero, List.set_cons_succ]
      refine heldTake 1 (some 33) (.bool true) rfl rfl (by kernel_rfl) (by kernel_rfl) (by kernel_rfl) (fun _ _ _ h => h) (Or.inl ⟨by rfl, fun w hS => ?_⟩) HS.out ?_
      · (go_simp)
      simp only [Act.put, List.setIfInBounds_toArray, List.set_cons_zero, List.set_cons_succ]
      refine heldTake 2 (some 34) (.bool true) rfl rfl (by kernel_rfl) (by kernel_rfl) (by kernel_rfl) (fun _ _ _ h => h) (Or.inl ⟨by rfl, fun w hS => ?_⟩) HS.out ?_
      · (go_simp)
      simp only [Act.put, List.setIfInBounds_toArray, List.set_cons_zero, List.set_cons_succ]
      refine heldTake 3 (some 35) (.pointer (some ⟨w2.heap.size, 0, none⟩)) rfl rfl (by kernel_rfl) (by kernel_rfl) (by kernel_rfl) (fun _ _ _ h => h) (Or.inl ⟨by rfl, fun w hS => ?_⟩) HS.out ?_
      · (go_simp)
      simp only [Act.put, List.setIfInBounds_toArray, List.set_cons_zero, List.set_cons_succ]
      refine heldTake 4 (some 36) (.int .i64 (t : Int)) rfl rfl (by kernel_rfl) (by kernel_rfl) (by kernel_rfl) (fun _ _ _ h => h) (Or.inl ⟨by rfl, fun w hS => ?_⟩) HS.out ?_
      · (have c := hS.1.tag; go_simp)
      simp only [Act.put, List.setIfInBounds_toArray, List.set_cons_zero, List.set_cons_succ]
      refine heldOne 5 (by kernel_rfl) rfl (by rfl) (fun KK hK => ?_)
      go_simp
      go_at_call 83
      refine (istag_no (t : Int) (by omega) _).mono ?_
      rintro e w3 ⟨rfl, rfl⟩
      refine hK.out _ _ HS.out ?_
      clear hK KK
      try simp only [Act.put, List.setIfInBounds_toArray, List.set_cons_zero, List.set_cons_succ]
      refine heldTake 6 (some 38) (.bool false) rfl rfl (by kernel_rfl) (by kernel_rfl) (by kernel_rfl) (fun _ _ _ h => h) (Or.inl ⟨by rfl, fun w hS => ?_⟩) HS.out ?_
      · (go_simp)
      simp only [Act.put, List.setIfInBounds_toArray, List.set_cons_zero, List.set_cons_succ]
      refine heldOne 7 (by kernel_rfl) rfl (by rfl) (fun KK hK => ?_)
      refine step_store38 rfl (.tmp 2) (.tmp 32) rfl w.heap.size ⟨(t : Int), f0.kind, f0.n, f0.s⟩ rfl rfl HS.out.2 ?_
      have HS7 : Hid ((fun W : World => FieldAt W w2.heap.size 0 ⟨(t : Int), f0.kind, f0.n, f0.s⟩ ∧ Result4 W w.heap.size) ((w2.alloc (.cells #[.int .i64 (t : Int), .int .i64 f0.kind, .int .i64 f0.n, .string f0.s] 79)).drew.setRow w.heap.size #[.int .i64 (t : Int), .int .i64 f0.kind, .int .i64 f0.n, .string f0.s])) := ⟨HS.out.1.other (by omega) _, HS.out.2.row ⟨(t : Int), f0.kind, f0.n, f0.s⟩⟩
      refine hK.out _ _ HS7.out ?_
      clear hK KK
      refine heldTake 8 (some 3) (.bool false) rfl rfl (by kernel_rfl) (by kernel_rfl) (by kernel_rfl) (fun _ _ _ h => h) (Or.inl ⟨by rfl, fun w hS => ?_⟩) HS7.out ?_
      · (go_simp)
      simp only [Act.put, List.setIfInBounds_toArray, List.set_cons_zero, List.set_cons_succ]
      refine wpAnyH_done (by kernel_rfl) ?_ _
      go_wp2_with fail
      refine bodyPost_ret (results38 rfl _ _ w.heap.size ⟨(t : Int), f0.kind, f0.n, f0.s⟩ _ rfl rfl (FieldAt.row ⟨(t : Int), f0.kind, f0.n, f0.s⟩ HS.out.2)) rfl ?_
      exact .inr ⟨HX.out, _, rfl, end_grown (grown_set_alloc _ _ _ _) HG2.out _ _⟩
  · have hres : w2.heap[w.heap.size]? = some (.cells #[.int .i64 0, .int .i64 0, .int .i64 0, .string ByteArray.empty] 79 (0, 0)) := (grownBy_heap hg2 (k := w.heap.size) (by rw [size_alloc1, size_set]; omega) (by omega)).trans (by have h := heap_alloc_new (w.setCell ⟨B, 0, none⟩ (.slice (some ⟨g, off, none⟩) 0 0)) (.cells #[.int .i64 0, .int .i64 0, .int .i64 0, .string ByteArray.empty] 79); rw [size_set] at h; exact h)
    have hlt2 : w.heap.size < w2.heap.size := (Array.getElem?_eq_some_iff.1 hres).1
    have HG2 : Hid (World.grownBy _ w2 (some B)) := hg2
    have HX : Hid (∀ f rest, ¬ FieldR h bs f rest) := fun f rest ⟨_, _, f1, hf, _⟩ => hf.elim (fun h1 => hX _ _ h1.2) (fun h2 => absurd h2.1 (by omega))
    clear hg2 hX HADV HI
    go_wp2_with fail
    have HS : Hid ((fun W : World => FieldAt W w2.heap.size 0 ⟨(t : Int), f0.kind, f0.n, f0.s⟩ ∧ Result4 W w.heap.size) (w2.alloc (.cells #[.int .i64 (t : Int), .int .i64 f0.kind, .int .i64 f0.n, .string f0.s] 79)).drew) := ⟨(box_at w2 ⟨(t : Int), f0.kind, f0.n, f0.s⟩).drew, (Below.heap_alloc _ _ _ (by omega)).trans hres |> Result4.of⟩
    refine wp_region_held_drew (S := (fun W : World => FieldAt W w2.heap.size 0 ⟨(t : Int), f0.kind, f0.n, f0.s⟩ ∧ Result4 W w.heap.size)) (by kernel_rfl) HS.out (fun _ => ?_)
    refine heldTake 0 (some 32) (fv ⟨(t : Int), f0.kind, f0.n, f0.s⟩) rfl rfl (by kernel_rfl) (by kernel_rfl) (by kernel_rfl) (fun _ _ _ h => h) ((yieldsIf_load_mid (by rfl) _ _ rfl _ _ rfl (fcells ⟨(t : Int), f0.kind, f0.n, f0.s⟩) _ (fun w hS => hS.1.range) Tryd.underlying79 rfl size38)) HS.out ?_
    simp only [Act.put, List.setIfInBounds_toArray, List.set_cons_zero, List.set_cons_succ]
    refine heldTake 1 (some 33) (.bool false) rfl rfl (by kernel_rfl) (by kernel_rfl) (by kernel_rfl) (fun _ _ _ h => h) (Or.inl ⟨by rfl, fun w hS => ?_⟩) HS.out ?_
    · (go_simp)
    simp only [Act.put, List.setIfInBounds_toArray, List.set_cons_zero, List.set_cons_succ]
    refine heldTake 2 (some 34) (.bool false) rfl rfl (by kernel_rfl) (by kernel_rfl) (by kernel_rfl) (fun _ _ _ h => h) (Or.inl ⟨by rfl, fun w hS => ?_⟩) HS.out ?_
    · (go_simp)
    simp only [Act.put, List.setIfInBounds_toArray, List.set_cons_zero, List.set_cons_succ]
    refine heldTake 3 (some 35) (undef) rfl rfl (by kernel_rfl) (by kernel_rfl) (by kernel_rfl) (fun _ _ _ h => h) (Or.inr ⟨by rfl, rfl⟩) HS.out ?_
    simp only [Act.put, List.setIfInBounds_toArray, List.set_cons_zero, List.set_cons_succ]
    refine heldTake 4 (some 36) (undef) rfl rfl (by kernel_rfl) (by kernel_rfl) (by kernel_rfl) (fun _ _ _ h => h) (Or.inr ⟨by rfl, rfl⟩) HS.out ?_
    simp only [Act.put, List.setIfInBounds_toArray, List.set_cons_zero, List.set_cons_succ]
    refine heldTake 5 (some 37) (undef) rfl rfl (by kernel_rfl) (by kernel_rfl) (by kernel_rfl) (fun _ _ _ h => h) (Or.inr ⟨by rfl, rfl⟩) HS.out ?_
    simp only [Act.put, List.setIfInBounds_toArray, List.set_cons_zero, List.set_cons_succ]
    refine heldTake 6 (some 38) (.bool false) rfl rfl (by kernel_rfl) (by kernel_rfl) (by kernel_rfl) (fun _ _ _ h => h) (Or.inl ⟨by rfl, fun w hS => ?_⟩) HS.out ?_
    · (go_simp)
    simp only [Act.put, List.setIfInBounds_toArray, List.set_cons_zero, List.set_cons_succ]
    refine heldOne 7 (by kernel_rfl) rfl (by rfl) (fun KK hK => ?_)
    refine step_store38 rfl (.tmp 2) (.tmp 32) rfl w.heap.size ⟨(t : Int), f0.kind, f0.n, f0.s⟩ rfl rfl HS.out.2 ?_
    have HS7 : Hid ((fun W : World => FieldAt W w2.heap.size 0 ⟨(t : Int), f0.kind, f0.n, f0.s⟩ ∧ Result4 W w.heap.size) ((w2.alloc (.cells #[.int .i64 (t : Int), .int .i64 f0.kind, .int .i64 f0.n, .string f0.s] 79)).drew.setRow w.heap.size #[.int .i64 (t : Int), .int .i64 f0.kind, .int .i64 f0.n, .string f0.s])) := ⟨HS.out.1.other (by omega) _, HS.out.2.row ⟨(t : Int), f0.kind, f0.n, f0.s⟩⟩
    refine hK.out _ _ HS7.out ?_
    clear hK KK
    refine heldTake 8 (some 3) (.bool false) rfl rfl (by kernel_rfl) (by kernel_rfl) (by kernel_rfl) (fun _ _ _ h => h) (Or.inl ⟨by rfl, fun w hS => ?_⟩) HS7.out ?_
    · (go_simp)
    simp only [Act.put, List.setIfInBounds_toArray, List.set_cons_zero, List.set_cons_succ]
    refine wpAnyH_done (by kernel_rfl) ?_ _
    go_wp2_with fail
    refine bodyPost_ret (results38 rfl _ _ w.heap.size ⟨(t : Int), f0.kind, f0.n, f0.s⟩ _ rfl rfl (FieldAt.row ⟨(t : Int), f0.kind, f0.n, f0.s⟩ HS.out.2)) rfl ?_
    exact .inr ⟨HX.out, _, rfl, end_grown (grown_set_alloc _ _ _ _) HG2.out _ _⟩
set_option maxHeartbeats 1000000 in
set_option maxRecDepth 20000 in
theorem field_num (B : Nat) (v : Value) (h : Nat) (bs : List Nat) (w : World) (hI : Inp G w B v (h :: bs)) (hpar : h % 2 = 0) (hcp : ∀ a l, v = .slice a l 1 → False) :
    Calls Tryd.prog 75 #[.pointer (some ⟨B, 0, none⟩)] w (FieldPost G (FieldR h bs) B w) := by
  have HI : Hid (Inp G w B v (h :: bs)) := hI
  have hB := hI.lt
  have hcB := hI.box.cell
  have hfB := hI.box.frozen
  obtain ⟨a, cap, rfl, hlc, hcm, hat⟩ := hI.val
  obtain ⟨g, off, rfl, ⟨hgB, rfl⟩, hc⟩ := hat
  have h0 := hc 0 (by simp)
  have c0 : w.cell? ⟨g, off, none⟩ = some (.int .u8 (h : Int)) := h0
  have h8 : h < 256 := hI.byte h List.mem_cons_self
  have HC : Hid (∀ i, i < (h :: bs).length → w.cell? ⟨g, off + i, none⟩ = some (V8 ((h :: bs).getD i 0))) := hc
  clear hI hc h0
  have hne : ¬ w.heap.size = B := by omega
  have hgw : g < w.heap.size := by omega
  obtain ⟨L, hL⟩ : ∃ L, L = bs.length := ⟨_, rfl⟩
  have HL : Is (h :: bs).length (L + 1) := ⟨by rw [List.length_cons, hL]⟩
  rw [HL.eq] at hcB hlc HI
  have HADV : Hid (∀ off', (off' = off + 1 ∨ 1 = cap) → Inp g ((w.setCell ⟨B, 0, none⟩ (.slice (some ⟨g, off', none⟩) L (cap - 1))).alloc (.cells #[.int .i64 0, .int .i64 0, .int .i64 0, .string ByteArray.empty] 79)) B (.slice (some ⟨g, off', none⟩) L (cap - 1)) bs) := fun off' ho => by
    have := Inp.adv HI.out HL.eq ⟨hgB, rfl⟩ HC.out 1 (by omega) hlc hcm off' ho
    rw [Nat.add_sub_cancel] at this
    exact this.alloc _
  clear hL HL HC
  obtain ⟨t, ht⟩ : ∃ t, t = h / 2 := ⟨_, rfl⟩
  have HT : Is (h / 2) t := ⟨ht.symm⟩
  have et1 : (h : Int) / 2 = (t : Int) := by omega
  have et2 : (h : Int).tdiv 2 = (t : Int) := by rw [Int.tdiv_eq_ediv_of_nonneg (by omega)]; omega
  have er0 : (h : Int).tmod 2 = (h : Int) % 2 := by rw [Int.tmod_eq_emod_of_nonneg (by omega)]
  clear ht
  have er1 : (h : Int) % 2 = 0 := by omega
  have hcap : ¬ cap = 1 := fun e => hcp _ _ (by rw [e])
  have hcap' : ¬ (1 : Int) = (cap : Int) := by omega
  have i1 : (1 : Int) ≤ (L : Int) + 1 := by omega
  have i2 : (1 : Int) ≤ (cap : Int) := by omega
  have HA2 := HADV.out (off + 1) (.inl rfl)
  have C := numf_any B _ bs _ HA2
  clear HA2
  go_enter Tryd.func75, Tryd.ntmps75
  go_wp2_with fail
  refine C.mono ?_
  clear C
  rintro e w2 (⟨f0, rest, v2, hR, rfl, hg2, hI2⟩ | ⟨hX, f0, rfl, hg2⟩)
  · have hres : w2.heap[w.heap.size]? = some (.cells #[.int .i64 0, .int .i64 0, .int .i64 0, .string ByteArray.empty] 79 (0, 0)) := (grownBy_heap hg2 (k := w.heap.size) (by rw [size_alloc1, size_set]; omega) (by omega)).trans (by have h := heap_alloc_new (w.setCell ⟨B, 0, none⟩ (.slice (some ⟨g, off + 1, none⟩) L (cap - 1))) (.cells #[.int .i64 0, .int .i64 0, .int .i64 0, .string ByteArray.empty] 79); rw [size_set] at h; exact h)
    have hlt2 : w.heap.size < w2.heap.size := (Array.getElem?_eq_some_iff.1 hres).1
    have HG2 : Hid (World.grownBy _ w2 (some B)) := hg2
    have HI2 : Hid (Inp g w2 B v2 rest) := hI2
    have HR : Hid (NumR bs f0 rest) := hR
    clear hg2 hI2 hR HADV HI
    go_wp2_with fail
    by_cases htag : 1 ≤ t ∧ t ≤ 63
    · obtain ⟨ht1, ht2⟩ := htag
      have HS : Hid ((fun W : World => FieldAt W w2.heap.size 0 ⟨(t : Int), f0.kind, f0.n, f0.s⟩ ∧ Result4 W w.heap.size) (w2.alloc (.cells #[.int .i64 (t : Int), .int .i64 f0.kind, .int .i64 f0.n, .string f0.s] 79)).drew) := ⟨(box_at w2 ⟨(t : Int), f0.kind, f0.n, f0.s⟩).drew, (Below.heap_alloc _ _ _ (by omega)).trans hres |> Result4.of⟩
      refine wp_region_held_drew (S := (fun W : World => FieldAt W w2.heap.size 0 ⟨(t : Int), f0.kind, f0.n, f0.s⟩ ∧ Result4 W w.heap.size)) (by kernel_rfl) HS.out (fun _ => ?_)
      refine heldTake 0 (some 32) (fv ⟨(t : Int), f0.kind, f0.n, f0.s⟩) rfl rfl (by kernel_rfl) (by kernel_rfl) (by kernel_rfl) (fun _ _ _ h => h) ((yieldsIf_load_mid (by rfl) _ _ rfl _ _ rfl (fcells ⟨(t : Int), f0.kind, f0.n, f0.s⟩) _ (fun w hS => hS.1.range) Tryd.underlying79 rfl size38)) HS.out ?_
      simp only [Act.put, List.setIfInBounds_toArray, List.set_cons_zero, List.set_cons_succ]
      refine heldTake 1 (some 33) (.bool true) rfl rfl (by kernel_rfl) (by kernel_rfl) (by kernel_rfl) (fun _ _ _ h => h) (Or.inl ⟨by rfl, fun w hS => ?_⟩) HS.out ?_
      · (go_simp)
      simp only [Act.put, List.setIfInBounds_toArray, List.set_cons_zero, List.set_cons_succ]
      refine heldTake 2 (some 34) (.bool true) rfl rfl (by kernel_rfl) (by kernel_rfl) (by kernel_rfl) (fun _ _ _ h => h) (Or.inl ⟨by rfl, fun w hS => ?_⟩) HS.out ?_
      · (go_simp)
      simp only [Act.put, List.setIfInBounds_toArray, List.set_cons_zero, List.set_cons_succ]
      refine heldTake 3 (some 35) (.pointer (some ⟨w2.heap.size, 0, none⟩)) rfl rfl (by kernel_rfl) (by kernel_rfl) (by kernel_rfl) (fun _ _ _ h => h) (Or.inl ⟨by rfl, fun w hS => ?_⟩) HS.out ?_
      · (go_simp)
      simp only [Act.put, List.setIfInBounds_toArray, List.set_cons_zero, List.set_cons_succ]
      refine heldTake 4 (some 36) (.int .i64 (t : Int)) rfl rfl (by kernel_rfl) (by kernel_rfl) (by kernel_rfl) (fun _ _ _ h => h) (Or.inl ⟨by rfl, fun w hS => ?_⟩) HS.out ?_
      · (have c := hS.1.tag; go_simp)
      simp only [Act.put, List.setIfInBounds_toArray, List.set_cons_zero, List.set_cons_succ]
      refine heldOne 5 (by kernel_rfl) rfl (by rfl) (fun KK hK => ?_)
      go_simp
      go_at_call 83
      refine (istag_yes (t : Int) (by omega) (by omega) _).mono ?_
      rintro e w3 ⟨rfl, rfl⟩
      refine hK.out _ _ HS.out ?_
      clear hK KK
      try simp only [Act.put, List.setIfInBounds_toArray, List.set_cons_zero, List.set_cons_succ]
      refine heldTake 6 (some 38) (.bool true) rfl rfl (by kernel_rfl) (by kernel_rfl) (by kernel_rfl) (fun _ _ _ h => h) (Or.inl ⟨by rfl, fun w hS => ?_⟩) HS.out ?_
      · (go_simp)
      simp only [Act.put, List.setIfInBounds_toArray, List.set_cons_zero, List.set_cons_succ]
      refine heldOne 7 (by kernel_rfl) rfl (by rfl) (fun KK hK => ?_)
      refine step_store38 rfl (.tmp 2) (.tmp 32) rfl w.heap.size ⟨(t : Int), f0.kind, f0.n, f0.s⟩ rfl rfl HS.out.2 ?_
      have HS7 : Hid ((fun W : World => FieldAt W w2.heap.size 0 ⟨(t : Int), f0.kind, f0.n, f0.s⟩ ∧ Result4 W w.heap.size) ((w2.alloc (.cells #[.int .i64 (t : Int), .int .i64 f0.kind, .int .i64 f0.n, .string f0.s] 79)).drew.setRow w.heap.size #[.int .i64 (t : Int), .int .i64 f0.kind, .int .i64 f0.n, .string f0.s])) := ⟨HS.out.1.other (by omega) _, HS.out.2.row ⟨(t : Int), f0.kind, f0.n, f0.s⟩⟩
      refine hK.out _ _ HS7.out ?_
      clear hK KK
      refine heldTake 8 (some 3) (.bool true) rfl rfl (by kernel_rfl) (by kernel_rfl) (by kernel_rfl) (fun _ _ _ h => h) (Or.inl ⟨by rfl, fun w hS => ?_⟩) HS7.out ?_
      · (go_simp)
      simp only [Act.put, List.setIfInBounds_toArray, List.set_cons_zero, List.set_cons_succ]
      refine wpAnyH_done (by kernel_rfl) ?_ _
      go_wp2_with fail
      refine bodyPost_ret (results38 rfl _ _ w.heap.size ⟨(t : Int), f0.kind, f0.n, f0.s⟩ _ rfl rfl (FieldAt.row ⟨(t : Int), f0.kind, f0.n, f0.s⟩ HS.out.2)) rfl ?_
      exact .inl ⟨_, rest, v2, ⟨by rw [HT.eq]; exact ht1, by rw [HT.eq]; exact ht2, f0, Or.inl ⟨hpar, HR.out⟩, by rw [HT.eq]⟩, rfl, end_grown (grown_set_alloc _ _ _ _) HG2.out _ _, end_inp HI2.out hB hlt2 _ _⟩
    · have HX : Hid (∀ f rest, ¬ FieldR h bs f rest) := fun f rest hf => htag ⟨by have := hf.1; rwa [HT.eq] at this, by have := hf.2.1; rwa [HT.eq] at this⟩
      have HS : Hid ((fun W : World => FieldAt W w2.heap.size 0 ⟨(t : Int), f0.kind, f0.n, f0.s⟩ ∧ Result4 W w.heap.size) (w2.alloc (.cells #[.int .i64 (t : Int), .int .i64 f0.kind, .int .i64 f0.n, .string f0.s] 79)).drew) := ⟨(box_at w2 ⟨(t : Int), f0.kind, f0.n, f0.s⟩).drew, (Below.heap_alloc _ _ _ (by omega)).trans hres |> Result4.of⟩
      refine wp_region_held_drew (S := (fun W : World => FieldAt W w2.heap.size 0 ⟨(t : Int), f0.kind, f0.n, f0.s⟩ ∧ Result4 W w.heap.size)) (by kernel_rfl) HS.out (fun _ => ?_)
      refine heldTake 0 (some 32) (fv ⟨(t : Int), f0.kind, f0.n, f0.s⟩) rfl rfl (by kernel_rfl) (by kernel_rfl) (by kernel_rfl) (fun _ _ _ h => h) ((yieldsIf_load_mid (by rfl) _ _ rfl _ _ rfl (fcells ⟨(t : Int), f0.kind, f0.n, f0.s⟩) _ (fun w hS => hS.1.range) Tryd.underlying79 rfl size38)) HS.out ?_
      simp only [Act.put, List.setIfInBounds_toArray, List.set_cons_zero, List.set_cons_succ]
      refine heldTake 1 (some 33) (.bool true) rfl rfl (by kernel_rfl) (by kernel_rfl) (by kernel_rfl) (fun _ _ _ h => h) (Or.inl ⟨by rfl, fun w hS => ?_⟩) HS.out ?_
      · (go_simp)
      simp only [Act.put, List.setIfInBounds_toArray, List.set_cons_zero, List.set_cons_succ]
      refine heldTake 2 (some 34) (.bool true) rfl rfl (by kernel_rfl) (by kernel_rfl) (by kernel_rfl) (fun _ _ _ h => h) (Or.inl ⟨by rfl, fun w hS => ?_⟩) HS.out ?_
      · (go_simp)
      simp only [Act.put, List.setIfInBounds_toArray, List.set_cons_zero, List.set_cons_succ]
      refine heldTake 3 (some 35) (.pointer (some ⟨w2.heap.size, 0, none⟩)) rfl rfl (by kernel_rfl) (by kernel_rfl) (by kernel_rfl) (fun _ _ _ h => h) (Or.inl ⟨by rfl, fun w hS => ?_⟩) HS.out ?_
      · (go_simp)
      simp only [Act.put, List.setIfInBounds_toArray, List.set_cons_zero, List.set_cons_succ]
      refine heldTake 4 (some 36) (.int .i64 (t : Int)) rfl rfl (by kernel_rfl) (by kernel_rfl) (by kernel_rfl) (fun _ _ _ h => h) (Or.inl ⟨by rfl, fun w hS => ?_⟩) HS.out ?_
      · (have c := hS.1.tag; go_simp)
      simp only [Act.put, List.setIfInBounds_toArray, List.set_cons_zero, List.set_cons_succ]
      refine heldOne 5 (by kernel_rfl) rfl (by rfl) (fun KK hK => ?_)
      go_simp
      go_at_call 83
      refine (istag_no (t : Int) (by omega) _).mono ?_
      rintro e w3 ⟨rfl, rfl⟩
      refine hK.out _ _ HS.out ?_
      clear hK KK
      try simp only [Act.put, List.setIfInBounds_toArray, List.set_cons_zero, List.set_cons_succ]
      refine heldTake 6 (some 38) (.bool false) rfl rfl (by kernel_rfl) (by kernel_rfl) (by kernel_rfl) (fun _ _ _ h => h) (Or.inl ⟨by rfl, fun w hS => ?_⟩) HS.out ?_
      · (go_simp)
      simp only [Act.put, List.setIfInBounds_toArray, List.set_cons_zero, List.set_cons_succ]
      refine heldOne 7 (by kernel_rfl) rfl (by rfl) (fun KK hK => ?_)
      refine step_store38 rfl (.tmp 2) (.tmp 32) rfl w.heap.size ⟨(t : Int), f0.kind, f0.n, f0.s⟩ rfl rfl HS.out.2 ?_
      have HS7 : Hid ((fun W : World => FieldAt W w2.heap.size 0 ⟨(t : Int), f0.kind, f0.n, f0.s⟩ ∧ Result4 W w.heap.size) ((w2.alloc (.cells #[.int .i64 (t : Int), .int .i64 f0.kind, .int .i64 f0.n, .string f0.s] 79)).drew.setRow w.heap.size #[.int .i64 (t : Int), .int .i64 f0.kind, .int .i64 f0.n, .string f0.s])) := ⟨HS.out.1.other (by omega) _, HS.out.2.row ⟨(t : Int), f0.kind, f0.n, f0.s⟩⟩
      refine hK.out _ _ HS7.out ?_
      clear hK KK
      refine heldTake 8 (some 3) (.bool false) rfl rfl (by kernel_rfl) (by kernel_rfl) (by kernel_rfl) (fun _ _ _ h => h) (Or.inl ⟨by rfl, fun w hS => ?_⟩) HS7.out ?_
      · (go_simp)
      simp only [Act.put, List.setIfInBounds_toArray, List.set_cons_zero, List.set_cons_succ]
      refine wpAnyH_done (by kernel_rfl) ?_ _
      go_wp2_with fail
      refine bodyPost_ret (results38 rfl _ _ w.heap.size ⟨(t : Int), f0.kind, f0.n, f0.s⟩ _ rfl rfl (FieldAt.row ⟨(t : Int), f0.kind, f0.n, f0.s⟩ HS.out.2)) rfl ?_
      exact .inr ⟨HX.out, _, rfl, end_grown (grown_set_alloc _ _ _ _) HG2.out _ _⟩
  · have hres : w2.heap[w.heap.size]? = some (.cells #[.int .i64 0, .int .i64 0, .int .i64 0, .string ByteArray.empty] 79 (0, 0)) := (grownBy_heap hg2 (k := w.heap.size) (by rw [size_alloc1, size_set]; omega) (by omega)).trans (by have h := heap_alloc_new (w.setCell ⟨B, 0, none⟩ (.slice (some ⟨g, off + 1, none⟩) L (cap - 1))) (.cells #[.int .i64 0, .int .i64 0, .int .i64 0, .string ByteArray.empty] 79); rw [size_set] at h; exact h)
    have hlt2 : w.heap.size < w2.heap.size := (Array.getElem?_eq_some_iff.1 hres).1
    have HG2 : Hid (World.grownBy _ w2 (some B)) := hg2
    have HX : Hid (∀ f rest, ¬ FieldR h bs f rest) := fun f rest ⟨_, _, f1, hf, _⟩ => hf.elim (fun h1 => hX _ _ h1.2) (fun h2 => absurd h2.1 (by omega))
    clear hg2 hX HADV HI
    go_wp2_with fail
    have HS : Hid ((fun W : World => FieldAt W w2.heap.size 0 ⟨(t : Int), f0.kind, f0.n, f0.s⟩ ∧ Result4 W w.heap.size) (w2.alloc (.cells #[.int .i64 (t : Int), .int .i64 f0.kind, .int .i64 f0.n, .string f0.s] 79)).drew) := ⟨(box_at w2 ⟨(t : Int), f0.kind, f0.n, f0.s⟩).drew, (Below.heap_alloc _ _ _ (by omega)).trans hres |> Result4.of⟩
    refine wp_region_held_drew (S := (fun W : World => FieldAt W w2.heap.size 0 ⟨(t : Int), f0.kind, f0.n, f0.s⟩ ∧ Result4 W w.heap.size)) (by kernel_rfl) HS.out (fun _ => ?_)
    refine heldTake 0 (some 32) (fv ⟨(t : Int), f0.kind, f0.n, f0.s⟩) rfl rfl (by kernel_rfl) (by kernel_rfl) (by kernel_rfl) (fun _ _ _ h => h) ((yieldsIf_load_mid (by rfl) _ _ rfl _ _ rfl (fcells ⟨(t : Int), f0.kind, f0.n, f0.s⟩) _ (fun w hS => hS.1.range) Tryd.underlying79 rfl size38)) HS.out ?_
    simp only [Act.put, List.setIfInBounds_toArray, List.set_cons_zero, List.set_cons_succ]
    refine heldTake 1 (some 33) (.bool false) rfl rfl (by kernel_rfl) (by kernel_rfl) (by kernel_rfl) (fun _ _ _ h => h) (Or.inl ⟨by rfl, fun w hS => ?_⟩) HS.out ?_
    · (go_simp)
    simp only [Act.put, List.setIfInBounds_toArray, List.set_cons_zero, List.set_cons_succ]
    refine heldTake 2 (some 34) (.bool false) rfl rfl (by kernel_rfl) (by kernel_rfl) (by kernel_rfl) (fun _ _ _ h => h) (Or.inl ⟨by rfl, fun w hS => ?_⟩) HS.out ?_
    · (go_simp)
    simp only [Act.put, List.setIfInBounds_toArray, List.set_cons_zero, List.set_cons_succ]
    refine heldTake 3 (some 35) (undef) rfl rfl (by kernel_rfl) (by kernel_rfl) (by kernel_rfl) (fun _ _ _ h => h) (Or.inr ⟨by rfl, rfl⟩) HS.out ?_
    simp only [Act.put, List.setIfInBounds_toArray, List.set_cons_zero, List.set_cons_succ]
    refine heldTake 4 (some 36) (undef) rfl rfl (by kernel_rfl) (by kernel_rfl) (by kernel_rfl) (fun _ _ _ h => h) (Or.inr ⟨by rfl, rfl⟩) HS.out ?_
    simp only [Act.put, List.setIfInBounds_toArray, List.set_cons_zero, List.set_cons_succ]
    refine heldTake 5 (some 37) (undef) rfl rfl (by kernel_rfl) (by kernel_rfl) (by kernel_rfl) (fun _ _ _ h => h) (Or.inr ⟨by rfl, rfl⟩) HS.out ?_
    simp only [Act.put, List.setIfInBounds_toArray, List.set_cons_zero, List.set_cons_succ]
    refine heldTake 6 (some 38) (.bool false) rfl rfl (by kernel_rfl) (by kernel_rfl) (by kernel_rfl) (fun _ _ _ h => h) (Or.inl ⟨by rfl, fun w hS => ?_⟩) HS.out ?_
    · (go_simp)
    simp only [Act.put, List.setIfInBounds_toArray, List.set_cons_zero, List.set_cons_succ]
    refine heldOne 7 (by kernel_rfl) rfl (by rfl) (fun KK hK => ?_)
    refine step_store38 rfl (.tmp 2) (.tmp 32) rfl w.heap.size ⟨(t : Int), f0.kind, f0.n, f0.s⟩ rfl rfl HS.out.2 ?_
    have HS7 : Hid ((fun W : World => FieldAt W w2.heap.size 0 ⟨(t : Int), f0.kind, f0.n, f0.s⟩ ∧ Result4 W w.heap.size) ((w2.alloc (.cells #[.int .i64 (t : Int), .int .i64 f0.kind, .int .i64 f0.n, .string f0.s] 79)).drew.setRow w.heap.size #[.int .i64 (t : Int), .int .i64 f0.kind, .int .i64 f0.n, .string f0.s])) := ⟨HS.out.1.other (by omega) _, HS.out.2.row ⟨(t : Int), f0.kind, f0.n, f0.s⟩⟩
    refine hK.out _ _ HS7.out ?_
    clear hK KK
    refine heldTake 8 (some 3) (.bool false) rfl rfl (by kernel_rfl) (by kernel_rfl) (by kernel_rfl) (fun _ _ _ h => h) (Or.inl ⟨by rfl, fun w hS => ?_⟩) HS7.out ?_
    · (go_simp)
    simp only [Act.put, List.setIfInBounds_toArray, List.set_cons_zero, List.set_cons_succ]
    refine wpAnyH_done (by kernel_rfl) ?_ _
    go_wp2_with fail
    refine bodyPost_ret (results38 rfl _ _ w.heap.size ⟨(t : Int), f0.kind, f0.n, f0.s⟩ _ rfl rfl (FieldAt.row ⟨(t : Int), f0.kind, f0.n, f0.s⟩ HS.out.2)) rfl ?_
    exact .inr ⟨HX.out, _, rfl, end_grown (grown_set_alloc _ _ _ _) HG2.out _ _⟩
set_option maxHeartbeats 1000000 in
set_option maxRecDepth 20000 in
theorem field_text1 (B : Nat) (v : Value) (h : Nat) (bs : List Nat) (w : World) (hI : Inp G w B v (h :: bs)) (hpar : h % 2 = 1) (hcp : ∃ a l, v = .slice a l 1) :
    Calls Tryd.prog 75 #[.pointer (some ⟨B, 0, none⟩)] w (FieldPost G (FieldR h bs) B w) := by
  have HI : Hid (Inp G w B v (h :: bs)) := hI
  have hB := hI.lt
  have hcB := hI.box.cell
  have hfB := hI.box.frozen
  obtain ⟨a, cap, rfl, hlc, hcm, hat⟩ := hI.val
  obtain ⟨g, off, rfl, ⟨hgB, rfl⟩, hc⟩ := hat
  have h0 := hc 0 (by simp)
  have c0 : w.cell? ⟨g, off, none⟩ = some (.int .u8 (h : Int)) := h0
  have h8 : h < 256 := hI.byte h List.mem_cons_self
  have HC : Hid (∀ i, i < (h :: bs).length → w.cell? ⟨g, off + i, none⟩ = some (V8 ((h :: bs).getD i 0))) := hc
  clear hI hc h0
  have hne : ¬ w.heap.size = B := by omega
  have hgw : g < w.heap.size := by omega
  obtain ⟨L, hL⟩ : ∃ L, L = bs.length := ⟨_, rfl⟩
  have HL : Is (h :: bs).length (L + 1) := ⟨by rw [List.length_cons, hL]⟩
  rw [HL.eq] at hcB hlc HI
  have HADV : Hid (∀ off', (off' = off + 1 ∨ 1 = cap) → Inp g ((w.setCell ⟨B, 0, none⟩ (.slice (some ⟨g, off', none⟩) L (cap - 1))).alloc (.cells #[.int .i64 0, .int .i64 0, .int .i64 0, .string ByteArray.empty] 79)) B (.slice (some ⟨g, off', none⟩) L (cap - 1)) bs) := fun off' ho => by
    have := Inp.adv HI.out HL.eq ⟨hgB, rfl⟩ HC.out 1 (by omega) hlc hcm off' ho
    rw [Nat.add_sub_cancel] at this
    exact this.alloc _
  clear hL HL HC
  obtain ⟨t, ht⟩ : ∃ t, t = h / 2 := ⟨_, rfl⟩
  have HT : Is (h / 2) t := ⟨ht.symm⟩
  have et1 : (h : Int) / 2 = (t : Int) := by omega
  have et2 : (h : Int).tdiv 2 = (t : Int) := by rw [Int.tdiv_eq_ediv_of_nonneg (by omega)]; omega
  have er0 : (h : Int).tmod 2 = (h : Int) % 2 := by rw [Int.tmod_eq_emod_of_nonneg (by omega)]
  clear ht
  have er1 : (h : Int) % 2 = 1 := by omega
  have hcap : cap = 1 := by obtain ⟨a, l, e⟩ := hcp; cases e; rfl
  subst hcap
  obtain rfl : L = 0 := by omega
  have HA2 := HADV.out off (.inr rfl)
  rw [Nat.sub_self] at HA2
  have C := textf_any B _ bs _ HA2
  clear HA2
  go_enter Tryd.func75, Tryd.ntmps75
  go_wp2_with fail
  refine C.mono ?_
  clear C
  rintro e w2 (⟨f0, rest, v2, hR, rfl, hg2, hI2⟩ | ⟨hX, f0, rfl, hg2⟩)
  · have hres : w2.heap[w.heap.size]? = some (.cells #[.int .i64 0, .int .i64 0, .int .i64 0, .string ByteArray.empty] 79 (0, 0)) := (grownBy_heap hg2 (k := w.heap.size) (by rw [size_alloc1, size_set]; omega) (by omega)).trans (by have h := heap_alloc_new (w.setCell ⟨B, 0, none⟩ (.slice (some ⟨g, off, none⟩) 0 0)) (.cells #[.int .i64 0, .int .i64 0, .int .i64 0, .string ByteArray.empty] 79); rw [size_set] at h; exact h)
    have hlt2 : w.heap.size < w2.heap.size := (Array.getElem?_eq_some_iff.1 hres).1
    have HG2 : Hid (World.grownBy _ w2 (some B)) := hg2
    have HI2 : Hid (Inp g w2 B v2 rest) := hI2
    have HR : Hid (TextR bs f0 rest) := hR
    clear hg2 hI2 hR HADV HI
    go_wp2_with fail
    by_cases htag : 1 ≤ t ∧ t ≤ 63
    · obtain ⟨ht1, ht2⟩ := htag
      have HS : Hid ((fun W : World => FieldAt W w2.heap.size 0 ⟨(t : Int), f0.kind, f0.n, f0.s⟩ ∧ Result4 W w.heap.size) (w2.alloc (.cells #[.int .i64 (t : Int), .int .i64 f0.kind, .int .i64 f0.n, .string f0.s] 79)).drew) := ⟨(box_at w2 ⟨(t : Int), f0.kind, f0.n, f0.s⟩).drew, (Below.heap_alloc _ _ _ (by omega)).trans hres |> Result4.of⟩
      refine wp_region_held_drew (S := (fun W : World => FieldAt W w2.heap.size 0 ⟨(t : Int), f0.kind, f0.n, f0.s⟩ ∧ Result4 W w.heap.size)) (by kernel_rfl) HS.out (fun _ => ?_)
      refine heldTake 0 (some 32) (fv ⟨(t : Int), f0.kind, f0.n, f0.s⟩) rfl rfl (by kernel_rfl) (by kernel_rfl) (by kernel_rfl) (fun _ _ _ h => h) ((yieldsIf_load_mid (by rfl) _ _ rfl _ _ rfl (fcells ⟨(t : Int), f0.kind, f0.n, f0.s⟩) _ (fun w hS => hS.1.range) Tryd.underlying79 rfl size38)) HS.out ?_
      simp only [Act.put, List.setIfInBounds_toArray, List.set_cons_zero, List.set_cons_succ]
      refine heldTake 1 (some 33) (.bool true) rfl rfl (by kernel_rfl) (by kernel_rfl) (by kernel_rfl) (fun _ _ _ h => h) (Or.inl ⟨by rfl, fun w hS => ?_⟩) HS.out ?_
      · (go_simp)
      simp only [Act.put, List.setIfInBounds_toArray, List.set_cons_zero, List.set_cons_succ]
      refine heldTake 2 (some 34) (.bool true) rfl rfl (by kernel_rfl) (by kernel_rfl) (by kernel_rfl) (fun _ _ _ h => h) (Or.inl ⟨by rfl, fun w hS => ?_⟩) HS.out ?_
      · (go_simp)
      simp only [Act.put, List.setIfInBounds_toArray, List.set_cons_zero, List.set_cons_succ]
      refine heldTake 3 (some 35) (.pointer (some ⟨w2.heap.size, 0, none⟩)) rfl rfl (by kernel_rfl) (by kernel_rfl) (by kernel_rfl) (fun _ _ _ h => h) (Or.inl ⟨by rfl, fun w hS => ?_⟩) HS.out ?_
      · (go_simp)
      simp only [Act.put, List.setIfInBounds_toArray, List.set_cons_zero, List.set_cons_succ]
      refine heldTake 4 (some 36) (.int .i64 (t : Int)) rfl rfl (by kernel_rfl) (by kernel_rfl) (by kernel_rfl) (fun _ _ _ h => h) (Or.inl ⟨by rfl, fun w hS => ?_⟩) HS.out ?_
      · (have c := hS.1.tag; go_simp)
      simp only [Act.put, List.setIfInBounds_toArray, List.set_cons_zero, List.set_cons_succ]
      refine heldOne 5 (by kernel_rfl) rfl (by rfl) (fun KK hK => ?_)
      go_simp
      go_at_call 83
      refine (istag_yes (t : Int) (by omega) (by omega) _).mono ?_
      rintro e w3 ⟨rfl, rfl⟩
      refine hK.out _ _ HS.out ?_
      clear hK KK
      try simp only [Act.put, List.setIfInBounds_toArray, List.set_cons_zero, List.set_cons_succ]
      refine heldTake 6 (some 38) (.bool true) rfl rfl (by kernel_rfl) (by kernel_rfl) (by kernel_rfl) (fun _ _ _ h => h) (Or.inl ⟨by rfl, fun w hS => ?_⟩) HS.out ?_
      · (go_simp)
      simp only [Act.put, List.setIfInBounds_toArray, List.set_cons_zero, List.set_cons_succ]
      refine heldOne 7 (by kernel_rfl) rfl (by rfl) (fun KK hK => ?_)
      refine step_store38 rfl (.tmp 2) (.tmp 32) rfl w.heap.size ⟨(t : Int), f0.kind, f0.n, f0.s⟩ rfl rfl HS.out.2 ?_
      have HS7 : Hid ((fun W : World => FieldAt W w2.heap.size 0 ⟨(t : Int), f0.kind, f0.n, f0.s⟩ ∧ Result4 W w.heap.size) ((w2.alloc (.cells #[.int .i64 (t : Int), .int .i64 f0.kind, .int .i64 f0.n, .string f0.s] 79)).drew.setRow w.heap.size #[.int .i64 (t : Int), .int .i64 f0.kind, .int .i64 f0.n, .string f0.s])) := ⟨HS.out.1.other (by omega) _, HS.out.2.row ⟨(t : Int), f0.kind, f0.n, f0.s⟩⟩
      refine hK.out _ _ HS7.out ?_
      clear hK KK
      refine heldTake 8 (some 3) (.bool true) rfl rfl (by kernel_rfl) (by kernel_rfl) (by kernel_rfl) (fun _ _ _ h => h) (Or.inl ⟨by rfl, fun w hS => ?_⟩) HS7.out ?_
      · (go_simp)
      simp only [Act.put, List.setIfInBounds_toArray, List.set_cons_zero, List.set_cons_succ]
      refine wpAnyH_done (by kernel_rfl) ?_ _
      go_wp2_with fail
      refine bodyPost_ret (results38 rfl _ _ w.heap.size ⟨(t : Int), f0.kind, f0.n, f0.s⟩ _ rfl rfl (FieldAt.row ⟨(t : Int), f0.kind, f0.n, f0.s⟩ HS.out.2)) rfl ?_
      exact .inl ⟨_, rest, v2, ⟨by rw [HT.eq]; exact ht1, by rw [HT.eq]; exact ht2, f0, Or.inr ⟨hpar, HR.out⟩, by rw [HT.eq]⟩, rfl, end_grown (grown_set_alloc _ _ _ _) HG2.out _ _, end_inp HI2.out hB hlt2 _ _⟩
    · have HX : Hid (∀ f rest, ¬ FieldR h bs f rest) := fun f rest hf => htag ⟨by have := hf.1; rwa [HT.eq] at this, by have := hf.2.1; rwa [HT.eq] at this⟩
      have HS : Hid ((fun W : World => FieldAt W w2.heap.size 0 ⟨(t : Int), f0.kind, f0.n, f0.s⟩ ∧ Result4 W w.heap.size) (w2.alloc (.cells #[.int .i64 (t : Int), .int .i64 f0.kind, .int .i64 f0.n, .string f0.s] 79)).drew) := ⟨(box_at w2 ⟨(t : Int), f0.kind, f0.n, f0.s⟩).drew, (Below.heap_alloc _ _ _ (by omega)).trans hres |> Result4.of⟩
      refine wp_region_held_drew (S := (fun W : World => FieldAt W w2.heap.size 0 ⟨(t : Int), f0.kind, f0.n, f0.s⟩ ∧ Result4 W w.heap.size)) (by kernel_rfl) HS.out (fun _ => ?_)
      refine heldTake 0 (some 32) (fv ⟨(t : Int), f0.kind, f0.n, f0.s⟩) rfl rfl (by kernel_rfl) (by kernel_rfl) (by kernel_rfl) (fun _ _ _ h => h) ((yieldsIf_load_mid (by rfl) _ _ rfl _ _ rfl (fcells ⟨(t : Int), f0.kind, f0.n, f0.s⟩) _ (fun w hS => hS.1.range) Tryd.underlying79 rfl size38)) HS.out ?_
      simp only [Act.put, List.setIfInBounds_toArray, List.set_cons_zero, List.set_cons_succ]
      refine heldTake 1 (some 33) (.bool true) rfl rfl (by kernel_rfl) (by kernel_rfl) (by kernel_rfl) (fun _ _ _ h => h) (Or.inl ⟨by rfl, fun w hS => ?_⟩) HS.out ?_
      · (go_simp)
      simp only [Act.put, List.setIfInBounds_toArray, List.set_cons_zero, List.set_cons_succ]
      refine heldTake 2 (some 34) (.bool true) rfl rfl (by kernel_rfl) (by kernel_rfl) (by kernel_rfl) (fun _ _ _ h => h) (Or.inl ⟨by rfl, fun w hS => ?_⟩) HS.out ?_
      · (go_simp)
      simp only [Act.put, List.setIfInBounds_toArray, List.set_cons_zero, List.set_cons_succ]
      refine heldTake 3 (some 35) (.pointer (some ⟨w2.heap.size, 0, none⟩)) rfl rfl (by kernel_rfl) (by kernel_rfl) (by kernel_rfl) (fun _ _ _ h => h) (Or.inl ⟨by rfl, fun w hS => ?_⟩) HS.out ?_
      · (go_simp)
      simp only [Act.put, List.setIfInBounds_toArray, List.set_cons_zero, List.set_cons_succ]
      refine heldTake 4 (some 36) (.int .i64 (t : Int)) rfl rfl (by kernel_rfl) (by kernel_rfl) (by kernel_rfl) (fun _ _ _ h => h) (Or.inl ⟨by rfl, fun w hS => ?_⟩) HS.out ?_
      · (have c := hS.1.tag; go_simp)
      simp only [Act.put, List.setIfInBounds_toArray, List.set_cons_zero, List.set_cons_succ]
      refine heldOne 5 (by kernel_rfl) rfl (by rfl) (fun KK hK => ?_)
      go_simp
      go_at_call 83
      refine (istag_no (t : Int) (by omega) _).mono ?_
      rintro e w3 ⟨rfl, rfl⟩
      refine hK.out _ _ HS.out ?_
      clear hK KK
      try simp only [Act.put, List.setIfInBounds_toArray, List.set_cons_zero, List.set_cons_succ]
      refine heldTake 6 (some 38) (.bool false) rfl rfl (by kernel_rfl) (by kernel_rfl) (by kernel_rfl) (fun _ _ _ h => h) (Or.inl ⟨by rfl, fun w hS => ?_⟩) HS.out ?_
      · (go_simp)
      simp only [Act.put, List.setIfInBounds_toArray, List.set_cons_zero, List.set_cons_succ]
      refine heldOne 7 (by kernel_rfl) rfl (by rfl) (fun KK hK => ?_)
      refine step_store38 rfl (.tmp 2) (.tmp 32) rfl w.heap.size ⟨(t : Int), f0.kind, f0.n, f0.s⟩ rfl rfl HS.out.2 ?_
      have HS7 : Hid ((fun W : World => FieldAt W w2.heap.size 0 ⟨(t : Int), f0.kind, f0.n, f0.s⟩ ∧ Result4 W w.heap.size) ((w2.alloc (.cells #[.int .i64 (t : Int), .int .i64 f0.kind, .int .i64 f0.n, .string f0.s] 79)).drew.setRow w.heap.size #[.int .i64 (t : Int), .int .i64 f0.kind, .int .i64 f0.n, .string f0.s])) := ⟨HS.out.1.other (by omega) _, HS.out.2.row ⟨(t : Int), f0.kind, f0.n, f0.s⟩⟩
      refine hK.out _ _ HS7.out ?_
      clear hK KK
      refine heldTake 8 (some 3) (.bool false) rfl rfl (by kernel_rfl) (by kernel_rfl) (by kernel_rfl) (fun _ _ _ h => h) (Or.inl ⟨by rfl, fun w hS => ?_⟩) HS7.out ?_
      · (go_simp)
      simp only [Act.put, List.setIfInBounds_toArray, List.set_cons_zero, List.set_cons_succ]
      refine wpAnyH_done (by kernel_rfl) ?_ _
      go_wp2_with fail
      refine bodyPost_ret (results38 rfl _ _ w.heap.size ⟨(t : Int), f0.kind, f0.n, f0.s⟩ _ rfl rfl (FieldAt.row ⟨(t : Int), f0.kind, f0.n, f0.s⟩ HS.out.2)) rfl ?_
      exact .inr ⟨HX.out, _, rfl, end_grown (grown_set_alloc _ _ _ _) HG2.out _ _⟩
  · have hres : w2.heap[w.heap.size]? = some (.cells #[.int .i64 0, .int .i64 0, .int .i64 0, .string ByteArray.empty] 79 (0, 0)) := (grownBy_heap hg2 (k := w.heap.size) (by rw [size_alloc1, size_set]; omega) (by omega)).trans (by have h := heap_alloc_new (w.setCell ⟨B, 0, none⟩ (.slice (some ⟨g, off, none⟩) 0 0)) (.cells #[.int .i64 0, .int .i64 0, .int .i64 0, .string ByteArray.empty] 79); rw [size_set] at h; exact h)
    have hlt2 : w.heap.size < w2.heap.size := (Array.getElem?_eq_some_iff.1 hres).1
    have HG2 : Hid (World.grownBy _ w2 (some B)) := hg2
    have HX : Hid (∀ f rest, ¬ FieldR h bs f rest) := fun f rest ⟨_, _, f1, hf, _⟩ => hf.elim (fun h2 => absurd h2.1 (by omega)) (fun h1 => hX _ _ h1.2)
    clear hg2 hX HADV HI
    go_wp2_with fail
    have HS : Hid ((fun W : World => FieldAt W w2.heap.size 0 ⟨(t : Int), f0.kind, f0.n, f0.s⟩ ∧ Result4 W w.heap.size) (w2.alloc (.cells #[.int .i64 (t : Int), .int .i64 f0.kind, .int .i64 f0.n, .string f0.s] 79)).drew) := ⟨(box_at w2 ⟨(t : Int), f0.kind, f0.n, f0.s⟩).drew, (Below.heap_alloc _ _ _ (by omega)).trans hres |> Result4.of⟩
    refine wp_region_held_drew (S := (fun W : World => FieldAt W w2.heap.size 0 ⟨(t : Int), f0.kind, f0.n, f0.s⟩ ∧ Result4 W w.heap.size)) (by kernel_rfl) HS.out (fun _ => ?_)
    refine heldTake 0 (some 32) (fv ⟨(t : Int), f0.kind, f0.n, f0.s⟩) rfl rfl (by kernel_rfl) (by kernel_rfl) (by kernel_rfl) (fun _ _ _ h => h) ((yieldsIf_load_mid (by rfl) _ _ rfl _ _ rfl (fcells ⟨(t : Int), f0.kind, f0.n, f0.s⟩) _ (fun w hS => hS.1.range) Tryd.underlying79 rfl size38)) HS.out ?_
    simp only [Act.put, List.setIfInBounds_toArray, List.set_cons_zero, List.set_cons_succ]
    refine heldTake 1 (some 33) (.bool false) rfl rfl (by kernel_rfl) (by kernel_rfl) (by kernel_rfl) (fun _ _ _ h => h) (Or.inl ⟨by rfl, fun w hS => ?_⟩) HS.out ?_
    · (go_simp)
    simp only [Act.put, List.setIfInBounds_toArray, List.set_cons_zero, List.set_cons_succ]
    refine heldTake 2 (some 34) (.bool false) rfl rfl (by kernel_rfl) (by kernel_rfl) (by kernel_rfl) (fun _ _ _ h => h) (Or.inl ⟨by rfl, fun w hS => ?_⟩) HS.out ?_
    · (go_simp)
    simp only [Act.put, List.setIfInBounds_toArray, List.set_cons_zero, List.set_cons_succ]
    refine heldTake 3 (some 35) (undef) rfl rfl (by kernel_rfl) (by kernel_rfl) (by kernel_rfl) (fun _ _ _ h => h) (Or.inr ⟨by rfl, rfl⟩) HS.out ?_
    simp only [Act.put, List.setIfInBounds_toArray, List.set_cons_zero, List.set_cons_succ]
    refine heldTake 4 (some 36) (undef) rfl rfl (by kernel_rfl) (by kernel_rfl) (by kernel_rfl) (fun _ _ _ h => h) (Or.inr ⟨by rfl, rfl⟩) HS.out ?_
    simp only [Act.put, List.setIfInBounds_toArray, List.set_cons_zero, List.set_cons_succ]
    refine heldTake 5 (some 37) (undef) rfl rfl (by kernel_rfl) (by kernel_rfl) (by kernel_rfl) (fun _ _ _ h => h) (Or.inr ⟨by rfl, rfl⟩) HS.out ?_
    simp only [Act.put, List.setIfInBounds_toArray, List.set_cons_zero, List.set_cons_succ]
    refine heldTake 6 (some 38) (.bool false) rfl rfl (by kernel_rfl) (by kernel_rfl) (by kernel_rfl) (fun _ _ _ h => h) (Or.inl ⟨by rfl, fun w hS => ?_⟩) HS.out ?_
    · (go_simp)
    simp only [Act.put, List.setIfInBounds_toArray, List.set_cons_zero, List.set_cons_succ]
    refine heldOne 7 (by kernel_rfl) rfl (by rfl) (fun KK hK => ?_)
    refine step_store38 rfl (.tmp 2) (.tmp 32) rfl w.heap.size ⟨(t : Int), f0.kind, f0.n, f0.s⟩ rfl rfl HS.out.2 ?_
    have HS7 : Hid ((fun W : World => FieldAt W w2.heap.size 0 ⟨(t : Int), f0.kind, f0.n, f0.s⟩ ∧ Result4 W w.heap.size) ((w2.alloc (.cells #[.int .i64 (t : Int), .int .i64 f0.kind, .int .i64 f0.n, .string f0.s] 79)).drew.setRow w.heap.size #[.int .i64 (t : Int), .int .i64 f0.kind, .int .i64 f0.n, .string f0.s])) := ⟨HS.out.1.other (by omega) _, HS.out.2.row ⟨(t : Int), f0.kind, f0.n, f0.s⟩⟩
    refine hK.out _ _ HS7.out ?_
    clear hK KK
    refine heldTake 8 (some 3) (.bool false) rfl rfl (by kernel_rfl) (by kernel_rfl) (by kernel_rfl) (fun _ _ _ h => h) (Or.inl ⟨by rfl, fun w hS => ?_⟩) HS7.out ?_
    · (go_simp)
    simp only [Act.put, List.setIfInBounds_toArray, List.set_cons_zero, List.set_cons_succ]
    refine wpAnyH_done (by kernel_rfl) ?_ _
    go_wp2_with fail
    refine bodyPost_ret (results38 rfl _ _ w.heap.size ⟨(t : Int), f0.kind, f0.n, f0.s⟩ _ rfl rfl (FieldAt.row ⟨(t : Int), f0.kind, f0.n, f0.s⟩ HS.out.2)) rfl ?_
    exact .inr ⟨HX.out, _, rfl, end_grown (grown_set_alloc _ _ _ _) HG2.out _ _⟩
set_option maxHeartbeats 1000000 in
set_option maxRecDepth 20000 in
theorem field_text (B : Nat) (v : Value) (h : Nat) (bs : List Nat) (w : World) (hI : Inp G w B v (h :: bs)) (hpar : h % 2 = 1) (hcp : ∀ a l, v = .slice a l 1 → False) :
    Calls Tryd.prog 75 #[.pointer (some ⟨B, 0, none⟩)] w (FieldPost G (FieldR h bs) B w) := by
  have HI : Hid (Inp G w B v (h :: bs)) := hI
  have hB := hI.lt
  have hcB := hI.box.cell
  have hfB := hI.box.frozen
  obtain ⟨a, cap, rfl, hlc, hcm, hat⟩ := hI.val
  obtain ⟨g, off, rfl, ⟨hgB, rfl⟩, hc⟩ := hat
  have h0 := hc 0 (by simp)
  have c0 : w.cell? ⟨g, off, none⟩ = some (.int .u8 (h : Int)) := h0
  have h8 : h < 256 := hI.byte h List.mem_cons_self
  have HC : Hid (∀ i, i < (h :: bs).length → w.cell? ⟨g, off + i, none⟩ = some (V8 ((h :: bs).getD i 0))) := hc
  clear hI hc h0
  have hne : ¬ w.heap.size = B := by omega
  have hgw : g < w.heap.size := by omega
  obtain ⟨L, hL⟩ : ∃ L, L = bs.length := ⟨_, rfl⟩
  have HL : Is (h :: bs).length (L + 1) := ⟨by rw [List.length_cons, hL]⟩
  rw [HL.eq] at hcB hlc HI
  have HADV : Hid (∀ off', (off' = off + 1 ∨ 1 = cap) → Inp g ((w.setCell ⟨B, 0, none⟩ (.slice (some ⟨g, off', none⟩) L (cap - 1))).alloc (.cells #[.int .i64 0, .int .i64 0, .int .i64 0, .string ByteArray.empty] 79)) B (.slice (some ⟨g, off', none⟩) L (cap - 1)) bs) := fun off' ho => by
    have := Inp.adv HI.out HL.eq ⟨hgB, rfl⟩ HC.out 1 (by omega) hlc hcm off' ho
    rw [Nat.add_sub_cancel] at this
    exact this.alloc _
  clear hL HL HC
  obtain ⟨t, ht⟩ : ∃ t, t = h / 2 := ⟨_, rfl⟩
  have HT : Is (h / 2) t := ⟨ht.symm⟩
  have et1 : (h : Int) / 2 = (t : Int) := by omega
  have et2 : (h : Int).tdiv 2 = (t : Int) := by rw [Int.tdiv_eq_ediv_of_nonneg (by omega)]; omega
  have er0 : (h : Int).tmod 2 = (h : Int) % 2 := by rw [Int.tmod_eq_emod_of_nonneg (by omega)]
  clear ht
  have er1 : (h : Int) % 2 = 1 := by omega
  have hcap : ¬ cap = 1 := fun e => hcp _ _ (by rw [e])
  have hcap' : ¬ (1 : Int) = (cap : Int) := by omega
  have i1 : (1 : Int) ≤ (L : Int) + 1 := by omega
  have i2 : (1 : Int) ≤ (cap : Int) := by omega
  have HA2 := HADV.out (off + 1) (.inl rfl)
  have C := textf_any B _ bs _ HA2
  clear HA2
  go_enter Tryd.func75, Tryd.ntmps75
  go_wp2_with fail
  refine C.mono ?_
  clear C
  rintro e w2 (⟨f0, rest, v2, hR, rfl, hg2, hI2⟩ | ⟨hX, f0, rfl, hg2⟩)
  · have hres : w2.heap[w.heap.size]? = some (.cells #[.int .i64 0, .int .i64 0, .int .i64 0, .string ByteArray.empty] 79 (0, 0)) := (grownBy_heap hg2 (k := w.heap.size) (by rw [size_alloc1, size_set]; omega) (by omega)).trans (by have h := heap_alloc_new (w.setCell ⟨B, 0, none⟩ (.slice (some ⟨g, off + 1, none⟩) L (cap - 1))) (.cells #[.int .i64 0, .int .i64 0, .int .i64 0, .string ByteArray.empty] 79); rw [size_set] at h; exact h)
    have hlt2 : w.heap.size < w2.heap.size := (Array.getElem?_eq_some_iff.1 hres).1
    have HG2 : Hid (World.grownBy _ w2 (some B)) := hg2
    have HI2 : Hid (Inp g w2 B v2 rest) := hI2
    have HR : Hid (TextR bs f0 rest) := hR
    clear hg2 hI2 hR HADV HI
    go_wp2_with fail
    by_cases htag : 1 ≤ t ∧ t ≤ 63
    · obtain ⟨ht1, ht2⟩ := htag
      have HS : Hid ((fun W : World => FieldAt W w2.heap.size 0 ⟨(t : Int), f0.kind, f0.n, f0.s⟩ ∧ Result4 W w.heap.size) (w2.alloc (.cells #[.int .i64 (t : Int), .int .i64 f0.kind, .int .i64 f0.n, .string f0.s] 79)).drew) := ⟨(box_at w2 ⟨(t : Int), f0.kind, f0.n, f0.s⟩).drew, (Below.heap_alloc _ _ _ (by omega)).trans hres |> Result4.of⟩
      refine wp_region_held_drew (S := (fun W : World => FieldAt W w2.heap.size 0 ⟨(t : Int), f0.kind, f0.n, f0.s⟩ ∧ Result4 W w.heap.size)) (by kernel_rfl) HS.out (fun _ => ?_)
      refine heldTake 0 (some 32) (fv ⟨(t : Int), f0.kind, f0.n, f0.s⟩) rfl rfl (by kernel_rfl) (by kernel_rfl) (by kernel_rfl) (fun _ _ _ h => h) ((yieldsIf_load_mid (by rfl) _ _ rfl _ _ rfl (fcells ⟨(t : Int), f0.kind, f0.n, f0.s⟩) _ (fun w hS => hS.1.range) Tryd.underlying79 rfl size38)) HS.out ?_
      simp only [Act.put, List.setIfInBounds_toArray, List.set_cons_zero, List.set_cons_succ]
      refine heldTake 1 (some 33) (.bool true) rfl rfl (by kernel_rfl) (by kernel_rfl) (by kernel_rfl) (fun _ _ _ h => h) (Or.inl ⟨by rfl, fun w hS => ?_⟩) HS.out ?_
      · (go_simp)
      simp only [Act.put, List.setIfInBounds_toArray, List.set_cons_zero, List.set_cons_succ]
      refine heldTake 2 (some 34) (.bool true) rfl rfl (by kernel_rfl) (by kernel_rfl) (by kernel_rfl) (fun _ _ _ h => h) (Or.inl ⟨by rfl, fun w hS => ?_⟩) HS.out ?_
      · (go_simp)
      simp only [Act.put, List.setIfInBounds_toArray, List.set_cons_zero, List.set_cons_succ]
      refine heldTake 3 (some 35) (.pointer (some ⟨w2.heap.size, 0, none⟩)) rfl rfl (by kernel_rfl) (by kernel_rfl) (by kernel_rfl) (fun _ _ _ h => h) (Or.inl ⟨by rfl, fun w hS => ?_⟩) HS.out ?_
      · (go_simp)
      simp only [Act.put, List.setIfInBounds_toArray, List.set_cons_zero, List.set_cons_succ]
      refine heldTake 4 (some 36) (.int .i64 (t : Int)) rfl rfl (by kernel_rfl) (by kernel_rfl) (by kernel_rfl) (fun _ _ _ h => h) (Or.inl ⟨by rfl, fun w hS => ?_⟩) HS.out ?_
      · (have c := hS.1.tag; go_simp)
      simp only [Act.put, List.setIfInBounds_toArray, List.set_cons_zero, List.set_cons_succ]
      refine heldOne 5 (by kernel_rfl) rfl (by rfl) (fun KK hK => ?_)
      go_simp
      go_at_call 83
      refine (istag_yes (t : Int) (by omega) (by omega) _).mono ?_
      rintro e w3 ⟨rfl, rfl⟩
      refine hK.out _ _ HS.out ?_
      clear hK KK
      try simp only [Act.put, List.setIfInBounds_toArray, List.set_cons_zero, List.set_cons_succ]
      refine heldTake 6 (some 38) (.bool true) rfl rfl (by kernel_rfl) (by kernel_rfl) (by kernel_rfl) (fun _ _ _ h => h) (Or.inl ⟨by rfl, fun w hS => ?_⟩) HS.out ?_
      · (go_simp)
      simp only [Act.put, List.setIfInBounds_toArray, List.set_cons_zero, List.set_cons_succ]
      refine heldOne 7 (by kernel_rfl) rfl (by rfl) (fun KK hK => ?_)
      refine step_store38 rfl (.tmp 2) (.tmp 32) rfl w.heap.size ⟨(t : Int), f0.kind, f0.n, f0.s⟩ rfl rfl HS.out.2 ?_
      have HS7 : Hid ((fun W : World => FieldAt W w2.heap.size 0 ⟨(t : Int), f0.kind, f0.n, f0.s⟩ ∧ Result4 W w.heap.size) ((w2.alloc (.cells #[.int .i64 (t : Int), .int .i64 f0.kind, .int .i64 f0.n, .string f0.s] 79)).drew.setRow w.heap.size #[.int .i64 (t : Int), .int .i64 f0.kind, .int .i64 f0.n, .string f0.s])) := ⟨HS.out.1.other (by omega) _, HS.out.2.row ⟨(t : Int), f0.kind, f0.n, f0.s⟩⟩
      refine hK.out _ _ HS7.out ?_
      clear hK KK
      refine heldTake 8 (some 3) (.bool true) rfl rfl (by kernel_rfl) (by kernel_rfl) (by kernel_rfl) (fun _ _ _ h => h) (Or.inl ⟨by rfl, fun w hS => ?_⟩) HS7.out ?_
      · (go_simp)
      simp only [Act.put, List.setIfInBounds_toArray, List.set_cons_zero, List.set_cons_succ]
      refine wpAnyH_done (by kernel_rfl) ?_ _
      go_wp2_with fail
      refine bodyPost_ret (results38 rfl _ _ w.heap.size ⟨(t : Int), f0.kind, f0.n, f0.s⟩ _ rfl rfl (FieldAt.row ⟨(t : Int), f0.kind, f0.n, f0.s⟩ HS.out.2)) rfl ?_
      exact .inl ⟨_, rest, v2, ⟨by rw [HT.eq]; exact ht1, by rw [HT.eq]; exact ht2, f0, Or.inr ⟨hpar, HR.out⟩, by rw [HT.eq]⟩, rfl, end_grown (grown_set_alloc _ _ _ _) HG2.out _ _, end_inp HI2.out hB hlt2 _ _⟩
    · have HX : Hid (∀ f rest, ¬ FieldR h bs f rest) := fun f rest hf => htag ⟨by have := hf.1; rwa [HT.eq] at this, by have := hf.2.1; rwa [HT.eq] at this⟩
      have HS : Hid ((fun W : World => FieldAt W w2.heap.size 0 ⟨(t : Int), f0.kind, f0.n, f0.s⟩ ∧ Result4 W w.heap.size) (w2.alloc (.cells #[.int .i64 (t : Int), .int .i64 f0.kind, .int .i64 f0.n, .string f0.s] 79)).drew) := ⟨(box_at w2 ⟨(t : Int), f0.kind, f0.n, f0.s⟩).drew, (Below.heap_alloc _ _ _ (by omega)).trans hres |> Result4.of⟩
      refine wp_region_held_drew (S := (fun W : World => FieldAt W w2.heap.size 0 ⟨(t : Int), f0.kind, f0.n, f0.s⟩ ∧ Result4 W w.heap.size)) (by kernel_rfl) HS.out (fun _ => ?_)
      refine heldTake 0 (some 32) (fv ⟨(t : Int), f0.kind, f0.n, f0.s⟩) rfl rfl (by kernel_rfl) (by kernel_rfl) (by kernel_rfl) (fun _ _ _ h => h) ((yieldsIf_load_mid (by rfl) _ _ rfl _ _ rfl (fcells ⟨(t : Int), f0.kind, f0.n, f0.s⟩) _ (fun w hS => hS.1.range) Tryd.underlying79 rfl size38)) HS.out ?_
      simp only [Act.put, List.setIfInBounds_toArray, List.set_cons_zero, List.set_cons_succ]
      refine heldTake 1 (some 33) (.bool true) rfl rfl (by kernel_rfl) (by kernel_rfl) (by kernel_rfl) (fun _ _ _ h => h) (Or.inl ⟨by rfl, fun w hS => ?_⟩) HS.out ?_
      · (go_simp)
      simp only [Act.put, List.setIfInBounds_toArray, List.set_cons_zero, List.set_cons_succ]
      refine heldTake 2 (some 34) (.bool true) rfl rfl (by kernel_rfl) (by kernel_rfl) (by kernel_rfl) (fun _ _ _ h => h) (Or.inl ⟨by rfl, fun w hS => ?_⟩) HS.out ?_
      · (go_simp)
      simp only [Act.put, List.setIfInBounds_toArray, List.set_cons_zero, List.set_cons_succ]
      refine heldTake 3 (some 35) (.pointer (some ⟨w2.heap.size, 0, none⟩)) rfl rfl (by kernel_rfl) (by kernel_rfl) (by kernel_rfl) (fun _ _ _ h => h) (Or.inl ⟨by rfl, fun w hS => ?_⟩) HS.out ?_
      · (go_simp)
      simp only [Act.put, List.setIfInBounds_toArray, List.set_cons_zero, List.set_cons_succ]
      refine heldTake 4 (some 36) (.int .i64 (t : Int)) rfl rfl (by kernel_rfl) (by kernel_rfl) (by kernel_rfl) (fun _ _ _ h => h) (Or.inl ⟨by rfl, fun w hS => ?_⟩) HS.out ?_
      · (have c := hS.1.tag; go_simp)
      simp only [Act.put, List.setIfInBounds_toArray, List.set_cons_zero, List.set_cons_succ]
      refine heldOne 5 (by kernel_rfl) rfl (by rfl) (fun KK hK => ?_)
      go_simp
      go_at_call 83
      refine (istag_no (t : Int) (by omega) _).mono ?_
      rintro e w3 ⟨rfl, rfl⟩
      refine hK.out _ _ HS.out ?_
      clear hK KK
      try simp only [Act.put, List.setIfInBounds_toArray, List.set_cons_zero, List.set_cons_succ]
      refine heldTake 6 (some 38) (.bool false) rfl rfl (by kernel_rfl) (by kernel_rfl) (by kernel_rfl) (fun _ _ _ h => h) (Or.inl ⟨by rfl, fun w hS => ?_⟩) HS.out ?_
      · (go_simp)
      simp only [Act.put, List.setIfInBounds_toArray, List.set_cons_zero, List.set_cons_succ]
      refine heldOne 7 (by kernel_rfl) rfl (by rfl) (fun KK hK => ?_)
      refine step_store38 rfl (.tmp 2) (.tmp 32) rfl w.heap.size ⟨(t : Int), f0.kind, f0.n, f0.s⟩ rfl rfl HS.out.2 ?_
      have HS7 : Hid ((fun W : World => FieldAt W w2.heap.size 0 ⟨(t : Int), f0.kind, f0.n, f0.s⟩ ∧ Result4 W w.heap.size) ((w2.alloc (.cells #[.int .i64 (t : Int), .int .i64 f0.kind, .int .i64 f0.n, .string f0.s] 79)).drew.setRow w.heap.size #[.int .i64 (t : Int), .int .i64 f0.kind, .int .i64 f0.n, .string f0.s])) := ⟨HS.out.1.other (by omega) _, HS.out.2.row ⟨(t : Int), f0.kind, f0.n, f0.s⟩⟩
      refine hK.out _ _ HS7.out ?_
      clear hK KK
      refine heldTake 8 (some 3) (.bool false) rfl rfl (by kernel_rfl) (by kernel_rfl) (by kernel_rfl) (fun _ _ _ h => h) (Or.inl ⟨by rfl, fun w hS => ?_⟩) HS7.out ?_
      · (go_simp)
      simp only [Act.put, List.setIfInBounds_toArray, List.set_cons_zero, List.set_cons_succ]
      refine wpAnyH_done (by kernel_rfl) ?_ _
      go_wp2_with fail
      refine bodyPost_ret (results38 rfl _ _ w.heap.size ⟨(t : Int), f0.kind, f0.n, f0.s⟩ _ rfl rfl (FieldAt.row ⟨(t : Int), f0.kind, f0.n, f0.s⟩ HS.out.2)) rfl ?_
      exact .inr ⟨HX.out, _, rfl, end_grown (grown_set_alloc _ _ _ _) HG2.out _ _⟩
  · have hres : w2.heap[w.heap.size]? = some (.cells #[.int .i64 0, .int .i64 0, .int .i64 0, .string ByteArray.empty] 79 (0, 0)) := (grownBy_heap hg2 (k := w.heap.size) (by rw [size_alloc1, size_set]; omega) (by omega)).trans (by have h := heap_alloc_new (w.setCell ⟨B, 0, none⟩ (.slice (some ⟨g, off + 1, none⟩) L (cap - 1))) (.cells #[.int .i64 0, .int .i64 0, .int .i64 0, .string ByteArray.empty] 79); rw [size_set] at h; exact h)
    have hlt2 : w.heap.size < w2.heap.size := (Array.getElem?_eq_some_iff.1 hres).1
    have HG2 : Hid (World.grownBy _ w2 (some B)) := hg2
    have HX : Hid (∀ f rest, ¬ FieldR h bs f rest) := fun f rest ⟨_, _, f1, hf, _⟩ => hf.elim (fun h2 => absurd h2.1 (by omega)) (fun h1 => hX _ _ h1.2)
    clear hg2 hX HADV HI
    go_wp2_with fail
    have HS : Hid ((fun W : World => FieldAt W w2.heap.size 0 ⟨(t : Int), f0.kind, f0.n, f0.s⟩ ∧ Result4 W w.heap.size) (w2.alloc (.cells #[.int .i64 (t : Int), .int .i64 f0.kind, .int .i64 f0.n, .string f0.s] 79)).drew) := ⟨(box_at w2 ⟨(t : Int), f0.kind, f0.n, f0.s⟩).drew, (Below.heap_alloc _ _ _ (by omega)).trans hres |> Result4.of⟩
    refine wp_region_held_drew (S := (fun W : World => FieldAt W w2.heap.size 0 ⟨(t : Int), f0.kind, f0.n, f0.s⟩ ∧ Result4 W w.heap.size)) (by kernel_rfl) HS.out (fun _ => ?_)
    refine heldTake 0 (some 32) (fv ⟨(t : Int), f0.kind, f0.n, f0.s⟩) rfl rfl (by kernel_rfl) (by kernel_rfl) (by kernel_rfl) (fun _ _ _ h => h) ((yieldsIf_load_mid (by rfl) _ _ rfl _ _ rfl (fcells ⟨(t : Int), f0.kind, f0.n, f0.s⟩) _ (fun w hS => hS.1.range) Tryd.underlying79 rfl size38)) HS.out ?_
    simp only [Act.put, List.setIfInBounds_toArray, List.set_cons_zero, List.set_cons_succ]
    refine heldTake 1 (some 33) (.bool false) rfl rfl (by kernel_rfl) (by kernel_rfl) (by kernel_rfl) (fun _ _ _ h => h) (Or.inl ⟨by rfl, fun w hS => ?_⟩) HS.out ?_
    · (go_simp)
    simp only [Act.put, List.setIfInBounds_toArray, List.set_cons_zero, List.set_cons_succ]
    refine heldTake 2 (some 34) (.bool false) rfl rfl (by kernel_rfl) (by kernel_rfl) (by kernel_rfl) (fun _ _ _ h => h) (Or.inl ⟨by rfl, fun w hS => ?_⟩) HS.out ?_
    · (go_simp)
    simp only [Act.put, List.setIfInBounds_toArray, List.set_cons_zero, List.set_cons_succ]
    refine heldTake 3 (some 35) (undef) rfl rfl (by kernel_rfl) (by kernel_rfl) (by kernel_rfl) (fun _ _ _ h => h) (Or.inr ⟨by rfl, rfl⟩) HS.out ?_
    simp only [Act.put, List.setIfInBounds_toArray, List.set_cons_zero, List.set_cons_succ]
    refine heldTake 4 (some 36) (undef) rfl rfl (by kernel_rfl) (by kernel_rfl) (by kernel_rfl) (fun _ _ _ h => h) (Or.inr ⟨by rfl, rfl⟩) HS.out ?_
    simp only [Act.put, List.setIfInBounds_toArray, List.set_cons_zero, List.set_cons_succ]
    refine heldTake 5 (some 37) (undef) rfl rfl (by kernel_rfl) (by kernel_rfl) (by kernel_rfl) (fun _ _ _ h => h) (Or.inr ⟨by rfl, rfl⟩) HS.out ?_
    simp only [Act.put, List.setIfInBounds_toArray, List.set_cons_zero, List.set_cons_succ]
    refine heldTake 6 (some 38) (.bool false) rfl rfl (by kernel_rfl) (by kernel_rfl) (by kernel_rfl) (fun _ _ _ h => h) (Or.inl ⟨by rfl, fun w hS => ?_⟩) HS.out ?_
    · (go_simp)
    simp only [Act.put, List.setIfInBounds_toArray, List.set_cons_zero, List.set_cons_succ]
    refine heldOne 7 (by kernel_rfl) rfl (by rfl) (fun KK hK => ?_)
    refine step_store38 rfl (.tmp 2) (.tmp 32) rfl w.heap.size ⟨(t : Int), f0.kind, f0.n, f0.s⟩ rfl rfl HS.out.2 ?_
    have HS7 : Hid ((fun W : World => FieldAt W w2.heap.size 0 ⟨(t : Int), f0.kind, f0.n, f0.s⟩ ∧ Result4 W w.heap.size) ((w2.alloc (.cells #[.int .i64 (t : Int), .int .i64 f0.kind, .int .i64 f0.n, .string f0.s] 79)).drew.setRow w.heap.size #[.int .i64 (t : Int), .int .i64 f0.kind, .int .i64 f0.n, .string f0.s])) := ⟨HS.out.1.other (by omega) _, HS.out.2.row ⟨(t : Int), f0.kind, f0.n, f0.s⟩⟩
    refine hK.out _ _ HS7.out ?_
    clear hK KK
    refine heldTake 8 (some 3) (.bool false) rfl rfl (by kernel_rfl) (by kernel_rfl) (by kernel_rfl) (fun _ _ _ h => h) (Or.inl ⟨by rfl, fun w hS => ?_⟩) HS7.out ?_
    · (go_simp)
    simp only [Act.put, List.setIfInBounds_toArray, List.set_cons_zero, List.set_cons_succ]
    refine wpAnyH_done (by kernel_rfl) ?_ _
    go_wp2_with fail
    refine bodyPost_ret (results38 rfl _ _ w.heap.size ⟨(t : Int), f0.kind, f0.n, f0.s⟩ _ rfl rfl (FieldAt.row ⟨(t : Int), f0.kind, f0.n, f0.s⟩ HS.out.2)) rfl ?_
    exact .inr ⟨HX.out, _, rfl, end_grown (grown_set_alloc _ _ _ _) HG2.out _ _⟩
theorem field_any (B : Nat) (v : Value) (h : Nat) (bs : List Nat) (w : World) (hI : Inp G w B v (h :: bs)) : Calls Tryd.prog 75 #[.pointer (some ⟨B, 0, none⟩)] w (FieldPost G (FieldR h bs) B w) := by
  by_cases hc : ∃ a l, v = .slice a l 1
  · rcases Nat.mod_two_eq_zero_or_one h with hp | hp
    · exact field_num1 B v h bs w hI hp hc
    · exact field_text1 B v h bs w hI hp hc
  · have hc' : ∀ a l, v = .slice a l 1 → False := fun a l e => hc ⟨a, l, e⟩
    rcases Nat.mod_two_eq_zero_or_one h with hp | hp
    · exact field_num B v h bs w hI hp hc'
    · exact field_text B v h bs w hI hp hc'
end Go.Proofs.YtealbeblkilibaaDoor.FI
