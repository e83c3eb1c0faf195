/- Proved: the law's helper few answers a slice of its own with the first 25 fields, their texts cut. -/
import Derived.Test.YtpbobmhffdmmmaaFrame
import Derived.Maps.AppendAt
import Derived.Deep.MidRow
import Derived.Laws.Rows
namespace Go.Proofs.Ytpbobmhffdmmmaa
open Go.RowKit
theorem info38 : Try.prog.info? 38 = some Try.t38 := by kernel_rfl
def fcells (f : Fv) : List Value := [.int .i64 f.tag, .int .i64 f.kind, .int .i64 f.n, .string f.s]
theorem fcells_one (fs : List Fv) : ∀ v ∈ fs.flatMap fcells, v.oneCell' = true := fun v hv => by
  obtain ⟨f, _, hf⟩ := List.mem_flatMap.1 hv
  simp [fcells] at hf
  rcases hf with rfl | rfl | rfl | rfl <;> rfl
theorem fcells_length (fs : List Fv) : (fs.flatMap fcells).length = fs.length * 4 := by
  induction fs with
  | nil => rfl
  | cons f fs ih => rw [List.flatMap_cons, List.length_append, ih, List.length_cons]; simp [fcells]; omega
/- 'append(x, y)' of one field behind a slice of the call's own -/
theorem append_field {ops : Array Oper} {rest : List Oper} {o : Oper} {a : Act} {Q : Exit → Act → World → Prop} (hgd : o.guard = none) (s x : Operand)
    (ho : o.op = .call { callee := .builtin .append, args := #[s, x], argTypes := #[22, 22] }) (W : World) (N : Nat) (v : Value) (n : Nat) (fs : List Fv) (hs : a.eval s = v) (hown : W.ownsRow N 38 4 v n (fs.flatMap fcells))
    (ad : Addr) (c : Nat) (f : Fv) (hx : a.eval x = .slice (some ad) 1 c) (hnews : ∀ j u, (fcells f)[j]? = some u → W.cell? (ad.add j) = some u) (hb : n + 1 ≤ 40000) (hN : N ≤ W.heap.size)
    (h : ∀ v' w', w'.ownsRow N 38 4 v' (n + 1) ((fs ++ [f]).flatMap fcells) → Below N W w' → wpList Try.prog ops Q rest (a.put o.dst v') w') : wpList Try.prog ops Q (o :: rest) a W := by
  obtain ⟨v', w', hr, h2, h3, h4, h5⟩ := run_append_own_at (P := Try.prog) W N 22 o.type 38 Try.t38 (.agg #[.int .i64 0, .int .i64 0, .int .i64 0, .string ByteArray.empty]) 4 40 Try.underlying22 info38 rfl rfl rfl rfl (by omega) v n (fs.flatMap fcells) hown ad 1 c (fcells f) (by simp [fcells]) hnews (fun u hu => fcells_one [f] u (by simpa using hu)) (by unfold maxLen; omega) (by omega) hN
  refine wpList_plain hgd fun K hK => ?_
  unfold Oper.wp execOp
  simp only [ho, resolve, invoke, builtin, Sem.run_bind, Sem.run_pure, Result.andThen_ok, List.map_toArray, List.map_cons, List.map_nil, hs, hx, hr]
  refine hK _ _ (h v' w' (by simpa using h2) ((Below.refl _ _).grown h3 hN (fun k hk => ?_)))
  rcases hown.2 with ⟨hv, _⟩ | ⟨g, cap', cur, hv, hNg, _⟩
  · subst hv; cases hk
  · subst hv
    have : g = k := Option.some.inj hk
    omega
/- an equation that is kept from tactics -/
structure Is {α : Type} (a b : α) : Prop where
  eq : a = b
def fv0 : Fv := ⟨0, 0, 0, ByteArray.empty⟩
def FieldsL (w : World) (a : Option Addr) (len : Nat) (fs : List Fv) : Prop :=
  fs.length = len ∧ (∀ f ∈ fs, f.Fits) ∧ (len = 0 ∨ ∃ b off, a = some ⟨b, off, none⟩ ∧ ∀ i, i < len → FieldAt w b (off + i * 4) (fs.getD i fv0))
theorem FieldAt.below {w w' : World} {b off B : Nat} {f : Fv} (h : FieldAt w b off f) (hb : Below B w w') (hl : b < B) : FieldAt w' b off f :=
  ⟨(hb.cell (p := ⟨b, off, none⟩) hl).trans h.tag, (hb.cell (p := ⟨b, off + 1, none⟩) hl).trans h.kind, (hb.cell (p := ⟨b, off + 2, none⟩) hl).trans h.n, (hb.cell (p := ⟨b, off + 3, none⟩) hl).trans h.s⟩
theorem Fields.list {w : World} {a : Option Addr} {len : Nat} (h : Fields w a len) : ∃ fs, FieldsL w a len fs := by
  rcases h with h | ⟨b, off, ha, hc⟩
  · subst h; exact ⟨[], rfl, (fun f hf => by cases hf), .inl rfl⟩
  · haveI : Inhabited Fv := ⟨fv0⟩
    obtain ⟨F, hF⟩ := Go.Deep.choose_lt hc
    refine ⟨(List.range len).map F, by simp, fun f hf => ?_, .inr ⟨b, off, ha, fun i hi => ?_⟩⟩
    · obtain ⟨i, hi, rfl⟩ := List.mem_map.1 hf
      exact (hF i (List.mem_range.1 hi)).1
    · rw [List.getD_eq_getElem?_getD, List.getElem?_map, List.getElem?_range hi]
      exact (hF i hi).2
theorem owns_alloc {w : World} {N n : Nat} {v : Value} {vs : List Value} (h : w.ownsRow N 38 4 v n vs) (o : Obj) : (w.alloc o).ownsRow N 38 4 v n vs := by
  obtain ⟨h0, h1⟩ := h
  refine ⟨h0, ?_⟩
  rcases h1 with h1 | ⟨g, cap', cur, hv, hN, hh, r⟩
  · exact .inl h1
  · exact .inr ⟨g, cap', cur, hv, hN, (Below.heap_alloc w o g (Array.getElem?_eq_some_iff.1 hh).1).trans hh, r⟩
theorem size_alloc1 (w : World) (o : Obj) : (w.alloc o).heap.size = w.heap.size + 1 := by simp
theorem field_new (w : World) (f : Fv) : ∀ j u, (fcells f)[j]? = some u → (w.alloc (.cells #[.int .i64 f.tag, .int .i64 f.kind, .int .i64 f.n, .string f.s] 38)).cell? ((⟨w.heap.size, 0, none⟩ : Addr).add j) = some u := fun j u hj => by
  rw [Go.WideShapes.add_plain, cell_of_row _ _ (0 + j) _ 38 (0, 0) (heap_alloc_new w _), Nat.zero_add]
  show (fcells f).toArray[j]? = some u
  rw [List.getElem?_toArray]; exact hj
/- a field as few leaves it -/
def cut (f : Fv) : Fv := if f.s.size ≤ 4100 then f else { f with s := f.s.extract 0 4100 }
theorem cut_small {f : Fv} (h : f.s.size ≤ 4100) : cut f = f := by unfold cut; rw [if_pos h]
theorem cut_large {f : Fv} (h : ¬ f.s.size ≤ 4100) : cut f = { f with s := f.s.extract 0 4100 } := by unfold cut; rw [if_neg h]
theorem take_cut (fs : List Fv) (k : Nat) (hk : k < fs.length) : ((fs.take (k + 1)).map cut) = ((fs.take k).map cut) ++ [cut (fs.getD k fv0)] := by
  rw [List.take_succ_eq_append_getElem hk, List.map_append, List.getD_eq_getElem?_getD, List.getElem?_eq_getElem hk]; rfl
set_option maxHeartbeats 1000000 in
set_option maxRecDepth 20000 in
theorem few_any (a : Option Addr) (len cap : Nat) (fs : List Fv) (w : World) (hF : FieldsL w a len fs) (hlen : len ≤ 9223372036854775807) :
    Calls Try.prog 9 #[.slice a len cap] w fun e w' => ∃ v n, e = .returned v ∧ n = min len 25 ∧ w'.ownsRow w.heap.size 38 4 v n (((fs.take n).map cut).flatMap fcells) ∧ Below w.heap.size w w' := by
  have HF : Hid (FieldsL w a len fs) := hF
  clear hF
  go_enter Try.func9, Try.ntmps9
  go_wp2_with fail
  go_loopw [3, 4] (fun s3 s4 wr => ∃ k : Nat, k ≤ len ∧ k ≤ 25 ∧ s4 = .int .i64 k ∧ wr.ownsRow w.heap.size 38 4 s3 k (((fs.take k).map cut).flatMap fcells) ∧ Below w.heap.size w wr) (fun _ s4 _ => 25 - (intOf s4).toNat)
  case atStart => exact ⟨0, by omega, by omega, rfl, ⟨rfl, .inl ⟨rfl, rfl⟩⟩, Below.refl _ _⟩
  case round =>
    obtain ⟨k, hk1, hk2, rfl, hO, hB⟩ := hrel
    have hO' := (show Hid (wr.ownsRow w.heap.size 38 4 _ k (((fs.take k).map cut).flatMap fcells)) from hO)
    have HB : Hid (Below w.heap.size w wr) := hB
    have hsz := hB.size
    clear hO hB
    by_cases hlt : k < len ∧ k < 25
    · obtain ⟨hl1, hl2⟩ := hlt
      have hd1 : decide ((k : Int) < (len : Int)) = true := by simp; omega
      have hd2 : decide ((k : Int) < 25) = true := by simp; omega
      obtain ⟨b, off, rfl, hc⟩ : ∃ b off, a = some ⟨b, off, none⟩ ∧ ∀ i, i < len → FieldAt w b (off + i * 4) (fs.getD i fv0) := by
        rcases HF.out.2.2 with h | h
        · omega
        · exact h
      have hbl : b < w.heap.size := block_lt_of_cell (hc k hl1).tag
      obtain ⟨c0, c1, c2, c3⟩ := (hc k hl1).below HB.out hbl
      have HNX : Is ((fs.take (k + 1)).map cut) ((fs.take k).map cut ++ [cut (fs.getD k fv0)]) := ⟨take_cut fs k (by rw [HF.out.1]; exact hl1)⟩
      generalize fs.getD k fv0 = f at *
      clear hc
      obtain ⟨ft, fk, fn, fx⟩ := f
      by_cases hs : fx.size ≤ 4100
      · rw [cut_small hs] at HNX
        have hmin : ¬ 4100 < fx.size := by omega
        have hmin' : ¬ (4100 : Int) < (fx.size : Int) := by omega
        have HNEW : Hid (∀ j u, (fcells ⟨ft, fk, fn, fx⟩)[j]? = some u → ((wr.alloc (.cells #[.int .i64 ft, .int .i64 fk, .int .i64 fn, .string fx] 38)).alloc (.cells #[.int .i64 ft, .int .i64 fk, .int .i64 fn, .string fx] 38)).cell? ((⟨wr.heap.size + 1, 0, none⟩ : Addr).add j) = some u) := fun j u hj => by
          have e := field_new (wr.alloc (.cells #[.int .i64 ft, .int .i64 fk, .int .i64 fn, .string fx] 38)) ⟨ft, fk, fn, fx⟩ j u hj
          rw [size_alloc1] at e
          exact e
        go_wp2_with (first | (refine append_field rfl (.tmp 28) (.tmp 30) rfl _ w.heap.size _ k _ rfl (owns_alloc (owns_alloc hO'.out _) _) ⟨wr.heap.size + 1, 0, none⟩ 1 ⟨ft, fk, fn, fx⟩ rfl HNEW.out (by omega) (by simp; omega) ?_; intro v' w' hO2 hB2))
        rw [← HNX.eq] at hO2
        have HFN : ∃ k' : Nat, k' ≤ len ∧ k' ≤ 25 ∧ Value.int .i64 ((k : Int) + 1) = .int .i64 k' ∧ w'.ownsRow w.heap.size 38 4 v' k' (((fs.take k').map cut).flatMap fcells) ∧ Below w.heap.size w w' := ⟨k + 1, by omega, by omega, by go_num, hO2, HB.out.trans ((((Below.refl _ wr).alloc (Nat.le_refl _) _).alloc (by simp) _).mono hsz |>.trans hB2)⟩
        go_wp2_with fail
        go_roundw
        case rel => first | exact HFN | ((repeat apply Exists.intro); exact ⟨HFN, rfl⟩)
        case measure => (simp [intOf]) <;> omega
      · rw [cut_large hs] at HNX
        have hmin : 4100 < fx.size := by omega
        have hmin' : (4100 : Int) < (fx.size : Int) := by omega
        generalize hx2 : fx.extract 0 4100 = fx2 at *
        have HNEW : Hid (∀ j u, (fcells ⟨ft, fk, fn, fx2⟩)[j]? = some u → ((wr.alloc (.cells #[.int .i64 ft, .int .i64 fk, .int .i64 fn, .string fx2] 38)).alloc (.cells #[.int .i64 ft, .int .i64 fk, .int .i64 fn, .string fx2] 38)).cell? ((⟨wr.heap.size + 1, 0, none⟩ : Addr).add j) = some u) := fun j u hj => by
          have e := field_new (wr.alloc (.cells #[.int .i64 ft, .int .i64 fk, .int .i64 fn, .string fx2] 38)) ⟨ft, fk, fn, fx2⟩ j u hj
          rw [size_alloc1] at e
          exact e
        go_wp2_with (first | (refine append_field rfl (.tmp 28) (.tmp 30) rfl _ w.heap.size _ k _ rfl (owns_alloc (owns_alloc hO'.out _) _) ⟨wr.heap.size + 1, 0, none⟩ 1 ⟨ft, fk, fn, fx2⟩ rfl HNEW.out (by omega) (by simp; omega) ?_; intro v' w' hO2 hB2))
        rw [← HNX.eq] at hO2
        have HFN : ∃ k' : Nat, k' ≤ len ∧ k' ≤ 25 ∧ Value.int .i64 ((k : Int) + 1) = .int .i64 k' ∧ w'.ownsRow w.heap.size 38 4 v' k' (((fs.take k').map cut).flatMap fcells) ∧ Below w.heap.size w w' := ⟨k + 1, by omega, by omega, by go_num, hO2, HB.out.trans ((((Below.refl _ wr).alloc (Nat.le_refl _) _).alloc (by simp) _).mono hsz |>.trans hB2)⟩
        go_wp2_with fail
        go_roundw
        case rel => first | exact HFN | ((repeat apply Exists.intro); exact ⟨HFN, rfl⟩)
        case measure => (simp [intOf]) <;> omega
    · by_cases hl2 : k < len
      · have hk25 : k = 25 := by omega
        subst hk25
        clear hlt
        have hd1 : decide (((25 : Nat) : Int) < (len : Int)) = true := by simp; omega
        go_wp2
        go_ret
        exact ⟨_, 25, rfl, by omega, hO'.out, HB.out⟩
      · have hkl : k = len := by omega
        clear hlt
        have hd1 : decide ((k : Int) < (len : Int)) = false := by simp; omega
        go_wp2
        go_ret
        exact ⟨_, k, rfl, by omega, hO'.out, HB.out⟩
end Go.Proofs.Ytpbobmhffdmmmaa
