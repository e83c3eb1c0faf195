/- Proved: Put puts a field ahead of the first one whose tag is above its own. -/
import Derived.Test.YtealbeblkilibaaDoorJ04
import Derived.Test.YtealbeblkilibaaDoorJ08
import Derived.Test.YtealbeblkilibaaDoorJ07
import Derived.Deep.AppendSrc
import Derived.Deep.Cut
namespace Go.Proofs.YtealbeblkilibaaDoor.FI
open Go.RowKit
def putV : List Fv → Fv → List Fv
  | [], f => [f]
  | g :: l, f => if f.tag < g.tag then f :: g :: l else g :: putV l f
theorem putV_at : ∀ (fs : List Fv) (f : Fv) (k : Nat), (∀ g ∈ fs.take k, ¬ f.tag < g.tag) → (∀ g, (fs.drop k).head? = some g → f.tag < g.tag) → putV fs f = fs.take k ++ f :: fs.drop k
  | [], f, k, _, _ => by simp [putV]
  | g :: l, f, 0, _, h2 => by
    have := h2 g rfl
    unfold putV
    rw [if_pos this]; rfl
  | g :: l, f, k + 1, h1, h2 => by
    have h3 := h1 g (by simp)
    unfold putV
    rw [if_neg h3, putV_at l f k (fun x hx => h1 x (by simp [hx])) (fun x hx => h2 x (by simpa using hx))]
    rfl
theorem putV_length (fs : List Fv) (f : Fv) : (putV fs f).length = fs.length + 1 := by
  induction fs with
  | nil => rfl
  | cons g l ih =>
    unfold putV
    split
    · rfl
    · simp [ih]
theorem fieldsL_cells {w : World} {b off : Nat} {len : Nat} {fs : List Fv} (hl : fs.length = len) (hc : ∀ i, i < len → FieldAt w b (off + i * 4) (fs.getD i fv0)) : ∀ j u, (fs.flatMap fcells)[j]? = some u → w.cell? ((⟨b, off, none⟩ : Addr).add j) = some u := fun j u hj => by
  have hjl : j < fs.length * 4 := by
    have := (List.getElem?_eq_some_iff.1 hj).1
    rwa [fcells_length] at this
  have hd : j = (j / 4) * 4 + j % 4 := by omega
  have hi : j / 4 < fs.length := by omega
  have hf := flat_at fs (j / 4) (j % 4) hi (by omega)
  rw [← hd, hj] at hf
  have c := hc (j / 4) (by omega)
  rw [Go.WideShapes.add_plain, show off + j = off + j / 4 * 4 + j % 4 by omega]
  have hr : j % 4 < 4 := by omega
  generalize j % 4 = r at *
  match r, hr, hf with
  | 0, _, hf => cases hf; exact c.tag
  | 1, _, hf => cases hf; exact c.kind
  | 2, _, hf => cases hf; exact c.n
  | 3, _, hf => cases hf; exact c.s
/- 'append(x, l...)' of fields behind a slice of the call's own -/
theorem app_fields {ops : Array Oper} {rest : List Oper} {o : Oper} {a : Act} {Q : Exit → Act → World → Prop} (hgd : o.guard = none) (s x : Operand)
    (ho : o.op = .call { callee := .builtin .append, args := #[s, x], argTypes := #[40, 40] }) (W : World) (N : Nat) (v : Value) (n : Nat) (fs : List Fv) (hs : a.eval s = v) (hown : W.ownsRow N 79 4 v n (fs.flatMap fcells))
    (ad : Addr) (m c : Nat) (gs : List Fv) (hgl : gs.length = m) (hx : a.eval x = .slice (some ad) m c) (hnews : ∀ j u, (gs.flatMap fcells)[j]? = some u → W.cell? (ad.add j) = some u) (hb : n + m ≤ 100000) (hN : N ≤ W.heap.size)
    (h : ∀ v' w', w'.ownsRow N 79 4 v' (n + m) ((fs ++ gs).flatMap fcells) → Below N W w' → wpList Tryd.prog ops Q rest (a.put o.dst v') w') : wpList Tryd.prog ops Q (o :: rest) a W := by
  obtain ⟨v', w', hr, h2, h3, h4, h5⟩ := run_append_own_at (P := Tryd.prog) W N 40 o.type 79 Tryd.t79 (.agg #[.int .i64 0, .int .i64 0, .int .i64 0, .string ByteArray.empty]) 4 40 Tryd.underlying40 info38 rfl rfl rfl rfl (by omega) v n (fs.flatMap fcells) hown ad m c (gs.flatMap fcells) (by rw [fcells_length, hgl]) hnews (fcells_one gs) (by unfold maxLen; omega) (by omega) hN
  refine wpList_plain hgd fun K hK => ?_
  unfold Oper.wp execOp
  simp only [ho, resolve, invoke, builtin, Sem.run_bind, Sem.run_pure, Result.andThen_ok, List.map_toArray, List.map_cons, List.map_nil, hs, hx, hr]
  rw [← List.flatMap_append] at h2
  refine hK _ _ (h v' w' h2 ((Below.refl _ _).grown h3 hN (fun k hk => ?_)))
  rcases hown.2 with ⟨hv, _⟩ | ⟨g, cap', cur, hv, hNg, _⟩
  · subst hv; cases hk
  · subst hv
    have : g = k := Option.some.inj hk
    omega
/- 'append(x, l...)' of no fields (l nil) where there is room -/
theorem app_nofields {ops : Array Oper} {rest : List Oper} {o : Oper} {a : Act} {Q : Exit → Act → World → Prop} (hgd : o.guard = none) (s x : Operand)
    (ho : o.op = .call { callee := .builtin .append, args := #[s, x], argTypes := #[40, 40] }) (W : World) (v : Value) (n : Nat) (hs : a.eval s = v) (hv : ∃ g cap, n ≤ cap ∧ v = .slice (some ⟨g, 0, none⟩) n cap) (c : Nat) (hx : a.eval x = .slice none 0 c)
    (h : wpList Tryd.prog ops Q rest (a.put o.dst v) W) : wpList Tryd.prog ops Q (o :: rest) a W := by
  obtain ⟨g, cap, hc, rfl⟩ := hv
  have hr := run_append_room_src (P := Tryd.prog) W 40 40 o.type 79 Tryd.t79 Tryd.underlying40 info38 g 0 n cap (.slice none 0 c) 0 [] (Src.ofNil W Tryd.underlying40 c) (by omega) (fun j hj => by cases hj) (fun j hj => by cases hj)
  refine wpList_plain hgd fun K hK => ?_
  unfold Oper.wp execOp
  simp only [ho, resolve, invoke, builtin, Sem.run_bind, Sem.run_pure, Result.andThen_ok, List.map_toArray, List.map_cons, List.map_nil, hs, hx, hr]
  exact hK _ _ h
theorem own_some {w : World} {N n : Nat} {v : Value} {vs : List Value} (h : w.ownsRow N 79 4 v (n + 1) vs) : ∃ g cap, n + 1 ≤ cap ∧ v = .slice (some ⟨g, 0, none⟩) (n + 1) cap := by
  rcases h.2 with ⟨_, h0, _⟩ | ⟨g, cap', cur, hv, hNg, hrest⟩
  exact ⟨g, cap', by omega, hv⟩
set_option maxHeartbeats 2000000 in
set_option maxRecDepth 20000 in
theorem put_any (a : Option Addr) (len cap : Nat) (f : Fv) (fs : List Fv) (w : World) (hF : FieldsL w a len fs) (hlen : len ≤ 30000) (hlc : len ≤ cap) : Calls Tryd.prog 65 #[.slice a len cap, fv f] w fun e w' => ∃ v, e = .returned v ∧ w'.ownsRow w.heap.size 79 4 v (len + 1) ((putV fs f).flatMap fcells) ∧ Below w.heap.size w w' := by
  have HF : Hid (FieldsL w a len fs) := hF
  clear hF
  go_enter Tryd.func65, Tryd.ntmps65
  go_wp2_with fail
  go_loopw [5] (fun s5 wr => ∃ k : Nat, k ≤ len ∧ s5 = .int .i64 k ∧ (∀ g ∈ fs.take k, ¬ f.tag < g.tag) ∧ Below (w.heap.size + 1) (boxed w f) wr) (fun s5 _ => len - (intOf s5).toNat)
  case atStart => exact ⟨0, by omega, rfl, by simp, Below.refl _ _⟩
  case round =>
    obtain ⟨k, hk, rfl, hge, hB⟩ := hrel
    have HGE : Hid (∀ g ∈ fs.take k, ¬ f.tag < g.tag) := hge
    have HB : Hid (Below (w.heap.size + 1) (boxed w f) wr) := hB
    have hsz : w.heap.size + 1 ≤ wr.heap.size := by have := hB.size; rw [size_alloc1] at this; exact this
    have HFB : Hid (FieldAt wr w.heap.size 0 f) := (box_at w f).below hB (by omega)
    have HBW : Hid (Below w.heap.size w wr) := ((Below.refl _ w).alloc (Nat.le_refl _) _).trans (hB.mono (by omega))
    clear hge hB
    by_cases hlt : k < len
    · have i0 : decide ((k : Int) < (len : Int)) = true := by simp; omega
      have j0 : (0 : Int) ≤ (k : Int) := Int.natCast_nonneg _
      have hkl : k < fs.length := by rw [HF.out.1]; exact hlt
      obtain ⟨b, off, rfl, hc⟩ : ∃ b off, a = some ⟨b, off, none⟩ ∧ ∀ i, i < len → FieldAt w b (off + i * 4) (fs.getD i fv0) := by
        rcases HF.out.2.2 with h | h
        · omega
        · exact h
      have hbl : b < w.heap.size := block_lt_of_cell (hc k hlt).tag
      have HG : Hid (FieldAt wr b (off + k * 4) (fs.getD k fv0)) := (hc k hlt).below HBW.out hbl
      have HTS : Is (fs.take (k + 1)) (fs.take k ++ [fs.getD k fv0]) := ⟨by rw [List.take_succ_eq_append_getElem hkl, List.getD_eq_getElem?_getD, List.getElem?_eq_getElem hkl]; rfl⟩
      have HDH : Is (fs.drop k).head? (some (fs.getD k fv0)) := ⟨by rw [drop_getD fs k hkl]; rfl⟩
      have HCL : Hid (∀ i, i < len → FieldAt w b (off + i * 4) (fs.getD i fv0)) := hc
      clear hc
      generalize hgd : fs.getD k fv0 = g at *
      clear hgd
      have HS : Hid ((fun W : World => FieldAt W w.heap.size 0 f ∧ FieldAt W b (off + k * 4) g) wr.drew) := ⟨HFB.out.drew, HG.out.drew⟩
      by_cases hgt : f.tag < g.tag
      · have d1 : decide (g.tag ≤ f.tag) = false := by simp; omega
        go_upto_region 2 with fail
        refine wp_region_held_drew (S := (fun W : World => FieldAt W w.heap.size 0 f ∧ FieldAt W b (off + k * 4) g)) (by kernel_rfl) HS.out (fun _ => ?_)
        refine heldTake 0 (some 7) (.int .i64 (k : Int)) rfl rfl (by kernel_rfl) (by kernel_rfl) (by kernel_rfl) (fun _ _ _ h => h) (Or.inl ⟨by rfl, fun w hS => ?_⟩) HS.out ?_
        · (go_simp)
        simp only [Act.put, List.setIfInBounds_toArray, List.set_cons_zero, List.set_cons_succ]
        refine heldTake 1 (some 8) (.slice (some ⟨b, off, none⟩) len cap) rfl rfl (by kernel_rfl) (by kernel_rfl) (by kernel_rfl) (fun _ _ _ h => h) (Or.inl ⟨by rfl, fun w hS => ?_⟩) HS.out ?_
        · (go_simp)
        simp only [Act.put, List.setIfInBounds_toArray, List.set_cons_zero, List.set_cons_succ]
        refine heldTake 2 (some 9) (.int .i64 (len : Int)) rfl rfl (by kernel_rfl) (by kernel_rfl) (by kernel_rfl) (fun _ _ _ h => h) (Or.inl ⟨by rfl, fun w hS => ?_⟩) HS.out ?_
        · (go_simp)
        simp only [Act.put, List.setIfInBounds_toArray, List.set_cons_zero, List.set_cons_succ]
        refine heldTake 3 (some 10) (.bool true) rfl rfl (by kernel_rfl) (by kernel_rfl) (by kernel_rfl) (fun _ _ _ h => h) (Or.inl ⟨by rfl, fun w hS => ?_⟩) HS.out ?_
        · ((go_simp) <;> omega)
        simp only [Act.put, List.setIfInBounds_toArray, List.set_cons_zero, List.set_cons_succ]
        refine heldTake 4 (some 11) (.bool true) rfl rfl (by kernel_rfl) (by kernel_rfl) (by kernel_rfl) (fun _ _ _ h => h) (Or.inl ⟨by rfl, fun w hS => ?_⟩) HS.out ?_
        · (go_simp)
        simp only [Act.put, List.setIfInBounds_toArray, List.set_cons_zero, List.set_cons_succ]
        refine heldTake 5 (some 12) (.slice (some ⟨b, off, none⟩) len cap) rfl rfl (by kernel_rfl) (by kernel_rfl) (by kernel_rfl) (fun _ _ _ h => h) (Or.inl ⟨by rfl, fun w hS => ?_⟩) HS.out ?_
        · (go_simp)
        simp only [Act.put, List.setIfInBounds_toArray, List.set_cons_zero, List.set_cons_succ]
        refine heldTake 6 (some 13) (.int .i64 (k : Int)) rfl rfl (by kernel_rfl) (by kernel_rfl) (by kernel_rfl) (fun _ _ _ h => h) (Or.inl ⟨by rfl, fun w hS => ?_⟩) HS.out ?_
        · (go_simp)
        simp only [Act.put, List.setIfInBounds_toArray, List.set_cons_zero, List.set_cons_succ]
        refine heldTake 7 (some 14) (.pointer (some ⟨b, off + k * 4, none⟩)) rfl rfl (by kernel_rfl) (by kernel_rfl) (by kernel_rfl) (fun _ _ _ h => h) (Or.inl ⟨by rfl, fun w hS => ?_⟩) HS.out ?_
        · ((have h5 : (k : Int) < (len : Int) := by omega); go_simp)
        simp only [Act.put, List.setIfInBounds_toArray, List.set_cons_zero, List.set_cons_succ]
        refine heldTake 8 (some 15) (.pointer (some ⟨b, off + k * 4, none⟩)) rfl rfl (by kernel_rfl) (by kernel_rfl) (by kernel_rfl) (fun _ _ _ h => h) (Or.inl ⟨by rfl, fun w hS => ?_⟩) HS.out ?_
        · (go_simp)
        simp only [Act.put, List.setIfInBounds_toArray, List.set_cons_zero, List.set_cons_succ]
        refine heldTake 9 (some 16) (.int .i64 g.tag) rfl rfl (by kernel_rfl) (by kernel_rfl) (by kernel_rfl) (fun _ _ _ h => h) (Or.inl ⟨by rfl, fun w hS => ?_⟩) HS.out ?_
        · (have c := hS.2.tag; go_simp)
        simp only [Act.put, List.setIfInBounds_toArray, List.set_cons_zero, List.set_cons_succ]
        refine heldTake 10 (some 17) (.pointer (some ⟨w.heap.size, 0, none⟩)) rfl rfl (by kernel_rfl) (by kernel_rfl) (by kernel_rfl) (fun _ _ _ h => h) (Or.inl ⟨by rfl, fun w hS => ?_⟩) HS.out ?_
        · (go_simp)
        simp only [Act.put, List.setIfInBounds_toArray, List.set_cons_zero, List.set_cons_succ]
        refine heldTake 11 (some 18) (.int .i64 f.tag) rfl rfl (by kernel_rfl) (by kernel_rfl) (by kernel_rfl) (fun _ _ _ h => h) (Or.inl ⟨by rfl, fun w hS => ?_⟩) HS.out ?_
        · (have c := hS.1.tag; go_simp)
        simp only [Act.put, List.setIfInBounds_toArray, List.set_cons_zero, List.set_cons_succ]
        refine heldTake 12 (some 19) (.bool false) rfl rfl (by kernel_rfl) (by kernel_rfl) (by kernel_rfl) (fun _ _ _ h => h) (Or.inl ⟨by rfl, fun w hS => ?_⟩) HS.out ?_
        · (go_simp)
        simp only [Act.put, List.setIfInBounds_toArray, List.set_cons_zero, List.set_cons_succ]
        refine heldTake 13 (some 20) (.bool false) rfl rfl (by kernel_rfl) (by kernel_rfl) (by kernel_rfl) (fun _ _ _ h => h) (Or.inl ⟨by rfl, fun w hS => ?_⟩) HS.out ?_
        · (go_simp)
        simp only [Act.put, List.setIfInBounds_toArray, List.set_cons_zero, List.set_cons_succ]
        refine wpAnyH_done (by kernel_rfl) ?_ _
        have HPV : Is (putV fs f) (fs.take k ++ f :: fs.drop k) := ⟨putV_at fs f k HGE.out (fun x hx => by rw [HDH.eq] at hx; cases hx; exact hgt)⟩
        clear hgt d1 HTS HDH HGE HS HG
        have HBD : Hid (Below (w.heap.size + 1) (boxed w f) wr.drew) := HB.out.drew
        have HFD : Hid (FieldAt wr.drew w.heap.size 0 f) := HFB.out.drew
        have HWD : Hid (Below w.heap.size w wr.drew) := HBW.out.drew
        have hsD : w.heap.size + 1 ≤ wr.drew.heap.size := hsz
        generalize wr.drew = w5 at *
        clear HB HFB HBW
        have hkl2 : (fs.take k).length = k := by rw [List.length_take, HF.out.1]; omega
        have hdl2 : (fs.drop k).length = len - k := by rw [List.length_drop, HF.out.1]
        have HN1 : Hid (∀ W : World, Below w.heap.size w W → ∀ j u, ((fs.take k).flatMap fcells)[j]? = some u → W.cell? ((⟨b, off, none⟩ : Addr).add j) = some u) := fun W hW => fieldsL_cells hkl2 (fun i hi => by have h := (HCL.out i (by omega)).below hW hbl; rwa [show (fs.take k).getD i fv0 = fs.getD i fv0 by rw [List.getD_eq_getElem?_getD, List.getD_eq_getElem?_getD, List.getElem?_take_of_lt hi]])
        have HN2 : Hid (∀ W : World, Below w.heap.size w W → ∀ off', (off' = off + k * 4 ∨ k = cap) → ∀ j u, ((fs.drop k).flatMap fcells)[j]? = some u → W.cell? ((⟨b, off', none⟩ : Addr).add j) = some u) := fun W hW off' ho j u hj => by
          by_cases hkc : k = cap
          · have : fs.drop k = [] := List.drop_eq_nil_of_le (by rw [HF.out.1]; omega)
            rw [this] at hj; simp at hj
          · have ho' : off' = off + k * 4 := by omega
            subst ho'
            exact fieldsL_cells hdl2 (fun i hi => by have h := (HCL.out (k + i) (by omega)).below hW hbl; rw [show off + (k + i) * 4 = off + k * 4 + i * 4 by omega] at h; rwa [show (fs.drop k).getD i fv0 = fs.getD (k + i) fv0 by rw [List.getD_eq_getElem?_getD, List.getD_eq_getElem?_getD, List.getElem?_drop]]) j u hj
        have i1 : (k : Int) ≤ (cap : Int) := by omega
        have i2 : (k : Int) ≤ (len : Int) := by omega
        have j0 : (0 : Int) ≤ (k : Int) := Int.natCast_nonneg _
        have i3 : (len : Int) ≤ (cap : Int) := by omega
        have hkc : ¬ (k : Int) = (cap : Int) := by omega
        go_wp2_with (first | (at_make; refine wpList_make_own _ rfl _ _ 40 rfl (w.heap.size + 1) 79 Tryd.t79 (.agg #[.int .i64 0, .int .i64 0, .int .i64 0, .string ByteArray.empty]) 4 Tryd.underlying40 info38 rfl rfl _ _ _ (len + 1) rfl rfl (by first | omega | (simp <;> omega)) (by have hb40 : Tryd.t79.bytes = 40 := rfl; rw [hb40]; omega) (by unfold maxLen; omega) hsD ?_; intro w6 hO6 hG6; have HO6 := (show Hid (w6.ownsRow (w.heap.size + 1) 79 4 _ 0 (([] : List Fv).flatMap fcells)) from hO6); have HB6 : Hid (Below (w.heap.size + 1) w5 w6) := (Below.refl _ _).grown hG6 hsD (fun k hk => by cases hk); clear hO6 hG6; have HV6 : Hid (∃ g cap, 0 ≤ cap ∧ Value.slice (some ⟨w5.heap.size, 0, none⟩) 0 (len + 1) = .slice (some ⟨g, 0, none⟩) 0 cap) := ⟨_, _, by omega, rfl⟩; generalize Value.slice (some ⟨w5.heap.size, 0, none⟩) 0 (len + 1) = v6 at *; have HF6 : Hid (FieldAt w6 w.heap.size 0 f) := HFD.out.below HB6.out (by omega); have HW6 : Hid (Below w.heap.size w w6) := HWD.out.trans (HB6.out.mono (by omega)); have hs6 : w.heap.size + 1 ≤ w6.heap.size := Nat.le_trans hsD HB6.out.size; clear HBD HFD HWD HB6) | (refine app_fields rfl (.tmp 27) (.tmp 30) rfl _ (w.heap.size + 1) _ 0 [] rfl HO6.out ⟨b, off, none⟩ k _ (fs.take k) hkl2 rfl (HN1.out _ HW6.out) (by omega) hs6 ?_; intro v7 w7 hO7 hB7; have HO7 := (show Hid (w7.ownsRow (w.heap.size + 1) 79 4 v7 (0 + k) _) from hO7); have HB7 := (show Hid (Below (w.heap.size + 1) w6 w7) from hB7); clear hO7 hB7; have HF7 : Hid (FieldAt w7 w.heap.size 0 f) := HF6.out.below HB7.out (by omega); have HW7 : Hid (Below w.heap.size w w7) := HW6.out.trans (HB7.out.mono (by omega)); have hs7 : w.heap.size + 1 ≤ w7.heap.size := Nat.le_trans hs6 HB7.out.size; obtain ⟨d0, d1, d2, d3⟩ := HF7.out; simp only [Nat.zero_add] at d0 d1 d2 d3) | (refine append_field rfl (.tmp 32) (.tmp 34) rfl _ (w.heap.size + 1) _ (0 + k) _ rfl (owns_alloc HO7.out _) ⟨w7.heap.size, 0, none⟩ 1 f rfl (field_new w7 f) (by omega) (by simp; omega) ?_; intro v8 w8 hO8 hB8; have HO8 := (show Hid (w8.ownsRow (w.heap.size + 1) 79 4 v8 (0 + k + 1) _) from hO8); have HW8 : Hid (Below w.heap.size w w8) := HW7.out.trans (((((Below.refl _ w7).alloc (Nat.le_refl _) _).mono hs7).trans hB8).mono (by omega)); have hs8 : w.heap.size + 1 ≤ w8.heap.size := (by have h1 := hB8.size; rw [size_alloc1] at h1; omega); clear hO8 hB8 d0 d1 d2 d3 HF7 HW7 HO7 HB7 HF6 HW6 HO6) | (refine app_fields rfl (.tmp 36) (.tmp 39) rfl _ (w.heap.size + 1) _ (0 + k + 1) _ rfl HO8.out ⟨b, off + k * 4, none⟩ (len - k) _ (fs.drop k) hdl2 (by first | rfl | (show Value.slice _ _ _ = _; congr 1 <;> omega)) (HN2.out _ HW8.out _ (Or.inl rfl)) (by omega) hs8 ?_; intro v9 w9 hO9 hB9; have e1 : 0 + k + 1 + (len - k) = len + 1 := (by omega); have e2 : ([] : List Fv) ++ fs.take k ++ [f] ++ fs.drop k = putV fs f := (by rw [HPV.eq]; simp); rw [e1, e2] at hO9; have HFN : ∃ v, Ending.returned v9 = .returned v ∧ w9.ownsRow w.heap.size 79 4 v (len + 1) ((putV fs f).flatMap fcells) ∧ Below w.heap.size w w9 := ⟨v9, rfl, owns_base hO9 (by omega), HW8.out.trans (hB9.mono (by omega))⟩; clear hO9 hB9))
        go_ret
        exact HFN
      · have d1 : decide (g.tag ≤ f.tag) = true := by simp; omega
        go_upto_region 2 with fail
        refine wp_region_held_drew (S := (fun W : World => FieldAt W w.heap.size 0 f ∧ FieldAt W b (off + k * 4) g)) (by kernel_rfl) HS.out (fun _ => ?_)
        refine heldTake 0 (some 7) (.int .i64 (k : Int)) rfl rfl (by kernel_rfl) (by kernel_rfl) (by kernel_rfl) (fun _ _ _ h => h) (Or.inl ⟨by rfl, fun w hS => ?_⟩) HS.out ?_
        · (go_simp)
        simp only [Act.put, List.setIfInBounds_toArray, List.set_cons_zero, List.set_cons_succ]
        refine heldTake 1 (some 8) (.slice (some ⟨b, off, none⟩) len cap) rfl rfl (by kernel_rfl) (by kernel_rfl) (by kernel_rfl) (fun _ _ _ h => h) (Or.inl ⟨by rfl, fun w hS => ?_⟩) HS.out ?_
        · (go_simp)
        simp only [Act.put, List.setIfInBounds_toArray, List.set_cons_zero, List.set_cons_succ]
        refine heldTake 2 (some 9) (.int .i64 (len : Int)) rfl rfl (by kernel_rfl) (by kernel_rfl) (by kernel_rfl) (fun _ _ _ h => h) (Or.inl ⟨by rfl, fun w hS => ?_⟩) HS.out ?_
        · (go_simp)
        simp only [Act.put, List.setIfInBounds_toArray, List.set_cons_zero, List.set_cons_succ]
        refine heldTake 3 (some 10) (.bool true) rfl rfl (by kernel_rfl) (by kernel_rfl) (by kernel_rfl) (fun _ _ _ h => h) (Or.inl ⟨by rfl, fun w hS => ?_⟩) HS.out ?_
        · ((go_simp) <;> omega)
        simp only [Act.put, List.setIfInBounds_toArray, List.set_cons_zero, List.set_cons_succ]
        refine heldTake 4 (some 11) (.bool true) rfl rfl (by kernel_rfl) (by kernel_rfl) (by kernel_rfl) (fun _ _ _ h => h) (Or.inl ⟨by rfl, fun w hS => ?_⟩) HS.out ?_
        · (go_simp)
        simp only [Act.put, List.setIfInBounds_toArray, List.set_cons_zero, List.set_cons_succ]
        refine heldTake 5 (some 12) (.slice (some ⟨b, off, none⟩) len cap) rfl rfl (by kernel_rfl) (by kernel_rfl) (by kernel_rfl) (fun _ _ _ h => h) (Or.inl ⟨by rfl, fun w hS => ?_⟩) HS.out ?_
        · (go_simp)
        simp only [Act.put, List.setIfInBounds_toArray, List.set_cons_zero, List.set_cons_succ]
        refine heldTake 6 (some 13) (.int .i64 (k : Int)) rfl rfl (by kernel_rfl) (by kernel_rfl) (by kernel_rfl) (fun _ _ _ h => h) (Or.inl ⟨by rfl, fun w hS => ?_⟩) HS.out ?_
        · (go_simp)
        simp only [Act.put, List.setIfInBounds_toArray, List.set_cons_zero, List.set_cons_succ]
        refine heldTake 7 (some 14) (.pointer (some ⟨b, off + k * 4, none⟩)) rfl rfl (by kernel_rfl) (by kernel_rfl) (by kernel_rfl) (fun _ _ _ h => h) (Or.inl ⟨by rfl, fun w hS => ?_⟩) HS.out ?_
        · ((have h5 : (k : Int) < (len : Int) := by omega); go_simp)
        simp only [Act.put, List.setIfInBounds_toArray, List.set_cons_zero, List.set_cons_succ]
        refine heldTake 8 (some 15) (.pointer (some ⟨b, off + k * 4, none⟩)) rfl rfl (by kernel_rfl) (by kernel_rfl) (by kernel_rfl) (fun _ _ _ h => h) (Or.inl ⟨by rfl, fun w hS => ?_⟩) HS.out ?_
        · (go_simp)
        simp only [Act.put, List.setIfInBounds_toArray, List.set_cons_zero, List.set_cons_succ]
        refine heldTake 9 (some 16) (.int .i64 g.tag) rfl rfl (by kernel_rfl) (by kernel_rfl) (by kernel_rfl) (fun _ _ _ h => h) (Or.inl ⟨by rfl, fun w hS => ?_⟩) HS.out ?_
        · (have c := hS.2.tag; go_simp)
        simp only [Act.put, List.setIfInBounds_toArray, List.set_cons_zero, List.set_cons_succ]
        refine heldTake 10 (some 17) (.pointer (some ⟨w.heap.size, 0, none⟩)) rfl rfl (by kernel_rfl) (by kernel_rfl) (by kernel_rfl) (fun _ _ _ h => h) (Or.inl ⟨by rfl, fun w hS => ?_⟩) HS.out ?_
        · (go_simp)
        simp only [Act.put, List.setIfInBounds_toArray, List.set_cons_zero, List.set_cons_succ]
        refine heldTake 11 (some 18) (.int .i64 f.tag) rfl rfl (by kernel_rfl) (by kernel_rfl) (by kernel_rfl) (fun _ _ _ h => h) (Or.inl ⟨by rfl, fun w hS => ?_⟩) HS.out ?_
        · (have c := hS.1.tag; go_simp)
        simp only [Act.put, List.setIfInBounds_toArray, List.set_cons_zero, List.set_cons_succ]
        refine heldTake 12 (some 19) (.bool true) rfl rfl (by kernel_rfl) (by kernel_rfl) (by kernel_rfl) (fun _ _ _ h => h) (Or.inl ⟨by rfl, fun w hS => ?_⟩) HS.out ?_
        · (go_simp)
        simp only [Act.put, List.setIfInBounds_toArray, List.set_cons_zero, List.set_cons_succ]
        refine heldTake 13 (some 20) (.bool true) rfl rfl (by kernel_rfl) (by kernel_rfl) (by kernel_rfl) (fun _ _ _ h => h) (Or.inl ⟨by rfl, fun w hS => ?_⟩) HS.out ?_
        · (go_simp)
        simp only [Act.put, List.setIfInBounds_toArray, List.set_cons_zero, List.set_cons_succ]
        refine wpAnyH_done (by kernel_rfl) ?_ _
        have HGE1 : Hid (∀ x ∈ fs.take (k + 1), ¬ f.tag < x.tag) := fun x hx => by
          rw [HTS.eq] at hx
          rcases List.mem_append.1 hx with hx | hx
          · exact HGE.out x hx
          · rw [List.mem_singleton.1 hx]; exact hgt
        have HB1 : Hid (Below (w.heap.size + 1) (boxed w f) wr.drew) := HB.out.drew
        clear HS HG HGE HB HBW HFB HCL HTS HDH hgt
        go_wp2_with fail
        go_roundw
        case rel => exact ⟨k + 1, by omega, by go_num, HGE1.out, HB1.out⟩
        case measure => (simp [intOf]) <;> omega
    · have i0 : decide ((k : Int) < (len : Int)) = false := by simp; omega
      have hkl : k = len := by omega
      have HPV : Is (putV fs f) (fs.take k ++ f :: fs.drop k) := ⟨putV_at fs f k HGE.out (fun x hx => by rw [List.drop_eq_nil_of_le (by rw [HF.out.1]; omega)] at hx; cases hx)⟩
      have HS : Hid ((fun W : World => FieldAt W w.heap.size 0 f) wr.drew) := HFB.out.drew
      go_upto_region 2 with fail
      refine wp_region_held_drew (S := (fun W : World => FieldAt W w.heap.size 0 f)) (by kernel_rfl) HS.out (fun _ => ?_)
      refine heldTake 0 (some 7) (.int .i64 (k : Int)) rfl rfl (by kernel_rfl) (by kernel_rfl) (by kernel_rfl) (fun _ _ _ h => h) (Or.inl ⟨by rfl, fun w hS => ?_⟩) HS.out ?_
      · (go_simp)
      simp only [Act.put, List.setIfInBounds_toArray, List.set_cons_zero, List.set_cons_succ]
      refine heldTake 1 (some 8) (.slice a len cap) rfl rfl (by kernel_rfl) (by kernel_rfl) (by kernel_rfl) (fun _ _ _ h => h) (Or.inl ⟨by rfl, fun w hS => ?_⟩) HS.out ?_
      · (go_simp)
      simp only [Act.put, List.setIfInBounds_toArray, List.set_cons_zero, List.set_cons_succ]
      refine heldTake 2 (some 9) (.int .i64 (len : Int)) rfl rfl (by kernel_rfl) (by kernel_rfl) (by kernel_rfl) (fun _ _ _ h => h) (Or.inl ⟨by rfl, fun w hS => ?_⟩) HS.out ?_
      · (go_simp)
      simp only [Act.put, List.setIfInBounds_toArray, List.set_cons_zero, List.set_cons_succ]
      refine heldTake 3 (some 10) (.bool false) rfl rfl (by kernel_rfl) (by kernel_rfl) (by kernel_rfl) (fun _ _ _ h => h) (Or.inl ⟨by rfl, fun w hS => ?_⟩) HS.out ?_
      · ((go_simp) <;> omega)
      simp only [Act.put, List.setIfInBounds_toArray, List.set_cons_zero, List.set_cons_succ]
      refine heldTake 4 (some 11) (.bool false) rfl rfl (by kernel_rfl) (by kernel_rfl) (by kernel_rfl) (fun _ _ _ h => h) (Or.inl ⟨by rfl, fun w hS => ?_⟩) HS.out ?_
      · (go_simp)
      simp only [Act.put, List.setIfInBounds_toArray, List.set_cons_zero, List.set_cons_succ]
      refine heldTake 5 (some 12) (undef) rfl rfl (by kernel_rfl) (by kernel_rfl) (by kernel_rfl) (fun _ _ _ h => h) (Or.inr ⟨by rfl, rfl⟩) HS.out ?_
      simp only [Act.put, List.setIfInBounds_toArray, List.set_cons_zero, List.set_cons_succ]
      refine heldTake 6 (some 13) (undef) rfl rfl (by kernel_rfl) (by kernel_rfl) (by kernel_rfl) (fun _ _ _ h => h) (Or.inr ⟨by rfl, rfl⟩) HS.out ?_
      simp only [Act.put, List.setIfInBounds_toArray, List.set_cons_zero, List.set_cons_succ]
      refine heldTake 7 (some 14) (undef) rfl rfl (by kernel_rfl) (by kernel_rfl) (by kernel_rfl) (fun _ _ _ h => h) (Or.inr ⟨by rfl, rfl⟩) HS.out ?_
      simp only [Act.put, List.setIfInBounds_toArray, List.set_cons_zero, List.set_cons_succ]
      refine heldTake 8 (some 15) (undef) rfl rfl (by kernel_rfl) (by kernel_rfl) (by kernel_rfl) (fun _ _ _ h => h) (Or.inr ⟨by rfl, rfl⟩) HS.out ?_
      simp only [Act.put, List.setIfInBounds_toArray, List.set_cons_zero, List.set_cons_succ]
      refine heldTake 9 (some 16) (undef) rfl rfl (by kernel_rfl) (by kernel_rfl) (by kernel_rfl) (fun _ _ _ h => h) (Or.inr ⟨by rfl, rfl⟩) HS.out ?_
      simp only [Act.put, List.setIfInBounds_toArray, List.set_cons_zero, List.set_cons_succ]
      refine heldTake 10 (some 17) (undef) rfl rfl (by kernel_rfl) (by kernel_rfl) (by kernel_rfl) (fun _ _ _ h => h) (Or.inr ⟨by rfl, rfl⟩) HS.out ?_
      simp only [Act.put, List.setIfInBounds_toArray, List.set_cons_zero, List.set_cons_succ]
      refine heldTake 11 (some 18) (undef) rfl rfl (by kernel_rfl) (by kernel_rfl) (by kernel_rfl) (fun _ _ _ h => h) (Or.inr ⟨by rfl, rfl⟩) HS.out ?_
      simp only [Act.put, List.setIfInBounds_toArray, List.set_cons_zero, List.set_cons_succ]
      refine heldTake 12 (some 19) (undef) rfl rfl (by kernel_rfl) (by kernel_rfl) (by kernel_rfl) (fun _ _ _ h => h) (Or.inr ⟨by rfl, rfl⟩) HS.out ?_
      simp only [Act.put, List.setIfInBounds_toArray, List.set_cons_zero, List.set_cons_succ]
      refine heldTake 13 (some 20) (.bool false) rfl rfl (by kernel_rfl) (by kernel_rfl) (by kernel_rfl) (fun _ _ _ h => h) (Or.inl ⟨by rfl, fun w hS => ?_⟩) HS.out ?_
      · (go_simp)
      simp only [Act.put, List.setIfInBounds_toArray, List.set_cons_zero, List.set_cons_succ]
      refine wpAnyH_done (by kernel_rfl) ?_ _
      clear HGE HS
      by_cases hl0 : len = 0
      · subst hl0
        subst hkl
        have hf0 : fs = [] := List.eq_nil_of_length_eq_zero HF.out.1
        have HP1 : Is (putV fs f) [f] := ⟨by rw [hf0]; rfl⟩
        cases a with
        | none =>
          have HBD : Hid (Below (w.heap.size + 1) (boxed w f) wr.drew) := HB.out.drew
          have HFD : Hid (FieldAt wr.drew w.heap.size 0 f) := HFB.out.drew
          have HWD : Hid (Below w.heap.size w wr.drew) := HBW.out.drew
          have hsD : w.heap.size + 1 ≤ wr.drew.heap.size := hsz
          generalize wr.drew = w5 at *
          clear HB HFB HBW
          have i1 : (0 : Int) ≤ (cap : Int) := by omega
          go_wp2_with (first | (at_make; refine wpList_make_own _ rfl _ _ 40 rfl (w.heap.size + 1) 79 Tryd.t79 (.agg #[.int .i64 0, .int .i64 0, .int .i64 0, .string ByteArray.empty]) 4 Tryd.underlying40 info38 rfl rfl _ _ _ (0 + 1) rfl rfl (by first | omega | (simp <;> omega)) (by have hb40 : Tryd.t79.bytes = 40 := rfl; rw [hb40]; omega) (by unfold maxLen; omega) hsD ?_; intro w6 hO6 hG6; have HO6 := (show Hid (w6.ownsRow (w.heap.size + 1) 79 4 _ 0 (([] : List Fv).flatMap fcells)) from hO6); have HB6 : Hid (Below (w.heap.size + 1) w5 w6) := (Below.refl _ _).grown hG6 hsD (fun k hk => by cases hk); clear hO6 hG6; have HV6 : Hid (∃ g cap, 0 ≤ cap ∧ Value.slice (some ⟨w5.heap.size, 0, none⟩) 0 (0 + 1) = .slice (some ⟨g, 0, none⟩) 0 cap) := ⟨_, _, by omega, rfl⟩; generalize Value.slice (some ⟨w5.heap.size, 0, none⟩) 0 (0 + 1) = v6 at *; have HF6 : Hid (FieldAt w6 w.heap.size 0 f) := HFD.out.below HB6.out (by omega); have HW6 : Hid (Below w.heap.size w w6) := HWD.out.trans (HB6.out.mono (by omega)); have hs6 : w.heap.size + 1 ≤ w6.heap.size := Nat.le_trans hsD HB6.out.size; clear HBD HFD HWD HB6) | (refine app_nofields rfl (.tmp 27) (.tmp 30) rfl _ _ 0 rfl HV6.out _ rfl ?_; have HO7 := HO6; have HB7 := (show Hid (Below (w.heap.size + 1) w6 w6) from Below.refl _ _); have HF7 : Hid (FieldAt w6 w.heap.size 0 f) := HF6.out.below HB7.out (by omega); have HW7 : Hid (Below w.heap.size w w6) := HW6.out.trans (HB7.out.mono (by omega)); have hs7 : w.heap.size + 1 ≤ w6.heap.size := Nat.le_trans hs6 HB7.out.size; obtain ⟨d0, d1, d2, d3⟩ := HF7.out; simp only [Nat.zero_add] at d0 d1 d2 d3) | (refine append_field rfl (.tmp 32) (.tmp 34) rfl _ (w.heap.size + 1) _ (0 + 0) _ rfl (owns_alloc HO7.out _) ⟨w6.heap.size, 0, none⟩ 1 f rfl (field_new w6 f) (by omega) (by simp; omega) ?_; intro v8 w8 hO8 hB8; have HO8 := (show Hid (w8.ownsRow (w.heap.size + 1) 79 4 v8 (0 + 0 + 1) _) from hO8); have HW8 : Hid (Below w.heap.size w w8) := HW7.out.trans (((((Below.refl _ w6).alloc (Nat.le_refl _) _).mono hs7).trans hB8).mono (by omega)); have hs8 : w.heap.size + 1 ≤ w8.heap.size := (by have h1 := hB8.size; rw [size_alloc1] at h1; omega); clear hO8 hB8 d0 d1 d2 d3 HF7 HW7 HO7 HB7 HF6 HW6 HO6; have HV8 : Hid (∃ g cap, 0 + 0 + 1 ≤ cap ∧ v8 = .slice (some ⟨g, 0, none⟩) (0 + 0 + 1) cap) := own_some HO8.out) | (refine app_nofields rfl (.tmp 36) (.tmp 39) rfl _ v8 (0 + 0 + 1) rfl HV8.out _ rfl ?_; have HFN : ∃ v, Ending.returned v8 = .returned v ∧ w8.ownsRow w.heap.size 79 4 v (0 + 1) ((putV fs f).flatMap fcells) ∧ Below w.heap.size w w8 := ⟨_, rfl, by rw [HP1.eq]; exact owns_base HO8.out (by omega), HW8.out⟩))
          go_ret
          exact HFN
        | some ad =>
          have HBD : Hid (Below (w.heap.size + 1) (boxed w f) wr.drew) := HB.out.drew
          have HFD : Hid (FieldAt wr.drew w.heap.size 0 f) := HFB.out.drew
          have HWD : Hid (Below w.heap.size w wr.drew) := HBW.out.drew
          have hsD : w.heap.size + 1 ≤ wr.drew.heap.size := hsz
          generalize wr.drew = w5 at *
          clear HB HFB HBW
          have i1 : (0 : Int) ≤ (cap : Int) := by omega
          by_cases hkc : (0 : Int) = (cap : Int)
          · obtain rfl : cap = 0 := by omega
            clear hkc i1
            go_wp2_with (first | (at_make; refine wpList_make_own _ rfl _ _ 40 rfl (w.heap.size + 1) 79 Tryd.t79 (.agg #[.int .i64 0, .int .i64 0, .int .i64 0, .string ByteArray.empty]) 4 Tryd.underlying40 info38 rfl rfl _ _ _ (0 + 1) rfl rfl (by first | omega | (simp <;> omega)) (by have hb40 : Tryd.t79.bytes = 40 := rfl; rw [hb40]; omega) (by unfold maxLen; omega) hsD ?_; intro w6 hO6 hG6; have HO6 := (show Hid (w6.ownsRow (w.heap.size + 1) 79 4 _ 0 (([] : List Fv).flatMap fcells)) from hO6); have HB6 : Hid (Below (w.heap.size + 1) w5 w6) := (Below.refl _ _).grown hG6 hsD (fun k hk => by cases hk); clear hO6 hG6; have HV6 : Hid (∃ g cap, 0 ≤ cap ∧ Value.slice (some ⟨w5.heap.size, 0, none⟩) 0 (0 + 1) = .slice (some ⟨g, 0, none⟩) 0 cap) := ⟨_, _, by omega, rfl⟩; generalize Value.slice (some ⟨w5.heap.size, 0, none⟩) 0 (0 + 1) = v6 at *; have HF6 : Hid (FieldAt w6 w.heap.size 0 f) := HFD.out.below HB6.out (by omega); have HW6 : Hid (Below w.heap.size w w6) := HWD.out.trans (HB6.out.mono (by omega)); have hs6 : w.heap.size + 1 ≤ w6.heap.size := Nat.le_trans hsD HB6.out.size; clear HBD HFD HWD HB6) | (refine app_fields rfl (.tmp 27) (.tmp 30) rfl _ (w.heap.size + 1) _ 0 [] rfl HO6.out ad 0 _ [] rfl rfl (fun j u hj => by simp at hj) (by omega) hs6 ?_; intro v7 w7 hO7 hB7; have HO7 := (show Hid (w7.ownsRow (w.heap.size + 1) 79 4 v7 (0 + 0) _) from hO7); have HB7 := (show Hid (Below (w.heap.size + 1) w6 w7) from hB7); clear hO7 hB7; have HF7 : Hid (FieldAt w7 w.heap.size 0 f) := HF6.out.below HB7.out (by omega); have HW7 : Hid (Below w.heap.size w w7) := HW6.out.trans (HB7.out.mono (by omega)); have hs7 : w.heap.size + 1 ≤ w7.heap.size := Nat.le_trans hs6 HB7.out.size; obtain ⟨d0, d1, d2, d3⟩ := HF7.out; simp only [Nat.zero_add] at d0 d1 d2 d3) | (refine append_field rfl (.tmp 32) (.tmp 34) rfl _ (w.heap.size + 1) _ (0 + 0) _ rfl (owns_alloc HO7.out _) ⟨w7.heap.size, 0, none⟩ 1 f rfl (field_new w7 f) (by omega) (by simp; omega) ?_; intro v8 w8 hO8 hB8; have HO8 := (show Hid (w8.ownsRow (w.heap.size + 1) 79 4 v8 (0 + 0 + 1) _) from hO8); have HW8 : Hid (Below w.heap.size w w8) := HW7.out.trans (((((Below.refl _ w7).alloc (Nat.le_refl _) _).mono hs7).trans hB8).mono (by omega)); have hs8 : w.heap.size + 1 ≤ w8.heap.size := (by have h1 := hB8.size; rw [size_alloc1] at h1; omega); clear hO8 hB8 d0 d1 d2 d3 HF7 HW7 HO7 HB7 HF6 HW6 HO6) | (refine app_fields rfl (.tmp 36) (.tmp 39) rfl _ (w.heap.size + 1) _ (0 + 0 + 1) _ rfl HO8.out _ 0 _ [] rfl (by first | rfl | (show Value.slice _ _ _ = _; congr 1 <;> omega)) (fun j u hj => by simp at hj) (by omega) hs8 ?_; intro v9 w9 hO9 hB9; have HFN : ∃ v, Ending.returned v9 = .returned v ∧ w9.ownsRow w.heap.size 79 4 v (0 + 1) ((putV fs f).flatMap fcells) ∧ Below w.heap.size w w9 := ⟨v9, rfl, by rw [HP1.eq]; exact owns_base hO9 (by omega), HW8.out.trans (hB9.mono (by omega))⟩; clear hO9 hB9))
            go_ret
            exact HFN
          · skip
            go_wp2_with (first | (at_make; refine wpList_make_own _ rfl _ _ 40 rfl (w.heap.size + 1) 79 Tryd.t79 (.agg #[.int .i64 0, .int .i64 0, .int .i64 0, .string ByteArray.empty]) 4 Tryd.underlying40 info38 rfl rfl _ _ _ (0 + 1) rfl rfl (by first | omega | (simp <;> omega)) (by have hb40 : Tryd.t79.bytes = 40 := rfl; rw [hb40]; omega) (by unfold maxLen; omega) hsD ?_; intro w6 hO6 hG6; have HO6 := (show Hid (w6.ownsRow (w.heap.size + 1) 79 4 _ 0 (([] : List Fv).flatMap fcells)) from hO6); have HB6 : Hid (Below (w.heap.size + 1) w5 w6) := (Below.refl _ _).grown hG6 hsD (fun k hk => by cases hk); clear hO6 hG6; have HV6 : Hid (∃ g cap, 0 ≤ cap ∧ Value.slice (some ⟨w5.heap.size, 0, none⟩) 0 (0 + 1) = .slice (some ⟨g, 0, none⟩) 0 cap) := ⟨_, _, by omega, rfl⟩; generalize Value.slice (some ⟨w5.heap.size, 0, none⟩) 0 (0 + 1) = v6 at *; have HF6 : Hid (FieldAt w6 w.heap.size 0 f) := HFD.out.below HB6.out (by omega); have HW6 : Hid (Below w.heap.size w w6) := HWD.out.trans (HB6.out.mono (by omega)); have hs6 : w.heap.size + 1 ≤ w6.heap.size := Nat.le_trans hsD HB6.out.size; clear HBD HFD HWD HB6) | (refine app_fields rfl (.tmp 27) (.tmp 30) rfl _ (w.heap.size + 1) _ 0 [] rfl HO6.out ad 0 _ [] rfl rfl (fun j u hj => by simp at hj) (by omega) hs6 ?_; intro v7 w7 hO7 hB7; have HO7 := (show Hid (w7.ownsRow (w.heap.size + 1) 79 4 v7 (0 + 0) _) from hO7); have HB7 := (show Hid (Below (w.heap.size + 1) w6 w7) from hB7); clear hO7 hB7; have HF7 : Hid (FieldAt w7 w.heap.size 0 f) := HF6.out.below HB7.out (by omega); have HW7 : Hid (Below w.heap.size w w7) := HW6.out.trans (HB7.out.mono (by omega)); have hs7 : w.heap.size + 1 ≤ w7.heap.size := Nat.le_trans hs6 HB7.out.size; obtain ⟨d0, d1, d2, d3⟩ := HF7.out; simp only [Nat.zero_add] at d0 d1 d2 d3) | (refine append_field rfl (.tmp 32) (.tmp 34) rfl _ (w.heap.size + 1) _ (0 + 0) _ rfl (owns_alloc HO7.out _) ⟨w7.heap.size, 0, none⟩ 1 f rfl (field_new w7 f) (by omega) (by simp; omega) ?_; intro v8 w8 hO8 hB8; have HO8 := (show Hid (w8.ownsRow (w.heap.size + 1) 79 4 v8 (0 + 0 + 1) _) from hO8); have HW8 : Hid (Below w.heap.size w w8) := HW7.out.trans (((((Below.refl _ w7).alloc (Nat.le_refl _) _).mono hs7).trans hB8).mono (by omega)); have hs8 : w.heap.size + 1 ≤ w8.heap.size := (by have h1 := hB8.size; rw [size_alloc1] at h1; omega); clear hO8 hB8 d0 d1 d2 d3 HF7 HW7 HO7 HB7 HF6 HW6 HO6) | (refine app_fields rfl (.tmp 36) (.tmp 39) rfl _ (w.heap.size + 1) _ (0 + 0 + 1) _ rfl HO8.out _ 0 _ [] rfl (by first | rfl | (show Value.slice _ _ _ = _; congr 1 <;> omega)) (fun j u hj => by simp at hj) (by omega) hs8 ?_; intro v9 w9 hO9 hB9; have HFN : ∃ v, Ending.returned v9 = .returned v ∧ w9.ownsRow w.heap.size 79 4 v (0 + 1) ((putV fs f).flatMap fcells) ∧ Below w.heap.size w w9 := ⟨v9, rfl, by rw [HP1.eq]; exact owns_base hO9 (by omega), HW8.out.trans (hB9.mono (by omega))⟩; clear hO9 hB9))
            go_ret
            exact HFN
      · obtain ⟨b, off, rfl, hc⟩ : ∃ b off, a = some ⟨b, off, none⟩ ∧ ∀ i, i < len → FieldAt w b (off + i * 4) (fs.getD i fv0) := by
          rcases HF.out.2.2 with h | h
          · omega
          · exact h
        have HCL : Hid (∀ i, i < len → FieldAt w b (off + i * 4) (fs.getD i fv0)) := hc
        have hbl : b < w.heap.size := block_lt_of_cell (hc 0 (by omega)).tag
        clear hc hkl
        have HBD : Hid (Below (w.heap.size + 1) (boxed w f) wr.drew) := HB.out.drew
        have HFD : Hid (FieldAt wr.drew w.heap.size 0 f) := HFB.out.drew
        have HWD : Hid (Below w.heap.size w wr.drew) := HBW.out.drew
        have hsD : w.heap.size + 1 ≤ wr.drew.heap.size := hsz
        generalize wr.drew = w5 at *
        clear HB HFB HBW
        have hkl2 : (fs.take k).length = k := by rw [List.length_take, HF.out.1]; omega
        have hdl2 : (fs.drop k).length = len - k := by rw [List.length_drop, HF.out.1]
        have HN1 : Hid (∀ W : World, Below w.heap.size w W → ∀ j u, ((fs.take k).flatMap fcells)[j]? = some u → W.cell? ((⟨b, off, none⟩ : Addr).add j) = some u) := fun W hW => fieldsL_cells hkl2 (fun i hi => by have h := (HCL.out i (by omega)).below hW hbl; rwa [show (fs.take k).getD i fv0 = fs.getD i fv0 by rw [List.getD_eq_getElem?_getD, List.getD_eq_getElem?_getD, List.getElem?_take_of_lt hi]])
        have HN2 : Hid (∀ W : World, Below w.heap.size w W → ∀ off', (off' = off + k * 4 ∨ k = cap) → ∀ j u, ((fs.drop k).flatMap fcells)[j]? = some u → W.cell? ((⟨b, off', none⟩ : Addr).add j) = some u) := fun W hW off' ho j u hj => by
          by_cases hkc : k = cap
          · have : fs.drop k = [] := List.drop_eq_nil_of_le (by rw [HF.out.1]; omega)
            rw [this] at hj; simp at hj
          · have ho' : off' = off + k * 4 := by omega
            subst ho'
            exact fieldsL_cells hdl2 (fun i hi => by have h := (HCL.out (k + i) (by omega)).below hW hbl; rw [show off + (k + i) * 4 = off + k * 4 + i * 4 by omega] at h; rwa [show (fs.drop k).getD i fv0 = fs.getD (k + i) fv0 by rw [List.getD_eq_getElem?_getD, List.getD_eq_getElem?_getD, List.getElem?_drop]]) j u hj
        have i1 : (k : Int) ≤ (cap : Int) := by omega
        have i2 : (k : Int) ≤ (len : Int) := by omega
        have j0 : (0 : Int) ≤ (k : Int) := Int.natCast_nonneg _
        have i3 : (len : Int) ≤ (cap : Int) := by omega
        by_cases hkc : (k : Int) = (cap : Int)
        · obtain rfl : k = cap := by omega
          go_wp2_with (first | (at_make; refine wpList_make_own _ rfl _ _ 40 rfl (w.heap.size + 1) 79 Tryd.t79 (.agg #[.int .i64 0, .int .i64 0, .int .i64 0, .string ByteArray.empty]) 4 Tryd.underlying40 info38 rfl rfl _ _ _ (len + 1) rfl rfl (by first | omega | (simp <;> omega)) (by have hb40 : Tryd.t79.bytes = 40 := rfl; rw [hb40]; omega) (by unfold maxLen; omega) hsD ?_; intro w6 hO6 hG6; have HO6 := (show Hid (w6.ownsRow (w.heap.size + 1) 79 4 _ 0 (([] : List Fv).flatMap fcells)) from hO6); have HB6 : Hid (Below (w.heap.size + 1) w5 w6) := (Below.refl _ _).grown hG6 hsD (fun k hk => by cases hk); clear hO6 hG6; have HV6 : Hid (∃ g cap, 0 ≤ cap ∧ Value.slice (some ⟨w5.heap.size, 0, none⟩) 0 (len + 1) = .slice (some ⟨g, 0, none⟩) 0 cap) := ⟨_, _, by omega, rfl⟩; generalize Value.slice (some ⟨w5.heap.size, 0, none⟩) 0 (len + 1) = v6 at *; have HF6 : Hid (FieldAt w6 w.heap.size 0 f) := HFD.out.below HB6.out (by omega); have HW6 : Hid (Below w.heap.size w w6) := HWD.out.trans (HB6.out.mono (by omega)); have hs6 : w.heap.size + 1 ≤ w6.heap.size := Nat.le_trans hsD HB6.out.size; clear HBD HFD HWD HB6) | (refine app_fields rfl (.tmp 27) (.tmp 30) rfl _ (w.heap.size + 1) _ 0 [] rfl HO6.out ⟨b, off, none⟩ k _ (fs.take k) hkl2 rfl (HN1.out _ HW6.out) (by omega) hs6 ?_; intro v7 w7 hO7 hB7; have HO7 := (show Hid (w7.ownsRow (w.heap.size + 1) 79 4 v7 (0 + k) _) from hO7); have HB7 := (show Hid (Below (w.heap.size + 1) w6 w7) from hB7); clear hO7 hB7; have HF7 : Hid (FieldAt w7 w.heap.size 0 f) := HF6.out.below HB7.out (by omega); have HW7 : Hid (Below w.heap.size w w7) := HW6.out.trans (HB7.out.mono (by omega)); have hs7 : w.heap.size + 1 ≤ w7.heap.size := Nat.le_trans hs6 HB7.out.size; obtain ⟨d0, d1, d2, d3⟩ := HF7.out; simp only [Nat.zero_add] at d0 d1 d2 d3) | (refine append_field rfl (.tmp 32) (.tmp 34) rfl _ (w.heap.size + 1) _ (0 + k) _ rfl (owns_alloc HO7.out _) ⟨w7.heap.size, 0, none⟩ 1 f rfl (field_new w7 f) (by omega) (by simp; omega) ?_; intro v8 w8 hO8 hB8; have HO8 := (show Hid (w8.ownsRow (w.heap.size + 1) 79 4 v8 (0 + k + 1) _) from hO8); have HW8 : Hid (Below w.heap.size w w8) := HW7.out.trans (((((Below.refl _ w7).alloc (Nat.le_refl _) _).mono hs7).trans hB8).mono (by omega)); have hs8 : w.heap.size + 1 ≤ w8.heap.size := (by have h1 := hB8.size; rw [size_alloc1] at h1; omega); clear hO8 hB8 d0 d1 d2 d3 HF7 HW7 HO7 HB7 HF6 HW6 HO6) | (refine app_fields rfl (.tmp 36) (.tmp 39) rfl _ (w.heap.size + 1) _ (0 + k + 1) _ rfl HO8.out ⟨b, off, none⟩ (len - k) _ (fs.drop k) hdl2 (by first | rfl | (show Value.slice _ _ _ = _; congr 1 <;> omega)) (HN2.out _ HW8.out _ (Or.inr (by omega))) (by omega) hs8 ?_; intro v9 w9 hO9 hB9; have e1 : 0 + k + 1 + (len - k) = len + 1 := (by omega); have e2 : ([] : List Fv) ++ fs.take k ++ [f] ++ fs.drop k = putV fs f := (by rw [HPV.eq]; simp); rw [e1, e2] at hO9; have HFN : ∃ v, Ending.returned v9 = .returned v ∧ w9.ownsRow w.heap.size 79 4 v (len + 1) ((putV fs f).flatMap fcells) ∧ Below w.heap.size w w9 := ⟨v9, rfl, owns_base hO9 (by omega), HW8.out.trans (hB9.mono (by omega))⟩; clear hO9 hB9))
          go_ret
          exact HFN
        · skip
          go_wp2_with (first | (at_make; refine wpList_make_own _ rfl _ _ 40 rfl (w.heap.size + 1) 79 Tryd.t79 (.agg #[.int .i64 0, .int .i64 0, .int .i64 0, .string ByteArray.empty]) 4 Tryd.underlying40 info38 rfl rfl _ _ _ (len + 1) rfl rfl (by first | omega | (simp <;> omega)) (by have hb40 : Tryd.t79.bytes = 40 := rfl; rw [hb40]; omega) (by unfold maxLen; omega) hsD ?_; intro w6 hO6 hG6; have HO6 := (show Hid (w6.ownsRow (w.heap.size + 1) 79 4 _ 0 (([] : List Fv).flatMap fcells)) from hO6); have HB6 : Hid (Below (w.heap.size + 1) w5 w6) := (Below.refl _ _).grown hG6 hsD (fun k hk => by cases hk); clear hO6 hG6; have HV6 : Hid (∃ g cap, 0 ≤ cap ∧ Value.slice (some ⟨w5.heap.size, 0, none⟩) 0 (len + 1) = .slice (some ⟨g, 0, none⟩) 0 cap) := ⟨_, _, by omega, rfl⟩; generalize Value.slice (some ⟨w5.heap.size, 0, none⟩) 0 (len + 1) = v6 at *; have HF6 : Hid (FieldAt w6 w.heap.size 0 f) := HFD.out.below HB6.out (by omega); have HW6 : Hid (Below w.heap.size w w6) := HWD.out.trans (HB6.out.mono (by omega)); have hs6 : w.heap.size + 1 ≤ w6.heap.size := Nat.le_trans hsD HB6.out.size; clear HBD HFD HWD HB6) | (refine app_fields rfl (.tmp 27) (.tmp 30) rfl _ (w.heap.size + 1) _ 0 [] rfl HO6.out ⟨b, off, none⟩ k _ (fs.take k) hkl2 rfl (HN1.out _ HW6.out) (by omega) hs6 ?_; intro v7 w7 hO7 hB7; have HO7 := (show Hid (w7.ownsRow (w.heap.size + 1) 79 4 v7 (0 + k) _) from hO7); have HB7 := (show Hid (Below (w.heap.size + 1) w6 w7) from hB7); clear hO7 hB7; have HF7 : Hid (FieldAt w7 w.heap.size 0 f) := HF6.out.below HB7.out (by omega); have HW7 : Hid (Below w.heap.size w w7) := HW6.out.trans (HB7.out.mono (by omega)); have hs7 : w.heap.size + 1 ≤ w7.heap.size := Nat.le_trans hs6 HB7.out.size; obtain ⟨d0, d1, d2, d3⟩ := HF7.out; simp only [Nat.zero_add] at d0 d1 d2 d3) | (refine append_field rfl (.tmp 32) (.tmp 34) rfl _ (w.heap.size + 1) _ (0 + k) _ rfl (owns_alloc HO7.out _) ⟨w7.heap.size, 0, none⟩ 1 f rfl (field_new w7 f) (by omega) (by simp; omega) ?_; intro v8 w8 hO8 hB8; have HO8 := (show Hid (w8.ownsRow (w.heap.size + 1) 79 4 v8 (0 + k + 1) _) from hO8); have HW8 : Hid (Below w.heap.size w w8) := HW7.out.trans (((((Below.refl _ w7).alloc (Nat.le_refl _) _).mono hs7).trans hB8).mono (by omega)); have hs8 : w.heap.size + 1 ≤ w8.heap.size := (by have h1 := hB8.size; rw [size_alloc1] at h1; omega); clear hO8 hB8 d0 d1 d2 d3 HF7 HW7 HO7 HB7 HF6 HW6 HO6) | (refine app_fields rfl (.tmp 36) (.tmp 39) rfl _ (w.heap.size + 1) _ (0 + k + 1) _ rfl HO8.out ⟨b, off + k * 4, none⟩ (len - k) _ (fs.drop k) hdl2 (by first | rfl | (show Value.slice _ _ _ = _; congr 1 <;> omega)) (HN2.out _ HW8.out _ (Or.inl rfl)) (by omega) hs8 ?_; intro v9 w9 hO9 hB9; have e1 : 0 + k + 1 + (len - k) = len + 1 := (by omega); have e2 : ([] : List Fv) ++ fs.take k ++ [f] ++ fs.drop k = putV fs f := (by rw [HPV.eq]; simp); rw [e1, e2] at hO9; have HFN : ∃ v, Ending.returned v9 = .returned v ∧ w9.ownsRow w.heap.size 79 4 v (len + 1) ((putV fs f).flatMap fcells) ∧ Below w.heap.size w w9 := ⟨v9, rfl, owns_base hO9 (by omega), HW8.out.trans (hB9.mono (by omega))⟩; clear hO9 hB9))
          go_ret
          exact HFN
end Go.Proofs.YtealbeblkilibaaDoor.FI
/- Proved: fieldsOf's function goes through the fields of the tag that are of the kind. -/
namespace Go.Proofs.YtealbeblkilibaaDoor.FI
open Go.RowKit Go.Shelf
attribute [local go_sem] Oper.semAt_some
def hit (tag kind : Int) (f : Fv) : Bool := f.tag == tag && f.kind == kind
theorem filter_take_succ (p : Fv → Bool) (fs : List Fv) (k : Nat) (hk : k < fs.length) : (fs.take (k + 1)).filter p = (fs.take k).filter p ++ (if p (fs.getD k fv0) then [fs.getD k fv0] else []) := by
  rw [List.take_succ_eq_append_getElem hk, List.filter_append, List.getD_eq_getElem?_getD, List.getElem?_eq_getElem hk, Option.getD_some]
  by_cases h : p fs[k] = true
  · simp [h]
  · simp [h]
def PreO (fs : List Fv) (tag kind : Int) (xs : List Fv) (x : Fv) : Prop := ∃ k, k < fs.length ∧ x = fs.getD k fv0 ∧ hit tag kind x = true ∧ xs = (fs.take k).filter (hit tag kind)
def StopO (fs : List Fv) (tag kind : Int) (xs : List Fv) : Prop := ∃ pre x, xs = pre ++ [x] ∧ PreO fs tag kind pre x
theorem FieldsL.keptAt {w w' : World} {a : Option Addr} {len : Nat} {fs : List Fv} (h : FieldsL w a len fs) (hb : ∀ b off, a = some ⟨b, off, none⟩ → 0 < len → w'.heap[b]? = w.heap[b]?) : FieldsL w' a len fs := by
  refine ⟨h.1, h.2.1, ?_⟩
  rcases h.2.2 with h0 | ⟨b, off, e, hc⟩
  · exact .inl h0
  · by_cases hl : len = 0
    · exact .inl hl
    · have hbb := hb b off e (by omega)
      refine .inr ⟨b, off, e, fun i hi => ?_⟩
      have c := hc i hi
      have ee : ∀ j, w'.cell? ⟨b, j, none⟩ = w.cell? ⟨b, j, none⟩ := fun j => World.cell?_of_block (w := w) hbb
      exact ⟨(ee _).trans c.tag, (ee _).trans c.kind, (ee _).trans c.n, (ee _).trans c.s⟩
theorem FieldsL.block {w : World} {a : Option Addr} {len : Nat} {fs : List Fv} (h : FieldsL w a len fs) {b off : Nat} (e : a = some ⟨b, off, none⟩) (hl : 0 < len) : b < w.heap.size := by
  rcases h.2.2 with h0 | ⟨b', off', e', hc⟩
  · omega
  · rw [e] at e'
    cases e'
    exact block_lt_of_cell (hc 0 hl).tag
set_option maxHeartbeats 2000000 in
set_option maxRecDepth 20000 in
theorem of_yields (n : Nat) (w : World) (Bl Bt Bk : Nat) (a : Option Addr) (len cap : Nat) (fs : List Fv) (tag kind : Int) (hl : Boxed w Bl 40 (.slice a len cap)) (ht : Boxed w Bt 3 (.int .i64 tag)) (hk : Boxed w Bk 3 (.int .i64 kind)) (hF : FieldsL w a len fs) (hlen : len ≤ 9223372036854775807)
    (K : Nat → Prop) (hKt : K Bt) (hKk : K Bk) (hKb : ∀ b off, a = some ⟨b, off, none⟩ → 0 < len → K b) :
    Yields n 91 #[.pointer (some ⟨Bl, 0, none⟩), .pointer (some ⟨Bt, 0, none⟩), .pointer (some ⟨Bk, 0, none⟩)] (fun f : Fv => #[fv f]) K (PreO fs tag kind) (fun xs => xs = fs.filter (hit tag kind)) (StopO fs tag kind) w := by
  intro J Jx W hz hb hJ hJx hY h0
  obtain ⟨X, hX⟩ : ∃ X, X = w.heap.size + 2 := ⟨_, rfl⟩
  have HJ : Hid (∀ s A B, J s A → A.grownBy B (some X) → J s B) := by rw [hX]; exact hJ
  have HY : Hid (∀ pre x A, J pre A → X < A.heap.size → PreO fs tag kind pre x → YieldAt Fence.wide (n - 1) Tryd.prog (w.heap.size + 1) #[fv x] A fun e B =>
      (e = .returned (.bool true) ∧ J (pre ++ [x]) B ∧ Kept K A B) ∨ (e = .returned (.bool false) ∧ Jx (pre ++ [x]) B)) := by rw [hX]; exact hY
  have hlW : W.cell? ⟨Bl, 0, none⟩ = some (.slice a len cap) := (hb.cell (p := ⟨Bl, 0, none⟩) hl.lt).trans hl.cell
  have HT0 : Hid (W.cell? ⟨Bt, 0, none⟩ = some (.int .i64 tag)) := (hb.cell (p := ⟨Bt, 0, none⟩) ht.lt).trans ht.cell
  have HK0 : Hid (W.cell? ⟨Bk, 0, none⟩ = some (.int .i64 kind)) := (hb.cell (p := ⟨Bk, 0, none⟩) hk.lt).trans hk.cell
  have HF0 : Hid (FieldsL W a len fs) := hF.below hb
  have HH0 : Hid (J [] W) := h0
  have hXW : X ≤ W.heap.size := by omega
  have HKB : Hid (∀ b off, a = some ⟨b, off, none⟩ → 0 < len → K b) := hKb
  clear hY hJ hJx h0 hz hb hl ht hk hF hX hKb
  generalize w.heap.size + 1 = l at *
  refine callsIn_of_wp Tryd.func91 rfl trivial ?_ rfl
  simp only [Tryd.ntmps91, List.size_toArray, List.length_cons, List.length_nil, Nat.reduceAdd, Nat.reduceSub, Array.replicate_succ, Array.replicate_zero, List.push_toArray, List.append_toArray, List.nil_append, List.cons_append]
  gi_wp2_with fail
  gi_loopw [9] (fun s9 wr => ∃ k : Nat, k ≤ len ∧ s9 = .int .i64 k ∧ J ((fs.take k).filter (hit tag kind)) wr ∧ wr.cell? ⟨Bt, 0, none⟩ = some (.int .i64 tag) ∧ wr.cell? ⟨Bk, 0, none⟩ = some (.int .i64 kind) ∧ FieldsL wr a len fs ∧ X ≤ wr.heap.size) (fun s9 _ => len - (intOf s9).toNat)
  case atStart => exact ⟨0, by omega, rfl, HH0.out, HT0.out, HK0.out, HF0.out, hXW⟩
  case round =>
    obtain ⟨k, hk, rfl, hj, ct, ck, hf, hx⟩ := hrel
    have HJr : Hid (J ((fs.take k).filter (hit tag kind)) wr) := hj
    have HF : Hid (FieldsL wr a len fs) := hf
    clear hj hf HH0 HT0 HK0 HF0
    by_cases hlt : k < len
    · have i0 : (k : Int) < (len : Int) := by omega
      have j0 : (0 : Int) ≤ (k : Int) := Int.natCast_nonneg _
      have hkl : k < fs.length := by rw [HF.out.1]; exact hlt
      obtain ⟨b, off, rfl, hc⟩ : ∃ b off, a = some ⟨b, off, none⟩ ∧ ∀ i, i < len → FieldAt wr b (off + i * 4) (fs.getD i fv0) := by
        rcases HF.out.2.2 with h | h
        · omega
        · exact h
      obtain ⟨c0, c1, c2, c3⟩ := hc k hlt
      have HTS := filter_take_succ (hit tag kind) fs k hkl
      obtain ⟨f, hfd⟩ : ∃ f, f = fs.getD k fv0 := ⟨_, rfl⟩
      rw [← hfd] at c0 c1 c2 c3 HTS
      have HTS' : Is ((fs.take (k + 1)).filter (hit tag kind)) ((fs.take k).filter (hit tag kind) ++ (if hit tag kind f then [f] else [])) := ⟨HTS⟩
      have HP : Hid (hit tag kind f = true → PreO fs tag kind ((fs.take k).filter (hit tag kind)) f) := fun hh => ⟨k, hkl, hfd, hh, rfl⟩
      have hbk : K b := HKB.out b off rfl (by omega)
      have hbl : b < wr.heap.size := block_lt_of_cell (hc k hlt).tag
      have htl : Bt < wr.heap.size := block_lt_of_cell ct
      have hkl2 : Bk < wr.heap.size := block_lt_of_cell ck
      clear hc HTS hfd hkl
      by_cases hh : hit tag kind f = true
      · have h12 : f.tag = tag ∧ f.kind = kind := by unfold hit at hh; simpa using hh
        have b1 : (f.tag == tag) = true := by simpa using h12.1
        have b2 : (f.kind == kind) = true := by simpa using h12.2
        rw [if_pos hh] at HTS'
        have HJ2 : Hid (J ((fs.take k).filter (hit tag kind)) (boxed wr f)) := HJ.out _ _ _ HJr.out (World.grownBy_alloc wr _ _)
        have hlx : X < (boxed wr f).heap.size := by rw [size_alloc1]; omega
        obtain ⟨fn, tmps, assign, body, hy, hRR⟩ := HY.out _ f (boxed wr f) HJ2.out hlx (HP.out hh)
        have HPh : Hid (PreO fs tag kind ((fs.take k).filter (hit tag kind)) f) := HP.out hh
        clear h12 hh HP
        gi_wp2_with fail
        refine ⟨fun h => by simp [Fence.wide] at h, ?_⟩
        refine hRR.mono ?_
        clear hRR
        rintro e W3 (⟨rfl, hJ3, hk3⟩ | ⟨rfl, hJx3⟩)
        · have HJ3 : Hid (J ((fs.take (k + 1)).filter (hit tag kind)) W3) := by rw [HTS'.eq]; exact hJ3
          have hbx : ∀ j, j < wr.heap.size → (boxed wr f).heap[j]? = wr.heap[j]? := fun j hj => Below.heap_alloc _ _ _ hj
          have hsame : ∀ j, K j → j < wr.heap.size → W3.heap[j]? = wr.heap[j]? := fun j hj hl => (hk3.same j hj (by rw [size_alloc1]; omega)).trans (hbx j hl)
          have ct3 : W3.cell? ⟨Bt, 0, none⟩ = some (.int .i64 tag) := (World.cell?_of_block (w := wr) (hsame Bt hKt htl)).trans ct
          have ck3 : W3.cell? ⟨Bk, 0, none⟩ = some (.int .i64 kind) := (World.cell?_of_block (w := wr) (hsame Bk hKk hkl2)).trans ck
          have HF3 : Hid (FieldsL W3 (some ⟨b, off, none⟩) len fs) := HF.out.keptAt (fun b' off' e' _ => by cases e'; exact hsame b hbk hbl)
          have hx3 : X ≤ W3.heap.size := by have := hk3.size; rw [size_alloc1] at this; omega
          have HCT : Hid (W3.cell? ⟨Bt, 0, none⟩ = some (.int .i64 tag)) := ct3
          have HCK : Hid (W3.cell? ⟨Bk, 0, none⟩ = some (.int .i64 kind)) := ck3
          clear hJ3 hk3 hsame hbx ct3 ck3
          gi_wp2_with fail
          go_roundw
          case rel => exact ⟨k + 1, by omega, by go_num, HJ3.out, HCT.out, HCK.out, HF3.out, hx3⟩
          case measure => (simp [intOf]) <;> omega
        · have HJX : Hid (Jx ((fs.take k).filter (hit tag kind) ++ [f]) W3) := hJx3
          clear hJx3
          gi_wp2_with fail
          refine bodyPost_ret (results_none rfl _ _ _) rfl ?_
          exact ⟨⟨_, rfl⟩, .inr ⟨_, ⟨_, f, rfl, HPh.out⟩, HJX.out⟩⟩
      · rw [if_neg hh, List.append_nil] at HTS'
        have HJ3 : Hid (J ((fs.take (k + 1)).filter (hit tag kind)) (boxed wr f)) := by rw [HTS'.eq]; exact HJ.out _ _ _ HJr.out (World.grownBy_alloc wr _ _)
        have HCT : Hid ((boxed wr f).cell? ⟨Bt, 0, none⟩ = some (.int .i64 tag)) := (World.cell?_of_block (w := wr) (Below.heap_alloc _ _ _ htl)).trans ct
        have HCK : Hid ((boxed wr f).cell? ⟨Bk, 0, none⟩ = some (.int .i64 kind)) := (World.cell?_of_block (w := wr) (Below.heap_alloc _ _ _ hkl2)).trans ck
        have HF3 : Hid (FieldsL (boxed wr f) (some ⟨b, off, none⟩) len fs) := HF.out.below ((Below.refl _ _).alloc (Nat.le_refl _) _)
        have hx3 : X ≤ (boxed wr f).heap.size := by rw [size_alloc1]; omega
        by_cases b1' : f.tag = tag
        · have b1 : (f.tag == tag) = true := by simpa using b1'
          have b2 : (f.kind == kind) = false := by
            cases hb2 : (f.kind == kind) with
            | false => rfl
            | true => exact absurd (show hit tag kind f = true by unfold hit; rw [b1, hb2]; rfl) hh
          clear b1' hh
          gi_wp2_with fail
          refine ⟨fun _ h => (by cases h), ?_⟩
          gi_wp2_with fail
          go_roundw
          case rel => exact ⟨k + 1, by omega, by go_num, HJ3.out, HCT.out, HCK.out, HF3.out, hx3⟩
          case measure => (simp [intOf]) <;> omega
        · have b1 : (f.tag == tag) = false := by simpa using b1'
          clear b1' hh
          gi_wp2_with fail
          refine ⟨fun _ h => (by cases h), ?_⟩
          gi_wp2_with fail
          go_roundw
          case rel => exact ⟨k + 1, by omega, by go_num, HJ3.out, HCT.out, HCK.out, HF3.out, hx3⟩
          case measure => (simp [intOf]) <;> omega
    · have i0 : ¬ (k : Int) < (len : Int) := by omega
      have HT : Is (fs.take k) fs := ⟨List.take_of_length_le (by rw [HF.out.1]; omega)⟩
      rw [HT.eq] at HJr
      gi_wp2_with fail
      go_end0
      exact ⟨⟨_, rfl⟩, .inl HJr.out⟩
end Go.Proofs.YtealbeblkilibaaDoor.FI
