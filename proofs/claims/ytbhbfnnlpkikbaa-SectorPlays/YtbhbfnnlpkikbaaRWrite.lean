/- Proved: what the document's Write makes of its disk. -/
import Derived.Test.YtbhbfnnlpkikbaaRRead
import Derived.Deep.AppendSrc
namespace Go.Proofs.Ytbhbfnnlpkikbaa
open Go.RowKit
theorem info_rw : Try.prog.info? 71 = some Try.t71 := by kernel_rfl
theorem flat_rw (l : List (Nat × ByteArray)) : (l.flatMap rwc).length = l.length * 2 := flat_length rwc 2 l (fun p _ => rwc_length p)
theorem flat_rw_one (l : List (Nat × ByteArray)) : ∀ v ∈ l.flatMap rwc, v.oneCell' = true := fun v hv => by
  obtain ⟨p, _, hp⟩ := List.mem_flatMap.1 hv
  exact rwc_one p v hp
/- 'append(x, y...)' behind a list of the call's own -/
theorem app_rw {ops : Array Oper} {rest : List Oper} {o : Oper} {a : Act} {Q : Exit → Act → World → Prop} (hgd : o.guard = none) (sl x : Operand)
    (ho : o.op = .call { callee := .builtin .append, args := #[sl, x], argTypes := #[36, 36] }) (W : World) (N : Nat) (v : Value) (l : List (Nat × ByteArray)) (hs : a.eval sl = v) (hown : W.ownsRow N 71 2 v l.length (l.flatMap rwc))
    (ad : Addr) (m c : Nat) (gs : List (Nat × ByteArray)) (hgl : gs.length = m) (hx : a.eval x = .slice (some ad) m c) (hnews : ∀ j u, (gs.flatMap rwc)[j]? = some u → W.cell? (ad.add j) = some u) (hb : l.length + m ≤ 100000) (hN : N ≤ W.heap.size)
    (h : ∀ v' w', w'.ownsRow N 71 2 v' (l ++ gs).length ((l ++ gs).flatMap rwc) → Below N W w' → wpList Try.prog ops Q rest (a.put o.dst v') w') : wpList Try.prog ops Q (o :: rest) a W := by
  have hb24 : Try.t71.bytes = 24 := rfl
  obtain ⟨v', w', hr, h2, h3, h4, h5⟩ := run_append_own_at (P := Try.prog) W N 36 o.type 71 Try.t71 (.agg #[.int .i64 0, .string ByteArray.empty]) 2 24 Try.underlying36 info_rw rfl rfl rfl rfl (by omega) v l.length (l.flatMap rwc) hown ad m c (gs.flatMap rwc) (by rw [flat_rw, hgl]) hnews (flat_rw_one gs) (by unfold maxLen; omega) (by omega) hN
  refine wpList_plain hgd fun K hK => ?_
  unfold Oper.wp execOp
  simp only [ho, resolve, invoke, builtin, Sem.run_bind, Sem.run_pure, Result.andThen_ok, List.map_toArray, List.map_cons, List.map_nil, hs, hx, hr]
  rw [← List.flatMap_append, ← hgl, ← List.length_append] at h2
  exact hK _ _ (h v' w' h2 ((Below.refl _ _).grown h3 hN (fun k hk => (hown.lt k hk).1)))
/- 'append([]Write{}, d.Pending...)' -/
theorem app_pend {ops : Array Oper} {rest : List Oper} {o : Oper} {a : Act} {Q : Exit → Act → World → Prop} (hgd : o.guard = none) (sl x : Operand)
    (ho : o.op = .call { callee := .builtin .append, args := #[sl, x], argTypes := #[36, 36] }) (W : World) (N g : Nat) (hs : a.eval sl = .slice (some ⟨g, 0, none⟩) 0 0) (hNg : N ≤ g) (hg : W.heap[g]? = some (.cells #[] 71 (0, 0)))
    (vp : Value) (l : List (Nat × ByteArray)) (hx : a.eval x = vp) (hown : W.ownsRow 0 71 2 vp l.length (l.flatMap rwc)) (hb : l.length ≤ 90000) (hN : N ≤ W.heap.size)
    (h : ∀ v' w', w'.ownsRow N 71 2 v' l.length (l.flatMap rwc) → Below N W w' → wpList Try.prog ops Q rest (a.put o.dst v') w') : wpList Try.prog ops Q (o :: rest) a W := by
  have own0 : W.ownsRow N 71 2 (.slice (some ⟨g, 0, none⟩) 0 0) ([] : List (Nat × ByteArray)).length (([] : List (Nat × ByteArray)).flatMap rwc) := ⟨rfl, .inr ⟨g, 0, #[], rfl, hNg, hg, Nat.le_refl _, Nat.zero_le _, rfl, rfl⟩⟩
  rcases hown.2 with ⟨hv, hl⟩ | ⟨pg, cap, cur, hv, _, hh, _, _, _, ht⟩
  · obtain rfl : l = [] := List.length_eq_zero_iff.1 hl
    subst hv
    have hr := run_append_room_src (P := Try.prog) W 36 36 o.type 71 Try.t71 Try.underlying36 info_rw g 0 0 0 (.slice none 0 0) 0 [] (Src.ofNil W Try.underlying36 0) (Nat.le_refl _) (fun j hj => by cases hj) (fun j hj => by cases hj)
    refine wpList_plain hgd fun K hK => ?_
    unfold Oper.wp execOp
    simp only [ho, resolve, invoke, builtin, Sem.run_bind, Sem.run_pure, Result.andThen_ok, List.map_toArray, List.map_cons, List.map_nil, hs, hx, hr]
    have e0 : W.setCells g (0 + 0 * Try.t71.size) [] = W := rfl
    rw [e0]
    exact hK _ _ (h _ _ own0 (Below.refl _ _))
  · subst hv
    refine app_rw hgd sl x ho W N _ [] hs own0 ⟨pg, 0, none⟩ l.length cap l rfl hx (fun j u hj => ?_) (by simp; omega) hN h
    rw [Addr.add_mid, Nat.zero_add, cell_of_row W pg j cur _ (0, 0) hh, ← Array.getElem?_toList]
    rw [← ht] at hj
    have hjl := (List.getElem?_eq_some_iff.1 hj).1
    rw [List.length_take] at hjl
    rwa [List.getElem?_take_of_lt (by omega)] at hj
theorem Rk.put {w w' : World} {h N : Nat} {vk vp v' : Value} {s : Sc.St} {k : Nat} {x : ByteArray} (H : Rk w h vk vp (Sc.spent s)) (hN : N = w.heap.size) (hB : Below N w w') (hO : w'.ownsRow N 71 2 v' (s.pend ++ [(k, Sc.fill x)]).length ((s.pend ++ [(k, Sc.fill x)]).flatMap rwc)) (ok : Sc.Ok (Sc.put s k x)) :
    Rk (w'.setCell ⟨h, 1, none⟩ v') h vk v' (Sc.put s k x) ∧ Turn (rfoot h vk vp) (rfoot h vk v') w (w'.setCell ⟨h, 1, none⟩ v') := by
  subst hN
  have lt := H.lt
  have hh := lt h (by simp [rfoot])
  have H' := H.below hB
  have ne : v'.ownBlock ≠ some h := fun e => by
    have := (hO.lt h e).1
    omega
  have hO0 : w'.ownsRow 0 71 2 v' (s.pend ++ [(k, Sc.fill x)]).length ((s.pend ++ [(k, Sc.fill x)]).flatMap rwc) := by
    obtain ⟨h0, h1⟩ := hO
    refine ⟨h0, ?_⟩
    rcases h1 with h1 | ⟨g, cap', cur, hv, _, r⟩
    · exact .inl h1
    · exact .inr ⟨g, cap', cur, hv, Nat.zero_le _, r⟩
  refine ⟨⟨?_, own_keep H'.kept (fun k hk => heap_setCell_other _ _ _ _ (fun e => H.hk (by rw [hk, e]))), own_keep hO0 (fun k hk => heap_setCell_other _ _ _ _ (fun e => ne (by rw [hk, e]))), H.hk, ne, fun b hb e => ?_, ok⟩, ⟨?_, fun k hk => ?_⟩⟩
  · rw [heap_setCell_same w' h 1 _ _ _ H'.row]
    rfl
  · have h1 := (hO.lt b e).1
    have h2 := lt b (by simp [rfoot, hb])
    omega
  · exact (Chg.of_below (fs := rfoot h vk vp) hB).trans ((Chg.setCell w' h 1 v').mono (fun k hk => by rw [List.mem_singleton.1 hk]; simp [rfoot]))
  · simp only [rfoot, List.mem_cons, List.mem_append, Option.mem_toList] at hk ⊢
    rcases hk with h1 | h1 | h1
    · exact .inl (.inl h1)
    · exact .inl (.inr (.inl h1))
    · exact .inr (hO.lt k h1).1
set_option maxHeartbeats 4000000 in
set_option maxRecDepth 20000 in
theorem rwrite_any (h : Nat) (vk vp : Value) (s : Sc.St) (i : Int) (x : ByteArray) (w : World) (H : Rk w h vk vp s) (hn : s.dn ≤ 1000000000) (hl : s.pend.length ≤ 30000) :
    Calls Try.prog 28 #[ptr h, .int .i64 i, .string x] w (RDoes w h vk vp (Sc.writeS s i x) (Sc.writeE s i x)) := by
  have c0 := H.c0
  have c2 := H.c2
  obtain ⟨kg, kcap, hkv, hkc1, hkc2, hkr⟩ := H.kval
  rw [hkv] at c0
  have HH : Hid (Rk w h vk vp s) := H
  have HSP : Hid (Calls Try.prog 39 #[ptr h] w fun e w' => e = .returned (.int .i64 (spendE s)) ∧ Rk w' h vk vp (spendS s) ∧ Turn (rfoot h vk vp) (rfoot h vk vp) w w') := rdoes_any h vk vp s w H hn
  clear H hkr hkv
  unfold Sc.writeS Sc.writeE
  unfold spendE spendS at HSP
  cases hd : s.down
  · rw [hd] at c2
    simp only [Bool.false_eq_true, if_false] at *
    cases hh : Sc.has s i
    · simp only [if_true]
      by_cases h0 : i < 0
      · have d0 : decide (i < 0) = true := by simpa using h0
        go_enter Try.func28, Try.ntmps28
        go_wp2
        go_ret
        exact ⟨_, rfl, HH.out, Turn.refl _ _⟩
      · have d0 : decide (i < 0) = false := by simpa using h0
        have d1 : decide ((s.kept.length : Int) ≤ i) = true := by
          have : ¬ (0 ≤ i ∧ i < (s.kept.length : Int)) := fun h => by rw [Sc.has_iff.2 h] at hh; cases hh
          simp
          omega
        go_enter Try.func28, Try.ntmps28
        go_wp2
        go_ret
        exact ⟨_, rfl, HH.out, Turn.refl _ _⟩
    · simp only [Bool.true_eq_false, if_false]
      obtain ⟨k, rfl⟩ : ∃ k : Nat, i = (k : Int) := ⟨i.toNat, by have := (Sc.has_iff.1 hh).1; omega⟩
      have hk : k < s.kept.length := by have := (Sc.has_iff.1 hh).2; omega
      have d0 : decide ((k : Int) < 0) = false := by simp
      have d1 : decide ((s.kept.length : Int) ≤ (k : Int)) = false := by simp; omega
      rw [Int.toNat_natCast]
      by_cases hx : 64 < x.size
      · have hdx : decide ((64 : Int) < (x.size : Int)) = true := by simp; omega
        simp only [hx, if_true]
        go_enter Try.func28, Try.ntmps28
        go_wp2
        go_ret
        exact ⟨_, rfl, HH.out, Turn.refl _ _⟩
      · have hdx : decide ((64 : Int) < (x.size : Int)) = false := by simp; omega
        simp only [hx, if_false]
        by_cases h0 : s.left = 0
        · simp only [h0, if_true] at HSP ⊢
          go_enter Try.func28, Try.ntmps28
          go_wp2_with (go_at_call 39; refine HSP.out.mono ?_; rintro e w1 ⟨rfl, hD1, hT1⟩)
          go_ret
          exact ⟨_, rfl, hD1, hT1⟩
        · simp only [h0, if_false] at HSP ⊢
          have OK : Hid (Sc.Ok (Sc.put s k x)) := Sc.put_ok HH.out.ok hk (by omega)
          have HFL : Hid (∀ W : World, Calls Try.prog 27 #[.string x] W fun e w' => e = .returned (.string (Sc.fill x)) ∧ w' = W) := fun W => rfilled_any x W (by omega)
          clear HH
          go_enter Try.func28, Try.ntmps28
          go_wp2_with (first | (go_at_call 39; refine HSP.out.mono ?_; rintro e w1 ⟨rfl, hD1, hT1⟩; have HD1 : Hid (Rk w1 h vk vp (Sc.spent s)) := hD1; have HT1 := (show Hid (Turn (rfoot h vk vp) (rfoot h vk vp) w w1) from hT1); have q1 := hD1.c1; have hlt : h < w1.heap.size := hD1.lt h (by simp [rfoot]); clear hD1 hT1) | (go_at_call 27; refine (HFL.out _).mono ?_; rintro e wS ⟨rfl, hwS⟩; rw [hwS]; clear hwS wS) | (refine app_pend rfl (.tmp 32) (.tmp 36) rfl _ w1.heap.size w1.heap.size rfl (Nat.le_refl _) (heap_alloc_new w1 _) vp s.pend rfl (HD1.out.alloc _).pend (by omega) (by simp) ?_; intro v2 w2 hO2 hB2; have HO2 := (show Hid (w2.ownsRow w1.heap.size 71 2 v2 s.pend.length _) from hO2); have HB2 : Hid (Below w1.heap.size w1 w2) := ((Below.refl _ _).alloc (Nat.le_refl _) _).trans hB2; have hs2 := HB2.out.size; clear hO2 hB2) | (refine app_rw rfl (.tmp 37) (.tmp 42) rfl _ w1.heap.size v2 s.pend rfl (HO2.out.alloc _) ⟨w2.heap.size, 0, none⟩ 1 1 [(k, Sc.fill x)] rfl rfl (fun j u hj => by rw [Addr.add_mid]; exact range_all (cs := rwc (k, Sc.fill x)) (heap_alloc_new w2 _) j u (by simpa using hj)) (by omega) (by simp; omega) ?_; intro v3 w3 hO3 hB3; have HB3 : Hid (Below w1.heap.size w1 w3) := (HB2.out.alloc hs2 _).trans hB3; have HP3 := (show Hid (Rk (w3.setCell ⟨h, 1, none⟩ v3) h vk v3 (Sc.put s k x) ∧ Turn (rfoot h vk vp) (rfoot h vk v3) w1 (w3.setCell ⟨h, 1, none⟩ v3)) from HD1.out.put rfl HB3.out hO3 OK.out); have q3 := (HD1.out.below HB3.out).c1; have f3 := (HD1.out.below HB3.out).fz 1; obtain ⟨va, vc, hv3⟩ := own_slice hO3; subst hv3; clear hO3 hB3))
          go_ret
          have HP := HP3.out
          rw [show (s.pend ++ [(k, Sc.fill x)]).length = s.pend.length + 1 by simp] at HP
          exact ⟨_, rfl, HP.1, HT1.out.trans HP.2⟩
  · rw [hd] at c2
    simp only [if_true] at *
    go_enter Try.func28, Try.ntmps28
    go_wp2
    go_ret
    exact ⟨_, rfl, HH.out, Turn.refl _ _⟩
end Go.Proofs.Ytbhbfnnlpkikbaa
