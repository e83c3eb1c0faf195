/- Proved: a list of texts behind one of the call's own; slices.Grow and slices.Concat. -/
import Derived.Test.YtbcmgcallidneaaGreatDoorLst
namespace Go.Proofs.YtbcmgcallidneaaGreatDoor
open Go.RowKit
theorem run_append_none (W : World) (ty : TypeId) (base : Option Addr) (n cap : Nat) (ad : Option Addr) (c : Nat) (hroom : n ≤ cap) :
    (Builtin.append_ #[22, 22] ty #[.slice base n cap, .slice ad 0 c]).run Tryz.prog W = .ok (.slice base n cap) W := by
  have hS : Src Tryz.prog Tryz.t9.size 22 (.slice ad 0 c) 0 [] W := by
    cases ad with
    | none => exact Src.ofNil W Tryz.underlying22 c
    | some a => exact Src.ofSlice W Tryz.underlying22 a 0 c [] rfl (fun j u hj => by cases hj) (fun u hu => by cases hu)
  rcases hS.kind with ⟨e', hk⟩ | hk
  · cases base with
    | none => simp [Builtin.append_, run_underlying Tryz.underlying22, sizeOf, typeInfo, info9, hS.len, hroom, hS.cells]
    | some a => simp [Builtin.append_, run_underlying Tryz.underlying22, sizeOf, typeInfo, info9, hS.len, hroom, hS.cells, storeCells]
  · rw [Tryz.underlying22] at hk; cases hk
theorem scells_append (a b : List Pm.T) : scells (a ++ b) = scells a ++ scells b := by rw [scells, scells, scells, List.map_append]
theorem append_texts {ops : Array Oper} {rest : List Oper} {o : Oper} {a : Act} {Q : Exit → Act → World → Prop} (hgd : o.guard = none) (s x : Operand)
    (ho : o.op = .call { callee := .builtin .append, args := #[s, x], argTypes := #[22, 22] }) (W : World) (N : Nat) (v : Value) (l0 : List Pm.T) (hs : a.eval s = v) (hown : W.ownsRow N 9 1 v l0.length (scells l0))
    (ad : Option Addr) (c : Nat) (l : List Pm.T) (hx : a.eval x = .slice ad l.length c) (hA : TxtA W ad l) (hb : l0.length + l.length ≤ 50000) (hN : N ≤ W.heap.size)
    (h : ∀ v' w', w'.ownsRow N 9 1 v' (l0 ++ l).length (scells (l0 ++ l)) → Below N W w' → wpList Tryz.prog ops Q rest (a.put o.dst v') w') : wpList Tryz.prog ops Q (o :: rest) a W := by
  by_cases h0 : l = []
  · subst h0
    obtain ⟨base, cap, hv, hc, _, _⟩ := own_txt hown
    have hr := run_append_none W o.type base l0.length cap ad c hc
    subst hv
    refine wpList_plain hgd fun K hK => ?_
    unfold Oper.wp execOp
    rw [show ([] : List Pm.T).length = 0 from rfl] at hx
    simp only [ho, resolve, invoke, builtin, Sem.run_bind, Sem.run_pure, Result.andThen_ok, List.map_toArray, List.map_cons, List.map_nil, hs, hx, hr]
    exact hK _ _ (h _ _ (by rw [List.append_nil]; exact hown) (Below.refl _ _))
  · obtain ⟨g, rfl, hg, ht⟩ := hA (List.length_pos_iff.2 h0)
    obtain ⟨v', w', hr, h2, h3, h4, h5⟩ := run_append_own_at (P := Tryz.prog) W N 22 o.type 9 Tryz.t9 (.string ByteArray.empty) 1 16 Tryz.underlying22 info9 rfl rfl rfl rfl (by omega) v l0.length (scells l0) hown ⟨g, 0, none⟩ l.length c (scells l) (by simp [scells]) (fun j u hj => by
      rw [scells, List.getElem?_map] at hj
      obtain ⟨y, hy, rfl⟩ := Option.map_eq_some_iff.1 hj
      rw [Go.WideShapes.add_plain]
      exact ht j y hy) (fun u hu => by rw [scells] at hu; obtain ⟨y, _, rfl⟩ := List.mem_map.1 hu; rfl) (by unfold maxLen; omega) (by omega) hN
    have hG : Grew W v w' v' := ⟨h3, h5.imp id (fun h => ⟨_, h, Nat.le_refl _⟩)⟩
    refine wpList_plain hgd fun K hK => ?_
    unfold Oper.wp execOp
    simp only [ho, resolve, invoke, builtin, Sem.run_bind, Sem.run_pure, Result.andThen_ok, List.map_toArray, List.map_cons, List.map_nil, hs, hx, hr]
    exact hK _ _ (h v' w' (by rw [List.length_append, scells_append]; exact h2) (hG.below hown hN))
theorem grow_any (n : Nat) (w : World) (hn : n ≤ 100000) :
    Calls Tryz.prog 45 #[.slice none 0 0, .int .i64 (n : Nat)] w fun e w' => ∃ v, e = .returned v ∧ w'.ownsRow w.heap.size 9 1 v ([] : List Pm.T).length (scells []) ∧ Below w.heap.size w w' := by
  by_cases h0 : n = 0
  · subst h0
    exact (Any8.slices_Grow_room Tryz.growS none 0 0 0 w (Nat.le_refl _) (by omega) (by omega) (by omega)).mono fun e w' ⟨he, hw⟩ => ⟨_, he, own_nil _ _, hw ▸ Below.refl _ _⟩
  · refine (Any8.slices_Grow_grow Tryz.growS Tryz.t9 (.string ByteArray.empty) (by kernel_rfl) rfl (by decide) none 0 0 n [] w (Nat.le_refl _) (by omega) (by show (0 + n) * 16 ≤ _; omega) (by omega) rfl (fun _ => rfl) (fun a ha => by cases ha)).mono fun e w' ⟨he, hw⟩ => ⟨_, he, ?_, ?_⟩
    · rw [hw]
      have hge := grownCap_ge w (0 + n) 0 9
      have hle := grownCap_le_maxLen w (0 + n) 0 9 (by unfold maxLen; omega)
      have e1 : w.drew.heap.size = w.heap.size := rfl
      have := World.ownsRow_made (base := w.heap.size) (e := 9) (size := 1) w.drew (([] : List Value).toArray ++ Builtin.zeroCells (Value.string ByteArray.empty).cells (0 + n - 0) ++ Builtin.zeroCells (Value.string ByteArray.empty).cells (grownCap w (0 + n) 0 9 - (0 + n))) (grownCap w (0 + n) 0 9) (by rw [e1]; exact Nat.le_refl _) hle (by
        rw [Array.size_append, Array.size_append, size_zeroCells, size_zeroCells]
        have : (Value.string ByteArray.empty).cells.size = 1 := rfl
        rw [this]
        simp only [List.size_toArray, List.length_nil, Nat.mul_one]
        omega)
      exact this
    · rw [hw]
      exact ((Below.refl _ w).drew).alloc (Nat.le_refl _) _
def CSz (n1 n2 : Nat) (w : World) (sz i : Value) (wr : World) : Prop := wr = w ∧ ((i = .int .i64 0 ∧ sz = .int .i64 0) ∨ (i = .int .i64 1 ∧ sz = .int .i64 (n1 : Nat)) ∨ (i = .int .i64 2 ∧ sz = .int .i64 ((n1 : Int) + (n2 : Int))))
def CRow (l1 l2 : List Pm.T) (w : World) (v i : Value) (wr : World) : Prop := Below w.heap.size w wr ∧ ((i = .int .i64 0 ∧ wr.ownsRow w.heap.size 9 1 v ([] : List Pm.T).length (scells [])) ∨ (i = .int .i64 1 ∧ wr.ownsRow w.heap.size 9 1 v l1.length (scells l1)) ∨ (i = .int .i64 2 ∧ wr.ownsRow w.heap.size 9 1 v (l1 ++ l2).length (scells (l1 ++ l2))))
set_option maxHeartbeats 4000000 in
set_option maxRecDepth 20000 in
theorem concat_any (b cc : Nat) (a1 a2 : Option Addr) (c1 c2 : Nat) (l1 l2 : List Pm.T) (w : World) (h1 : w.cell? ⟨b, 0, none⟩ = some (.slice a1 l1.length c1)) (h2 : w.cell? ⟨b, 1, none⟩ = some (.slice a2 l2.length c2)) (hA1 : TxtA w a1 l1) (hA2 : TxtA w a2 l2) (hl1 : l1.length ≤ 1000) (hl2 : l2.length ≤ 1000) :
    Calls Tryz.prog 28 #[.slice (some ⟨b, 0, none⟩) 2 cc] w fun e w' => ∃ v, e = .returned v ∧ w'.ownsRow w.heap.size 9 1 v (l1 ++ l2).length (scells (l1 ++ l2)) ∧ Below w.heap.size w w' := by
  have hbl : b < w.heap.size := block_lt_of_cell h1
  have HG : Hid (∀ n : Nat, n ≤ 100000 → Calls Tryz.prog 45 #[.slice none 0 0, .int .i64 (n : Nat)] w fun e w' => ∃ v, e = .returned v ∧ w'.ownsRow w.heap.size 9 1 v ([] : List Pm.T).length (scells []) ∧ Below w.heap.size w w') := fun n hn => grow_any n w hn
  have HA1 : Hid (TxtA w a1 l1) := hA1
  have HA2 : Hid (TxtA w a2 l2) := hA2
  obtain ⟨n1, hn1⟩ : ∃ n, l1.length = n := ⟨_, rfl⟩
  obtain ⟨n2, hn2⟩ : ∃ n, l2.length = n := ⟨_, rfl⟩
  have HN1 : Is l1.length n1 := ⟨hn1⟩
  have HN2 : Is l2.length n2 := ⟨hn2⟩
  rw [hn1] at h1 hl1
  rw [hn2] at h2 hl2
  clear hA1 hA2 hn1 hn2
  have w12 : wrap64 ((n1 : Int) + (n2 : Int)) = (n1 : Int) + (n2 : Int) := by unfold wrap64; omega
  have w01 : wrap64 ((0 : Int) + (n1 : Int)) = (n1 : Int) := by unfold wrap64; omega
  have p1 : ¬ (n1 : Int) < 0 := by omega
  have p2 : ¬ (n1 : Int) + (n2 : Int) < 0 := by omega
  go_enter Tryz.func28, Tryz.ntmps28
  go_wp2_with fail
  go_loopw [3, 5, 11] (fun sz _ i wr => CSz n1 n2 w sz i wr) (fun _ _ i _ => 2 - (intOf i).toNat)
  case atStart => exact ⟨rfl, .inl ⟨rfl, rfl⟩⟩
  case round =>
    obtain ⟨hwr, h⟩ := hrel
    replace hwr := hwr.symm
    subst hwr
    rcases h with ⟨rfl, rfl⟩ | ⟨rfl, rfl⟩ | ⟨rfl, rfl⟩
    · go_wp2_with fail
      go_roundw
      case rel => exact ⟨rfl, .inr (.inl ⟨by go_num, by first | rfl | (simp; done)⟩)⟩
      case measure => (simp [intOf]) <;> omega
    · go_wp2_with fail
      go_roundw
      case rel => exact ⟨rfl, .inr (.inr ⟨by go_num, by first | rfl | (simp; done)⟩)⟩
      case measure => (simp [intOf]) <;> omega
    · have HGn := (show Hid _ from HG.out (n1 + n2) (by omega))
      rw [Int.natCast_add] at HGn
      clear HG
      go_wp2_with (first | (go_at_call 45; refine (show Calls _ _ _ _ _ from HGn.out).mono ?_; rintro e w1 ⟨v, rfl, ho1, hB1⟩; obtain ⟨ad1, cp1, hv1, _⟩ := own_txt ho1; subst hv1; have HO1 := (show Hid _ from ho1); have HB1 : Hid (Below w.heap.size w w1) := hB1; clear ho1 hB1))
      go_loopw [6, 8, 27] (fun v _ i wr => CRow l1 l2 w v i wr) (fun _ _ i _ => 2 - (intOf i).toNat)
      case atStart => exact ⟨HB1.out, .inl ⟨rfl, HO1.out⟩⟩
      case round =>
        obtain ⟨hB, h⟩ := hrel
        have HB : Hid (Below w.heap.size w wr) := hB
        have hsz := hB.size
        have e1 := (hB.cell (p := ⟨b, 0, none⟩) hbl).trans h1
        have e2 := (hB.cell (p := ⟨b, 1, none⟩) hbl).trans h2
        have HT1 : Hid (TxtA wr a1 l1) := HA1.out.below hB
        have HT2 : Hid (TxtA wr a2 l2) := HA2.out.below hB
        clear hB
        rcases h with ⟨rfl, ho⟩ | ⟨rfl, ho⟩ | ⟨rfl, ho⟩
        · obtain ⟨ad1, cp1, hv1, _⟩ := own_txt ho
          subst hv1
          have HO := (show Hid _ from ho)
          clear ho
          rw [← HN1.eq] at e1
          go_wp2_with (first | (refine append_texts rfl (.tmp 31) (.tmp 32) rfl _ w.heap.size _ [] rfl HO.out a1 c1 l1 rfl HT1.out (by rw [HN1.eq]; simp only [List.length_nil]; omega) hsz ?_; intro v' w' hO2 hB2; have HO2 := (show Hid _ from hO2); have HB2 : Hid (Below w.heap.size w w') := HB.out.trans hB2; clear hO2 hB2))
          go_roundw
          case rel => exact ⟨HB2.out, .inr (.inl ⟨by go_num, HO2.out⟩)⟩
          case measure => (simp [intOf]) <;> omega
        · obtain ⟨ad1, cp1, hv1, _⟩ := own_txt ho
          subst hv1
          have HO := (show Hid _ from ho)
          clear ho
          rw [← HN2.eq] at e2
          go_wp2_with (first | (refine append_texts rfl (.tmp 31) (.tmp 32) rfl _ w.heap.size _ l1 rfl HO.out a2 c2 l2 rfl HT2.out (by rw [HN1.eq, HN2.eq]; omega) hsz ?_; intro v' w' hO2 hB2; have HO2 := (show Hid _ from hO2); have HB2 : Hid (Below w.heap.size w w') := HB.out.trans hB2; clear hO2 hB2))
          go_roundw
          case rel => exact ⟨HB2.out, .inr (.inr ⟨by go_num, HO2.out⟩)⟩
          case measure => (simp [intOf]) <;> omega
        · obtain ⟨ad1, cp1, hv1, _⟩ := own_txt ho
          subst hv1
          have HO := (show Hid _ from ho)
          clear ho
          go_wp2_with fail
          go_ret
          exact ⟨_, rfl, HO.out, HB.out⟩
end Go.Proofs.YtbcmgcallidneaaGreatDoor
