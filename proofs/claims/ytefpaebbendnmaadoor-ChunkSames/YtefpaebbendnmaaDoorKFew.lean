/- Proved: the law's helper few answers a slice of its own with the first 1500 bytes. Condition: the slice that comes in has just these bytes. -/
import Derived.Test.YtefpaebbendnmaaDoorKHex
import Derived.Maps.AppendAt
import Derived.Deep.AppendSrc
namespace Go.Proofs.YtefpaebbendnmaaDoor.BK
open Go.RowKit
/- a slice of the call's own, from block N on, with just these bytes -/
def Mine (w : World) (N : Nat) (a : Option Addr) (len cap : Nat) (bs : List Nat) : Prop := w.ownsRow N 5 1 (.slice a len cap) len (bs.map V8) ∧ (∀ x ∈ bs, x < 256) ∧ len ≤ cap
theorem Mine.length {w : World} {N : Nat} {a : Option Addr} {len cap : Nat} {bs : List Nat} (h : Mine w N a len cap bs) : bs.length = len := by
  have := h.1.1; simpa using this
theorem Mine.bytes {w : World} {N : Nat} {a : Option Addr} {len cap : Nat} {bs : List Nat} (h : Mine w N a len cap bs) (hm : len ≤ 9223372036854775807) : Bytes w a len bs := by
  have hl := h.length
  obtain ⟨⟨_, h1⟩, h2, _⟩ := h
  refine ⟨hl, h2, hm, ?_⟩
  rcases h1 with ⟨hv, h0⟩ | ⟨g, cap', cur, hv, hN, hh, hc, _, hsz, ht⟩
  · exact .inl h0
  · cases hv
    refine .inr ⟨g, 0, rfl, fun i hi => ?_⟩
    rw [cell_of_row w g (0 + i) cur 5 (0, 0) hh, Nat.zero_add]
    have e : (cur.toList.take (len * 1))[i]? = (bs.map V8)[i]? := by rw [ht]
    rw [Nat.mul_one, List.getElem?_take_of_lt hi, List.getElem?_map, Array.getElem?_toList] at e
    rw [e, List.getElem?_eq_getElem (by omega), List.getD_eq_getElem?_getD, List.getElem?_eq_getElem (by omega)]; rfl
theorem Mine.below {w w' : World} {N : Nat} {a : Option Addr} {len cap : Nat} {bs : List Nat} (h : Mine w N a len cap bs) {B : Nat} (hb : Below B w w') (hB : B = w.heap.size) : Mine w' N a len cap bs := by
  obtain ⟨⟨h0, h1⟩, h2, h3⟩ := h
  refine ⟨⟨h0, ?_⟩, h2, h3⟩
  rcases h1 with h1 | ⟨g, cap', cur, hv, hN, hh, r⟩
  · exact .inl h1
  · exact .inr ⟨g, cap', cur, hv, hN, (hb.block g (by subst hB; exact (Array.getElem?_eq_some_iff.1 hh).1)).trans hh, r⟩
theorem add_none (b off j : Nat) : (⟨b, off, none⟩ : Addr).add j = ⟨b, off + j, none⟩ := by unfold Addr.add; split <;> simp_all
theorem info5 : Tryd.prog.info? 5 = some Tryd.t5 := by kernel_rfl
/- 'append([]byte{}, x...)': a slice of the call's own with x's bytes -/
theorem append_copy {ops : Array Oper} {rest : List Oper} {o : Oper} {a : Act} {Q : Exit → Act → World → Prop} (hgd : o.guard = none) (s x : Operand)
    (ho : o.op = .call { callee := .builtin .append, args := #[s, x], argTypes := #[28, 28] }) (W : World) (N g : Nat) (hN : N ≤ W.heap.size) (hNg : N ≤ g) (hg : W.heap[g]? = some (.cells #[] 5 (0, 0)))
    (hs : a.eval s = .slice (some ⟨g, 0, none⟩) 0 0) (ad : Option Addr) (m c : Nat) (bs : List Nat) (hx : a.eval x = .slice ad m c) (hB : Bytes W ad m bs) (hm : m ≤ 1500)
    (h : ∀ g' cap' w', Mine w' N (some ⟨g', 0, none⟩) m cap' bs → Below N W w' → wpList Tryd.prog ops Q rest (a.put o.dst (.slice (some ⟨g', 0, none⟩) m cap')) w') : wpList Tryd.prog ops Q (o :: rest) a W := by
  obtain ⟨hl, hlt, hmax, hc⟩ := hB
  have own0 : W.ownsRow N 5 1 (.slice (some ⟨g, 0, none⟩) 0 0) 0 [] := ⟨rfl, .inr ⟨g, 0, #[], rfl, hNg, hg, Nat.le_refl _, Nat.zero_le _, rfl, rfl⟩⟩
  cases ad with
  | none =>
    have hm0 : m = 0 := by
      rcases hc with h0 | ⟨b, off, ha, _⟩
      · exact h0
      · cases ha
    subst hm0
    obtain rfl : bs = [] := List.eq_nil_of_length_eq_zero hl
    have hr := run_append_room_src (P := Tryd.prog) W 28 28 o.type 5 Tryd.t5 Tryd.underlying28 info5 g 0 0 0 (.slice none 0 c) 0 [] (Src.ofNil W Tryd.underlying28 c) (Nat.le_refl _) (fun j hj => by cases hj) (fun j hj => by cases hj)
    refine wpList_plain hgd fun K hK => ?_
    unfold Oper.wp execOp
    simp only [ho, resolve, invoke, builtin, Sem.run_bind, Sem.run_pure, Result.andThen_ok, List.map_toArray, List.map_cons, List.map_nil, hs, hx, hr]
    have e0 : W.setCells g (0 + 0 * Tryd.t5.size) [] = W := rfl
    rw [e0]
    exact hK _ _ (h _ _ _ ⟨own0, (fun x hx => by cases hx), Nat.le_refl _⟩ (Below.refl _ _))
  | some ad =>
    refine wpList_append_own_at W hgd s x 28 ho N 5 Tryd.t5 (.int .u8 0) 1 1 Tryd.underlying28 info5 rfl rfl rfl rfl (by omega) _ 0 [] hs own0 ad m c (bs.map V8) hx (by simpa using hl) (fun j u hj => ?_) (fun u hu => ?_) (by unfold maxLen; omega) (by omega) hN ?_
    · have hj' : j < m := by
        have := (List.getElem?_eq_some_iff.1 hj).1
        simp at this; omega
      rcases hc with h0 | ⟨b, off, ha, hc⟩
      · omega
      cases ha
      rw [add_none, hc j hj']
      rw [List.getElem?_map, List.getElem?_eq_getElem (by omega)] at hj
      rw [List.getD_eq_getElem?_getD, List.getElem?_eq_getElem (by omega)]
      exact hj
    · obtain ⟨n, _, rfl⟩ := List.mem_map.1 hu
      rfl
    · intro v' w' hown hgrow hnil hblk
      have hb : Below N W w' := (Below.refl _ _).grown hgrow hN (fun k hk => by
        have : g = k := Option.some.inj hk
        omega)
      rw [Nat.zero_add, List.nil_append] at hown
      rcases hown.2 with ⟨hv, h0⟩ | ⟨g', cap', cur, hv, r⟩
      · exact absurd (hnil.1 hv).1 (by intro e; cases e)
      · subst hv
        exact h _ _ _ ⟨hown, hlt, r.2.2.1⟩ hb
end Go.Proofs.YtefpaebbendnmaaDoor.BK
