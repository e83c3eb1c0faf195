/- Proved: the document's number answers the bytes of a number, in a slice of the call's own. -/
import Derived.Test.YtpbobmhffdmmmaaFew
import Derived.Test.YtpbobmhffdmmmaaMath
namespace Go.Proofs.Ytpbobmhffdmmmaa
open Go.RowKit
def V8 (n : Nat) : Value := .int .u8 (n : Nat)
theorem info5 : Try.prog.info? 5 = some Try.t5 := by kernel_rfl
theorem v8_one (l : List Nat) : ∀ v ∈ l.map V8, v.oneCell' = true := fun v hv => by
  obtain ⟨n, _, rfl⟩ := List.mem_map.1 hv
  rfl
theorem append_bytes {ops : Array Oper} {rest : List Oper} {o : Oper} {a : Act} {Q : Exit → Act → World → Prop} (hgd : o.guard = none) (s x : Operand)
    (ho : o.op = .call { callee := .builtin .append, args := #[s, x], argTypes := #[51, 51] }) (W : World) (N : Nat) (v : Value) (n : Nat) (vs : List Nat) (hs : a.eval s = v) (hown : W.ownsRow N 5 1 v n (vs.map V8))
    (ad : Addr) (m c : Nat) (ds : List Nat) (hx : a.eval x = .slice (some ad) m c) (hl : ds.length = m) (hnews : ∀ j u, (ds.map V8)[j]? = some u → W.cell? (ad.add j) = some u) (hb : n + m ≤ 400000) (hN : N ≤ W.heap.size)
    (h : ∀ v' w', w'.ownsRow N 5 1 v' (n + m) ((vs ++ ds).map V8) → Below N W w' → wpList Try.prog ops Q rest (a.put o.dst v') w') : wpList Try.prog ops Q (o :: rest) a W := by
  obtain ⟨v', w', hr, h2, h3, h4, h5⟩ := run_append_own_at (P := Try.prog) W N 51 o.type 5 Try.t5 (.int .u8 0) 1 1 Try.underlying51 info5 rfl rfl rfl rfl (by omega) v n (vs.map V8) hown ad m c (ds.map V8) (by simpa using hl) hnews (v8_one ds) (by unfold maxLen; omega) (by omega) hN
  refine wpList_plain hgd fun K hK => ?_
  unfold Oper.wp execOp
  simp only [ho, resolve, invoke, builtin, Sem.run_bind, Sem.run_pure, Result.andThen_ok, List.map_toArray, List.map_cons, List.map_nil, hs, hx, hr]
  rw [← List.map_append] at h2
  refine hK _ _ (h v' w' h2 ((Below.refl _ _).grown h3 hN (fun k hk => ?_)))
  rcases hown.2 with ⟨hv, _⟩ | ⟨g, cap', cur, hv, hNg, _⟩
  · subst hv; cases hk
  · subst hv
    have : g = k := Option.some.inj hk
    omega
/- a slice of the call's own that has bytes: where it lies -/
theorem own_at {w : World} {N n : Nat} {v : Value} {vs : List Nat} (h : w.ownsRow N 5 1 v n (vs.map V8)) (hn : 0 < n) : ∃ g cap, v = .slice (some ⟨g, 0, none⟩) n cap ∧ N ≤ g ∧ g < w.heap.size ∧ vs.length = n ∧ ∀ j u, (vs.map V8)[j]? = some u → w.cell? ((⟨g, 0, none⟩ : Addr).add j) = some u := by
  obtain ⟨h0, h1⟩ := h
  rcases h1 with ⟨_, h1⟩ | ⟨g, cap', cur, hv, hN, hh, hc, hm, hsz, ht⟩
  · omega
  · have hl : vs.length = n := by simpa using h0
    refine ⟨g, cap', hv, hN, (Array.getElem?_eq_some_iff.1 hh).1, hl, fun j u hj => ?_⟩
    have hj' : j < n := by
      have := (List.getElem?_eq_some_iff.1 hj).1
      simp at this; omega
    rw [Go.WideShapes.add_plain, cell_of_row w g (0 + j) cur 5 (0, 0) hh, Nat.zero_add, ← Array.getElem?_toList]
    have e : (cur.toList.take (n * 1))[j]? = (vs.map V8)[j]? := by rw [ht]
    rw [Nat.mul_one, List.getElem?_take_of_lt hj'] at e
    rw [e]; exact hj
theorem owns8_below {w w' : World} {N B n : Nat} {v : Value} {vs : List Value} (h : w.ownsRow N 5 1 v n vs) (hb : Below B w w') (hB : B = w.heap.size) : w'.ownsRow N 5 1 v n vs := by
  obtain ⟨h0, h1⟩ := h
  refine ⟨h0, ?_⟩
  rcases h1 with h1 | ⟨g, cap', cur, hv, hN, hh, r⟩
  · exact .inl h1
  · exact .inr ⟨g, cap', cur, hv, hN, (hb.block g (by subst hB; exact (Array.getElem?_eq_some_iff.1 hh).1)).trans hh, r⟩
theorem one_own (w : World) (z : Int) (n : Nat) (hz : z = (n : Int)) : (w.alloc (.cells #[.int .u8 z] 5)).ownsRow w.heap.size 5 1 (.slice (some ⟨w.heap.size, 0, none⟩) 1 1) 1 ([n].map V8) := by
  subst hz
  exact ⟨rfl, .inr ⟨w.heap.size, 1, #[.int .u8 n], rfl, Nat.le_refl _, heap_alloc_new w _, Nat.le_refl _, by unfold maxLen; omega, rfl, rfl⟩⟩
theorem varint_room (n : Nat) (h : n ≤ 9223372036854775807) : (Fi.varint n).length ≤ 9 := by
  refine Fi.varint_length 8 n ?_
  have : (128 : Nat) ^ (8 + 1) = 9223372036854775808 := by decide
  omega
set_option maxHeartbeats 1000000 in
theorem number_any (n : Nat) : n ≤ 9223372036854775807 → ∀ w : World, Calls Try.prog 32 #[.int .i64 (n : Int)] w fun e w' => ∃ v, e = .returned v ∧ w'.ownsRow w.heap.size 5 1 v (Fi.varint n).length ((Fi.varint n).map V8) ∧ Below w.heap.size w w' := by
  induction n using Nat.strongRecOn with
  | ind n ih =>
    intro hn w
    by_cases h : n < 128
    · rw [Fi.varint_small h]
      have h1 : (n : Int) < 128 := by omega
      go_enter Try.func32, Try.ntmps32
      go_wp2_with fail
      go_ret
      exact ⟨_, rfl, one_own w _ n (by first | rfl | (simp only [IntKind.wrap_u8]; omega)), (Below.refl _ _).alloc (Nat.le_refl _) _⟩
    · have h1 : ¬ (n : Int) < 128 := by omega
      have IH : Hid (∀ w : World, Calls Try.prog 32 #[.int .i64 ((n / 128 : Nat) : Int)] w fun e w' => ∃ v, e = .returned v ∧ w'.ownsRow w.heap.size 5 1 v (Fi.varint (n / 128)).length ((Fi.varint (n / 128)).map V8) ∧ Below w.heap.size w w') := ih (n / 128) (by omega) (by omega)
      have HV : Is (Fi.varint n) ((128 + n % 128) :: Fi.varint (n / 128)) := ⟨Fi.varint_large h⟩
      have HR := varint_room (n / 128) (by omega)
      have HP : 0 < (Fi.varint (n / 128)).length := List.length_pos_iff.2 (Fi.varint_ne _)
      clear ih
      obtain ⟨q, hq⟩ : ∃ q, q = n / 128 := ⟨_, rfl⟩
      obtain ⟨r, hr⟩ : ∃ r, r = n % 128 := ⟨_, rfl⟩
      have eq1 : (n : Int) / 128 = (q : Int) := by omega
      have eq2 : (n : Int).tdiv 128 = (q : Int) := by rw [Int.tdiv_eq_ediv_of_nonneg (by omega)]; omega
      have er1 : (n : Int) % 128 = (r : Int) := by omega
      have er2 : (n : Int).tmod 128 = (r : Int) := by rw [Int.tmod_eq_emod_of_nonneg (by omega)]; omega
      have hr128 : r < 128 := by omega
      rw [← hq] at IH HV HR HP
      rw [← hr] at HV
      clear hq hr
      generalize Fi.varint q = vq at *
      go_enter Try.func32, Try.ntmps32
      rw [HV.eq]
      have HO1 : Hid ((w.alloc (.cells #[.int .u8 (128 + (r : Int))] 5)).ownsRow w.heap.size 5 1 (.slice (some ⟨w.heap.size, 0, none⟩) 1 1) 1 ([128 + r].map V8)) := one_own w _ (128 + r) (by omega)
      go_wp2_with fail
      refine (IH.out _).mono ?_
      rintro e w2 ⟨v, rfl, hO2, hB2⟩
      obtain ⟨g2, cap2, rfl, hg2, hg2', hl2, hnews⟩ := own_at hO2 HP
      have HN : Hid (∀ j u, (vq.map V8)[j]? = some u → w2.cell? ((⟨g2, 0, none⟩ : Addr).add j) = some u) := hnews
      have HO3 : Hid (w2.ownsRow w.heap.size 5 1 (.slice (some ⟨w.heap.size, 0, none⟩) 1 1) 1 ([128 + r].map V8)) := owns8_below HO1.out hB2 rfl
      have HB2 : Hid (Below (w.alloc (.cells #[.int .u8 (128 + (r : Int))] 5)).heap.size (w.alloc (.cells #[.int .u8 (128 + (r : Int))] 5)) w2) := hB2
      have hz2 := hB2.size
      rw [size_alloc1] at hz2
      clear hO2 hB2 hnews HO1 hg2 hl2
      obtain ⟨lq, hlq⟩ : ∃ lq, lq = vq.length := ⟨_, rfl⟩
      rw [← hlq] at HR HP
      rw [← hlq]
      have HLQ : Is vq.length lq := ⟨hlq.symm⟩
      clear hlq
      go_wp2_with (first | (refine append_bytes rfl (.tmp 12) (.tmp 15) rfl w2 w.heap.size _ 1 [128 + r] rfl HO3.out ⟨g2, 0, none⟩ lq cap2 vq rfl HLQ.eq HN.out (by omega) (by omega) ?_; intro v' w' hO4 hB4))
      go_ret
      refine ⟨_, rfl, ?_, (((Below.refl _ w).alloc (Nat.le_refl _) _).trans (HB2.out.mono (by rw [size_alloc1]; omega))).trans hB4⟩
      rw [List.length_cons, HLQ.eq, Nat.add_comm lq 1]
      exact hO4
end Go.Proofs.Ytpbobmhffdmmmaa
