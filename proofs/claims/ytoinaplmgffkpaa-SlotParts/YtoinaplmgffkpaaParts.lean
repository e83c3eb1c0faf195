/- Proved: SlotParts' walk (stage 11). -/
import Derived.Test.YtoinaplmgffkpaaLBase
import Derived.Test.YtoinaplmgffkpaaJoin
import Derived.Test.YtoinaplmgffkpaaRSplL
import Derived.Test.YtoinaplmgffkpaaRSplB
import Derived.Test.YtoinaplmgffkpaaRJnL
import Derived.Test.YtoinaplmgffkpaaRJnB
import Derived.Test.YtoinaplmgffkpaaSame
import Derived.Laws.Cover1
namespace Go.Proofs.Ytoinaplmgffkpaa
open Go.RowKit
open Sl (Cel Nod)
theorem rsplit_any (n : Nod) (p : Pt) (w : World) (hN : Lies w n p) (hF : Fit n) :
    Calls Try.prog 20 #[nv n p] w (RsPost w n) := by
  cases hm : Sl.may n with
  | false => exact rsplit_no n p w hN hF (.inl hm)
  | true =>
    rcases Nat.eq_zero_or_pos (spN n) with hz | hz
    · exact rsplit_no n p w hN hF (.inr ⟨hm, hz⟩)
    · cases hf : n.leaf with
      | true => exact rsplit_leaf n p w hN hF hm hf (by rw [spN_leaf hf] at hz; omega)
      | false => exact rsplit_branch n p w hN hF hm hf (by rw [spN_branch hf] at hz; omega)
theorem rjoin_any (l r : Nod) (p q : Pt) (k : ByteArray) (w : World) (hL : Lies w l p) (hR : Lies w r q) (hFl : Fit l) (hFr : Fit r) (hk : k.size ≤ 140737488355328) (hz1 : l.cells.length + r.cells.length ≤ 200) (hz2 : l.keys.length + r.keys.length ≤ 200) (hz3 : l.kids.length + r.kids.length ≤ 200) :
    Calls Try.prog 22 #[nv l p, nv r q, .string k] w (JoPost w l r k) := by
  cases hml : Sl.may l with
  | false => exact rjoin_no l r p q k w hL hR hFl hFr hk hz1 hz2 hz3 (.inl hml)
  | true =>
    cases hmr : Sl.may r with
    | false => exact rjoin_no l r p q k w hL hR hFl hFr hk hz1 hz2 hz3 (.inr (.inl ⟨hml, hmr⟩))
    | true =>
      by_cases h : l.leaf = r.leaf
      · cases hlf : l.leaf with
        | true => exact rjoin_leaf l r p q k w hL hR hFl hFr hk hz1 hz2 hz3 hml hmr hlf (h.symm.trans hlf)
        | false => exact rjoin_branch l r p q k w hL hR hFl hFr hk hz1 hz2 hz3 hml hmr hlf (h.symm.trans hlf)
      · exact rjoin_no l r p q k w hL hR hFl hFr hk hz1 hz2 hz3 (.inr (.inr ⟨hml, hmr, h⟩))
theorem fit_nil : Fit Sl.nod0 := ⟨fun c hc => (by cases hc), fun c hc => (by cases hc), fun c hc => (by cases hc), by decide, by decide, by decide⟩
theorem fit_parts {n : Nod} (hF : Fit n) : Fit (spL n) ∧ Fit (spR n) := by
  unfold spL spR
  cases spOk n with
  | false =>
    simp only [Bool.false_eq_true, if_false]
    exact ⟨fit_nil, fit_nil⟩
  | true =>
    have h1 := hF.l1
    have h2 := hF.l2
    have h3 := hF.l3
    cases n.leaf with
    | true => exact ⟨fit_sub hF (fun c hc => List.mem_of_mem_take hc) (fun k hk => (by cases hk)) (fun i hi => (by cases hi)) (by rw [List.length_take]; omega) (by simp) (by simp), fit_sub hF (fun c hc => List.mem_of_mem_drop hc) (fun k hk => (by cases hk)) (fun i hi => (by cases hi)) (by rw [List.length_drop]; omega) (by simp) (by simp)⟩
    | false => exact ⟨fit_sub hF (fun c hc => (by cases hc)) (fun k hk => List.mem_of_mem_take hk) (fun i hi => List.mem_of_mem_take hi) (by simp) (by rw [List.length_take]; omega) (by rw [List.length_take]; omega), fit_sub hF (fun c hc => (by cases hc)) (fun k hk => List.mem_of_mem_drop hk) (fun i hi => List.mem_of_mem_drop hi) (by simp) (by rw [List.length_drop]; omega) (by rw [List.length_drop]; omega)⟩
theorem AnyL.held {P : Program} {ops : Array Oper} {Q : Exit → Act → World → Prop} {md : Region.Mode} {S : World → Prop} {zs : List Nat} : ∀ (n : Nat) (listed : Array Bool) (a : Act) (w : World), AnyL P md ops Q S zs n listed a w → wpAnyH P md ops Q (fun _ => True) n listed a w
  | 0, _, _, _, h => h
  | n + 1, _, _, _, h => ⟨h.1, fun i hi => wpOp_mono (fun a' w' h' => ⟨trivial, AnyL.held n _ a' w' h'.2⟩) (h.2 i hi)⟩
theorem cutB_again (s : ByteArray) : cutB (cutB s) = cutB s := by
  have := cutB_size s
  show (if (cutB s).size ≤ 170 then cutB s else (cutB s).extract 0 170) = _
  rw [if_pos this]
theorem few_again (n : Nod) : fewN (fewN n) = fewN n := by
  unfold fewN
  simp only
  congr 1
  · rw [← List.map_take, List.take_take, Nat.min_self, List.map_map]
    refine List.map_congr_left fun c _ => ?_
    show cutC (cutC c) = cutC c
    unfold cutC
    simp only [cutB_again]
  · rw [← List.map_take, List.take_take, Nat.min_self, List.map_map]
    exact List.map_congr_left fun c _ => cutB_again c
  · rw [List.take_take, Nat.min_self]
structure Bx (W : World) (b : Nat) (n : Nod) (p : Pt) : Prop where
  row : Brow W b [.bool n.leaf, .slice p.a1 n.cells.length p.c1, .slice p.a2 n.keys.length p.c2, .slice p.a3 n.kids.length p.c3] 26
  lies : Lies W n p
theorem Bx.below {W W' : World} {b : Nat} {n : Nod} {p : Pt} (h : Bx W b n p) (hb : Below W.heap.size W W') : Bx W' b n p := ⟨h.row.below hb h.row.lt, h.lies.below hb⟩
theorem Bx.new {W : World} {n : Nod} {p : Pt} (h : Lies W n p) : Bx (W.alloc (.cells #[.bool n.leaf, .slice p.a1 n.cells.length p.c1, .slice p.a2 n.keys.length p.c2, .slice p.a3 n.kids.length p.c3] 26)) W.heap.size n p := ⟨Brow.new W _ 26, h.below (below_alloc _ _)⟩
theorem fit_joinR {l r : Nod} {k : ByteArray} (hl : Fit l) (hr : Fit r) (hk : k.size ≤ 140737488355328) (h1 : l.cells.length + r.cells.length ≤ 900) (h2 : l.keys.length + r.keys.length ≤ 900) (h3 : l.kids.length + r.kids.length ≤ 900) : Fit (joinR l r k) := by
  unfold joinR
  split
  · exact fit_join hl hr hk h1 h2 h3
  · exact fit_nil
set_option maxHeartbeats 8000000 in
set_option maxRecDepth 20000 in
theorem parts_walk (n : Nod) (p : Pt) (m : Nod) (q : Pt) (key : ByteArray) (w : World) (hN : Lies w n p) (h0 : In0 n) (hM : Lies w m q) (h1 : In0 m) (hky : key.size ≤ 9223372036854775807) :
    Calls Try.prog 4 #[nv n p, nv m q, .string key] w fun e w' => e = .returned (.bool true) ∧ Below w.heap.size w w' := by
  have HFN := fun (W : World) (hW : Below w.heap.size w W) => few_call hN h0 hW
  have HFM := fun (W : World) (hW : Below w.heap.size w W) => few_call hM h1 hW
  have hfit := few_fit h0
  have hfim := few_fit h1
  have hlen := few_len n
  have hlem := few_len m
  have hff := few_again n
  clear hN h0 hM h1
  generalize fewN n = n' at *
  generalize fewN m = m' at *
  obtain ⟨K, HK⟩ : ∃ K, Is K (min key.size 170) := ⟨_, ⟨rfl⟩⟩
  have k1 : min (key.size : Int) 170 = (K : Int) := by have := HK.eq; omega
  have k2 : (K : Int) ≤ (key.size : Int) := by have := HK.eq; omega
  have k3 : (0 : Int) ≤ (K : Int) := by omega
  have hks : (key.extract 0 K).size ≤ 140737488355328 := by rw [ByteArray.size_extract]; have := HK.eq; omega
  have HF2 := fun (q : Pt) (W : World) (h : Lies W n' q) => few_any n' q W h (fun c hc => ⟨Nat.le_trans (hfit.cells c hc).key (by omega), Nat.le_trans (hfit.cells c hc).val (by omega)⟩) (fun k hk => Nat.le_trans (hfit.keys k hk) (by omega))
  rw [hff] at HF2
  have HSP := fun (q : Pt) (W : World) (h : Lies W n' q) => (split_any n' q W h hfit).mono (fun _ _ hx => hx.ex)
  have HRS := fun (q : Pt) (W : World) (h : Lies W n' q) => (rsplit_any n' q W h hfit).mono (fun _ _ hx => hx.ex)
  have HJN := fun (q q' : Pt) (W : World) (h : Lies W n' q) (h' : Lies W m' q') => (join_any n' m' q q' (key.extract 0 K) W h h' hfit hfim hks (by omega) (by omega) (by omega)).mono (fun _ _ hx => hx.ex)
  have HRJ := fun (q q' : Pt) (W : World) (h : Lies W n' q) (h' : Lies W m' q') => (rjoin_any n' m' q q' (key.extract 0 K) W h h' hfit hfim hks (by omega) (by omega) (by omega)).mono (fun _ _ hx => hx.ex)
  have hfl := (fit_parts hfit).1
  have hfr := (fit_parts hfit).2
  have hfj := fit_joinR hfit hfim hks (by omega) (by omega) (by omega)
  have HSL := fun (q q' : Pt) (W : World) (h : Lies W (spL n') q) (h' : Lies W (spL n') q') => same_yes _ q q' W h h' hfl.l1 hfl.l2 hfl.l3
  have HSR := fun (q q' : Pt) (W : World) (h : Lies W (spR n') q) (h' : Lies W (spR n') q') => same_yes _ q q' W h h' hfr.l1 hfr.l2 hfr.l3
  have HSJ := fun (q q' : Pt) (W : World) (h : Lies W (joinR n' m' (key.extract 0 K)) q) (h' : Lies W (joinR n' m' (key.extract 0 K)) q') => same_yes _ q q' W h h' hfj.l1 hfj.l2 hfj.l3
  have HSN := fun (q q' : Pt) (W : World) (h : Lies W n' q) (h' : Lies W n' q') => same_yes _ q q' W h h' hfit.l1 hfit.l2 hfit.l3
  clear hfit hfim hlen hlem hff hfl hfr hfj HK hks
  generalize joinR n' m' (key.extract 0 K) = JJ at *
  generalize joinE n' m' (key.extract 0 K) = JE at *
  generalize spL n' = LL at *
  generalize spR n' = RR at *
  generalize spK n' = SK at *
  generalize spE n' = SE at *
  obtain ⟨af, ac, ak, ad⟩ := n
  obtain ⟨pa1, pa2, pa3, pa4, pa5, pa6⟩ := p
  obtain ⟨bf, bc, bk, bd⟩ := m
  obtain ⟨pb1, pb2, pb3, pb4, pb5, pb6⟩ := q
  obtain ⟨nf, nc, nk, nd⟩ := n'
  obtain ⟨mf, mc, mk, md⟩ := m'
  obtain ⟨lf, lc, lk, ld⟩ := LL
  obtain ⟨rf, rc, rk, rd⟩ := RR
  obtain ⟨jf, jc, jk, jd⟩ := JJ
  unfold nv at *
  simp only at HFN HFM HF2 HSP HRS HJN HRJ HSL HSR HSJ HSN ⊢
  go_enter Try.func4, Try.ntmps4
  go_upto_region 1 with fail
  have HS0 := (show Hid ((fun W : World => Brow W w.heap.size [.bool af, .slice pa1 ac.length pa2, .slice pa3 ak.length pa4, .slice pa5 ad.length pa6] 26 ∧ Brow W (w.heap.size + 1) [.bool bf, .slice pb1 bc.length pb2, .slice pb3 bk.length pb4, .slice pb5 bd.length pb6] 26) ((w.alloc (.cells #[.bool af, .slice pa1 ac.length pa2, .slice pa3 ak.length pa4, .slice pa5 ad.length pa6] 26)).alloc (.cells #[.bool bf, .slice pb1 bc.length pb2, .slice pb3 bk.length pb4, .slice pb5 bd.length pb6] 26)).drew) from ⟨((Brow.new w [.bool af, .slice pa1 ac.length pa2, .slice pa3 ak.length pa4, .slice pa5 ad.length pa6] 26).alloc _).drew, by
    have := (Brow.new (w.alloc (.cells #[.bool af, .slice pa1 ac.length pa2, .slice pa3 ak.length pa4, .slice pa5 ad.length pa6] 26)) [.bool bf, .slice pb1 bc.length pb2, .slice pb3 bk.length pb4, .slice pb5 bd.length pb6] 26).drew
    rwa [size_alloc1] at this⟩)
  have HB0 := (show Hid (Below w.heap.size w ((w.alloc (.cells #[.bool af, .slice pa1 ac.length pa2, .slice pa3 ak.length pa4, .slice pa5 ad.length pa6] 26)).alloc (.cells #[.bool bf, .slice pb1 bc.length pb2, .slice pb3 bk.length pb4, .slice pb5 bd.length pb6] 26)).drew) from ((below_alloc _ _).alloc (by rw [size_alloc1]; omega) _).drew)
  have hs0 : w.heap.size + 2 ≤ ((w.alloc (.cells #[.bool af, .slice pa1 ac.length pa2, .slice pa3 ak.length pa4, .slice pa5 ad.length pa6] 26)).alloc (.cells #[.bool bf, .slice pb1 bc.length pb2, .slice pb3 bk.length pb4, .slice pb5 bd.length pb6] 26)).drew.heap.size := by show w.heap.size + 2 ≤ ((w.alloc (.cells #[.bool af, .slice pa1 ac.length pa2, .slice pa3 ak.length pa4, .slice pa5 ad.length pa6] 26)).alloc (.cells #[.bool bf, .slice pb1 bc.length pb2, .slice pb3 bk.length pb4, .slice pb5 bd.length pb6] 26)).heap.size; rw [size_alloc1, size_alloc1]; omega
  refine wp_region_held_drew (S := fun _ : World => True) (by kernel_rfl) trivial (fun _ => ?_)
  generalize ((w.alloc (.cells #[.bool af, .slice pa1 ac.length pa2, .slice pa3 ak.length pa4, .slice pa5 ad.length pa6] 26)).alloc (.cells #[.bool bf, .slice pb1 bc.length pb2, .slice pb3 bk.length pb4, .slice pb5 bd.length pb6] 26)).drew = wd at *
  refine heldTake 4 (some 24) (.string key) rfl rfl (by kernel_rfl) (by kernel_rfl) (by kernel_rfl) (fun _ _ _ h => h) (Or.inl ⟨by rfl, fun w hS => ?_⟩) trivial ?_
  · (go_simp)
  simp only [Act.put, List.setIfInBounds_toArray, List.set_cons_zero, List.set_cons_succ]
  refine heldTake 5 (some 25) (.string key) rfl rfl (by kernel_rfl) (by kernel_rfl) (by kernel_rfl) (fun _ _ _ h => h) (Or.inl ⟨by rfl, fun w hS => ?_⟩) trivial ?_
  · (go_simp)
  simp only [Act.put, List.setIfInBounds_toArray, List.set_cons_zero, List.set_cons_succ]
  refine heldTake 6 (some 26) (.int .i64 (key.size : Int)) rfl rfl (by kernel_rfl) (by kernel_rfl) (by kernel_rfl) (fun _ _ _ h => h) (Or.inl ⟨by rfl, fun w hS => ?_⟩) trivial ?_
  · (go_simp)
  simp only [Act.put, List.setIfInBounds_toArray, List.set_cons_zero, List.set_cons_succ]
  refine heldTake 7 (some 27) (.int .i64 (K : Int)) rfl rfl (by kernel_rfl) (by kernel_rfl) (by kernel_rfl) (fun _ _ _ h => h) (Or.inl ⟨by rfl, fun w hS => ?_⟩) trivial ?_
  · (go_simp)
  simp only [Act.put, List.setIfInBounds_toArray, List.set_cons_zero, List.set_cons_succ]
  refine heldTake 8 (some 28) (.string (key.extract 0 K)) rfl rfl (by kernel_rfl) (by kernel_rfl) (by kernel_rfl) (fun _ _ _ h => h) (Or.inl ⟨by rfl, fun w hS => ?_⟩) trivial ?_
  · (go_simp)
  simp only [Act.put, List.setIfInBounds_toArray, List.set_cons_zero, List.set_cons_succ]
  refine AnyL.held (S := (fun W : World => Brow W w.heap.size [.bool af, .slice pa1 ac.length pa2, .slice pa3 ak.length pa4, .slice pa5 ad.length pa6] 26 ∧ Brow W (w.heap.size + 1) [.bool bf, .slice pb1 bc.length pb2, .slice pb3 bk.length pb4, .slice pb5 bd.length pb6] 26)) (zs := [9, 10, 11]) _ _ _ _ ?_
  refine AnyL.take 0 (some 20) (v := (.agg #[.bool af, .slice pa1 ac.length pa2, .slice pa3 ak.length pa4, .slice pa5 ad.length pa6])) rfl rfl (by kernel_rfl) (by kernel_rfl) (by kernel_rfl) (by kernel_rfl) (by kernel_rfl) (fun _ _ _ h => h) (Or.inl ⟨by rfl, fun w hS => ?_⟩) HS0.out ?_
  · (have q0 := hS.1.at 0 _ rfl; have q1 := hS.1.at 1 _ rfl; have q2 := hS.1.at 2 _ rfl; have q3 := hS.1.at 3 _ rfl; go_simp)
  simp only [Act.put, List.setIfInBounds_toArray, List.set_cons_zero, List.set_cons_succ]
  refine AnyL.take 2 (some 22) (v := (.agg #[.bool bf, .slice pb1 bc.length pb2, .slice pb3 bk.length pb4, .slice pb5 bd.length pb6])) rfl rfl (by kernel_rfl) (by kernel_rfl) (by kernel_rfl) (by kernel_rfl) (by kernel_rfl) (fun _ _ _ h => h) (Or.inl ⟨by rfl, fun w hS => ?_⟩) HS0.out ?_
  · (have q0 := hS.2.at 0 _ rfl; have q1 := hS.2.at 1 _ rfl; have q2 := hS.2.at 2 _ rfl; have q3 := hS.2.at 3 _ rfl; go_simp)
  simp only [Act.put, List.setIfInBounds_toArray, List.set_cons_zero, List.set_cons_succ]
  refine AnyL.one 1 (by kernel_rfl) rfl (by rfl) (fun KK hK => ?_)
  go_simp
  go_at_call 9
  refine (HFN wd HB0.out).mono ?_
  rintro e w1 ⟨⟨pn1, pn2, pn3, pn4, pn5, pn6⟩, rfl, hL1, hB1⟩
  have HS1 := (show Hid ((fun W : World => Brow W w.heap.size [.bool af, .slice pa1 ac.length pa2, .slice pa3 ak.length pa4, .slice pa5 ad.length pa6] 26 ∧ Brow W (w.heap.size + 1) [.bool bf, .slice pb1 bc.length pb2, .slice pb3 bk.length pb4, .slice pb5 bd.length pb6] 26) w1) from ⟨HS0.out.1.below hB1 (by omega), HS0.out.2.below hB1 (by omega)⟩)
  have HB1 := (show Hid (Below w.heap.size w w1) from HB0.out.trans (hB1.mono (by omega)))
  have HL1 := (show Hid (LiesF w1 (w.heap.size + 2) ⟨nf, nc, nk, nd⟩ ⟨pn1, pn2, pn3, pn4, pn5, pn6⟩) from hL1.mono hs0)
  have hs1 : w.heap.size + 2 ≤ w1.heap.size := Nat.le_trans hs0 hB1.size
  clear hL1 hB1 HS0 HB0 HFN hs0
  refine hK.out _ _ (fun _ => HS1.out) ?_
  clear hK KK
  try simp only
  refine AnyL.one 3 (by kernel_rfl) rfl (by rfl) (fun KK hK => ?_)
  go_simp
  go_at_call 9
  refine (HFM w1 HB1.out).mono ?_
  rintro e w2 ⟨⟨pm1, pm2, pm3, pm4, pm5, pm6⟩, rfl, hL2, hB2⟩
  have HS2 := (show Hid ((fun W : World => Brow W w.heap.size [.bool af, .slice pa1 ac.length pa2, .slice pa3 ak.length pa4, .slice pa5 ad.length pa6] 26 ∧ Brow W (w.heap.size + 1) [.bool bf, .slice pb1 bc.length pb2, .slice pb3 bk.length pb4, .slice pb5 bd.length pb6] 26) w2) from ⟨HS1.out.1.below hB2 (by omega), HS1.out.2.below hB2 (by omega)⟩)
  have HB2 := (show Hid (Below w.heap.size w w2) from HB1.out.trans (hB2.mono (by omega)))
  have HL2 := (show Hid (LiesF w2 (w.heap.size + 2) ⟨nf, nc, nk, nd⟩ ⟨pn1, pn2, pn3, pn4, pn5, pn6⟩ ∧ LiesF w2 (w.heap.size + 2) ⟨mf, mc, mk, md⟩ ⟨pm1, pm2, pm3, pm4, pm5, pm6⟩) from ⟨HL1.out.below hB2, hL2.mono hs1⟩)
  have hs2 : w.heap.size + 2 ≤ w2.heap.size := Nat.le_trans hs1 hB2.size
  clear hL2 hB2 HS1 HB1 HFM hs1 HL1
  refine hK.out _ _ (fun _ => HS2.out) ?_
  clear hK KK
  try simp only
  have HX9 := (show Hid (Brow (setN w2 w.heap.size (.bool nf) (.slice pn1 nc.length pn2) (.slice pn3 nk.length pn4) (.slice pn5 nd.length pn6)) w.heap.size [.bool nf, .slice pn1 nc.length pn2, .slice pn3 nk.length pn4, .slice pn5 nd.length pn6] 26 ∧ Brow (setN w2 w.heap.size (.bool nf) (.slice pn1 nc.length pn2) (.slice pn3 nk.length pn4) (.slice pn5 nd.length pn6)) (w.heap.size + 1) [.bool bf, .slice pb1 bc.length pb2, .slice pb3 bk.length pb4, .slice pb5 bd.length pb6] 26 ∧ Below w.heap.size w (setN w2 w.heap.size (.bool nf) (.slice pn1 nc.length pn2) (.slice pn3 nk.length pn4) (.slice pn5 nd.length pn6)) ∧ LiesF (setN w2 w.heap.size (.bool nf) (.slice pn1 nc.length pn2) (.slice pn3 nk.length pn4) (.slice pn5 nd.length pn6)) (w.heap.size + 2) ⟨nf, nc, nk, nd⟩ ⟨pn1, pn2, pn3, pn4, pn5, pn6⟩ ∧ LiesF (setN w2 w.heap.size (.bool nf) (.slice pn1 nc.length pn2) (.slice pn3 nk.length pn4) (.slice pn5 nd.length pn6)) (w.heap.size + 2) ⟨mf, mc, mk, md⟩ ⟨pm1, pm2, pm3, pm4, pm5, pm6⟩) from ⟨setN_row HS2.out.1 _ _ _ _, setN_far HS2.out.2 (by omega) _ _ _ _, setN_below HB2.out (by omega) _ _ _ _, setN_lies HL2.out.1 (by omega) _ _ _ _, setN_lies HL2.out.2 (by omega) _ _ _ _⟩)
  have hs9 : w.heap.size + 2 ≤ (setN w2 w.heap.size (.bool nf) (.slice pn1 nc.length pn2) (.slice pn3 nk.length pn4) (.slice pn5 nd.length pn6)).heap.size := by rw [size_setN]; exact hs2
  have y_0 := HS2.out.1.at 0 _ rfl
  have y_1 := HS2.out.1.at 1 _ rfl
  have y_2 := HS2.out.1.at 2 _ rfl
  have y_3 := HS2.out.1.at 3 _ rfl
  have z_0 := HS2.out.1.fz 0
  have z_1 := HS2.out.1.fz 1
  have z_2 := HS2.out.1.fz 2
  have z_3 := HS2.out.1.fz 3
  unfold setN at HX9 hs9
  refine AnyL.one 9 (by kernel_rfl) rfl (by rfl) (fun KK hK => ?_)
  go_simp
  refine hK.out _ _ (fun h => absurd h (by decide)) ?_
  clear hK KK
  try simp only [Act.put, List.setIfInBounds_toArray, List.set_cons_zero, List.set_cons_succ]
  clear y_0 y_1 y_2 y_3 z_0 z_1 z_2 z_3 HS2 HB2 HL2 hs2
  generalize ((((w2.setCell ⟨w.heap.size, 0, none⟩ (.bool nf)).setCell ⟨w.heap.size, 1, none⟩ (.slice pn1 nc.length pn2)).setCell ⟨w.heap.size, 2, none⟩ (.slice pn3 nk.length pn4)).setCell ⟨w.heap.size, 3, none⟩ (.slice pn5 nd.length pn6)) = w9 at *
  have HXA := (show Hid (Brow (setN w9 (w.heap.size + 1) (.bool mf) (.slice pm1 mc.length pm2) (.slice pm3 mk.length pm4) (.slice pm5 md.length pm6)) w.heap.size [.bool nf, .slice pn1 nc.length pn2, .slice pn3 nk.length pn4, .slice pn5 nd.length pn6] 26 ∧ Brow (setN w9 (w.heap.size + 1) (.bool mf) (.slice pm1 mc.length pm2) (.slice pm3 mk.length pm4) (.slice pm5 md.length pm6)) (w.heap.size + 1) [.bool mf, .slice pm1 mc.length pm2, .slice pm3 mk.length pm4, .slice pm5 md.length pm6] 26 ∧ Below w.heap.size w (setN w9 (w.heap.size + 1) (.bool mf) (.slice pm1 mc.length pm2) (.slice pm3 mk.length pm4) (.slice pm5 md.length pm6)) ∧ LiesF (setN w9 (w.heap.size + 1) (.bool mf) (.slice pm1 mc.length pm2) (.slice pm3 mk.length pm4) (.slice pm5 md.length pm6)) (w.heap.size + 2) ⟨nf, nc, nk, nd⟩ ⟨pn1, pn2, pn3, pn4, pn5, pn6⟩ ∧ LiesF (setN w9 (w.heap.size + 1) (.bool mf) (.slice pm1 mc.length pm2) (.slice pm3 mk.length pm4) (.slice pm5 md.length pm6)) (w.heap.size + 2) ⟨mf, mc, mk, md⟩ ⟨pm1, pm2, pm3, pm4, pm5, pm6⟩) from ⟨setN_far HX9.out.1 (by omega) _ _ _ _, setN_row HX9.out.2.1 _ _ _ _, setN_below HX9.out.2.2.1 (by omega) _ _ _ _, setN_lies HX9.out.2.2.2.1 (by omega) _ _ _ _, setN_lies HX9.out.2.2.2.2 (by omega) _ _ _ _⟩)
  have hsA : w.heap.size + 2 ≤ (setN w9 (w.heap.size + 1) (.bool mf) (.slice pm1 mc.length pm2) (.slice pm3 mk.length pm4) (.slice pm5 md.length pm6)).heap.size := by rw [size_setN]; exact hs9
  have y_0 := HX9.out.2.1.at 0 _ rfl
  have y_1 := HX9.out.2.1.at 1 _ rfl
  have y_2 := HX9.out.2.1.at 2 _ rfl
  have y_3 := HX9.out.2.1.at 3 _ rfl
  have z_0 := HX9.out.2.1.fz 0
  have z_1 := HX9.out.2.1.fz 1
  have z_2 := HX9.out.2.1.fz 2
  have z_3 := HX9.out.2.1.fz 3
  unfold setN at HXA hsA
  refine AnyL.one 10 (by kernel_rfl) rfl (by rfl) (fun KK hK => ?_)
  go_simp
  refine hK.out _ _ (fun h => absurd h (by decide)) ?_
  clear hK KK
  try simp only [Act.put, List.setIfInBounds_toArray, List.set_cons_zero, List.set_cons_succ]
  clear y_0 y_1 y_2 y_3 z_0 z_1 z_2 z_3 HX9 hs9
  generalize ((((w9.setCell ⟨w.heap.size + 1, 0, none⟩ (.bool mf)).setCell ⟨w.heap.size + 1, 1, none⟩ (.slice pm1 mc.length pm2)).setCell ⟨w.heap.size + 1, 2, none⟩ (.slice pm3 mk.length pm4)).setCell ⟨w.heap.size + 1, 3, none⟩ (.slice pm5 md.length pm6)) = wA at *
  refine AnyL.one 11 (by kernel_rfl) rfl (by rfl) (fun KK hK => ?_)
  go_simp
  refine hK.out _ _ (fun h => absurd h (by decide)) ?_
  clear hK KK
  try simp only [Act.put, List.setIfInBounds_toArray, List.set_cons_zero, List.set_cons_succ]
  refine AnyL.done (by kernel_rfl) ?_
  generalize key.extract 0 K = kk at *
  have HXn := (show Hid (Bx wA w.heap.size ⟨nf, nc, nk, nd⟩ ⟨pn1, pn2, pn3, pn4, pn5, pn6⟩) from ⟨HXA.out.1, HXA.out.2.2.2.1.lies⟩)
  have HXm := (show Hid (Bx wA (w.heap.size + 1) ⟨mf, mc, mk, md⟩ ⟨pm1, pm2, pm3, pm4, pm5, pm6⟩) from ⟨HXA.out.2.1, HXA.out.2.2.2.2.lies⟩)
  have HB := (show Hid (Below w.heap.size w wA) from HXA.out.2.2.1)
  clear HXA k1 k2 k3 hky hsA
  have qa0 := HXn.out.row.at 0 _ rfl
  have qa1 := HXn.out.row.at 1 _ rfl
  have qa2 := HXn.out.row.at 2 _ rfl
  have qa3 := HXn.out.row.at 3 _ rfl
  go_wp2_with fail
  refine (HF2 ⟨pn1, pn2, pn3, pn4, pn5, pn6⟩ wA HXn.out.lies).mono ?_
  rintro e v1 ⟨⟨pw1, pw2, pw3, pw4, pw5, pw6⟩, rfl, hLw, hB1⟩
  have HXn' := (show Hid (Bx v1 w.heap.size ⟨nf, nc, nk, nd⟩ ⟨pn1, pn2, pn3, pn4, pn5, pn6⟩) from HXn.out.below hB1)
  clear HXn
  have HXn := HXn'
  clear HXn'
  have HXm' := (show Hid (Bx v1 (w.heap.size + 1) ⟨mf, mc, mk, md⟩ ⟨pm1, pm2, pm3, pm4, pm5, pm6⟩) from HXm.out.below hB1)
  clear HXm
  have HXm := HXm'
  clear HXm'
  have HB' := (show Hid (Below w.heap.size w v1) from HB.out.trans (hB1.mono HB.out.size))
  clear HB
  have HB := HB'
  clear HB'
  have HNw := (show Hid (Lies v1 ⟨nf, nc, nk, nd⟩ ⟨pw1, pw2, pw3, pw4, pw5, pw6⟩) from hLw.lies)
  clear hLw HF2
  clear hB1 qa0 qa1 qa2 qa3
  have hA1 : Below v1.heap.size v1 (v1.alloc (.cells #[.bool nf, .slice pw1 nc.length pw2, .slice pw3 nk.length pw4, .slice pw5 nd.length pw6] 26)) := below_alloc _ _
  have HXw := (show Hid (Bx (v1.alloc (.cells #[.bool nf, .slice pw1 nc.length pw2, .slice pw3 nk.length pw4, .slice pw5 nd.length pw6] 26)) v1.heap.size ⟨nf, nc, nk, nd⟩ ⟨pw1, pw2, pw3, pw4, pw5, pw6⟩) from Bx.new HNw.out)
  have HXn' := (show Hid (Bx (v1.alloc (.cells #[.bool nf, .slice pw1 nc.length pw2, .slice pw3 nk.length pw4, .slice pw5 nd.length pw6] 26)) w.heap.size ⟨nf, nc, nk, nd⟩ ⟨pn1, pn2, pn3, pn4, pn5, pn6⟩) from HXn.out.below hA1)
  clear HXn
  have HXn := HXn'
  clear HXn'
  have HXm' := (show Hid (Bx (v1.alloc (.cells #[.bool nf, .slice pw1 nc.length pw2, .slice pw3 nk.length pw4, .slice pw5 nd.length pw6] 26)) (w.heap.size + 1) ⟨mf, mc, mk, md⟩ ⟨pm1, pm2, pm3, pm4, pm5, pm6⟩) from HXm.out.below hA1)
  clear HXm
  have HXm := HXm'
  clear HXm'
  have HB' := (show Hid (Below w.heap.size w (v1.alloc (.cells #[.bool nf, .slice pw1 nc.length pw2, .slice pw3 nk.length pw4, .slice pw5 nd.length pw6] 26))) from HB.out.trans (hA1.mono HB.out.size))
  clear HB
  have HB := HB'
  clear HB'
  clear hA1 HNw
  go_upto_region 3 with fail
  generalize (v1.alloc (.cells #[.bool nf, .slice pw1 nc.length pw2, .slice pw3 nk.length pw4, .slice pw5 nd.length pw6] 26)) = u1 at *
  generalize v1.heap.size = X7 at *
  have qa0 := HXn.out.row.at 0 _ rfl
  have qa1 := HXn.out.row.at 1 _ rfl
  have qa2 := HXn.out.row.at 2 _ rfl
  have qa3 := HXn.out.row.at 3 _ rfl
  go_wp2_with fail
  refine (HSP ⟨pn1, pn2, pn3, pn4, pn5, pn6⟩ u1 HXn.out.lies).mono ?_
  rintro e v2 ⟨⟨pl1, pl2, pl3, pl4, pl5, pl6⟩, ⟨pr1, pr2, pr3, pr4, pr5, pr6⟩, rfl, hLl, hLr, hB2⟩
  have HXn' := (show Hid (Bx v2 w.heap.size ⟨nf, nc, nk, nd⟩ ⟨pn1, pn2, pn3, pn4, pn5, pn6⟩) from HXn.out.below hB2)
  clear HXn
  have HXn := HXn'
  clear HXn'
  have HXm' := (show Hid (Bx v2 (w.heap.size + 1) ⟨mf, mc, mk, md⟩ ⟨pm1, pm2, pm3, pm4, pm5, pm6⟩) from HXm.out.below hB2)
  clear HXm
  have HXm := HXm'
  clear HXm'
  have HXw' := (show Hid (Bx v2 X7 ⟨nf, nc, nk, nd⟩ ⟨pw1, pw2, pw3, pw4, pw5, pw6⟩) from HXw.out.below hB2)
  clear HXw
  have HXw := HXw'
  clear HXw'
  have HB' := (show Hid (Below w.heap.size w v2) from HB.out.trans (hB2.mono HB.out.size))
  clear HB
  have HB := HB'
  clear HB'
  have HNl := (show Hid (Lies v2 ⟨lf, lc, lk, ld⟩ ⟨pl1, pl2, pl3, pl4, pl5, pl6⟩) from hLl.lies)
  have HNr := (show Hid (Lies v2 ⟨rf, rc, rk, rd⟩ ⟨pr1, pr2, pr3, pr4, pr5, pr6⟩) from hLr.lies)
  clear hLl hLr HSP
  clear hB2 qa0 qa1 qa2 qa3
  have hA2 : Below v2.heap.size v2 ((v2.alloc (.cells #[.bool lf, .slice pl1 lc.length pl2, .slice pl3 lk.length pl4, .slice pl5 ld.length pl6] 26)).alloc (.cells #[.bool rf, .slice pr1 rc.length pr2, .slice pr3 rk.length pr4, .slice pr5 rd.length pr6] 26)) := (below_alloc _ _).alloc (by rw [size_alloc1]; omega) _
  have HXl := (show Hid (Bx ((v2.alloc (.cells #[.bool lf, .slice pl1 lc.length pl2, .slice pl3 lk.length pl4, .slice pl5 ld.length pl6] 26)).alloc (.cells #[.bool rf, .slice pr1 rc.length pr2, .slice pr3 rk.length pr4, .slice pr5 rd.length pr6] 26)) v2.heap.size ⟨lf, lc, lk, ld⟩ ⟨pl1, pl2, pl3, pl4, pl5, pl6⟩) from (Bx.new HNl.out).below (below_alloc _ _))
  have HXr := (show Hid (Bx ((v2.alloc (.cells #[.bool lf, .slice pl1 lc.length pl2, .slice pl3 lk.length pl4, .slice pl5 ld.length pl6] 26)).alloc (.cells #[.bool rf, .slice pr1 rc.length pr2, .slice pr3 rk.length pr4, .slice pr5 rd.length pr6] 26)) (v2.heap.size + 1) ⟨rf, rc, rk, rd⟩ ⟨pr1, pr2, pr3, pr4, pr5, pr6⟩) from by
    have h := Bx.new (W := (v2.alloc (.cells #[.bool lf, .slice pl1 lc.length pl2, .slice pl3 lk.length pl4, .slice pl5 ld.length pl6] 26))) (HNr.out.below (below_alloc _ _))
    rw [size_alloc1] at h
    exact h)
  have HXn' := (show Hid (Bx ((v2.alloc (.cells #[.bool lf, .slice pl1 lc.length pl2, .slice pl3 lk.length pl4, .slice pl5 ld.length pl6] 26)).alloc (.cells #[.bool rf, .slice pr1 rc.length pr2, .slice pr3 rk.length pr4, .slice pr5 rd.length pr6] 26)) w.heap.size ⟨nf, nc, nk, nd⟩ ⟨pn1, pn2, pn3, pn4, pn5, pn6⟩) from HXn.out.below hA2)
  clear HXn
  have HXn := HXn'
  clear HXn'
  have HXm' := (show Hid (Bx ((v2.alloc (.cells #[.bool lf, .slice pl1 lc.length pl2, .slice pl3 lk.length pl4, .slice pl5 ld.length pl6] 26)).alloc (.cells #[.bool rf, .slice pr1 rc.length pr2, .slice pr3 rk.length pr4, .slice pr5 rd.length pr6] 26)) (w.heap.size + 1) ⟨mf, mc, mk, md⟩ ⟨pm1, pm2, pm3, pm4, pm5, pm6⟩) from HXm.out.below hA2)
  clear HXm
  have HXm := HXm'
  clear HXm'
  have HXw' := (show Hid (Bx ((v2.alloc (.cells #[.bool lf, .slice pl1 lc.length pl2, .slice pl3 lk.length pl4, .slice pl5 ld.length pl6] 26)).alloc (.cells #[.bool rf, .slice pr1 rc.length pr2, .slice pr3 rk.length pr4, .slice pr5 rd.length pr6] 26)) X7 ⟨nf, nc, nk, nd⟩ ⟨pw1, pw2, pw3, pw4, pw5, pw6⟩) from HXw.out.below hA2)
  clear HXw
  have HXw := HXw'
  clear HXw'
  have HB' := (show Hid (Below w.heap.size w ((v2.alloc (.cells #[.bool lf, .slice pl1 lc.length pl2, .slice pl3 lk.length pl4, .slice pl5 ld.length pl6] 26)).alloc (.cells #[.bool rf, .slice pr1 rc.length pr2, .slice pr3 rk.length pr4, .slice pr5 rd.length pr6] 26))) from HB.out.trans (hA2.mono HB.out.size))
  clear HB
  have HB := HB'
  clear HB'
  clear hA2 HNl HNr
  go_upto_region 4 with fail
  generalize ((v2.alloc (.cells #[.bool lf, .slice pl1 lc.length pl2, .slice pl3 lk.length pl4, .slice pl5 ld.length pl6] 26)).alloc (.cells #[.bool rf, .slice pr1 rc.length pr2, .slice pr3 rk.length pr4, .slice pr5 rd.length pr6] 26)) = u2 at *
  generalize v2.heap.size = X8 at *
  have qa0 := HXn.out.row.at 0 _ rfl
  have qa1 := HXn.out.row.at 1 _ rfl
  have qa2 := HXn.out.row.at 2 _ rfl
  have qa3 := HXn.out.row.at 3 _ rfl
  go_wp2_with fail
  refine (HRS ⟨pn1, pn2, pn3, pn4, pn5, pn6⟩ u2 HXn.out.lies).mono ?_
  rintro e v3 ⟨⟨pk1, pk2, pk3, pk4, pk5, pk6⟩, ⟨pq1, pq2, pq3, pq4, pq5, pq6⟩, rfl, hLl, hLr, hB3⟩
  have HXn' := (show Hid (Bx v3 w.heap.size ⟨nf, nc, nk, nd⟩ ⟨pn1, pn2, pn3, pn4, pn5, pn6⟩) from HXn.out.below hB3)
  clear HXn
  have HXn := HXn'
  clear HXn'
  have HXm' := (show Hid (Bx v3 (w.heap.size + 1) ⟨mf, mc, mk, md⟩ ⟨pm1, pm2, pm3, pm4, pm5, pm6⟩) from HXm.out.below hB3)
  clear HXm
  have HXm := HXm'
  clear HXm'
  have HXw' := (show Hid (Bx v3 X7 ⟨nf, nc, nk, nd⟩ ⟨pw1, pw2, pw3, pw4, pw5, pw6⟩) from HXw.out.below hB3)
  clear HXw
  have HXw := HXw'
  clear HXw'
  have HXl' := (show Hid (Bx v3 X8 ⟨lf, lc, lk, ld⟩ ⟨pl1, pl2, pl3, pl4, pl5, pl6⟩) from HXl.out.below hB3)
  clear HXl
  have HXl := HXl'
  clear HXl'
  have HXr' := (show Hid (Bx v3 (X8 + 1) ⟨rf, rc, rk, rd⟩ ⟨pr1, pr2, pr3, pr4, pr5, pr6⟩) from HXr.out.below hB3)
  clear HXr
  have HXr := HXr'
  clear HXr'
  have HB' := (show Hid (Below w.heap.size w v3) from HB.out.trans (hB3.mono HB.out.size))
  clear HB
  have HB := HB'
  clear HB'
  have HNk := (show Hid (Lies v3 ⟨lf, lc, lk, ld⟩ ⟨pk1, pk2, pk3, pk4, pk5, pk6⟩) from hLl)
  have HNq := (show Hid (Lies v3 ⟨rf, rc, rk, rd⟩ ⟨pq1, pq2, pq3, pq4, pq5, pq6⟩) from hLr)
  clear hLl hLr HRS
  clear hB3 qa0 qa1 qa2 qa3
  have hA3 : Below v3.heap.size v3 ((v3.alloc (.cells #[.bool lf, .slice pk1 lc.length pk2, .slice pk3 lk.length pk4, .slice pk5 ld.length pk6] 26)).alloc (.cells #[.bool rf, .slice pq1 rc.length pq2, .slice pq3 rk.length pq4, .slice pq5 rd.length pq6] 26)) := (below_alloc _ _).alloc (by rw [size_alloc1]; omega) _
  have HXk := (show Hid (Bx ((v3.alloc (.cells #[.bool lf, .slice pk1 lc.length pk2, .slice pk3 lk.length pk4, .slice pk5 ld.length pk6] 26)).alloc (.cells #[.bool rf, .slice pq1 rc.length pq2, .slice pq3 rk.length pq4, .slice pq5 rd.length pq6] 26)) v3.heap.size ⟨lf, lc, lk, ld⟩ ⟨pk1, pk2, pk3, pk4, pk5, pk6⟩) from (Bx.new HNk.out).below (below_alloc _ _))
  have HXq := (show Hid (Bx ((v3.alloc (.cells #[.bool lf, .slice pk1 lc.length pk2, .slice pk3 lk.length pk4, .slice pk5 ld.length pk6] 26)).alloc (.cells #[.bool rf, .slice pq1 rc.length pq2, .slice pq3 rk.length pq4, .slice pq5 rd.length pq6] 26)) (v3.heap.size + 1) ⟨rf, rc, rk, rd⟩ ⟨pq1, pq2, pq3, pq4, pq5, pq6⟩) from by
    have h := Bx.new (W := (v3.alloc (.cells #[.bool lf, .slice pk1 lc.length pk2, .slice pk3 lk.length pk4, .slice pk5 ld.length pk6] 26))) (HNq.out.below (below_alloc _ _))
    rw [size_alloc1] at h
    exact h)
  have HXn' := (show Hid (Bx ((v3.alloc (.cells #[.bool lf, .slice pk1 lc.length pk2, .slice pk3 lk.length pk4, .slice pk5 ld.length pk6] 26)).alloc (.cells #[.bool rf, .slice pq1 rc.length pq2, .slice pq3 rk.length pq4, .slice pq5 rd.length pq6] 26)) w.heap.size ⟨nf, nc, nk, nd⟩ ⟨pn1, pn2, pn3, pn4, pn5, pn6⟩) from HXn.out.below hA3)
  clear HXn
  have HXn := HXn'
  clear HXn'
  have HXm' := (show Hid (Bx ((v3.alloc (.cells #[.bool lf, .slice pk1 lc.length pk2, .slice pk3 lk.length pk4, .slice pk5 ld.length pk6] 26)).alloc (.cells #[.bool rf, .slice pq1 rc.length pq2, .slice pq3 rk.length pq4, .slice pq5 rd.length pq6] 26)) (w.heap.size + 1) ⟨mf, mc, mk, md⟩ ⟨pm1, pm2, pm3, pm4, pm5, pm6⟩) from HXm.out.below hA3)
  clear HXm
  have HXm := HXm'
  clear HXm'
  have HXw' := (show Hid (Bx ((v3.alloc (.cells #[.bool lf, .slice pk1 lc.length pk2, .slice pk3 lk.length pk4, .slice pk5 ld.length pk6] 26)).alloc (.cells #[.bool rf, .slice pq1 rc.length pq2, .slice pq3 rk.length pq4, .slice pq5 rd.length pq6] 26)) X7 ⟨nf, nc, nk, nd⟩ ⟨pw1, pw2, pw3, pw4, pw5, pw6⟩) from HXw.out.below hA3)
  clear HXw
  have HXw := HXw'
  clear HXw'
  have HXl' := (show Hid (Bx ((v3.alloc (.cells #[.bool lf, .slice pk1 lc.length pk2, .slice pk3 lk.length pk4, .slice pk5 ld.length pk6] 26)).alloc (.cells #[.bool rf, .slice pq1 rc.length pq2, .slice pq3 rk.length pq4, .slice pq5 rd.length pq6] 26)) X8 ⟨lf, lc, lk, ld⟩ ⟨pl1, pl2, pl3, pl4, pl5, pl6⟩) from HXl.out.below hA3)
  clear HXl
  have HXl := HXl'
  clear HXl'
  have HXr' := (show Hid (Bx ((v3.alloc (.cells #[.bool lf, .slice pk1 lc.length pk2, .slice pk3 lk.length pk4, .slice pk5 ld.length pk6] 26)).alloc (.cells #[.bool rf, .slice pq1 rc.length pq2, .slice pq3 rk.length pq4, .slice pq5 rd.length pq6] 26)) (X8 + 1) ⟨rf, rc, rk, rd⟩ ⟨pr1, pr2, pr3, pr4, pr5, pr6⟩) from HXr.out.below hA3)
  clear HXr
  have HXr := HXr'
  clear HXr'
  have HB' := (show Hid (Below w.heap.size w ((v3.alloc (.cells #[.bool lf, .slice pk1 lc.length pk2, .slice pk3 lk.length pk4, .slice pk5 ld.length pk6] 26)).alloc (.cells #[.bool rf, .slice pq1 rc.length pq2, .slice pq3 rk.length pq4, .slice pq5 rd.length pq6] 26))) from HB.out.trans (hA3.mono HB.out.size))
  clear HB
  have HB := HB'
  clear HB'
  clear hA3 HNk HNq
  go_upto_region 5 with fail
  generalize ((v3.alloc (.cells #[.bool lf, .slice pk1 lc.length pk2, .slice pk3 lk.length pk4, .slice pk5 ld.length pk6] 26)).alloc (.cells #[.bool rf, .slice pq1 rc.length pq2, .slice pq3 rk.length pq4, .slice pq5 rd.length pq6] 26)) = u3 at *
  generalize v3.heap.size = X12 at *
  have qa0 := HXn.out.row.at 0 _ rfl
  have qa1 := HXn.out.row.at 1 _ rfl
  have qa2 := HXn.out.row.at 2 _ rfl
  have qa3 := HXn.out.row.at 3 _ rfl
  have qb0 := HXm.out.row.at 0 _ rfl
  have qb1 := HXm.out.row.at 1 _ rfl
  have qb2 := HXm.out.row.at 2 _ rfl
  have qb3 := HXm.out.row.at 3 _ rfl
  go_wp2_with fail
  refine (HJN ⟨pn1, pn2, pn3, pn4, pn5, pn6⟩ ⟨pm1, pm2, pm3, pm4, pm5, pm6⟩ u3 HXn.out.lies HXm.out.lies).mono ?_
  rintro e v4 ⟨⟨pj1, pj2, pj3, pj4, pj5, pj6⟩, rfl, hLj, hB4⟩
  have HXn' := (show Hid (Bx v4 w.heap.size ⟨nf, nc, nk, nd⟩ ⟨pn1, pn2, pn3, pn4, pn5, pn6⟩) from HXn.out.below hB4)
  clear HXn
  have HXn := HXn'
  clear HXn'
  have HXm' := (show Hid (Bx v4 (w.heap.size + 1) ⟨mf, mc, mk, md⟩ ⟨pm1, pm2, pm3, pm4, pm5, pm6⟩) from HXm.out.below hB4)
  clear HXm
  have HXm := HXm'
  clear HXm'
  have HXw' := (show Hid (Bx v4 X7 ⟨nf, nc, nk, nd⟩ ⟨pw1, pw2, pw3, pw4, pw5, pw6⟩) from HXw.out.below hB4)
  clear HXw
  have HXw := HXw'
  clear HXw'
  have HXl' := (show Hid (Bx v4 X8 ⟨lf, lc, lk, ld⟩ ⟨pl1, pl2, pl3, pl4, pl5, pl6⟩) from HXl.out.below hB4)
  clear HXl
  have HXl := HXl'
  clear HXl'
  have HXr' := (show Hid (Bx v4 (X8 + 1) ⟨rf, rc, rk, rd⟩ ⟨pr1, pr2, pr3, pr4, pr5, pr6⟩) from HXr.out.below hB4)
  clear HXr
  have HXr := HXr'
  clear HXr'
  have HXk' := (show Hid (Bx v4 X12 ⟨lf, lc, lk, ld⟩ ⟨pk1, pk2, pk3, pk4, pk5, pk6⟩) from HXk.out.below hB4)
  clear HXk
  have HXk := HXk'
  clear HXk'
  have HXq' := (show Hid (Bx v4 (X12 + 1) ⟨rf, rc, rk, rd⟩ ⟨pq1, pq2, pq3, pq4, pq5, pq6⟩) from HXq.out.below hB4)
  clear HXq
  have HXq := HXq'
  clear HXq'
  have HB' := (show Hid (Below w.heap.size w v4) from HB.out.trans (hB4.mono HB.out.size))
  clear HB
  have HB := HB'
  clear HB'
  have HNj := (show Hid (Lies v4 ⟨jf, jc, jk, jd⟩ ⟨pj1, pj2, pj3, pj4, pj5, pj6⟩) from hLj.lies)
  clear hLj HJN
  clear hB4 qa0 qa1 qa2 qa3 qb0 qb1 qb2 qb3
  have hA4 : Below v4.heap.size v4 (v4.alloc (.cells #[.bool jf, .slice pj1 jc.length pj2, .slice pj3 jk.length pj4, .slice pj5 jd.length pj6] 26)) := below_alloc _ _
  have HXj := (show Hid (Bx (v4.alloc (.cells #[.bool jf, .slice pj1 jc.length pj2, .slice pj3 jk.length pj4, .slice pj5 jd.length pj6] 26)) v4.heap.size ⟨jf, jc, jk, jd⟩ ⟨pj1, pj2, pj3, pj4, pj5, pj6⟩) from Bx.new HNj.out)
  have HXn' := (show Hid (Bx (v4.alloc (.cells #[.bool jf, .slice pj1 jc.length pj2, .slice pj3 jk.length pj4, .slice pj5 jd.length pj6] 26)) w.heap.size ⟨nf, nc, nk, nd⟩ ⟨pn1, pn2, pn3, pn4, pn5, pn6⟩) from HXn.out.below hA4)
  clear HXn
  have HXn := HXn'
  clear HXn'
  have HXm' := (show Hid (Bx (v4.alloc (.cells #[.bool jf, .slice pj1 jc.length pj2, .slice pj3 jk.length pj4, .slice pj5 jd.length pj6] 26)) (w.heap.size + 1) ⟨mf, mc, mk, md⟩ ⟨pm1, pm2, pm3, pm4, pm5, pm6⟩) from HXm.out.below hA4)
  clear HXm
  have HXm := HXm'
  clear HXm'
  have HXw' := (show Hid (Bx (v4.alloc (.cells #[.bool jf, .slice pj1 jc.length pj2, .slice pj3 jk.length pj4, .slice pj5 jd.length pj6] 26)) X7 ⟨nf, nc, nk, nd⟩ ⟨pw1, pw2, pw3, pw4, pw5, pw6⟩) from HXw.out.below hA4)
  clear HXw
  have HXw := HXw'
  clear HXw'
  have HXl' := (show Hid (Bx (v4.alloc (.cells #[.bool jf, .slice pj1 jc.length pj2, .slice pj3 jk.length pj4, .slice pj5 jd.length pj6] 26)) X8 ⟨lf, lc, lk, ld⟩ ⟨pl1, pl2, pl3, pl4, pl5, pl6⟩) from HXl.out.below hA4)
  clear HXl
  have HXl := HXl'
  clear HXl'
  have HXr' := (show Hid (Bx (v4.alloc (.cells #[.bool jf, .slice pj1 jc.length pj2, .slice pj3 jk.length pj4, .slice pj5 jd.length pj6] 26)) (X8 + 1) ⟨rf, rc, rk, rd⟩ ⟨pr1, pr2, pr3, pr4, pr5, pr6⟩) from HXr.out.below hA4)
  clear HXr
  have HXr := HXr'
  clear HXr'
  have HXk' := (show Hid (Bx (v4.alloc (.cells #[.bool jf, .slice pj1 jc.length pj2, .slice pj3 jk.length pj4, .slice pj5 jd.length pj6] 26)) X12 ⟨lf, lc, lk, ld⟩ ⟨pk1, pk2, pk3, pk4, pk5, pk6⟩) from HXk.out.below hA4)
  clear HXk
  have HXk := HXk'
  clear HXk'
  have HXq' := (show Hid (Bx (v4.alloc (.cells #[.bool jf, .slice pj1 jc.length pj2, .slice pj3 jk.length pj4, .slice pj5 jd.length pj6] 26)) (X12 + 1) ⟨rf, rc, rk, rd⟩ ⟨pq1, pq2, pq3, pq4, pq5, pq6⟩) from HXq.out.below hA4)
  clear HXq
  have HXq := HXq'
  clear HXq'
  have HB' := (show Hid (Below w.heap.size w (v4.alloc (.cells #[.bool jf, .slice pj1 jc.length pj2, .slice pj3 jk.length pj4, .slice pj5 jd.length pj6] 26))) from HB.out.trans (hA4.mono HB.out.size))
  clear HB
  have HB := HB'
  clear HB'
  clear hA4 HNj
  go_upto_region 6 with fail
  generalize (v4.alloc (.cells #[.bool jf, .slice pj1 jc.length pj2, .slice pj3 jk.length pj4, .slice pj5 jd.length pj6] 26)) = u4 at *
  generalize v4.heap.size = X16 at *
  have qa0 := HXn.out.row.at 0 _ rfl
  have qa1 := HXn.out.row.at 1 _ rfl
  have qa2 := HXn.out.row.at 2 _ rfl
  have qa3 := HXn.out.row.at 3 _ rfl
  have qb0 := HXm.out.row.at 0 _ rfl
  have qb1 := HXm.out.row.at 1 _ rfl
  have qb2 := HXm.out.row.at 2 _ rfl
  have qb3 := HXm.out.row.at 3 _ rfl
  go_wp2_with fail
  refine (HRJ ⟨pn1, pn2, pn3, pn4, pn5, pn6⟩ ⟨pm1, pm2, pm3, pm4, pm5, pm6⟩ u4 HXn.out.lies HXm.out.lies).mono ?_
  rintro e v5 ⟨⟨pi1, pi2, pi3, pi4, pi5, pi6⟩, rfl, hLj, hB5⟩
  have HXn' := (show Hid (Bx v5 w.heap.size ⟨nf, nc, nk, nd⟩ ⟨pn1, pn2, pn3, pn4, pn5, pn6⟩) from HXn.out.below hB5)
  clear HXn
  have HXn := HXn'
  clear HXn'
  have HXm' := (show Hid (Bx v5 (w.heap.size + 1) ⟨mf, mc, mk, md⟩ ⟨pm1, pm2, pm3, pm4, pm5, pm6⟩) from HXm.out.below hB5)
  clear HXm
  have HXm := HXm'
  clear HXm'
  have HXw' := (show Hid (Bx v5 X7 ⟨nf, nc, nk, nd⟩ ⟨pw1, pw2, pw3, pw4, pw5, pw6⟩) from HXw.out.below hB5)
  clear HXw
  have HXw := HXw'
  clear HXw'
  have HXl' := (show Hid (Bx v5 X8 ⟨lf, lc, lk, ld⟩ ⟨pl1, pl2, pl3, pl4, pl5, pl6⟩) from HXl.out.below hB5)
  clear HXl
  have HXl := HXl'
  clear HXl'
  have HXr' := (show Hid (Bx v5 (X8 + 1) ⟨rf, rc, rk, rd⟩ ⟨pr1, pr2, pr3, pr4, pr5, pr6⟩) from HXr.out.below hB5)
  clear HXr
  have HXr := HXr'
  clear HXr'
  have HXk' := (show Hid (Bx v5 X12 ⟨lf, lc, lk, ld⟩ ⟨pk1, pk2, pk3, pk4, pk5, pk6⟩) from HXk.out.below hB5)
  clear HXk
  have HXk := HXk'
  clear HXk'
  have HXq' := (show Hid (Bx v5 (X12 + 1) ⟨rf, rc, rk, rd⟩ ⟨pq1, pq2, pq3, pq4, pq5, pq6⟩) from HXq.out.below hB5)
  clear HXq
  have HXq := HXq'
  clear HXq'
  have HXj' := (show Hid (Bx v5 X16 ⟨jf, jc, jk, jd⟩ ⟨pj1, pj2, pj3, pj4, pj5, pj6⟩) from HXj.out.below hB5)
  clear HXj
  have HXj := HXj'
  clear HXj'
  have HB' := (show Hid (Below w.heap.size w v5) from HB.out.trans (hB5.mono HB.out.size))
  clear HB
  have HB := HB'
  clear HB'
  have HNi := (show Hid (Lies v5 ⟨jf, jc, jk, jd⟩ ⟨pi1, pi2, pi3, pi4, pi5, pi6⟩) from hLj.lies)
  clear hLj HRJ
  clear hB5 qa0 qa1 qa2 qa3 qb0 qb1 qb2 qb3
  have hA5 : Below v5.heap.size v5 (v5.alloc (.cells #[.bool jf, .slice pi1 jc.length pi2, .slice pi3 jk.length pi4, .slice pi5 jd.length pi6] 26)) := below_alloc _ _
  have HXi := (show Hid (Bx (v5.alloc (.cells #[.bool jf, .slice pi1 jc.length pi2, .slice pi3 jk.length pi4, .slice pi5 jd.length pi6] 26)) v5.heap.size ⟨jf, jc, jk, jd⟩ ⟨pi1, pi2, pi3, pi4, pi5, pi6⟩) from Bx.new HNi.out)
  have HXn' := (show Hid (Bx (v5.alloc (.cells #[.bool jf, .slice pi1 jc.length pi2, .slice pi3 jk.length pi4, .slice pi5 jd.length pi6] 26)) w.heap.size ⟨nf, nc, nk, nd⟩ ⟨pn1, pn2, pn3, pn4, pn5, pn6⟩) from HXn.out.below hA5)
  clear HXn
  have HXn := HXn'
  clear HXn'
  have HXm' := (show Hid (Bx (v5.alloc (.cells #[.bool jf, .slice pi1 jc.length pi2, .slice pi3 jk.length pi4, .slice pi5 jd.length pi6] 26)) (w.heap.size + 1) ⟨mf, mc, mk, md⟩ ⟨pm1, pm2, pm3, pm4, pm5, pm6⟩) from HXm.out.below hA5)
  clear HXm
  have HXm := HXm'
  clear HXm'
  have HXw' := (show Hid (Bx (v5.alloc (.cells #[.bool jf, .slice pi1 jc.length pi2, .slice pi3 jk.length pi4, .slice pi5 jd.length pi6] 26)) X7 ⟨nf, nc, nk, nd⟩ ⟨pw1, pw2, pw3, pw4, pw5, pw6⟩) from HXw.out.below hA5)
  clear HXw
  have HXw := HXw'
  clear HXw'
  have HXl' := (show Hid (Bx (v5.alloc (.cells #[.bool jf, .slice pi1 jc.length pi2, .slice pi3 jk.length pi4, .slice pi5 jd.length pi6] 26)) X8 ⟨lf, lc, lk, ld⟩ ⟨pl1, pl2, pl3, pl4, pl5, pl6⟩) from HXl.out.below hA5)
  clear HXl
  have HXl := HXl'
  clear HXl'
  have HXr' := (show Hid (Bx (v5.alloc (.cells #[.bool jf, .slice pi1 jc.length pi2, .slice pi3 jk.length pi4, .slice pi5 jd.length pi6] 26)) (X8 + 1) ⟨rf, rc, rk, rd⟩ ⟨pr1, pr2, pr3, pr4, pr5, pr6⟩) from HXr.out.below hA5)
  clear HXr
  have HXr := HXr'
  clear HXr'
  have HXk' := (show Hid (Bx (v5.alloc (.cells #[.bool jf, .slice pi1 jc.length pi2, .slice pi3 jk.length pi4, .slice pi5 jd.length pi6] 26)) X12 ⟨lf, lc, lk, ld⟩ ⟨pk1, pk2, pk3, pk4, pk5, pk6⟩) from HXk.out.below hA5)
  clear HXk
  have HXk := HXk'
  clear HXk'
  have HXq' := (show Hid (Bx (v5.alloc (.cells #[.bool jf, .slice pi1 jc.length pi2, .slice pi3 jk.length pi4, .slice pi5 jd.length pi6] 26)) (X12 + 1) ⟨rf, rc, rk, rd⟩ ⟨pq1, pq2, pq3, pq4, pq5, pq6⟩) from HXq.out.below hA5)
  clear HXq
  have HXq := HXq'
  clear HXq'
  have HXj' := (show Hid (Bx (v5.alloc (.cells #[.bool jf, .slice pi1 jc.length pi2, .slice pi3 jk.length pi4, .slice pi5 jd.length pi6] 26)) X16 ⟨jf, jc, jk, jd⟩ ⟨pj1, pj2, pj3, pj4, pj5, pj6⟩) from HXj.out.below hA5)
  clear HXj
  have HXj := HXj'
  clear HXj'
  have HB' := (show Hid (Below w.heap.size w (v5.alloc (.cells #[.bool jf, .slice pi1 jc.length pi2, .slice pi3 jk.length pi4, .slice pi5 jd.length pi6] 26))) from HB.out.trans (hA5.mono HB.out.size))
  clear HB
  have HB := HB'
  clear HB'
  clear hA5 HNi
  go_upto_region 7 with fail
  generalize (v5.alloc (.cells #[.bool jf, .slice pi1 jc.length pi2, .slice pi3 jk.length pi4, .slice pi5 jd.length pi6] 26)) = u5 at *
  generalize v5.heap.size = X18 at *
  have qa0 := HXl.out.row.at 0 _ rfl
  have qa1 := HXl.out.row.at 1 _ rfl
  have qa2 := HXl.out.row.at 2 _ rfl
  have qa3 := HXl.out.row.at 3 _ rfl
  have qb0 := HXk.out.row.at 0 _ rfl
  have qb1 := HXk.out.row.at 1 _ rfl
  have qb2 := HXk.out.row.at 2 _ rfl
  have qb3 := HXk.out.row.at 3 _ rfl
  go_wp2_with fail
  refine (HSL ⟨pl1, pl2, pl3, pl4, pl5, pl6⟩ ⟨pk1, pk2, pk3, pk4, pk5, pk6⟩ u5 HXl.out.lies HXk.out.lies).mono ?_
  rintro e v6 ⟨rfl, hB6⟩
  have HXn' := (show Hid (Bx v6 w.heap.size ⟨nf, nc, nk, nd⟩ ⟨pn1, pn2, pn3, pn4, pn5, pn6⟩) from HXn.out.below hB6)
  clear HXn
  have HXn := HXn'
  clear HXn'
  have HXm' := (show Hid (Bx v6 (w.heap.size + 1) ⟨mf, mc, mk, md⟩ ⟨pm1, pm2, pm3, pm4, pm5, pm6⟩) from HXm.out.below hB6)
  clear HXm
  have HXm := HXm'
  clear HXm'
  have HXw' := (show Hid (Bx v6 X7 ⟨nf, nc, nk, nd⟩ ⟨pw1, pw2, pw3, pw4, pw5, pw6⟩) from HXw.out.below hB6)
  clear HXw
  have HXw := HXw'
  clear HXw'
  have HXl' := (show Hid (Bx v6 X8 ⟨lf, lc, lk, ld⟩ ⟨pl1, pl2, pl3, pl4, pl5, pl6⟩) from HXl.out.below hB6)
  clear HXl
  have HXl := HXl'
  clear HXl'
  have HXr' := (show Hid (Bx v6 (X8 + 1) ⟨rf, rc, rk, rd⟩ ⟨pr1, pr2, pr3, pr4, pr5, pr6⟩) from HXr.out.below hB6)
  clear HXr
  have HXr := HXr'
  clear HXr'
  have HXk' := (show Hid (Bx v6 X12 ⟨lf, lc, lk, ld⟩ ⟨pk1, pk2, pk3, pk4, pk5, pk6⟩) from HXk.out.below hB6)
  clear HXk
  have HXk := HXk'
  clear HXk'
  have HXq' := (show Hid (Bx v6 (X12 + 1) ⟨rf, rc, rk, rd⟩ ⟨pq1, pq2, pq3, pq4, pq5, pq6⟩) from HXq.out.below hB6)
  clear HXq
  have HXq := HXq'
  clear HXq'
  have HXj' := (show Hid (Bx v6 X16 ⟨jf, jc, jk, jd⟩ ⟨pj1, pj2, pj3, pj4, pj5, pj6⟩) from HXj.out.below hB6)
  clear HXj
  have HXj := HXj'
  clear HXj'
  have HXi' := (show Hid (Bx v6 X18 ⟨jf, jc, jk, jd⟩ ⟨pi1, pi2, pi3, pi4, pi5, pi6⟩) from HXi.out.below hB6)
  clear HXi
  have HXi := HXi'
  clear HXi'
  have HB' := (show Hid (Below w.heap.size w v6) from HB.out.trans (hB6.mono HB.out.size))
  clear HB
  have HB := HB'
  clear HB'
  clear hB6 qa0 qa1 qa2 qa3 qb0 qb1 qb2 qb3 HSL
  have qa0 := HXr.out.row.at 0 _ rfl
  have qa1 := HXr.out.row.at 1 _ rfl
  have qa2 := HXr.out.row.at 2 _ rfl
  have qa3 := HXr.out.row.at 3 _ rfl
  have qb0 := HXq.out.row.at 0 _ rfl
  have qb1 := HXq.out.row.at 1 _ rfl
  have qb2 := HXq.out.row.at 2 _ rfl
  have qb3 := HXq.out.row.at 3 _ rfl
  go_wp2_with fail
  refine (HSR ⟨pr1, pr2, pr3, pr4, pr5, pr6⟩ ⟨pq1, pq2, pq3, pq4, pq5, pq6⟩ v6 HXr.out.lies HXq.out.lies).mono ?_
  rintro e v7 ⟨rfl, hB7⟩
  have HXn' := (show Hid (Bx v7 w.heap.size ⟨nf, nc, nk, nd⟩ ⟨pn1, pn2, pn3, pn4, pn5, pn6⟩) from HXn.out.below hB7)
  clear HXn
  have HXn := HXn'
  clear HXn'
  have HXm' := (show Hid (Bx v7 (w.heap.size + 1) ⟨mf, mc, mk, md⟩ ⟨pm1, pm2, pm3, pm4, pm5, pm6⟩) from HXm.out.below hB7)
  clear HXm
  have HXm := HXm'
  clear HXm'
  have HXw' := (show Hid (Bx v7 X7 ⟨nf, nc, nk, nd⟩ ⟨pw1, pw2, pw3, pw4, pw5, pw6⟩) from HXw.out.below hB7)
  clear HXw
  have HXw := HXw'
  clear HXw'
  have HXl' := (show Hid (Bx v7 X8 ⟨lf, lc, lk, ld⟩ ⟨pl1, pl2, pl3, pl4, pl5, pl6⟩) from HXl.out.below hB7)
  clear HXl
  have HXl := HXl'
  clear HXl'
  have HXr' := (show Hid (Bx v7 (X8 + 1) ⟨rf, rc, rk, rd⟩ ⟨pr1, pr2, pr3, pr4, pr5, pr6⟩) from HXr.out.below hB7)
  clear HXr
  have HXr := HXr'
  clear HXr'
  have HXk' := (show Hid (Bx v7 X12 ⟨lf, lc, lk, ld⟩ ⟨pk1, pk2, pk3, pk4, pk5, pk6⟩) from HXk.out.below hB7)
  clear HXk
  have HXk := HXk'
  clear HXk'
  have HXq' := (show Hid (Bx v7 (X12 + 1) ⟨rf, rc, rk, rd⟩ ⟨pq1, pq2, pq3, pq4, pq5, pq6⟩) from HXq.out.below hB7)
  clear HXq
  have HXq := HXq'
  clear HXq'
  have HXj' := (show Hid (Bx v7 X16 ⟨jf, jc, jk, jd⟩ ⟨pj1, pj2, pj3, pj4, pj5, pj6⟩) from HXj.out.below hB7)
  clear HXj
  have HXj := HXj'
  clear HXj'
  have HXi' := (show Hid (Bx v7 X18 ⟨jf, jc, jk, jd⟩ ⟨pi1, pi2, pi3, pi4, pi5, pi6⟩) from HXi.out.below hB7)
  clear HXi
  have HXi := HXi'
  clear HXi'
  have HB' := (show Hid (Below w.heap.size w v7) from HB.out.trans (hB7.mono HB.out.size))
  clear HB
  have HB := HB'
  clear HB'
  clear hB7 qa0 qa1 qa2 qa3 qb0 qb1 qb2 qb3 HSR
  have qa0 := HXj.out.row.at 0 _ rfl
  have qa1 := HXj.out.row.at 1 _ rfl
  have qa2 := HXj.out.row.at 2 _ rfl
  have qa3 := HXj.out.row.at 3 _ rfl
  have qb0 := HXi.out.row.at 0 _ rfl
  have qb1 := HXi.out.row.at 1 _ rfl
  have qb2 := HXi.out.row.at 2 _ rfl
  have qb3 := HXi.out.row.at 3 _ rfl
  go_wp2_with fail
  refine (HSJ ⟨pj1, pj2, pj3, pj4, pj5, pj6⟩ ⟨pi1, pi2, pi3, pi4, pi5, pi6⟩ v7 HXj.out.lies HXi.out.lies).mono ?_
  rintro e v8 ⟨rfl, hB8⟩
  have HXn' := (show Hid (Bx v8 w.heap.size ⟨nf, nc, nk, nd⟩ ⟨pn1, pn2, pn3, pn4, pn5, pn6⟩) from HXn.out.below hB8)
  clear HXn
  have HXn := HXn'
  clear HXn'
  have HXm' := (show Hid (Bx v8 (w.heap.size + 1) ⟨mf, mc, mk, md⟩ ⟨pm1, pm2, pm3, pm4, pm5, pm6⟩) from HXm.out.below hB8)
  clear HXm
  have HXm := HXm'
  clear HXm'
  have HXw' := (show Hid (Bx v8 X7 ⟨nf, nc, nk, nd⟩ ⟨pw1, pw2, pw3, pw4, pw5, pw6⟩) from HXw.out.below hB8)
  clear HXw
  have HXw := HXw'
  clear HXw'
  have HXl' := (show Hid (Bx v8 X8 ⟨lf, lc, lk, ld⟩ ⟨pl1, pl2, pl3, pl4, pl5, pl6⟩) from HXl.out.below hB8)
  clear HXl
  have HXl := HXl'
  clear HXl'
  have HXr' := (show Hid (Bx v8 (X8 + 1) ⟨rf, rc, rk, rd⟩ ⟨pr1, pr2, pr3, pr4, pr5, pr6⟩) from HXr.out.below hB8)
  clear HXr
  have HXr := HXr'
  clear HXr'
  have HXk' := (show Hid (Bx v8 X12 ⟨lf, lc, lk, ld⟩ ⟨pk1, pk2, pk3, pk4, pk5, pk6⟩) from HXk.out.below hB8)
  clear HXk
  have HXk := HXk'
  clear HXk'
  have HXq' := (show Hid (Bx v8 (X12 + 1) ⟨rf, rc, rk, rd⟩ ⟨pq1, pq2, pq3, pq4, pq5, pq6⟩) from HXq.out.below hB8)
  clear HXq
  have HXq := HXq'
  clear HXq'
  have HXj' := (show Hid (Bx v8 X16 ⟨jf, jc, jk, jd⟩ ⟨pj1, pj2, pj3, pj4, pj5, pj6⟩) from HXj.out.below hB8)
  clear HXj
  have HXj := HXj'
  clear HXj'
  have HXi' := (show Hid (Bx v8 X18 ⟨jf, jc, jk, jd⟩ ⟨pi1, pi2, pi3, pi4, pi5, pi6⟩) from HXi.out.below hB8)
  clear HXi
  have HXi := HXi'
  clear HXi'
  have HB' := (show Hid (Below w.heap.size w v8) from HB.out.trans (hB8.mono HB.out.size))
  clear HB
  have HB := HB'
  clear HB'
  clear hB8 qa0 qa1 qa2 qa3 qb0 qb1 qb2 qb3 HSJ
  have qa0 := HXn.out.row.at 0 _ rfl
  have qa1 := HXn.out.row.at 1 _ rfl
  have qa2 := HXn.out.row.at 2 _ rfl
  have qa3 := HXn.out.row.at 3 _ rfl
  have qb0 := HXw.out.row.at 0 _ rfl
  have qb1 := HXw.out.row.at 1 _ rfl
  have qb2 := HXw.out.row.at 2 _ rfl
  have qb3 := HXw.out.row.at 3 _ rfl
  go_wp2_with fail
  refine (HSN ⟨pn1, pn2, pn3, pn4, pn5, pn6⟩ ⟨pw1, pw2, pw3, pw4, pw5, pw6⟩ v8 HXn.out.lies HXw.out.lies).mono ?_
  rintro e v9 ⟨rfl, hB9⟩
  have HXn' := (show Hid (Bx v9 w.heap.size ⟨nf, nc, nk, nd⟩ ⟨pn1, pn2, pn3, pn4, pn5, pn6⟩) from HXn.out.below hB9)
  clear HXn
  have HXn := HXn'
  clear HXn'
  have HXm' := (show Hid (Bx v9 (w.heap.size + 1) ⟨mf, mc, mk, md⟩ ⟨pm1, pm2, pm3, pm4, pm5, pm6⟩) from HXm.out.below hB9)
  clear HXm
  have HXm := HXm'
  clear HXm'
  have HXw' := (show Hid (Bx v9 X7 ⟨nf, nc, nk, nd⟩ ⟨pw1, pw2, pw3, pw4, pw5, pw6⟩) from HXw.out.below hB9)
  clear HXw
  have HXw := HXw'
  clear HXw'
  have HXl' := (show Hid (Bx v9 X8 ⟨lf, lc, lk, ld⟩ ⟨pl1, pl2, pl3, pl4, pl5, pl6⟩) from HXl.out.below hB9)
  clear HXl
  have HXl := HXl'
  clear HXl'
  have HXr' := (show Hid (Bx v9 (X8 + 1) ⟨rf, rc, rk, rd⟩ ⟨pr1, pr2, pr3, pr4, pr5, pr6⟩) from HXr.out.below hB9)
  clear HXr
  have HXr := HXr'
  clear HXr'
  have HXk' := (show Hid (Bx v9 X12 ⟨lf, lc, lk, ld⟩ ⟨pk1, pk2, pk3, pk4, pk5, pk6⟩) from HXk.out.below hB9)
  clear HXk
  have HXk := HXk'
  clear HXk'
  have HXq' := (show Hid (Bx v9 (X12 + 1) ⟨rf, rc, rk, rd⟩ ⟨pq1, pq2, pq3, pq4, pq5, pq6⟩) from HXq.out.below hB9)
  clear HXq
  have HXq := HXq'
  clear HXq'
  have HXj' := (show Hid (Bx v9 X16 ⟨jf, jc, jk, jd⟩ ⟨pj1, pj2, pj3, pj4, pj5, pj6⟩) from HXj.out.below hB9)
  clear HXj
  have HXj := HXj'
  clear HXj'
  have HXi' := (show Hid (Bx v9 X18 ⟨jf, jc, jk, jd⟩ ⟨pi1, pi2, pi3, pi4, pi5, pi6⟩) from HXi.out.below hB9)
  clear HXi
  have HXi := HXi'
  clear HXi'
  have HB' := (show Hid (Below w.heap.size w v9) from HB.out.trans (hB9.mono HB.out.size))
  clear HB
  have HB := HB'
  clear HB'
  clear hB9 qa0 qa1 qa2 qa3 qb0 qb1 qb2 qb3 HSN
  go_wp2_with fail
  refine (works_any v9).mono ?_
  rintro e wz ⟨rfl, hBz⟩
  have HBz : Hid (Below w.heap.size w wz) := HB.out.trans (hBz.mono HB.out.size)
  clear hBz
  go_wp2
  go_ret
  exact ⟨rfl, HBz.out⟩
end Go.Proofs.Ytoinaplmgffkpaa
