/- Proved: the walk of the law BlakeAlone answers true for any two slices of bytes. Condition: the two tables. -/
import Derived.Test.YtaeeibllmpaebabDoorSame
namespace Go.Proofs.YtaeeibllmpaebabDoor
open Go.RowKit
/- 'append(x, y...)', x a slice of the call's own -/
theorem append_more {ops : Array Oper} {rest : List Oper} {o : Oper} {a : Act} {Q : Exit → Act → World → Prop} (hgd : o.guard = none) (s x : Operand)
    (ho : o.op = .call { callee := .builtin .append, args := #[s, x], argTypes := #[22, 22] }) (W : World) (N : Nat) (hN : N ≤ W.heap.size) (v : Value) (n : Nat) (bs : List Nat) (hs : a.eval s = v) (own : W.ownsRow N 5 1 v n (bs.map V8)) (h8 : ∀ x ∈ bs, x < 256)
    (ad : Addr) (m c : Nat) (ds : List Nat) (hx : a.eval x = .slice (some ad) m c) (hB : Bytes W (some ad) m ds) (hm : n + m ≤ 40000) (hnn : v ≠ .slice none 0 0)
    (h : ∀ g' cap' w', Mine w' N (some ⟨g', 0, none⟩) (n + m) cap' (bs ++ ds) → Below N W w' → wpList Tryd.prog ops Q rest (a.put o.dst (.slice (some ⟨g', 0, none⟩) (n + m) cap')) w') : wpList Tryd.prog ops Q (o :: rest) a W := by
  obtain ⟨hl, hlt, hmax, hc⟩ := hB
  refine wpList_append_own_at W hgd s x 22 ho N 5 Tryd.t5 (.int .u8 0) 1 1 Tryd.underlying22 info5 rfl rfl rfl rfl (by omega) _ n (bs.map V8) hs own ad m c (ds.map V8) hx (by simpa using hl) (fun j u hj => ?_) (fun u hu => ?_) (by unfold maxLen; omega) (by omega) hN ?_
  · have hj' : j < m := by
      have := (List.getElem?_eq_some_iff.1 hj).1
      simp at this; omega
    rcases hc with h0 | ⟨b, off, ha, hc⟩
    · omega
    cases ha
    rw [add_none, hc j hj']
    rw [List.getElem?_map, List.getElem?_eq_getElem (by omega)] at hj
    rw [List.getD_eq_getElem?_getD, List.getElem?_eq_getElem (by omega)]
    exact hj
  · obtain ⟨k, _, rfl⟩ := List.mem_map.1 hu
    rfl
  · intro v' w' hown hgrow hnil hblk
    have hb : Below N W w' := (Below.refl _ _).grown hgrow hN (fun k hk => by
      rcases own.2 with ⟨hv, _⟩ | ⟨g, cap', cur, hv, hNg, _⟩
      · exact absurd hv hnn
      · subst hv
        have : g = k := Option.some.inj hk
        omega)
    rw [← List.map_append] at hown
    rcases hown.2 with ⟨hv, h0⟩ | ⟨g', cap', cur, hv, r⟩
    · exact absurd (hnil.1 hv).1 (fun e => hnn (by rw [e]))
    · subst hv
      exact h _ _ _ ⟨hown, (fun y hy => by
        rcases List.mem_append.1 hy with hy | hy
        · exact h8 y hy
        · exact hlt y hy), r.2.2.1⟩ hb
theorem Bytes.first {w : World} {a : Option Addr} {len : Nat} {bs : List Nat} (h : Bytes w a len bs) (n : Nat) (hn : n ≤ len) : Bytes w a n (bs.take n) := by
  obtain ⟨h0, h1, h2, h3⟩ := h
  refine ⟨by simp; omega, fun x hx => h1 x (List.mem_of_mem_take hx), by omega, ?_⟩
  rcases h3 with h3 | ⟨b, off, ha, hc⟩
  · exact .inl (by omega)
  · exact .inr ⟨b, off, ha, fun i hi => by rw [hc i (by omega), List.getD_eq_getElem?_getD, List.getD_eq_getElem?_getD, List.getElem?_take_of_lt hi]⟩
theorem hold_call {w7 w' w'' : World} {N : Nat} {l : List Value} (h : w'.rangeAt N 0 l ∧ Below w7.heap.size w7 w') (hN : N < w7.heap.size) (hb : Below w'.heap.size w' w'') : w''.rangeAt N 0 l ∧ Below w7.heap.size w7 w'' := by
  have hs := h.2.size
  exact ⟨range_below h.1 hb (by omega), h.2.trans (hb.mono hs)⟩
theorem hold_size {w7 w' : World} {N : Nat} {l : List Value} (h : w'.rangeAt N 0 l ∧ Below w7.heap.size w7 w') : w7.heap.size ≤ w'.heap.size := h.2.size
theorem hold_bel {w7 w' : World} {N : Nat} {l : List Value} (h : w'.rangeAt N 0 l ∧ Below w7.heap.size w7 w') : Below w7.heap.size w7 w' := h.2
set_option maxHeartbeats 1000000 in
set_option maxRecDepth 20000 in
theorem alone_walk (a : Option Addr) (len cap : Nat) (bs : List Nat) (a2 : Option Addr) (len2 cap2 : Nat) (bs2 : List Nat) (w : World) (hB : Bytes w a len bs) (hc : len ≤ cap) (hc' : cap ≤ 9223372036854775807)
    (hB2 : Bytes w a2 len2 bs2) (hd : len2 ≤ cap2) (hd' : cap2 ≤ 9223372036854775807) (hT : Tab w) (h0 : 1 < w.heap.size) :
    Calls Tryd.prog 3 #[.slice a len cap, .slice a2 len2 cap2] w fun e w' => e = .returned (.bool true) ∧ Below w.heap.size w w' := by
  have HT : Hid (Tab w) := hT
  clear hT
  go_enter Tryd.func3, Tryd.ntmps3
  go_wp2_with fail
  refine (few_any a len cap bs w hB hc hc').mono ?_
  rintro e w1 ⟨g, c1, rfl, hM1, hb1⟩
  have BY2 : Hid (Bytes w1 a2 len2 bs2) := hB2.below hb1 rfl
  have hm : min len 1500 ≤ 1500 := by omega
  have hm2 : min len2 1500 ≤ 1500 := by omega
  clear hB hB2
  generalize min len 1500 = m at *
  generalize bs.take 1500 = cs at *
  go_wp2_with fail
  refine (few_any a2 len2 cap2 bs2 w1 BY2.out hd hd').mono ?_
  rintro e w2 ⟨g2, c2, rfl, hM2, hb2⟩
  generalize min len2 1500 = m2 at *
  generalize bs2.take 1500 = cs2 at *
  have hz1 := hb1.size
  have B2 : Below w.heap.size w w2 := hb1.trans (hb2.mono hz1)
  have hz2 := B2.size
  have HM1 : Hid (Mine w2 w.heap.size (some ⟨g, 0, none⟩) m c1 cs) := hM1.below hb2 rfl
  have HM2 : Hid (Mine w2 w1.heap.size (some ⟨g2, 0, none⟩) m2 c2 cs2) := hM2
  have HB2 : Hid (Below w.heap.size w w2) := B2
  have hcm := hM1.2.2
  have hcm2 := hM2.2.2
  obtain ⟨D, hD⟩ : ∃ D, D = Bl.digest cs := ⟨_, rfl⟩
  have HDL : Hid (D.length = 32) := by show _ = _; rw [hD]; exact (Bl.digest_bytes cs).1
  have OF1 : Hid (∀ W ad cc, Bytes W ad m cs → m ≤ cc → Tab W → 1 < W.heap.size → Calls Tryd.prog 5 #[.slice ad m cc] W fun e w' => e = .returned (.agg (arr8 D)) ∧ Below W.heap.size W w') := fun W ad cc h1 h2 h3 h4 => by rw [hD]; exact of_any ad m cc cs W h1 h2 h3 h4
  have hsame := same32 D HDL.out
  have hsame2 : ∀ W : World, (Op.equalIn 10000 24 (.agg (arr8 D)) (.agg (D.map V8).toArray)).run Tryd.prog W = .ok true W := hsame
  clear hM1 hb1 hb2 hM2 B2 hD BY2
  go_wp2_with fail
  refine (OF1.out w2 _ c1 (HM1.out.bytes (by omega)) hcm (HT.out.below h0 HB2.out) (by omega)).mono ?_
  rintro e w3 ⟨rfl, hb3⟩
  have hz3 := hb3.size
  have HB3 : Hid (Below w.heap.size w w3) := HB2.out.trans (hb3.mono hz2)
  have HM13 : Hid (Mine w3 w.heap.size (some ⟨g, 0, none⟩) m c1 cs) := HM1.out.below hb3 rfl
  have HM23 : Hid (Mine w3 w1.heap.size (some ⟨g2, 0, none⟩) m2 c2 cs2) := HM2.out.below hb3 rfl
  have hi : Hid ((Tryd.prog.info? 24).map (·.size) = some (arr8 D).size) := hi24 HDL.out
  have he : Hid (32 = (arr8 D).size) := by show _ = _; rw [arr8_size, HDL.out]
  have H1 : Hid ((arr8 D).all (·.oneCell') = true) := arr8_one _
  clear hb3 HM1 HM2 HB2
  go_upto_region 3 with (first | (refine store_row rfl rfl 24 _ _ rfl w3.heap.size (arr8 D) rfl rfl 24 _ (heap_alloc_new w3 _) hi.out (by exact he.out) H1.out ?_))
  generalize hw4 : World.setRow (World.alloc w3 _) w3.heap.size (arr8 D) = w4
  have R4 : Row8 w4 w3.heap.size 24 D := by rw [← hw4]; exact setRow_heap _ _ _ _ _ _ (heap_alloc_new w3 _)
  have b4 : Below w3.heap.size w3 w4 := by rw [← hw4]; exact below_setRow ((Below.refl _ _).alloc (Nat.le_refl _) _) (Nat.le_refl _) _
  have HR4 : Hid (Row8 w4 w3.heap.size 24 D) := R4
  have hz4 : w3.heap.size < w4.heap.size := (Array.getElem?_eq_some_iff.1 R4).1
  have HB4 : Hid (Below w.heap.size w w4) := HB3.out.trans (b4.mono (by omega))
  have HM14 : Hid (Mine w4 w.heap.size (some ⟨g, 0, none⟩) m c1 cs) := HM13.out.below b4 rfl
  have HM24 : Hid (Mine w4 w1.heap.size (some ⟨g2, 0, none⟩) m2 c2 cs2) := HM23.out.below b4 rfl
  clear R4 b4 hw4 HM13 HM23 HB3
  go_wp2_with fail
  refine (of_any (some ⟨g2, 0, none⟩) m2 c2 cs2 w4 (HM24.out.bytes (by omega)) hcm2 (HT.out.below h0 HB4.out) (by omega)).mono ?_
  rintro e w5 ⟨rfl, hb5⟩
  generalize Bl.digest cs2 = D2
  have hz5 := hb5.size
  have HB5 : Hid (Below w.heap.size w w5) := HB4.out.trans (hb5.mono (by omega))
  have HM15 : Hid (Mine w5 w.heap.size (some ⟨g, 0, none⟩) m c1 cs) := HM14.out.below hb5 rfl
  have HM25 : Hid (Mine w5 w1.heap.size (some ⟨g2, 0, none⟩) m2 c2 cs2) := HM24.out.below hb5 rfl
  have HR5 : Hid (Row8 w5 w3.heap.size 24 D) := HR4.out.below hb5 hz4
  clear hb5 HM14 HM24 HB4 HR4
  have BYA : Hid (Bytes (w5.alloc (.cells #[] 5)) (some ⟨g, 0, none⟩) m cs) := (HM15.out.bytes (by omega)).below ((Below.refl _ _).alloc (Nat.le_refl _) _) rfl
  have BYB : Hid (Bytes (w5.alloc (.cells #[] 5)) (some ⟨g2, 0, none⟩) m2 cs2) := (HM25.out.bytes (by omega)).below ((Below.refl _ _).alloc (Nat.le_refl _) _) rfl
  have h8 : Hid (∀ x ∈ cs, x < 256) := HM15.out.2.1
  go_wp2_with (first
    | (at_builtin; refine append_copy rfl (.tmp 15) (.tmp 16) rfl (w5.alloc (.cells #[] 5)) w5.heap.size w5.heap.size (by simp) (Nat.le_refl _) (heap_alloc_new w5 _) rfl _ m c1 cs rfl BYA.out hm ?_; intro g6 c6 w6 hM6 hb6; have BYC : Hid (Bytes w6 (some ⟨g2, 0, none⟩) m2 cs2) := (HM25.out.bytes (by omega)).below (((Below.refl _ _).alloc (Nat.le_refl _) _).trans hb6) rfl; have hs6 : w5.heap.size ≤ w6.heap.size := Nat.le_trans (by simp) hb6.size; have hM6' := hM6)
    | (at_builtin; refine append_more rfl (.tmp 17) (.tmp 18) rfl w6 w5.heap.size hs6 _ m cs rfl hM6'.1 h8.out ⟨g2, 0, none⟩ m2 c2 cs2 rfl BYC.out (by omega) (by intro e; cases e) ?_; intro g7 c7 w7 hM7 hb7))
  have hz6 : w5.heap.size ≤ w7.heap.size := Nat.le_trans hs6 hb7.size
  have B7 : Below w5.heap.size w5 w7 := (((Below.refl _ _).alloc (Nat.le_refl _) _).trans hb6).trans hb7
  have HR7 : Hid (w7.rangeAt w3.heap.size 0 (D.map V8)) := range_of_row8 (HR5.out.below B7 (by omega))
  have HB7 : Hid (Below w.heap.size w w7) := HB5.out.trans (B7.mono (by omega))
  have HT7 : Hid (Tab w7) := HT.out.below h0 HB7.out
  have BY7 : Hid (Bytes w7 (some ⟨g7, 0, none⟩) m cs) := by
    have e := (hM7.bytes (by omega)).first m (by omega)
    have e2 : (cs ++ cs2).take m = cs := List.take_left' HM15.out.length
    rw [e2] at e
    exact e
  have hm7 : m ≤ c7 := by have := hM7.2.2; omega
  have im : (m : Int) ≤ (c7 : Int) := by omega
  have im0 : (0 : Int) ≤ (m : Int) := Int.natCast_nonneg _
  have hz7 : w3.heap.size < w7.heap.size := by omega
  have hp7 : 1 < w7.heap.size := by omega
  have u24 := Tryd.underlying24
  have i24 : (Tryd.prog.info? 24).map (·.size) = some (D.map V8).length := by rw [size24, List.length_map, HDL.out]
  clear hM6 hM6' hM7 hb6 hb7 hs6 B7 HR5 HB5 HM15 HM25 BYA BYB BYC h8
  go_region_held3 (fun w' => w'.rangeAt w3.heap.size 0 (D.map V8) ∧ Below w7.heap.size w7 w')
    (first | exact ⟨HR7.out, (Below.refl _ _).drew⟩ | assumption | exact hold_call (by assumption) hz7 (by assumption))
    (first
      | (go_at_call 5; refine (OF1.out _ _ c7 ?_ hm7 ?_ ?_).mono ?_; exact BY7.out.below (hold_bel (by assumption)) rfl; exact HT7.out.below hp7 (hold_bel (by assumption)); exact Nat.lt_of_lt_of_le hp7 (hold_size (by assumption)); rintro e w' ⟨rfl, hb8⟩)
      | (go_at_call 6; refine (works_any _ ?_ ?_).mono ?_; exact HT7.out.below hp7 (hold_bel (by assumption)); exact Nat.lt_of_lt_of_le hp7 (hold_size (by assumption)); rintro e w' ⟨rfl, hb9⟩))
  all_goals go_wp2
  all_goals (go_ret; exact ⟨rfl, HB7.out.trans (Below.mono (hold_bel (by assumption)) (by omega))⟩)
end Go.Proofs.YtaeeibllmpaebabDoor
