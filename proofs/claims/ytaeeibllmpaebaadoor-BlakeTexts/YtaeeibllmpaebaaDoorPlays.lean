/- Proved: the walk of the law BlakePlays answers true for any list of pieces and any place. Condition: the two tables. -/
import Derived.Test.YtaeeibllmpaebaaDoorRReg
import Derived.Deep.CutRange
namespace Go.Proofs.YtaeeibllmpaebaaDoor
open Go.RowKit
/- What a walk knows of a slice of slices of bytes. -/
def Lists (w : World) (a : Option Addr) (len : Nat) : Prop :=
  len = 0 ∨ ∃ b off, a = some ⟨b, off, none⟩ ∧ ∀ i, i < len → ∃ (a' : Option Addr) (l' c' : Nat) (bs : List Nat), w.cell? ⟨b, off + i, none⟩ = some (.slice a' l' c') ∧ Bytes w a' l' bs ∧ l' ≤ c' ∧ c' ≤ 9223372036854775807
theorem owns8_below {w w' : World} {N B n : Nat} {v : Value} {vs : List Value} (h : w.ownsRow N 5 1 v n vs) (hb : Below B w w') (hB : B = w.heap.size) : w'.ownsRow N 5 1 v n vs := by
  obtain ⟨h0, h1⟩ := h
  refine ⟨h0, ?_⟩
  rcases h1 with h1 | ⟨g, cap', cur, hv, hN, hh, r⟩
  · exact .inl h1
  · exact .inr ⟨g, cap', cur, hv, hN, (hb.block g (by subst hB; exact (Array.getElem?_eq_some_iff.1 hh).1)).trans hh, r⟩
theorem owns8_keep {w w' : World} {N g n : Nat} {v : Value} {vs : List Value} (h : w.ownsRow N 5 1 v n vs) (hK : Keep g w w') (hg : g < N) : w'.ownsRow N 5 1 v n vs := by
  obtain ⟨h0, h1⟩ := h
  refine ⟨h0, ?_⟩
  rcases h1 with h1 | ⟨x, cap', cur, hv, hN, hh, r⟩
  · exact .inl h1
  · exact .inr ⟨x, cap', cur, hv, hN, (hK.block x (Array.getElem?_eq_some_iff.1 hh).1 (by omega)).trans hh, r⟩
/- a slice of the call's own, nil or not -/
theorem own_any {w : World} {N n : Nat} {v : Value} {vs : List Nat} (h : w.ownsRow N 5 1 v n (vs.map V8)) (h8 : ∀ x ∈ vs, x < 256) : ∃ a cap, v = .slice a n cap ∧ ((a = none ∧ cap = 0) ∨ ∃ b off, a = some ⟨b, off, none⟩) ∧ n ≤ cap ∧ cap ≤ 9223372036854775807 ∧ Bytes w a n vs := by
  have h' := h
  obtain ⟨h0, h1⟩ := h
  rcases h1 with ⟨hv, hn⟩ | ⟨g, cap', cur, hv, hN, hh, hc, hm, hsz, ht⟩
  · subst hn
    obtain rfl : vs = [] := by simpa using h0
    exact ⟨none, 0, hv, .inl ⟨rfl, rfl⟩, by omega, by omega, Bytes.nil _ _⟩
  · subst hv
    unfold maxLen at hm
    have M : Mine w N (some ⟨g, 0, none⟩) n cap' vs := ⟨h', h8, by omega⟩
    exact ⟨_, cap', rfl, .inr ⟨g, 0, rfl⟩, by omega, by omega, M.bytes (by omega)⟩
theorem one_x (w : World) : Bytes (w.alloc (.cells #[.int .u8 120] 5 (1, 2))) (some ⟨w.heap.size, 0, none⟩) 1 [120] := by
  refine ⟨rfl, by decide, by omega, .inr ⟨_, _, rfl, fun i hi => ?_⟩⟩
  obtain rfl : i = 0 := by omega
  rw [cell_of_row _ _ _ _ 5 (1, 2) (heap_alloc_new w _)]; rfl
theorem copy_of (g : Nat) (bs : List Nat) (w : World) (H : HashOf w g bs) : Calls Tryd.prog 16 #[.pointer (some ⟨g, 0, none⟩)] w fun e w' => e = .returned (.pointer (some ⟨w.heap.size, 0, none⟩)) ∧ HashOf w' w.heap.size bs ∧ w'.heap.size = w.heap.size + 1 ∧ Below w.heap.size w w' := by
  obtain ⟨h, b, held, H, s⟩ := H
  refine (copy_yes g h b held bs.length w H).mono ?_
  rintro e w' ⟨rfl, H', hz, hb⟩
  exact ⟨rfl, ⟨h, b, held, H', s⟩, hz, hb⟩
set_option maxHeartbeats 8000000 in
set_option maxRecDepth 20000 in
theorem plays_walk (a : Option Addr) (len cap : Nat) (z : Int) (w : World) (hL : Lists w a len) (_hc : len ≤ cap) (_hc' : cap ≤ 9223372036854775807) (_hz : -9223372036854775808 ≤ z ∧ z ≤ 9223372036854775807) (hT : Tab w) (h0 : 1 < w.heap.size) :
    Calls Tryd.prog 5 #[.slice a len cap, .int .i64 z] w fun e w' => e = .returned (.bool true) ∧ Below w.heap.size w w' := by
  have HT : Hid (Tab w) := hT
  have HL : Hid (Lists w a len) := hL
  clear hT hL
  go_enter Tryd.func5, Tryd.ntmps5
  go_wp2_with fail
  refine (new_any w HT.out).mono ?_
  rintro e w2 ⟨rfl, hH2, hZ2, hB2⟩
  have HH2 : Hid (HashOf w2 w.heap.size []) := HashOf.new hH2
  have HB2 : Hid (Below w.heap.size w w2) := hB2
  clear hH2 hB2
  obtain ⟨g, hg⟩ : ∃ g, g = w.heap.size := ⟨_, rfl⟩
  rw [← hg]
  rw [← hg] at HH2 hZ2
  have HG : Is g w.heap.size := ⟨hg⟩
  have hgp : 1 < g := by omega
  clear hg
  go_wp2_with fail
  go_loopw [6, 7] (fun s6 s7 wr => ∃ (i n : Nat) (cs : List Nat), i ≤ len ∧ i ≤ 20 ∧ s7 = .int .i64 i ∧ n ≤ 1500 * i ∧ (∀ x ∈ cs, x < 256) ∧ wr.ownsRow (g + 1) 5 1 s6 n (cs.map V8) ∧ HashOf wr g cs ∧ Below w.heap.size w wr) (fun _ s7 _ => 21 - (intOf s7).toNat)
  case atStart => exact ⟨0, 0, [], by omega, by omega, rfl, by omega, (fun x hx => by cases hx), ⟨rfl, .inl ⟨rfl, rfl⟩⟩, HH2.out, HB2.out⟩
  case round =>
    obtain ⟨i, n, cs, hi1, hi2, rfl, hn, h8, hO, hH, hB⟩ := hrel
    obtain ⟨a6, cap6, e6, ha6, hc6, hm6, hBy6⟩ := own_any hO h8
    subst e6
    have HO : Hid (wr.ownsRow (g + 1) 5 1 (.slice a6 n cap6) n (cs.map V8)) := hO
    have HH : Hid (HashOf wr g cs) := hH
    have HB : Hid (Below w.heap.size w wr) := hB
    have H8 : Hid (∀ x ∈ cs, x < 256) := h8
    have HCL : Hid (cs.length = n) := hBy6.1
    have hgr : g < wr.heap.size := hH.lt
    have hszw := hB.size
    have HTr : Hid (Tab wr) := HT.out.below h0 hB
    clear hO hH hB h8 ha6 hBy6 HH2 HB2
    by_cases hlt : i < len ∧ i < 20
    · obtain ⟨hl1, hl2⟩ := hlt
      have hd1 : decide ((i : Int) < (len : Int)) = true := by simp; omega
      have hd2 : decide ((i : Int) < 20) = true := by simp; omega
      obtain ⟨lb, lo, rfl, hrows⟩ : ∃ b off, a = some ⟨b, off, none⟩ ∧ ∀ i, i < len → ∃ (a' : Option Addr) (l' c' : Nat) (bs : List Nat), w.cell? ⟨b, off + i, none⟩ = some (.slice a' l' c') ∧ Bytes w a' l' bs ∧ l' ≤ c' ∧ c' ≤ 9223372036854775807 := by
        rcases HL.out with h | h
        · omega
        · exact h
      obtain ⟨a', l', c', bs, hcell0, hby0, hl', hc''⟩ := hrows i hl1
      have hlb : lb < w.heap.size := block_lt_of_cell hcell0
      have hcell : wr.cell? ⟨lb, lo + i, none⟩ = some (.slice a' l' c') := (HB.out.cell (p := ⟨lb, lo + i, none⟩) hlb).trans hcell0
      have HBY0 : Hid (Bytes wr a' l' bs) := hby0.below HB.out rfl
      clear hrows hcell0 hby0 HL
      go_upto_if 31 with (first | (go_at_call 9; refine (few_any a' l' c' bs wr HBY0.out hl' hc'').mono ?_; rintro e w1 ⟨g1, c1, rfl, hM1, hb1⟩))
      have hm : min l' 1500 ≤ 1500 := by omega
      have hM8 : Hid (∀ x ∈ bs.take 1500, x < 256) := hM1.2.1
      generalize min l' 1500 = m at *
      generalize bs.take 1500 = ds at *
      have hz1 := hb1.size
      have HM1 : Hid (Mine w1 wr.heap.size (some ⟨g1, 0, none⟩) m c1 ds) := hM1
      have hcm1 := hM1.2.2
      have hg1 : g1 < w1.heap.size := hM1.lt
      have hg1' : wr.heap.size ≤ g1 := by
        rcases hM1.1.2 with ⟨hv, _⟩ | ⟨x, _, _, hv, hN, _⟩
        · cases hv
        · cases hv; exact hN
      have HO1 : Hid (w1.ownsRow (g + 1) 5 1 (.slice a6 n cap6) n (cs.map V8)) := owns8_below HO.out hb1 rfl
      have HH1 : Hid (HashOf w1 g cs) := HH.out.below hb1 hgr
      have HB1 : Hid (Below w.heap.size w w1) := HB.out.trans (hb1.mono hszw)
      have HT1 : Hid (Tab w1) := HT.out.below h0 HB1.out
      have hszw1 : w.heap.size ≤ w1.heap.size := HB1.out.size
      clear hM1 hb1 HO HH HB HBY0 hcell HTr
      go_cut [9] from 31 to 72 (fun _ wx => Below w1.heap.size w1 wx)
      case first =>
        by_cases hat : (i : Int) = z
        · have hatb : ((i : Int) == z) = true := by simp [hat]
          clear hat
          have hcvx := fun (w : World) C n c => Lib.run_convert_bytes_const (P := Tryd.prog) w 22 5 C n c Tryd.underlying22 Tryd.underlying5
          have HLEN : Hid ((cs ++ [120]).length = n + 1) := by show _ = _; rw [List.length_append, HCL.out]; rfl
          have HC := copy_of g cs w1 HH1.out
          have HCP : Hid (Calls Tryd.prog 16 #[.pointer (some ⟨g, 0, none⟩)] w1 fun e w' => e = .returned (.pointer (some ⟨w1.heap.size, 0, none⟩)) ∧ HashOf w' w1.heap.size cs ∧ w'.heap.size = w1.heap.size + 1 ∧ Below w1.heap.size w1 w') := HC
          clear HC
          go_wp2_with (first
            | (go_at_call 16; refine HCP.out.mono ?_; rintro e w2 ⟨rfl, hHc, hZ0, hBc⟩; have hZc : Hid (w2.heap.size = w1.heap.size + 1) := hZ0; clear hZ0)
            | (go_at_call 17; refine (write_yes w1.heap.size cs (some ⟨w2.heap.size, 0, none⟩) 1 1 [120] (w2.alloc (.cells #[.int .u8 120] 5 (1, 2))) (hHc.below ((Below.refl _ _).alloc (Nat.le_refl _) _) hHc.lt) (one_x w2) (by omega) (.inr fun x hx => by cases hx; show w2.heap.size ≠ w1.heap.size; have := hZc.out; omega) (by rw [HCL.out]; simp; omega) (HT1.out.below (by omega) (hBc.trans (((Below.refl _ w2).alloc (Nat.le_refl _) _).mono (by have := hZc.out; omega)))) (by omega)).mono ?_; rintro e w3 ⟨rfl, hH3, hK3⟩)
            | (go_at_call 18; refine (len_of w1.heap.size (cs ++ [120]) w3 hH3).mono ?_; rintro e w4 ⟨rfl, rfl⟩; rw [HLEN.out]))
          go_meet
          case rel => exact hBc.trans ((((Below.refl _ w2).alloc (Nat.le_refl _) _).mono (by have := hZc.out; omega)).trans (hK3.below (Nat.le_refl _) (by rw [World.size_alloc']; have := hZc.out; omega)))
        · have hatb : ((i : Int) == z) = false := by simp [hat]
          go_wp2_with fail
          go_meet
          case rel => exact Below.refl _ _
      case rest =>
        rename World => wx
        have hzx := hcut.size
        have HMx : Hid (Mine wx wr.heap.size (some ⟨g1, 0, none⟩) m c1 ds) := HM1.out.below hcut rfl
        have HOx : Hid (wx.ownsRow (g + 1) 5 1 (.slice a6 n cap6) n (cs.map V8)) := owns8_below HO1.out hcut rfl
        have HHx : Hid (HashOf wx g cs) := HH1.out.below hcut (by omega)
        have HBx : Hid (Below w.heap.size w wx) := HB1.out.trans (hcut.mono hszw1)
        have HTx : Hid (Tab wx) := HT.out.below h0 HBx.out
        have HDL : Hid (ds.length = m) := HMx.out.length
        clear hcut HM1 HO1 HH1 HB1 HT1
        obtain ⟨L, hLe⟩ : ∃ L, L = cs ++ ds := ⟨_, rfl⟩
        have HLE : Is L (cs ++ ds) := ⟨hLe⟩
        have HLL : Hid (L.length = n + m) := by show _ = _; rw [hLe, List.length_append, HCL.out, HDL.out]
        have HL8 : Hid (∀ x ∈ L, x < 256) := fun x hx => by
          rw [hLe] at hx
          rcases List.mem_append.1 hx with h | h
          · exact H8.out x h
          · exact hM8.out x h
        clear hLe
        obtain ⟨D, hD⟩ : ∃ D, D = Bl.digest L := ⟨_, rfl⟩
        have HD8 : Hid (Bl.Bytes8 32 D) := by show Bl.Bytes8 32 D; rw [hD]; exact Bl.digest_bytes L
        have SM : Hid (∀ W, HashOf W g L → Tab W → 1 < W.heap.size → Calls Tryd.prog 19 #[.pointer (some ⟨g, 0, none⟩)] W fun e w' => e = .returned (.agg (arr8 D)) ∧ Below W.heap.size W w') := fun W h1 h2 h3 => by rw [hD]; exact sum_of g L W h1 h2 h3
        have ROF : Hid (∀ W ad cc, Bytes W ad (n + m) L → ((ad = none ∧ cc = 0) ∨ ∃ b off, ad = some ⟨b, off, none⟩) → n + m ≤ cc → cc ≤ 9223372036854775807 → Calls Tryd.prog 11 #[.slice ad (n + m) cc] W fun e w' => ∃ g cap', e = .returned (.slice (some ⟨g, 0, none⟩) 32 cap') ∧ Mine w' W.heap.size (some ⟨g, 0, none⟩) 32 cap' D ∧ Below W.heap.size W w') := fun W ad cc h1 h2 h3 h4 => by rw [hD]; exact rof_any ad (n + m) cc L W h1 h2 h3 h4
        clear hD
        have hi : Hid ((Tryd.prog.info? 24).map (·.size) = some (arr8 D).size) := hi24 HD8.out.1
        have he : Hid (32 = (arr8 D).size) := by show _ = _; rw [arr8_size, HD8.out.1]
        have H1 : Hid ((arr8 D).all (·.oneCell') = true) := arr8_one _
        have hw8 : Hid (cs.length + ds.length < 9223372036854775808) := by show _ < _; rw [HCL.out, HDL.out]; omega
        go_upto_region 17 with (first
          | (go_at_call 17; refine (write_yes g cs (some ⟨g1, 0, none⟩) m c1 ds wx HHx.out (HMx.out.bytes (by omega)) hcm1 (.inr fun x hx => by cases hx; show g1 ≠ g; omega) hw8.out HTx.out hgp).mono ?_; rintro e w4 ⟨rfl, hH4, hK4⟩)
          | (refine append_bytes rfl (.tmp 55) (.tmp 56) rfl w4 (g + 1) _ n cs rfl (owns8_keep HOx.out hK4 (by omega)) ⟨g1, 0, none⟩ m c1 ds rfl HDL.out (news8 ((HMx.out.keep hK4 (by omega)).bytes (by omega))) (by omega) (by have := hK4.size; omega) ?_; intro v5 w5 hO5 hB5; rw [← HLE.eq] at hH4 hO5; have H5 : Hid (HashOf w5 g L ∧ w5.ownsRow (g + 1) 5 1 v5 (n + m) (L.map V8) ∧ Below w.heap.size w w5) := ⟨hH4.below hB5 (by omega), hO5, HBx.out.trans ((hK4.below (by rw [HG.eq]; exact Nat.le_refl _) (by omega)).trans (hB5.mono (by rw [HG.eq]; omega)))⟩; clear hH4 hO5 hB5 hK4)
          | (go_at_call 19; refine (SM.out w5 H5.out.1 (HT.out.below h0 H5.out.2.2) (by have := H5.out.1.lt; omega)).mono ?_; rintro e w6 ⟨rfl, hb6⟩)
          | (refine store_row rfl rfl 24 _ _ rfl w6.heap.size (arr8 D) rfl rfl 24 _ (heap_alloc_new w6 _) hi.out (by exact he.out) H1.out ?_))
        obtain ⟨H5a, H5b, H5c⟩ := H5.out
        obtain ⟨a5, cap5, e5, ha5, hc5, hm5, hBy5⟩ := own_any H5b HL8.out
        subst e5
        generalize hw7 : World.setRow (World.alloc w6 _) w6.heap.size (arr8 D) = w7
        have R7 : Row8 w7 w6.heap.size 24 D := by rw [← hw7]; exact setRow_heap _ _ _ _ _ _ (heap_alloc_new w6 _)
        have b7 : Below w6.heap.size w6 w7 := by rw [← hw7]; exact below_setRow ((Below.refl _ _).alloc (Nat.le_refl _) _) (Nat.le_refl _) _
        have HR7 : Hid (w7.rangeAt w6.heap.size 0 (D.map V8)) := range_of_row8 R7
        have hz7 : w6.heap.size < w7.heap.size := (Array.getElem?_eq_some_iff.1 R7).1
        have hz5 : w.heap.size ≤ w5.heap.size := H5c.size
        have hz6 : w5.heap.size ≤ w6.heap.size := hb6.size
        have hg5 : g < w5.heap.size := H5a.lt
        have b57 : Below w5.heap.size w5 w7 := hb6.trans (b7.mono hz6)
        have HH7 : Hid (HashOf w7 g L) := H5a.below b57 hg5
        have HB7 : Hid (Below w.heap.size w w7) := H5c.trans (b57.mono hz5)
        have HO7 : Hid (w7.ownsRow (g + 1) 5 1 (.slice a5 (n + m) cap5) (n + m) (L.map V8)) := owns8_below H5b b57 rfl
        have BY7 : Hid (Bytes w7 a5 (n + m) L) := hBy5.below b57 rfl
        have LN : Hid (∀ W, HashOf W g L → Calls Tryd.prog 18 #[.pointer (some ⟨g, 0, none⟩)] W fun e w' => e = .returned (.int .i64 ((n + m : Nat) : Int)) ∧ Below W.heap.size W w') := fun W h => by
          have e := len_of g L W h
          rw [HLL.out] at e
          refine e.mono ?_
          rintro e w' ⟨rfl, rfl⟩
          exact ⟨rfl, Below.refl _ _⟩
        have hcv : ∀ W : World, (W.rangeAt w6.heap.size 0 (D.map V8) ∧ Below w7.heap.size w7 W) → (convert 22 9 (.slice (some ⟨w6.heap.size, 0, none⟩) 32 32)).run Tryd.prog W = .ok (.string (Bl.toBytes D)) W := fun W h => str_of_bytes (hold_bytes h HD8.out) (by omega) 32
        have HA5 : Hid ((a5 = none ∧ cap5 = 0) ∨ ∃ b off, a5 = some ⟨b, off, none⟩) := ha5
        obtain ⟨nm, hnm⟩ : ∃ nm, nm = n + m := ⟨_, rfl⟩
        rw [← hnm] at LN ROF HO7 BY7 hc5
        rw [← hnm]
        have HNM : Is nm (n + m) := ⟨hnm⟩
        clear R7 b7 hw7 hb6 b57 H5a H5b H5c hBy5 ha5 hnm H5 hi he H1 HLL HHx HMx HOx HBx HTx SM HLE
        have HS : Hid ((fun w' : World => w'.rangeAt w6.heap.size 0 (D.map V8) ∧ Below w7.heap.size w7 w') w7.drew) := ⟨HR7.out, (Below.refl _ _).drew⟩
        refine wp_region_held_drew (S := fun w' => w'.rangeAt w6.heap.size 0 (D.map V8) ∧ Below w7.heap.size w7 w') (by kernel_rfl) HS.out (fun _ => ?_)
        refine heldTake 0 (some 60) (.pointer (some ⟨g, 0, none⟩)) rfl rfl (by kernel_rfl) (by kernel_rfl) (by kernel_rfl) (fun _ _ _ h => h) (Or.inl ⟨by rfl, fun w hS => ?_⟩) HS.out ?_
        · (go_simp)
        simp only [Act.put, List.setIfInBounds_toArray, List.set_cons_zero, List.set_cons_succ]
        refine heldTake 2 (some 62) (.slice a5 nm cap5) rfl rfl (by kernel_rfl) (by kernel_rfl) (by kernel_rfl) (fun _ _ _ h => h) (Or.inl ⟨by rfl, fun w hS => ?_⟩) HS.out ?_
        · (go_simp)
        simp only [Act.put, List.setIfInBounds_toArray, List.set_cons_zero, List.set_cons_succ]
        refine heldTake 3 (some 63) (.int .i64 (nm : Int)) rfl rfl (by kernel_rfl) (by kernel_rfl) (by kernel_rfl) (fun _ _ _ h => h) (Or.inl ⟨by rfl, fun w hS => ?_⟩) HS.out ?_
        · (go_simp)
        simp only [Act.put, List.setIfInBounds_toArray, List.set_cons_zero, List.set_cons_succ]
        refine heldOne 1 (by kernel_rfl) rfl (by rfl) (fun KK hK => ?_)
        go_simp
        go_at_call 18
        refine (LN.out _ (HH7.out.below (hold_bel HS.out) (by omega))).mono ?_
        rintro e w8 ⟨rfl, hbw8⟩
        have HSw8 : Hid ((fun w' : World => w'.rangeAt w6.heap.size 0 (D.map V8) ∧ Below w7.heap.size w7 w') w8) := hold_call HS.out hz7 hbw8
        refine hK.out _ _ HSw8.out ?_
        clear hK KK
        try simp only [Act.put, List.setIfInBounds_toArray, List.set_cons_zero, List.set_cons_succ]
        refine heldTake 4 (some 64) (.bool false) rfl rfl (by kernel_rfl) (by kernel_rfl) (by kernel_rfl) (fun _ _ _ h => h) (Or.inl ⟨by rfl, fun w hS => ?_⟩) HSw8.out ?_
        · (go_simp)
        simp only [Act.put, List.setIfInBounds_toArray, List.set_cons_zero, List.set_cons_succ]
        refine heldTake 5 (some 65) (.bool false) rfl rfl (by kernel_rfl) (by kernel_rfl) (by kernel_rfl) (fun _ _ _ h => h) (Or.inl ⟨by rfl, fun w hS => ?_⟩) HSw8.out ?_
        · (go_simp)
        simp only [Act.put, List.setIfInBounds_toArray, List.set_cons_zero, List.set_cons_succ]
        refine heldTake 6 (some 66) (.slice (some ⟨w6.heap.size, 0, none⟩) 32 32) rfl rfl (by kernel_rfl) (by kernel_rfl) (by kernel_rfl) (fun _ _ _ h => h) (Or.inl ⟨by rfl, fun w hS => ?_⟩) HSw8.out ?_
        · (go_simp)
        simp only [Act.put, List.setIfInBounds_toArray, List.set_cons_zero, List.set_cons_succ]
        refine heldTake 7 (some 67) (.string (Bl.toBytes D)) rfl rfl (by kernel_rfl) (by kernel_rfl) (by kernel_rfl) (fun _ _ _ h => h) (Or.inl ⟨by rfl, fun w hS => ?_⟩) HSw8.out ?_
        · (have e := hcv w hS; go_simp)
        simp only [Act.put, List.setIfInBounds_toArray, List.set_cons_zero, List.set_cons_succ]
        refine heldTake 8 (some 68) (.slice a5 nm cap5) rfl rfl (by kernel_rfl) (by kernel_rfl) (by kernel_rfl) (fun _ _ _ h => h) (Or.inl ⟨by rfl, fun w hS => ?_⟩) HSw8.out ?_
        · (go_simp)
        simp only [Act.put, List.setIfInBounds_toArray, List.set_cons_zero, List.set_cons_succ]
        refine heldOne 9 (by kernel_rfl) rfl (by rfl) (fun KK hK => ?_)
        go_simp
        go_at_call 11
        refine (ROF.out _ _ _ (BY7.out.below (hold_bel HSw8.out) rfl) HA5.out hc5 hm5).mono ?_
        rintro e w9 ⟨go, co, rfl, hMo, hbw9⟩
        have HSw9 : Hid ((fun w' : World => w'.rangeAt w6.heap.size 0 (D.map V8) ∧ Below w7.heap.size w7 w') w9) := hold_call HSw8.out hz7 hbw9
        have hcvo := str_of_bytes (hMo.bytes (by omega)) (by omega) co
        refine hK.out _ _ HSw9.out ?_
        clear hK KK
        try simp only [Act.put, List.setIfInBounds_toArray, List.set_cons_zero, List.set_cons_succ]
        refine heldOne 10 (by kernel_rfl) rfl (by rfl) (fun KK hK => ?_)
        go_simp
        refine hK.out _ _ HSw9.out ?_
        clear hK KK
        try simp only [Act.put, List.setIfInBounds_toArray, List.set_cons_zero, List.set_cons_succ]
        clear hcvo hcv
        refine heldTake 11 (some 71) (.bool false) rfl rfl (by kernel_rfl) (by kernel_rfl) (by kernel_rfl) (fun _ _ _ h => h) (Or.inl ⟨by rfl, fun w hS => ?_⟩) HSw9.out ?_
        · (go_simp)
        simp only [Act.put, List.setIfInBounds_toArray, List.set_cons_zero, List.set_cons_succ]
        refine heldTake 12 (some 72) (.bool false) rfl rfl (by kernel_rfl) (by kernel_rfl) (by kernel_rfl) (fun _ _ _ h => h) (Or.inl ⟨by rfl, fun w hS => ?_⟩) HSw9.out ?_
        · (go_simp)
        simp only [Act.put, List.setIfInBounds_toArray, List.set_cons_zero, List.set_cons_succ]
        refine wpAnyH_done (by kernel_rfl) ?_ _
        have hB9 := hold_bel HSw9.out
        have HF : ∃ (i' n' : Nat) (cs' : List Nat), i' ≤ len ∧ i' ≤ 20 ∧ Value.int .i64 ((i : Int) + 1) = .int .i64 i' ∧ n' ≤ 1500 * i' ∧ (∀ x ∈ cs', x < 256) ∧ w9.ownsRow (g + 1) 5 1 (.slice a5 nm cap5) n' (cs'.map V8) ∧ HashOf w9 g cs' ∧ Below w.heap.size w w9 := ⟨i + 1, nm, L, by omega, by omega, by go_num, by have := HNM.eq; omega, HL8.out, owns8_below HO7.out hB9 rfl, HH7.out.below hB9 (by omega), HB7.out.trans (hB9.mono (by omega))⟩
        go_wp2
        go_roundw
        case rel => first | exact HF | ((repeat apply Exists.intro); exact ⟨HF, rfl⟩)
        case measure => (simp [intOf]) <;> omega
    · have hd12 : (decide ((i : Int) < (len : Int)) && decide ((i : Int) < 20)) = false := by
        rw [Bool.and_eq_false_iff]
        by_cases h : i < len
        · exact .inr (by simp; omega)
        · exact .inl (by simp; omega)
      by_cases hl2 : i < len
      · have hi20 : i = 20 := by omega
        subst hi20
        clear hlt hd12
        have hd1 : decide (((20 : Nat) : Int) < (len : Int)) = true := by simp; omega
        go_wp2_with fail
        refine (works_any wr HTr.out (by omega)).mono ?_
        rintro e w7 ⟨rfl, hb7⟩
        go_wp2
        go_ret
        exact ⟨rfl, HB.out.trans (hb7.mono hszw)⟩
      · clear hlt hd12
        have hd1 : decide ((i : Int) < (len : Int)) = false := by simp; omega
        go_wp2_with fail
        refine (works_any wr HTr.out (by omega)).mono ?_
        rintro e w7 ⟨rfl, hb7⟩
        go_wp2
        go_ret
        exact ⟨rfl, HB.out.trans (hb7.mono hszw)⟩
end Go.Proofs.YtaeeibllmpaebaaDoor
