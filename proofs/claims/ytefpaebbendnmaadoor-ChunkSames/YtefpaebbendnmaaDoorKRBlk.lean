/- Proved: the document's block takes 64 bytes into eight words just as the program does. Conditions: words below 2^32, bytes below 256, a number below 2^63. -/
import Derived.Test.YtefpaebbendnmaaDoorKRBlock
namespace Go.Proofs.YtefpaebbendnmaaDoor.BK
open Go.RowKit
def q1 (V m : List Nat) (r : Nat) : List Nat := Bl.g V 0 4 8 12 (m.getD (Bl.ord r 0) 0) (m.getD (Bl.ord r 1) 0)
def q2 (V m : List Nat) (r : Nat) : List Nat := Bl.g V 1 5 9 13 (m.getD (Bl.ord r 2) 0) (m.getD (Bl.ord r 3) 0)
def q3 (V m : List Nat) (r : Nat) : List Nat := Bl.g V 2 6 10 14 (m.getD (Bl.ord r 4) 0) (m.getD (Bl.ord r 5) 0)
def q4 (V m : List Nat) (r : Nat) : List Nat := Bl.g V 3 7 11 15 (m.getD (Bl.ord r 6) 0) (m.getD (Bl.ord r 7) 0)
def q5 (V m : List Nat) (r : Nat) : List Nat := Bl.g V 0 5 10 15 (m.getD (Bl.ord r 8) 0) (m.getD (Bl.ord r 9) 0)
def q6 (V m : List Nat) (r : Nat) : List Nat := Bl.g V 1 6 11 12 (m.getD (Bl.ord r 10) 0) (m.getD (Bl.ord r 11) 0)
def q7 (V m : List Nat) (r : Nat) : List Nat := Bl.g V 2 7 8 13 (m.getD (Bl.ord r 12) 0) (m.getD (Bl.ord r 13) 0)
def q8 (V m : List Nat) (r : Nat) : List Nat := Bl.g V 3 4 9 14 (m.getD (Bl.ord r 14) 0) (m.getD (Bl.ord r 15) 0)
theorem round_is (v m : List Nat) (r : Nat) : Is (Bl.rounds v m (r + 1)) (q8 (q7 (q6 (q5 (q4 (q3 (q2 (q1 (Bl.rounds v m r) m r) m r) m r) m r) m r) m r) m r) m r) := ⟨rfl⟩
/- what the rounds carry along: the sixteen words at block g, the block's words at gm, the orders -/
structure Sit (w : World) (g gm no : Nat) (tl tlm : List Value) (V m : List Nat) (wr : World) : Prop where
  row : Row wr g 59 V tl
  ms : Row wr gm 59 m tlm
  ord : Orders wr no
  below : Below w.heap.size w wr
theorem Sit.only {w wr wr' : World} {g gm no : Nat} {tl tlm : List Value} {V V' m : List Nat} (h : Sit w g gm no tl tlm V m wr) (ho : Only g wr wr') (hr : Row wr' g 59 V' tl) (hg : w.heap.size ≤ g ∧ gm ≠ g ∧ g < no) : Sit w g gm no tl tlm V' m wr' :=
  ⟨hr, ho.row hg.2.1 h.ms, h.ord.only ho (.inl hg.2.2), h.below.trans (ho.below hg.1)⟩
theorem Sit.drew {w wr : World} {g gm no : Nat} {tl tlm : List Value} {V m : List Nat} (h : Sit w g gm no tl tlm V m wr) : Sit w g gm no tl tlm V m wr.drew := ⟨h.row, h.ms, ⟨h.ord.top, h.ord.row, h.ord.lt⟩, h.below.drew⟩
/- what one mixing reads -/
theorem reads4 {w wr : World} {g gm no : Nat} {tl tlm : List Value} {V m : List Nat} {r a b : Nat} (h : Sit w g gm no tl tlm V m wr) (hm : Bl.Words 16 m) (hr : r < 10) (ha : a < 16) (hb : b < 16) :
    ∃ o1 o2 x y : Nat, o1 < 16 ∧ o2 < 16 ∧ x < 4294967296 ∧ y < 4294967296 ∧ Is (m.getD (Bl.ord r a) 0) x ∧ Is (m.getD (Bl.ord r b) 0) y ∧
      Hid (wr.cell? ⟨no + r, a, none⟩ = some (.int .i64 (o1 : Int)) ∧ wr.cell? ⟨no + r, b, none⟩ = some (.int .i64 (o2 : Int)) ∧ wr.cell? ⟨gm, o1, none⟩ = some (.int .u32 (x : Int)) ∧ wr.cell? ⟨gm, o2, none⟩ = some (.int .u32 (y : Int))) := by
  have h1 := Bl.ord_lt r hr a ha
  have h2 := Bl.ord_lt r hr b hb
  exact ⟨Bl.ord r a, Bl.ord r b, m.getD (Bl.ord r a) 0, m.getD (Bl.ord r b) 0, h1, h2, hm.at _, hm.at _, ⟨rfl⟩, ⟨rfl⟩, h.ord.row r hr a ha, h.ord.row r hr b hb, (h.ms.at _ (by rw [hm.1]; exact h1)).1, (h.ms.at _ (by rw [hm.1]; exact h2)).1⟩
theorem first_new (w : World) : ∀ j u, (Bl.first.map V32)[j]? = some u → (w.alloc (.cells (arr Bl.first) 59)).cell? ((⟨w.heap.size, 0, none⟩ : Addr).add j) = some u := fun j u hj => by
  rw [Addr.add_mid, cell_of_row _ _ (0 + j) _ 59 (0, 0) (heap_alloc_new w _), Nat.zero_add]
  simpa [arr] using hj
theorem owns_alloc {w : World} {N n : Nat} {v : Value} {vs : List Value} (h : w.ownsRow N 59 1 v n vs) (o : Obj) : (w.alloc o).ownsRow N 59 1 v n vs := by
  obtain ⟨h0, h1⟩ := h
  refine ⟨h0, ?_⟩
  rcases h1 with h1 | ⟨g, cap', cur, hv, hN, hh, r⟩
  · exact .inl h1
  · exact .inr ⟨g, cap', cur, hv, hN, (Below.heap_alloc w o g (Array.getElem?_eq_some_iff.1 hh).1).trans hh, r⟩
theorem out_take (h v : List Nat) (k : Nat) (hk : k < 8) : ((List.range 8).map (Bl.out h v)).take (k + 1) = ((List.range 8).map (Bl.out h v)).take k ++ [Bl.out h v k] := by
  rw [List.take_succ_eq_append_getElem (by simpa using hk)]; simp
theorem Only.put {g : Nat} {a b : World} (h : Only g a b) (i : Nat) (u : Value) : Only g a (b.setCell ⟨g, i, none⟩ u) := h.setCell rfl u
theorem owns_mono {w : World} {N M n : Nat} {v : Value} {vs : List Value} (h : w.ownsRow N 59 1 v n vs) (hM : M ≤ N) : w.ownsRow M 59 1 v n vs := by
  obtain ⟨h0, h1⟩ := h
  refine ⟨h0, ?_⟩
  rcases h1 with h1 | ⟨g, cap', cur, hv, hN, r⟩
  · exact .inl h1
  · exact .inr ⟨g, cap', cur, hv, Nat.le_trans hM hN, r⟩
theorem three_new {w : World} {p q r : Addr} {a b c : Value} {o : Obj} (h : w.cell? p = some a ∧ w.cell? q = some b ∧ w.cell? r = some c) (hp : p.block < w.heap.size) (hq : q.block < w.heap.size) (hr : r.block < w.heap.size) :
    (w.alloc o).drew.cell? p = some a ∧ (w.alloc o).drew.cell? q = some b ∧ (w.alloc o).drew.cell? r = some c := by
  have hB : Below w.heap.size w (w.alloc o).drew := ((Below.refl _ _).alloc (Nat.le_refl _) _).drew
  exact ⟨(hB.cell hp).trans h.1, (hB.cell hq).trans h.2.1, (hB.cell hr).trans h.2.2⟩
theorem three_below {w w' : World} {N : Nat} {p q r : Addr} {a b c : Value} {o : Obj} (h : w.cell? p = some a ∧ w.cell? q = some b ∧ w.cell? r = some c) (hp : p.block < N) (hq : q.block < N) (hr : r.block < N) (hN : N ≤ w.heap.size) (hB : Below N (w.alloc o).drew w') :
    w'.cell? p = some a ∧ w'.cell? q = some b ∧ w'.cell? r = some c := by
  have h1 := three_new (o := o) h (by omega) (by omega) (by omega)
  exact ⟨(hB.cell hp).trans h1.1, (hB.cell hq).trans h1.2.1, (hB.cell hr).trans h1.2.2⟩
theorem u64_of_i64 (n : Nat) (hn : n < 9223372036854775808) : IntKind.u64.wrap (n : Int) = (n : Int) := by
  rw [IntKind.wrap_u64]; omega

set_option maxHeartbeats 8000000 in
set_option maxRecDepth 20000 in
theorem block_any (hd ho hcap : Nat) (h b : List Nat) (bb bo bcap : Nat) (n : Nat) (last : Bool) (w : World) (hh : Bl.Words 8 h) (hH : ∀ i, i < 8 → w.cell? ⟨hd, ho + i, none⟩ = some (.int .u32 (h.getD i 0 : Nat))) (hn : n < 9223372036854775808) (hb : Bl.Bytes8 64 b) (hB : Bytes w (some ⟨bb, bo, none⟩) 64 b) :
    Calls Tryd.prog 34 #[.slice (some ⟨hd, ho, none⟩) 8 hcap, .slice (some ⟨bb, bo, none⟩) 64 bcap, .int .i64 (n : Int), .bool last] w fun e w' => ∃ g cap, e = .returned (.slice (some ⟨g, 0, none⟩) 8 cap) ∧ w'.ownsRow w.heap.size 59 1 (.slice (some ⟨g, 0, none⟩) 8 cap) 8 ((Bl.taken h b n last).map V32) ∧ Below w.heap.size w w' := by
  have HHW : Hid (Bl.Words 8 h) := hh
  have HHC : Hid (∀ i, i < 8 → w.cell? ⟨hd, ho + i, none⟩ = some (.int .u32 (h.getD i 0 : Nat))) := hH
  have hhd : hd < w.heap.size := block_lt_of_cell (hH 0 (by omega))
  clear hh hH
  have hcells : ∀ i, i < 64 → w.cell? ⟨bb, bo + i, none⟩ = some (.int .u8 (b.getD i 0 : Nat)) := by
    rcases hB.2.2.2 with e | ⟨x, y, e, hc⟩
    · cases e
    · cases e; exact hc
  have hbl : bb < w.heap.size := block_lt_of_cell (hcells 0 (by omega))
  have HC : Hid (∀ i, i < 64 → w.cell? ⟨bb, bo + i, none⟩ = some (.int .u8 (b.getD i 0 : Nat))) := hcells
  have HB8 : Hid (Bl.Bytes8 64 b) := hb
  clear hcells hB hb
  go_enter Tryd.func34, Tryd.ntmps34
  go_wp2_with fail
  go_loopw [9, 10] (fun s9 i wr => ∃ k : Nat, k ≤ 16 ∧ i = .int .i64 k ∧ wr.ownsRow w.heap.size 59 1 s9 k (((Bl.words b).take k).map V32) ∧ Below w.heap.size w wr) (fun _ i _ => 16 - (intOf i).toNat)
  case atStart => exact ⟨0, by omega, rfl, ⟨rfl, .inl ⟨rfl, rfl⟩⟩, Below.refl _ _⟩
  case round =>
    obtain ⟨k, hk, rfl, hO0, hBr⟩ := hrel
    have hO := (show Hid (wr.ownsRow w.heap.size 59 1 _ k (((Bl.words b).take k).map V32)) from hO0)
    clear hO0
    by_cases hlt : k < 16
    · have hcr : ∀ i, i < 64 → wr.cell? ⟨bb, bo + i, none⟩ = some (.int .u8 (b.getD i 0 : Nat)) := fun i hi => (hBr.cell (p := ⟨bb, bo + i, none⟩) hbl).trans (HC.out i hi)
      have hsz := hBr.size
      obtain ⟨k4, hk4⟩ : ∃ k4, k4 = 4 * k := ⟨_, rfl⟩
      have c0 := hcr k4 (by omega)
      have c1 := hcr (k4 + 1) (by omega)
      have c2 := hcr (k4 + 2) (by omega)
      have c3 := hcr (k4 + 3) (by omega)
      have l0 := HB8.out.at k4
      have l1 := HB8.out.at (k4 + 1)
      have l2 := HB8.out.at (k4 + 2)
      have l3 := HB8.out.at (k4 + 3)
      have HW : Is (Bl.word b k) (b.getD k4 0 + b.getD (k4 + 1) 0 * 256 + b.getD (k4 + 2) 0 * 65536 + b.getD (k4 + 3) 0 * 16777216) := ⟨by rw [hk4]; rfl⟩
      have HS : Hid (wr.cell? ⟨bb, bo + k4, none⟩ = some (.int .u8 (b.getD k4 0 : Nat)) ∧ wr.cell? ⟨bb, bo + (k4 + 1), none⟩ = some (.int .u8 (b.getD (k4 + 1) 0 : Nat)) ∧ wr.cell? ⟨bb, bo + (k4 + 2), none⟩ = some (.int .u8 (b.getD (k4 + 2) 0 : Nat)) ∧ wr.cell? ⟨bb, bo + (k4 + 3), none⟩ = some (.int .u8 (b.getD (k4 + 3) 0 : Nat))) := ⟨c0, c1, c2, c3⟩
      clear hcr c0 c1 c2 c3
      generalize b.getD k4 0 = b0 at *
      generalize b.getD (k4 + 1) 0 = b1 at *
      generalize b.getD (k4 + 2) 0 = b2 at *
      generalize b.getD (k4 + 3) 0 = b3 at *
      have ek4 : (4 : Int) * (k : Int) = (k4 : Int) := by omega
      obtain ⟨k41, h41⟩ : ∃ q, q = k4 + 1 := ⟨_, rfl⟩
      obtain ⟨k42, h42⟩ : ∃ q, q = k4 + 2 := ⟨_, rfl⟩
      obtain ⟨k43, h43⟩ : ∃ q, q = k4 + 3 := ⟨_, rfl⟩
      rw [← h41, ← h42, ← h43] at HS
      have e41 : (k4 : Int) + 1 = (k41 : Int) := by omega
      have e42 : (k4 : Int) + 2 = (k42 : Int) := by omega
      have e43 : (k4 : Int) + 3 = (k43 : Int) := by omega
      have w0 := wrap64 k4 (by omega)
      have w1 := wrap64 k41 (by omega)
      have w2 := wrap64 k42 (by omega)
      have w3 := wrap64 k43 (by omega)
      have i0 : (k4 : Int) < 64 := by omega
      have i1 : (k41 : Int) < 64 := by omega
      have i2 : (k42 : Int) < 64 := by omega
      have i3 : (k43 : Int) < 64 := by omega
      have j0 : (0 : Int) ≤ (k4 : Int) := Int.natCast_nonneg _
      have j1 : (0 : Int) ≤ (k41 : Int) := Int.natCast_nonneg _
      have j2 : (0 : Int) ≤ (k42 : Int) := Int.natCast_nonneg _
      have j3 : (0 : Int) ≤ (k43 : Int) := Int.natCast_nonneg _
      clear hk4 h41 h42 h43
      go_wp2_with fail
      go_region_held3 (fun w' => w'.cell? ⟨bb, bo + k4, none⟩ = some (.int .u8 (b0 : Nat)) ∧ w'.cell? ⟨bb, bo + k41, none⟩ = some (.int .u8 (b1 : Nat)) ∧ w'.cell? ⟨bb, bo + k42, none⟩ = some (.int .u8 (b2 : Nat)) ∧ w'.cell? ⟨bb, bo + k43, none⟩ = some (.int .u8 (b3 : Nat)))
        (first | exact HS.out | assumption | exact four_new (by exact HS.out) (by omega) | exact four_below (by exact HS.out) hbl hsz hB')
        (first | (refine step_append_words rfl (.tmp 21) (.tmp 55) rfl w.heap.size _ k _ rfl (owns_new hO.out _) ⟨wr.heap.size, 0, none⟩ 1 1 [Bl.word b k] rfl rfl (one_new wr (by rw [HW.eq]; simp only [IntKind.wrap_u32]; omega)) (by omega) (by simp; omega) ?_; intro v' w' hO' hB'))
      go_wp2
      go_roundw
      case rel => exact ⟨k + 1, by omega, by go_num, by rw [words_take b k hlt]; exact hO', hBr.trans ((((Below.refl _ _).alloc (Nat.le_refl _) _).drew.mono hsz).trans hB')⟩
      case measure => (simp [intOf]) <;> omega
    · have hk16 : k = 16 := by omega
      subst hk16
      have hwl : (Bl.words b).length = 16 := by simp [Bl.words]
      rw [List.take_of_length_le (by omega)] at hO
      have hsz := hBr.size
      have HNEW : Hid (∀ j u, (h.map V32)[j]? = some u → (wr.alloc (.cells #[] 59)).cell? ((⟨hd, ho, none⟩ : Addr).add j) = some u) := fun j u hj => by
        have hj' : j < h.length := by simpa using (List.getElem?_eq_some_iff.1 hj).1
        rw [Addr.add_mid, (((Below.refl _ wr).alloc (Nat.le_refl _) _).cell (p := ⟨hd, ho + j, none⟩) (show hd < wr.heap.size by omega)), hBr.cell (p := ⟨hd, ho + j, none⟩) hhd, HHC.out j (by rw [HHW.out.1] at hj'; exact hj'), ← hj, List.getElem?_map, List.getElem?_eq_getElem hj', List.getD_eq_getElem?_getD, List.getElem?_eq_getElem hj']; rfl
      have HOWN0 : Hid ((wr.alloc (.cells #[] 59)).ownsRow wr.heap.size 59 1 (.slice (some ⟨wr.heap.size, 0, none⟩) 0 0) 0 (([] : List Nat).map V32)) := ⟨rfl, .inr ⟨wr.heap.size, 0, #[], rfl, Nat.le_refl _, heap_alloc_new wr _, Nat.le_refl _, Nat.zero_le _, rfl, rfl⟩⟩
      have HBR : Hid (Below w.heap.size w wr) := hBr
      obtain ⟨gm, capm, tlm, rfl, hgm, hcm, hlm, hRm⟩ := own_row hO.out (by omega)
      have HRM : Hid (Row wr gm 59 (Bl.words b) tlm) := hRm
      have HMW : Hid (Bl.Words 16 (Bl.words b)) := Bl.words_words HB8.out
      have hgm2 : gm < wr.heap.size := hRm.lt
      clear hBr hO hRm hlm hwl
      go_upto_region 6 with fail
      go_cut [11] from 57 (fun s wx => ∃ g cap tl, s = .slice (some ⟨g, 0, none⟩) 16 cap ∧ wr.heap.size ≤ g ∧ 16 ≤ cap ∧ Row wx g 59 (h ++ Bl.first) tl ∧ Below wr.heap.size wr wx)
      case first =>
        go_wp2_with (first | (refine append_words rfl (.tmp 57) (.tmp 58) rfl (wr.alloc (.cells #[] 59)) wr.heap.size _ 0 [] rfl HOWN0.out ⟨hd, ho, none⟩ 8 hcap h rfl HHW.out.1 HNEW.out (by omega) (by simp) ?_; intro v1 w1 hO1 hB1))
        obtain ⟨g1, cap1, tl1, rfl, hg1, hc1, hl1, hR1⟩ := own_row hO1 (by omega)
        have HO1 : Hid (w1.ownsRow wr.heap.size 59 1 (.slice (some ⟨g1, 0, none⟩) 8 cap1) 8 (h.map V32)) := hO1
        have HO2 : Hid ((w1.alloc (.cells (arr Bl.first) 59)).ownsRow wr.heap.size 59 1 (.slice (some ⟨g1, 0, none⟩) 8 cap1) 8 (h.map V32)) := owns_alloc HO1.out _
        have HB1 : Hid (Below wr.heap.size (wr.alloc (.cells #[] 59)) w1) := hB1
        have hs1 : wr.heap.size ≤ w1.heap.size := by have e := hB1.size; rw [World.size_alloc'] at e; omega
        clear hO1 hR1 hB1 HOWN0 HNEW HRM
        go_wp2_with (first | (go_at_call 33; refine (first_any _).mono ?_; rintro e w2 ⟨rfl, rfl⟩) | (refine append_words rfl (.tmp 59) (.tmp 60) rfl (w1.alloc (.cells (arr Bl.first) 59)) wr.heap.size _ 8 h rfl HO2.out ⟨w1.heap.size, 0, none⟩ 8 8 Bl.first rfl rfl (first_new w1) (by omega) (by rw [World.size_alloc']; omega) ?_; intro v2 w2 hO2 hB2))
        obtain ⟨g2, cap2, tl2, rfl, hg2, hc2, hl2, hR2⟩ := own_row hO2 (by omega)
        go_wp2_with fail
        go_meet
        case rel => exact ⟨g2, cap2, tl2, rfl, hg2, hc2, hR2, (((Below.refl _ wr).alloc (Nat.le_refl _) _).trans HB1.out).trans (((Below.refl _ w1).alloc (Nat.le_refl _) _).mono hs1 |>.trans hB2)⟩
      case rest =>
        obtain ⟨g, cap, tl, rfl, hg, hcap16, hR, hB⟩ := hcut
        have hW := hf_words HHW.out
        obtain ⟨c12, f12⟩ := hR.at 12 (by rw [hW.1]; omega)
        obtain ⟨c13, f13⟩ := hR.at 13 (by rw [hW.1]; omega)
        obtain ⟨c14, f14⟩ := hR.at 14 (by rw [hW.1]; omega)
        have l12 := hW.at 12
        have l13 := hW.at 13
        have l14 := hW.at 14
        have HR : Hid (Row wc g 59 (h ++ Bl.first) tl) := hR
        have HL : Hid ((h ++ Bl.first).length = 16) := hW.1
        have HRM2 : Hid (Row wc gm 59 (Bl.words b) tlm) := HRM.out.below hB hgm2
        have HB2 : Hid (Below w.heap.size w wc) := HBR.out.trans (hB.mono hsz)
        have hgc : g < wc.heap.size := hR.lt
        have hgg : w.heap.size ≤ g ∧ gm ≠ g := ⟨by omega, by omega⟩
        clear hR hW hB HRM HBR HNEW HOWN0
        have hVn : Hid (Bl.begin h n false = ((h ++ Bl.first).set 12 ((h ++ Bl.first).getD 12 0 ^^^ n % 4294967296)).set 13 ((h ++ Bl.first).getD 13 0 ^^^ n / 4294967296)) := rfl
        have e14 : (Bl.begin0 h n).getD 14 0 = (h ++ Bl.first).getD 14 0 := by
          unfold Bl.begin0
          rw [List.getD_eq_getElem?_getD, List.getElem?_set_ne (by omega), List.getElem?_set_ne (by omega), ← List.getD_eq_getElem?_getD]
        have hVy : Hid (Bl.begin h n true = (((h ++ Bl.first).set 12 ((h ++ Bl.first).getD 12 0 ^^^ n % 4294967296)).set 13 ((h ++ Bl.first).getD 13 0 ^^^ n / 4294967296)).set 14 ((h ++ Bl.first).getD 14 0 ^^^ 4294967295)) := by
          show Bl.begin h n true = _
          rw [← e14]; rfl
        have HVW : Hid (Bl.Words 16 (Bl.begin h n last)) := Bl.begin_words HHW.out (by omega) last
        clear e14
        generalize h ++ Bl.first = v at *
        generalize hp : v.getD 12 0 = p at *
        generalize hq : v.getD 13 0 = q at *
        generalize hs : v.getD 14 0 = s at *
        have x12 := xor_low p n l12
        have x13 := xor_high q n l13 (by omega)
        have x14 := xor_all s l14
        have u64n := u64_of_i64 n hn
        clear hp hq hs
        go_upto_if 81 with fail
        go_cut [11] from 57 (fun s wx => s = .slice (some ⟨g, 0, none⟩) 16 cap ∧ Row wx g 59 (Bl.begin h n last) tl ∧ Only g wc wx)
        case first =>
          cases last
          · go_wp2_with fail
            go_meet
            case rel => exact ⟨rfl, by rw [hVn.out]; exact (HR.out.set 12 _ (by rw [HL.out]; omega)).set 13 _ (by rw [List.length_set, HL.out]; omega), ((Only.refl _ _).put 12 _).put 13 _⟩
          · go_wp2_with fail
            go_meet
            case rel => exact ⟨rfl, by rw [hVy.out]; exact ((HR.out.set 12 _ (by rw [HL.out]; omega)).set 13 _ (by rw [List.length_set, HL.out]; omega)).set 14 _ (by rw [List.length_set, List.length_set, HL.out]; omega), (((Only.refl _ _).put 12 _).put 13 _).put 14 _⟩
        case rest =>
          obtain ⟨rfl, hR, hOn⟩ := hcut
          rename World => w3
          have HR3 : Hid (Row w3 g 59 (Bl.begin h n last) tl) := hR
          have HRM3 : Hid (Row w3 gm 59 (Bl.words b) tlm) := hOn.row hgg.2 HRM2.out
          have HB3 : Hid (Below w.heap.size w w3) := HB2.out.trans (hOn.below hgg.1)
          have hg3 : g < w3.heap.size := hR.lt
          have hgm3 : gm < w3.heap.size := HRM3.out.lt
          clear hR hOn HR HRM2 HB2 hVn hVy x12 x13 x14 c12 c13 c14 f12 f13 f14 l12 l13 l14 HL hgc
          have HMX : Hid (Is (Bl.mixed h b n last) (Bl.rounds (Bl.begin h n last) (Bl.words b) 10)) := ⟨rfl⟩
          generalize Bl.begin h n last = v0 at *
          go_wp2_with (first | (go_at_call 42; refine (orders_any _).mono ?_; rintro e w4 ⟨rfl, hOrd, hB4, hz4⟩))
          have HS4 : Hid (Sit w g gm w3.heap.size tl tlm v0 (Bl.words b) w4) := ⟨HR3.out.below hB4 hg3, HRM3.out.below hB4 hgm3, hOrd, HB3.out.trans (hB4.mono (by have := HB3.out.size; omega))⟩
          have hgs : Hid (w.heap.size ≤ g ∧ gm ≠ g ∧ g < w3.heap.size) := ⟨hgg.1, hgg.2, hg3⟩
          clear hOrd hB4 hz4 HR3 HRM3 HB3
          generalize w3.heap.size = no at *
          go_loopw [13] (fun i wq => ∃ r : Nat, r ≤ 10 ∧ i = .int .i64 r ∧ Sit w g gm no tl tlm (Bl.rounds v0 (Bl.words b) r) (Bl.words b) wq) (fun i _ => 10 - (intOf i).toNat)
          case atStart => exact ⟨0, by omega, rfl, HS4.out⟩
          case round =>
            obtain ⟨r, hr, rfl, hS⟩ := hrel
            have HS0 : Hid (Sit w g gm no tl tlm (Bl.rounds v0 (Bl.words b) r) (Bl.words b) wr) := hS
            by_cases hlt : r < 10
            · have HN := round_is v0 (Bl.words b) r
              have HW0 : Hid (Bl.Words 16 (Bl.rounds v0 (Bl.words b) r)) := HVW.out.rounds _ r
              have hct := hS.ord.top r hlt
              have hr10 : (r : Int) < 10 := by omega
              have hr0 : (0 : Int) ≤ (r : Int) := Int.natCast_nonneg _
              clear hS HS4 HMX
              generalize Bl.rounds v0 (Bl.words b) r = V0 at *
              generalize Bl.words b = m at *
              go_wp2_with fail
              clear hct
              obtain ⟨o1, o2, x, y, ho1, ho2, hx, hy, Hx, Hy, HCC⟩ := reads4 HS0.out HMW.out hlt (show 0 < 16 by omega) (show 1 < 16 by omega)
              have ho1' : (o1 : Int) < 16 := by omega
              have ho2' : (o2 : Int) < 16 := by omega
              have ho1'' : (0 : Int) ≤ (o1 : Int) := Int.natCast_nonneg _
              have ho2'' : (0 : Int) ≤ (o2 : Int) := Int.natCast_nonneg _
              have HG : Hid (Calls Tryd.prog 43 #[.slice (some ⟨g, 0, none⟩) 16 cap, .int .i64 0, .int .i64 4, .int .i64 8, .int .i64 12, .int .u32 (x : Int), .int .u32 (y : Int)] wr.drew fun e w' => e = .returned undef ∧ Row w' g 59 (Bl.g V0 0 4 8 12 x y) tl ∧ Only g wr.drew w') := G_any g 59 cap V0 tl 0 4 8 12 x y wr.drew HW0.out HS0.out.row (by omega) (by omega) (by omega) (by omega)
              go_region_held3 (fun w' => w'.cell? ⟨no + r, 0, none⟩ = some (.int .i64 (o1 : Int)) ∧ w'.cell? ⟨no + r, 1, none⟩ = some (.int .i64 (o2 : Int)) ∧ w'.cell? ⟨gm, o1, none⟩ = some (.int .u32 (x : Int)) ∧ w'.cell? ⟨gm, o2, none⟩ = some (.int .u32 (y : Int)))
                (first | exact HCC.out | exact four_only (by exact HCC.out) hom (by show no + r ≠ g; have := hgs.out; omega) (by show no + r ≠ g; have := hgs.out; omega) (by show gm ≠ g; have := hgs.out; omega) (by show gm ≠ g; have := hgs.out; omega))
                (first | (go_at_call 43; refine HG.out.mono ?_; rintro e w5 ⟨rfl, hrm, hom⟩))
              have HS1 : Hid (Sit w g gm no tl tlm (q1 V0 m r) m w5) := HS0.out.drew.only hom (by unfold q1; rw [Hx.eq, Hy.eq]; exact hrm) hgs.out
              have HW1 : Hid (Bl.Words 16 (q1 V0 m r)) := HW0.out.g _ _ _ _ _ _
              clear hrm hom HG HCC Hx Hy HS0 HW0 ho1 ho2 ho1' ho2' ho1'' ho2'' hx hy
              generalize q1 V0 m r = V1 at *
              go_wp2_with fail
              obtain ⟨o1, o2, x, y, ho1, ho2, hx, hy, Hx, Hy, HCC⟩ := reads4 HS1.out HMW.out hlt (show 2 < 16 by omega) (show 3 < 16 by omega)
              have ho1' : (o1 : Int) < 16 := by omega
              have ho2' : (o2 : Int) < 16 := by omega
              have ho1'' : (0 : Int) ≤ (o1 : Int) := Int.natCast_nonneg _
              have ho2'' : (0 : Int) ≤ (o2 : Int) := Int.natCast_nonneg _
              have HG : Hid (Calls Tryd.prog 43 #[.slice (some ⟨g, 0, none⟩) 16 cap, .int .i64 1, .int .i64 5, .int .i64 9, .int .i64 13, .int .u32 (x : Int), .int .u32 (y : Int)] w5.drew fun e w' => e = .returned undef ∧ Row w' g 59 (Bl.g V1 1 5 9 13 x y) tl ∧ Only g w5.drew w') := G_any g 59 cap V1 tl 1 5 9 13 x y w5.drew HW1.out HS1.out.row (by omega) (by omega) (by omega) (by omega)
              go_region_held3 (fun w' => w'.cell? ⟨no + r, 2, none⟩ = some (.int .i64 (o1 : Int)) ∧ w'.cell? ⟨no + r, 3, none⟩ = some (.int .i64 (o2 : Int)) ∧ w'.cell? ⟨gm, o1, none⟩ = some (.int .u32 (x : Int)) ∧ w'.cell? ⟨gm, o2, none⟩ = some (.int .u32 (y : Int)))
                (first | exact HCC.out | exact four_only (by exact HCC.out) hom (by show no + r ≠ g; have := hgs.out; omega) (by show no + r ≠ g; have := hgs.out; omega) (by show gm ≠ g; have := hgs.out; omega) (by show gm ≠ g; have := hgs.out; omega))
                (first | (go_at_call 43; refine HG.out.mono ?_; rintro e w6 ⟨rfl, hrm, hom⟩))
              have HS2 : Hid (Sit w g gm no tl tlm (q2 V1 m r) m w6) := HS1.out.drew.only hom (by unfold q2; rw [Hx.eq, Hy.eq]; exact hrm) hgs.out
              have HW2 : Hid (Bl.Words 16 (q2 V1 m r)) := HW1.out.g _ _ _ _ _ _
              clear hrm hom HG HCC Hx Hy HS1 HW1 ho1 ho2 ho1' ho2' ho1'' ho2'' hx hy
              generalize q2 V1 m r = V2 at *
              go_wp2_with fail
              obtain ⟨o1, o2, x, y, ho1, ho2, hx, hy, Hx, Hy, HCC⟩ := reads4 HS2.out HMW.out hlt (show 4 < 16 by omega) (show 5 < 16 by omega)
              have ho1' : (o1 : Int) < 16 := by omega
              have ho2' : (o2 : Int) < 16 := by omega
              have ho1'' : (0 : Int) ≤ (o1 : Int) := Int.natCast_nonneg _
              have ho2'' : (0 : Int) ≤ (o2 : Int) := Int.natCast_nonneg _
              have HG : Hid (Calls Tryd.prog 43 #[.slice (some ⟨g, 0, none⟩) 16 cap, .int .i64 2, .int .i64 6, .int .i64 10, .int .i64 14, .int .u32 (x : Int), .int .u32 (y : Int)] w6.drew fun e w' => e = .returned undef ∧ Row w' g 59 (Bl.g V2 2 6 10 14 x y) tl ∧ Only g w6.drew w') := G_any g 59 cap V2 tl 2 6 10 14 x y w6.drew HW2.out HS2.out.row (by omega) (by omega) (by omega) (by omega)
              go_region_held3 (fun w' => w'.cell? ⟨no + r, 4, none⟩ = some (.int .i64 (o1 : Int)) ∧ w'.cell? ⟨no + r, 5, none⟩ = some (.int .i64 (o2 : Int)) ∧ w'.cell? ⟨gm, o1, none⟩ = some (.int .u32 (x : Int)) ∧ w'.cell? ⟨gm, o2, none⟩ = some (.int .u32 (y : Int)))
                (first | exact HCC.out | exact four_only (by exact HCC.out) hom (by show no + r ≠ g; have := hgs.out; omega) (by show no + r ≠ g; have := hgs.out; omega) (by show gm ≠ g; have := hgs.out; omega) (by show gm ≠ g; have := hgs.out; omega))
                (first | (go_at_call 43; refine HG.out.mono ?_; rintro e w7 ⟨rfl, hrm, hom⟩))
              have HS3 : Hid (Sit w g gm no tl tlm (q3 V2 m r) m w7) := HS2.out.drew.only hom (by unfold q3; rw [Hx.eq, Hy.eq]; exact hrm) hgs.out
              have HW3 : Hid (Bl.Words 16 (q3 V2 m r)) := HW2.out.g _ _ _ _ _ _
              clear hrm hom HG HCC Hx Hy HS2 HW2 ho1 ho2 ho1' ho2' ho1'' ho2'' hx hy
              generalize q3 V2 m r = V3 at *
              go_wp2_with fail
              obtain ⟨o1, o2, x, y, ho1, ho2, hx, hy, Hx, Hy, HCC⟩ := reads4 HS3.out HMW.out hlt (show 6 < 16 by omega) (show 7 < 16 by omega)
              have ho1' : (o1 : Int) < 16 := by omega
              have ho2' : (o2 : Int) < 16 := by omega
              have ho1'' : (0 : Int) ≤ (o1 : Int) := Int.natCast_nonneg _
              have ho2'' : (0 : Int) ≤ (o2 : Int) := Int.natCast_nonneg _
              have HG : Hid (Calls Tryd.prog 43 #[.slice (some ⟨g, 0, none⟩) 16 cap, .int .i64 3, .int .i64 7, .int .i64 11, .int .i64 15, .int .u32 (x : Int), .int .u32 (y : Int)] w7.drew fun e w' => e = .returned undef ∧ Row w' g 59 (Bl.g V3 3 7 11 15 x y) tl ∧ Only g w7.drew w') := G_any g 59 cap V3 tl 3 7 11 15 x y w7.drew HW3.out HS3.out.row (by omega) (by omega) (by omega) (by omega)
              go_region_held3 (fun w' => w'.cell? ⟨no + r, 6, none⟩ = some (.int .i64 (o1 : Int)) ∧ w'.cell? ⟨no + r, 7, none⟩ = some (.int .i64 (o2 : Int)) ∧ w'.cell? ⟨gm, o1, none⟩ = some (.int .u32 (x : Int)) ∧ w'.cell? ⟨gm, o2, none⟩ = some (.int .u32 (y : Int)))
                (first | exact HCC.out | exact four_only (by exact HCC.out) hom (by show no + r ≠ g; have := hgs.out; omega) (by show no + r ≠ g; have := hgs.out; omega) (by show gm ≠ g; have := hgs.out; omega) (by show gm ≠ g; have := hgs.out; omega))
                (first | (go_at_call 43; refine HG.out.mono ?_; rintro e w8 ⟨rfl, hrm, hom⟩))
              have HS4 : Hid (Sit w g gm no tl tlm (q4 V3 m r) m w8) := HS3.out.drew.only hom (by unfold q4; rw [Hx.eq, Hy.eq]; exact hrm) hgs.out
              have HW4 : Hid (Bl.Words 16 (q4 V3 m r)) := HW3.out.g _ _ _ _ _ _
              clear hrm hom HG HCC Hx Hy HS3 HW3 ho1 ho2 ho1' ho2' ho1'' ho2'' hx hy
              generalize q4 V3 m r = V4 at *
              go_wp2_with fail
              obtain ⟨o1, o2, x, y, ho1, ho2, hx, hy, Hx, Hy, HCC⟩ := reads4 HS4.out HMW.out hlt (show 8 < 16 by omega) (show 9 < 16 by omega)
              have ho1' : (o1 : Int) < 16 := by omega
              have ho2' : (o2 : Int) < 16 := by omega
              have ho1'' : (0 : Int) ≤ (o1 : Int) := Int.natCast_nonneg _
              have ho2'' : (0 : Int) ≤ (o2 : Int) := Int.natCast_nonneg _
              have HG : Hid (Calls Tryd.prog 43 #[.slice (some ⟨g, 0, none⟩) 16 cap, .int .i64 0, .int .i64 5, .int .i64 10, .int .i64 15, .int .u32 (x : Int), .int .u32 (y : Int)] w8.drew fun e w' => e = .returned undef ∧ Row w' g 59 (Bl.g V4 0 5 10 15 x y) tl ∧ Only g w8.drew w') := G_any g 59 cap V4 tl 0 5 10 15 x y w8.drew HW4.out HS4.out.row (by omega) (by omega) (by omega) (by omega)
              go_region_held3 (fun w' => w'.cell? ⟨no + r, 8, none⟩ = some (.int .i64 (o1 : Int)) ∧ w'.cell? ⟨no + r, 9, none⟩ = some (.int .i64 (o2 : Int)) ∧ w'.cell? ⟨gm, o1, none⟩ = some (.int .u32 (x : Int)) ∧ w'.cell? ⟨gm, o2, none⟩ = some (.int .u32 (y : Int)))
                (first | exact HCC.out | exact four_only (by exact HCC.out) hom (by show no + r ≠ g; have := hgs.out; omega) (by show no + r ≠ g; have := hgs.out; omega) (by show gm ≠ g; have := hgs.out; omega) (by show gm ≠ g; have := hgs.out; omega))
                (first | (go_at_call 43; refine HG.out.mono ?_; rintro e w9 ⟨rfl, hrm, hom⟩))
              have HS5 : Hid (Sit w g gm no tl tlm (q5 V4 m r) m w9) := HS4.out.drew.only hom (by unfold q5; rw [Hx.eq, Hy.eq]; exact hrm) hgs.out
              have HW5 : Hid (Bl.Words 16 (q5 V4 m r)) := HW4.out.g _ _ _ _ _ _
              clear hrm hom HG HCC Hx Hy HS4 HW4 ho1 ho2 ho1' ho2' ho1'' ho2'' hx hy
              generalize q5 V4 m r = V5 at *
              go_wp2_with fail
              obtain ⟨o1, o2, x, y, ho1, ho2, hx, hy, Hx, Hy, HCC⟩ := reads4 HS5.out HMW.out hlt (show 10 < 16 by omega) (show 11 < 16 by omega)
              have ho1' : (o1 : Int) < 16 := by omega
              have ho2' : (o2 : Int) < 16 := by omega
              have ho1'' : (0 : Int) ≤ (o1 : Int) := Int.natCast_nonneg _
              have ho2'' : (0 : Int) ≤ (o2 : Int) := Int.natCast_nonneg _
              have HG : Hid (Calls Tryd.prog 43 #[.slice (some ⟨g, 0, none⟩) 16 cap, .int .i64 1, .int .i64 6, .int .i64 11, .int .i64 12, .int .u32 (x : Int), .int .u32 (y : Int)] w9.drew fun e w' => e = .returned undef ∧ Row w' g 59 (Bl.g V5 1 6 11 12 x y) tl ∧ Only g w9.drew w') := G_any g 59 cap V5 tl 1 6 11 12 x y w9.drew HW5.out HS5.out.row (by omega) (by omega) (by omega) (by omega)
              go_region_held3 (fun w' => w'.cell? ⟨no + r, 10, none⟩ = some (.int .i64 (o1 : Int)) ∧ w'.cell? ⟨no + r, 11, none⟩ = some (.int .i64 (o2 : Int)) ∧ w'.cell? ⟨gm, o1, none⟩ = some (.int .u32 (x : Int)) ∧ w'.cell? ⟨gm, o2, none⟩ = some (.int .u32 (y : Int)))
                (first | exact HCC.out | exact four_only (by exact HCC.out) hom (by show no + r ≠ g; have := hgs.out; omega) (by show no + r ≠ g; have := hgs.out; omega) (by show gm ≠ g; have := hgs.out; omega) (by show gm ≠ g; have := hgs.out; omega))
                (first | (go_at_call 43; refine HG.out.mono ?_; rintro e w10 ⟨rfl, hrm, hom⟩))
              have HS6 : Hid (Sit w g gm no tl tlm (q6 V5 m r) m w10) := HS5.out.drew.only hom (by unfold q6; rw [Hx.eq, Hy.eq]; exact hrm) hgs.out
              have HW6 : Hid (Bl.Words 16 (q6 V5 m r)) := HW5.out.g _ _ _ _ _ _
              clear hrm hom HG HCC Hx Hy HS5 HW5 ho1 ho2 ho1' ho2' ho1'' ho2'' hx hy
              generalize q6 V5 m r = V6 at *
              go_wp2_with fail
              obtain ⟨o1, o2, x, y, ho1, ho2, hx, hy, Hx, Hy, HCC⟩ := reads4 HS6.out HMW.out hlt (show 12 < 16 by omega) (show 13 < 16 by omega)
              have ho1' : (o1 : Int) < 16 := by omega
              have ho2' : (o2 : Int) < 16 := by omega
              have ho1'' : (0 : Int) ≤ (o1 : Int) := Int.natCast_nonneg _
              have ho2'' : (0 : Int) ≤ (o2 : Int) := Int.natCast_nonneg _
              have HG : Hid (Calls Tryd.prog 43 #[.slice (some ⟨g, 0, none⟩) 16 cap, .int .i64 2, .int .i64 7, .int .i64 8, .int .i64 13, .int .u32 (x : Int), .int .u32 (y : Int)] w10.drew fun e w' => e = .returned undef ∧ Row w' g 59 (Bl.g V6 2 7 8 13 x y) tl ∧ Only g w10.drew w') := G_any g 59 cap V6 tl 2 7 8 13 x y w10.drew HW6.out HS6.out.row (by omega) (by omega) (by omega) (by omega)
              go_region_held3 (fun w' => w'.cell? ⟨no + r, 12, none⟩ = some (.int .i64 (o1 : Int)) ∧ w'.cell? ⟨no + r, 13, none⟩ = some (.int .i64 (o2 : Int)) ∧ w'.cell? ⟨gm, o1, none⟩ = some (.int .u32 (x : Int)) ∧ w'.cell? ⟨gm, o2, none⟩ = some (.int .u32 (y : Int)))
                (first | exact HCC.out | exact four_only (by exact HCC.out) hom (by show no + r ≠ g; have := hgs.out; omega) (by show no + r ≠ g; have := hgs.out; omega) (by show gm ≠ g; have := hgs.out; omega) (by show gm ≠ g; have := hgs.out; omega))
                (first | (go_at_call 43; refine HG.out.mono ?_; rintro e w11 ⟨rfl, hrm, hom⟩))
              have HS7 : Hid (Sit w g gm no tl tlm (q7 V6 m r) m w11) := HS6.out.drew.only hom (by unfold q7; rw [Hx.eq, Hy.eq]; exact hrm) hgs.out
              have HW7 : Hid (Bl.Words 16 (q7 V6 m r)) := HW6.out.g _ _ _ _ _ _
              clear hrm hom HG HCC Hx Hy HS6 HW6 ho1 ho2 ho1' ho2' ho1'' ho2'' hx hy
              generalize q7 V6 m r = V7 at *
              go_wp2_with fail
              obtain ⟨o1, o2, x, y, ho1, ho2, hx, hy, Hx, Hy, HCC⟩ := reads4 HS7.out HMW.out hlt (show 14 < 16 by omega) (show 15 < 16 by omega)
              have ho1' : (o1 : Int) < 16 := by omega
              have ho2' : (o2 : Int) < 16 := by omega
              have ho1'' : (0 : Int) ≤ (o1 : Int) := Int.natCast_nonneg _
              have ho2'' : (0 : Int) ≤ (o2 : Int) := Int.natCast_nonneg _
              have HG : Hid (Calls Tryd.prog 43 #[.slice (some ⟨g, 0, none⟩) 16 cap, .int .i64 3, .int .i64 4, .int .i64 9, .int .i64 14, .int .u32 (x : Int), .int .u32 (y : Int)] w11.drew fun e w' => e = .returned undef ∧ Row w' g 59 (Bl.g V7 3 4 9 14 x y) tl ∧ Only g w11.drew w') := G_any g 59 cap V7 tl 3 4 9 14 x y w11.drew HW7.out HS7.out.row (by omega) (by omega) (by omega) (by omega)
              go_region_held3 (fun w' => w'.cell? ⟨no + r, 14, none⟩ = some (.int .i64 (o1 : Int)) ∧ w'.cell? ⟨no + r, 15, none⟩ = some (.int .i64 (o2 : Int)) ∧ w'.cell? ⟨gm, o1, none⟩ = some (.int .u32 (x : Int)) ∧ w'.cell? ⟨gm, o2, none⟩ = some (.int .u32 (y : Int)))
                (first | exact HCC.out | exact four_only (by exact HCC.out) hom (by show no + r ≠ g; have := hgs.out; omega) (by show no + r ≠ g; have := hgs.out; omega) (by show gm ≠ g; have := hgs.out; omega) (by show gm ≠ g; have := hgs.out; omega))
                (first | (go_at_call 43; refine HG.out.mono ?_; rintro e w12 ⟨rfl, hrm, hom⟩))
              have HS8 : Hid (Sit w g gm no tl tlm (q8 V7 m r) m w12) := HS7.out.drew.only hom (by unfold q8; rw [Hx.eq, Hy.eq]; exact hrm) hgs.out
              have HW8 : Hid (Bl.Words 16 (q8 V7 m r)) := HW7.out.g _ _ _ _ _ _
              clear hrm hom HG HCC Hx Hy HS7 HW7 ho1 ho2 ho1' ho2' ho1'' ho2'' hx hy
              go_wp2_with fail
              go_roundw
              case rel => exact ⟨r + 1, by omega, by go_num, by rw [HN.eq]; exact HS8.out⟩
              case measure => (simp [intOf]) <;> omega
            · have hr10 : r = 10 := by omega
              subst hr10
              have HV : Hid (Bl.Words 16 (Bl.mixed h b n last)) := by show Bl.Words 16 _; rw [HMX.out.eq]; exact HVW.out.rounds _ 10
              rw [← HMX.out.eq] at hS
              have HRV : Hid (Row wr g 59 (Bl.mixed h b n last) tl) := hS.row
              have HBV : Hid (Below w.heap.size w wr) := hS.below
              have hgv : g < wr.heap.size := hS.row.lt
              have hszv : w.heap.size ≤ wr.heap.size := hS.below.size
              have HTK : Is (Bl.taken h b n last) ((List.range 8).map (Bl.out h (Bl.mixed h b n last))) := ⟨rfl⟩
              clear hS HMX HS0 HS4 HVW
              generalize Bl.mixed h b n last = V at *
              rename World => wv
              go_wp2_with fail
              go_loopw [15, 16] (fun s i wq => ∃ k : Nat, k ≤ 8 ∧ i = .int .i64 k ∧ wq.ownsRow wv.heap.size 59 1 s k ((((List.range 8).map (Bl.out h V)).take k).map V32) ∧ Below wv.heap.size wv wq) (fun _ i _ => 8 - (intOf i).toNat)
              case atStart => exact ⟨0, by omega, rfl, ⟨rfl, .inl ⟨rfl, rfl⟩⟩, Below.refl _ _⟩
              case round =>
                obtain ⟨k, hk, rfl, hO0, hBr⟩ := hrel
                have hO := (show Hid (wr.ownsRow wv.heap.size 59 1 _ k ((((List.range 8).map (Bl.out h V)).take k).map V32)) from hO0)
                clear hO0
                have hszr := hBr.size
                by_cases hlt8 : k < 8
                · have c0 : wr.cell? ⟨hd, ho + k, none⟩ = some (.int .u32 (h.getD k 0 : Nat)) := (hBr.cell (p := ⟨hd, ho + k, none⟩) (show hd < wv.heap.size by omega)).trans ((HBV.out.cell (p := ⟨hd, ho + k, none⟩) hhd).trans (HHC.out k hlt8))
                  obtain ⟨k8, hk8⟩ : ∃ k8, k8 = 8 + k := ⟨_, rfl⟩
                  have c1 := ((HRV.out.below hBr hgv).at k (by rw [HV.out.1]; omega)).1
                  have c2 := ((HRV.out.below hBr hgv).at k8 (by rw [HV.out.1]; omega)).1
                  have l0 := HHW.out.at k
                  have l1 := HV.out.at k
                  have l2 := HV.out.at k8
                  have HW : Is (Bl.out h V k) (h.getD k 0 ^^^ V.getD k 0 ^^^ V.getD k8 0) := ⟨by rw [hk8]; rfl⟩
                  have HSC : Hid (wr.cell? ⟨hd, ho + k, none⟩ = some (.int .u32 (h.getD k 0 : Nat)) ∧ wr.cell? ⟨g, k, none⟩ = some (.int .u32 (V.getD k 0 : Nat)) ∧ wr.cell? ⟨g, k8, none⟩ = some (.int .u32 (V.getD k8 0 : Nat))) := ⟨c0, c1, c2⟩
                  clear c0 c1 c2
                  generalize h.getD k 0 = x0 at *
                  generalize V.getD k 0 = x1 at *
                  generalize V.getD k8 0 = x2 at *
                  have e8 : (k : Int) + 8 = (k8 : Int) := by omega
                  have w8 := wrap64 k8 (by omega)
                  have i0 : (k : Int) < 8 := by omega
                  have i0' : (k : Int) < 16 := by omega
                  have i1 : (k8 : Int) < 16 := by omega
                  have j0 : (0 : Int) ≤ (k : Int) := Int.natCast_nonneg _
                  have j1 : (0 : Int) ≤ (k8 : Int) := Int.natCast_nonneg _
                  have X1 := u32_xor_nat x0 x1 l0 l1
                  have X2 := u32_xor_nat (x0 ^^^ x1) x2 (Bl.xor_lt l0 l1) l2
                  clear hk8 l0 l1 l2
                  go_wp2_with fail
                  go_region_held3 (fun w' => w'.cell? ⟨hd, ho + k, none⟩ = some (.int .u32 (x0 : Nat)) ∧ w'.cell? ⟨g, k, none⟩ = some (.int .u32 (x1 : Nat)) ∧ w'.cell? ⟨g, k8, none⟩ = some (.int .u32 (x2 : Nat)))
                    (first | exact HSC.out | assumption | exact three_new (by exact HSC.out) (show hd < _ by omega) (show g < _ by omega) (show g < _ by omega) | exact three_below (by exact HSC.out) (show hd < _ by omega) (show g < _ by omega) (show g < _ by omega) hszr hB')
                    (first | (refine step_append_words rfl (.tmp 213) (.tmp 229) rfl wv.heap.size _ k _ rfl (owns_new hO.out _) ⟨wr.heap.size, 0, none⟩ 1 1 [Bl.out h V k] rfl rfl (one_new wr (by rw [HW.eq])) (by omega) (by simp; omega) ?_; intro v' w' hO' hB'))
                  go_wp2
                  go_roundw
                  case rel =>
                    have HF : ∃ k' : Nat, k' ≤ 8 ∧ Value.int .i64 ((k : Int) + 1) = .int .i64 k' ∧ w'.ownsRow wv.heap.size 59 1 v' k' ((((List.range 8).map (Bl.out h V)).take k').map V32) ∧ Below wv.heap.size wv w' := ⟨k + 1, by omega, by go_num, by rw [out_take h V k hlt8]; exact hO', hBr.trans ((((Below.refl _ _).alloc (Nat.le_refl _) _).drew.mono hszr).trans hB')⟩
                    first | exact HF | ((repeat apply Exists.intro); exact ⟨HF, rfl⟩)
                  case measure => (simp [intOf]) <;> omega
                · have hk8 : k = 8 := by omega
                  subst hk8
                  have hl8 : ((List.range 8).map (Bl.out h V)).length = 8 := by simp
                  rw [List.take_of_length_le (by omega)] at hO
                  obtain ⟨go, capo, tlo, rfl, hgo, hco, hlo, hRo⟩ := own_row hO.out (by omega)
                  clear hRo
                  go_wp2_with fail
                  go_ret
                  exact ⟨go, capo, rfl, by rw [HTK.eq]; exact owns_mono hO.out hszv, HBV.out.trans (hBr.mono hszv)⟩
end Go.Proofs.YtefpaebbendnmaaDoor.BK
