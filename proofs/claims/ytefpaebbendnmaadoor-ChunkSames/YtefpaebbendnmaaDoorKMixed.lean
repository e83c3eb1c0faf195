/- Proved: mixed answers the sixteen words behind the ten rounds. Conditions: words below 2^32, and the table of the orders holds its numbers. -/
import Derived.Test.YtefpaebbendnmaaDoorKBegun
import Derived.Test.YtefpaebbendnmaaDoorKMix
namespace Go.Proofs.YtefpaebbendnmaaDoor.BK
open Go.RowKit
theorem wrap64 (n : Nat) (h : n < 9223372036854775808) : IntKind.i64.wrap (n : Int) = (n : Int) := by
  rw [IntKind.wrap_i64]; omega
set_option maxRecDepth 100000 in
theorem flat_row (r : Nat) (hr : r < 10) : (flat.map V8).toArray.extract (r * 16) (r * 16 + 16) = arr8 (Bl.order.getD r []) := by
  have h : r = 0 ∨ r = 1 ∨ r = 2 ∨ r = 3 ∨ r = 4 ∨ r = 5 ∨ r = 6 ∨ r = 7 ∨ r = 8 ∨ r = 9 := by omega
  rcases h with rfl | rfl | rfl | rfl | rfl | rfl | rfl | rfl | rfl | rfl <;> rfl
theorem order_length (r : Nat) (hr : r < 10) : (Bl.order.getD r []).length = 16 := by
  have h : r = 0 ∨ r = 1 ∨ r = 2 ∨ r = 3 ∨ r = 4 ∨ r = 5 ∨ r = 6 ∨ r = 7 ∨ r = 8 ∨ r = 9 := by omega
  rcases h with rfl | rfl | rfl | rfl | rfl | rfl | rfl | rfl | rfl | rfl <;> rfl
theorem size70 : (Tryd.prog.info? 90).map (·.size) = some 16 := by kernel_rfl
theorem size71 : (Tryd.prog.info? 91).map (·.size) = some 160 := by kernel_rfl
theorem Row8.below {w w' : World} {g t B : Nat} {v : List Nat} (h : Row8 w g t v) (hb : Below B w w') (hg : g < B) : Row8 w' g t v := (hb.block g hg).trans h
theorem Row.below {w w' : World} {g t B : Nat} {v : List Nat} {tl : List Value} (h : Row w g t v tl) (hb : Below B w w') (hg : g < B) : Row w' g t v tl := (hb.block g hg).trans h
theorem Only.row8 {g : Nat} {a b : World} (h : Only g a b) {k t : Nat} {v : List Nat} (hk : k ≠ g) (hr : Row8 a k t v) : Row8 b k t v := (h.block k hk).trans hr
theorem Only.cell {g : Nat} {a b : World} (h : Only g a b) {p : Addr} (hp : p.block ≠ g) : b.cell? p = a.cell? p := World.cell?_of_block (w := a) (h.block p.block hp)
def Four (w : World) (p q r s : Addr) (a b c d : Value) : Prop := w.cell? p = some a ∧ w.cell? q = some b ∧ w.cell? r = some c ∧ w.cell? s = some d
theorem four_only {g : Nat} {w w' : World} {p q r s : Addr} {a b c d : Value} (h : w.cell? p = some a ∧ w.cell? q = some b ∧ w.cell? r = some c ∧ w.cell? s = some d) (ho : Only g w w') (hp : p.block ≠ g) (hq : q.block ≠ g) (hr : r.block ≠ g) (hs : s.block ≠ g) :
    w'.cell? p = some a ∧ w'.cell? q = some b ∧ w'.cell? r = some c ∧ w'.cell? s = some d := by
  rw [ho.cell hp, ho.cell hq, ho.cell hr, ho.cell hs]; exact h
/- what a loop of mixings carries along: the square at block n, the block's words behind it, the result's place, the order's block -/
structure Sq (n : Nat) (w : World) (V m : List Nat) (wr : World) : Prop where
  row : Row wr n 78 V []
  ms : Row wr (n + 1) 77 m []
  res : ∃ cs : Array Value, wr.heap[n + 2]? = some (.cells cs 78 (0, 0)) ∧ cs.size = 16
  below : Below n w wr
theorem Sq.only {n : Nat} {w wr wr' : World} {V V' m : List Nat} (h : Sq n w V m wr) (ho : Only n wr wr') (hr : Row wr' n 78 V' []) : Sq n w V' m wr' :=
  ⟨hr, ho.row (by omega) h.ms, ⟨_, (ho.block _ (by omega)).trans h.res.choose_spec.1, h.res.choose_spec.2⟩, h.below.trans (ho.below (Nat.le_refl _))⟩
theorem Sq.past {n : Nat} {w wr wr' : World} {V m : List Nat} (h : Sq n w V m wr) {B : Nat} (hB : n + 3 ≤ B) (hb : Below B wr wr') : Sq n w V m wr' :=
  ⟨h.row.below hb (by omega), h.ms.below hb (by omega), ⟨_, (hb.block _ (by omega)).trans h.res.choose_spec.1, h.res.choose_spec.2⟩, h.below.trans (hb.mono (by omega))⟩
theorem Sq.size {n : Nat} {w wr : World} {V m : List Nat} (h : Sq n w V m wr) : n + 3 ≤ wr.heap.size := by
  have := (Array.getElem?_eq_some_iff.1 h.res.choose_spec.1).1
  omega
structure OrdIs (r : Nat) (O : List Nat) : Prop where
  len : O.length = 16
  val : ∀ i, Bl.ord r i = O.getD i 0
  lt : ∀ i, i < 16 → Bl.ord r i < 16
structure RoundIs (r : Nat) (v m V : List Nat) : Prop where
  words : Bl.Words 16 V
  next : Bl.rounds v m (r + 1) = Bl.dia (Bl.col V m r 4) m r 4
structure RoundIs' (r : Nat) (v m V4 : List Nat) : Prop where
  words : Bl.Words 16 V4
  next : Bl.rounds v m (r + 1) = Bl.dia V4 m r 4
theorem sq_order {n : Nat} {w wr w2 : World} {V m O : List Nat} {cs0 : Array Value} (hS : Sq n w V m wr) (hw : (wr.alloc (.cells cs0 90)).setRow wr.heap.size (arr8 O) = w2) : Sq n w V m w2 ∧ Row8 w2 wr.heap.size 90 O := by
  subst hw
  exact ⟨hS.past hS.size (below_setRow ((Below.refl _ _).alloc (Nat.le_refl _) _) (Nat.le_refl _) _), setRow_heap _ _ _ _ _ _ (heap_alloc_new wr _)⟩
theorem dia_letters (j : Nat) (h : j < 4) : ∃ j1 t1 j4 j2 t2 j8 j3 t3 j12 jd ja jb : Nat, (j : Int) + 1 = (j1 : Int) ∧ IntKind.i64.wrap (j1 : Int) = (j1 : Int) ∧ (j1 : Int) % 4 = (t1 : Int) ∧ (j1 : Int).tmod 4 = (t1 : Int) ∧ IntKind.i64.wrap (t1 : Int) = (t1 : Int) ∧ (4 : Int) + (t1 : Int) = (j4 : Int) ∧ IntKind.i64.wrap (j4 : Int) = (j4 : Int) ∧ j4 < 16 ∧ Hid (j4 = 4 + (j + 1) % 4) ∧ (j : Int) + 2 = (j2 : Int) ∧ IntKind.i64.wrap (j2 : Int) = (j2 : Int) ∧ (j2 : Int) % 4 = (t2 : Int) ∧ (j2 : Int).tmod 4 = (t2 : Int) ∧ IntKind.i64.wrap (t2 : Int) = (t2 : Int) ∧ (8 : Int) + (t2 : Int) = (j8 : Int) ∧ IntKind.i64.wrap (j8 : Int) = (j8 : Int) ∧ j8 < 16 ∧ Hid (j8 = 8 + (j + 2) % 4) ∧ (j : Int) + 3 = (j3 : Int) ∧ IntKind.i64.wrap (j3 : Int) = (j3 : Int) ∧ (j3 : Int) % 4 = (t3 : Int) ∧ (j3 : Int).tmod 4 = (t3 : Int) ∧ IntKind.i64.wrap (t3 : Int) = (t3 : Int) ∧ (12 : Int) + (t3 : Int) = (j12 : Int) ∧ IntKind.i64.wrap (j12 : Int) = (j12 : Int) ∧ j12 < 16 ∧ Hid (j12 = 12 + (j + 3) % 4) ∧ (2 : Int) * (j : Int) = (jd : Int) ∧ IntKind.i64.wrap (jd : Int) = (jd : Int) ∧ (8 : Int) + (jd : Int) = (ja : Int) ∧ (9 : Int) + (jd : Int) = (jb : Int) ∧ IntKind.i64.wrap (ja : Int) = (ja : Int) ∧ IntKind.i64.wrap (jb : Int) = (jb : Int) ∧ (ja : Int) < 16 ∧ (jb : Int) < 16 ∧ (0 : Int) ≤ (ja : Int) ∧ (0 : Int) ≤ (jb : Int) ∧ Hid (ja = 8 + 2 * j) ∧ Hid (jb = 9 + 2 * j) := by
  have t4 : ∀ x : Nat, (x : Int).tmod 4 = ((x % 4 : Nat) : Int) := fun x => (Int.tmod_eq_emod_of_nonneg (by omega)).trans (by omega)
  refine ⟨j + 1, (j + 1) % 4, 4 + (j + 1) % 4, j + 2, (j + 2) % 4, 8 + (j + 2) % 4, j + 3, (j + 3) % 4, 12 + (j + 3) % 4, 2 * j, 8 + 2 * j, 9 + 2 * j, by omega, wrap64 _ (by omega), by omega, t4 _, wrap64 _ (by omega), by omega, wrap64 _ (by omega), by omega, rfl, by omega, wrap64 _ (by omega), by omega, t4 _, wrap64 _ (by omega), by omega, wrap64 _ (by omega), by omega, rfl, by omega, wrap64 _ (by omega), by omega, t4 _, wrap64 _ (by omega), by omega, wrap64 _ (by omega), by omega, rfl, by omega, wrap64 _ (by omega), by omega, by omega, wrap64 _ (by omega), wrap64 _ (by omega), by omega, by omega, by omega, by omega, rfl, rfl⟩
/- what one mixing reads: two of the order's numbers, and the words at these places -/
theorem reads {n : Nat} {w wq : World} {V m O : List Nat} {r g a b : Nat} (hS : Sq n w V m wq) (hR : Row8 wq g 90 O) (hO : OrdIs r O) (hm : Bl.Words 16 m) (ha : a < 16) (hb : b < 16) :
    ∃ o1 o2 x y : Nat, o1 < 16 ∧ o2 < 16 ∧ x < 4294967296 ∧ y < 4294967296 ∧ Hid (m.getD (Bl.ord r a) 0 = x) ∧ Hid (m.getD (Bl.ord r b) 0 = y) ∧
      Hid (wq.cell? ⟨g, a, none⟩ = some (.int .u8 (o1 : Int)) ∧ wq.cell? ⟨g, b, none⟩ = some (.int .u8 (o2 : Int)) ∧ wq.cell? ⟨n + 1, o1, none⟩ = some (.int .u32 (x : Int)) ∧ wq.cell? ⟨n + 1, o2, none⟩ = some (.int .u32 (y : Int))) := by
  have h1 := hO.lt a ha
  have h2 := hO.lt b hb
  refine ⟨Bl.ord r a, Bl.ord r b, m.getD (Bl.ord r a) 0, m.getD (Bl.ord r b) 0, h1, h2, hm.at _, hm.at _, rfl, rfl, ?_, ?_, (hS.ms.at _ (by rw [hm.1]; exact h1)).1, (hS.ms.at _ (by rw [hm.1]; exact h2)).1⟩
  · rw [hO.val a]; exact (hR.at a (by rw [hO.len]; exact ha)).1
  · rw [hO.val b]; exact (hR.at b (by rw [hO.len]; exact hb)).1
set_option maxHeartbeats 4000000 in
set_option maxRecDepth 20000 in
theorem mixed_any (v m : List Nat) (w : World) (hv : Bl.Words 16 v) (hm : Bl.Words 16 m) (hT : Tab w) (h0 : 3 < w.heap.size) :
    Calls Tryd.prog 48 #[.agg (arr v), .agg (arr m)] w fun e w' => e = .returned (.agg (arr (Bl.rounds v m 10))) ∧ Below w.heap.size w w' := by
  have HV : Hid (Bl.Words 16 v) := hv
  have HM : Hid (Bl.Words 16 m) := hm
  have HT : Hid (Tab w) := hT
  clear hv hm hT
  obtain ⟨Z, hZ⟩ : ∃ Z, Z = Bl.rounds v m 10 := ⟨_, rfl⟩
  rw [← hZ]
  have HZ : Hid (Z = Bl.rounds v m 10) := hZ
  clear hZ
  go_enter Tryd.func48, Tryd.ntmps48
  go_upto_region 1 with fail
  have S1 : Hid (Sq w.heap.size w v m (((w.alloc (.cells (arr v) 78)).alloc (.cells (arr m) 77)).alloc (.cells (arr (Bl.zeros 16)) 78))) := by
    obtain ⟨g0, g1, g2, gz, gB⟩ := alloc3 w (.cells (arr v) 78) (.cells (arr m) 77) (.cells (arr (Bl.zeros 16)) 78)
    exact ⟨row_arr.2 g0, row_arr.2 g1, ⟨_, g2, by rw [arr_size]; rfl⟩, gB⟩
  have e16 : arr (Bl.zeros 16) = #[.int .u32 0, .int .u32 0, .int .u32 0, .int .u32 0, .int .u32 0, .int .u32 0, .int .u32 0, .int .u32 0, .int .u32 0, .int .u32 0, .int .u32 0, .int .u32 0, .int .u32 0, .int .u32 0, .int .u32 0, .int .u32 0] := rfl
  rw [← e16]
  clear e16
  generalize World.alloc (World.alloc (World.alloc w _) _) (.cells (arr (Bl.zeros 16)) 78) = w1 at *
  have HT1 : Hid (Tab w1) := HT.out.below h0 S1.out.below
  clear HT
  go_wp2_with (first | (refine wpList_load_mid rfl 91 _ rfl 3 0 rfl (flat.map V8) _ HT1.out.2 Tryd.underlying91 rfl (by rw [size71]; rfl) ?_))
  go_loopw [10] (fun i wr => ∃ r : Nat, r ≤ 10 ∧ i = .int .i64 r ∧ Sq w.heap.size w (Bl.rounds v m r) m wr) (fun i _ => 10 - (intOf i).toNat)
  case atStart => exact ⟨0, by omega, rfl, S1.out⟩
  case round =>
    obtain ⟨r, hr, rfl, hS⟩ := hrel
    by_cases hlt : r < 10
    · have hidx : ∀ W : World, (Instr.index 91 (.agg (flat.map V8).toArray) (.int .i64 (r : Int))).run Tryd.prog W = .ok (.agg (arr8 (Bl.order.getD r []))) W := fun W => by rw [run_idx_row (P := Tryd.prog) Tryd.underlying91 Tryd.underlying90 rfl size70 _ r hlt W, flat_row r hlt]
      have HS : Hid (Sq w.heap.size w (Bl.rounds v m r) m wr) := hS
      have HN : RoundIs r v m (Bl.rounds v m r) := ⟨HV.out.rounds m r, rfl⟩
      clear hS
      obtain ⟨O, hO⟩ : ∃ O, O = Bl.order.getD r [] := ⟨_, rfl⟩
      rw [← hO] at hidx
      have HO : OrdIs r O := ⟨by rw [hO]; exact order_length r hlt, fun i => by rw [hO]; rfl, Bl.ord_lt r hlt⟩
      have hiO : Hid ((Tryd.prog.info? 90).map (·.size) = some (arr8 O).size) := by show _ = _; rw [size70, arr8_size, HO.len]
      have heO : Hid (16 = (arr8 O).size) := by show _ = _; rw [arr8_size, HO.len]
      have H1O : Hid ((arr8 O).all (·.oneCell') = true) := arr8_one _
      clear hO
      generalize Bl.rounds v m r = V at *
      go_wp2_with (first | (refine store_row rfl rfl 90 _ _ rfl wr.heap.size (arr8 O) rfl rfl 90 _ (heap_alloc_new wr _) hiO.out (by exact heO.out) H1O.out ?_))
      have hn : Hid (w.heap.size + 3 ≤ wr.heap.size) := HS.out.size
      generalize hw2 : World.setRow (World.alloc wr _) wr.heap.size (arr8 O) = w2
      obtain ⟨S2, R2⟩ := sq_order HS.out hw2
      clear hw2 HS hidx hiO heO H1O S1 HT1
      generalize wr.heap.size = go at *
      rw [show decide ((r : Int) < 10) = true from decide_eq_true (by omega)]
      go_loopw [13] (fun i wq => ∃ j : Nat, j ≤ 4 ∧ i = .int .i64 j ∧ Sq w.heap.size w (Bl.col V m r j) m wq ∧ Row8 wq go 90 O) (fun i _ => 4 - (intOf i).toNat)
      case atStart => exact ⟨0, by omega, rfl, S2, R2⟩
      case round =>
        obtain ⟨j, hj, rfl, hS, hR⟩ := hrel
        have HSq : Sq w.heap.size w (Bl.col V m r j) m wr := hS
        have hWj := HN.words.col m r j
        have HNX : Hid (Bl.col V m r (j + 1) = Bl.g (Bl.col V m r j) j (4 + j) (8 + j) (12 + j) (m.getD (Bl.ord r (2 * j)) 0) (m.getD (Bl.ord r (2 * j + 1)) 0)) := rfl
        by_cases hlt4 : j < 4
        · obtain ⟨o1, o2, x, y, ho1, ho2, hx, hy, Hx, Hy, HC⟩ := reads HSq hR HO HM.out (show 2 * j < 16 by omega) (show 2 * j + 1 < 16 by omega)
          rw [Hx.out, Hy.out] at HNX
          have HNX' : Hid (Bl.col V m r (j + 1) = Bl.g (Bl.col V m r j) j (4 + j) (8 + j) (12 + j) x y) := HNX.out
          clear HNX Hx Hy
          generalize Bl.col V m r j = U at *
          have j0 : (0 : Int) ≤ (j : Int) := Int.natCast_nonneg _
          have ho1' : (o1 : Int) < 16 := by omega
          have ho2' : (o2 : Int) < 16 := by omega
          have ho1'' : (0 : Int) ≤ (o1 : Int) := Int.natCast_nonneg _
          have ho2'' : (0 : Int) ≤ (o2 : Int) := Int.natCast_nonneg _
          obtain ⟨j4, hj4⟩ : ∃ j4 : Nat, j4 = 4 + j := ⟨_, rfl⟩
          obtain ⟨j8, hj8⟩ : ∃ j8 : Nat, j8 = 8 + j := ⟨_, rfl⟩
          obtain ⟨j12, hj12⟩ : ∃ j12 : Nat, j12 = 12 + j := ⟨_, rfl⟩
          rw [← hj4, ← hj8, ← hj12] at HNX'
          have e4 : (4 : Int) + (j : Int) = (j4 : Int) := by omega
          have e8 : (8 : Int) + (j : Int) = (j8 : Int) := by omega
          have e12 : (12 : Int) + (j : Int) = (j12 : Int) := by omega
          have b4 : j4 < 16 := by omega
          have b8 : j8 < 16 := by omega
          have b12 : j12 < 16 := by omega
          clear hj4 hj8 hj12
          obtain ⟨ja, hja⟩ : ∃ ja : Nat, ja = 2 * j := ⟨_, rfl⟩
          obtain ⟨jb, hjb⟩ : ∃ jb : Nat, jb = 2 * j + 1 := ⟨_, rfl⟩
          rw [← hjb, ← hja] at HC
          have ea : (2 : Int) * (j : Int) = (ja : Int) := by omega
          have eb : (ja : Int) + 1 = (jb : Int) := by omega
          have ba : (ja : Int) < 16 := by omega
          have bb : (jb : Int) < 16 := by omega
          have ba0 : (0 : Int) ≤ (ja : Int) := Int.natCast_nonneg _
          have bb0 : (0 : Int) ≤ (jb : Int) := Int.natCast_nonneg _
          clear hja hjb
          have wa := wrap64 ja (by omega)
          have wb := wrap64 jb (by omega)
          have w4 := wrap64 j4 (by omega)
          have w8 := wrap64 j8 (by omega)
          have w12 := wrap64 j12 (by omega)
          have HMX := mix_any w.heap.size 78 U [] j j4 j8 j12 x y wr.drew hWj HSq.row (by omega) b4 b8 b12
          have HMX' : Hid (Calls Tryd.prog 55 #[.pointer (some ⟨w.heap.size, 0, none⟩), .int .i64 (j : Int), .int .i64 (j4 : Int), .int .i64 (j8 : Int), .int .i64 (j12 : Int), .int .u32 (x : Int), .int .u32 (y : Int)] wr.drew fun e w' => e = .returned undef ∧ Row w' w.heap.size 78 (Bl.g U j j4 j8 j12 x y) [] ∧ Only w.heap.size wr.drew w') := HMX
          clear HMX
          go_wp2_with fail
          go_region_held3 (fun w' => w'.cell? ⟨go, ja, none⟩ = some (.int .u8 (o1 : Int)) ∧ w'.cell? ⟨go, jb, none⟩ = some (.int .u8 (o2 : Int)) ∧ w'.cell? ⟨w.heap.size + 1, o1, none⟩ = some (.int .u32 (x : Int)) ∧ w'.cell? ⟨w.heap.size + 1, o2, none⟩ = some (.int .u32 (y : Int)))
            (first | exact HC.out | exact four_only (by exact HC.out) hom (by show go ≠ w.heap.size; have := hn.out; omega) (by show go ≠ w.heap.size; have := hn.out; omega) (by show w.heap.size + 1 ≠ w.heap.size; omega) (by show w.heap.size + 1 ≠ w.heap.size; omega))
            (first | (go_at_call 55; refine HMX'.out.mono ?_; rintro e w3 ⟨rfl, hrm, hom⟩))
          go_wp2
          go_roundw
          case rel => exact ⟨j + 1, by omega, by go_num, by rw [HNX'.out]; exact HSq.only ((Only.refl _ _).drew.trans hom) hrm, (((Only.refl _ _).drew.trans hom).row8 (by have := hn.out; omega) hR)⟩
          case measure => (simp [intOf]) <;> omega
        · have hj4 : j = 4 := by omega
          subst hj4
          have HN' : RoundIs' r v m (Bl.col V m r 4) := ⟨hWj, HN.next⟩
          clear HNX hWj hS HN
          rename RoundIs' r v m (Bl.col V m r 4) => HN
          generalize Bl.col V m r 4 = V4 at *
          rw [show ((4 : Nat) : Int) = 4 from rfl]
          go_wp2_with fail
          go_loopw [38] (fun i wq => ∃ j : Nat, j ≤ 4 ∧ i = .int .i64 j ∧ Sq w.heap.size w (Bl.dia V4 m r j) m wq ∧ Row8 wq go 90 O) (fun i _ => 4 - (intOf i).toNat)
          case atStart => exact ⟨0, by omega, rfl, HSq, hR⟩
          case round =>
            obtain ⟨j, hj, rfl, hS, hR⟩ := hrel
            have HSq2 : Sq w.heap.size w (Bl.dia V4 m r j) m wr := hS
            have hWj := HN.words.dia m r j
            have HNX : Hid (Bl.dia V4 m r (j + 1) = Bl.g (Bl.dia V4 m r j) j (4 + (j + 1) % 4) (8 + (j + 2) % 4) (12 + (j + 3) % 4) (m.getD (Bl.ord r (8 + 2 * j)) 0) (m.getD (Bl.ord r (9 + 2 * j)) 0)) := rfl
            by_cases hlt4 : j < 4
            · obtain ⟨o1, o2, x, y, ho1, ho2, hx, hy, Hx, Hy, HC⟩ := reads HSq2 hR HO HM.out (show 8 + 2 * j < 16 by omega) (show 9 + 2 * j < 16 by omega)
              rw [Hx.out, Hy.out] at HNX
              have HNX' : Hid (Bl.dia V4 m r (j + 1) = Bl.g (Bl.dia V4 m r j) j (4 + (j + 1) % 4) (8 + (j + 2) % 4) (12 + (j + 3) % 4) x y) := HNX.out
              clear HNX Hx Hy
              generalize Bl.dia V4 m r j = U at *
              have j0 : (0 : Int) ≤ (j : Int) := Int.natCast_nonneg _
              have ho1' : (o1 : Int) < 16 := by omega
              have ho2' : (o2 : Int) < 16 := by omega
              have ho1'' : (0 : Int) ≤ (o1 : Int) := Int.natCast_nonneg _
              have ho2'' : (0 : Int) ≤ (o2 : Int) := Int.natCast_nonneg _
              obtain ⟨j1, t1, j4, j2, t2, j8, j3, t3, j12, jd, ja, jb, ej1, wj1, em1, et1, wt1, e1, w1, b1, H1, ej2, wj2, em2, et2, wt2, e2, w2, b2, H2, ej3, wj3, em3, et3, wt3, e3, w3, b3, H3, ed, wd, ea, eb, wa, wb, ba, bb, ba0, bb0, Ha, Hb⟩ := dia_letters j hlt4
              rw [← H1.out, ← H2.out, ← H3.out] at HNX'
              rw [← Ha.out, ← Hb.out] at HC
              clear H1 H2 H3 Ha Hb
              have HMX := mix_any w.heap.size 78 U [] j j4 j8 j12 x y wr.drew hWj HSq2.row (by omega) b1 b2 b3
              have HMX' : Hid (Calls Tryd.prog 55 #[.pointer (some ⟨w.heap.size, 0, none⟩), .int .i64 (j : Int), .int .i64 (j4 : Int), .int .i64 (j8 : Int), .int .i64 (j12 : Int), .int .u32 (x : Int), .int .u32 (y : Int)] wr.drew fun e w' => e = .returned undef ∧ Row w' w.heap.size 78 (Bl.g U j j4 j8 j12 x y) [] ∧ Only w.heap.size wr.drew w') := HMX
              clear HMX
              go_wp2_with fail
              go_region_held3 (fun w' => w'.cell? ⟨go, ja, none⟩ = some (.int .u8 (o1 : Int)) ∧ w'.cell? ⟨go, jb, none⟩ = some (.int .u8 (o2 : Int)) ∧ w'.cell? ⟨w.heap.size + 1, o1, none⟩ = some (.int .u32 (x : Int)) ∧ w'.cell? ⟨w.heap.size + 1, o2, none⟩ = some (.int .u32 (y : Int)))
                (first | exact HC.out | exact four_only (by exact HC.out) hom (by show go ≠ w.heap.size; have := hn.out; omega) (by show go ≠ w.heap.size; have := hn.out; omega) (by show w.heap.size + 1 ≠ w.heap.size; omega) (by show w.heap.size + 1 ≠ w.heap.size; omega))
                (first | (go_at_call 55; refine HMX'.out.mono ?_; rintro e w3 ⟨rfl, hrm, hom⟩))
              go_wp2
              go_roundw
              case rel => exact ⟨j + 1, by omega, by go_num, by rw [HNX'.out]; exact HSq2.only ((Only.refl _ _).drew.trans hom) hrm, (((Only.refl _ _).drew.trans hom).row8 (by have := hn.out; omega) hR)⟩
              case measure => (simp [intOf]) <;> omega
            · have hj4 : j = 4 := by omega
              subst hj4
              go_wp2
              go_roundw
              case rel => exact ⟨r + 1, by omega, by go_num, by rw [HN.next]; exact HSq2⟩
              case measure => (simp [intOf]) <;> omega
    · have hr10 : r = 10 := by omega
      subst hr10
      rw [← HZ.out] at hS
      obtain ⟨cs0, hg0, hsz0⟩ := hS.res
      have hW : Bl.Words 16 Z := by rw [HZ.out]; exact HV.out.rounds m 10
      have hi : Hid ((Tryd.prog.info? 78).map (·.size) = some (arr Z).size) := hi65 hW.1
      have he : Hid (cs0.size = (arr Z).size) := by show _ = _; rw [hsz0, arr_size, hW.1]
      have H1 : Hid ((arr Z).all (·.oneCell') = true) := arr_one _
      have HG0 : Hid (wr.heap[w.heap.size + 2]? = some (.cells cs0 78 (0, 0))) := hg0
      have HG : Hid (wr.heap[w.heap.size]? = some (.cells (arr Z) 78 (0, 0))) := row_arr.1 hS.row
      have hB := hS.below
      clear hS hW hg0 hsz0 HZ
      go_wp2_with (first | (refine wpList_load_row rfl 78 _ rfl w.heap.size rfl 78 (arr Z) (0, 0) _ HG.out Tryd.underlying78 rfl hi.out ?_) | (refine store_row rfl rfl 78 _ _ rfl (w.heap.size + 2) (arr Z) rfl rfl 78 cs0 HG0.out hi.out he.out H1.out ?_))
      refine bodyPost_ret (v := .agg (arr Z)) ?_ rfl ⟨rfl, below_setRow hB (by omega) _⟩
      exact results_cell_row Tryd.results48 _ _ (w.heap.size + 2) 78 _ (0, 0) _ rfl (setRow_heap _ _ cs0 _ _ _ HG0.out) Tryd.underlying78 rfl hi.out
end Go.Proofs.YtefpaebbendnmaaDoor.BK
