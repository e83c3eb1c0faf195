/- Proved: Unhex reads the text of a digest, or refuses it. -/
import Derived.Test.YtaeeibllmpaebaaDoorRReg
import Derived.Laws.ResultCell
namespace Go.Proofs.YtaeeibllmpaebaaDoor
open Go.RowKit
def pair (l : List Nat) (i : Nat) : Nat := dval (l.getD (2 * i) 0) * 16 + dval (l.getD (2 * i + 1) 0)
def unhex (l : List Nat) : List Nat := (List.range 32).map (pair l)
/- a text of 64 digits -/
structure Good (l : List Nat) : Prop where
  len : l.length = 64
  dig : ∀ i, i < 64 → dval (l.getD i 0) < 16
theorem dval_le (x : Nat) : dval x ≤ 16 := by
  unfold dval; split
  · omega
  · split <;> omega
theorem unhex_length (l : List Nat) : (unhex l).length = 32 := by simp [unhex]
theorem unhex_at (l : List Nat) (k : Nat) (hk : k < 32) : (unhex l).getD k 0 = pair l k := by
  unfold unhex
  rw [List.getD_eq_getElem?_getD, List.getElem?_map, List.getElem?_range hk]; rfl
theorem unhex_set (l : List Nat) (k : Nat) (hk : k < 32) : (Bl.part (unhex l) (Bl.zeros 32) k).set k (pair l k) = Bl.part (unhex l) (Bl.zeros 32) (k + 1) := by
  rw [← unhex_at l k hk]
  exact Bl.part_set (unhex_length l) (by simp [Bl.zeros]) hk
theorem results_two {fn : Func} {p u : Tmp} (h : fn.results = #[.cell p 24, .tmp u]) (tmps : Array Value) (w : World) (g : Nat) (t : TypeId) (cs : Array Value) (fr : Nat × Nat) (v : Value)
    (hp : tmps.getD p undef = .pointer (some ⟨g, 0, none⟩)) (hv : tmps.getD u undef = v) (hg : w.heap[g]? = some (.cells cs t fr)) (hi : (Tryd.prog.info? 24).map (·.size) = some cs.size) :
    (results fn tmps).run Tryd.prog w = .ok (.tuple #[.agg cs, v]) w := by
  have hp' : tmps[p]?.getD undef = .pointer (some ⟨g, 0, none⟩) := by simpa using hp
  have hv' : tmps[u]?.getD undef = v := by simpa using hv
  simp [results, h, hp', hv', asAddr, run_loadVar_row w g t 24 cs fr _ hg Tryd.underlying24 rfl hi]
theorem bytes_get (l : List Nat) (h8 : ∀ x ∈ l, x < 256) (i : Nat) (h : i < (Bl.toBytes l).size) : ((Bl.toBytes l)[i]'h).toNat = l.getD i 0 := by
  have hi : i < l.length := by simpa [Bl.toBytes, ByteArray.size] using h
  have e : ((Bl.toBytes l)[i]'h) = UInt8.ofNat l[i] := by
    exact List.getElem_map (h := by simpa using hi) UInt8.ofNat
  rw [e, UInt8.toNat_ofNat', List.getD_eq_getElem?_getD, List.getElem?_eq_getElem hi, Option.getD_some, Nat.mod_eq_of_lt (h8 _ (List.getElem_mem hi))]
theorem or_hex : ∀ p : Nat, p < 16 → ∀ q : Nat, q < 16 → bits .or .u8 ((p : Int) * 16) (q : Int) = ((p * 16 + q : Nat) : Int) := by decide +kernel
set_option maxHeartbeats 1000000 in
set_option maxRecDepth 20000 in
theorem unhex_yes (l : List Nat) (w : World) (h8 : ∀ x ∈ l, x < 256) (hG : Good l) :
    Calls Tryd.prog 20 #[.string (Bl.toBytes l)] w fun e w' => e = .returned (.tuple #[.agg (arr8 (unhex l)), .int .i64 0]) ∧ Below w.heap.size w w' := by
  have hsz : (Bl.toBytes l).size = 64 := by rw [bytes_size, hG.len]
  have HG : Hid (Good l) := hG
  have H8 : Hid (∀ x ∈ l, x < 256) := h8
  have HGET : Hid (∀ i (h : i < (Bl.toBytes l).size), ((Bl.toBytes l)[i]'h).toNat = l.getD i 0) := bytes_get l h8
  clear hG h8
  generalize Bl.toBytes l = s at *
  go_enter Tryd.func20, Tryd.ntmps20
  go_wp2_with fail
  have e32 : (#[.int .u8 0, .int .u8 0, .int .u8 0, .int .u8 0, .int .u8 0, .int .u8 0, .int .u8 0, .int .u8 0, .int .u8 0, .int .u8 0, .int .u8 0, .int .u8 0, .int .u8 0, .int .u8 0, .int .u8 0, .int .u8 0, .int .u8 0, .int .u8 0, .int .u8 0, .int .u8 0, .int .u8 0, .int .u8 0, .int .u8 0, .int .u8 0, .int .u8 0, .int .u8 0, .int .u8 0, .int .u8 0, .int .u8 0, .int .u8 0, .int .u8 0, .int .u8 0] : Array Value) = arr8 (Bl.zeros 32) := rfl
  rw [e32]
  clear e32
  have R0 : Row8 ((w.alloc (.cells (arr8 (Bl.zeros 32)) 24)).alloc (.cells (arr8 (Bl.zeros 32)) 24)) w.heap.size 24 (Bl.zeros 32) := (Below.heap_alloc (w.alloc (.cells (arr8 (Bl.zeros 32)) 24)) _ w.heap.size (by simp)).trans (heap_alloc_new w _)
  have R1 : Row8 ((w.alloc (.cells (arr8 (Bl.zeros 32)) 24)).alloc (.cells (arr8 (Bl.zeros 32)) 24)) (w.heap.size + 1) 24 (Bl.zeros 32) := by
    have e := heap_alloc_new (w.alloc (.cells (arr8 (Bl.zeros 32)) 24)) (.cells (arr8 (Bl.zeros 32)) 24)
    rw [World.size_alloc'] at e
    exact e
  have B1 : Below w.heap.size w ((w.alloc (.cells (arr8 (Bl.zeros 32)) 24)).alloc (.cells (arr8 (Bl.zeros 32)) 24)) := ((Below.refl _ _).alloc (Nat.le_refl _) _).alloc (by simp) _
  go_loopw [5, 14] (fun _ s14 wr => ∃ k : Nat, k ≤ 32 ∧ s14 = .int .i64 k ∧ Row8 wr (w.heap.size + 1) 24 (Bl.part (unhex l) (Bl.zeros 32) k) ∧ Row8 wr w.heap.size 24 (Bl.zeros 32) ∧ Below w.heap.size w wr) (fun _ s14 _ => 32 - (intOf s14).toNat)
  case atStart => exact ⟨0, by omega, rfl, by rw [Bl.part_zero]; exact R1, R0, B1⟩
  case round =>
    clear R0 R1 B1
    obtain ⟨k, hk, rfl, hR1, hR0, hB⟩ := hrel
    have HR1 : Hid (Row8 wr (w.heap.size + 1) 24 (Bl.part (unhex l) (Bl.zeros 32) k)) := hR1
    have HR0 : Hid (Row8 wr w.heap.size 24 (Bl.zeros 32)) := hR0
    have HB : Hid (Below w.heap.size w wr) := hB
    by_cases hlt : k < 32
    · obtain ⟨hcl, hfz⟩ := hR1.at k (by rw [Bl.part_length (unhex_length l) (by simp [Bl.zeros]) hk]; exact hlt)
      obtain ⟨k2, hk2⟩ : ∃ k2, k2 = 2 * k := ⟨_, rfl⟩
      obtain ⟨k3, hk3⟩ : ∃ k3, k3 = k2 + 1 := ⟨_, rfl⟩
      have e2 : (2 : Int) * (k : Int) = (k2 : Int) := by omega
      have e3 : (k2 : Int) + 1 = (k3 : Int) := by omega
      have w2 := wrap64 k2 (by omega)
      have w3 := wrap64 k3 (by omega)
      have n2 : k2 < s.size := by omega
      have n3 : k3 < s.size := by omega
      have g2 := HGET.out k2 n2
      have g3 := HGET.out k3 n3
      have d2 := HG.out.dig k2 (by omega)
      have d3 := HG.out.dig k3 (by omega)
      have i2 : (k2 : Int) < 64 := by omega
      have i3 : (k3 : Int) < 64 := by omega
      have j2 : (0 : Int) ≤ (k2 : Int) := Int.natCast_nonneg _
      have j3 : (0 : Int) ≤ (k3 : Int) := Int.natCast_nonneg _
      have HNX : Is ((Bl.part (unhex l) (Bl.zeros 32) k).set k (dval (l.getD k2 0) * 16 + dval (l.getD k3 0))) (Bl.part (unhex l) (Bl.zeros 32) (k + 1)) := ⟨by rw [hk3, hk2]; exact unhex_set l k hlt⟩
      have x8 : l.getD k2 0 < 256 := by rw [List.getD_eq_getElem?_getD, List.getElem?_eq_getElem (by rw [HG.out.len]; omega)]; exact H8.out _ (List.getElem_mem _)
      have y8 : l.getD k3 0 < 256 := by rw [List.getD_eq_getElem?_getD, List.getElem?_eq_getElem (by rw [HG.out.len]; omega)]; exact H8.out _ (List.getElem_mem _)
      clear hR1 hR0 hB hk2 hk3
      generalize l.getD k2 0 = x at *
      generalize l.getD k3 0 = y at *
      have DX : Hid (∀ W : World, Calls Tryd.prog 27 #[.int .u8 (x : Int)] W fun e w' => e = .returned (.tuple #[.int .u8 (dval x : Nat), .bool true]) ∧ w' = W) := fun W => digit_yes x W x8 d2
      have DY : Hid (∀ W : World, Calls Tryd.prog 27 #[.int .u8 (y : Int)] W fun e w' => e = .returned (.tuple #[.int .u8 (dval y : Nat), .bool true]) ∧ w' = W) := fun W => digit_yes y W y8 d3
      generalize dval x = p at *
      generalize dval y = q at *
      generalize (Bl.part (unhex l) (Bl.zeros 32) k).getD k 0 = old at *
      have OH := or_hex p d2 q d3
      have i0 : (k : Int) < 32 := by omega
      have j0 : (0 : Int) ≤ (k : Int) := Int.natCast_nonneg _
      go_wp2_with fail
      refine (DX.out _).mono ?_
      rintro e w' ⟨rfl, rfl⟩
      go_wp2_with fail
      refine (DY.out _).mono ?_
      rintro e w' ⟨rfl, rfl⟩
      go_wp2_with fail
      go_roundw
      case rel => exact ⟨k + 1, by omega, by go_num, by rw [← HNX.eq]; exact HR1.out.set k _, (heap_setCell_other _ _ _ _ (by simp)).trans HR0.out, HB.out.setCell (by simp) _⟩
      case measure => (simp [intOf]) <;> omega
    · have hk32 : k = 32 := by omega
      subst hk32
      rw [Bl.part_all (unhex_length l) (by simp [Bl.zeros])] at HR1
      have hi : Hid ((Tryd.prog.info? 24).map (·.size) = some (arr8 (unhex l)).size) := hi24 (unhex_length l)
      have he : Hid ((arr8 (Bl.zeros 32)).size = (arr8 (unhex l)).size) := by show _ = _; rw [arr8_size, arr8_size, unhex_length]; rfl
      have H1 : Hid ((arr8 (unhex l)).all (·.oneCell') = true) := arr8_one _
      clear hR1 hR0 hB
      go_wp2_with (first | (refine wpList_load_row rfl 24 _ rfl (w.heap.size + 1) rfl 24 (arr8 (unhex l)) (0, 0) _ HR1.out Tryd.underlying24 rfl hi.out ?_) | (refine store_row rfl rfl 24 _ _ rfl w.heap.size (arr8 (unhex l)) rfl rfl 24 (arr8 (Bl.zeros 32)) HR0.out hi.out he.out H1.out ?_))
      refine bodyPost_ret (v := .tuple #[.agg (arr8 (unhex l)), .int .i64 0]) ?_ rfl ⟨rfl, below_setRow HB.out (Nat.le_refl _) _⟩
      exact results_two Tryd.results20 _ _ w.heap.size 24 _ (0, 0) _ rfl rfl (setRow_heap _ _ _ _ _ _ HR0.out) hi.out
set_option maxHeartbeats 1000000 in
set_option maxRecDepth 20000 in
theorem unhex_short (l : List Nat) (w : World) (hl : l.length ≠ 64) :
    Calls Tryd.prog 20 #[.string (Bl.toBytes l)] w fun e w' => e = .returned (.tuple #[.agg (arr8 (Bl.zeros 32)), .int .i64 5]) ∧ Below w.heap.size w w' := by
  have hsz : (Bl.toBytes l).size = l.length := bytes_size l
  have hne : ¬ ((l.length : Int) = 64) := by omega
  generalize Bl.toBytes l = s at *
  generalize l.length = n at *
  have R0 : Hid (Row8 ((w.alloc (.cells (arr8 (Bl.zeros 32)) 24)).alloc (.cells (arr8 (Bl.zeros 32)) 24)) w.heap.size 24 (Bl.zeros 32)) := (Below.heap_alloc (w.alloc (.cells (arr8 (Bl.zeros 32)) 24)) _ w.heap.size (by simp)).trans (heap_alloc_new w _)
  have B1 : Hid (Below w.heap.size w ((w.alloc (.cells (arr8 (Bl.zeros 32)) 24)).alloc (.cells (arr8 (Bl.zeros 32)) 24))) := ((Below.refl _ _).alloc (Nat.le_refl _) _).alloc (by simp) _
  have hi : Hid ((Tryd.prog.info? 24).map (·.size) = some (arr8 (Bl.zeros 32)).size) := hi24 rfl
  have H1 : Hid ((arr8 (Bl.zeros 32)).all (·.oneCell') = true) := arr8_one _
  go_enter Tryd.func20, Tryd.ntmps20
  go_wp2_with (first | (refine store_row rfl rfl 24 _ _ rfl w.heap.size (arr8 (Bl.zeros 32)) rfl rfl 24 (arr8 (Bl.zeros 32)) R0.out hi.out rfl H1.out ?_))
  refine bodyPost_ret (v := .tuple #[.agg (arr8 (Bl.zeros 32)), .int .i64 5]) ?_ rfl ⟨rfl, below_setRow B1.out (Nat.le_refl _) _⟩
  exact results_two Tryd.results20 _ _ w.heap.size 24 _ (0, 0) _ rfl rfl (setRow_heap _ _ _ _ _ _ R0.out) hi.out
set_option maxHeartbeats 1000000 in
set_option maxRecDepth 20000 in
theorem unhex_bad (l : List Nat) (w : World) (h8 : ∀ x ∈ l, x < 256) (hl : l.length = 64) (j : Nat) (hj : j < 64) (hb : dval (l.getD j 0) = 16) :
    Calls Tryd.prog 20 #[.string (Bl.toBytes l)] w fun e w' => e = .returned (.tuple #[.agg (arr8 (Bl.zeros 32)), .int .i64 5]) ∧ Below w.heap.size w w' := by
  have hsz : (Bl.toBytes l).size = 64 := by rw [bytes_size, hl]
  have H8 : Hid (∀ x ∈ l, x < 256) := h8
  have HJ : Hid (dval (l.getD j 0) = 16) := hb
  have HLN : Hid (l.length = 64) := hl
  have HGET : Hid (∀ i (h : i < (Bl.toBytes l).size), ((Bl.toBytes l)[i]'h).toNat = l.getD i 0) := bytes_get l h8
  clear h8 hb hl
  generalize Bl.toBytes l = s at *
  go_enter Tryd.func20, Tryd.ntmps20
  go_wp2_with fail
  have e32 : (#[.int .u8 0, .int .u8 0, .int .u8 0, .int .u8 0, .int .u8 0, .int .u8 0, .int .u8 0, .int .u8 0, .int .u8 0, .int .u8 0, .int .u8 0, .int .u8 0, .int .u8 0, .int .u8 0, .int .u8 0, .int .u8 0, .int .u8 0, .int .u8 0, .int .u8 0, .int .u8 0, .int .u8 0, .int .u8 0, .int .u8 0, .int .u8 0, .int .u8 0, .int .u8 0, .int .u8 0, .int .u8 0, .int .u8 0, .int .u8 0, .int .u8 0, .int .u8 0] : Array Value) = arr8 (Bl.zeros 32) := rfl
  rw [e32]
  clear e32
  have R0 : Row8 ((w.alloc (.cells (arr8 (Bl.zeros 32)) 24)).alloc (.cells (arr8 (Bl.zeros 32)) 24)) w.heap.size 24 (Bl.zeros 32) := (Below.heap_alloc (w.alloc (.cells (arr8 (Bl.zeros 32)) 24)) _ w.heap.size (by simp)).trans (heap_alloc_new w _)
  have R1 : Row8 ((w.alloc (.cells (arr8 (Bl.zeros 32)) 24)).alloc (.cells (arr8 (Bl.zeros 32)) 24)) (w.heap.size + 1) 24 (Bl.zeros 32) := by
    have e := heap_alloc_new (w.alloc (.cells (arr8 (Bl.zeros 32)) 24)) (.cells (arr8 (Bl.zeros 32)) 24)
    rw [World.size_alloc'] at e
    exact e
  have B1 : Below w.heap.size w ((w.alloc (.cells (arr8 (Bl.zeros 32)) 24)).alloc (.cells (arr8 (Bl.zeros 32)) 24)) := ((Below.refl _ _).alloc (Nat.le_refl _) _).alloc (by simp) _
  go_loopw [5, 14] (fun _ s14 wr => ∃ (k : Nat) (v : List Nat), k ≤ 32 ∧ 2 * k ≤ j ∧ s14 = .int .i64 k ∧ v.length = 32 ∧ Row8 wr (w.heap.size + 1) 24 v ∧ Row8 wr w.heap.size 24 (Bl.zeros 32) ∧ Below w.heap.size w wr) (fun _ s14 _ => 32 - (intOf s14).toNat)
  case atStart => exact ⟨0, Bl.zeros 32, by omega, by omega, rfl, rfl, R1, R0, B1⟩
  case round =>
    clear R0 R1 B1
    obtain ⟨k, v, hk, hkj, rfl, hvl, hR1, hR0, hB⟩ := hrel
    have HR1 : Hid (Row8 wr (w.heap.size + 1) 24 v) := hR1
    have HR0 : Hid (Row8 wr w.heap.size 24 (Bl.zeros 32)) := hR0
    have HB : Hid (Below w.heap.size w wr) := hB
    have hlt : k < 32 := by omega
    obtain ⟨hcl, hfz⟩ := hR1.at k (by omega)
    have HVL : Hid (v.length = 32) := hvl
    obtain ⟨k2, hk2⟩ : ∃ k2, k2 = 2 * k := ⟨_, rfl⟩
    obtain ⟨k3, hk3⟩ : ∃ k3, k3 = k2 + 1 := ⟨_, rfl⟩
    have e2 : (2 : Int) * (k : Int) = (k2 : Int) := by omega
    have e3 : (k2 : Int) + 1 = (k3 : Int) := by omega
    have w2 := wrap64 k2 (by omega)
    have w3 := wrap64 k3 (by omega)
    have n2 : k2 < s.size := by omega
    have n3 : k3 < s.size := by omega
    have g2 := HGET.out k2 n2
    have g3 := HGET.out k3 n3
    have i2 : (k2 : Int) < 64 := by omega
    have i3 : (k3 : Int) < 64 := by omega
    have j2 : (0 : Int) ≤ (k2 : Int) := Int.natCast_nonneg _
    have j3 : (0 : Int) ≤ (k3 : Int) := Int.natCast_nonneg _
    have x8 : l.getD k2 0 < 256 := by rw [List.getD_eq_getElem?_getD, List.getElem?_eq_getElem (by rw [HLN.out]; omega)]; exact H8.out _ (List.getElem_mem _)
    have y8 : l.getD k3 0 < 256 := by rw [List.getD_eq_getElem?_getD, List.getElem?_eq_getElem (by rw [HLN.out]; omega)]; exact H8.out _ (List.getElem_mem _)
    have HNEXT : Hid (dval (l.getD k2 0) < 16 → dval (l.getD k3 0) < 16 → 2 * (k + 1) ≤ j) := fun h1 h2 => by
      by_cases c1 : j = k2
      · rw [c1] at HJ; have := HJ.out; omega
      · by_cases c2 : j = k3
        · rw [c2] at HJ; have := HJ.out; omega
        · omega
    clear hR1 hR0 hB hk2 hk3 hvl
    generalize l.getD k2 0 = x at *
    generalize l.getD k3 0 = y at *
    have dx := dval_le x
    have dy := dval_le y
    generalize v.getD k 0 = old at *
    have i0 : (k : Int) < 32 := by omega
    have j0 : (0 : Int) ≤ (k : Int) := Int.natCast_nonneg _
    by_cases hx : dval x < 16
    · have DX : Hid (∀ W : World, Calls Tryd.prog 27 #[.int .u8 (x : Int)] W fun e w' => e = .returned (.tuple #[.int .u8 (dval x : Nat), .bool true]) ∧ w' = W) := fun W => digit_yes x W x8 hx
      by_cases hy : dval y < 16
      · have DY : Hid (∀ W : World, Calls Tryd.prog 27 #[.int .u8 (y : Int)] W fun e w' => e = .returned (.tuple #[.int .u8 (dval y : Nat), .bool true]) ∧ w' = W) := fun W => digit_yes y W y8 hy
        have HNJ : Hid (2 * (k + 1) ≤ j) := HNEXT.out hx hy
        clear HNEXT
        generalize dval x = p at *
        generalize dval y = q at *
        have OH := or_hex p hx q hy
        go_wp2_with fail
        refine (DX.out _).mono ?_
        rintro e w' ⟨rfl, rfl⟩
        go_wp2_with fail
        refine (DY.out _).mono ?_
        rintro e w' ⟨rfl, rfl⟩
        go_wp2_with fail
        go_roundw
        case rel => exact ⟨k + 1, v.set k (p * 16 + q), by omega, HNJ.out, by go_num, by rw [List.length_set]; exact HVL.out, HR1.out.set k _, (heap_setCell_other _ _ _ _ (by simp)).trans HR0.out, HB.out.setCell (by simp) _⟩
        case measure => (simp [intOf]) <;> omega
      · have DY : Hid (∀ W : World, Calls Tryd.prog 27 #[.int .u8 (y : Int)] W fun e w' => e = .returned (.tuple #[.int .u8 0, .bool false]) ∧ w' = W) := fun W => digit_no y W y8 (by omega)
        go_wp2_with fail
        refine (DX.out _).mono ?_
        rintro e w' ⟨rfl, rfl⟩
        go_wp2_with fail
        refine (DY.out _).mono ?_
        rintro e w' ⟨rfl, rfl⟩
        have hi : Hid ((Tryd.prog.info? 24).map (·.size) = some (arr8 (Bl.zeros 32)).size) := hi24 rfl
        have H1 : Hid ((arr8 (Bl.zeros 32)).all (·.oneCell') = true) := arr8_one _
        go_wp2_with (first | (refine store_row rfl rfl 24 _ _ rfl w.heap.size (arr8 (Bl.zeros 32)) rfl rfl 24 (arr8 (Bl.zeros 32)) HR0.out hi.out rfl H1.out ?_))
        refine bodyPost_ret (v := .tuple #[.agg (arr8 (Bl.zeros 32)), .int .i64 5]) ?_ rfl ⟨rfl, below_setRow HB.out (Nat.le_refl _) _⟩
        exact results_two Tryd.results20 _ _ w.heap.size 24 _ (0, 0) _ rfl rfl (setRow_heap _ _ _ _ _ _ HR0.out) hi.out
    · have DX : Hid (∀ W : World, Calls Tryd.prog 27 #[.int .u8 (x : Int)] W fun e w' => e = .returned (.tuple #[.int .u8 0, .bool false]) ∧ w' = W) := fun W => digit_no x W x8 (by omega)
      by_cases hy : dval y < 16
      · have DY : Hid (∀ W : World, Calls Tryd.prog 27 #[.int .u8 (y : Int)] W fun e w' => e = .returned (.tuple #[.int .u8 (dval y : Nat), .bool true]) ∧ w' = W) := fun W => digit_yes y W y8 hy
        go_wp2_with fail
        refine (DX.out _).mono ?_
        rintro e w' ⟨rfl, rfl⟩
        go_wp2_with fail
        refine (DY.out _).mono ?_
        rintro e w' ⟨rfl, rfl⟩
        have hi : Hid ((Tryd.prog.info? 24).map (·.size) = some (arr8 (Bl.zeros 32)).size) := hi24 rfl
        have H1 : Hid ((arr8 (Bl.zeros 32)).all (·.oneCell') = true) := arr8_one _
        go_wp2_with (first | (refine store_row rfl rfl 24 _ _ rfl w.heap.size (arr8 (Bl.zeros 32)) rfl rfl 24 (arr8 (Bl.zeros 32)) HR0.out hi.out rfl H1.out ?_))
        refine bodyPost_ret (v := .tuple #[.agg (arr8 (Bl.zeros 32)), .int .i64 5]) ?_ rfl ⟨rfl, below_setRow HB.out (Nat.le_refl _) _⟩
        exact results_two Tryd.results20 _ _ w.heap.size 24 _ (0, 0) _ rfl rfl (setRow_heap _ _ _ _ _ _ HR0.out) hi.out
      · have DY : Hid (∀ W : World, Calls Tryd.prog 27 #[.int .u8 (y : Int)] W fun e w' => e = .returned (.tuple #[.int .u8 0, .bool false]) ∧ w' = W) := fun W => digit_no y W y8 (by omega)
        go_wp2_with fail
        refine (DX.out _).mono ?_
        rintro e w' ⟨rfl, rfl⟩
        go_wp2_with fail
        refine (DY.out _).mono ?_
        rintro e w' ⟨rfl, rfl⟩
        have hi : Hid ((Tryd.prog.info? 24).map (·.size) = some (arr8 (Bl.zeros 32)).size) := hi24 rfl
        have H1 : Hid ((arr8 (Bl.zeros 32)).all (·.oneCell') = true) := arr8_one _
        go_wp2_with (first | (refine store_row rfl rfl 24 _ _ rfl w.heap.size (arr8 (Bl.zeros 32)) rfl rfl 24 (arr8 (Bl.zeros 32)) HR0.out hi.out rfl H1.out ?_))
        refine bodyPost_ret (v := .tuple #[.agg (arr8 (Bl.zeros 32)), .int .i64 5]) ?_ rfl ⟨rfl, below_setRow HB.out (Nat.le_refl _) _⟩
        exact results_two Tryd.results20 _ _ w.heap.size 24 _ (0, 0) _ rfl rfl (setRow_heap _ _ _ _ _ _ HR0.out) hi.out
end Go.Proofs.YtaeeibllmpaebaaDoor
