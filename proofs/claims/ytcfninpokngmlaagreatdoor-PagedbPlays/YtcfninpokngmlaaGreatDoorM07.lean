/- Proved: what page's low and number answer: a number as bytes, the lowest first, and back. -/
import Derived.Test.YtcfninpokngmlaaGreatDoorM06
import Derived.Test.YtcfninpokngmlaaGreatDoorM04
import Derived.Deep.OwnRows
namespace Go.Proofs.YtcfninpokngmlaaGreatDoor
open Go.RowKit
theorem pg_info_u8 : Tryz.prog.info? 5 = some Tryz.t5 := by kernel_rfl
def zv : Value := .int .u8 0
theorem made_list (n : Nat) : madeCells #[zv] n = (List.replicate n zv).toArray := by
  apply Array.ext
  · simp [madeCells]
  · intro i h1 h2
    simp [madeCells]
    simp [Nat.mod_one]
theorem shr_u32 (n j : Nat) (hj : j ≤ 4) : (n : Int).fdiv (2 ^ min (8 * (j : Int)).toNat IntKind.u32.bits) = (n : Int) / 2 ^ (8 * j) := by
  have e : min (8 * (j : Int)).toNat IntKind.u32.bits = 8 * j := by
    show min (8 * (j : Int)).toNat 32 = 8 * j
    omega
  rw [e]
  exact Int.fdiv_eq_ediv_of_nonneg _ (Int.le_of_lt (Int.pow_pos (by omega)))
theorem splice_all {α : Type} (a b : List α) (h : b.length = a.length) : splice a 0 b = b := by
  unfold splice
  rw [List.take_zero, List.nil_append, Nat.zero_add, h, List.drop_length, List.append_nil]
set_option maxHeartbeats 1000000 in
theorem low_any (n k : Nat) (w : World) (hk : k ≤ 4) :
    Calls Tryz.prog 133 #[.int .u32 (n : Int), .int .i64 (k : Int)] w fun e w' => e = .returned (.string (Wl.put n k)) ∧ Below w.heap.size w w' := by
  have HB0 : Hid (Below w.heap.size w (w.alloc (.cells (madeCells #[zv] k) 5))) := (Below.refl _ _).alloc (Nat.le_refl _) _
  have HG : Hid ((w.alloc (.cells (madeCells #[zv] k) 5)).heap[w.heap.size]? = some (.cells (List.replicate k zv).toArray 5 (0, 0))) := by
    rw [← made_list]; exact heap_alloc_new w _
  go_enter Tryz.func133, Tryz.ntmps133
  go_wp2_with (at_make; refine wpList_make_row _ rfl _ _ 138 rfl 5 Tryz.t5 zv Tryz.underlying138 pg_info_u8 rfl rfl rfl .i64 .i64 k rfl rfl (by simp [Tryz.t5]; omega) (by omega) ?_; generalize World.alloc w _ = w0 at *)
  go_loopw [6, 11] (fun _ s11 wr => ∃ j : Nat, j ≤ k ∧ s11 = .int .i64 (j : Int) ∧ wr = w0.setCells w.heap.size 0 (nc n j)) (fun _ s11 _ => k - (intOf s11).toNat)
  case atStart => exact ⟨0, by omega, rfl, rfl⟩
  case round =>
    obtain ⟨j, hj, rfl, hwr⟩ := hrel
    have HR : Hid ((w0.setCells w.heap.size 0 (nc n j)).heap[w.heap.size]? = some (.cells (splice (List.replicate k zv) 0 (nc n j)).toArray 5 (0, 0))) := setCells_splice w.heap.size 5 _ 0 _ w0 HG.out (by rw [nc_length, List.length_replicate]; omega)
    rw [← hwr] at HR
    by_cases hjk : j < k
    · have hsl : (splice (List.replicate k zv) 0 (nc n j)).length = k := by unfold splice; rw [List.length_append, List.length_append, List.length_take, List.length_drop, nc_length, List.length_replicate]; omega
      have HFN : Hid (∃ j' : Nat, j' ≤ k ∧ Value.int .i64 ((j : Int) + 1) = .int .i64 (j' : Int) ∧ wr.setCell ⟨w.heap.size, j, none⟩ (.int .u8 ((n : Int) / 2 ^ (8 * j) % 256)) = w0.setCells w.heap.size 0 (nc n j')) := ⟨j + 1, by omega, by go_num, by
        rw [hwr, nc_succ, shr_num]
        have := setCells_snoc w.heap.size (.int .u8 ((n / 256 ^ j % 256 : Nat) : Int)) (nc n j) 0 w0
        rw [nc_length, Nat.zero_add] at this
        exact this⟩
      obtain ⟨u, hu⟩ : ∃ u, wr.cell? ⟨w.heap.size, j, none⟩ = some u := ⟨_, by rw [cell_of_row wr _ _ _ _ (0, 0) HR.out, Array.getElem?_eq_getElem (by rw [List.size_toArray]; omega)]⟩
      have hf : wr.frozen? ⟨w.heap.size, j, none⟩ = false := frozen_of_row wr _ _ _ _ HR.out
      have dj : decide ((j : Int) < (k : Int)) = true := decide_eq_true (by omega)
      have j0 : (0 : Int) ≤ (j : Int) := by omega
      have j1 : (j : Int) < (k : Int) := by omega
      have hw8 : IntKind.i64.wrap (8 * (j : Int)) = 8 * (j : Int) := by rw [IntKind.wrap_i64]; omega
      have hsh := shr_u32 n j (by omega)
      clear hwr HR hsl
      go_wp2
      go_roundw
      case rel => first | exact HFN.out | ((repeat apply Exists.intro); exact ⟨HFN.out, rfl⟩)
      case measure => (simp [intOf]) <;> omega
    · obtain rfl : j = k := by omega
      have dj : decide ((j : Int) < (j : Int)) = false := decide_eq_false (by omega)
      rw [splice_all _ _ (by rw [nc_length, List.length_replicate]), nc_bc] at HR
      have hcv := str_of (x := Wl.put n j) (range_all HR.out) j
      rw [Wl.put_size] at hcv
      have HB1 : Hid (Below w.heap.size w wr) := by
        rw [hwr]; exact below_setCells (Nat.le_refl _) _ _ _ HB0.out
      clear hwr HR
      go_wp2
      go_ret
      exact ⟨rfl, HB1.out⟩
theorem pg_or_num (a x j : Nat) (ha : a < 256 ^ j) (hx : x < 256) (hj : j < 4) : bits .or .u32 (a : Int) (IntKind.u32.wrap ((x : Int) * 2 ^ (8 * j))) = ((a + 256 ^ j * x : Nat) : Int) := by
  rw [pow256] at ha ⊢
  have hp : 2 ^ (8 * j) * 256 ≤ 4294967296 := by
    have h1 : 2 ^ (8 * j) * 256 = 2 ^ (8 * j + 8) := by rw [Nat.pow_add]
    have h2 : 2 ^ (8 * j + 8) ≤ 2 ^ 32 := Nat.pow_le_pow_right (by omega) (by omega)
    rw [h1]
    exact h2
  have hx2 : 2 ^ (8 * j) * x < 4294967296 := by
    have h1 : 2 ^ (8 * j) * (x + 1) ≤ 2 ^ (8 * j) * 256 := Nat.mul_le_mul_left _ (by omega)
    have h2 := Nat.two_pow_pos (8 * j)
    rw [Nat.mul_add] at h1
    omega
  have e1 : (x : Int) * 2 ^ (8 * j) = ((2 ^ (8 * j) * x : Nat) : Int) := by push_cast; rw [Int.mul_comm]
  have e2 : IntKind.u32.wrap ((2 ^ (8 * j) * x : Nat) : Int) = ((2 ^ (8 * j) * x : Nat) : Int) := by rw [IntKind.wrap_u32]; omega
  have h3 : 2 ^ (8 * j) ≤ 4294967296 := by omega
  rw [e1, e2, u32_or_nat _ _ (by omega) hx2, Nat.or_comm, ← Nat.two_pow_add_eq_or_of_lt ha, Nat.add_comm]
theorem or_num2 (a x j : Nat) (ha : a < 256 ^ j) (hx : x < 256) (hj : j < 4) : bits .or .u32 (a : Int) ((x : Int) % 4294967296 * 2 ^ (8 * j) % 4294967296) = ((a + 256 ^ j * x : Nat) : Int) := by
  have h := pg_or_num a x j ha hx hj
  rw [IntKind.wrap_u32] at h
  rw [show (x : Int) % 4294967296 = (x : Int) by omega]
  exact h
set_option maxHeartbeats 1000000 in
theorem pg_number_any (s : ByteArray) (w : World) (hs : s.size ≤ 4) :
    Calls Tryz.prog 115 #[.string s] w fun e w' => e = .returned (.int .u32 (Wl.getL s.data.toList : Nat)) ∧ w' = w := by
  have HZ : Hid (s.size = s.data.toList.length) := Sc.size_eq s
  go_enter Tryz.func115, Tryz.ntmps115
  go_wp2_with fail
  go_loopw [3, 4, 7] (fun s3 _ s7 wr => ∃ j : Nat, j ≤ s.size ∧ s7 = .int .i64 (j : Int) ∧ s3 = .int .u32 ((Wl.getL (s.data.toList.take j) : Nat) : Int) ∧ wr = w) (fun _ _ s7 _ => s.size - (intOf s7).toNat)
  case atStart => exact ⟨0, by omega, rfl, rfl, rfl⟩
  case round =>
    obtain ⟨j, hj, rfl, rfl, hwr⟩ := hrel
    subst hwr
    by_cases hjk : j < s.size
    · have hsz := HZ.out
      obtain ⟨c, hc⟩ : ∃ c, s.data.toList[j]? = some c := ⟨_, List.getElem?_eq_getElem (by omega)⟩
      have hb : ∀ h, (s[j]'h) = c := fun h => byte_at s j c hc h
      have dj : decide ((j : Int) < (s.size : Int)) = true := decide_eq_true (by omega)
      have j0 : (0 : Int) ≤ (j : Int) := by omega
      have j1 : (j : Int) < (s.size : Int) := by omega
      have hg := Wl.getL_lt (s.data.toList.take j)
      rw [List.length_take, Nat.min_eq_left (by omega)] at hg
      have hsn : Wl.getL (s.data.toList.take (j + 1)) = Wl.getL (s.data.toList.take j) + 256 ^ j * c.toNat := by
        have hjl : j < s.data.toList.length := by omega
        have e := Wl.getL_split (s.data.toList.take (j + 1)) j (by rw [List.length_take]; omega)
        have hc2 := (List.getElem?_eq_some_iff.1 hc).2
        rw [List.take_take, Nat.min_eq_left (by omega), List.take_succ_eq_append_getElem hjl, List.drop_left' (by rw [List.length_take]; omega), hc2] at e
        rw [List.take_succ_eq_append_getElem hjl, hc2, e]
        simp [Wl.getL]
      have hor := or_num2 (Wl.getL (s.data.toList.take j)) c.toNat j hg c.toNat_lt (by omega)
      rw [← hsn] at hor
      have HFN : Hid (∃ j' : Nat, j' ≤ s.size ∧ Value.int .i64 ((j : Int) + 1) = .int .i64 (j' : Int) ∧ Value.int .u32 ((Wl.getL (s.data.toList.take (j + 1)) : Nat) : Int) = .int .u32 ((Wl.getL (s.data.toList.take j') : Nat) : Int)) := ⟨j + 1, by omega, by go_num, rfl⟩
      have hw8 : IntKind.i64.wrap (8 * (j : Int)) = 8 * (j : Int) := by rw [IntKind.wrap_i64]; omega
      clear hsn hc hsz
      generalize Wl.getL (s.data.toList.take (j + 1)) = z at *
      generalize Wl.getL (s.data.toList.take j) = y at *
      go_wp2
      go_roundw
      case rel =>
        obtain ⟨j', h1, h2, h3⟩ := HFN.out
        exact ⟨j', h1, h2, h3, trivial⟩
      case measure => (simp [intOf]) <;> omega
    · have hsz := HZ.out
      obtain rfl : j = s.size := by omega
      have dj : decide ((s.size : Int) < (s.size : Int)) = false := decide_eq_false (by omega)
      have HE : Hid (Wl.getL (s.data.toList.take s.size) = Wl.getL s.data.toList) := by rw [List.take_of_length_le (by omega)]; trivial
      clear hsz
      generalize Wl.getL (s.data.toList.take s.size) = z at *
      go_wp2
      go_ret
      exact ⟨by rw [HE.out]; rfl, rfl⟩
end Go.Proofs.YtcfninpokngmlaaGreatDoor
/- Proved: what page's Seal answers for any number, kind and body. Condition: the table of the sums holds its sixteen numbers. -/
namespace Go.Proofs.YtcfninpokngmlaaGreatDoor
open Go.RowKit
def zpg : Array Value := (bc Pg.blank).toArray
theorem zeroPg (W : World) : (zeroValue 157).run Tryz.prog W = .ok (.agg zpg) W := by kernel_rfl
theorem bc_ob (l : List UInt8) : bc (Wl.ob l) = l.map fun b => Value.int .u8 (b.toNat : Int) := by unfold bc; rw [Wl.ob_list]
theorem splice_map {α β : Type} (f : α → β) (a b : List α) (o : Nat) : splice (a.map f) o (b.map f) = (splice a o b).map f := by
  unfold splice
  rw [List.map_append, List.map_append, List.map_take, List.map_drop, List.length_map]
theorem row_set {w : World} {g t o : Nat} {a b : List UInt8} (h : w.heap[g]? = some (.cells (bc (Wl.ob a)).toArray t (0, 0))) (hl : o + b.length ≤ a.length) : (w.setCells g o (bc (Wl.ob b))).heap[g]? = some (.cells (bc (Wl.ob (splice a o b))).toArray t (0, 0)) := by
  have := setCells_splice g t (bc (Wl.ob b)) o _ w h (by rw [bc_ob, bc_ob, List.length_map, List.length_map]; exact hl)
  rw [this, bc_ob, bc_ob, bc_ob, splice_map]
theorem splice_front (id kind : Nat) (b : ByteArray) (h : b.size ≤ 500) : splice (Pg.zs 512) 0 (Pg.headL id kind b.size ++ b.data.toList) = Pg.frontL id kind b ++ Pg.zs 4 := by
  have hb := Sc.size_eq b
  unfold splice Pg.frontL Pg.zs
  rw [List.take_zero, List.nil_append, List.length_append, Pg.headL_length, List.drop_replicate, ← hb, List.append_assoc, List.append_assoc, List.append_assoc, List.replicate_append_replicate, show 512 - (0 + (8 + b.size)) = 500 - b.size + 4 by omega]
theorem splice_page (id kind n : Nat) (b : ByteArray) (h : b.size ≤ 500) : splice (Pg.frontL id kind b ++ Pg.zs 4) 508 (Wl.putL n 4) = Pg.frontL id kind b ++ Wl.putL n 4 := by
  have e := Pg.frontL_length (id := id) (kind := kind) h
  unfold splice
  rw [List.take_left' e, Wl.putL_length, List.drop_eq_nil_of_le (by rw [List.length_append, e]; simp [Pg.zs]), List.append_nil]
def pg_In64 (z : Int) : Prop := -9223372036854775808 ≤ z ∧ z ≤ 9223372036854775807
theorem below_next {N : Nat} {w w1 w2 : World} (h : Below N w w1) (hb : Below w1.heap.size w1 w2) (hN : N ≤ w1.heap.size) : Below N w w2 := h.trans (hb.mono hN)
theorem heap_next {w1 w2 : World} {g : Nat} {o : Obj} (h : w1.heap[g]? = some o) (hb : Below w1.heap.size w1 w2) : w2.heap[g]? = some o := (hb.block g (Array.getElem?_eq_some_iff.1 h).1).trans h
set_option maxHeartbeats 2000000 in
set_option maxRecDepth 20000 in
theorem seal_yes (i k : Nat) (b : ByteArray) (w : World) (hi : i ≤ 2147483647) (hk0 : 1 ≤ k) (hk : k ≤ 255) (hb : b.size ≤ 500) (hT : Tab w) :
    Calls Tryz.prog 117 #[.int .i64 (i : Int), .int .i64 (k : Int), .string b] w fun e w' => e = .returned (.tuple #[.string (Pg.page i k b), .int .i64 0]) ∧ Below w.heap.size w w' := by
  have hz := zeroPg
  have HT : Hid (Tab w) := hT
  have hpos := hT.pos
  have HR0 : Hid ((w.alloc (.cells zpg 157)).heap[w.heap.size]? = some (.cells (bc (Wl.ob (Pg.zs 512))).toArray 157 (0, 0))) := heap_alloc_new w _
  have HB0 : Hid (Below w.heap.size w (w.alloc (.cells zpg 157))) := (Below.refl _ _).alloc (Nat.le_refl _) _
  have a1 : decide ((i : Int) < 0) = false := decide_eq_false (by omega)
  have a2 : decide ((2147483647 : Int) < (i : Int)) = false := decide_eq_false (by omega)
  have a3 : decide ((k : Int) < 1) = false := decide_eq_false (by omega)
  have a4 : decide ((255 : Int) < (k : Int)) = false := decide_eq_false (by omega)
  have a5 : decide ((500 : Int) < (b.size : Int)) = false := decide_eq_false (by omega)
  have m1 : (i : Int) % 4294967296 = (i : Int) := by omega
  have m2 : (k : Int) % 4294967296 = (k : Int) := by omega
  have m3 : (b.size : Int) % 4294967296 = (b.size : Int) := by omega
  have HX : Hid (Wl.put i 4 ++ Wl.put k 1 ++ Wl.put 0 1 ++ Wl.put b.size 2 ++ b = Wl.ob (Pg.headL i k b.size ++ b.data.toList)) := by
    apply Wl.ext_list
    rw [Wl.app_list, Wl.app_list, Wl.app_list, Wl.app_list, Wl.put_list, Wl.put_list, Wl.put_list, Wl.put_list, Wl.ob_list]
    unfold Pg.headL
    simp [List.append_assoc]
  have s1 := Wl.put_size i 4
  have s2 := Wl.put_size k 1
  have s3 := Wl.put_size 0 1
  have s4 := Wl.put_size b.size 2
  have L1 : Hid (∀ W, Calls Tryz.prog 133 #[.int .u32 (i : Int), .int .i64 4] W fun e w' => e = .returned (.string (Wl.put i 4)) ∧ Below W.heap.size W w') := fun W => low_any i 4 W (by omega)
  have L2 : Hid (∀ W, Calls Tryz.prog 133 #[.int .u32 (k : Int), .int .i64 1] W fun e w' => e = .returned (.string (Wl.put k 1)) ∧ Below W.heap.size W w') := fun W => low_any k 1 W (by omega)
  have L3 : Hid (∀ W, Calls Tryz.prog 133 #[.int .u32 0, .int .i64 1] W fun e w' => e = .returned (.string (Wl.put 0 1)) ∧ Below W.heap.size W w') := fun W => low_any 0 1 W (by omega)
  have L4 : Hid (∀ W, Calls Tryz.prog 133 #[.int .u32 (b.size : Int), .int .i64 2] W fun e w' => e = .returned (.string (Wl.put b.size 2)) ∧ Below W.heap.size W w') := fun W => low_any b.size 2 W (by omega)
  generalize Wl.put i 4 = p1 at *
  generalize Wl.put k 1 = p2 at *
  generalize Wl.put 0 1 = p3 at *
  generalize Wl.put b.size 2 = p4 at *
  have A1 : ∀ W : World, (Op.stringOp .add p1 p2).run Tryz.prog W = .ok (.string (p1 ++ p2)) W := fun W => run_string_add_sum W _ _ (by omega)
  have A2 : ∀ W : World, (Op.stringOp .add (p1 ++ p2) p3).run Tryz.prog W = .ok (.string (p1 ++ p2 ++ p3)) W := fun W => run_string_add_sum W _ _ (by simp only [ByteArray.size_append]; omega)
  have A3 : ∀ W : World, (Op.stringOp .add (p1 ++ p2 ++ p3) p4).run Tryz.prog W = .ok (.string (p1 ++ p2 ++ p3 ++ p4)) W := fun W => run_string_add_sum W _ _ (by simp only [ByteArray.size_append]; omega)
  have A4 : ∀ W : World, (Op.stringOp .add (p1 ++ p2 ++ p3 ++ p4) b).run Tryz.prog W = .ok (.string (Wl.ob (Pg.headL i k b.size ++ b.data.toList))) W := fun W => by rw [← HX.out]; exact run_string_add_sum W _ _ (by simp only [ByteArray.size_append]; omega)
  clear s1 s2 s3 s4 HX hT
  go_enter Tryz.func117, Tryz.ntmps117
  go_wp2_with fail
  generalize World.alloc w _ = w0 at *
  go_quiet (fail)
  have HR1 : Hid ((w0.drewN nq).heap[w.heap.size]? = some (.cells (bc (Wl.ob (Pg.zs 512))).toArray 157 (0, 0))) := HR0.out
  have HB1 : Hid (Below w.heap.size w (w0.drewN nq)) := ⟨HB0.out.os, HB0.out.tape, HB0.out.output, HB0.out.size, HB0.out.block⟩
  generalize w0.drewN nq = w1 at *
  clear HR0 HB0 hz
  go_wp2_with fail
  refine (L1.out w1).mono ?_
  rintro e w2 ⟨rfl, hB2⟩
  have HR2 := (show Hid _ from heap_next HR1.out hB2)
  have HB2 := (show Hid _ from below_next HB1.out hB2 HB1.out.size)
  clear hB2 HR1 HB1
  go_wp2_with fail
  refine (L2.out w2).mono ?_
  rintro e w3 ⟨rfl, hB3⟩
  have HR3 := (show Hid _ from heap_next HR2.out hB3)
  have HB3 := (show Hid _ from below_next HB2.out hB3 HB2.out.size)
  clear hB3 HR2 HB2
  go_wp2_with fail
  refine (L3.out w3).mono ?_
  rintro e w4 ⟨rfl, hB4⟩
  have HR4 := (show Hid _ from heap_next HR3.out hB4)
  have HB4 := (show Hid _ from below_next HB3.out hB4 HB3.out.size)
  clear hB4 HR3 HB3
  go_wp2_with fail
  refine (L4.out w4).mono ?_
  rintro e w5 ⟨rfl, hB5⟩
  have HR5 : Hid (w5.heap[w.heap.size]? = some (.cells (bc (Wl.ob (Pg.zs 512))).toArray 157 (0, 0))) := heap_next HR4.out hB5
  have HB5 : Hid (Below w.heap.size w w5) := below_next HB4.out hB5 HB4.out.size
  clear hB5 HR4 HB4
  have hxs : (Wl.ob (Pg.headL i k b.size ++ b.data.toList)).size = 8 + b.size := by rw [Wl.ob_size, List.length_append, Pg.headL_length, Sc.size_eq]
  have HR6 : Hid ((w5.setCells w.heap.size 0 (bc (Wl.ob (Pg.headL i k b.size ++ b.data.toList)))).heap[w.heap.size]? = some (.cells (bc (Wl.ob (Pg.frontL i k b ++ Pg.zs 4))).toArray 157 (0, 0))) := by
    rw [← splice_front i k b hb]
    exact row_set HR5.out (by rw [List.length_append, Pg.headL_length, ← Sc.size_eq]; simp [Pg.zs]; omega)
  have HB6 : Hid (Below w.heap.size w (w5.setCells w.heap.size 0 (bc (Wl.ob (Pg.headL i k b.size ++ b.data.toList))))) := below_setCells (Nat.le_refl _) _ _ _ HB5.out
  have hth : w5.there w.heap.size 0 (Wl.ob (Pg.headL i k b.size ++ b.data.toList)).size := there_row HR5.out (by rw [List.size_toArray, bc_ob, List.length_map, hxs]; simp [Pg.zs]; omega)
  generalize Wl.ob (Pg.headL i k b.size ++ b.data.toList) = X at *
  go_wp2_with (refine copy_str rfl _ _ 138 9 rfl 5 Tryz.underlying138 size_u8 w.heap.size 0 508 512 rfl X rfl (by omega) hth ?_; generalize World.setCells w5 _ _ _ = w6 at *)
  have hfs := Pg.front_size (id := i) (kind := k) hb
  have hfl := Pg.frontL_length (id := i) (kind := k) hb
  have HSM : Hid (Calls Tryz.prog 116 #[.slice (some ⟨w.heap.size, 0, none⟩) 508 512] w6 fun r w' => r = .returned (.int .u32 (Crc.sum (Wl.nb (Pg.front i k b)) : Nat)) ∧ w' = w6) := by
    have hB := bytes_row (off := 0) (k := 508) HR6.out (by rw [Wl.ob_size, List.length_append, hfl]; omega) (by rw [Wl.ob_size, List.length_append, hfl]; simp [Pg.zs])
    rw [Wl.ob_list, List.drop_zero, List.take_left' hfl, ← Pg.front_list] at hB
    exact sum_any _ 508 512 _ w6 hB (HT.out.below HB6.out hpos)
  refine HSM.out.mono ?_
  rintro e wS ⟨rfl, hwS⟩
  rw [hwS]
  clear hwS wS HSM
  have L5 : Hid (Calls Tryz.prog 133 #[.int .u32 (Crc.sum (Wl.nb (Pg.front i k b)) : Nat), .int .i64 4] w6 fun e w' => e = .returned (.string (Wl.ob (Wl.putL (Crc.sum (Wl.nb (Pg.front i k b))) 4))) ∧ Below w6.heap.size w6 w') := low_any _ 4 w6 (by omega)
  have HPG : Hid (Wl.ob (Pg.frontL i k b ++ Wl.putL (Crc.sum (Wl.nb (Pg.front i k b))) 4) = Pg.page i k b) := by
    rw [← Pg.page_list]; exact Wl.list_ob _
  generalize Crc.sum (Wl.nb (Pg.front i k b)) = sm at *
  go_wp2_with fail
  refine L5.out.mono ?_
  rintro e w7 ⟨rfl, hB7⟩
  have HR7 := (show Hid _ from heap_next HR6.out hB7)
  have HB7 := (show Hid _ from below_next HB6.out hB7 HB6.out.size)
  clear hB7 HR6 HB6
  have HR8 : Hid ((w7.setCells w.heap.size 508 (bc (Wl.ob (Wl.putL sm 4)))).heap[w.heap.size]? = some (.cells (bc (Pg.page i k b)).toArray 157 (0, 0))) := by
    rw [← HPG.out, ← splice_page i k sm b hb]
    exact row_set HR7.out (by rw [List.length_append, hfl, Wl.putL_length]; simp [Pg.zs])
  have HB8 : Hid (Below w.heap.size w (w7.setCells w.heap.size 508 (bc (Wl.ob (Wl.putL sm 4))))) := below_setCells (Nat.le_refl _) _ _ _ HB7.out
  have hps : (Wl.ob (Wl.putL sm 4)).size = 4 := Wl.put_size sm 4
  have hth2 : w7.there w.heap.size 508 (Wl.ob (Wl.putL sm 4)).size := there_row HR7.out (by rw [List.size_toArray, bc_ob, List.length_map, hps, List.length_append, hfl]; simp [Pg.zs])
  generalize Wl.ob (Wl.putL sm 4) = Y at *
  have hcv := str_of (x := Pg.page i k b) (range_all HR8.out) 512
  rw [Pg.page_size hb] at hcv
  clear hfs hfl HPG
  go_wp2_with (refine copy_str rfl _ _ 138 9 rfl 5 Tryz.underlying138 size_u8 w.heap.size 508 4 4 rfl Y rfl (by omega) hth2 ?_; generalize World.setCells w7 _ _ _ = w8 at *)
  go_ret2
  exact ⟨rfl, HB8.out⟩
set_option maxHeartbeats 1000000 in
theorem seal_bad (id kind : Int) (b : ByteArray) (w : World) (h : Pg.bad id kind = true) :
    Calls Tryz.prog 117 #[.int .i64 id, .int .i64 kind, .string b] w fun e w' => e = .returned (.tuple #[.string ⟨#[]⟩, .int .i64 2]) ∧ w' = w := by
  have hc := Pg.bad_true h
  clear h
  by_cases h1 : id < 0
  · have a1 : decide (id < 0) = true := decide_eq_true h1
    clear hc h1
    go_enter Tryz.func117, Tryz.ntmps117
    go_wp2
    go_ret2
    exact ⟨rfl, rfl⟩
  · have a1 : decide (id < 0) = false := decide_eq_false h1
    by_cases h2 : 2147483647 < id
    · have a2 : decide (2147483647 < id) = true := decide_eq_true h2
      clear hc h1 h2
      go_enter Tryz.func117, Tryz.ntmps117
      go_wp2
      go_ret2
      exact ⟨rfl, rfl⟩
    · have a2 : decide (2147483647 < id) = false := decide_eq_false h2
      by_cases h3 : kind < 1
      · have a3 : decide (kind < 1) = true := decide_eq_true h3
        clear hc h1 h2 h3
        go_enter Tryz.func117, Tryz.ntmps117
        go_wp2
        go_ret2
        exact ⟨rfl, rfl⟩
      · have a3 : decide (kind < 1) = false := decide_eq_false h3
        have a4 : decide (255 < kind) = true := decide_eq_true (by omega)
        clear hc h1 h2 h3
        go_enter Tryz.func117, Tryz.ntmps117
        go_wp2
        go_ret2
        exact ⟨rfl, rfl⟩
set_option maxHeartbeats 1000000 in
theorem seal_long (id kind : Int) (b : ByteArray) (w : World) (h : Pg.bad id kind = false) (hl : 500 < b.size) :
    Calls Tryz.prog 117 #[.int .i64 id, .int .i64 kind, .string b] w fun e w' => e = .returned (.tuple #[.string ⟨#[]⟩, .int .i64 3]) ∧ w' = w := by
  have hc := Pg.bad_false h
  have a1 : decide (id < 0) = false := decide_eq_false (by omega)
  have a2 : decide (2147483647 < id) = false := decide_eq_false (by omega)
  have a3 : decide (kind < 1) = false := decide_eq_false (by omega)
  have a4 : decide (255 < kind) = false := decide_eq_false (by omega)
  have a5 : decide ((500 : Int) < (b.size : Int)) = true := decide_eq_true (by omega)
  clear hc hl h
  go_enter Tryz.func117, Tryz.ntmps117
  go_wp2
  go_ret2
  exact ⟨rfl, rfl⟩
theorem seal_any (id kind : Int) (b : ByteArray) (w : World) (hT : Tab w) :
    Calls Tryz.prog 117 #[.int .i64 id, .int .i64 kind, .string b] w fun e w' => e = .returned (.tuple #[.string (Pg.sealS id kind b), .int .i64 (Pg.sealE id kind b)]) ∧ Below w.heap.size w w' := by
  unfold Pg.sealS Pg.sealE
  cases h : Pg.bad id kind with
  | true => exact (seal_bad id kind b w h).mono fun e w' ⟨h1, h2⟩ => ⟨h1, by rw [h2]; exact Below.refl _ _⟩
  | false =>
    by_cases hl : 500 < b.size
    · simp only [Bool.false_eq_true, if_false, hl, if_true]
      exact (seal_long id kind b w h hl).mono fun e w' ⟨h1, h2⟩ => ⟨h1, by rw [h2]; exact Below.refl _ _⟩
    · simp only [Bool.false_eq_true, if_false, hl]
      have hc := Pg.bad_false h
      obtain ⟨i, rfl⟩ := Int.eq_ofNat_of_zero_le hc.1
      obtain ⟨k, rfl⟩ := Int.eq_ofNat_of_zero_le (show 0 ≤ kind by omega)
      rw [Int.toNat_natCast, Int.toNat_natCast]
      exact seal_yes i k b w (by omega) (by omega) (by omega) (by omega) hT
end Go.Proofs.YtcfninpokngmlaaGreatDoor
/- Proved: what page's cut and Sectors answer: a text in pieces. -/
namespace Go.Proofs.YtcfninpokngmlaaGreatDoor
open Go.RowKit
/- numbers in a slice -/
def Ints (w : World) (a : Option Addr) (ms : List Nat) : Prop := ms.length = 0 ∨ ∃ g off, a = some ⟨g, off, none⟩ ∧ ∀ (i x : Nat), ms[i]? = some x → w.cell? ⟨g, off + i, none⟩ = some (.int .i64 (x : Int))
theorem cell_below {N : Nat} {w wr : World} (h : Below N w wr) {g o : Nat} {v : Value} (hc : w.cell? ⟨g, o, none⟩ = some v) (hN : g < N) : wr.cell? ⟨g, o, none⟩ = some v := by
  rw [← hc]; exact World.cell?_of_block (h.block g hN)
theorem not_empty {s : ByteArray} (h : s.size ≠ 0) : s.toList.isEmpty = false := by
  rw [ByteArray.toList_eq]
  cases e : s.data.toList with
  | nil => exact absurd (by have := congrArg List.length e; rw [← Sc.size_eq] at this; exact this) h
  | cons c t => rfl
theorem is_empty {s : ByteArray} (h : s.size = 0) : s.toList.isEmpty = true := by
  rw [ByteArray.toList_eq]
  cases e : s.data.toList with
  | nil => rfl
  | cons c t => have := congrArg List.length e; rw [← Sc.size_eq, h] at this; simp at this
structure CutR (w : World) (s : ByteArray) (k : Nat) (ms : List Nat) (s0 s1 s2 s7 : Value) (wr : World) (s' : ByteArray) (k' : Nat) (ms' : List Nat) (rs : List ByteArray) (a' : Option Addr) (cap' : Nat) : Prop where
  e0 : s0 = .string s'
  e1 : s1 = .int .i64 (k' : Int)
  e2 : s2 = .slice a' ms'.length cap'
  own : OwnS wr w.heap.size s7 rs
  bel : Below w.heap.size w wr
  cut : Pg.cut s k ms = rs ++ Pg.cut s' k' ms'
  size : rs.length + s'.size ≤ s.size
  k0 : 0 < k'
  k1 : k' ≤ 100000
  m0 : ∀ x ∈ ms', 0 < x
  m1 : ∀ x ∈ ms', x ≤ 100000
  ints : Ints w a' ms'
  mc : ms'.length ≤ cap'
  cm : cap' ≤ 1000
set_option maxHeartbeats 2000000 in
set_option maxRecDepth 20000 in
theorem cut_any (s : ByteArray) (k : Nat) (ms : List Nat) (a : Option Addr) (cap : Nat) (w : World) (hs : s.size ≤ 100000) (hk0 : 0 < k) (hk1 : k ≤ 100000) (hm0 : ∀ x ∈ ms, 0 < x) (hm1 : ∀ x ∈ ms, x ≤ 100000) (hI : Ints w a ms) (hc : ms.length ≤ cap) (hc1 : cap ≤ 1000) :
    Calls Tryz.prog 114 #[.string s, .int .i64 (k : Int), .slice a ms.length cap] w fun e w' => ∃ v, e = .returned v ∧ OwnS w' w.heap.size v (Pg.cut s k ms) ∧ Below w.heap.size w w' := by
  have HI : Hid (Ints w a ms) := hI
  have HM : Hid ((∀ x ∈ ms, 0 < x) ∧ ∀ x ∈ ms, x ≤ 100000) := ⟨hm0, hm1⟩
  clear hI hm0 hm1
  go_enter Tryz.func114, Tryz.ntmps114
  go_wp2_with fail
  go_loopw [0, 1, 2, 7, 8] (fun s0 s1 s2 s7 _ wr => ∃ s' k' ms' rs a' cap', CutR w s k ms s0 s1 s2 s7 wr s' k' ms' rs a' cap') (fun s0 _ _ _ _ _ => match s0 with | .string z => z.size | _ => 0)
  case atStart => exact ⟨s, k, ms, [], a, cap, ⟨rfl, rfl, rfl, World.ownsRow_nil _ _ _ _, Below.refl _ _, rfl, by simp, hk0, hk1, HM.out.1, HM.out.2, HI.out, hc, hc1⟩⟩
  case round =>
    obtain ⟨s', k', ms', rs, a', cap', R⟩ := hrel
    obtain ⟨rfl, rfl, rfl, hO, hB, hcut, hsz, hk0', hk1', hm0', hm1', hI', hmc, hcm⟩ := R
    have HO : Hid (OwnS wr w.heap.size u7 rs) := hO
    have HB : Hid (Below w.heap.size w wr) := hB
    have HC : Hid (Pg.cut s k ms = rs ++ Pg.cut s' k' ms') := hcut
    have HM' : Hid ((∀ x ∈ ms', 0 < x) ∧ ∀ x ∈ ms', x ≤ 100000) := ⟨hm0', hm1'⟩
    have HI' : Hid (Ints w a' ms') := hI'
    clear hO hB hcut hm0' hm1' hI' HI HM
    by_cases h0 : s'.size = 0
    · have hemp := is_empty h0
      have HFN : Hid (OwnS wr w.heap.size u7 (Pg.cut s k ms)) := by
        rw [HC.out, Pg.cut_nil _ _ h0, List.append_nil]; exact HO.out
      go_wp2
      go_ret
      exact ⟨_, rfl, HFN.out, HB.out⟩
    · have hemp := not_empty h0
      have HCC : Hid (Pg.cut s k ms = (rs ++ [s'.extract 0 (min k' s'.size)]) ++ Pg.cut (s'.extract (min k' s'.size) s'.size) (ms'.headD k') ms'.tail) := by
        rw [HC.out, Pg.cut_cons hk0' HM'.out.1 h0, List.append_assoc]; rfl
      have hmin : min (k' : Int) (s'.size : Int) = ((min k' s'.size : Nat) : Int) := by omega
      have hn0 : 0 < min k' s'.size := by omega
      have hn1 : min k' s'.size ≤ s'.size := by omega
      generalize min k' s'.size = n at *
      have hes := Pg.ext_size s' n s'.size (Nat.le_refl _)
      have HZ : Hid ((s'.extract n s'.size).size = s'.size - n) := hes
      have hx0 := Pg.ext_size s' 0 n hn1
      have n0 : (0 : Int) ≤ (n : Int) := by omega
      have n1 : (n : Int) ≤ (s'.size : Int) := by omega
      have HCL := sclone_any (s'.extract 0 n) wr (by omega)
      clear hes hx0
      go_wp2_with fail
      refine HCL.mono ?_
      rintro e W ⟨rfl, hBW⟩
      clear HCL
      have HOq : Hid (OwnS W w.heap.size u7 rs) := own_below HO.out hBW
      have HBq : Hid (Below w.heap.size w W) := below_next HB.out hBW HB.out.size
      have hwq := HBq.out.size
      clear hBW HO HB HC
      have q1 : rs.length + [s'.extract 0 n].length ≤ 10000000 := by simp; omega
      have q2 : ∀ o, w.heap.size ≤ (W.alloc o).heap.size := fun o => by simp; omega
      have hsz2 : rs.length + s'.size ≤ 100000 := by omega
      generalize HP : s'.extract 0 n = pc at *
      have HPC : Hid (s'.extract 0 n = pc) := HP
      clear HP
      cases ms' with
      | nil =>
        clear HI' HM'
        go_wp2_with (refine app_many rfl (.tmp 15) (.tmp 20) rfl _ w.heap.size _ _ rs [pc] rfl (own_alloc HOq.out _) rfl (own_new W pc) q1 (q2 _) ?_; intro v3 w3 hO3 hG3 _; have HB3 : Hid (Below w.heap.size w w3) := HBq.out.trans (((Below.refl _ _).alloc hwq _).trans (below_grown hG3 (own_alloc HOq.out _) (q2 _))); have HO3 : Hid (OwnS w3 w.heap.size v3 (rs ++ [pc])) := hO3; clear hO3 hG3)
        go_roundw
        case rel => exact ⟨_, k', [], rs ++ [pc], a', cap', ⟨rfl, rfl, rfl, HO3.out, HB3.out, HCC.out, by rw [HZ.out, List.length_append]; simp; omega, hk0', hk1', by simp, by simp, .inl rfl, by simp, hcm⟩⟩
        case measure =>
          simp only [HZ.out]
          omega
      | cons x ms2 =>
        have hlen : (x :: ms2).length = ms2.length + 1 := rfl
        rcases HI'.out with h1 | ⟨g, off, rfl, hcl⟩
        · simp at h1
        have hc0 : w.cell? ⟨g, off, none⟩ = some (.int .i64 (x : Int)) := hcl 0 x rfl
        have HI2 : Hid (∀ (i y : Nat), ms2[i]? = some y → w.cell? ⟨g, off + 1 + i, none⟩ = some (.int .i64 (y : Int))) := fun i y hy => by
          have := hcl (i + 1) y hy
          rwa [show off + (i + 1) = off + 1 + i by omega] at this
        have hgN : g < w.heap.size := block_lt_of_cell hc0
        rw [hlen] at hmc
        have c1 : (1 : Int) ≤ (cap' : Int) := by omega
        have d1 : decide ((0 : Int) < ((ms2.length + 1 : Nat) : Int)) = true := decide_eq_true (by omega)
        clear hcl HI'
        rw [hlen]
        go_wp2_with (refine app_many rfl (.tmp 15) (.tmp 20) rfl _ w.heap.size _ _ rs [pc] rfl (own_alloc HOq.out _) rfl (own_new W pc) q1 (q2 _) ?_; intro v3 w3 hO3 hG3 _; have HB3 : Hid (Below w.heap.size w w3) := HBq.out.trans (((Below.refl _ _).alloc hwq _).trans (below_grown hG3 (own_alloc HOq.out _) (q2 _))); have HO3 : Hid (OwnS w3 w.heap.size v3 (rs ++ [pc])) := hO3; have hc3 := cell_below HB3.out hc0 hgN; clear hO3 hG3)
        go_quiet (fail)
        have HB4 : Hid (Below w.heap.size w (w3.drewN nq)) := ⟨HB3.out.os, HB3.out.tape, HB3.out.output, HB3.out.size, HB3.out.block⟩
        have HO4 : Hid (OwnS (w3.drewN nq) w.heap.size v3 (rs ++ [pc])) := own_keep HO3.out (fun _ _ => rfl)
        generalize w3.drewN nq = w4 at *
        go_wp2
        go_roundw
        case rel =>
          refine ⟨_, x, ms2, rs ++ [pc], _, cap' - 1, ⟨rfl, rfl, by first | rfl | (congr 1; omega), HO4.out, HB4.out, HCC.out, by rw [HZ.out, List.length_append]; simp; omega, HM'.out.1 x List.mem_cons_self, HM'.out.2 x List.mem_cons_self, fun y hy => HM'.out.1 y (List.mem_cons_of_mem _ hy), fun y hy => HM'.out.2 y (List.mem_cons_of_mem _ hy), ?_, by omega, by omega⟩⟩
          by_cases hl0 : ms2.length = 0
          · exact .inl hl0
          · refine .inr ⟨g, off + 1, ?_, HI2.out⟩
            rw [if_neg (by omega)]
        case measure =>
          simp only [HZ.out]
          omega
end Go.Proofs.YtcfninpokngmlaaGreatDoor
/- Proved: what page's Open answers for any number and any bytes. Condition: the table of the sums holds its sixteen numbers. -/
namespace Go.Proofs.YtcfninpokngmlaaGreatDoor
open Go.RowKit
theorem toList_beq {a b : ByteArray} (h : a = b) : (a.toList == b.toList) = true := by rw [h]; exact beq_self_eq_true _
/- the pieces of a list of texts, one by one -/
theorem own_at {w : World} {N : Nat} {v : Value} {rs : List ByteArray} (h : OwnS w N v rs) (h0 : 0 < rs.length) : ∃ g cap, v = .slice (some ⟨g, 0, none⟩) rs.length cap ∧ ∀ i r, rs[i]? = some r → w.cell? ⟨g, i, none⟩ = some (.string r) := by
  obtain ⟨a, cap, hv, _, _, h3⟩ := own_strs h
  obtain ⟨g, rfl, _, hc⟩ := h3 h0
  exact ⟨g, cap, hv, hc⟩
theorem pg_tail_list (s : ByteArray) (h : s.size = 512) : (s.extract 508 512).data.toList = Pg.tl4 s := by
  rw [Wl.ext_ext]
  unfold Pg.tl4
  rw [List.take_of_length_le (by rw [← Sc.size_eq]; omega)]
theorem len_list (s : ByteArray) : Wl.getL (s.extract 6 8).data.toList = Pg.len s := by rw [Wl.ext_ext]; unfold Pg.len; rw [List.take_drop]
theorem kd_list (s : ByteArray) : Wl.getL (s.extract 4 5).data.toList = Pg.kd s := by rw [Wl.ext_ext]; unfold Pg.kd; rw [List.take_drop]
theorem kd_lt (s : ByteArray) : Pg.kd s < 256 := by
  unfold Pg.kd
  have := Wl.getL_lt ((s.data.toList.drop 4).take 1)
  have h2 : ((s.data.toList.drop 4).take 1).length ≤ 1 := by rw [List.length_take]; omega
  have h3 : 256 ^ ((s.data.toList.drop 4).take 1).length ≤ 256 ^ 1 := Nat.pow_le_pow_right (by omega) h2
  omega
theorem len_lt (s : ByteArray) : Pg.len s < 65536 := by
  unfold Pg.len
  have := Wl.getL_lt ((s.data.toList.drop 6).take 2)
  have h2 : ((s.data.toList.drop 6).take 2).length ≤ 2 := by rw [List.length_take]; omega
  have h3 : 256 ^ ((s.data.toList.drop 6).take 2).length ≤ 256 ^ 2 := Nat.pow_le_pow_right (by omega) h2
  omega
theorem drewN_below {N : Nat} {w w1 : World} (h : Below N w w1) (n : Nat) : Below N w (w1.drewN n) := ⟨h.os, h.tape, h.output, h.size, h.block⟩
set_option maxHeartbeats 1000000 in
theorem open_short (id : Int) (s : ByteArray) (w : World) (h : s.size ≠ 512) :
    Calls Tryz.prog 83 #[.int .i64 id, .string s] w fun e w' => e = .returned (.tuple #[.int .i64 0, .string ⟨#[]⟩, .int .i64 5]) ∧ w' = w := by
  have h1 : ((s.size : Int) != 512) = true := by rw [bne_iff_ne]; omega
  clear h
  go_enter Tryz.func83, Tryz.ntmps83
  go_wp2
  go_ret3
  exact ⟨rfl, rfl⟩
set_option maxHeartbeats 2000000 in
set_option maxRecDepth 20000 in
theorem open_yes (id : Int) (s : ByteArray) (w : World) (h : s.size = 512) (hT : Tab w) :
    Calls Tryz.prog 83 #[.int .i64 id, .string s] w fun e w' => e = .returned (.tuple #[.int .i64 (Pg.openK id s), .string (Pg.openB id s), .int .i64 (Pg.openE id s)]) ∧ Below w.heap.size w w' := by
  have h1 : ((s.size : Int) != 512) = false := by rw [bne_eq_false_iff_eq]; omega
  have HT : Hid (Tab w) := hT
  have hpos := hT.pos
  have HS : Hid (s.size = 512) := h
  have HB0 : Hid (Below w.heap.size w (w.alloc (.cells #[.int .i64 4] 3))) := (Below.refl _ _).alloc (Nat.le_refl _) _
  have HI0 : Hid (Ints (w.alloc (.cells #[.int .i64 4] 3)) (some ⟨w.heap.size, 0, none⟩) [4]) := .inr ⟨w.heap.size, 0, rfl, fun i x hx => by
    rw [cell_of_row _ _ _ _ _ _ (heap_alloc_new w _)]
    match i, hx with
    | 0, hx => simp at hx; subst hx; rfl
    | i + 1, hx => simp at hx⟩
  clear hT h
  go_enter Tryz.func83, Tryz.ntmps83
  go_wp2_with fail
  generalize World.alloc w _ = w0 at *
  refine (cut_any s 508 [4] _ 1 w0 (by have := HS.out; omega) (by omega) (by omega) (by simp) (by simp) HI0.out (by simp) (by omega)).mono ?_
  rintro e w1 ⟨v1, rfl, hO1, hB1⟩
  rw [Pg.cut_two HS.out] at hO1
  have HB1 : Hid (Below w.heap.size w w1) := below_next HB0.out hB1 HB0.out.size
  clear hB1 HB0 HI0
  obtain ⟨g1, cap1, rfl, hc1⟩ := own_at hO1 (by simp)
  have c10 : w1.cell? ⟨g1, 0, none⟩ = some (.string (Pg.fr s)) := hc1 0 _ rfl
  have c11 : w1.cell? ⟨g1, 1, none⟩ = some (.string (s.extract 508 512)) := hc1 1 _ rfl
  clear hc1 hO1
  have hts : (s.extract 508 512).size = 4 := Pg.ext_size s 508 512 (by have := HS.out; omega)
  have HN1 : Hid (∀ W, Calls Tryz.prog 115 #[.string (s.extract 508 512)] W fun e w' => e = .returned (.int .u32 (Wl.getL (Pg.tl4 s) : Nat)) ∧ w' = W) := fun W => by
    rw [← pg_tail_list s HS.out]; exact pg_number_any _ W (by omega)
  clear hts
  generalize s.extract 508 512 = t4 at *
  go_wp2_with fail
  go_quiet (first | (go_at_call 115; refine Calls.quiet_of_same (HN1.out _)))
  have HB2 : Hid (Below w.heap.size w (w1.drewN nq)) := drewN_below HB1.out nq
  generalize w1.drewN nq = w2 at *
  clear HB1 HN1
  have hfs : (Pg.fr s).size = 508 := Pg.ext_size s 0 508 (by have := HS.out; omega)
  obtain ⟨cap3, w3, hcv, hcap, hby, hB3, hsz3⟩ := bytes_of w2 (Pg.fr s) (by omega)
  have hbr := hby 0 (Pg.fr s).size (by omega)
  rw [List.drop_zero, Sc.size_eq, List.take_length, ← Sc.size_eq] at hbr
  change Bytes w3 _ (Pg.fr s).size (Wl.nb (Pg.fr s)) at hbr
  have HB3 : Hid (Below w.heap.size w w3) := below_next HB2.out hB3 HB2.out.size
  have HSM : Hid (Calls Tryz.prog 116 #[.slice (some ⟨w2.heap.size, 0, none⟩) (Pg.fr s).size cap3] w3 fun r w' => r = .returned (.int .u32 (Crc.sum (Wl.nb (Pg.fr s)) : Nat)) ∧ w' = w3) := sum_any _ _ cap3 _ w3 hbr (HT.out.below HB3.out hpos)
  clear hby hbr hB3 HB2 hfs hcap hsz3
  go_wp2_with fail
  refine HSM.out.mono ?_
  rintro e wS ⟨rfl, hwS⟩
  rw [hwS]
  clear hwS wS HSM hcv
  have HE : Hid (∀ b c d, Pg.openE id s = d → Pg.openK id s = b → Pg.openB id s = c → (Ending.returned (.tuple #[.int .i64 b, .string c, .int .i64 d])) = .returned (.tuple #[.int .i64 (Pg.openK id s), .string (Pg.openB id s), .int .i64 (Pg.openE id s)])) := fun b c d h1 h2 h3 => by rw [h1, h2, h3]
  have HOE : Hid (Pg.openE id s = if Crc.sum (Wl.nb (Pg.fr s)) ≠ Wl.getL (Pg.tl4 s) then 6 else if 500 < Pg.len s then 5 else if Pg.sealE id (Pg.kd s) (Pg.body s) = 0 ∧ Pg.sealS id (Pg.kd s) (Pg.body s) = s then 0 else 5) := by
    show Pg.openE id s = _
    conv => lhs; unfold Pg.openE
    rw [if_neg (by rw [HS.out]; decide)]
  have HF2 : Hid (Pg.cut (Pg.fr s) 4 [1, 1, 2, 500] = [s.extract 0 4, s.extract 4 5, s.extract 5 6, s.extract 6 8, s.extract 8 508]) := Pg.cut_five HS.out
  have hfs : (Pg.fr s).size = 508 := Pg.ext_size s 0 508 (by have := HS.out; omega)
  generalize Crc.sum (Wl.nb (Pg.fr s)) = sm at *
  generalize Wl.getL (Pg.tl4 s) = tn at *
  by_cases h2 : sm = tn
  · have b2 : ((sm : Int) != (tn : Int)) = false := by rw [bne_eq_false_iff_eq]; omega
    rw [if_neg (by rw [h2]; simp)] at HOE
    clear h2
    go_wp2_with fail
    have HB4 : Hid (Below w.heap.size w (w3.alloc (.cells #[.int .i64 1, .int .i64 1, .int .i64 2, .int .i64 500] 3))) := HB3.out.alloc HB3.out.size _
    have HI4 : Hid (Ints (w3.alloc (.cells #[.int .i64 1, .int .i64 1, .int .i64 2, .int .i64 500] 3)) (some ⟨w3.heap.size, 0, none⟩) [1, 1, 2, 500]) := .inr ⟨w3.heap.size, 0, rfl, fun i x hx => by
      rw [cell_of_row _ _ _ _ _ _ (heap_alloc_new w3 _)]
      match i, hx with
      | 0, hx => simp at hx; subst hx; rfl
      | 1, hx => simp at hx; subst hx; rfl
      | 2, hx => simp at hx; subst hx; rfl
      | 3, hx => simp at hx; subst hx; rfl
      | i + 4, hx => simp at hx⟩
    generalize World.alloc w3 _ = w4 at *
    refine (cut_any (Pg.fr s) 4 [1, 1, 2, 500] _ 4 w4 (by omega) (by omega) (by omega) (by simp) (by simp) HI4.out (by simp) (by omega)).mono ?_
    rintro e w5 ⟨v5, rfl, hO5, hB5⟩
    rw [HF2.out] at hO5
    have HB5 : Hid (Below w.heap.size w w5) := below_next HB4.out hB5 HB4.out.size
    clear hB5 HB4 HI4
    obtain ⟨g5, cap5, rfl, hc5⟩ := own_at hO5 (by simp)
    have c51 : w5.cell? ⟨g5, 1, none⟩ = some (.string (s.extract 4 5)) := hc5 1 _ rfl
    have c53 : w5.cell? ⟨g5, 3, none⟩ = some (.string (s.extract 6 8)) := hc5 3 _ rfl
    have c54 : w5.cell? ⟨g5, 4, none⟩ = some (.string (s.extract 8 508)) := hc5 4 _ rfl
    clear hc5 hO5
    have t1 : (s.extract 4 5).size = 1 := Pg.ext_size s 4 5 (by have := HS.out; omega)
    have t3 : (s.extract 6 8).size = 2 := Pg.ext_size s 6 8 (by have := HS.out; omega)
    have HN5 : Hid (∀ W, Calls Tryz.prog 115 #[.string (s.extract 4 5)] W fun e w' => e = .returned (.int .u32 (Pg.kd s : Nat)) ∧ w' = W) := fun W => by
      rw [← kd_list s]; exact pg_number_any _ W (by omega)
    have HN6 : Hid (∀ W, Calls Tryz.prog 115 #[.string (s.extract 6 8)] W fun e w' => e = .returned (.int .u32 (Pg.len s : Nat)) ∧ w' = W) := fun W => by
      rw [← len_list s]; exact pg_number_any _ W (by omega)
    have t4' : (s.extract 8 508).size = 500 := Pg.ext_size s 8 508 (by have := HS.out; omega)
    have hkl := kd_lt s
    have hll := len_lt s
    have HBD : Hid (Pg.len s ≤ 500 → (s.extract 8 508).extract 0 (Pg.len s) = Pg.body s) := fun hl => by
      rw [Pg.ext_ext2 _ _ _ _ _ (by have := HS.out; omega) (by omega)]; rfl
    have HSE : Hid (∀ W, Tab W → Calls Tryz.prog 117 #[.int .i64 id, .int .i64 (Pg.kd s : Nat), .string (Pg.body s)] W fun e w' => e = .returned (.tuple #[.string (Pg.sealS id (Pg.kd s) (Pg.body s)), .int .i64 (Pg.sealE id (Pg.kd s) (Pg.body s))]) ∧ Below W.heap.size W w') := fun W hW => seal_any id _ _ W hW
    have HK : Hid (Pg.openK id s = if Pg.openE id s = 0 then ((Pg.kd s : Nat) : Int) else 0) := rfl
    have HBo : Hid (Pg.openB id s = if Pg.openE id s = 0 then Pg.body s else ⟨#[]⟩) := rfl
    clear t1 t3
    generalize s.extract 4 5 = e1 at *
    generalize s.extract 6 8 = e3 at *
    generalize s.extract 8 508 = e4 at *
    generalize Pg.kd s = kd at *
    generalize Pg.len s = ln at *
    generalize Pg.body s = bd at *
    have m1 : (kd : Int) % 4294967296 = (kd : Int) := by omega
    go_wp2_with fail
    go_quiet (first | (go_at_call 115; refine Calls.quiet_of_same (HN5.out _)))
    have HB6 : Hid (Below w.heap.size w (w5.drewN nq)) := drewN_below HB5.out nq
    have c63 : (w5.drewN nq).cell? ⟨g5, 3, none⟩ = some (.string e3) := c53
    generalize w5.drewN nq = w6 at *
    clear HB5 HN5 c51 c53 c54
    go_wp2_with fail
    refine (HN6.out w6).mono ?_
    rintro e wS ⟨rfl, hwS⟩
    rw [hwS]
    clear hwS wS HN6
    by_cases h5 : 500 < ln
    · have d5 : decide ((500 : Int) < (ln : Int)) = true := decide_eq_true (by omega)
      rw [if_pos h5] at HOE
      have hR := (show Hid _ from HE.out 0 ⟨#[]⟩ 5 HOE.out (by rw [HK.out, HOE.out]; rfl) (by rw [HBo.out, HOE.out]; rfl))
      clear h5
      go_wp2
      go_ret3
      exact ⟨hR.out, HB6.out⟩
    · have d5 : decide ((500 : Int) < (ln : Int)) = false := decide_eq_false (by omega)
      have hbd := HBD.out (by omega)
      rw [if_neg h5] at HOE
      have l0 : (0 : Int) ≤ (ln : Int) := by omega
      have l1 : (ln : Int) ≤ (e4.size : Int) := by omega
      clear h5
      have hT6 := HT.out.below HB6.out hpos
      generalize Pg.sealS id kd bd = ps at *
      generalize Pg.sealE id kd bd = pe at *
      go_wp2_with fail
      refine (HSE.out w6 hT6).mono ?_
      rintro e w7 ⟨rfl, hB7⟩
      have HB7 : Hid (Below w.heap.size w w7) := below_next HB6.out hB7 HB6.out.size
      clear hB7 HB6 HSE hT6
      by_cases h6 : pe = 0
      · subst h6
        by_cases h7 : ps = s
        · have hb7 := toList_beq h7
          rw [if_pos ⟨rfl, h7⟩] at HOE
          have hR := (show Hid _ from HE.out kd bd 0 HOE.out (by rw [HK.out, HOE.out]; rfl) (by rw [HBo.out, HOE.out]; rfl))
          clear h7
          go_wp2
          go_ret3
          exact ⟨hR.out, HB7.out⟩
        · have hb7 := toList_ne h7
          rw [if_neg (fun h => h7 h.2)] at HOE
          have hR := (show Hid _ from HE.out 0 ⟨#[]⟩ 5 HOE.out (by rw [HK.out, HOE.out]; rfl) (by rw [HBo.out, HOE.out]; rfl))
          clear h7
          go_wp2
          go_ret3
          exact ⟨hR.out, HB7.out⟩
      · have hb6 : (pe != 0) = true := by rw [bne_iff_ne]; exact h6
        rw [if_neg (fun h => h6 h.1)] at HOE
        have hR := (show Hid _ from HE.out 0 ⟨#[]⟩ 5 HOE.out (by rw [HK.out, HOE.out]; rfl) (by rw [HBo.out, HOE.out]; rfl))
        clear h6
        go_wp2
        go_ret3
        exact ⟨hR.out, HB7.out⟩
  · have b2 : ((sm : Int) != (tn : Int)) = true := by rw [bne_iff_ne]; omega
    rw [if_pos h2] at HOE
    have hR := (show Hid _ from HE.out 0 ⟨#[]⟩ 6 HOE.out (by unfold Pg.openK; rw [HOE.out]; rfl) (by unfold Pg.openB; rw [HOE.out]; rfl))
    clear h2
    go_wp2
    go_ret3
    exact ⟨hR.out, HB3.out⟩
theorem pg_open_any (id : Int) (s : ByteArray) (w : World) (hT : Tab w) :
    Calls Tryz.prog 83 #[.int .i64 id, .string s] w fun e w' => e = .returned (.tuple #[.int .i64 (Pg.openK id s), .string (Pg.openB id s), .int .i64 (Pg.openE id s)]) ∧ Below w.heap.size w w' := by
  by_cases h : s.size = 512
  · exact open_yes id s w h hT
  · have e := Pg.open_size (id := id) h
    have ek : Pg.openK id s = 0 := by unfold Pg.openK; rw [e]; rfl
    have eb : Pg.openB id s = ⟨#[]⟩ := by unfold Pg.openB; rw [e]; rfl
    rw [e, ek, eb]
    exact (open_short id s w h).mono fun e w' ⟨h1, h2⟩ => ⟨h1, by rw [h2]; exact Below.refl _ _⟩
end Go.Proofs.YtcfninpokngmlaaGreatDoor
/- Proved: what page's Sectors and Blank answer. -/
namespace Go.Proofs.YtcfninpokngmlaaGreatDoor
open Go.RowKit
set_option maxHeartbeats 1000000 in
theorem sectors_any (s : ByteArray) (w : World) (hs : s.size ≤ 100000) :
    Calls Tryz.prog 104 #[.string s] w fun e w' => ∃ v, e = .returned v ∧ OwnS w' w.heap.size v (Pg.cut s 64 []) ∧ Below w.heap.size w w' := by
  have H := cut_any s 64 [] none 0 w hs (by omega) (by omega) (by simp) (by simp) (.inl rfl) (by simp) (by omega)
  go_enter Tryz.func104, Tryz.ntmps104
  go_wp2_with fail
  refine H.mono ?_
  rintro e w1 ⟨v, rfl, hO, hB⟩
  have HO : Hid (OwnS w1 w.heap.size v (Pg.cut s 64 []) ∧ Below w.heap.size w w1) := ⟨hO, hB⟩
  clear hO hB H
  go_wp2
  go_ret
  exact ⟨_, rfl, HO.out⟩
set_option maxHeartbeats 1000000 in
theorem blank_any (s : ByteArray) (w : World) : Calls Tryz.prog 82 #[.string s] w fun e w' => e = .returned (.bool (decide (s = Pg.blank))) ∧ Below w.heap.size w w' := by
  have hz := zeroPg
  have HR0 : Hid ((w.alloc (.cells zpg 157)).heap[w.heap.size]? = some (.cells (bc Pg.blank).toArray 157 (0, 0))) := heap_alloc_new w _
  have HB0 : Hid (Below w.heap.size w (w.alloc (.cells zpg 157))) := (Below.refl _ _).alloc (Nat.le_refl _) _
  have hcv := str_of (x := Pg.blank) (range_all HR0.out) 512
  rw [Pg.blank_size] at hcv
  have he : (s.toList == Pg.blank.toList) = decide (s = Pg.blank) := by
    by_cases h : s = Pg.blank
    · rw [toList_beq h, decide_eq_true h]
    · rw [toList_ne h, decide_eq_false h]
  generalize decide (s = Pg.blank) = r at *
  generalize Pg.blank = bl at *
  go_enter Tryz.func82, Tryz.ntmps82
  go_wp2
  go_ret
  exact ⟨rfl, HB0.out⟩
end Go.Proofs.YtcfninpokngmlaaGreatDoor
/- Proved: plain facts of pages by their numbers, in rising order (stage 10). No program is named. -/
namespace Pd
open Wl
/- what a page has -/
structure Sheet where
  kind : Nat
  body : ByteArray
abbrev Mp := List (Nat × Sheet)
def get : Mp → Nat → Option Sheet
  | [], _ => none
  | p :: m, i => if p.1 = i then some p.2 else get m i
def set : Mp → Nat → Sheet → Mp
  | [], i, x => [(i, x)]
  | p :: m, i, x => if i < p.1 then (i, x) :: p :: m else if p.1 = i then (i, x) :: m else p :: set m i x
def Up (m : Mp) : Prop := m.Pairwise (fun p q => p.1 < q.1)
theorem up_nil : Up [] := List.Pairwise.nil
theorem set_keys (x : Sheet) (i : Nat) : ∀ (m : Mp) (p : Nat × Sheet), p ∈ set m i x → p = (i, x) ∨ p ∈ m
  | [], p, h => by
    rcases List.mem_cons.1 h with h | h
    · exact .inl h
    · cases h
  | q :: m, p, h => by
    unfold set at h
    split at h
    · rcases List.mem_cons.1 h with h | h
      · exact .inl h
      · exact .inr h
    · split at h
      · rcases List.mem_cons.1 h with h | h
        · exact .inl h
        · exact .inr (List.mem_cons_of_mem _ h)
      · rcases List.mem_cons.1 h with h | h
        · exact .inr (h ▸ List.mem_cons_self)
        · rcases set_keys x i m p h with h | h
          · exact .inl h
          · exact .inr (List.mem_cons_of_mem _ h)
theorem Up.set (x : Sheet) (i : Nat) : ∀ {m : Mp}, Up m → Up (set m i x)
  | [], _ => by unfold Pd.set; exact List.pairwise_singleton _ _
  | q :: m, h => by
    have h1 := (List.pairwise_cons.1 h).1
    have h2 : Up m := (List.pairwise_cons.1 h).2
    unfold Pd.set
    split
    · rename_i hi
      refine List.pairwise_cons.2 ⟨fun p hp => ?_, h⟩
      rcases List.mem_cons.1 hp with rfl | hp
      · exact hi
      · exact Nat.lt_trans hi (h1 p hp)
    · split
      · rename_i hi
        exact List.pairwise_cons.2 ⟨fun p hp => by rw [← hi]; exact h1 p hp, h2⟩
      · rename_i hi hj
        refine List.pairwise_cons.2 ⟨fun p hp => ?_, Up.set x i h2⟩
        rcases set_keys x i m p hp with rfl | hp
        · show q.1 < i
          omega
        · exact h1 p hp
theorem get_none : ∀ {m : Mp} {i : Nat}, (∀ p ∈ m, p.1 ≠ i) → get m i = none
  | [], _, _ => rfl
  | q :: m, i, h => by
    unfold get
    rw [if_neg (h q List.mem_cons_self)]
    exact get_none (fun p hp => h p (List.mem_cons_of_mem _ hp))
theorem get_mem : ∀ {m : Mp} {i : Nat} {x : Sheet}, get m i = some x → (i, x) ∈ m
  | [], _, _, h => by cases h
  | q :: m, i, x, h => by
    unfold get at h
    split at h
    · rename_i hi
      obtain ⟨a, b⟩ := q
      simp only at hi h
      cases h
      rw [hi]
      exact List.mem_cons_self
    · exact List.mem_cons_of_mem _ (get_mem h)
theorem mem_get : ∀ {m : Mp} {p : Nat × Sheet}, Up m → p ∈ m → get m p.1 = some p.2
  | [], _, _, h => by cases h
  | q :: m, p, hu, h => by
    unfold get
    rcases List.mem_cons.1 h with rfl | h
    · rw [if_pos rfl]
    · have := (List.pairwise_cons.1 hu).1 p h
      rw [if_neg (by omega)]
      exact mem_get (List.pairwise_cons.1 hu).2 h
theorem get_set (x : Sheet) (i j : Nat) : ∀ {m : Mp}, Up m → get (set m i x) j = if i = j then some x else get m j
  | [], _ => by unfold set get; rfl
  | q :: m, h => by
    have h1 := (List.pairwise_cons.1 h).1
    have h2 : Up m := (List.pairwise_cons.1 h).2
    unfold set
    split
    · rename_i hi
      show (if i = j then some x else get (q :: m) j) = _
      rfl
    · split
      · rename_i hi
        show (if i = j then some x else get m j) = if i = j then some x else if q.1 = j then some q.2 else get m j
        by_cases hj : i = j
        · rw [if_pos hj, if_pos hj]
        · rw [if_neg hj, if_neg hj, if_neg (by omega)]
      · rename_i hi hq
        show (if q.1 = j then some q.2 else get (set m i x) j) = if i = j then some x else if q.1 = j then some q.2 else get m j
        rw [get_set x i j h2]
        by_cases hj : q.1 = j
        · rw [if_pos hj, if_pos hj, if_neg (by omega)]
        · rw [if_neg hj, if_neg hj]
theorem set_ne_nil (m : Mp) (i : Nat) (x : Sheet) : set m i x ≠ [] := by
  cases m with
  | nil => intro h; cases h
  | cons q m =>
    unfold set
    split
    · intro h; cases h
    · split
      · intro h; cases h
      · intro h; cases h
theorem set_length (x : Sheet) (i : Nat) : ∀ (m : Mp), (set m i x).length = m.length + 1 ∨ ((set m i x).length = m.length ∧ ∃ p ∈ m, p.1 = i)
  | [] => .inl rfl
  | q :: m => by
    unfold set
    split
    · exact .inl rfl
    · split
      · rename_i h
        exact .inr ⟨rfl, q, List.mem_cons_self, h⟩
      · rcases set_length x i m with h | ⟨h, p, hp, e⟩
        · exact .inl (by rw [List.length_cons, List.length_cons, h])
        · exact .inr ⟨by rw [List.length_cons, List.length_cons, h], p, List.mem_cons_of_mem _ hp, e⟩
theorem set_length_le (x : Sheet) (i : Nat) (m : Mp) : (set m i x).length ≤ m.length + 1 := by
  rcases set_length x i m with h | ⟨h, _⟩ <;> omega
/- two that tell the same are one -/
theorem mp_ext : ∀ {a b : Mp}, Up a → Up b → (∀ i, get a i = get b i) → a = b
  | [], [], _, _, _ => rfl
  | [], q :: b, _, hb, h => by
    have := h q.1
    rw [mem_get hb List.mem_cons_self] at this
    cases this
  | q :: a, [], ha, _, h => by
    have := h q.1
    rw [mem_get ha List.mem_cons_self] at this
    cases this
  | p :: a, q :: b, ha, hb, h => by
    have ha1 := (List.pairwise_cons.1 ha).1
    have hb1 := (List.pairwise_cons.1 hb).1
    have e1 : p.1 = q.1 := by
      rcases Nat.lt_trichotomy p.1 q.1 with hl | hl | hl
      · have h1 := h p.1
        rw [mem_get ha List.mem_cons_self, get_none (m := q :: b) (fun r hr => by
          rcases List.mem_cons.1 hr with rfl | hr
          · omega
          · have := hb1 r hr; omega)] at h1
        cases h1
      · exact hl
      · have h1 := h q.1
        rw [mem_get hb List.mem_cons_self, get_none (m := p :: a) (fun r hr => by
          rcases List.mem_cons.1 hr with rfl | hr
          · omega
          · have := ha1 r hr; omega)] at h1
        cases h1
    have e2 : p.2 = q.2 := by
      have h1 := h p.1
      rw [mem_get ha List.mem_cons_self, e1, mem_get hb List.mem_cons_self] at h1
      exact Option.some.inj h1
    obtain ⟨p1, p2⟩ := p
    obtain ⟨q1, q2⟩ := q
    simp only at e1 e2
    subst e1
    subst e2
    refine congrArg _ (mp_ext (List.pairwise_cons.1 ha).2 (List.pairwise_cons.1 hb).2 fun i => ?_)
    have h1 := h i
    unfold get at h1
    by_cases hi : p1 = i
    · subst hi
      rw [get_none (m := a) (fun r hr => by have := ha1 r hr; omega), get_none (m := b) (fun r hr => by have := hb1 r hr; omega)]
    · simp only at h1
      rw [if_neg hi, if_neg hi] at h1
      exact h1
/- the later ones over those ahead of them -/
def copy (d s : Mp) : Mp := s.foldl (fun m p => set m p.1 p.2) d
theorem Up.copy : ∀ (s : Mp) {d : Mp}, Up d → Up (copy d s)
  | [], _, h => h
  | p :: s, _, h => Up.copy s (h.set p.2 p.1)
theorem get_copy (i : Nat) : ∀ (s : Mp) {d : Mp}, Up d → Up s → get (copy d s) i = (get s i).or (get d i)
  | [], d, _, _ => rfl
  | p :: s, d, hd, hs => by
    have h1 := (List.pairwise_cons.1 hs).1
    show get (copy (set d p.1 p.2) s) i = _
    rw [get_copy i s (hd.set p.2 p.1) (List.pairwise_cons.1 hs).2, get_set p.2 p.1 i hd]
    by_cases hi : p.1 = i
    · rw [if_pos hi]
      have e : get s i = none := get_none (fun r hr => by have := h1 r hr; omega)
      rw [e]
      unfold get
      rw [if_pos hi]
      rfl
    · rw [if_neg hi]
      show _ = (if p.1 = i then some p.2 else get s i).or _
      rw [if_neg hi]
theorem copy_keys : ∀ (s d : Mp) (p : Nat × Sheet), p ∈ copy d s → p ∈ s ∨ p ∈ d
  | [], _, _, h => .inr h
  | q :: s, d, p, h => by
    rcases copy_keys s (set d q.1 q.2) p h with h | h
    · exact .inl (List.mem_cons_of_mem _ h)
    · rcases set_keys q.2 q.1 d p h with rfl | h
      · exact .inl List.mem_cons_self
      · exact .inr h
/- how many there can be below a bound -/
theorem up_bound : ∀ {m : Mp} {a b : Nat}, Up m → (∀ p ∈ m, a ≤ p.1 ∧ p.1 < b) → m.length ≤ b - a
  | [], _, _, _, _ => by simp
  | q :: m, a, b, h, hb => by
    have h1 := (List.pairwise_cons.1 h).1
    have h2 := hb q List.mem_cons_self
    have := up_bound (a := q.1 + 1) (b := b) (List.pairwise_cons.1 h).2 (fun p hp => ⟨h1 p hp, (hb p (List.mem_cons_of_mem _ hp)).2⟩)
    rw [List.length_cons]
    omega
end Pd
