/- Proved: what page's Seal answers for any number, kind and body. Condition: the table of the sums holds its sixteen numbers. -/
import Derived.Test.YtcfninpokngmlaaGreatDoorLow
namespace Go.Proofs.YtcfninpokngmlaaGreatDoor
open Go.RowKit
def zpg : Array Value := (bc Pg.blank).toArray
theorem zeroPg (W : World) : (zeroValue 157).run Tryz.prog W = .ok (.agg zpg) W := by kernel_rfl
theorem bc_ob (l : List UInt8) : bc (Wl.ob l) = l.map fun b => Value.int .u8 (b.toNat : Int) := by unfold bc; rw [Wl.ob_list]
theorem splice_map {α β : Type} (f : α → β) (a b : List α) (o : Nat) : splice (a.map f) o (b.map f) = (splice a o b).map f := by
  unfold splice
  rw [List.map_append, List.map_append, List.map_take, List.map_drop, List.length_map]
theorem row_set {w : World} {g t o : Nat} {a b : List UInt8} (h : w.heap[g]? = some (.cells (bc (Wl.ob a)).toArray t (0, 0))) (hl : o + b.length ≤ a.length) : (w.setCells g o (bc (Wl.ob b))).heap[g]? = some (.cells (bc (Wl.ob (splice a o b))).toArray t (0, 0)) := by
  have := setCells_splice g t (bc (Wl.ob b)) o _ w h (by rw [bc_ob, bc_ob, List.length_map, List.length_map]; exact hl)
  rw [this, bc_ob, bc_ob, bc_ob, splice_map]
theorem splice_front (id kind : Nat) (b : ByteArray) (h : b.size ≤ 500) : splice (Pg.zs 512) 0 (Pg.headL id kind b.size ++ b.data.toList) = Pg.frontL id kind b ++ Pg.zs 4 := by
  have hb := Sc.size_eq b
  unfold splice Pg.frontL Pg.zs
  rw [List.take_zero, List.nil_append, List.length_append, Pg.headL_length, List.drop_replicate, ← hb, List.append_assoc, List.append_assoc, List.append_assoc, List.replicate_append_replicate, show 512 - (0 + (8 + b.size)) = 500 - b.size + 4 by omega]
theorem splice_page (id kind n : Nat) (b : ByteArray) (h : b.size ≤ 500) : splice (Pg.frontL id kind b ++ Pg.zs 4) 508 (Wl.putL n 4) = Pg.frontL id kind b ++ Wl.putL n 4 := by
  have e := Pg.frontL_length (id := id) (kind := kind) h
  unfold splice
  rw [List.take_left' e, Wl.putL_length, List.drop_eq_nil_of_le (by rw [List.length_append, e]; simp [Pg.zs]), List.append_nil]
def pg_In64 (z : Int) : Prop := -9223372036854775808 ≤ z ∧ z ≤ 9223372036854775807
theorem below_next {N : Nat} {w w1 w2 : World} (h : Below N w w1) (hb : Below w1.heap.size w1 w2) (hN : N ≤ w1.heap.size) : Below N w w2 := h.trans (hb.mono hN)
theorem heap_next {w1 w2 : World} {g : Nat} {o : Obj} (h : w1.heap[g]? = some o) (hb : Below w1.heap.size w1 w2) : w2.heap[g]? = some o := (hb.block g (Array.getElem?_eq_some_iff.1 h).1).trans h
set_option maxHeartbeats 2000000 in
set_option maxRecDepth 20000 in
theorem seal_yes (i k : Nat) (b : ByteArray) (w : World) (hi : i ≤ 2147483647) (hk0 : 1 ≤ k) (hk : k ≤ 255) (hb : b.size ≤ 500) (hT : Tab w) :
    Calls Tryz.prog 117 #[.int .i64 (i : Int), .int .i64 (k : Int), .string b] w fun e w' => e = .returned (.tuple #[.string (Pg.page i k b), .int .i64 0]) ∧ Below w.heap.size w w' := by
  have hz := zeroPg
  have HT : Hid (Tab w) := hT
  have hpos := hT.pos
  have HR0 : Hid ((w.alloc (.cells zpg 157)).heap[w.heap.size]? = some (.cells (bc (Wl.ob (Pg.zs 512))).toArray 157 (0, 0))) := heap_alloc_new w _
  have HB0 : Hid (Below w.heap.size w (w.alloc (.cells zpg 157))) := (Below.refl _ _).alloc (Nat.le_refl _) _
  have a1 : decide ((i : Int) < 0) = false := decide_eq_false (by omega)
  have a2 : decide ((2147483647 : Int) < (i : Int)) = false := decide_eq_false (by omega)
  have a3 : decide ((k : Int) < 1) = false := decide_eq_false (by omega)
  have a4 : decide ((255 : Int) < (k : Int)) = false := decide_eq_false (by omega)
  have a5 : decide ((500 : Int) < (b.size : Int)) = false := decide_eq_false (by omega)
  have m1 : (i : Int) % 4294967296 = (i : Int) := by omega
  have m2 : (k : Int) % 4294967296 = (k : Int) := by omega
  have m3 : (b.size : Int) % 4294967296 = (b.size : Int) := by omega
  have HX : Hid (Wl.put i 4 ++ Wl.put k 1 ++ Wl.put 0 1 ++ Wl.put b.size 2 ++ b = Wl.ob (Pg.headL i k b.size ++ b.data.toList)) := by
    apply Wl.ext_list
    rw [Wl.app_list, Wl.app_list, Wl.app_list, Wl.app_list, Wl.put_list, Wl.put_list, Wl.put_list, Wl.put_list, Wl.ob_list]
    unfold Pg.headL
    simp [List.append_assoc]
  have s1 := Wl.put_size i 4
  have s2 := Wl.put_size k 1
  have s3 := Wl.put_size 0 1
  have s4 := Wl.put_size b.size 2
  have L1 : Hid (∀ W, Calls Tryz.prog 133 #[.int .u32 (i : Int), .int .i64 4] W fun e w' => e = .returned (.string (Wl.put i 4)) ∧ Below W.heap.size W w') := fun W => low_any i 4 W (by omega)
  have L2 : Hid (∀ W, Calls Tryz.prog 133 #[.int .u32 (k : Int), .int .i64 1] W fun e w' => e = .returned (.string (Wl.put k 1)) ∧ Below W.heap.size W w') := fun W => low_any k 1 W (by omega)
  have L3 : Hid (∀ W, Calls Tryz.prog 133 #[.int .u32 0, .int .i64 1] W fun e w' => e = .returned (.string (Wl.put 0 1)) ∧ Below W.heap.size W w') := fun W => low_any 0 1 W (by omega)
  have L4 : Hid (∀ W, Calls Tryz.prog 133 #[.int .u32 (b.size : Int), .int .i64 2] W fun e w' => e = .returned (.string (Wl.put b.size 2)) ∧ Below W.heap.size W w') := fun W => low_any b.size 2 W (by omega)
  generalize Wl.put i 4 = p1 at *
  generalize Wl.put k 1 = p2 at *
  generalize Wl.put 0 1 = p3 at *
  generalize Wl.put b.size 2 = p4 at *
  have A1 : ∀ W : World, (Op.stringOp .add p1 p2).run Tryz.prog W = .ok (.string (p1 ++ p2)) W := fun W => run_string_add_sum W _ _ (by omega)
  have A2 : ∀ W : World, (Op.stringOp .add (p1 ++ p2) p3).run Tryz.prog W = .ok (.string (p1 ++ p2 ++ p3)) W := fun W => run_string_add_sum W _ _ (by simp only [ByteArray.size_append]; omega)
  have A3 : ∀ W : World, (Op.stringOp .add (p1 ++ p2 ++ p3) p4).run Tryz.prog W = .ok (.string (p1 ++ p2 ++ p3 ++ p4)) W := fun W => run_string_add_sum W _ _ (by simp only [ByteArray.size_append]; omega)
  have A4 : ∀ W : World, (Op.stringOp .add (p1 ++ p2 ++ p3 ++ p4) b).run Tryz.prog W = .ok (.string (Wl.ob (Pg.headL i k b.size ++ b.data.toList))) W := fun W => by rw [← HX.out]; exact run_string_add_sum W _ _ (by simp only [ByteArray.size_append]; omega)
  clear s1 s2 s3 s4 HX hT
  go_enter Tryz.func117, Tryz.ntmps117
  go_wp2_with fail
  generalize World.alloc w _ = w0 at *
  go_quiet (fail)
  have HR1 : Hid ((w0.drewN nq).heap[w.heap.size]? = some (.cells (bc (Wl.ob (Pg.zs 512))).toArray 157 (0, 0))) := HR0.out
  have HB1 : Hid (Below w.heap.size w (w0.drewN nq)) := ⟨HB0.out.os, HB0.out.tape, HB0.out.output, HB0.out.size, HB0.out.block⟩
  generalize w0.drewN nq = w1 at *
  clear HR0 HB0 hz
  go_wp2_with fail
  refine (L1.out w1).mono ?_
  rintro e w2 ⟨rfl, hB2⟩
  have HR2 := (show Hid _ from heap_next HR1.out hB2)
  have HB2 := (show Hid _ from below_next HB1.out hB2 HB1.out.size)
  clear hB2 HR1 HB1
  go_wp2_with fail
  refine (L2.out w2).mono ?_
  rintro e w3 ⟨rfl, hB3⟩
  have HR3 := (show Hid _ from heap_next HR2.out hB3)
  have HB3 := (show Hid _ from below_next HB2.out hB3 HB2.out.size)
  clear hB3 HR2 HB2
  go_wp2_with fail
  refine (L3.out w3).mono ?_
  rintro e w4 ⟨rfl, hB4⟩
  have HR4 := (show Hid _ from heap_next HR3.out hB4)
  have HB4 := (show Hid _ from below_next HB3.out hB4 HB3.out.size)
  clear hB4 HR3 HB3
  go_wp2_with fail
  refine (L4.out w4).mono ?_
  rintro e w5 ⟨rfl, hB5⟩
  have HR5 : Hid (w5.heap[w.heap.size]? = some (.cells (bc (Wl.ob (Pg.zs 512))).toArray 157 (0, 0))) := heap_next HR4.out hB5
  have HB5 : Hid (Below w.heap.size w w5) := below_next HB4.out hB5 HB4.out.size
  clear hB5 HR4 HB4
  have hxs : (Wl.ob (Pg.headL i k b.size ++ b.data.toList)).size = 8 + b.size := by rw [Wl.ob_size, List.length_append, Pg.headL_length, Sc.size_eq]
  have HR6 : Hid ((w5.setCells w.heap.size 0 (bc (Wl.ob (Pg.headL i k b.size ++ b.data.toList)))).heap[w.heap.size]? = some (.cells (bc (Wl.ob (Pg.frontL i k b ++ Pg.zs 4))).toArray 157 (0, 0))) := by
    rw [← splice_front i k b hb]
    exact row_set HR5.out (by rw [List.length_append, Pg.headL_length, ← Sc.size_eq]; simp [Pg.zs]; omega)
  have HB6 : Hid (Below w.heap.size w (w5.setCells w.heap.size 0 (bc (Wl.ob (Pg.headL i k b.size ++ b.data.toList))))) := below_setCells (Nat.le_refl _) _ _ _ HB5.out
  have hth : w5.there w.heap.size 0 (Wl.ob (Pg.headL i k b.size ++ b.data.toList)).size := there_row HR5.out (by rw [List.size_toArray, bc_ob, List.length_map, hxs]; simp [Pg.zs]; omega)
  generalize Wl.ob (Pg.headL i k b.size ++ b.data.toList) = X at *
  go_wp2_with (refine copy_str rfl _ _ 138 9 rfl 5 Tryz.underlying138 size_u8 w.heap.size 0 508 512 rfl X rfl (by omega) hth ?_; generalize World.setCells w5 _ _ _ = w6 at *)
  have hfs := Pg.front_size (id := i) (kind := k) hb
  have hfl := Pg.frontL_length (id := i) (kind := k) hb
  have HSM : Hid (Calls Tryz.prog 116 #[.slice (some ⟨w.heap.size, 0, none⟩) 508 512] w6 fun r w' => r = .returned (.int .u32 (Crc.sum (Wl.nb (Pg.front i k b)) : Nat)) ∧ w' = w6) := by
    have hB := bytes_row (off := 0) (k := 508) HR6.out (by rw [Wl.ob_size, List.length_append, hfl]; omega) (by rw [Wl.ob_size, List.length_append, hfl]; simp [Pg.zs])
    rw [Wl.ob_list, List.drop_zero, List.take_left' hfl, ← Pg.front_list] at hB
    exact sum_any _ 508 512 _ w6 hB (HT.out.below HB6.out hpos)
  refine HSM.out.mono ?_
  rintro e wS ⟨rfl, hwS⟩
  rw [hwS]
  clear hwS wS HSM
  have L5 : Hid (Calls Tryz.prog 133 #[.int .u32 (Crc.sum (Wl.nb (Pg.front i k b)) : Nat), .int .i64 4] w6 fun e w' => e = .returned (.string (Wl.ob (Wl.putL (Crc.sum (Wl.nb (Pg.front i k b))) 4))) ∧ Below w6.heap.size w6 w') := low_any _ 4 w6 (by omega)
  have HPG : Hid (Wl.ob (Pg.frontL i k b ++ Wl.putL (Crc.sum (Wl.nb (Pg.front i k b))) 4) = Pg.page i k b) := by
    rw [← Pg.page_list]; exact Wl.list_ob _
  generalize Crc.sum (Wl.nb (Pg.front i k b)) = sm at *
  go_wp2_with fail
  refine L5.out.mono ?_
  rintro e w7 ⟨rfl, hB7⟩
  have HR7 := (show Hid _ from heap_next HR6.out hB7)
  have HB7 := (show Hid _ from below_next HB6.out hB7 HB6.out.size)
  clear hB7 HR6 HB6
  have HR8 : Hid ((w7.setCells w.heap.size 508 (bc (Wl.ob (Wl.putL sm 4)))).heap[w.heap.size]? = some (.cells (bc (Pg.page i k b)).toArray 157 (0, 0))) := by
    rw [← HPG.out, ← splice_page i k sm b hb]
    exact row_set HR7.out (by rw [List.length_append, hfl, Wl.putL_length]; simp [Pg.zs])
  have HB8 : Hid (Below w.heap.size w (w7.setCells w.heap.size 508 (bc (Wl.ob (Wl.putL sm 4))))) := below_setCells (Nat.le_refl _) _ _ _ HB7.out
  have hps : (Wl.ob (Wl.putL sm 4)).size = 4 := Wl.put_size sm 4
  have hth2 : w7.there w.heap.size 508 (Wl.ob (Wl.putL sm 4)).size := there_row HR7.out (by rw [List.size_toArray, bc_ob, List.length_map, hps, List.length_append, hfl]; simp [Pg.zs])
  generalize Wl.ob (Wl.putL sm 4) = Y at *
  have hcv := str_of (x := Pg.page i k b) (range_all HR8.out) 512
  rw [Pg.page_size hb] at hcv
  clear hfs hfl HPG
  go_wp2_with (refine copy_str rfl _ _ 138 9 rfl 5 Tryz.underlying138 size_u8 w.heap.size 508 4 4 rfl Y rfl (by omega) hth2 ?_; generalize World.setCells w7 _ _ _ = w8 at *)
  go_ret2
  exact ⟨rfl, HB8.out⟩
set_option maxHeartbeats 1000000 in
theorem seal_bad (id kind : Int) (b : ByteArray) (w : World) (h : Pg.bad id kind = true) :
    Calls Tryz.prog 117 #[.int .i64 id, .int .i64 kind, .string b] w fun e w' => e = .returned (.tuple #[.string ⟨#[]⟩, .int .i64 2]) ∧ w' = w := by
  have hc := Pg.bad_true h
  clear h
  by_cases h1 : id < 0
  · have a1 : decide (id < 0) = true := decide_eq_true h1
    clear hc h1
    go_enter Tryz.func117, Tryz.ntmps117
    go_wp2
    go_ret2
    exact ⟨rfl, rfl⟩
  · have a1 : decide (id < 0) = false := decide_eq_false h1
    by_cases h2 : 2147483647 < id
    · have a2 : decide (2147483647 < id) = true := decide_eq_true h2
      clear hc h1 h2
      go_enter Tryz.func117, Tryz.ntmps117
      go_wp2
      go_ret2
      exact ⟨rfl, rfl⟩
    · have a2 : decide (2147483647 < id) = false := decide_eq_false h2
      by_cases h3 : kind < 1
      · have a3 : decide (kind < 1) = true := decide_eq_true h3
        clear hc h1 h2 h3
        go_enter Tryz.func117, Tryz.ntmps117
        go_wp2
        go_ret2
        exact ⟨rfl, rfl⟩
      · have a3 : decide (kind < 1) = false := decide_eq_false h3
        have a4 : decide (255 < kind) = true := decide_eq_true (by omega)
        clear hc h1 h2 h3
        go_enter Tryz.func117, Tryz.ntmps117
        go_wp2
        go_ret2
        exact ⟨rfl, rfl⟩
set_option maxHeartbeats 1000000 in
theorem seal_long (id kind : Int) (b : ByteArray) (w : World) (h : Pg.bad id kind = false) (hl : 500 < b.size) :
    Calls Tryz.prog 117 #[.int .i64 id, .int .i64 kind, .string b] w fun e w' => e = .returned (.tuple #[.string ⟨#[]⟩, .int .i64 3]) ∧ w' = w := by
  have hc := Pg.bad_false h
  have a1 : decide (id < 0) = false := decide_eq_false (by omega)
  have a2 : decide (2147483647 < id) = false := decide_eq_false (by omega)
  have a3 : decide (kind < 1) = false := decide_eq_false (by omega)
  have a4 : decide (255 < kind) = false := decide_eq_false (by omega)
  have a5 : decide ((500 : Int) < (b.size : Int)) = true := decide_eq_true (by omega)
  clear hc hl h
  go_enter Tryz.func117, Tryz.ntmps117
  go_wp2
  go_ret2
  exact ⟨rfl, rfl⟩
theorem seal_any (id kind : Int) (b : ByteArray) (w : World) (hT : Tab w) :
    Calls Tryz.prog 117 #[.int .i64 id, .int .i64 kind, .string b] w fun e w' => e = .returned (.tuple #[.string (Pg.sealS id kind b), .int .i64 (Pg.sealE id kind b)]) ∧ Below w.heap.size w w' := by
  unfold Pg.sealS Pg.sealE
  cases h : Pg.bad id kind with
  | true => exact (seal_bad id kind b w h).mono fun e w' ⟨h1, h2⟩ => ⟨h1, by rw [h2]; exact Below.refl _ _⟩
  | false =>
    by_cases hl : 500 < b.size
    · simp only [Bool.false_eq_true, if_false, hl, if_true]
      exact (seal_long id kind b w h hl).mono fun e w' ⟨h1, h2⟩ => ⟨h1, by rw [h2]; exact Below.refl _ _⟩
    · simp only [Bool.false_eq_true, if_false, hl]
      have hc := Pg.bad_false h
      obtain ⟨i, rfl⟩ := Int.eq_ofNat_of_zero_le hc.1
      obtain ⟨k, rfl⟩ := Int.eq_ofNat_of_zero_le (show 0 ≤ kind by omega)
      rw [Int.toNat_natCast, Int.toNat_natCast]
      exact seal_yes i k b w (by omega) (by omega) (by omega) (by omega) hT
end Go.Proofs.YtcfninpokngmlaaGreatDoor
