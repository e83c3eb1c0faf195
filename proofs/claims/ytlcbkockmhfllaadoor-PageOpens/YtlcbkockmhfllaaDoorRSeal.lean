/- Proved: what the document's put and Seal answer. -/
import Derived.Test.YtlcbkockmhfllaaDoorLess
namespace Go.Proofs.YtlcbkockmhfllaaDoor
open Go.RowKit
theorem rfold_eq (r : Nat) (bs : List Nat) : Crc.rfold r bs = Crc.fold r bs := by
  have : Crc.rtk = Crc.tk := by funext r x; exact (Crc.tk_eq r x).symm
  unfold Crc.rfold Crc.fold; rw [this]
theorem rsum_eq (bs : List Nat) : Crc.rsum bs = Crc.sum bs := by
  unfold Crc.rsum Crc.rupd Crc.sum Crc.upd; rw [rfold_eq]
theorem byte_str (w : World) (x : Nat) (hx : x < 256) : (convert 38 9 (.slice (some ⟨w.heap.size, 0, none⟩) 1 1)).run Tryd.prog (w.alloc (.cells #[.int .u8 (x : Int)] 5)) = .ok (.string ⟨#[UInt8.ofNat x]⟩) (w.alloc (.cells #[.int .u8 (x : Int)] 5)) := by
  have e := run_convert_bytes_back (P := Tryd.prog) (w.alloc (.cells #[.int .u8 (x : Int)] 5)) 38 9 5 ⟨w.heap.size, 0, none⟩ 1 [UInt8.ofNat x] Tryd.underlying38 Tryd.underlying5 Tryd.underlying9 (fun j hj => by
    have : j = 0 := by simpa using hj
    subst this
    rw [Addr.add_mid, cell_of_row _ _ _ _ _ (0, 0) (heap_alloc_new w _)]
    simp [UInt8.toNat_ofNat', Nat.mod_eq_of_lt hx])
  exact e
set_option maxHeartbeats 1000000 in
theorem rput_any (n k : Nat) (w : World) (hn : n ≤ 9223372036854775807) (hk : k ≤ 1000) :
    Calls Tryd.prog 21 #[.int .i64 (n : Int), .int .i64 (k : Int)] w fun e w' => e = .returned (.string (Wl.put n k)) ∧ Below w.heap.size w w' := by
  go_enter Tryd.func21, Tryd.ntmps21
  go_wp2_with fail
  go_loopw [0, 5, 6] (fun s0 s5 s6 wr => ∃ j : Nat, j ≤ k ∧ s6 = .int .i64 (j : Int) ∧ s5 = .string (Wl.ob (Wl.putL n j)) ∧ s0 = .int .i64 ((n / 256 ^ j : Nat) : Int) ∧ Below w.heap.size w wr) (fun _ _ s6 _ => k - (intOf s6).toNat)
  case atStart => exact ⟨0, by omega, rfl, rfl, by simp, Below.refl _ _⟩
  case round =>
    obtain ⟨j, hj, rfl, rfl, rfl, hB⟩ := hrel
    have HB : Hid (Below w.heap.size w wr) := hB
    clear hB
    by_cases hjk : j < k
    · have dj : decide ((j : Int) < (k : Int)) = true := by simp; omega
      have hq : n / 256 ^ j ≤ n := Nat.div_le_self _ _
      have HNX : Hid (n / 256 ^ (j + 1) = n / 256 ^ j / 256) := by show _ = _; rw [Nat.pow_succ, Nat.div_div_eq_div_mul]
      have HPN := Wl.put_next n j
      have hsz : (Wl.ob (Wl.putL n j)).size = j := by rw [Wl.ob_size, Wl.putL_length]
      generalize n / 256 ^ j = q at *
      have A1 : ∀ W : World, (Op.stringOp .add (Wl.ob (Wl.putL n j)) ⟨#[UInt8.ofNat (q % 256)]⟩).run Tryd.prog W = .ok (.string (Wl.ob (Wl.putL n (j + 1)))) W := fun W => by
        have := run_string_add_sum (P := Tryd.prog) W (Wl.ob (Wl.putL n j)) ⟨#[UInt8.ofNat (q % 256)]⟩ (by rw [hsz]; show j + 1 ≤ _; omega)
        rwa [HPN] at this
      have hcv := byte_str wr (q % 256) (by omega)
      rw [show ((q % 256 : Nat) : Int) = (q : Int) % 256 by omega] at hcv
      have HFN : Hid (∃ j' : Nat, j' ≤ k ∧ Value.int .i64 ((j : Int) + 1) = .int .i64 (j' : Int) ∧ Value.string (Wl.ob (Wl.putL n (j + 1))) = .string (Wl.ob (Wl.putL n j')) ∧ Value.int .i64 ((q : Int) / 256) = .int .i64 ((n / 256 ^ j' : Nat) : Int) ∧ Below w.heap.size w (wr.alloc (.cells #[.int .u8 ((q : Int) % 256)] 5))) := ⟨j + 1, by omega, by go_num, rfl, by rw [HNX.out]; simp, HB.out.alloc HB.out.size _⟩
      clear HPN hsz
      generalize Wl.ob (Wl.putL n j) = y at *
      generalize Wl.ob (Wl.putL n (j + 1)) = z at *
      go_wp2
      go_roundw
      case rel => first | exact HFN.out | ((repeat apply Exists.intro); exact ⟨HFN.out, rfl⟩)
      case measure => (simp [intOf]) <;> omega
    · obtain rfl : j = k := by omega
      go_wp2
      go_ret
      exact ⟨rfl, HB.out⟩
/- a text with noughts behind it -/
def pad (x : ByteArray) (k : Nat) : ByteArray := Wl.ob (x.data.toList ++ List.replicate k 0)
theorem pad_zero (x : ByteArray) : pad x 0 = x := by unfold pad; rw [List.replicate_zero, List.append_nil, Wl.list_ob]
theorem pad_size (x : ByteArray) (k : Nat) : (pad x k).size = x.size + k := by unfold pad; rw [Wl.ob_size, List.length_append, List.length_replicate, Sc.size_eq]
theorem pad_next (x : ByteArray) (k : Nat) : pad x k ++ ⟨#[0]⟩ = pad x (k + 1) := by
  apply Wl.ext_list
  unfold pad
  rw [Wl.app_list, Wl.ob_list, Wl.ob_list, List.append_assoc, List.replicate_succ']
theorem pad_front (i k : Nat) (b : ByteArray) : pad (Wl.ob (Pg.headL i k b.size ++ b.data.toList)) (500 - b.size) = Pg.front i k b := by
  unfold pad Pg.front Pg.frontL Pg.zs
  rw [Wl.ob_list, List.append_assoc]
theorem bytes_all {w1 : World} {g : Nat} {x : ByteArray} (h : ∀ off k, off + k ≤ x.size → Bytes w1 (some ⟨g, off, none⟩) k (((x.data.toList.drop off).take k).map UInt8.toNat)) : Bytes w1 (some ⟨g, 0, none⟩) x.size (Wl.nb x) := by
  have hbr := h 0 x.size (by omega)
  rw [List.drop_zero, Sc.size_eq, List.take_length, ← Sc.size_eq] at hbr
  exact hbr
set_option maxHeartbeats 2000000 in
set_option maxRecDepth 20000 in
theorem rseal_yes (i k : Nat) (b : ByteArray) (w : World) (hi : i ≤ 2147483647) (hk0 : 1 ≤ k) (hk : k ≤ 255) (hb : b.size ≤ 500) :
    Calls Tryd.prog 10 #[.int .i64 (i : Int), .int .i64 (k : Int), .string b] w fun e w' => e = .returned (.tuple #[.string (Pg.page i k b), .int .i64 0]) ∧ Below w.heap.size w w' := by
  have a1 : decide ((i : Int) < 0) = false := decide_eq_false (by omega)
  have a2 : decide ((2147483647 : Int) < (i : Int)) = false := decide_eq_false (by omega)
  have a3 : decide ((k : Int) < 1) = false := decide_eq_false (by omega)
  have a4 : decide ((255 : Int) < (k : Int)) = false := decide_eq_false (by omega)
  have a5 : decide ((500 : Int) < (b.size : Int)) = false := decide_eq_false (by omega)
  have HX : Hid (Wl.put i 4 ++ Wl.put k 1 ++ ⟨#[0]⟩ ++ Wl.put b.size 2 ++ b = Wl.ob (Pg.headL i k b.size ++ b.data.toList)) := by
    show _ = _
    rw [show (⟨#[0]⟩ : ByteArray) = Wl.put 0 1 from rfl]
    apply Wl.ext_list
    rw [Wl.app_list, Wl.app_list, Wl.app_list, Wl.app_list, Wl.put_list, Wl.put_list, Wl.put_list, Wl.put_list, Wl.ob_list]
    unfold Pg.headL
    simp [List.append_assoc]
  have s1 := Wl.put_size i 4
  have s2 := Wl.put_size k 1
  have s4 := Wl.put_size b.size 2
  have L1 : Hid (∀ W, Calls Tryd.prog 21 #[.int .i64 (i : Int), .int .i64 4] W fun e w' => e = .returned (.string (Wl.put i 4)) ∧ Below W.heap.size W w') := fun W => rput_any i 4 W (by omega) (by omega)
  have L2 : Hid (∀ W, Calls Tryd.prog 21 #[.int .i64 (k : Int), .int .i64 1] W fun e w' => e = .returned (.string (Wl.put k 1)) ∧ Below W.heap.size W w') := fun W => rput_any k 1 W (by omega) (by omega)
  have L4 : Hid (∀ W, Calls Tryd.prog 21 #[.int .i64 (b.size : Int), .int .i64 2] W fun e w' => e = .returned (.string (Wl.put b.size 2)) ∧ Below W.heap.size W w') := fun W => rput_any b.size 2 W (by omega) (by omega)
  generalize Wl.put i 4 = p1 at *
  generalize Wl.put k 1 = p2 at *
  generalize Wl.put b.size 2 = p4 at *
  have z1 : (⟨#[0]⟩ : ByteArray).size = 1 := rfl
  have A1 : ∀ W : World, (Op.stringOp .add p1 p2).run Tryd.prog W = .ok (.string (p1 ++ p2)) W := fun W => run_string_add_sum W _ _ (by omega)
  have A2 : ∀ W : World, (Op.stringOp .add (p1 ++ p2) ⟨#[0]⟩).run Tryd.prog W = .ok (.string (p1 ++ p2 ++ ⟨#[0]⟩)) W := fun W => run_string_add_sum W _ _ (by simp only [ByteArray.size_append]; omega)
  have A3 : ∀ W : World, (Op.stringOp .add (p1 ++ p2 ++ ⟨#[0]⟩) p4).run Tryd.prog W = .ok (.string (p1 ++ p2 ++ ⟨#[0]⟩ ++ p4)) W := fun W => run_string_add_sum W _ _ (by simp only [ByteArray.size_append]; omega)
  have A4 : ∀ W : World, (Op.stringOp .add (p1 ++ p2 ++ ⟨#[0]⟩ ++ p4) b).run Tryd.prog W = .ok (.string (Wl.ob (Pg.headL i k b.size ++ b.data.toList))) W := fun W => by rw [← HX.out]; exact run_string_add_sum W _ _ (by simp only [ByteArray.size_append]; omega)
  clear s1 s2 s4 HX z1
  go_enter Tryd.func10, Tryd.ntmps10
  go_wp2_with fail
  refine (L1.out w).mono ?_
  rintro e w2 ⟨rfl, hB2⟩
  have HB2 : Hid (Below w.heap.size w w2) := hB2
  clear hB2
  go_wp2_with fail
  refine (L2.out w2).mono ?_
  rintro e w3 ⟨rfl, hB3⟩
  have HB3 : Hid (Below w.heap.size w w3) := below_next HB2.out hB3 HB2.out.size
  clear hB3 HB2
  go_wp2_with fail
  refine (L4.out w3).mono ?_
  rintro e w5 ⟨rfl, hB5⟩
  have HB5 : Hid (Below w.heap.size w w5) := below_next HB3.out hB5 HB3.out.size
  clear hB5 HB3 L1 L2 L4
  have hxs : (Wl.ob (Pg.headL i k b.size ++ b.data.toList)).size = 8 + b.size := by rw [Wl.ob_size, List.length_append, Pg.headL_length, Sc.size_eq]
  have HPF : Hid (pad (Wl.ob (Pg.headL i k b.size ++ b.data.toList)) (500 - b.size) = Pg.front i k b) := pad_front i k b
  generalize Wl.ob (Pg.headL i k b.size ++ b.data.toList) = X at *
  go_wp2_with fail
  clear A1 A2 A3 A4
  go_loopw [8] (fun s8 wr => ∃ j : Nat, j ≤ 500 - b.size ∧ s8 = .string (pad X j) ∧ wr = w5) (fun s8 _ => match s8 with | .string q => 600 - q.size | _ => 0)
  case atStart => exact ⟨0, by omega, by rw [pad_zero], rfl⟩
  case round =>
    obtain ⟨j, hj, rfl, hwr⟩ := hrel
    subst hwr
    have hps := pad_size X j
    by_cases hlt : j < 500 - b.size
    · have dj : decide (((pad X j).size : Int) < 508) = true := decide_eq_true (by omega)
      have B1 : ∀ W : World, (Op.stringOp .add (pad X j) ⟨#[0]⟩).run Tryd.prog W = .ok (.string (pad X (j + 1))) W := fun W => by
        have := run_string_add_sum (P := Tryd.prog) W (pad X j) ⟨#[0]⟩ (by rw [hps]; show _ + 1 ≤ _; omega)
        rwa [pad_next] at this
      have HFN : Hid (∃ j' : Nat, j' ≤ 500 - b.size ∧ Value.string (pad X (j + 1)) = .string (pad X j')) := ⟨j + 1, by omega, rfl⟩
      have HM : Hid (600 - (pad X (j + 1)).size < 600 - (pad X j).size) := by show _ < _; rw [pad_size, pad_size]; omega
      clear hps
      generalize pad X j = y at *
      generalize pad X (j + 1) = z at *
      go_wp2
      go_roundw
      case rel =>
        obtain ⟨j', h1, h2⟩ := HFN.out
        exact ⟨j', h1, h2, trivial⟩
      case measure => exact HM.out
    · have hje : j = 500 - b.size := by omega
      have hfr : pad X j = Pg.front i k b := by rw [hje]; exact HPF.out
      have hfs := Pg.front_size (id := i) (kind := k) hb
      have dj : decide (((Pg.front i k b).size : Int) < 508) = false := decide_eq_false (by omega)
      rw [hfr]
      clear hps hlt hj hje hfr HPF
      obtain ⟨cap, w6, hcv, _, hby, hB6, hz6⟩ := bytes_of wr (Pg.front i k b) (by omega)
      have HSM : Hid (Calls Tryd.prog 22 #[.slice (some ⟨wr.heap.size, 0, none⟩) (Pg.front i k b).size cap] w6 fun e w' => e = .returned (.int .u32 (Crc.sum (Wl.nb (Pg.front i k b)) : Nat)) ∧ w' = w6) := by
        rw [← rsum_eq]; exact rsum_any _ _ cap _ w6 (bytes_all hby)
      have HB6 : Hid (Below w.heap.size w w6) := below_next HB5.out hB6 HB5.out.size
      have hsl := Pg.sum_lt (Pg.front i k b)
      have HL5 : Hid (∀ W, Calls Tryd.prog 21 #[.int .i64 (Crc.sum (Wl.nb (Pg.front i k b)) : Nat), .int .i64 4] W fun e w' => e = .returned (.string (Wl.sum4 (Pg.front i k b))) ∧ Below W.heap.size W w') := fun W => rput_any _ 4 W (by omega) (by omega)
      have hz4 := Wl.sum4_size (Pg.front i k b)
      have C1 : ∀ W : World, (Op.stringOp .add (Pg.front i k b) (Wl.sum4 (Pg.front i k b))).run Tryd.prog W = .ok (.string (Pg.page i k b)) W := fun W => run_string_add_sum W _ _ (by omega)
      clear hby hB6 hz6 hz4 hfs
      generalize Crc.sum (Wl.nb (Pg.front i k b)) = sm at *
      generalize Wl.sum4 (Pg.front i k b) = s4 at *
      generalize Pg.front i k b = fr at *
      go_wp2_with fail
      refine HSM.out.mono ?_
      rintro e wS ⟨rfl, hwS⟩
      rw [hwS]
      clear hwS wS HSM hcv
      have m1 : (sm : Int) % 4294967296 = (sm : Int) := by omega
      go_wp2_with fail
      refine (HL5.out w6).mono ?_
      rintro e w7 ⟨rfl, hB7⟩
      have HB7 : Hid (Below w.heap.size w w7) := below_next HB6.out hB7 HB6.out.size
      clear hB7 HB6 HL5
      go_wp2
      go_ret2
      exact ⟨rfl, HB7.out⟩
set_option maxHeartbeats 1000000 in
theorem rseal_bad (id kind : Int) (b : ByteArray) (w : World) (h : Pg.bad id kind = true) :
    Calls Tryd.prog 10 #[.int .i64 id, .int .i64 kind, .string b] w fun e w' => e = .returned (.tuple #[.string ⟨#[]⟩, .int .i64 2]) ∧ w' = w := by
  have hc := Pg.bad_true h
  clear h
  by_cases h1 : id < 0
  · have a1 : decide (id < 0) = true := decide_eq_true h1
    clear hc h1
    go_enter Tryd.func10, Tryd.ntmps10
    go_wp2
    go_ret2
    exact ⟨rfl, rfl⟩
  · have a1 : decide (id < 0) = false := decide_eq_false h1
    by_cases h2 : 2147483647 < id
    · have a2 : decide (2147483647 < id) = true := decide_eq_true h2
      clear hc h1 h2
      go_enter Tryd.func10, Tryd.ntmps10
      go_wp2
      go_ret2
      exact ⟨rfl, rfl⟩
    · have a2 : decide (2147483647 < id) = false := decide_eq_false h2
      by_cases h3 : kind < 1
      · have a3 : decide (kind < 1) = true := decide_eq_true h3
        clear hc h1 h2 h3
        go_enter Tryd.func10, Tryd.ntmps10
        go_wp2
        go_ret2
        exact ⟨rfl, rfl⟩
      · have a3 : decide (kind < 1) = false := decide_eq_false h3
        have a4 : decide (255 < kind) = true := decide_eq_true (by omega)
        clear hc h1 h2 h3
        go_enter Tryd.func10, Tryd.ntmps10
        go_wp2
        go_ret2
        exact ⟨rfl, rfl⟩
set_option maxHeartbeats 1000000 in
theorem rseal_long (id kind : Int) (b : ByteArray) (w : World) (h : Pg.bad id kind = false) (hl : 500 < b.size) :
    Calls Tryd.prog 10 #[.int .i64 id, .int .i64 kind, .string b] w fun e w' => e = .returned (.tuple #[.string ⟨#[]⟩, .int .i64 3]) ∧ w' = w := by
  have hc := Pg.bad_false h
  have a1 : decide (id < 0) = false := decide_eq_false (by omega)
  have a2 : decide (2147483647 < id) = false := decide_eq_false (by omega)
  have a3 : decide (kind < 1) = false := decide_eq_false (by omega)
  have a4 : decide (255 < kind) = false := decide_eq_false (by omega)
  have a5 : decide ((500 : Int) < (b.size : Int)) = true := decide_eq_true (by omega)
  clear hc hl h
  go_enter Tryd.func10, Tryd.ntmps10
  go_wp2
  go_ret2
  exact ⟨rfl, rfl⟩
theorem rseal_any (id kind : Int) (b : ByteArray) (w : World) :
    Calls Tryd.prog 10 #[.int .i64 id, .int .i64 kind, .string b] w fun e w' => e = .returned (.tuple #[.string (Pg.sealS id kind b), .int .i64 (Pg.sealE id kind b)]) ∧ Below w.heap.size w w' := by
  unfold Pg.sealS Pg.sealE
  cases h : Pg.bad id kind with
  | true => exact (rseal_bad id kind b w h).mono fun e w' ⟨h1, h2⟩ => ⟨h1, by rw [h2]; exact Below.refl _ _⟩
  | false =>
    by_cases hl : 500 < b.size
    · simp only [Bool.false_eq_true, if_false, hl, if_true]
      exact (rseal_long id kind b w h hl).mono fun e w' ⟨h1, h2⟩ => ⟨h1, by rw [h2]; exact Below.refl _ _⟩
    · simp only [Bool.false_eq_true, if_false, hl]
      have hc := Pg.bad_false h
      obtain ⟨i, rfl⟩ := Int.eq_ofNat_of_zero_le hc.1
      obtain ⟨k, rfl⟩ := Int.eq_ofNat_of_zero_le (show 0 ≤ kind by omega)
      rw [Int.toNat_natCast, Int.toNat_natCast]
      exact rseal_yes i k b w (by omega) (by omega) (by omega) (by omega)
end Go.Proofs.YtlcbkockmhfllaaDoor
