/- Proved: what slot's input.number and text answer (stage 11). -/
import Derived.Test.YtoinaplmgffkpaaDecH
import Derived.Laws.BitsAllLaws
namespace Go.Proofs.Ytoinaplmgffkpaa
open Go.RowKit
open Sl (Cel Nod)
theorem i64_or_nat (a b : Nat) (ha : a < 4294967296) (hb : b < 4294967296) : bits .or .i64 (a : Int) (b : Int) = ((a ||| b : Nat) : Int) := by
  have hx : a ||| b < 2 ^ 32 := Nat.or_lt_two_pow (by omega) (by omega)
  show IntKind.i64.wrap ((BitVec.ofInt 64 (a : Int) ||| BitVec.ofInt 64 (b : Int)).toNat : Int) = _
  rw [BitVec.toNat_or, ofInt_u64 a (by omega), ofInt_u64 b (by omega), IntKind.wrap_i64]
  omega
theorem or4 (a x j : Nat) (ha : a < 256 ^ j) (hx : x < 256) (hj : j < 4) : bits .or .i64 (a : Int) (IntKind.i64.wrap ((x : Int) * 2 ^ (8 * j))) = ((a + 256 ^ j * x : Nat) : Int) := by
  rw [pow256] at ha ⊢
  have hp : 2 ^ (8 * j) * 256 ≤ 4294967296 := by
    have h1 : 2 ^ (8 * j) * 256 = 2 ^ (8 * j + 8) := by rw [Nat.pow_add]
    have h2 : 2 ^ (8 * j + 8) ≤ 2 ^ 32 := Nat.pow_le_pow_right (by omega) (by omega)
    rw [h1]
    exact h2
  have hx2 : 2 ^ (8 * j) * x < 4294967296 := by
    have h1 : 2 ^ (8 * j) * (x + 1) ≤ 2 ^ (8 * j) * 256 := Nat.mul_le_mul_left _ (by omega)
    have h2 := Nat.two_pow_pos (8 * j)
    rw [Nat.mul_add] at h1
    omega
  have e1 : (x : Int) * 2 ^ (8 * j) = ((2 ^ (8 * j) * x : Nat) : Int) := by push_cast; rw [Int.mul_comm]
  have e2 : IntKind.i64.wrap ((2 ^ (8 * j) * x : Nat) : Int) = ((2 ^ (8 * j) * x : Nat) : Int) := by rw [IntKind.wrap_i64]; omega
  have h3 : 2 ^ (8 * j) ≤ 4294967296 := by omega
  rw [e1, e2, i64_or_nat _ _ (by omega) hx2, Nat.or_comm, ← Nat.two_pow_add_eq_or_of_lt ha, Nat.add_comm]
theorem wrap64_i (n : Int) : IntKind.i64.wrap n = wrap64 n := by unfold wrap64; exact IntKind.wrap_i64 n
theorem or4w (a x j : Nat) (ha : a < 256 ^ j) (hx : x < 256) (hj : j < 4) : bits .or .i64 (a : Int) (wrap64 ((x : Int) * 2 ^ (8 * j))) = ((a + 256 ^ j * x : Nat) : Int) := by
  rw [← wrap64_i]
  exact or4 a x j ha hx hj
set_option maxHeartbeats 1000000 in
theorem num_in (g : Nat) (s : In) (n : Nat) (w : World) (hg : Brow w g (irow s) 76) (hs : Ok8 s) (hn : n ≤ 4) :
    Calls Try.prog 77 #[.pointer (some ⟨g, 0, none⟩), .int .i64 (n : Int)] w fun e w' => e = .returned (.int .i64 (numV s n : Int)) ∧ Brow w' g (irow (cutS s n)) 76 ∧ Chg g w w' := by
  have HC := cut_in g s n w hg hs (by omega)
  have hv := (cutV_len s n).1
  have hb : ∀ x ∈ cutV s n, x < 256 := fun x hx => hs.b x (cutV_mem hx)
  unfold numV
  generalize cutV s n = v at *
  clear hg hs
  have hvl : v.length ≤ 4 := by omega
  have HZ : Is (tb v).size v.length := ⟨tb_size v⟩
  go_enter Try.func77, Try.ntmps77
  go_wp2_with fail
  refine HC.mono ?_
  rintro e w1 ⟨rfl, hI, hB1⟩
  have HI : Hid (Brow w1 g (irow (cutS s n)) 76 ∧ Chg g w w1) := ⟨hI, hB1⟩
  clear hI hB1 HC
  go_wp2_with fail
  go_loopw [5, 13] (fun s5 s13 wr => ∃ j : Nat, j ≤ v.length ∧ s13 = .int .i64 (j : Int) ∧ s5 = .int .i64 ((le (v.take j) : Nat) : Int) ∧ wr = w1) (fun _ s13 _ => v.length - (intOf s13).toNat)
  case atStart => exact ⟨0, by omega, rfl, rfl, rfl⟩
  case round =>
    obtain ⟨j, hj, rfl, rfl, hwr⟩ := hrel
    replace hwr := hwr.symm
    subst hwr
    by_cases hlt : j < v.length
    · have dj : decide ((j : Int) < ((tb v).size : Int)) = true := decide_eq_true (by have := HZ.eq; omega)
      have j0 : (0 : Int) ≤ (j : Int) := by omega
      have j1 : (j : Int) < ((tb v).size : Int) := by have := HZ.eq; omega
      have hjz : j < (tb v).size := by have := HZ.eq; omega
      have hget := tb_get v hb j hlt hjz
      have hx : v.getD j 0 < 256 := hb _ (Sl.getD_mem v j 0 hlt)
      have hlv : (v.take j).length = j := by rw [List.length_take]; omega
      have hg := le_lt (v.take j) (fun x hx => hb x (List.mem_of_mem_take hx))
      rw [hlv] at hg
      have hsn : le (v.take (j + 1)) = le (v.take j) + 256 ^ j * v.getD j 0 := by rw [Sl.take_more v j 0 hlt, le_snoc, hlv]
      have hor := or4w (le (v.take j)) (v.getD j 0) j hg hx (by omega)
      rw [← hsn] at hor
      have HFN : Hid (∃ j' : Nat, j' ≤ v.length ∧ Value.int .i64 ((j : Int) + 1) = .int .i64 (j' : Int) ∧ Value.int .i64 ((le (v.take (j + 1)) : Nat) : Int) = .int .i64 ((le (v.take j') : Nat) : Int)) := ⟨j + 1, by omega, by go_num, rfl⟩
      have hmb := min_bits j (by omega)
      have hw8 : IntKind.i64.wrap (8 * (j : Int)) = 8 * (j : Int) := by rw [IntKind.wrap_i64]; omega
      have HOR : Hid (bits .or .i64 ((le (v.take j) : Nat) : Int) (wrap64 ((v.getD j 0 : Int) * 2 ^ (8 * j))) = ((le (v.take (j + 1)) : Nat) : Int)) := hor
      clear hb hsn hlv HI hor
      generalize le (v.take (j + 1)) = z at *
      generalize le (v.take j) = y at *
      generalize v.getD j 0 = x at *
      go_wp2
      --MARK
      go_roundw
      case rel =>
        obtain ⟨j', h1, h2, h3⟩ := HFN.out
        exact ⟨j', h1, h2, (congrArg (Value.int .i64) HOR.out).trans h3, trivial⟩
      case measure => (simp [intOf]) <;> omega
    · have hkl : ¬ (j : Int) < ((tb v).size : Int) := by have := HZ.eq; omega
      have HT : Is (v.take j) v := ⟨List.take_of_length_le (by omega)⟩
      go_wp2
      go_ret
      rw [HT.eq]
      exact ⟨rfl, HI.out.1, HI.out.2⟩
set_option maxHeartbeats 1000000 in
theorem txt_in (g : Nat) (s : In) (w : World) (hg : Brow w g (irow s) 76) (hs : Ok8 s) :
    Calls Try.prog 87 #[.pointer (some ⟨g, 0, none⟩)] w fun e w' => e = .returned (.string (tb (txtV s))) ∧ Brow w' g (irow (txtS s)) 76 ∧ Chg g w w' := by
  have HN := num_in g s 1 w hg hs (by omega)
  have hnl := hs.num 1
  have HC := fun (W : World) (h : Brow W g (irow (cutS s 1)) 76) => cut_in g (cutS s 1) (numV s 1) W h (hs.cut 1) (by omega)
  have hvl := txtV_len hs
  unfold txtV txtS at *
  have HZ : Hid ((tb (cutV (cutS s 1) (numV s 1))).size ≤ 281474976710656) := by show (tb (cutV (cutS s 1) (numV s 1))).size ≤ 281474976710656; rw [tb_size]; omega
  clear hg hs hvl hnl
  generalize tb (cutV (cutS s 1) (numV s 1)) = T at *
  generalize cutS (cutS s 1) (numV s 1) = s2 at *
  generalize numV s 1 = m at *
  generalize cutS s 1 = s1 at *
  go_enter Try.func87, Try.ntmps87
  go_wp2_with fail
  refine HN.mono ?_
  rintro e w1 ⟨rfl, hI1, hB1⟩
  have HC1 := HC w1 hI1
  have HB1 : Hid (Chg g w w1) := hB1
  clear hI1 hB1 HN HC
  go_wp2_with fail
  refine HC1.mono ?_
  rintro e w2 ⟨rfl, hI2, hB2⟩
  have HI2 : Hid (Brow w2 g (irow s2) 76 ∧ Chg g w w2) := ⟨hI2, HB1.out.trans hB2⟩
  clear hI2 hB2 HC1 HB1
  go_wp2_with fail
  refine (sclone_any T w2 HZ.out).mono ?_
  rintro e w3 ⟨rfl, hB3⟩
  have HI3 : Hid (Brow w3 g (irow s2) 76 ∧ Chg g w w3) := ⟨HI2.out.1.below hB3 HI2.out.1.lt, HI2.out.2.trans (Chg.of g hB3)⟩
  clear hB3 HI2
  go_wp2
  go_ret
  exact ⟨rfl, HI3.out.1, HI3.out.2⟩
end Go.Proofs.Ytoinaplmgffkpaa
