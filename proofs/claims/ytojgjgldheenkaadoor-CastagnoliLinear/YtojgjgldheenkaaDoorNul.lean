/- Proved: takeNoughts answers the register behind n noughts. Conditions: the register is below 2^32, n from 0 to 2^62, the table holds its sixteen numbers. -/
import Derived.Test.YtojgjgldheenkaaDoorSq
namespace Go.Proofs.YtojgjgldheenkaaDoor
open Go.RowKit
/- block g holds the 32 numbers of a shift by p noughts -/
def Shift (w : World) (g p : Nat) : Prop := ∃ cs : Array Value, w.heap[g]? = some (.cells cs 48 (0, 0)) ∧ Rows32 cs (fun i => Crc.pw p (2 ^ i))
theorem Rows32.one {cs : Array Value} {m : Nat → Nat} (h : Rows32 cs m) : cs.all (·.oneCell') = true := by
  obtain ⟨hs, hat, _⟩ := h
  rw [Array.all_eq_true]
  intro i hi
  have e := hat i (by omega)
  rw [Array.getElem?_eq_getElem hi] at e
  rw [Option.some.inj e]; rfl
theorem Rows32.congr {cs : Array Value} {m m' : Nat → Nat} (h : Rows32 cs m) (e : ∀ i, i < 32 → m i = m' i) : Rows32 cs m' :=
  ⟨h.1, fun i hi => by rw [← e i hi]; exact h.2.1 i hi, fun i hi => by rw [← e i hi]; exact h.2.2 i hi⟩
theorem Rows32.sq {cs : Array Value} {p : Nat} (h : Rows32 cs (fun i => Crc.change (fun i => Crc.pw p (2 ^ i)) (Crc.pw p (2 ^ i)))) : Rows32 cs (fun i => Crc.pw (p + p) (2 ^ i)) :=
  h.congr fun i hi => by rw [Crc.change_pw p _ (Crc.pw_lt p (shl1 i hi)), Crc.pw_add]
theorem i64_and1 (n : Int) : bits .and .i64 n 1 = n % 2 := by
  have h1 : (BitVec.ofInt 64 1).toNat = 2 ^ 1 - 1 := by decide
  have key : (BitVec.ofInt 64 n &&& BitVec.ofInt 64 1).toNat = (n % ((2 ^ 64 : Nat) : Int)).toNat % 2 ^ 1 := by
    rw [BitVec.toNat_and, BitVec.toNat_ofInt, h1, Nat.and_two_pow_sub_one_eq_mod]
  show IntKind.i64.wrap ((BitVec.ofInt 64 n &&& BitVec.ofInt 64 1).toNat : Nat) = n % 2
  rw [key, IntKind.wrap_i64]
  omega
theorem Shift.below {w w' : World} {g p B : Nat} (h : Shift w g p) (hb : Below B w w') (hg : g < B) : Shift w' g p := by
  obtain ⟨cs, hh, r⟩ := h
  exact ⟨cs, (hb.block g hg).trans hh, r⟩
theorem store_row {P : Program} {ops : Array Oper} {rest : List Oper} {o : Oper} {a : Act} {w : World} {Q : Exit → Act → World → Prop} (hgd : o.guard = none) (hd : o.dst = none) (ty : TypeId) (x y : Operand) (ho : o.op = .store ty x y)
    (g : Nat) (cells : Array Value) (hx : a.eval x = .pointer (some ⟨g, 0, none⟩)) (hy : a.eval y = .agg cells)
    (t : TypeId) (old : Array Value) (hg : w.heap[g]? = some (.cells old t (0, 0))) (hi : (P.info? ty).map (·.size) = some cells.size)
    (hold : old.size = cells.size) (h1 : cells.all (·.oneCell') = true)
    (h : wpList P ops Q rest a (w.setRow g cells)) : wpList P ops Q (o :: rest) a w :=
  wpList_store_row hgd ty x y ho g cells hx hy t old hg hi hold h1 (by rw [hd]; exact h)
theorem nul_round {w wr w3 : World} {g p N : Nat} {cs1 cs3 : Array Value} (hg : wr.heap[g]? = some (.cells cs1 48 (0, 0))) (hz : g < wr.heap.size) (hN : N ≤ g) (hb : Below N w wr) (hb3 : Below wr.heap.size wr w3)
    (h3 : Rows32 cs3 (fun i => Crc.change (fun i => Crc.pw p (2 ^ i)) (Crc.pw p (2 ^ i)))) : Shift (w3.setRow g cs3) g (p + p) ∧ g < (w3.setRow g cs3).heap.size ∧ Below N w (w3.setRow g cs3) := by
  refine ⟨⟨cs3, setRow_heap _ _ _ _ _ _ ((hb3.block g hz).trans hg), h3.sq⟩, ?_, below_setRow (hb.trans (hb3.mono (by omega))) hN _⟩
  have := hb3.size
  simp; omega
theorem odd_step (p k r : Nat) (h : k % 2 = 1) : Crc.pw ((p + p) * (k / 2)) (Crc.pw p r) = Crc.pw (p * k) r := by
  rw [← Crc.pw_add]; congr 1
  have e : k = 2 * (k / 2) + 1 := by omega
  generalize k / 2 = j at e
  subst e
  rw [Nat.mul_add, Nat.mul_one, Nat.add_comm, Nat.add_mul, Nat.mul_comm 2 j, ← Nat.mul_assoc, Nat.mul_two]
theorem even_step (p k r : Nat) (h : ¬ k % 2 = 1) : Crc.pw ((p + p) * (k / 2)) r = Crc.pw (p * k) r := by
  congr 1
  have e : k = 2 * (k / 2) := by omega
  generalize k / 2 = j at e
  subst e
  rw [Nat.add_mul, Nat.mul_comm 2 j, ← Nat.mul_assoc, Nat.mul_two]
set_option maxHeartbeats 800000 in
theorem noughts_any (r n : Nat) (w : World) (hr : r < 4294967296) (hn : n ≤ 4611686018427387904) (hT : Tab w) (h0 : 0 < w.heap.size) :
    Calls Tryd.prog 22 #[.int .u32 (r : Int), .int .i64 (n : Int)] w fun e w' => e = .returned (.int .u32 (Crc.pw n r : Nat)) ∧ Below w.heap.size w w' := by
  go_enter Tryd.func22, Tryd.ntmps22
  go_wp2_with fail
  refine (one_any w hT h0).mono ?_
  rintro e w1 ⟨cs, rfl, hR, hb⟩
  have hsz := hR.1
  have hone := hR.one
  have HR : Hid (Rows32 cs (fun i => Crc.tk (2 ^ i) 0)) := hR
  have hi : Hid ((Tryd.prog.info? 48).map (·.size) = some cs.size) := hi48 hsz
  have hz : Hid (w.heap.size ≤ w1.heap.size) := hb.size
  have Ho : Hid (cs.all (·.oneCell') = true) := hone
  have Hs : Hid (cs.size = 32) := hsz
  have Hb : Hid (Below w.heap.size w w1) := hb
  clear hR hsz hone hb
  go_wp2_with (first | (refine store_row rfl rfl 48 _ _ rfl w1.heap.size cs rfl rfl 48 _ (heap_alloc_new w1 _) hi.out (by exact Hs.out.symm) Ho.out ?_))
  go_loopw [0, 1] (fun t i wr => ∃ r' k p : Nat, r' < 4294967296 ∧ k ≤ n ∧ i = .int .i64 k ∧ t = .int .u32 (r' : Nat) ∧ Shift wr w1.heap.size p ∧ Crc.pw (p * k) r' = Crc.pw n r ∧ w1.heap.size < wr.heap.size ∧ Below w.heap.size w wr) (fun _ i _ => (intOf i).toNat)
  case atStart =>
    refine ⟨r, n, 1, hr, Nat.le_refl _, rfl, rfl, ⟨cs, setRow_heap _ _ _ _ _ _ (heap_alloc_new w1 _), HR.out⟩, by rw [Nat.one_mul], by simp, below_setRow (Hb.out.alloc hz.out _) hz.out _⟩
  case round =>
    obtain ⟨r', k, p, hr', hk, rfl, rfl, hS, he, hzz, hb⟩ := hrel
    have HE : Hid (Crc.pw (p * k) r' = Crc.pw n r) := he
    have Hzz : Hid (w1.heap.size < wr.heap.size) := hzz
    clear he hzz
    by_cases hlt : 0 < k
    · obtain ⟨cs1, hg, hR1⟩ := hS
      have hi1 : Hid ((Tryd.prog.info? 48).map (·.size) = some cs1.size) := hi48 hR1.1
      have Hg : Hid (wr.heap[w1.heap.size]? = some (.cells cs1 48 (0, 0))) := hg
      have HR1 : Hid (Rows32 cs1 (fun i => Crc.pw p (2 ^ i))) := hR1
      clear hg hR1
      have hbit := i64_and1 k
      by_cases hp : k % 2 = 1
      · have ht : ((k : Int) % 2 == 1) = true := by rw [beq_iff_eq]; omega
        go_wp2_with (refine wpList_load_row rfl 48 _ rfl w1.heap.size rfl 48 cs1 (0, 0) _ Hg.out Tryd.underlying48 rfl hi1.out ?_)
        refine (change_any cs1 _ r' _ hr' HR1.out).mono ?_
        rintro e w2 ⟨rfl, hb2⟩
        have Hg2 : Hid (w2.heap[w1.heap.size]? = some (.cells cs1 48 (0, 0))) := (hb2.block _ Hzz.out).trans Hg.out
        have Hb2 : Hid (Below wr.heap.size wr w2) := hb2
        clear hb2
        go_wp2_with (refine wpList_load_row rfl 48 _ rfl w1.heap.size rfl 48 cs1 (0, 0) _ Hg2.out Tryd.underlying48 rfl hi1.out ?_)
        refine (squared_any cs1 _ _ HR1.out).mono ?_
        rintro e w3 ⟨cs3, rfl, hR3, hb3⟩
        have Hb3 : Hid (Below wr.heap.size wr w3) := Hb2.out.trans (hb3.mono Hb2.out.size)
        have Hg3 : Hid (w3.heap[w1.heap.size]? = some (.cells cs1 48 (0, 0))) := (Hb3.out.block _ Hzz.out).trans Hg.out
        have hi3 : Hid ((Tryd.prog.info? 48).map (·.size) = some cs3.size) := hi48 hR3.1
        have Hs3 : Hid (cs1.size = cs3.size) := HR1.out.1.trans hR3.1.symm
        have Ho3 : Hid (cs3.all (·.oneCell') = true) := hR3.one
        have HR3 : Hid (Rows32 cs3 (fun i => Crc.change (fun i => Crc.pw p (2 ^ i)) (Crc.pw p (2 ^ i)))) := hR3
        have HO : Hid (k % 2 = 1) := hp
        clear hR3 hb3 hp
        go_wp2_with (first | (refine store_row rfl rfl 48 _ _ rfl w1.heap.size cs3 rfl rfl 48 _ Hg3.out hi3.out Hs3.out Ho3.out ?_))
        go_roundw
        case rel =>
          obtain ⟨q1, q2, q3⟩ := nul_round Hg.out Hzz.out hz.out hb Hb3.out HR3.out
          exact ⟨_, k / 2, p + p, by rw [Crc.change_pw p r' hr']; exact Crc.pw_lt p hr', by omega, by go_num, rfl, q1, by rw [Crc.change_pw p r' hr', odd_step p k r' HO.out]; exact HE.out, q2, q3⟩
        case measure => simp [intOf]; omega
      · have ht : ((k : Int) % 2 == 1) = false := by rw [beq_eq_false_iff_ne]; omega
        have HO : Hid (¬ k % 2 = 1) := hp
        clear hp
        go_wp2_with (refine wpList_load_row rfl 48 _ rfl w1.heap.size rfl 48 cs1 (0, 0) _ Hg.out Tryd.underlying48 rfl hi1.out ?_)
        refine (squared_any cs1 _ _ HR1.out).mono ?_
        rintro e w3 ⟨cs3, rfl, hR3, hb3⟩
        have Hb3 : Hid (Below wr.heap.size wr w3) := hb3
        have Hg3 : Hid (w3.heap[w1.heap.size]? = some (.cells cs1 48 (0, 0))) := (Hb3.out.block _ Hzz.out).trans Hg.out
        have hi3 : Hid ((Tryd.prog.info? 48).map (·.size) = some cs3.size) := hi48 hR3.1
        have Hs3 : Hid (cs1.size = cs3.size) := HR1.out.1.trans hR3.1.symm
        have Ho3 : Hid (cs3.all (·.oneCell') = true) := hR3.one
        have HR3 : Hid (Rows32 cs3 (fun i => Crc.change (fun i => Crc.pw p (2 ^ i)) (Crc.pw p (2 ^ i)))) := hR3
        clear hR3 hb3
        go_wp2_with (first | (refine store_row rfl rfl 48 _ _ rfl w1.heap.size cs3 rfl rfl 48 _ Hg3.out hi3.out Hs3.out Ho3.out ?_))
        go_roundw
        case rel =>
          obtain ⟨q1, q2, q3⟩ := nul_round Hg.out Hzz.out hz.out hb Hb3.out HR3.out
          exact ⟨_, k / 2, p + p, hr', by omega, by go_num, rfl, q1, by rw [even_step p k r' HO.out]; exact HE.out, q2, q3⟩
        case measure => simp [intOf]; omega
    · have hk0 : k = 0 := by omega
      subst hk0
      go_wp2
      go_ret
      exact ⟨by have := HE.out; rw [Nat.mul_zero] at this; rw [← this]; rfl, hb⟩
end Go.Proofs.YtojgjgldheenkaaDoor
