/- Proved: the document's sum answers as the program's. -/
import Derived.Test.YtealbeblkilibaaDoorK02
namespace Go.Proofs.YtealbeblkilibaaDoor
open Go.RowKit
open Ino (Nd Ar)
open FI (Fv fv0 FieldsL hit)
def curS (s : ByteArray) (k : Nat) : List UInt8 := (bl s).take k ++ List.replicate (32 - k) 0
theorem curS_zero (s : ByteArray) : curS s 0 = Ino.noughts := rfl
theorem curS_length (s : ByteArray) (k : Nat) (hk : k ≤ s.size) (h : k ≤ 32) : (curS s k).length = 32 := by
  have := bl_length s
  simp only [curS, List.length_append, List.length_take, List.length_replicate]; omega
theorem curS_step (s : ByteArray) (k : Nat) (hk : k < s.size) (h : k < 32) : (curS s k).set k (s[k]'hk) = curS s (k + 1) := by
  have hl := bl_length s
  have hkl : k < (bl s).length := by omega
  unfold curS
  rw [List.set_append_right _ _ (by rw [List.length_take]; omega), List.length_take, Nat.min_eq_left (by omega), Nat.sub_self, show 32 - k = (32 - (k + 1)) + 1 by omega, List.replicate_succ, List.set_cons_zero, List.take_succ_eq_append_getElem hkl, List.append_assoc]
  rfl
theorem curS_end (s : ByteArray) (k : Nat) (hk : k = min s.size 32) : curS s k = Ino.sumV s := by
  have hl := bl_length s
  unfold curS Ino.sumV
  subst hk
  congr 1
  · by_cases h : s.size ≤ 32
    · rw [Nat.min_eq_left h, List.take_of_length_le (by omega), List.take_of_length_le (by omega)]
    · rw [Nat.min_eq_right (by omega)]
  · congr 1
    omega
theorem smc_set (d : List UInt8) (k : Nat) (b : UInt8) : (smc d).setIfInBounds k (.int .u8 (b.toNat : Int)) = smc (d.set k b) := by
  unfold smc
  rw [List.setIfInBounds_toArray, List.map_set]; rfl
theorem cell_smc {w : World} {g k : Nat} {d : List UInt8} (h : w.heap[g]? = some (.cells (smc d) 37 (0, 0))) (hd : d.length = 32) (hk : k < 32) : ∃ v, w.cell? ⟨g, k, none⟩ = some v := by
  rw [cell_of_row w g k _ _ (0, 0) h]
  exact ⟨_, Array.getElem?_eq_getElem (by rw [smc_size hd]; exact hk)⟩
set_option maxHeartbeats 2000000 in
set_option maxRecDepth 20000 in
theorem rsum_any (a : Option Addr) (len cap : Nat) (fs : List Fv) (w : World) (hF : FieldsL w a len fs) (hlen : len ≤ 30000) : Calls Tryd.prog 49 #[.slice a len cap] w fun e w' => e = .returned (.agg (smc (Ino.sumV (Ino.txtV fs 3)))) ∧ Below w.heap.size w w' := by
  have HN : Hid (∀ W : World, FieldsL W a len fs → Calls Tryd.prog 69 #[.slice a len cap, .int .i64 3] W fun e w' => (∃ b, e = .returned (.tuple #[.string (Ino.txtV fs 3), .bool b])) ∧ Below W.heap.size W w') := fun W h => (FI.rtextt_any a len cap 3 fs W h (by omega)).mono fun _ _ h => txt_of h
  have HF : Hid (FieldsL w a len fs) := hF
  have hz37 := zero37
  have HZ : Is (smc Ino.noughts).size 32 := ⟨smc_size (by decide)⟩
  have HZs : Is (smc (Ino.sumV (Ino.txtV fs 3))).size 32 := ⟨smc_size (Ino.sumV_length _)⟩
  have H1 : Hid ((smc (Ino.sumV (Ino.txtV fs 3))).all (·.oneCell') = true) := smc_one _
  clear hF
  generalize Ino.txtV fs 3 = s at *
  go_enter Tryd.func49, Tryd.ntmps49
  go_upto_region 2 with fail
  have hr0 : (w.alloc (.cells (smc Ino.noughts) 37)).heap[w.heap.size]? = some (.cells (smc Ino.noughts) 37 (0, 0)) := heap_alloc_new w _
  have hr1 : ((w.alloc (.cells (smc Ino.noughts) 37)).alloc (.cells (smc Ino.noughts) 37)).heap[w.heap.size + 1]? = some (.cells (smc Ino.noughts) 37 (0, 0)) := by
    have h := heap_alloc_new (w.alloc (.cells (smc Ino.noughts) 37)) (.cells (smc Ino.noughts) 37)
    rwa [FI.size_alloc1] at h
  have hb2 : Below (w.heap.size + 1) (w.alloc (.cells (smc Ino.noughts) 37)) ((w.alloc (.cells (smc Ino.noughts) 37)).alloc (.cells (smc Ino.noughts) 37)) := (Below.refl _ _).alloc (by simp) _
  have hr00 := (hb2.block w.heap.size (by omega)).trans hr0
  have HB2 : Hid (Below w.heap.size w ((w.alloc (.cells (smc Ino.noughts) 37)).alloc (.cells (smc Ino.noughts) 37))) := ((Below.refl _ w).alloc (Nat.le_refl _) _).trans (hb2.mono (by omega))
  have hl2 : w.heap.size + 2 ≤ ((w.alloc (.cells (smc Ino.noughts) 37)).alloc (.cells (smc Ino.noughts) 37)).heap.size := by simp
  have HF2 : Hid (FieldsL ((w.alloc (.cells (smc Ino.noughts) 37)).alloc (.cells (smc Ino.noughts) 37)) a len fs) := HF.out.below HB2.out
  clear hr0 hb2
  generalize (w.alloc (.cells (smc Ino.noughts) 37)).alloc (.cells (smc Ino.noughts) 37) = w2 at *
  obtain ⟨g, hg⟩ : ∃ g, w.heap.size = g := ⟨_, rfl⟩
  have HG : Is w.heap.size g := ⟨hg⟩
  rw [hg] at hr1 hr00 hl2
  rw [hg]
  clear hg hz37
  go_wp2_with fail
  refine (HN.out _ HF2.out).mono ?_
  rintro e w3 ⟨⟨b, rfl⟩, hB3⟩
  have R0 : Is (w3.heap[g]?) (some (.cells (smc Ino.noughts) 37 (0, 0))) := ⟨(hB3.block g (by omega)).trans hr00⟩
  have R1 : Is (w3.heap[g + 1]?) (some (.cells (smc Ino.noughts) 37 (0, 0))) := ⟨(hB3.block (g + 1) (by omega)).trans hr1⟩
  have HB3 : Hid (Below g w w3) := (HG.eq ▸ HB2.out).trans (hB3.mono (by omega))
  clear hr00 hr1 hB3 HN HF2 HF HB2
  obtain ⟨z, hz⟩ : ∃ z, s.size = z := ⟨_, rfl⟩
  go_wp2_with fail
  go_loopw [6] (fun i wr => ∃ k : Nat, k ≤ s.size ∧ k ≤ 32 ∧ i = .int .i64 k ∧ wr.heap[g + 1]? = some (.cells (smc (curS s k)) 37 (0, 0)) ∧ wr.heap[g]? = some (.cells (smc Ino.noughts) 37 (0, 0)) ∧ Below g w wr) (fun i _ => 32 - (intOf i).toNat)
  case atStart => exact ⟨0, by omega, by omega, rfl, by rw [curS_zero]; exact R1.eq, R0.eq, HB3.out⟩
  case round =>
    obtain ⟨k, hks, hk, rfl, h1, h0, hB⟩ := hrel
    have Q1 : Is (wr.heap[g + 1]?) (some (.cells (smc (curS s k)) 37 (0, 0))) := ⟨h1⟩
    have Q0 : Is (wr.heap[g]?) (some (.cells (smc Ino.noughts) 37 (0, 0))) := ⟨h0⟩
    have HB : Hid (Below g w wr) := hB
    clear h1 h0 hB
    by_cases h32 : k < 32
    · have i0 : (k : Int) < 32 := by omega
      by_cases hls : k < s.size
      · have i1 : (k : Int) < (s.size : Int) := by omega
        have j0 : (0 : Int) ≤ (k : Int) := Int.natCast_nonneg _
        have HST : Is ((smc (curS s k)).setIfInBounds k (.int .u8 ((s[k]'hls).toNat : Int))) (smc (curS s (k + 1))) := ⟨by rw [smc_set, curS_step s k hls h32]⟩
        obtain ⟨v, hv⟩ := cell_smc Q1.eq (curS_length s k hks hk) h32
        have fz : wr.frozen? ⟨g + 1, k, none⟩ = false := frozen_of_row wr (g + 1) k _ _ Q1.eq
        go_wp2_with fail
        have hrow := heap_setCell_same wr (g + 1) k _ 37 (.int .u8 ((s[k]'hls).toNat : Int)) Q1.eq
        rw [HST.eq] at hrow
        go_roundw
        case rel => exact ⟨k + 1, by omega, by omega, by go_num, hrow, by rw [Below.heap_setCell _ _ _ _ (by show g ≠ g + 1; omega)]; exact Q0.eq, HB.out.setCell (by show g ≤ g + 1; omega) _⟩
        case measure => (simp [intOf]) <;> omega
      · have i1 : ¬ (k : Int) < (s.size : Int) := by omega
        have HE : Is (curS s k) (Ino.sumV s) := ⟨curS_end s k (by omega)⟩
        rw [HE.eq] at Q1
        clear hz
        go_wp2_with (first
          | (refine load_met (by rfl) 37 _ rfl _ rfl 37 (smc (Ino.sumV s)) (0, 0) _ Q1.eq Tryd.underlying37 rfl (by rw [size37, HZs.eq]) ?_)
          | (refine wpList_store_row rfl 37 (.tmp 2) (.tmp 27) rfl g (smc (Ino.sumV s)) rfl rfl 37 (smc Ino.noughts) Q0.eq (by rw [size37, HZs.eq]) (by rw [HZ.eq, HZs.eq]) H1.out ?_))
        refine bodyPost_ret (results_cell_row rfl _ _ g 37 (smc (Ino.sumV s)) (0, 0) _ rfl (setRow_heap wr g _ _ _ _ Q0.eq) Tryd.underlying37 rfl (by rw [size37, HZs.eq])) rfl ?_
        exact ⟨rfl, by rw [HG.eq]; exact below_setRow HB.out (Nat.le_refl _) _⟩
    · have i0 : ¬ (k : Int) < 32 := by omega
      have HE : Is (curS s k) (Ino.sumV s) := ⟨curS_end s k (by omega)⟩
      rw [HE.eq] at Q1
      clear hz
      go_wp2_with (first
        | (refine load_met (by rfl) 37 _ rfl _ rfl 37 (smc (Ino.sumV s)) (0, 0) _ Q1.eq Tryd.underlying37 rfl (by rw [size37, HZs.eq]) ?_)
        | (refine wpList_store_row rfl 37 (.tmp 2) (.tmp 27) rfl g (smc (Ino.sumV s)) rfl rfl 37 (smc Ino.noughts) Q0.eq (by rw [size37, HZs.eq]) (by rw [HZ.eq, HZs.eq]) H1.out ?_))
      refine bodyPost_ret (results_cell_row rfl _ _ g 37 (smc (Ino.sumV s)) (0, 0) _ rfl (setRow_heap wr g _ _ _ _ Q0.eq) Tryd.underlying37 rfl (by rw [size37, HZs.eq])) rfl ?_
      exact ⟨rfl, by rw [HG.eq]; exact below_setRow HB.out (Nat.le_refl _) _⟩
end Go.Proofs.YtealbeblkilibaaDoor
/- Proved: an inode, and what is archived, built of its parts. -/
namespace Go.Proofs.YtealbeblkilibaaDoor
open Go.RowKit
open Ino (Nd Ar)
theorem built_nd32 (k s c v o : Int) (b0 b1 b2 b3 b4 b5 b6 b7 b8 b9 b10 b11 b12 b13 b14 b15 b16 b17 b18 b19 b20 b21 b22 b23 b24 b25 b26 b27 b28 b29 b30 b31 : UInt8) : Tryd.prog.built 39 [(0, .int .i64 k), (1, .int .i64 s), (2, .agg (smc [b0, b1, b2, b3, b4, b5, b6, b7, b8, b9, b10, b11, b12, b13, b14, b15, b16, b17, b18, b19, b20, b21, b22, b23, b24, b25, b26, b27, b28, b29, b30, b31])), (3, .int .i64 c), (4, .int .i64 v), (5, .int .i64 o)] = some (ndc ⟨k, s, [b0, b1, b2, b3, b4, b5, b6, b7, b8, b9, b10, b11, b12, b13, b14, b15, b16, b17, b18, b19, b20, b21, b22, b23, b24, b25, b26, b27, b28, b29, b30, b31], c, v, o⟩) := by kernel_rfl
theorem built_nd (k s : Int) (d : List UInt8) (c v o : Int) (hd : d.length = 32) : Tryd.prog.built 39 [(0, .int .i64 k), (1, .int .i64 s), (2, .agg (smc d)), (3, .int .i64 c), (4, .int .i64 v), (5, .int .i64 o)] = some (ndc ⟨k, s, d, c, v, o⟩) := by
  match d, hd with
  | [b0, b1, b2, b3, b4, b5, b6, b7, b8, b9, b10, b11, b12, b13, b14, b15, b16, b17, b18, b19, b20, b21, b22, b23, b24, b25, b26, b27, b28, b29, b30, b31], _ => exact built_nd32 k s c v o b0 b1 b2 b3 b4 b5 b6 b7 b8 b9 b10 b11 b12 b13 b14 b15 b16 b17 b18 b19 b20 b21 b22 b23 b24 b25 b26 b27 b28 b29 b30 b31
theorem built_ar32 (v s : Int) (b0 b1 b2 b3 b4 b5 b6 b7 b8 b9 b10 b11 b12 b13 b14 b15 b16 b17 b18 b19 b20 b21 b22 b23 b24 b25 b26 b27 b28 b29 b30 b31 : UInt8) : Tryd.prog.built 55 [(0, .int .i64 v), (1, .int .i64 s), (2, .agg (smc [b0, b1, b2, b3, b4, b5, b6, b7, b8, b9, b10, b11, b12, b13, b14, b15, b16, b17, b18, b19, b20, b21, b22, b23, b24, b25, b26, b27, b28, b29, b30, b31]))] = some (arc ⟨v, s, [b0, b1, b2, b3, b4, b5, b6, b7, b8, b9, b10, b11, b12, b13, b14, b15, b16, b17, b18, b19, b20, b21, b22, b23, b24, b25, b26, b27, b28, b29, b30, b31]⟩) := by kernel_rfl
theorem built_ar (v s : Int) (d : List UInt8) (hd : d.length = 32) : Tryd.prog.built 55 [(0, .int .i64 v), (1, .int .i64 s), (2, .agg (smc d))] = some (arc ⟨v, s, d⟩) := by
  match d, hd with
  | [b0, b1, b2, b3, b4, b5, b6, b7, b8, b9, b10, b11, b12, b13, b14, b15, b16, b17, b18, b19, b20, b21, b22, b23, b24, b25, b26, b27, b28, b29, b30, b31], _ => exact built_ar32 v s b0 b1 b2 b3 b4 b5 b6 b7 b8 b9 b10 b11 b12 b13 b14 b15 b16 b17 b18 b19 b20 b21 b22 b23 b24 b25 b26 b27 b28 b29 b30 b31
theorem built_nd0 : Tryd.prog.built 39 [] = some (ndc Ino.zeroN) := by kernel_rfl
theorem built_ar0 : Tryd.prog.built 55 [] = some (arc Ino.zeroA) := by kernel_rfl
theorem zero55 (W : World) : (zeroValue 55).run Tryd.prog W = .ok (.agg (arc Ino.zeroA)) W := by kernel_rfl
/- the same as operations of a walk -/
theorem build_six {ops : Array Oper} {rest : List Oper} {o : Oper} {a : Act} {w : World} {Q : Exit → Act → World → Prop} (hg : o.guard = none) (t : TypeId) (x0 x1 x2 x3 x4 x5 : Operand) (ho : o.op = .build t #[(0, x0), (1, x1), (2, x2), (3, x3), (4, x4), (5, x5)])
    (v0 v1 v2 v3 v4 v5 : Value) (h0 : a.eval x0 = v0) (h1 : a.eval x1 = v1) (h2 : a.eval x2 = v2) (h3 : a.eval x3 = v3) (h4 : a.eval x4 = v4) (h5 : a.eval x5 = v5) (C : Array Value)
    (hf : Tryd.prog.built t [(0, v0), (1, v1), (2, v2), (3, v3), (4, v4), (5, v5)] = some C)
    (h : wpList Tryd.prog ops Q rest (a.put o.dst (.agg C)) w) : wpList Tryd.prog ops Q (o :: rest) a w := by
  subst h0 h1 h2 h3 h4 h5
  exact wpList_plain hg fun _ hK => wp_build_any t _ ho C (by simpa using hf) (hK _ _ h)
theorem build_three {ops : Array Oper} {rest : List Oper} {o : Oper} {a : Act} {w : World} {Q : Exit → Act → World → Prop} (hg : o.guard = none) (t : TypeId) (x0 x1 x2 : Operand) (ho : o.op = .build t #[(0, x0), (1, x1), (2, x2)])
    (v0 v1 v2 : Value) (h0 : a.eval x0 = v0) (h1 : a.eval x1 = v1) (h2 : a.eval x2 = v2) (C : Array Value)
    (hf : Tryd.prog.built t [(0, v0), (1, v1), (2, v2)] = some C)
    (h : wpList Tryd.prog ops Q rest (a.put o.dst (.agg C)) w) : wpList Tryd.prog ops Q (o :: rest) a w := by
  subst h0 h1 h2
  exact wpList_plain hg fun _ hK => wp_build_any t _ ho C (by simpa using hf) (hK _ _ h)
theorem build_none {ops : Array Oper} {rest : List Oper} {o : Oper} {a : Act} {w : World} {Q : Exit → Act → World → Prop} (hg : o.guard = none) (t : TypeId) (ho : o.op = .build t #[]) (C : Array Value)
    (hf : Tryd.prog.built t [] = some C)
    (h : wpList Tryd.prog ops Q rest (a.put o.dst (.agg C)) w) : wpList Tryd.prog ops Q (o :: rest) a w :=
  wpList_plain hg fun _ hK => wp_build_any t _ ho C (by simpa using hf) (hK _ _ h)
end Go.Proofs.YtealbeblkilibaaDoor
/- Proved: Decode and DecodeArch answer what has a record, or that nothing has it; the program's and the document's. -/
namespace Go.Proofs.YtealbeblkilibaaDoor
open Go.RowKit
open Ino (Nd Ar)
open FI (Fv fv0 FieldsL hit fcells In64)
theorem res_ct {fn : Func} {p u : Tmp} {ty : TypeId} (h : fn.results = #[.cell p ty, .tmp u]) (tmps : Array Value) (w : World) (g : Nat) (t : TypeId) (cs : Array Value) (d : TypeDesc)
    (hp : tmps.getD p undef = .pointer (some ⟨g, 0, none⟩)) (hg : w.heap[g]? = some (.cells cs t (0, 0))) (hu : Tryd.prog.underlying ty = some d) (hd : d.isRow = true) (hi : (Tryd.prog.info? ty).map (·.size) = some cs.size) :
    (results fn tmps).run Tryd.prog w = .ok (.tuple #[.agg cs, tmps.getD u undef]) w := by
  have hp' : tmps[p]?.getD undef = .pointer (some ⟨g, 0, none⟩) := by simpa using hp
  have hl := run_loadVar_mid (P := Tryd.prog) w g 0 ty cs.toList d (range_row hg) hu hd (by rw [hi, Array.length_toList])
  rw [Array.toArray_toList] at hl
  simp [results, h, hp', asAddr, hl]
theorem numV_in {w : World} {a : Option Addr} {len : Nat} {fs : List Fv} (h : FieldsL w a len fs) (tag : Int) : In64 (Ino.numV fs tag) := by
  unfold Ino.numV
  cases hh : (fs.filter (hit tag 0)).head? with
  | none => unfold In64; simp only; omega
  | some f =>
    have hm : f ∈ fs.filter (hit tag 0) := List.mem_of_head? hh
    exact (h.2.1 f (List.mem_filter.1 hm).1).n
theorem ndOf_in {w : World} {a : Option Addr} {len : Nat} {fs : List Fv} (h : FieldsL w a len fs) : NdIn (Ino.ndOf fs) := ⟨Ino.sumV_length _, numV_in h 1, numV_in h 2, numV_in h 4, numV_in h 5, numV_in h 6⟩
theorem arOf_in {w : World} {a : Option Addr} {len : Nat} {fs : List Fv} (h : FieldsL w a len fs) : ArIn (Ino.arOf fs) := ⟨Ino.sumV_length _, numV_in h 5, numV_in h 2⟩
set_option maxHeartbeats 2000000 in
set_option maxRecDepth 20000 in
theorem decode_any (a : Option Addr) (len cap : Nat) (fs : List Fv) (w : World) (hF : FieldsL w a len fs) (hlen : len ≤ 30000) : Calls Tryd.prog 18 #[.slice a len cap] w fun e w' => e = .returned (.tuple #[.agg (ndc (Ino.decN fs)), .int .i64 (Ino.decE fs : Nat)]) ∧ Below w.heap.size w w' := by
  have HIn := ndOf_in hF
  have hz0 := zero39
  have hmf : ∀ (fn : Fn) (first cap : Array Value) (w : World), (Instr.makeFunc fn first cap).run Tryd.prog w = .ok (.func fn first cap) w := fun _ _ _ _ => rfl
  have RN : Hid (∀ (tag : Int) (W : World), FieldsL W a len fs → Calls Tryd.prog 45 #[.slice a len cap, .int .i64 tag] W fun e w' => e = .returned (.int .i64 (Ino.numV fs tag)) ∧ Below W.heap.size W w') := fun tag W h => recNum_any a len cap tag fs W h hlen
  have RS : Hid (∀ W : World, FieldsL W a len fs → Calls Tryd.prog 46 #[.slice a len cap] W fun e w' => e = .returned (.agg (smc (Ino.sumV (Ino.txtV fs 3)))) ∧ Below W.heap.size W w') := fun W h => recSum_any a len cap fs W h hlen
  have EN : Hid (∀ W : World, Calls Tryd.prog 16 #[.agg (ndc (Ino.ndOf fs))] W fun e w' => ∃ v, e = .returned (.tuple #[v, .int .i64 (Ino.chk (Ino.ndOf fs) : Nat)]) ∧ w'.ownsRow W.heap.size 79 4 v (encL (Ino.ndOf fs)).length ((encL (Ino.ndOf fs)).flatMap fcells) ∧ Below W.heap.size W w') := fun W => encode_any (Ino.ndOf fs) W HIn
  have EQ : Hid (∀ (W : World) (a1 : Option Addr) (c1 : Nat), FieldsL W a1 (encL (Ino.ndOf fs)).length (encL (Ino.ndOf fs)) → FieldsL W a len fs → Calls Tryd.prog 47 #[.slice a1 (encL (Ino.ndOf fs)).length c1, .slice a len cap] W fun e w' => e = .returned (.bool (Ino.leq (encL (Ino.ndOf fs)) fs)) ∧ Below W.heap.size W w') := fun W a1 c1 h1 h2 => equal_any a1 _ c1 a len cap _ fs W h1 h2 (Nat.le_trans (encL_good HIn).len (by omega)) hlen
  have HGd : Hid (Fit (encL (Ino.ndOf fs))) := (encL_good HIn).fit
  have BL : Hid (Tryd.prog.built 39 [(0, .int .i64 (Ino.numV fs 1)), (1, .int .i64 (Ino.numV fs 2)), (2, .agg (smc (Ino.sumV (Ino.txtV fs 3)))), (3, .int .i64 (Ino.numV fs 4)), (4, .int .i64 (Ino.numV fs 5)), (5, .int .i64 (Ino.numV fs 6))] = some (ndc (Ino.ndOf fs))) := built_nd _ _ _ _ _ _ (Ino.sumV_length _)
  have HDE : Is (Ino.decE fs) (if Ino.chk (Ino.ndOf fs) = 0 ∧ Ino.leq (Ino.recN (Ino.ndOf fs)) fs = true then 0 else 5) := ⟨rfl⟩
  have HDN : Is (Ino.decN fs) (if Ino.decE fs = 0 then (Ino.ndOf fs) else Ino.zeroN) := ⟨rfl⟩
  have HL0 : Is (encL (Ino.ndOf fs)) (if Ino.chk (Ino.ndOf fs) = 0 then Ino.recN (Ino.ndOf fs) else []) := ⟨rfl⟩
  have HZ : Is (ndc Ino.zeroN).size 37 := ⟨ndc_size (by decide)⟩
  have HZc : Is (ndc (Ino.ndOf fs)).size 37 := ⟨ndc_size HIn.sum⟩
  have H1 : Hid ((ndc (Ino.ndOf fs)).all (·.oneCell') = true) := ndc_one _
  have H10 : Hid ((ndc Ino.zeroN).all (·.oneCell') = true) := ndc_one _
  have HF : Hid (FieldsL w a len fs) := hF
  have B0 := built_nd0
  have HB00 : Hid (Tryd.prog.built 39 [] = some (ndc Ino.zeroN)) := B0
  have HCN : Is (ndc (if Ino.decE fs = 0 then (Ino.ndOf fs) else Ino.zeroN)) (ndc (Ino.decN fs)) := ⟨by rw [HDN.eq]⟩
  clear hF HIn B0
  generalize (Ino.ndOf fs) = x at *
  obtain ⟨C, hC⟩ : ∃ C, ndc x = C := ⟨_, rfl⟩
  obtain ⟨Z, hZ⟩ : ∃ Z, ndc Ino.zeroN = Z := ⟨_, rfl⟩
  have HCx : Is (ndc x) C := ⟨hC⟩
  have HCz : Is (ndc Ino.zeroN) Z := ⟨hZ⟩
  rw [hC] at EN HZc H1 BL
  rw [hZ] at hz0 HZ H10 HB00
  clear hC hZ HCN
  generalize hS : Ino.sumV (Ino.txtV fs 3) = D at *
  generalize hN1 : Ino.numV fs 1 = z1 at *
  generalize hN2 : Ino.numV fs 2 = z2 at *
  generalize hN4 : Ino.numV fs 4 = z4 at *
  generalize hN5 : Ino.numV fs 5 = z5 at *
  generalize hN6 : Ino.numV fs 6 = z6 at *
  have RN1 : Hid (∀ W : World, FieldsL W a len fs → Calls Tryd.prog 45 #[.slice a len cap, .int .i64 1] W fun e w' => e = .returned (.int .i64 z1) ∧ Below W.heap.size W w') := fun W h => by have h1 := RN.out 1 W h; rw [hN1] at h1; exact h1
  have RN2 : Hid (∀ W : World, FieldsL W a len fs → Calls Tryd.prog 45 #[.slice a len cap, .int .i64 2] W fun e w' => e = .returned (.int .i64 z2) ∧ Below W.heap.size W w') := fun W h => by have h1 := RN.out 2 W h; rw [hN2] at h1; exact h1
  have RN4 : Hid (∀ W : World, FieldsL W a len fs → Calls Tryd.prog 45 #[.slice a len cap, .int .i64 4] W fun e w' => e = .returned (.int .i64 z4) ∧ Below W.heap.size W w') := fun W h => by have h1 := RN.out 4 W h; rw [hN4] at h1; exact h1
  have RN5 : Hid (∀ W : World, FieldsL W a len fs → Calls Tryd.prog 45 #[.slice a len cap, .int .i64 5] W fun e w' => e = .returned (.int .i64 z5) ∧ Below W.heap.size W w') := fun W h => by have h1 := RN.out 5 W h; rw [hN5] at h1; exact h1
  have RN6 : Hid (∀ W : World, FieldsL W a len fs → Calls Tryd.prog 45 #[.slice a len cap, .int .i64 6] W fun e w' => e = .returned (.int .i64 z6) ∧ Below W.heap.size W w') := fun W h => by have h1 := RN.out 6 W h; rw [hN6] at h1; exact h1
  clear hS RN hN1 hN2 hN4 hN5 hN6
  go_enter Tryd.func18, Tryd.ntmps18
  go_upto_region 2 with fail
  have hr1 : (w.alloc (.cells Z 39)).heap[w.heap.size]? = some (.cells Z 39 (0, 0)) := heap_alloc_new w _
  have HB1 : Hid (Below w.heap.size w (w.alloc (.cells Z 39))) := (Below.refl _ w).alloc (Nat.le_refl _) _
  have HF1 : Hid (FieldsL (w.alloc (.cells Z 39)) a len fs) := HF.out.below HB1.out
  have hl1 : w.heap.size + 1 ≤ (w.alloc (.cells Z 39)).heap.size := by simp
  generalize w.alloc (.cells Z 39) = w1 at *
  obtain ⟨g, hg⟩ : ∃ g, w.heap.size = g := ⟨_, rfl⟩
  have HG : Is w.heap.size g := ⟨hg⟩
  rw [hg] at hr1 hl1
  have HBb : Hid (∀ W : World, Below (g + 1) w1 W → Below w.heap.size w W) := fun W h => HB1.out.trans (h.mono (by omega))
  have HRz : Hid (∀ W : World, Below (g + 1) w1 W → W.heap[g]? = some (.cells Z 39 (0, 0))) := fun W h => (h.block g (by omega)).trans hr1
  rw [hg]
  have HS1 : Hid (Below (g + 1) w1 w1) := Below.refl _ _
  clear hg hr1 HF HB1
  go_wp2_with fail
  refine ((RN1).out _ HF1.out).mono ?_
  rintro e w2 ⟨rfl, hB2⟩
  have HF2 : Hid (FieldsL w2 a len fs) := HF1.out.below hB2
  have HS2 : Hid (Below (g + 1) w1 w2) := hold_call HS1.out hl1 hB2
  clear hB2 HF1
  go_wp2_with fail
  refine ((RN2).out _ HF2.out).mono ?_
  rintro e w3 ⟨rfl, hB3⟩
  have HF3 : Hid (FieldsL w3 a len fs) := HF2.out.below hB3
  have HS3 : Hid (Below (g + 1) w1 w3) := hold_call HS2.out hl1 hB3
  clear hB3 HF2 HS2
  go_wp2_with fail
  refine ((RS).out _ HF3.out).mono ?_
  rintro e w4 ⟨rfl, hB4⟩
  have HF4 : Hid (FieldsL w4 a len fs) := HF3.out.below hB4
  have HS4 : Hid (Below (g + 1) w1 w4) := hold_call HS3.out hl1 hB4
  clear hB4 HF3 HS3
  go_wp2_with fail
  refine ((RN4).out _ HF4.out).mono ?_
  rintro e w5 ⟨rfl, hB5⟩
  have HF5 : Hid (FieldsL w5 a len fs) := HF4.out.below hB5
  have HS5 : Hid (Below (g + 1) w1 w5) := hold_call HS4.out hl1 hB5
  clear hB5 HF4 HS4
  go_wp2_with fail
  refine ((RN5).out _ HF5.out).mono ?_
  rintro e w6 ⟨rfl, hB6⟩
  have HF6 : Hid (FieldsL w6 a len fs) := HF5.out.below hB6
  have HS6 : Hid (Below (g + 1) w1 w6) := hold_call HS5.out hl1 hB6
  clear hB6 HF5 HS5
  go_wp2_with fail
  refine ((RN6).out _ HF6.out).mono ?_
  rintro e w7 ⟨rfl, hB7⟩
  have HF7 : Hid (FieldsL w7 a len fs) := HF6.out.below hB7
  have HS7 : Hid (Below (g + 1) w1 w7) := hold_call HS6.out hl1 hB7
  clear hB7 HF6 HS6
  have hzk : g + 1 ≤ w7.heap.size := Nat.le_trans hl1 HS7.out.size
  go_upto_region 3 with (first | (refine build_six rfl 39 _ _ _ _ _ _ rfl _ _ _ _ _ _ rfl rfl rfl rfl rfl rfl C BL.out ?_) | (refine wpList_store_row rfl 39 (.tmp 6) (.tmp 25) rfl w7.heap.size C rfl rfl 39 Z (heap_alloc_new w7 _) (by rw [size39, HZc.eq]) (by rw [HZ.eq, HZc.eq]) H1.out ?_; rw [World.setRow_alloc_new]))
  have HRC : Is ((w7.alloc (.cells C 39)).heap[w7.heap.size]?) (some (.cells C 39 (0, 0))) := ⟨heap_alloc_new w7 _⟩
  have hbm : Below w7.heap.size w7 (w7.alloc (.cells C 39)) := (Below.refl _ _).alloc (Nat.le_refl _) _
  have HF8 : Hid (FieldsL (w7.alloc (.cells C 39)) a len fs) := HF7.out.below hbm
  have HS8 : Hid (Below (g + 1) w1 (w7.alloc (.cells C 39))) := hold_call HS7.out hl1 hbm
  have hlm : w7.heap.size < (w7.alloc (.cells C 39)).heap.size := by simp
  clear hbm HF7 HS7
  generalize w7.alloc (.cells C 39) = w8 at *
  generalize w7.heap.size = b at *
  clear w7 hz0 BL
  go_wp2_with (first | (refine load_met (by rfl) 39 _ rfl _ rfl 39 C (0, 0) _ HRC.eq Tryd.underlying39 rfl (by rw [size39, HZc.eq]) ?_))
  refine (EN.out _).mono ?_
  rintro e w9 ⟨v, rfl, ho, hB9⟩
  obtain ⟨ae, ce, rfl, hce, hFe⟩ := FI.own_fields ho HGd.out
  have HFe : Hid (FieldsL w9 ae (encL x).length (encL x)) := hFe
  have HF9 : Hid (FieldsL w9 a len fs) := HF8.out.below hB9
  have HS9 : Hid (Below (g + 1) w1 w9) := hold_call HS8.out hl1 hB9
  have HRC9 : Is (w9.heap[b]?) (some (.cells C 39 (0, 0))) := ⟨(hB9.block b hlm).trans HRC.eq⟩
  have hlp : b < w9.heap.size := Nat.lt_of_lt_of_le hlm hB9.size
  have HRZ9 : Is (w9.heap[g]?) (some (.cells Z 39 (0, 0))) := ⟨HRz.out _ HS9.out⟩
  clear ho hFe hB9 hce HRC HF8 HS8 EN HGd
  rcases Ino.chk_le x with h0 | h0
  · rw [h0] at HL0 HDE ⊢
    clear h0
    rw [if_pos rfl] at HL0
    rw [← HL0.eq] at HDE
    generalize encL x = le at *
    have EQ' : Hid (Calls Tryd.prog 47 #[.slice ae le.length ce, .slice a len cap] w9 fun e w' => e = .returned (.bool (Ino.leq le fs)) ∧ Below w9.heap.size w9 w') := EQ.out _ _ _ HFe.out HF9.out
    clear EQ HFe HF9 HL0
    generalize le.length = nl at *
    cases hq : Ino.leq le fs with
    | true =>
      rw [hq] at HDE EQ'
      rw [if_pos ⟨by first | rfl | trivial, rfl⟩] at HDE
      rw [HDE.eq, if_pos rfl] at HDN
      clear hq HB00 H10
      go_wp2_with (first | (go_at_call 47; refine (show Calls _ _ _ _ _ from EQ'.out).mono ?_; rintro e wq ⟨rfl, hBq⟩; have HSq : Hid (Below (g + 1) w1 wq) := hold_call HS9.out hl1 hBq; have HRCq : Is (wq.heap[b]?) (some (.cells C 39 (0, 0))) := ⟨(hBq.block b hlp).trans HRC9.eq⟩; have HRZq : Is (wq.heap[g]?) (some (.cells Z 39 (0, 0))) := ⟨HRz.out _ HSq.out⟩; clear hBq) | (refine load_met (by rfl) 39 _ rfl _ rfl 39 C (0, 0) _ HRCq.eq Tryd.underlying39 rfl (by rw [size39, HZc.eq]) ?_) | (refine wpList_store_row rfl 39 (.tmp 2) (.tmp 40) rfl g C rfl rfl 39 Z HRZq.eq (by rw [size39, HZc.eq]) (by rw [HZ.eq, HZc.eq]) H1.out ?_))
      refine bodyPost_ret (res_ct rfl _ _ g 39 C _ rfl (setRow_heap wq g _ _ _ _ HRZq.eq) Tryd.underlying39 rfl (by rw [size39, HZc.eq])) rfl ?_
      exact ⟨by rw [HDE.eq, HDN.eq, HCx.eq]; rfl, by rw [HG.eq]; exact below_setRow (HG.eq ▸ HBb.out _ HSq.out) (Nat.le_refl _) _⟩
    | false =>
      rw [hq] at HDE EQ'
      rw [if_neg (by simp)] at HDE
      rw [HDE.eq, if_neg (by omega)] at HDN
      clear hq H1
      go_wp2_with (first | (go_at_call 47; refine (show Calls _ _ _ _ _ from EQ'.out).mono ?_; rintro e wq ⟨rfl, hBq⟩; have HSq : Hid (Below (g + 1) w1 wq) := hold_call HS9.out hl1 hBq; have HRZq : Is (wq.heap[g]?) (some (.cells Z 39 (0, 0))) := ⟨HRz.out _ HSq.out⟩; clear hBq) | (refine build_none rfl 39 rfl Z HB00.out ?_) | (refine wpList_store_row rfl 39 (.tmp 2) (.tmp 39) rfl g Z rfl rfl 39 Z HRZq.eq (by rw [size39, HZ.eq]) (by rw [HZ.eq]) H10.out ?_))
      refine bodyPost_ret (res_ct rfl _ _ g 39 Z _ rfl (setRow_heap wq g _ _ _ _ HRZq.eq) Tryd.underlying39 rfl (by rw [size39, HZ.eq])) rfl ?_
      exact ⟨by rw [HDE.eq, HDN.eq, HCz.eq]; rfl, by rw [HG.eq]; exact below_setRow (HG.eq ▸ HBb.out _ HSq.out) (Nat.le_refl _) _⟩
  · rw [h0] at HDE ⊢
    clear h0
    rw [if_neg (fun h => by cases h.1)] at HDE
    rw [HDE.eq, if_neg (by omega)] at HDN
    clear H1 EQ HFe HF9 HL0
    go_wp2_with (first | (refine build_none rfl 39 rfl Z HB00.out ?_) | (refine wpList_store_row rfl 39 (.tmp 2) (.tmp 39) rfl g Z rfl rfl 39 Z HRZ9.eq (by rw [size39, HZ.eq]) (by rw [HZ.eq]) H10.out ?_))
    refine bodyPost_ret (res_ct rfl _ _ g 39 Z _ rfl (setRow_heap w9 g _ _ _ _ HRZ9.eq) Tryd.underlying39 rfl (by rw [size39, HZ.eq])) rfl ?_
    exact ⟨by rw [HDE.eq, HDN.eq, HCz.eq]; rfl, by rw [HG.eq]; exact below_setRow (HG.eq ▸ HBb.out _ HS9.out) (Nat.le_refl _) _⟩
end Go.Proofs.YtealbeblkilibaaDoor
/- Proved: Decode and DecodeArch answer what has a record, or that nothing has it; the program's and the document's. -/
namespace Go.Proofs.YtealbeblkilibaaDoor
open Go.RowKit
open Ino (Nd Ar)
open FI (Fv fv0 FieldsL hit fcells In64)
set_option maxHeartbeats 2000000 in
set_option maxRecDepth 20000 in
theorem rdecode_any (a : Option Addr) (len cap : Nat) (fs : List Fv) (w : World) (hF : FieldsL w a len fs) (hlen : len ≤ 30000) : Calls Tryd.prog 19 #[.slice a len cap] w fun e w' => e = .returned (.tuple #[.agg (ndc (Ino.decN fs)), .int .i64 (Ino.decE fs : Nat)]) ∧ Below w.heap.size w w' := by
  have HIn := ndOf_in hF
  have hz0 := zero39
  have RN : Hid (∀ (tag : Int) (W : World), FieldsL W a len fs → Calls Tryd.prog 48 #[.slice a len cap, .int .i64 tag] W fun e w' => e = .returned (.int .i64 (Ino.numV fs tag)) ∧ Below W.heap.size W w') := fun tag W h => rget_any a len cap tag fs W h hlen
  have RS : Hid (∀ W : World, FieldsL W a len fs → Calls Tryd.prog 49 #[.slice a len cap] W fun e w' => e = .returned (.agg (smc (Ino.sumV (Ino.txtV fs 3)))) ∧ Below W.heap.size W w') := fun W h => rsum_any a len cap fs W h hlen
  have EN : Hid (∀ W : World, Calls Tryd.prog 17 #[.agg (ndc (Ino.ndOf fs))] W fun e w' => ∃ v, e = .returned (.tuple #[v, .int .i64 (Ino.chk (Ino.ndOf fs) : Nat)]) ∧ w'.ownsRow W.heap.size 79 4 v (encL (Ino.ndOf fs)).length ((encL (Ino.ndOf fs)).flatMap fcells) ∧ Below W.heap.size W w') := fun W => rencode_any (Ino.ndOf fs) W HIn
  have EQ : Hid (∀ (W : World) (a1 : Option Addr) (c1 : Nat), FieldsL W a1 (encL (Ino.ndOf fs)).length (encL (Ino.ndOf fs)) → FieldsL W a len fs → Calls Tryd.prog 22 #[.slice a1 (encL (Ino.ndOf fs)).length c1, .slice a len cap] W fun e w' => e = .returned (.bool (Ino.leq (encL (Ino.ndOf fs)) fs)) ∧ Below W.heap.size W w') := fun W a1 c1 h1 h2 => rsamef_any a1 _ c1 a len cap _ fs W h1 h2 (Nat.le_trans (encL_good HIn).len (by omega)) hlen
  have HGd : Hid (Fit (encL (Ino.ndOf fs))) := (encL_good HIn).fit
  have BL : Hid (Tryd.prog.built 39 [(0, .int .i64 (Ino.numV fs 1)), (1, .int .i64 (Ino.numV fs 2)), (2, .agg (smc (Ino.sumV (Ino.txtV fs 3)))), (3, .int .i64 (Ino.numV fs 4)), (4, .int .i64 (Ino.numV fs 5)), (5, .int .i64 (Ino.numV fs 6))] = some (ndc (Ino.ndOf fs))) := built_nd _ _ _ _ _ _ (Ino.sumV_length _)
  have HDE : Is (Ino.decE fs) (if Ino.chk (Ino.ndOf fs) = 0 ∧ Ino.leq (Ino.recN (Ino.ndOf fs)) fs = true then 0 else 5) := ⟨rfl⟩
  have HDN : Is (Ino.decN fs) (if Ino.decE fs = 0 then (Ino.ndOf fs) else Ino.zeroN) := ⟨rfl⟩
  have HL0 : Is (encL (Ino.ndOf fs)) (if Ino.chk (Ino.ndOf fs) = 0 then Ino.recN (Ino.ndOf fs) else []) := ⟨rfl⟩
  have HZ : Is (ndc Ino.zeroN).size 37 := ⟨ndc_size (by decide)⟩
  have HZc : Is (ndc (Ino.ndOf fs)).size 37 := ⟨ndc_size HIn.sum⟩
  have H1 : Hid ((ndc (Ino.ndOf fs)).all (·.oneCell') = true) := ndc_one _
  have H10 : Hid ((ndc Ino.zeroN).all (·.oneCell') = true) := ndc_one _
  have HF : Hid (FieldsL w a len fs) := hF
  have B0 := built_nd0
  have HB00 : Hid (Tryd.prog.built 39 [] = some (ndc Ino.zeroN)) := B0
  have HCN : Is (ndc (if Ino.decE fs = 0 then (Ino.ndOf fs) else Ino.zeroN)) (ndc (Ino.decN fs)) := ⟨by rw [HDN.eq]⟩
  clear hF HIn B0
  generalize (Ino.ndOf fs) = x at *
  obtain ⟨C, hC⟩ : ∃ C, ndc x = C := ⟨_, rfl⟩
  obtain ⟨Z, hZ⟩ : ∃ Z, ndc Ino.zeroN = Z := ⟨_, rfl⟩
  have HCx : Is (ndc x) C := ⟨hC⟩
  have HCz : Is (ndc Ino.zeroN) Z := ⟨hZ⟩
  rw [hC] at EN HZc H1 BL
  rw [hZ] at hz0 HZ H10 HB00
  clear hC hZ HCN
  generalize hS : Ino.sumV (Ino.txtV fs 3) = D at *
  generalize hN1 : Ino.numV fs 1 = z1 at *
  generalize hN2 : Ino.numV fs 2 = z2 at *
  generalize hN4 : Ino.numV fs 4 = z4 at *
  generalize hN5 : Ino.numV fs 5 = z5 at *
  generalize hN6 : Ino.numV fs 6 = z6 at *
  have RN1 : Hid (∀ W : World, FieldsL W a len fs → Calls Tryd.prog 48 #[.slice a len cap, .int .i64 1] W fun e w' => e = .returned (.int .i64 z1) ∧ Below W.heap.size W w') := fun W h => by have h1 := RN.out 1 W h; rw [hN1] at h1; exact h1
  have RN2 : Hid (∀ W : World, FieldsL W a len fs → Calls Tryd.prog 48 #[.slice a len cap, .int .i64 2] W fun e w' => e = .returned (.int .i64 z2) ∧ Below W.heap.size W w') := fun W h => by have h1 := RN.out 2 W h; rw [hN2] at h1; exact h1
  have RN4 : Hid (∀ W : World, FieldsL W a len fs → Calls Tryd.prog 48 #[.slice a len cap, .int .i64 4] W fun e w' => e = .returned (.int .i64 z4) ∧ Below W.heap.size W w') := fun W h => by have h1 := RN.out 4 W h; rw [hN4] at h1; exact h1
  have RN5 : Hid (∀ W : World, FieldsL W a len fs → Calls Tryd.prog 48 #[.slice a len cap, .int .i64 5] W fun e w' => e = .returned (.int .i64 z5) ∧ Below W.heap.size W w') := fun W h => by have h1 := RN.out 5 W h; rw [hN5] at h1; exact h1
  have RN6 : Hid (∀ W : World, FieldsL W a len fs → Calls Tryd.prog 48 #[.slice a len cap, .int .i64 6] W fun e w' => e = .returned (.int .i64 z6) ∧ Below W.heap.size W w') := fun W h => by have h1 := RN.out 6 W h; rw [hN6] at h1; exact h1
  clear hS RN hN1 hN2 hN4 hN5 hN6
  go_enter Tryd.func19, Tryd.ntmps19
  go_upto_region 1 with fail
  have hr1 : (w.alloc (.cells Z 39)).heap[w.heap.size]? = some (.cells Z 39 (0, 0)) := heap_alloc_new w _
  have HB1 : Hid (Below w.heap.size w (w.alloc (.cells Z 39))) := (Below.refl _ w).alloc (Nat.le_refl _) _
  have HF1 : Hid (FieldsL (w.alloc (.cells Z 39)) a len fs) := HF.out.below HB1.out
  have hl1 : w.heap.size + 1 ≤ (w.alloc (.cells Z 39)).heap.size := by simp
  generalize w.alloc (.cells Z 39) = w1 at *
  obtain ⟨g, hg⟩ : ∃ g, w.heap.size = g := ⟨_, rfl⟩
  have HG : Is w.heap.size g := ⟨hg⟩
  rw [hg] at hr1 hl1
  have HBb : Hid (∀ W : World, Below (g + 1) w1 W → Below w.heap.size w W) := fun W h => HB1.out.trans (h.mono (by omega))
  have HRz : Hid (∀ W : World, Below (g + 1) w1 W → W.heap[g]? = some (.cells Z 39 (0, 0))) := fun W h => (h.block g (by omega)).trans hr1
  rw [hg]
  have HS1 : Hid (Below (g + 1) w1 w1) := Below.refl _ _
  clear hg hr1 HF HB1
  go_wp2_with fail
  refine ((RN1).out _ HF1.out).mono ?_
  rintro e w2 ⟨rfl, hB2⟩
  have HF2 : Hid (FieldsL w2 a len fs) := HF1.out.below hB2
  have HS2 : Hid (Below (g + 1) w1 w2) := hold_call HS1.out hl1 hB2
  clear hB2 HF1
  go_wp2_with fail
  refine ((RN2).out _ HF2.out).mono ?_
  rintro e w3 ⟨rfl, hB3⟩
  have HF3 : Hid (FieldsL w3 a len fs) := HF2.out.below hB3
  have HS3 : Hid (Below (g + 1) w1 w3) := hold_call HS2.out hl1 hB3
  clear hB3 HF2 HS2
  go_wp2_with fail
  refine ((RS).out _ HF3.out).mono ?_
  rintro e w4 ⟨rfl, hB4⟩
  have HF4 : Hid (FieldsL w4 a len fs) := HF3.out.below hB4
  have HS4 : Hid (Below (g + 1) w1 w4) := hold_call HS3.out hl1 hB4
  clear hB4 HF3 HS3
  go_wp2_with fail
  refine ((RN4).out _ HF4.out).mono ?_
  rintro e w5 ⟨rfl, hB5⟩
  have HF5 : Hid (FieldsL w5 a len fs) := HF4.out.below hB5
  have HS5 : Hid (Below (g + 1) w1 w5) := hold_call HS4.out hl1 hB5
  clear hB5 HF4 HS4
  go_wp2_with fail
  refine ((RN5).out _ HF5.out).mono ?_
  rintro e w6 ⟨rfl, hB6⟩
  have HF6 : Hid (FieldsL w6 a len fs) := HF5.out.below hB6
  have HS6 : Hid (Below (g + 1) w1 w6) := hold_call HS5.out hl1 hB6
  clear hB6 HF5 HS5
  go_wp2_with fail
  refine ((RN6).out _ HF6.out).mono ?_
  rintro e w7 ⟨rfl, hB7⟩
  have HF7 : Hid (FieldsL w7 a len fs) := HF6.out.below hB7
  have HS7 : Hid (Below (g + 1) w1 w7) := hold_call HS6.out hl1 hB7
  clear hB7 HF6 HS6
  have hzk : g + 1 ≤ w7.heap.size := Nat.le_trans hl1 HS7.out.size
  go_upto_region 2 with (first | (refine build_six rfl 39 _ _ _ _ _ _ rfl _ _ _ _ _ _ rfl rfl rfl rfl rfl rfl C BL.out ?_) | (refine wpList_store_row rfl 39 (.tmp 4) (.tmp 19) rfl w7.heap.size C rfl rfl 39 Z (heap_alloc_new w7 _) (by rw [size39, HZc.eq]) (by rw [HZ.eq, HZc.eq]) H1.out ?_; rw [World.setRow_alloc_new]))
  have HRC : Is ((w7.alloc (.cells C 39)).heap[w7.heap.size]?) (some (.cells C 39 (0, 0))) := ⟨heap_alloc_new w7 _⟩
  have hbm : Below w7.heap.size w7 (w7.alloc (.cells C 39)) := (Below.refl _ _).alloc (Nat.le_refl _) _
  have HF8 : Hid (FieldsL (w7.alloc (.cells C 39)) a len fs) := HF7.out.below hbm
  have HS8 : Hid (Below (g + 1) w1 (w7.alloc (.cells C 39))) := hold_call HS7.out hl1 hbm
  have hlm : w7.heap.size < (w7.alloc (.cells C 39)).heap.size := by simp
  clear hbm HF7 HS7
  generalize w7.alloc (.cells C 39) = w8 at *
  generalize w7.heap.size = b at *
  clear w7 hz0 BL
  go_wp2_with (first | (refine load_met (by rfl) 39 _ rfl _ rfl 39 C (0, 0) _ HRC.eq Tryd.underlying39 rfl (by rw [size39, HZc.eq]) ?_))
  refine (EN.out _).mono ?_
  rintro e w9 ⟨v, rfl, ho, hB9⟩
  obtain ⟨ae, ce, rfl, hce, hFe⟩ := FI.own_fields ho HGd.out
  have HFe : Hid (FieldsL w9 ae (encL x).length (encL x)) := hFe
  have HF9 : Hid (FieldsL w9 a len fs) := HF8.out.below hB9
  have HS9 : Hid (Below (g + 1) w1 w9) := hold_call HS8.out hl1 hB9
  have HRC9 : Is (w9.heap[b]?) (some (.cells C 39 (0, 0))) := ⟨(hB9.block b hlm).trans HRC.eq⟩
  have hlp : b < w9.heap.size := Nat.lt_of_lt_of_le hlm hB9.size
  have HRZ9 : Is (w9.heap[g]?) (some (.cells Z 39 (0, 0))) := ⟨HRz.out _ HS9.out⟩
  clear ho hFe hB9 hce HRC HF8 HS8 EN HGd
  rcases Ino.chk_le x with h0 | h0
  · rw [h0] at HL0 HDE ⊢
    clear h0
    rw [if_pos rfl] at HL0
    rw [← HL0.eq] at HDE
    generalize encL x = le at *
    have EQ' : Hid (Calls Tryd.prog 22 #[.slice ae le.length ce, .slice a len cap] w9 fun e w' => e = .returned (.bool (Ino.leq le fs)) ∧ Below w9.heap.size w9 w') := EQ.out _ _ _ HFe.out HF9.out
    clear EQ HFe HF9 HL0
    generalize le.length = nl at *
    cases hq : Ino.leq le fs with
    | true =>
      rw [hq] at HDE EQ'
      rw [if_pos ⟨by first | rfl | trivial, rfl⟩] at HDE
      rw [HDE.eq, if_pos rfl] at HDN
      clear hq HB00 H10
      go_wp2_with (first | (go_at_call 22; refine (show Calls _ _ _ _ _ from EQ'.out).mono ?_; rintro e wq ⟨rfl, hBq⟩; have HSq : Hid (Below (g + 1) w1 wq) := hold_call HS9.out hl1 hBq; have HRCq : Is (wq.heap[b]?) (some (.cells C 39 (0, 0))) := ⟨(hBq.block b hlp).trans HRC9.eq⟩; have HRZq : Is (wq.heap[g]?) (some (.cells Z 39 (0, 0))) := ⟨HRz.out _ HSq.out⟩; clear hBq) | (refine load_met (by rfl) 39 _ rfl _ rfl 39 C (0, 0) _ HRCq.eq Tryd.underlying39 rfl (by rw [size39, HZc.eq]) ?_) | (refine wpList_store_row rfl 39 (.tmp 2) (.tmp 34) rfl g C rfl rfl 39 Z HRZq.eq (by rw [size39, HZc.eq]) (by rw [HZ.eq, HZc.eq]) H1.out ?_))
      refine bodyPost_ret (res_ct rfl _ _ g 39 C _ rfl (setRow_heap wq g _ _ _ _ HRZq.eq) Tryd.underlying39 rfl (by rw [size39, HZc.eq])) rfl ?_
      exact ⟨by rw [HDE.eq, HDN.eq, HCx.eq]; rfl, by rw [HG.eq]; exact below_setRow (HG.eq ▸ HBb.out _ HSq.out) (Nat.le_refl _) _⟩
    | false =>
      rw [hq] at HDE EQ'
      rw [if_neg (by simp)] at HDE
      rw [HDE.eq, if_neg (by omega)] at HDN
      clear hq H1
      go_wp2_with (first | (go_at_call 22; refine (show Calls _ _ _ _ _ from EQ'.out).mono ?_; rintro e wq ⟨rfl, hBq⟩; have HSq : Hid (Below (g + 1) w1 wq) := hold_call HS9.out hl1 hBq; have HRZq : Is (wq.heap[g]?) (some (.cells Z 39 (0, 0))) := ⟨HRz.out _ HSq.out⟩; clear hBq) | (refine build_none rfl 39 rfl Z HB00.out ?_) | (refine wpList_store_row rfl 39 (.tmp 2) (.tmp 33) rfl g Z rfl rfl 39 Z HRZq.eq (by rw [size39, HZ.eq]) (by rw [HZ.eq]) H10.out ?_))
      refine bodyPost_ret (res_ct rfl _ _ g 39 Z _ rfl (setRow_heap wq g _ _ _ _ HRZq.eq) Tryd.underlying39 rfl (by rw [size39, HZ.eq])) rfl ?_
      exact ⟨by rw [HDE.eq, HDN.eq, HCz.eq]; rfl, by rw [HG.eq]; exact below_setRow (HG.eq ▸ HBb.out _ HSq.out) (Nat.le_refl _) _⟩
  · rw [h0] at HDE ⊢
    clear h0
    rw [if_neg (fun h => by cases h.1)] at HDE
    rw [HDE.eq, if_neg (by omega)] at HDN
    clear H1 EQ HFe HF9 HL0
    go_wp2_with (first | (refine build_none rfl 39 rfl Z HB00.out ?_) | (refine wpList_store_row rfl 39 (.tmp 2) (.tmp 33) rfl g Z rfl rfl 39 Z HRZ9.eq (by rw [size39, HZ.eq]) (by rw [HZ.eq]) H10.out ?_))
    refine bodyPost_ret (res_ct rfl _ _ g 39 Z _ rfl (setRow_heap w9 g _ _ _ _ HRZ9.eq) Tryd.underlying39 rfl (by rw [size39, HZ.eq])) rfl ?_
    exact ⟨by rw [HDE.eq, HDN.eq, HCz.eq]; rfl, by rw [HG.eq]; exact below_setRow (HG.eq ▸ HBb.out _ HS9.out) (Nat.le_refl _) _⟩
end Go.Proofs.YtealbeblkilibaaDoor
/- Proved: Decode and DecodeArch answer what has a record, or that nothing has it; the program's and the document's. -/
namespace Go.Proofs.YtealbeblkilibaaDoor
open Go.RowKit
open Ino (Nd Ar)
open FI (Fv fv0 FieldsL hit fcells In64)
set_option maxHeartbeats 2000000 in
set_option maxRecDepth 20000 in
theorem decodeA_any (a : Option Addr) (len cap : Nat) (fs : List Fv) (w : World) (hF : FieldsL w a len fs) (hlen : len ≤ 30000) : Calls Tryd.prog 25 #[.slice a len cap] w fun e w' => e = .returned (.tuple #[.agg (arc (Ino.decA fs)), .int .i64 (Ino.decAE fs : Nat)]) ∧ Below w.heap.size w w' := by
  have HIn := arOf_in hF
  have hz0 := zero55
  have hmf : ∀ (fn : Fn) (first cap : Array Value) (w : World), (Instr.makeFunc fn first cap).run Tryd.prog w = .ok (.func fn first cap) w := fun _ _ _ _ => rfl
  have RN : Hid (∀ (tag : Int) (W : World), FieldsL W a len fs → Calls Tryd.prog 45 #[.slice a len cap, .int .i64 tag] W fun e w' => e = .returned (.int .i64 (Ino.numV fs tag)) ∧ Below W.heap.size W w') := fun tag W h => recNum_any a len cap tag fs W h hlen
  have RS : Hid (∀ W : World, FieldsL W a len fs → Calls Tryd.prog 46 #[.slice a len cap] W fun e w' => e = .returned (.agg (smc (Ino.sumV (Ino.txtV fs 3)))) ∧ Below W.heap.size W w') := fun W h => recSum_any a len cap fs W h hlen
  have EN : Hid (∀ W : World, Calls Tryd.prog 23 #[.agg (arc (Ino.arOf fs))] W fun e w' => ∃ v, e = .returned (.tuple #[v, .int .i64 (Ino.chkA (Ino.arOf fs) : Nat)]) ∧ w'.ownsRow W.heap.size 79 4 v (encA (Ino.arOf fs)).length ((encA (Ino.arOf fs)).flatMap fcells) ∧ Below W.heap.size W w') := fun W => encodeA_any (Ino.arOf fs) W HIn
  have EQ : Hid (∀ (W : World) (a1 : Option Addr) (c1 : Nat), FieldsL W a1 (encA (Ino.arOf fs)).length (encA (Ino.arOf fs)) → FieldsL W a len fs → Calls Tryd.prog 47 #[.slice a1 (encA (Ino.arOf fs)).length c1, .slice a len cap] W fun e w' => e = .returned (.bool (Ino.leq (encA (Ino.arOf fs)) fs)) ∧ Below W.heap.size W w') := fun W a1 c1 h1 h2 => equal_any a1 _ c1 a len cap _ fs W h1 h2 (Nat.le_trans (encA_good HIn).len (by omega)) hlen
  have HGd : Hid (Fit (encA (Ino.arOf fs))) := (encA_good HIn).fit
  have BL : Hid (Tryd.prog.built 55 [(0, .int .i64 (Ino.numV fs 5)), (1, .int .i64 (Ino.numV fs 2)), (2, .agg (smc (Ino.sumV (Ino.txtV fs 3))))] = some (arc (Ino.arOf fs))) := built_ar _ _ _ (Ino.sumV_length _)
  have HDE : Is (Ino.decAE fs) (if Ino.chkA (Ino.arOf fs) = 0 ∧ Ino.leq (Ino.recA (Ino.arOf fs)) fs = true then 0 else 5) := ⟨rfl⟩
  have HDN : Is (Ino.decA fs) (if Ino.decAE fs = 0 then (Ino.arOf fs) else Ino.zeroA) := ⟨rfl⟩
  have HL0 : Is (encA (Ino.arOf fs)) (if Ino.chkA (Ino.arOf fs) = 0 then Ino.recA (Ino.arOf fs) else []) := ⟨rfl⟩
  have HZ : Is (arc Ino.zeroA).size 34 := ⟨arc_size (by decide)⟩
  have HZc : Is (arc (Ino.arOf fs)).size 34 := ⟨arc_size HIn.sum⟩
  have H1 : Hid ((arc (Ino.arOf fs)).all (·.oneCell') = true) := arc_one _
  have H10 : Hid ((arc Ino.zeroA).all (·.oneCell') = true) := arc_one _
  have HF : Hid (FieldsL w a len fs) := hF
  have B0 := built_ar0
  have HB00 : Hid (Tryd.prog.built 55 [] = some (arc Ino.zeroA)) := B0
  have HCN : Is (arc (if Ino.decAE fs = 0 then (Ino.arOf fs) else Ino.zeroA)) (arc (Ino.decA fs)) := ⟨by rw [HDN.eq]⟩
  clear hF HIn B0
  generalize (Ino.arOf fs) = x at *
  obtain ⟨C, hC⟩ : ∃ C, arc x = C := ⟨_, rfl⟩
  obtain ⟨Z, hZ⟩ : ∃ Z, arc Ino.zeroA = Z := ⟨_, rfl⟩
  have HCx : Is (arc x) C := ⟨hC⟩
  have HCz : Is (arc Ino.zeroA) Z := ⟨hZ⟩
  rw [hC] at EN HZc H1 BL
  rw [hZ] at hz0 HZ H10 HB00
  clear hC hZ HCN
  generalize hS : Ino.sumV (Ino.txtV fs 3) = D at *
  generalize hN5 : Ino.numV fs 5 = z5 at *
  generalize hN2 : Ino.numV fs 2 = z2 at *
  have RN5 : Hid (∀ W : World, FieldsL W a len fs → Calls Tryd.prog 45 #[.slice a len cap, .int .i64 5] W fun e w' => e = .returned (.int .i64 z5) ∧ Below W.heap.size W w') := fun W h => by have h1 := RN.out 5 W h; rw [hN5] at h1; exact h1
  have RN2 : Hid (∀ W : World, FieldsL W a len fs → Calls Tryd.prog 45 #[.slice a len cap, .int .i64 2] W fun e w' => e = .returned (.int .i64 z2) ∧ Below W.heap.size W w') := fun W h => by have h1 := RN.out 2 W h; rw [hN2] at h1; exact h1
  clear hS RN hN5 hN2
  go_enter Tryd.func25, Tryd.ntmps25
  go_upto_region 2 with fail
  have hr1 : (w.alloc (.cells Z 55)).heap[w.heap.size]? = some (.cells Z 55 (0, 0)) := heap_alloc_new w _
  have HB1 : Hid (Below w.heap.size w (w.alloc (.cells Z 55))) := (Below.refl _ w).alloc (Nat.le_refl _) _
  have HF1 : Hid (FieldsL (w.alloc (.cells Z 55)) a len fs) := HF.out.below HB1.out
  have hl1 : w.heap.size + 1 ≤ (w.alloc (.cells Z 55)).heap.size := by simp
  generalize w.alloc (.cells Z 55) = w1 at *
  obtain ⟨g, hg⟩ : ∃ g, w.heap.size = g := ⟨_, rfl⟩
  have HG : Is w.heap.size g := ⟨hg⟩
  rw [hg] at hr1 hl1
  have HBb : Hid (∀ W : World, Below (g + 1) w1 W → Below w.heap.size w W) := fun W h => HB1.out.trans (h.mono (by omega))
  have HRz : Hid (∀ W : World, Below (g + 1) w1 W → W.heap[g]? = some (.cells Z 55 (0, 0))) := fun W h => (h.block g (by omega)).trans hr1
  rw [hg]
  have HS1 : Hid (Below (g + 1) w1 w1) := Below.refl _ _
  clear hg hr1 HF HB1
  go_wp2_with fail
  refine ((RN5).out _ HF1.out).mono ?_
  rintro e w2 ⟨rfl, hB2⟩
  have HF2 : Hid (FieldsL w2 a len fs) := HF1.out.below hB2
  have HS2 : Hid (Below (g + 1) w1 w2) := hold_call HS1.out hl1 hB2
  clear hB2 HF1
  go_wp2_with fail
  refine ((RN2).out _ HF2.out).mono ?_
  rintro e w3 ⟨rfl, hB3⟩
  have HF3 : Hid (FieldsL w3 a len fs) := HF2.out.below hB3
  have HS3 : Hid (Below (g + 1) w1 w3) := hold_call HS2.out hl1 hB3
  clear hB3 HF2 HS2
  go_wp2_with fail
  refine ((RS).out _ HF3.out).mono ?_
  rintro e w4 ⟨rfl, hB4⟩
  have HF4 : Hid (FieldsL w4 a len fs) := HF3.out.below hB4
  have HS4 : Hid (Below (g + 1) w1 w4) := hold_call HS3.out hl1 hB4
  clear hB4 HF3 HS3
  have hzk : g + 1 ≤ w4.heap.size := Nat.le_trans hl1 HS4.out.size
  go_upto_region 3 with (first | (refine build_three rfl 55 _ _ _ rfl _ _ _ rfl rfl rfl C BL.out ?_) | (refine wpList_store_row rfl 55 (.tmp 6) (.tmp 19) rfl w4.heap.size C rfl rfl 55 Z (heap_alloc_new w4 _) (by rw [size55, HZc.eq]) (by rw [HZ.eq, HZc.eq]) H1.out ?_; rw [World.setRow_alloc_new]))
  have HRC : Is ((w4.alloc (.cells C 55)).heap[w4.heap.size]?) (some (.cells C 55 (0, 0))) := ⟨heap_alloc_new w4 _⟩
  have hbm : Below w4.heap.size w4 (w4.alloc (.cells C 55)) := (Below.refl _ _).alloc (Nat.le_refl _) _
  have HF5 : Hid (FieldsL (w4.alloc (.cells C 55)) a len fs) := HF4.out.below hbm
  have HS5 : Hid (Below (g + 1) w1 (w4.alloc (.cells C 55))) := hold_call HS4.out hl1 hbm
  have hlm : w4.heap.size < (w4.alloc (.cells C 55)).heap.size := by simp
  clear hbm HF4 HS4
  generalize w4.alloc (.cells C 55) = w5 at *
  generalize w4.heap.size = b at *
  clear w4 hz0 BL
  go_wp2_with (first | (refine load_met (by rfl) 55 _ rfl _ rfl 55 C (0, 0) _ HRC.eq Tryd.underlying55 rfl (by rw [size55, HZc.eq]) ?_))
  refine (EN.out _).mono ?_
  rintro e w6 ⟨v, rfl, ho, hB6⟩
  obtain ⟨ae, ce, rfl, hce, hFe⟩ := FI.own_fields ho HGd.out
  have HFe : Hid (FieldsL w6 ae (encA x).length (encA x)) := hFe
  have HF6 : Hid (FieldsL w6 a len fs) := HF5.out.below hB6
  have HS6 : Hid (Below (g + 1) w1 w6) := hold_call HS5.out hl1 hB6
  have HRC6 : Is (w6.heap[b]?) (some (.cells C 55 (0, 0))) := ⟨(hB6.block b hlm).trans HRC.eq⟩
  have hlp : b < w6.heap.size := Nat.lt_of_lt_of_le hlm hB6.size
  have HRZ6 : Is (w6.heap[g]?) (some (.cells Z 55 (0, 0))) := ⟨HRz.out _ HS6.out⟩
  clear ho hFe hB6 hce HRC HF5 HS5 EN HGd
  rcases Ino.chkA_le x with h0 | h0
  · rw [h0] at HL0 HDE ⊢
    clear h0
    rw [if_pos rfl] at HL0
    rw [← HL0.eq] at HDE
    generalize encA x = le at *
    have EQ' : Hid (Calls Tryd.prog 47 #[.slice ae le.length ce, .slice a len cap] w6 fun e w' => e = .returned (.bool (Ino.leq le fs)) ∧ Below w6.heap.size w6 w') := EQ.out _ _ _ HFe.out HF6.out
    clear EQ HFe HF6 HL0
    generalize le.length = nl at *
    cases hq : Ino.leq le fs with
    | true =>
      rw [hq] at HDE EQ'
      rw [if_pos ⟨by first | rfl | trivial, rfl⟩] at HDE
      rw [HDE.eq, if_pos rfl] at HDN
      clear hq HB00 H10
      go_wp2_with (first | (go_at_call 47; refine (show Calls _ _ _ _ _ from EQ'.out).mono ?_; rintro e wq ⟨rfl, hBq⟩; have HSq : Hid (Below (g + 1) w1 wq) := hold_call HS6.out hl1 hBq; have HRCq : Is (wq.heap[b]?) (some (.cells C 55 (0, 0))) := ⟨(hBq.block b hlp).trans HRC6.eq⟩; have HRZq : Is (wq.heap[g]?) (some (.cells Z 55 (0, 0))) := ⟨HRz.out _ HSq.out⟩; clear hBq) | (refine load_met (by rfl) 55 _ rfl _ rfl 55 C (0, 0) _ HRCq.eq Tryd.underlying55 rfl (by rw [size55, HZc.eq]) ?_) | (refine wpList_store_row rfl 55 (.tmp 2) (.tmp 34) rfl g C rfl rfl 55 Z HRZq.eq (by rw [size55, HZc.eq]) (by rw [HZ.eq, HZc.eq]) H1.out ?_))
      refine bodyPost_ret (res_ct rfl _ _ g 55 C _ rfl (setRow_heap wq g _ _ _ _ HRZq.eq) Tryd.underlying55 rfl (by rw [size55, HZc.eq])) rfl ?_
      exact ⟨by rw [HDE.eq, HDN.eq, HCx.eq]; rfl, by rw [HG.eq]; exact below_setRow (HG.eq ▸ HBb.out _ HSq.out) (Nat.le_refl _) _⟩
    | false =>
      rw [hq] at HDE EQ'
      rw [if_neg (by simp)] at HDE
      rw [HDE.eq, if_neg (by omega)] at HDN
      clear hq H1
      go_wp2_with (first | (go_at_call 47; refine (show Calls _ _ _ _ _ from EQ'.out).mono ?_; rintro e wq ⟨rfl, hBq⟩; have HSq : Hid (Below (g + 1) w1 wq) := hold_call HS6.out hl1 hBq; have HRZq : Is (wq.heap[g]?) (some (.cells Z 55 (0, 0))) := ⟨HRz.out _ HSq.out⟩; clear hBq) | (refine build_none rfl 55 rfl Z HB00.out ?_) | (refine wpList_store_row rfl 55 (.tmp 2) (.tmp 33) rfl g Z rfl rfl 55 Z HRZq.eq (by rw [size55, HZ.eq]) (by rw [HZ.eq]) H10.out ?_))
      refine bodyPost_ret (res_ct rfl _ _ g 55 Z _ rfl (setRow_heap wq g _ _ _ _ HRZq.eq) Tryd.underlying55 rfl (by rw [size55, HZ.eq])) rfl ?_
      exact ⟨by rw [HDE.eq, HDN.eq, HCz.eq]; rfl, by rw [HG.eq]; exact below_setRow (HG.eq ▸ HBb.out _ HSq.out) (Nat.le_refl _) _⟩
  · rw [h0] at HDE ⊢
    clear h0
    rw [if_neg (fun h => by cases h.1)] at HDE
    rw [HDE.eq, if_neg (by omega)] at HDN
    clear H1 EQ HFe HF6 HL0
    go_wp2_with (first | (refine build_none rfl 55 rfl Z HB00.out ?_) | (refine wpList_store_row rfl 55 (.tmp 2) (.tmp 33) rfl g Z rfl rfl 55 Z HRZ6.eq (by rw [size55, HZ.eq]) (by rw [HZ.eq]) H10.out ?_))
    refine bodyPost_ret (res_ct rfl _ _ g 55 Z _ rfl (setRow_heap w6 g _ _ _ _ HRZ6.eq) Tryd.underlying55 rfl (by rw [size55, HZ.eq])) rfl ?_
    exact ⟨by rw [HDE.eq, HDN.eq, HCz.eq]; rfl, by rw [HG.eq]; exact below_setRow (HG.eq ▸ HBb.out _ HS6.out) (Nat.le_refl _) _⟩
end Go.Proofs.YtealbeblkilibaaDoor
/- Proved: Decode and DecodeArch answer what has a record, or that nothing has it; the program's and the document's. -/
namespace Go.Proofs.YtealbeblkilibaaDoor
open Go.RowKit
open Ino (Nd Ar)
open FI (Fv fv0 FieldsL hit fcells In64)
set_option maxHeartbeats 2000000 in
set_option maxRecDepth 20000 in
theorem rdecodeA_any (a : Option Addr) (len cap : Nat) (fs : List Fv) (w : World) (hF : FieldsL w a len fs) (hlen : len ≤ 30000) : Calls Tryd.prog 26 #[.slice a len cap] w fun e w' => e = .returned (.tuple #[.agg (arc (Ino.decA fs)), .int .i64 (Ino.decAE fs : Nat)]) ∧ Below w.heap.size w w' := by
  have HIn := arOf_in hF
  have hz0 := zero55
  have RN : Hid (∀ (tag : Int) (W : World), FieldsL W a len fs → Calls Tryd.prog 48 #[.slice a len cap, .int .i64 tag] W fun e w' => e = .returned (.int .i64 (Ino.numV fs tag)) ∧ Below W.heap.size W w') := fun tag W h => rget_any a len cap tag fs W h hlen
  have RS : Hid (∀ W : World, FieldsL W a len fs → Calls Tryd.prog 49 #[.slice a len cap] W fun e w' => e = .returned (.agg (smc (Ino.sumV (Ino.txtV fs 3)))) ∧ Below W.heap.size W w') := fun W h => rsum_any a len cap fs W h hlen
  have EN : Hid (∀ W : World, Calls Tryd.prog 24 #[.agg (arc (Ino.arOf fs))] W fun e w' => ∃ v, e = .returned (.tuple #[v, .int .i64 (Ino.chkA (Ino.arOf fs) : Nat)]) ∧ w'.ownsRow W.heap.size 79 4 v (encA (Ino.arOf fs)).length ((encA (Ino.arOf fs)).flatMap fcells) ∧ Below W.heap.size W w') := fun W => rencodeA_any (Ino.arOf fs) W HIn
  have EQ : Hid (∀ (W : World) (a1 : Option Addr) (c1 : Nat), FieldsL W a1 (encA (Ino.arOf fs)).length (encA (Ino.arOf fs)) → FieldsL W a len fs → Calls Tryd.prog 22 #[.slice a1 (encA (Ino.arOf fs)).length c1, .slice a len cap] W fun e w' => e = .returned (.bool (Ino.leq (encA (Ino.arOf fs)) fs)) ∧ Below W.heap.size W w') := fun W a1 c1 h1 h2 => rsamef_any a1 _ c1 a len cap _ fs W h1 h2 (Nat.le_trans (encA_good HIn).len (by omega)) hlen
  have HGd : Hid (Fit (encA (Ino.arOf fs))) := (encA_good HIn).fit
  have BL : Hid (Tryd.prog.built 55 [(0, .int .i64 (Ino.numV fs 5)), (1, .int .i64 (Ino.numV fs 2)), (2, .agg (smc (Ino.sumV (Ino.txtV fs 3))))] = some (arc (Ino.arOf fs))) := built_ar _ _ _ (Ino.sumV_length _)
  have HDE : Is (Ino.decAE fs) (if Ino.chkA (Ino.arOf fs) = 0 ∧ Ino.leq (Ino.recA (Ino.arOf fs)) fs = true then 0 else 5) := ⟨rfl⟩
  have HDN : Is (Ino.decA fs) (if Ino.decAE fs = 0 then (Ino.arOf fs) else Ino.zeroA) := ⟨rfl⟩
  have HL0 : Is (encA (Ino.arOf fs)) (if Ino.chkA (Ino.arOf fs) = 0 then Ino.recA (Ino.arOf fs) else []) := ⟨rfl⟩
  have HZ : Is (arc Ino.zeroA).size 34 := ⟨arc_size (by decide)⟩
  have HZc : Is (arc (Ino.arOf fs)).size 34 := ⟨arc_size HIn.sum⟩
  have H1 : Hid ((arc (Ino.arOf fs)).all (·.oneCell') = true) := arc_one _
  have H10 : Hid ((arc Ino.zeroA).all (·.oneCell') = true) := arc_one _
  have HF : Hid (FieldsL w a len fs) := hF
  have B0 := built_ar0
  have HB00 : Hid (Tryd.prog.built 55 [] = some (arc Ino.zeroA)) := B0
  have HCN : Is (arc (if Ino.decAE fs = 0 then (Ino.arOf fs) else Ino.zeroA)) (arc (Ino.decA fs)) := ⟨by rw [HDN.eq]⟩
  clear hF HIn B0
  generalize (Ino.arOf fs) = x at *
  obtain ⟨C, hC⟩ : ∃ C, arc x = C := ⟨_, rfl⟩
  obtain ⟨Z, hZ⟩ : ∃ Z, arc Ino.zeroA = Z := ⟨_, rfl⟩
  have HCx : Is (arc x) C := ⟨hC⟩
  have HCz : Is (arc Ino.zeroA) Z := ⟨hZ⟩
  rw [hC] at EN HZc H1 BL
  rw [hZ] at hz0 HZ H10 HB00
  clear hC hZ HCN
  generalize hS : Ino.sumV (Ino.txtV fs 3) = D at *
  generalize hN5 : Ino.numV fs 5 = z5 at *
  generalize hN2 : Ino.numV fs 2 = z2 at *
  have RN5 : Hid (∀ W : World, FieldsL W a len fs → Calls Tryd.prog 48 #[.slice a len cap, .int .i64 5] W fun e w' => e = .returned (.int .i64 z5) ∧ Below W.heap.size W w') := fun W h => by have h1 := RN.out 5 W h; rw [hN5] at h1; exact h1
  have RN2 : Hid (∀ W : World, FieldsL W a len fs → Calls Tryd.prog 48 #[.slice a len cap, .int .i64 2] W fun e w' => e = .returned (.int .i64 z2) ∧ Below W.heap.size W w') := fun W h => by have h1 := RN.out 2 W h; rw [hN2] at h1; exact h1
  clear hS RN hN5 hN2
  go_enter Tryd.func26, Tryd.ntmps26
  go_upto_region 1 with fail
  have hr1 : (w.alloc (.cells Z 55)).heap[w.heap.size]? = some (.cells Z 55 (0, 0)) := heap_alloc_new w _
  have HB1 : Hid (Below w.heap.size w (w.alloc (.cells Z 55))) := (Below.refl _ w).alloc (Nat.le_refl _) _
  have HF1 : Hid (FieldsL (w.alloc (.cells Z 55)) a len fs) := HF.out.below HB1.out
  have hl1 : w.heap.size + 1 ≤ (w.alloc (.cells Z 55)).heap.size := by simp
  generalize w.alloc (.cells Z 55) = w1 at *
  obtain ⟨g, hg⟩ : ∃ g, w.heap.size = g := ⟨_, rfl⟩
  have HG : Is w.heap.size g := ⟨hg⟩
  rw [hg] at hr1 hl1
  have HBb : Hid (∀ W : World, Below (g + 1) w1 W → Below w.heap.size w W) := fun W h => HB1.out.trans (h.mono (by omega))
  have HRz : Hid (∀ W : World, Below (g + 1) w1 W → W.heap[g]? = some (.cells Z 55 (0, 0))) := fun W h => (h.block g (by omega)).trans hr1
  rw [hg]
  have HS1 : Hid (Below (g + 1) w1 w1) := Below.refl _ _
  clear hg hr1 HF HB1
  go_wp2_with fail
  refine ((RN5).out _ HF1.out).mono ?_
  rintro e w2 ⟨rfl, hB2⟩
  have HF2 : Hid (FieldsL w2 a len fs) := HF1.out.below hB2
  have HS2 : Hid (Below (g + 1) w1 w2) := hold_call HS1.out hl1 hB2
  clear hB2 HF1
  go_wp2_with fail
  refine ((RN2).out _ HF2.out).mono ?_
  rintro e w3 ⟨rfl, hB3⟩
  have HF3 : Hid (FieldsL w3 a len fs) := HF2.out.below hB3
  have HS3 : Hid (Below (g + 1) w1 w3) := hold_call HS2.out hl1 hB3
  clear hB3 HF2 HS2
  go_wp2_with fail
  refine ((RS).out _ HF3.out).mono ?_
  rintro e w4 ⟨rfl, hB4⟩
  have HF4 : Hid (FieldsL w4 a len fs) := HF3.out.below hB4
  have HS4 : Hid (Below (g + 1) w1 w4) := hold_call HS3.out hl1 hB4
  clear hB4 HF3 HS3
  have hzk : g + 1 ≤ w4.heap.size := Nat.le_trans hl1 HS4.out.size
  go_upto_region 2 with (first | (refine build_three rfl 55 _ _ _ rfl _ _ _ rfl rfl rfl C BL.out ?_) | (refine wpList_store_row rfl 55 (.tmp 4) (.tmp 13) rfl w4.heap.size C rfl rfl 55 Z (heap_alloc_new w4 _) (by rw [size55, HZc.eq]) (by rw [HZ.eq, HZc.eq]) H1.out ?_; rw [World.setRow_alloc_new]))
  have HRC : Is ((w4.alloc (.cells C 55)).heap[w4.heap.size]?) (some (.cells C 55 (0, 0))) := ⟨heap_alloc_new w4 _⟩
  have hbm : Below w4.heap.size w4 (w4.alloc (.cells C 55)) := (Below.refl _ _).alloc (Nat.le_refl _) _
  have HF5 : Hid (FieldsL (w4.alloc (.cells C 55)) a len fs) := HF4.out.below hbm
  have HS5 : Hid (Below (g + 1) w1 (w4.alloc (.cells C 55))) := hold_call HS4.out hl1 hbm
  have hlm : w4.heap.size < (w4.alloc (.cells C 55)).heap.size := by simp
  clear hbm HF4 HS4
  generalize w4.alloc (.cells C 55) = w5 at *
  generalize w4.heap.size = b at *
  clear w4 hz0 BL
  go_wp2_with (first | (refine load_met (by rfl) 55 _ rfl _ rfl 55 C (0, 0) _ HRC.eq Tryd.underlying55 rfl (by rw [size55, HZc.eq]) ?_))
  refine (EN.out _).mono ?_
  rintro e w6 ⟨v, rfl, ho, hB6⟩
  obtain ⟨ae, ce, rfl, hce, hFe⟩ := FI.own_fields ho HGd.out
  have HFe : Hid (FieldsL w6 ae (encA x).length (encA x)) := hFe
  have HF6 : Hid (FieldsL w6 a len fs) := HF5.out.below hB6
  have HS6 : Hid (Below (g + 1) w1 w6) := hold_call HS5.out hl1 hB6
  have HRC6 : Is (w6.heap[b]?) (some (.cells C 55 (0, 0))) := ⟨(hB6.block b hlm).trans HRC.eq⟩
  have hlp : b < w6.heap.size := Nat.lt_of_lt_of_le hlm hB6.size
  have HRZ6 : Is (w6.heap[g]?) (some (.cells Z 55 (0, 0))) := ⟨HRz.out _ HS6.out⟩
  clear ho hFe hB6 hce HRC HF5 HS5 EN HGd
  rcases Ino.chkA_le x with h0 | h0
  · rw [h0] at HL0 HDE ⊢
    clear h0
    rw [if_pos rfl] at HL0
    rw [← HL0.eq] at HDE
    generalize encA x = le at *
    have EQ' : Hid (Calls Tryd.prog 22 #[.slice ae le.length ce, .slice a len cap] w6 fun e w' => e = .returned (.bool (Ino.leq le fs)) ∧ Below w6.heap.size w6 w') := EQ.out _ _ _ HFe.out HF6.out
    clear EQ HFe HF6 HL0
    generalize le.length = nl at *
    cases hq : Ino.leq le fs with
    | true =>
      rw [hq] at HDE EQ'
      rw [if_pos ⟨by first | rfl | trivial, rfl⟩] at HDE
      rw [HDE.eq, if_pos rfl] at HDN
      clear hq HB00 H10
      go_wp2_with (first | (go_at_call 22; refine (show Calls _ _ _ _ _ from EQ'.out).mono ?_; rintro e wq ⟨rfl, hBq⟩; have HSq : Hid (Below (g + 1) w1 wq) := hold_call HS6.out hl1 hBq; have HRCq : Is (wq.heap[b]?) (some (.cells C 55 (0, 0))) := ⟨(hBq.block b hlp).trans HRC6.eq⟩; have HRZq : Is (wq.heap[g]?) (some (.cells Z 55 (0, 0))) := ⟨HRz.out _ HSq.out⟩; clear hBq) | (refine load_met (by rfl) 55 _ rfl _ rfl 55 C (0, 0) _ HRCq.eq Tryd.underlying55 rfl (by rw [size55, HZc.eq]) ?_) | (refine wpList_store_row rfl 55 (.tmp 2) (.tmp 28) rfl g C rfl rfl 55 Z HRZq.eq (by rw [size55, HZc.eq]) (by rw [HZ.eq, HZc.eq]) H1.out ?_))
      refine bodyPost_ret (res_ct rfl _ _ g 55 C _ rfl (setRow_heap wq g _ _ _ _ HRZq.eq) Tryd.underlying55 rfl (by rw [size55, HZc.eq])) rfl ?_
      exact ⟨by rw [HDE.eq, HDN.eq, HCx.eq]; rfl, by rw [HG.eq]; exact below_setRow (HG.eq ▸ HBb.out _ HSq.out) (Nat.le_refl _) _⟩
    | false =>
      rw [hq] at HDE EQ'
      rw [if_neg (by simp)] at HDE
      rw [HDE.eq, if_neg (by omega)] at HDN
      clear hq H1
      go_wp2_with (first | (go_at_call 22; refine (show Calls _ _ _ _ _ from EQ'.out).mono ?_; rintro e wq ⟨rfl, hBq⟩; have HSq : Hid (Below (g + 1) w1 wq) := hold_call HS6.out hl1 hBq; have HRZq : Is (wq.heap[g]?) (some (.cells Z 55 (0, 0))) := ⟨HRz.out _ HSq.out⟩; clear hBq) | (refine build_none rfl 55 rfl Z HB00.out ?_) | (refine wpList_store_row rfl 55 (.tmp 2) (.tmp 27) rfl g Z rfl rfl 55 Z HRZq.eq (by rw [size55, HZ.eq]) (by rw [HZ.eq]) H10.out ?_))
      refine bodyPost_ret (res_ct rfl _ _ g 55 Z _ rfl (setRow_heap wq g _ _ _ _ HRZq.eq) Tryd.underlying55 rfl (by rw [size55, HZ.eq])) rfl ?_
      exact ⟨by rw [HDE.eq, HDN.eq, HCz.eq]; rfl, by rw [HG.eq]; exact below_setRow (HG.eq ▸ HBb.out _ HSq.out) (Nat.le_refl _) _⟩
  · rw [h0] at HDE ⊢
    clear h0
    rw [if_neg (fun h => by cases h.1)] at HDE
    rw [HDE.eq, if_neg (by omega)] at HDN
    clear H1 EQ HFe HF6 HL0
    go_wp2_with (first | (refine build_none rfl 55 rfl Z HB00.out ?_) | (refine wpList_store_row rfl 55 (.tmp 2) (.tmp 27) rfl g Z rfl rfl 55 Z HRZ6.eq (by rw [size55, HZ.eq]) (by rw [HZ.eq]) H10.out ?_))
    refine bodyPost_ret (res_ct rfl _ _ g 55 Z _ rfl (setRow_heap w6 g _ _ _ _ HRZ6.eq) Tryd.underlying55 rfl (by rw [size55, HZ.eq])) rfl ?_
    exact ⟨by rw [HDE.eq, HDN.eq, HCz.eq]; rfl, by rw [HG.eq]; exact below_setRow (HG.eq ▸ HBb.out _ HS6.out) (Nat.le_refl _) _⟩
end Go.Proofs.YtealbeblkilibaaDoor
