/- Proved: EncodeArch answers the record of what is archived, or refuses. -/
import Derived.Test.YtealbeblkilibaaDoorK01
import Derived.Test.YtealbeblkilibaaDoorJ10
import Derived.Lib.LazyBuf
import Derived.Laws.CopyOwn
namespace Go.Proofs.YtealbeblkilibaaDoor
open Go.RowKit
open Ino (Nd Ar)
open FI (Fv fv0 fcells putV In64)
set_option maxHeartbeats 2000000 in
set_option maxRecDepth 20000 in
theorem encodeA_any (a : Ar) (w : World) (ha : ArIn a) : Calls Tryd.prog 23 #[.agg (arc a)] w fun e w' => ∃ v, e = .returned (.tuple #[v, .int .i64 (Ino.chkA a : Nat)]) ∧ w'.ownsRow w.heap.size 79 4 v (encA a).length ((encA a).flatMap fcells) ∧ Below w.heap.size w w' := by
  have HI : Is (encA a) (if Ino.chkA a = 0 then Ino.recA a else []) := ⟨rfl⟩
  have HCh : Is (Ino.chkA a) (if Ino.okA a = true then 0 else 2) := ⟨rfl⟩
  have hr0 : (w.alloc (.cells (arc a) 55)).heap[w.heap.size]? = some (.cells (arc a) 55 (0, 0)) := heap_alloc_new w _
  have hA := ar_at hr0
  have HB1 : Hid (Below w.heap.size w (w.alloc (.cells (arc a) 55))) := (Below.refl _ w).alloc (Nat.le_refl _) _
  have HC : Hid (∀ W : World, Calls Tryd.prog 52 #[.agg (arc a)] W fun e w' => e = .returned (.bool (Ino.okA a)) ∧ Below W.heap.size W w') := fun W => mayArch_any a W
  have HZ : Is (arc a).size 34 := ⟨arc_size ha.sum⟩
  have HLn : Is (a.sum.map c8).length 32 := ⟨by rw [List.length_map, ha.sum]⟩
  have HR : Is ((w.alloc (.cells (arc a) 55)).heap[w.heap.size]?) (some (.cells (arc a) 55 (0, 0))) := ⟨hr0⟩
  have HRP : Is _ _ := ⟨Ino.recA_put a⟩
  go_enter Tryd.func23, Tryd.ntmps23
  go_upto_region 1 with fail
  have hz1 : w.heap.size + 1 ≤ (w.alloc (.cells (arc a) 55)).heap.size := by simp
  generalize hw1 : w.alloc (.cells (arc a) 55) = w1 at *
  obtain ⟨g, hg⟩ : ∃ g, w.heap.size = g := ⟨_, rfl⟩
  have HGg : Is w.heap.size g := ⟨hg⟩
  rw [hg] at hA HR hz1
  have HNd : Hid (∀ W : World, Below (g + 1) w1 W → ArAt W g a) := fun W h => hA.below h (by omega)
  have HBb : Hid (∀ W : World, Below (g + 1) w1 W → Below w.heap.size w W) := fun W h => HB1.out.trans (h.mono (by omega))
  have HK0 : Hid (∀ W : World, Below (g + 1) w1 W → W.cell? ⟨g, 0, none⟩ = some (.int .i64 a.version)) := fun W h => (HNd.out W h).version
  have HK1 : Hid (∀ W : World, Below (g + 1) w1 W → W.cell? ⟨g, 1, none⟩ = some (.int .i64 a.size)) := fun W h => (HNd.out W h).size
  have HCS : Hid (∀ W : World, Below (g + 1) w1 W → W.rangeAt g 2 (a.sum.map c8)) := fun W h => (HNd.out W h).sum
  rw [hg]
  clear hr0 hA HB1 hw1 hg HNd
  have PS : Hid (∀ (r : Nat) (fs : List Fv) (W : World), RecAt W r fs → Fit fs → fs.length ≤ 100 → Calls Tryd.prog 42 #[.pointer (some ⟨r, 0, none⟩), .agg (a.sum.map c8).toArray] W fun e w' => e = .returned (.tuple #[]) ∧ RecAt w' r (putV fs ⟨3, 1, 0, mk a.sum⟩) ∧ Below r W w') := fun r fs W h1 h2 h3 => putSum_any r a.sum fs W h1 h2 h3 ha.sum
  generalize arc a = A at *
  generalize a.sum.map c8 = cs at *
  go_wp2_with (first | (refine load_met (by rfl) 55 _ rfl _ rfl 55 A (0, 0) _ HR.eq Tryd.underlying55 rfl (by rw [size55, HZ.eq]) ?_))
  refine (HC.out _).mono ?_
  rintro e w2 ⟨rfl, hB2⟩
  have HS2 : Hid (Below (g + 1) w1 w2) := hB2.mono hz1
  have hz2 : g + 1 ≤ w2.heap.size := Nat.le_trans hz1 hB2.size
  clear hB2 HR HC
  cases h0 : Ino.okA a with
  | true =>
    rw [h0, if_pos rfl] at HCh
    rw [HCh.eq, if_pos rfl] at HI
    clear h0
    have HR3 : Hid (RecAt (w2.alloc (.cells #[.slice none 0 0] 80)) w2.heap.size []) := rec_new w2
    have HS3 : Hid (Below (g + 1) w1 (w2.alloc (.cells #[.slice none 0 0] 80))) := HS2.out.trans ((Below.refl _ w2).alloc hz2 _)
    have HG3 : Hid (RecGood [] 0) := RecGood.nil
    go_upto_region 4 with fail
    generalize w2.alloc (.cells #[.slice none 0 0] 80) = w3 at *
    generalize w2.heap.size = r at *
    have hgr : g + 1 ≤ r := hz2
    have k4 := HK1.out _ HS3.out
    go_wp2_with fail
    refine (putNum_any r 2 a.size _ w3 HR3.out HG3.out.fit (Nat.le_trans HG3.out.len (by omega))).mono ?_
    rintro e w4 ⟨rfl, hR4, hB4⟩
    have HR4 : Hid (RecAt w4 r (Ino.putN (([] : List Fv)) 2 a.size)) := hR4
    have HS4 : Hid (Below (g + 1) w1 w4) := HS3.out.trans (hB4.mono hgr)
    have HG4 : Hid (RecGood (Ino.putN (([] : List Fv)) 2 a.size) 1) := HG3.out.num 2 a.size (by omega) (by omega) ha.size
    clear hR4 hB4 HR3 k4
    have HSr : w4.rangeAt g 2 cs := HCS.out _ HS4.out
    go_wp2_with (first | (refine load_met_mid (by rfl) 37 _ rfl _ 2 rfl cs _ HSr Tryd.underlying37 rfl (by rw [size37, HLn.eq]) ?_))
    refine (PS.out r _ w4 HR4.out HG4.out.fit (Nat.le_trans HG4.out.len (by omega))).mono ?_
    rintro e w5 ⟨rfl, hR5, hB5⟩
    have HR5 : Hid (RecAt w5 r (putV (Ino.putN (([] : List Fv)) 2 a.size) ⟨3, 1, 0, mk a.sum⟩)) := hR5
    have HS5 : Hid (Below (g + 1) w1 w5) := HS4.out.trans (hB5.mono hgr)
    have HG5 : Hid (RecGood (putV (Ino.putN (([] : List Fv)) 2 a.size) ⟨3, 1, 0, mk a.sum⟩) 2) := HG4.out.sum ha.sum
    clear hR5 hB5 HR4 HSr
    have k6 := HK0.out _ HS5.out
    go_wp2_with fail
    refine (putNum_any r 5 a.version _ w5 HR5.out HG5.out.fit (Nat.le_trans HG5.out.len (by omega))).mono ?_
    rintro e w6 ⟨rfl, hR6, hB6⟩
    have HR6 : Hid (RecAt w6 r (Ino.putN (putV (Ino.putN (([] : List Fv)) 2 a.size) ⟨3, 1, 0, mk a.sum⟩) 5 a.version)) := hR6
    have HS6 : Hid (Below (g + 1) w1 w6) := HS5.out.trans (hB6.mono hgr)
    have HG6 : Hid (RecGood (Ino.putN (putV (Ino.putN (([] : List Fv)) 2 a.size) ⟨3, 1, 0, mk a.sum⟩) 5 a.version) 3) := HG5.out.num 5 a.version (by omega) (by omega) ha.version
    clear hR6 hB6 HR5 k6
    have HE : Is (Ino.putN (putV (Ino.putN (([] : List Fv)) 2 a.size) ⟨3, 1, 0, mk a.sum⟩) 5 a.version) (Ino.recA a) := ⟨HRP.eq⟩
    rw [HE.eq] at HR6
    obtain ⟨ad, cp, hcl, how⟩ := rec_slice HR6.out
    have HO : Hid (w6.ownsRow w.heap.size 79 4 (.slice ad (Ino.recA a).length cp) (Ino.recA a).length ((Ino.recA a).flatMap fcells)) := own_mono how (by rw [HGg.eq]; omega)
    have HBf : Hid (Below w.heap.size w w6) := HBb.out _ HS6.out
    clear how HE HR6
    go_wp2_with fail
    go_ret2
    exact ⟨_, by rw [HCh.eq]; rfl, by rw [HI.eq]; exact HO.out, HBf.out⟩
  | false =>
    rw [h0, if_neg (by simp)] at HCh
    rw [HCh.eq, if_neg (by omega)] at HI
    clear h0
    go_wp2_with fail
    go_ret2
    exact ⟨_, by rw [HCh.eq]; rfl, by rw [HI.eq]; exact own_noF _ _, HBb.out _ HS2.out⟩
end Go.Proofs.YtealbeblkilibaaDoor
/- Proved: the document's Encode and EncodeArch answer as the program's. -/
namespace Go.Proofs.YtealbeblkilibaaDoor
open Go.RowKit
open Ino (Nd Ar)
open FI (Fv fv0 fcells In64 heldTake heldOne)
theorem numF_len (tag n : Int) : (Ino.numF tag n).length ≤ 1 := by unfold Ino.numF; split <;> simp
theorem sumF_len (d : List UInt8) : (Ino.sumF d).length = 1 := rfl
theorem recN_file {n : Nd} (h : n.kind = 2) : Ino.recN n = Ino.numF 1 n.kind ++ Ino.numF 2 n.size ++ Ino.sumF n.sum ++ Ino.numF 4 n.content ++ Ino.numF 5 n.version ++ Ino.numF 6 n.opened := by
  unfold Ino.recN; rw [if_pos h]
theorem recN_other {n : Nd} (h : n.kind ≠ 2) : Ino.recN n = Ino.numF 1 n.kind ++ Ino.numF 2 n.size ++ Ino.numF 4 n.content ++ Ino.numF 5 n.version ++ Ino.numF 6 n.opened := by
  unfold Ino.recN; rw [if_neg h, List.append_nil]
set_option maxHeartbeats 4000000 in
set_option maxRecDepth 20000 in
theorem rencode_any (n : Nd) (w : World) (hn : NdIn n) : Calls Tryd.prog 17 #[.agg (ndc n)] w fun e w' => ∃ v, e = .returned (.tuple #[v, .int .i64 (Ino.chk n : Nat)]) ∧ w'.ownsRow w.heap.size 79 4 v (encL n).length ((encL n).flatMap fcells) ∧ Below w.heap.size w w' := by
  have HI : Is (encL n) (if Ino.chk n = 0 then Ino.recN n else []) := ⟨rfl⟩
  have hr0 : (w.alloc (.cells (ndc n) 39)).heap[w.heap.size]? = some (.cells (ndc n) 39 (0, 0)) := heap_alloc_new w _
  have hA := nd_at hn.sum hr0
  have HB1 : Hid (Below w.heap.size w (w.alloc (.cells (ndc n) 39))) := (Below.refl _ w).alloc (Nat.le_refl _) _
  have HC : Hid (∀ W : World, Calls Tryd.prog 21 #[.agg (ndc n)] W fun e w' => e = .returned (.int .i64 (Ino.chk n : Nat)) ∧ Below W.heap.size W w') := fun W => rcheck_any n W hn.sum
  have HZ : Is (ndc n).size 37 := ⟨ndc_size hn.sum⟩
  have HLn : Is (n.sum.map c8).length 32 := ⟨by rw [List.length_map, hn.sum]⟩
  have HR : Is ((w.alloc (.cells (ndc n) 39)).heap[w.heap.size]?) (some (.cells (ndc n) 39 (0, 0))) := ⟨hr0⟩
  go_enter Tryd.func17, Tryd.ntmps17
  go_upto_region 1 with fail
  have hz1 : w.heap.size + 1 ≤ (w.alloc (.cells (ndc n) 39)).heap.size := by simp
  generalize hw1 : w.alloc (.cells (ndc n) 39) = w1 at *
  obtain ⟨g, hg⟩ : ∃ g, w.heap.size = g := ⟨_, rfl⟩
  have HGg : Is w.heap.size g := ⟨hg⟩
  rw [hg] at hA HR hz1
  have HNd : Hid (∀ W : World, Below (g + 1) w1 W → NdAt W g n) := fun W h => hA.below h (by omega)
  have HBb : Hid (∀ W : World, Below (g + 1) w1 W → Below w.heap.size w W) := fun W h => HB1.out.trans (h.mono (by omega))
  have HK0 : Hid (∀ W : World, Below (g + 1) w1 W → W.cell? ⟨g, 0, none⟩ = some (.int .i64 n.kind)) := fun W h => (HNd.out W h).kind
  have HK1 : Hid (∀ W : World, Below (g + 1) w1 W → W.cell? ⟨g, 1, none⟩ = some (.int .i64 n.size)) := fun W h => (HNd.out W h).size
  have HK3 : Hid (∀ W : World, Below (g + 1) w1 W → W.cell? ⟨g, 34, none⟩ = some (.int .i64 n.content)) := fun W h => (HNd.out W h).content
  have HK4 : Hid (∀ W : World, Below (g + 1) w1 W → W.cell? ⟨g, 35, none⟩ = some (.int .i64 n.version)) := fun W h => (HNd.out W h).version
  have HK5 : Hid (∀ W : World, Below (g + 1) w1 W → W.cell? ⟨g, 36, none⟩ = some (.int .i64 n.opened)) := fun W h => (HNd.out W h).opened
  have HCS : Hid (∀ W : World, Below (g + 1) w1 W → W.rangeAt g 2 (n.sum.map c8)) := fun W h => (HNd.out W h).sum
  have DG : Hid (∀ W : World, Calls Tryd.prog 44 #[.agg (n.sum.map c8).toArray] W fun e w' => ∃ v, e = .returned v ∧ w'.ownsRow W.heap.size 79 4 v (Ino.sumF n.sum).length ((Ino.sumF n.sum).flatMap fcells) ∧ Below W.heap.size W w') := fun W => digest_any n.sum W hn.sum
  rw [hg]
  clear hr0 hA HB1 hw1 hg HNd
  generalize ndc n = C at *
  generalize n.sum.map c8 = cs at *
  go_wp2_with (first | (refine load_met (by rfl) 39 _ rfl _ rfl 39 C (0, 0) _ HR.eq Tryd.underlying39 rfl (by rw [size39, HZ.eq]) ?_))
  refine (HC.out _).mono ?_
  rintro e w2 ⟨rfl, hB2⟩
  have HS2 : Hid (Below (g + 1) w1 w2) := hB2.mono hz1
  have hz2 : g + 1 ≤ w2.heap.size := Nat.le_trans hz1 hB2.size
  clear hB2 HR HC
  rcases Ino.chk_le n with h0 | h0
  · rw [h0, if_pos rfl] at HI
    have HCh : Is (Ino.chk n) 0 := ⟨h0⟩
    rw [h0]
    clear h0
    go_upto_region 4 with fail
    have HSd : Hid (Below (g + 1) w1 w2.drew) := HS2.out.drew
    have hzd : g + 1 ≤ w2.drew.heap.size := hz2
    refine wp_region_held_drew (S := fun W => Below (g + 1) w1 W) (by kernel_rfl) HSd.out (fun _ => ?_)
    generalize w2.drew = w3 at *
    refine heldTake 0 (some 11) (.pointer (some ⟨g, 0, none⟩)) rfl rfl (by kernel_rfl) (by kernel_rfl) (by kernel_rfl) (fun _ _ _ h => h) (Or.inl ⟨by rfl, fun w hS => ?_⟩) HSd.out ?_
    · (go_simp)
    simp only [Act.put, List.setIfInBounds_toArray, List.set_cons_zero, List.set_cons_succ]
    refine heldTake 1 (some 12) (.int .i64 n.kind) rfl rfl (by kernel_rfl) (by kernel_rfl) (by kernel_rfl) (fun _ _ _ h => h) (Or.inl ⟨by rfl, fun w hS => ?_⟩) HSd.out ?_
    · (have c := HK0.out w hS; go_simp)
    simp only [Act.put, List.setIfInBounds_toArray, List.set_cons_zero, List.set_cons_succ]
    refine heldTake 3 (some 14) (.pointer (some ⟨g, 1, none⟩)) rfl rfl (by kernel_rfl) (by kernel_rfl) (by kernel_rfl) (fun _ _ _ h => h) (Or.inl ⟨by rfl, fun w hS => ?_⟩) HSd.out ?_
    · (go_simp)
    simp only [Act.put, List.setIfInBounds_toArray, List.set_cons_zero, List.set_cons_succ]
    refine heldTake 4 (some 15) (.int .i64 n.size) rfl rfl (by kernel_rfl) (by kernel_rfl) (by kernel_rfl) (fun _ _ _ h => h) (Or.inl ⟨by rfl, fun w hS => ?_⟩) HSd.out ?_
    · (have c := HK1.out w hS; go_simp)
    simp only [Act.put, List.setIfInBounds_toArray, List.set_cons_zero, List.set_cons_succ]
    refine heldOne 2 (by kernel_rfl) rfl (by rfl) (fun KK hK => ?_)
    go_simp
    go_at_call 43
    refine (number_any 1 n.kind w3).mono ?_
    rintro e w4 ⟨v4, rfl, ho4, hB4⟩
    have HS4 : Hid (Below (g + 1) w1 w4) := hold_call HSd.out hz1 hB4
    have HO4 : Hid (w4.ownsRow (g + 1) 79 4 v4 (Ino.numF 1 n.kind).length ((Ino.numF 1 n.kind).flatMap fcells)) := own_mono ho4 hzd
    have hz4 : g + 1 ≤ w4.heap.size := Nat.le_trans hzd hB4.size
    clear ho4 hB4
    refine hK.out _ _ HS4.out ?_
    clear hK KK
    try simp only [Act.put, List.setIfInBounds_toArray, List.set_cons_zero, List.set_cons_succ]
    refine heldOne 5 (by kernel_rfl) rfl (by rfl) (fun KK hK => ?_)
    go_simp
    go_at_call 43
    refine (number_any 2 n.size w4).mono ?_
    rintro e w5 ⟨v5, rfl, ho5, hB5⟩
    have HS5 : Hid (Below (g + 1) w1 w5) := hold_call HS4.out hz1 hB5
    have HO5 : Hid (w5.ownsRow (g + 1) 79 4 v4 (Ino.numF 1 n.kind).length ((Ino.numF 1 n.kind).flatMap fcells)) := own_below HO4.out hB5
    have HY5 : Hid (w5.ownsRow w4.heap.size 79 4 v5 (Ino.numF 2 n.size).length ((Ino.numF 2 n.size).flatMap fcells)) := ho5
    have hz5 : g + 1 ≤ w5.heap.size := Nat.le_trans hz4 hB5.size
    clear ho5 hB5 HO4
    refine hK.out _ _ HS5.out ?_
    clear hK KK
    try simp only [Act.put, List.setIfInBounds_toArray, List.set_cons_zero, List.set_cons_succ]
    obtain ⟨v6, w6, hr6, hO6, hB6⟩ := run_app_f 40 HO5.out HY5.out (by have := numF_len 1 n.kind; have := numF_len 2 n.size; omega) hz5
    refine heldOne 6 (by kernel_rfl) rfl (by rfl) (fun KK hK => ?_)
    have HS6 : Hid (Below (g + 1) w1 w6) := HS5.out.trans hB6
    have HO6 : Hid (w6.ownsRow (g + 1) 79 4 v6 (Ino.numF 1 n.kind ++ Ino.numF 2 n.size).length ((Ino.numF 1 n.kind ++ Ino.numF 2 n.size).flatMap fcells)) := hO6
    have hz6 : g + 1 ≤ w6.heap.size := Nat.le_trans hz5 hB6.size
    have HLen6 : Hid ((Ino.numF 1 n.kind ++ Ino.numF 2 n.size).length ≤ 100) := (by show _ ≤ _; rw [List.length_append]; have := numF_len 1 n.kind; have := numF_len 2 n.size; omega)
    clear hO6 hB6 HO5 HY5
    refine op_append 17 (s := .tmp 13) (x := .tmp 16) rfl rfl rfl hr6 rfl ?_
    refine hK.out _ _ HS6.out ?_
    clear hK KK hr6
    try simp only [Act.put, List.setIfInBounds_toArray, List.set_cons_zero, List.set_cons_succ]
    refine heldTake 7 (some 5) (v6) rfl rfl (by kernel_rfl) (by kernel_rfl) (by kernel_rfl) (fun _ _ _ h => h) (Or.inl ⟨by rfl, fun w hS => ?_⟩) HS6.out ?_
    · (go_simp)
    simp only [Act.put, List.setIfInBounds_toArray, List.set_cons_zero, List.set_cons_succ]
    refine wpAnyH_done (by kernel_rfl) ?_ _
    have k6 := HK0.out _ HS6.out
    by_cases hk : n.kind = 2
    · have HRC := (⟨recN_file hk⟩ : Is _ _)
      rw [hk] at k6
      have HKn : Is n.kind 2 := ⟨hk⟩
      clear hk
      have HSr : w6.rangeAt g 2 cs := HCS.out _ HS6.out
      go_wp2_with (first | (refine load_met_mid (by rfl) 37 _ rfl _ 2 rfl cs _ HSr Tryd.underlying37 rfl (by rw [size37, HLn.eq]) ?_))
      refine (DG.out w6).mono ?_
      rintro e w7 ⟨y7, rfl, hy7, hB7⟩
      have HY7 : Hid (w7.ownsRow w6.heap.size 79 4 y7 (Ino.sumF n.sum).length ((Ino.sumF n.sum).flatMap fcells)) := hy7
      have HO7 : Hid (w7.ownsRow (g + 1) 79 4 v6 (Ino.numF 1 n.kind ++ Ino.numF 2 n.size).length ((Ino.numF 1 n.kind ++ Ino.numF 2 n.size).flatMap fcells)) := own_below HO6.out hB7
      have HS7 : Hid (Below (g + 1) w1 w7) := hold_call HS6.out hz1 hB7
      have hz7 : g + 1 ≤ w7.heap.size := Nat.le_trans hz6 hB7.size
      clear hy7 hB7 HO6 HSr
      go_wp2_with (first | (at_builtin; refine append_two rfl (.tmp 21) (.tmp 24) rfl _ (g + 1) w6.heap.size _ _ (Ino.numF 1 n.kind ++ Ino.numF 2 n.size) (Ino.sumF n.sum) rfl rfl HO7.out HY7.out (by have := HLen6.out; have := numF_len 3 (0); have := sumF_len n.sum; omega) hz7 ?_; intro v8 w8 hO8 hB8; have HO8 : Hid (w8.ownsRow (g + 1) 79 4 v8 (Ino.numF 1 n.kind ++ Ino.numF 2 n.size ++ Ino.sumF n.sum).length ((Ino.numF 1 n.kind ++ Ino.numF 2 n.size ++ Ino.sumF n.sum).flatMap fcells)) := hO8; have HS8 : Hid (Below (g + 1) w1 w8) := HS7.out.trans hB8; have hz8 : g + 1 ≤ w8.heap.size := Nat.le_trans hz7 hB8.size; have HLen8 : Hid ((Ino.numF 1 n.kind ++ Ino.numF 2 n.size ++ Ino.sumF n.sum).length ≤ 107) := (by show _ ≤ _; rw [List.length_append]; have := HLen6.out; have := numF_len 3 (0); have := sumF_len n.sum; omega); clear hO8 hB8 HO7 HY7 HLen6; have k8 := HK3.out _ HS8.out))
      refine (number_any 4 n.content w8).mono ?_
      rintro e w9 ⟨y9, rfl, hy9, hB9⟩
      have HY9 : Hid (w9.ownsRow w8.heap.size 79 4 y9 (Ino.numF 4 n.content).length ((Ino.numF 4 n.content).flatMap fcells)) := hy9
      have HO9 : Hid (w9.ownsRow (g + 1) 79 4 v8 (Ino.numF 1 n.kind ++ Ino.numF 2 n.size ++ Ino.sumF n.sum).length ((Ino.numF 1 n.kind ++ Ino.numF 2 n.size ++ Ino.sumF n.sum).flatMap fcells)) := own_below HO8.out hB9
      have HS9 : Hid (Below (g + 1) w1 w9) := hold_call HS8.out hz1 hB9
      have hz9 : g + 1 ≤ w9.heap.size := Nat.le_trans hz8 hB9.size
      clear hy9 hB9 HO8 k8
      go_wp2_with (first | (at_builtin; refine append_two rfl (.tmp 26) (.tmp 29) rfl _ (g + 1) w8.heap.size _ _ (Ino.numF 1 n.kind ++ Ino.numF 2 n.size ++ Ino.sumF n.sum) (Ino.numF 4 n.content) rfl rfl HO9.out HY9.out (by have := HLen8.out; have := numF_len 4 (n.content); have := sumF_len n.sum; omega) hz9 ?_; intro v10 w10 hO10 hB10; have HO10 : Hid (w10.ownsRow (g + 1) 79 4 v10 (Ino.numF 1 n.kind ++ Ino.numF 2 n.size ++ Ino.sumF n.sum ++ Ino.numF 4 n.content).length ((Ino.numF 1 n.kind ++ Ino.numF 2 n.size ++ Ino.sumF n.sum ++ Ino.numF 4 n.content).flatMap fcells)) := hO10; have HS10 : Hid (Below (g + 1) w1 w10) := HS9.out.trans hB10; have hz10 : g + 1 ≤ w10.heap.size := Nat.le_trans hz9 hB10.size; have HLen10 : Hid ((Ino.numF 1 n.kind ++ Ino.numF 2 n.size ++ Ino.sumF n.sum ++ Ino.numF 4 n.content).length ≤ 109) := (by show _ ≤ _; rw [List.length_append]; have := HLen8.out; have := numF_len 4 (n.content); have := sumF_len n.sum; omega); clear hO10 hB10 HO9 HY9 HLen8; have k10 := HK4.out _ HS10.out))
      refine (number_any 5 n.version w10).mono ?_
      rintro e w11 ⟨y11, rfl, hy11, hB11⟩
      have HY11 : Hid (w11.ownsRow w10.heap.size 79 4 y11 (Ino.numF 5 n.version).length ((Ino.numF 5 n.version).flatMap fcells)) := hy11
      have HO11 : Hid (w11.ownsRow (g + 1) 79 4 v10 (Ino.numF 1 n.kind ++ Ino.numF 2 n.size ++ Ino.sumF n.sum ++ Ino.numF 4 n.content).length ((Ino.numF 1 n.kind ++ Ino.numF 2 n.size ++ Ino.sumF n.sum ++ Ino.numF 4 n.content).flatMap fcells)) := own_below HO10.out hB11
      have HS11 : Hid (Below (g + 1) w1 w11) := hold_call HS10.out hz1 hB11
      have hz11 : g + 1 ≤ w11.heap.size := Nat.le_trans hz10 hB11.size
      clear hy11 hB11 HO10 k10
      go_wp2_with (first | (at_builtin; refine append_two rfl (.tmp 31) (.tmp 34) rfl _ (g + 1) w10.heap.size _ _ (Ino.numF 1 n.kind ++ Ino.numF 2 n.size ++ Ino.sumF n.sum ++ Ino.numF 4 n.content) (Ino.numF 5 n.version) rfl rfl HO11.out HY11.out (by have := HLen10.out; have := numF_len 5 (n.version); have := sumF_len n.sum; omega) hz11 ?_; intro v12 w12 hO12 hB12; have HO12 : Hid (w12.ownsRow (g + 1) 79 4 v12 (Ino.numF 1 n.kind ++ Ino.numF 2 n.size ++ Ino.sumF n.sum ++ Ino.numF 4 n.content ++ Ino.numF 5 n.version).length ((Ino.numF 1 n.kind ++ Ino.numF 2 n.size ++ Ino.sumF n.sum ++ Ino.numF 4 n.content ++ Ino.numF 5 n.version).flatMap fcells)) := hO12; have HS12 : Hid (Below (g + 1) w1 w12) := HS11.out.trans hB12; have hz12 : g + 1 ≤ w12.heap.size := Nat.le_trans hz11 hB12.size; have HLen12 : Hid ((Ino.numF 1 n.kind ++ Ino.numF 2 n.size ++ Ino.sumF n.sum ++ Ino.numF 4 n.content ++ Ino.numF 5 n.version).length ≤ 111) := (by show _ ≤ _; rw [List.length_append]; have := HLen10.out; have := numF_len 5 (n.version); have := sumF_len n.sum; omega); clear hO12 hB12 HO11 HY11 HLen10; have k12 := HK5.out _ HS12.out))
      refine (number_any 6 n.opened w12).mono ?_
      rintro e w13 ⟨y13, rfl, hy13, hB13⟩
      have HY13 : Hid (w13.ownsRow w12.heap.size 79 4 y13 (Ino.numF 6 n.opened).length ((Ino.numF 6 n.opened).flatMap fcells)) := hy13
      have HO13 : Hid (w13.ownsRow (g + 1) 79 4 v12 (Ino.numF 1 n.kind ++ Ino.numF 2 n.size ++ Ino.sumF n.sum ++ Ino.numF 4 n.content ++ Ino.numF 5 n.version).length ((Ino.numF 1 n.kind ++ Ino.numF 2 n.size ++ Ino.sumF n.sum ++ Ino.numF 4 n.content ++ Ino.numF 5 n.version).flatMap fcells)) := own_below HO12.out hB13
      have HS13 : Hid (Below (g + 1) w1 w13) := hold_call HS12.out hz1 hB13
      have hz13 : g + 1 ≤ w13.heap.size := Nat.le_trans hz12 hB13.size
      clear hy13 hB13 HO12 k12
      go_wp2_with (first | (at_builtin; refine append_two rfl (.tmp 36) (.tmp 39) rfl _ (g + 1) w12.heap.size _ _ (Ino.numF 1 n.kind ++ Ino.numF 2 n.size ++ Ino.sumF n.sum ++ Ino.numF 4 n.content ++ Ino.numF 5 n.version) (Ino.numF 6 n.opened) rfl rfl HO13.out HY13.out (by have := HLen12.out; have := numF_len 6 (n.opened); have := sumF_len n.sum; omega) hz13 ?_; intro v14 w14 hO14 hB14; have HO14 : Hid (w14.ownsRow (g + 1) 79 4 v14 (Ino.numF 1 n.kind ++ Ino.numF 2 n.size ++ Ino.sumF n.sum ++ Ino.numF 4 n.content ++ Ino.numF 5 n.version ++ Ino.numF 6 n.opened).length ((Ino.numF 1 n.kind ++ Ino.numF 2 n.size ++ Ino.sumF n.sum ++ Ino.numF 4 n.content ++ Ino.numF 5 n.version ++ Ino.numF 6 n.opened).flatMap fcells)) := hO14; have HS14 : Hid (Below (g + 1) w1 w14) := HS13.out.trans hB14; have hz14 : g + 1 ≤ w14.heap.size := Nat.le_trans hz13 hB14.size; have HLen14 : Hid ((Ino.numF 1 n.kind ++ Ino.numF 2 n.size ++ Ino.sumF n.sum ++ Ino.numF 4 n.content ++ Ino.numF 5 n.version ++ Ino.numF 6 n.opened).length ≤ 113) := (by show _ ≤ _; rw [List.length_append]; have := HLen12.out; have := numF_len 6 (n.opened); have := sumF_len n.sum; omega); clear hO14 hB14 HO13 HY13 HLen12))
      go_ret2
      refine ⟨_, by rw [HCh.eq]; rfl, ?_, HBb.out _ HS14.out⟩
      rw [HI.eq, HRC.eq, HGg.eq]
      exact own_mono HO14.out (by omega)
    · have HRC := (⟨recN_other hk⟩ : Is _ _)
      have hk' : (n.kind == 2) = false := by simpa using hk
      clear hk
      have k6 := HK3.out _ HS6.out
      go_wp2_with fail
      refine (number_any 4 n.content w6).mono ?_
      rintro e w7 ⟨y7, rfl, hy7, hB7⟩
      have HY7 : Hid (w7.ownsRow w6.heap.size 79 4 y7 (Ino.numF 4 n.content).length ((Ino.numF 4 n.content).flatMap fcells)) := hy7
      have HO7 : Hid (w7.ownsRow (g + 1) 79 4 v6 (Ino.numF 1 n.kind ++ Ino.numF 2 n.size).length ((Ino.numF 1 n.kind ++ Ino.numF 2 n.size).flatMap fcells)) := own_below HO6.out hB7
      have HS7 : Hid (Below (g + 1) w1 w7) := hold_call HS6.out hz1 hB7
      have hz7 : g + 1 ≤ w7.heap.size := Nat.le_trans hz6 hB7.size
      clear hy7 hB7 HO6 k6
      go_wp2_with (first | (at_builtin; refine append_two rfl (.tmp 26) (.tmp 29) rfl _ (g + 1) w6.heap.size _ _ (Ino.numF 1 n.kind ++ Ino.numF 2 n.size) (Ino.numF 4 n.content) rfl rfl HO7.out HY7.out (by have := HLen6.out; have := numF_len 4 (n.content); have := sumF_len n.sum; omega) hz7 ?_; intro v8 w8 hO8 hB8; have HO8 : Hid (w8.ownsRow (g + 1) 79 4 v8 (Ino.numF 1 n.kind ++ Ino.numF 2 n.size ++ Ino.numF 4 n.content).length ((Ino.numF 1 n.kind ++ Ino.numF 2 n.size ++ Ino.numF 4 n.content).flatMap fcells)) := hO8; have HS8 : Hid (Below (g + 1) w1 w8) := HS7.out.trans hB8; have hz8 : g + 1 ≤ w8.heap.size := Nat.le_trans hz7 hB8.size; have HLen8 : Hid ((Ino.numF 1 n.kind ++ Ino.numF 2 n.size ++ Ino.numF 4 n.content).length ≤ 107) := (by show _ ≤ _; rw [List.length_append]; have := HLen6.out; have := numF_len 4 (n.content); have := sumF_len n.sum; omega); clear hO8 hB8 HO7 HY7 HLen6; have k8 := HK4.out _ HS8.out))
      refine (number_any 5 n.version w8).mono ?_
      rintro e w9 ⟨y9, rfl, hy9, hB9⟩
      have HY9 : Hid (w9.ownsRow w8.heap.size 79 4 y9 (Ino.numF 5 n.version).length ((Ino.numF 5 n.version).flatMap fcells)) := hy9
      have HO9 : Hid (w9.ownsRow (g + 1) 79 4 v8 (Ino.numF 1 n.kind ++ Ino.numF 2 n.size ++ Ino.numF 4 n.content).length ((Ino.numF 1 n.kind ++ Ino.numF 2 n.size ++ Ino.numF 4 n.content).flatMap fcells)) := own_below HO8.out hB9
      have HS9 : Hid (Below (g + 1) w1 w9) := hold_call HS8.out hz1 hB9
      have hz9 : g + 1 ≤ w9.heap.size := Nat.le_trans hz8 hB9.size
      clear hy9 hB9 HO8 k8
      go_wp2_with (first | (at_builtin; refine append_two rfl (.tmp 31) (.tmp 34) rfl _ (g + 1) w8.heap.size _ _ (Ino.numF 1 n.kind ++ Ino.numF 2 n.size ++ Ino.numF 4 n.content) (Ino.numF 5 n.version) rfl rfl HO9.out HY9.out (by have := HLen8.out; have := numF_len 5 (n.version); have := sumF_len n.sum; omega) hz9 ?_; intro v10 w10 hO10 hB10; have HO10 : Hid (w10.ownsRow (g + 1) 79 4 v10 (Ino.numF 1 n.kind ++ Ino.numF 2 n.size ++ Ino.numF 4 n.content ++ Ino.numF 5 n.version).length ((Ino.numF 1 n.kind ++ Ino.numF 2 n.size ++ Ino.numF 4 n.content ++ Ino.numF 5 n.version).flatMap fcells)) := hO10; have HS10 : Hid (Below (g + 1) w1 w10) := HS9.out.trans hB10; have hz10 : g + 1 ≤ w10.heap.size := Nat.le_trans hz9 hB10.size; have HLen10 : Hid ((Ino.numF 1 n.kind ++ Ino.numF 2 n.size ++ Ino.numF 4 n.content ++ Ino.numF 5 n.version).length ≤ 109) := (by show _ ≤ _; rw [List.length_append]; have := HLen8.out; have := numF_len 5 (n.version); have := sumF_len n.sum; omega); clear hO10 hB10 HO9 HY9 HLen8; have k10 := HK5.out _ HS10.out))
      refine (number_any 6 n.opened w10).mono ?_
      rintro e w11 ⟨y11, rfl, hy11, hB11⟩
      have HY11 : Hid (w11.ownsRow w10.heap.size 79 4 y11 (Ino.numF 6 n.opened).length ((Ino.numF 6 n.opened).flatMap fcells)) := hy11
      have HO11 : Hid (w11.ownsRow (g + 1) 79 4 v10 (Ino.numF 1 n.kind ++ Ino.numF 2 n.size ++ Ino.numF 4 n.content ++ Ino.numF 5 n.version).length ((Ino.numF 1 n.kind ++ Ino.numF 2 n.size ++ Ino.numF 4 n.content ++ Ino.numF 5 n.version).flatMap fcells)) := own_below HO10.out hB11
      have HS11 : Hid (Below (g + 1) w1 w11) := hold_call HS10.out hz1 hB11
      have hz11 : g + 1 ≤ w11.heap.size := Nat.le_trans hz10 hB11.size
      clear hy11 hB11 HO10 k10
      go_wp2_with (first | (at_builtin; refine append_two rfl (.tmp 36) (.tmp 39) rfl _ (g + 1) w10.heap.size _ _ (Ino.numF 1 n.kind ++ Ino.numF 2 n.size ++ Ino.numF 4 n.content ++ Ino.numF 5 n.version) (Ino.numF 6 n.opened) rfl rfl HO11.out HY11.out (by have := HLen10.out; have := numF_len 6 (n.opened); have := sumF_len n.sum; omega) hz11 ?_; intro v12 w12 hO12 hB12; have HO12 : Hid (w12.ownsRow (g + 1) 79 4 v12 (Ino.numF 1 n.kind ++ Ino.numF 2 n.size ++ Ino.numF 4 n.content ++ Ino.numF 5 n.version ++ Ino.numF 6 n.opened).length ((Ino.numF 1 n.kind ++ Ino.numF 2 n.size ++ Ino.numF 4 n.content ++ Ino.numF 5 n.version ++ Ino.numF 6 n.opened).flatMap fcells)) := hO12; have HS12 : Hid (Below (g + 1) w1 w12) := HS11.out.trans hB12; have hz12 : g + 1 ≤ w12.heap.size := Nat.le_trans hz11 hB12.size; have HLen12 : Hid ((Ino.numF 1 n.kind ++ Ino.numF 2 n.size ++ Ino.numF 4 n.content ++ Ino.numF 5 n.version ++ Ino.numF 6 n.opened).length ≤ 111) := (by show _ ≤ _; rw [List.length_append]; have := HLen10.out; have := numF_len 6 (n.opened); have := sumF_len n.sum; omega); clear hO12 hB12 HO11 HY11 HLen10))
      go_ret2
      refine ⟨_, by rw [HCh.eq]; rfl, ?_, HBb.out _ HS12.out⟩
      rw [HI.eq, HRC.eq, HGg.eq]
      exact own_mono HO12.out (by omega)
  · rw [h0, if_neg (by omega)] at HI
    have HCh : Is (Ino.chk n) 2 := ⟨h0⟩
    rw [h0]
    clear h0
    go_wp2_with fail
    go_ret2
    exact ⟨_, by rw [HCh.eq]; rfl, by rw [HI.eq]; exact own_noF _ _, HBb.out _ HS2.out⟩
end Go.Proofs.YtealbeblkilibaaDoor
/- Proved: the document's EncodeArch answers as the program's. -/
namespace Go.Proofs.YtealbeblkilibaaDoor
open Go.RowKit
open Ino (Nd Ar)
open FI (Fv fv0 fcells In64 heldTake heldOne)
set_option maxHeartbeats 4000000 in
set_option maxRecDepth 20000 in
theorem rencodeA_any (a : Ar) (w : World) (ha : ArIn a) : Calls Tryd.prog 24 #[.agg (arc a)] w fun e w' => ∃ v, e = .returned (.tuple #[v, .int .i64 (Ino.chkA a : Nat)]) ∧ w'.ownsRow w.heap.size 79 4 v (encA a).length ((encA a).flatMap fcells) ∧ Below w.heap.size w w' := by
  have HI : Is (encA a) (if Ino.chkA a = 0 then Ino.recA a else []) := ⟨rfl⟩
  have HCh : Is (Ino.chkA a) (if (a.version != 0 && (Ino.okStamp a.version && Ino.okSize a.size)) = true then 0 else 2) := ⟨rfl⟩
  have hr0 : (w.alloc (.cells (arc a) 55)).heap[w.heap.size]? = some (.cells (arc a) 55 (0, 0)) := heap_alloc_new w _
  have hA := ar_at hr0
  have HB1 : Hid (Below w.heap.size w (w.alloc (.cells (arc a) 55))) := (Below.refl _ w).alloc (Nat.le_refl _) _
  have HLn : Is (smc a.sum).size 32 := ⟨smc_size ha.sum⟩
  have HRC : Is (Ino.recA a) (Ino.numF 2 a.size ++ Ino.sumF a.sum ++ Ino.numF 5 a.version) := ⟨rfl⟩
  go_enter Tryd.func24, Tryd.ntmps24
  go_upto_region 1 with fail
  have hz1 : w.heap.size + 1 ≤ (w.alloc (.cells (arc a) 55)).heap.size := by simp
  generalize hw1 : w.alloc (.cells (arc a) 55) = w1 at *
  obtain ⟨g, hg⟩ : ∃ g, w.heap.size = g := ⟨_, rfl⟩
  have HGg : Is w.heap.size g := ⟨hg⟩
  rw [hg] at hA hz1
  have HNd : Hid (∀ W : World, Below (g + 1) w1 W → ArAt W g a) := fun W h => hA.below h (by omega)
  have HBb : Hid (∀ W : World, Below (g + 1) w1 W → Below w.heap.size w W) := fun W h => HB1.out.trans (h.mono (by omega))
  have HK0 : Hid (∀ W : World, Below (g + 1) w1 W → W.cell? ⟨g, 0, none⟩ = some (.int .i64 a.version)) := fun W h => (HNd.out W h).version
  have HK1 : Hid (∀ W : World, Below (g + 1) w1 W → W.cell? ⟨g, 1, none⟩ = some (.int .i64 a.size)) := fun W h => (HNd.out W h).size
  have HCS : Hid (∀ W : World, Below (g + 1) w1 W → W.rangeAt g 2 (smc a.sum).toList) := fun W h => (HNd.out W h).sum
  have DG : Hid (∀ W : World, Calls Tryd.prog 44 #[.agg (smc a.sum)] W fun e w' => ∃ v, e = .returned v ∧ w'.ownsRow W.heap.size 79 4 v (Ino.sumF a.sum).length ((Ino.sumF a.sum).flatMap fcells) ∧ Below W.heap.size W w') := fun W => digest_any a.sum W ha.sum
  have SC : Hid (∀ W : World, Calls Tryd.prog 51 #[.int .i64 a.version] W fun e w' => e = .returned (.bool (Ino.okStamp a.version)) ∧ w' = W) := fun W => rstamp_any a.version W
  have HSz : Is (Ino.okSize a.size) (decide (0 ≤ a.size) && decide (a.size ≤ 4096)) := ⟨rfl⟩
  have HVn : Hid (a.version < 1 → (a.version != 0 && (Ino.okStamp a.version && Ino.okSize a.size)) = false) := fun h => by
    by_cases h0 : a.version = 0
    · rw [h0]; rfl
    · rw [show Ino.okStamp a.version = false by unfold Ino.okStamp; rw [decide_eq_false (by omega)]; rfl]; simp
  have k0 := HK0.out _ (Below.refl _ _)
  have k1 := HK1.out _ (Below.refl _ _)
  rw [hg]
  clear hr0 hA HB1 hw1 hg HNd
  generalize arc a = A at *
  generalize smc a.sum = cs at *
  generalize Ino.okStamp a.version = bv at *
  generalize Ino.okSize a.size = bz at *
  by_cases hv1 : a.version < 1
  · rw [HVn.out hv1, if_neg (by simp)] at HCh
    rw [HCh.eq, if_neg (by omega)] at HI
    clear HVn
    go_wp2_with (first | (go_at_call 51; refine (SC.out _).mono ?_; rintro e wS ⟨rfl, hwS⟩; rw [hwS]; clear hwS wS))
    go_ret2
    exact ⟨_, by rw [HCh.eq]; rfl, by rw [HI.eq]; exact own_noF _ _, HBb.out _ (Below.refl _ _)⟩
  · have hv0 : (a.version != 0) = true := by simp only [bne_iff_ne, ne_eq]; omega
    have hv1' : 1 ≤ a.version := by omega
    rw [hv0, Bool.true_and] at HCh
    clear HVn hv0
    cases bv with
    | false =>
      rw [Bool.false_and, if_neg (by simp)] at HCh
      rw [HCh.eq, if_neg (by omega)] at HI
      go_wp2_with (first | (go_at_call 51; refine (SC.out _).mono ?_; rintro e wS ⟨rfl, hwS⟩; rw [hwS]; clear hwS wS))
      go_ret2
      exact ⟨_, by rw [HCh.eq]; rfl, by rw [HI.eq]; exact own_noF _ _, HBb.out _ (Below.refl _ _)⟩
    | true =>
      rw [Bool.true_and, HSz.eq] at HCh
      by_cases h0 : a.size < 0
      · rw [decide_eq_false (by omega), Bool.false_and, if_neg (by simp)] at HCh
        rw [HCh.eq, if_neg (by omega)] at HI
        clear HSz
        go_wp2_with (first | (go_at_call 51; refine (SC.out _).mono ?_; rintro e wS ⟨rfl, hwS⟩; rw [hwS]; clear hwS wS))
        go_ret2
        exact ⟨_, by rw [HCh.eq]; rfl, by rw [HI.eq]; exact own_noF _ _, HBb.out _ (Below.refl _ _)⟩
      · have h0' : 0 ≤ a.size := by omega
        by_cases h1 : 4096 < a.size
        · rw [decide_eq_false (p := a.size ≤ 4096) (by omega), Bool.and_false, if_neg (by simp)] at HCh
          rw [HCh.eq, if_neg (by omega)] at HI
          clear HSz
          go_wp2_with (first | (go_at_call 51; refine (SC.out _).mono ?_; rintro e wS ⟨rfl, hwS⟩; rw [hwS]; clear hwS wS))
          go_ret2
          exact ⟨_, by rw [HCh.eq]; rfl, by rw [HI.eq]; exact own_noF _ _, HBb.out _ (Below.refl _ _)⟩
        · have h1' : a.size ≤ 4096 := by omega
          rw [decide_eq_true h0', decide_eq_true h1', if_pos (by decide)] at HCh
          rw [HCh.eq, if_pos rfl] at HI
          clear HSz
          go_upto_region 3 with (first | (go_at_call 51; refine (SC.out _).mono ?_; rintro e wS ⟨rfl, hwS⟩; rw [hwS]; clear hwS wS))
          clear k0 k1 h0 h1 h0' h1' hv1 hv1' SC
          have HSd : Hid (Below (g + 1) w1 w1.drew) := (Below.refl _ _).drew
          have hzd : g + 1 ≤ w1.drew.heap.size := hz1
          refine wp_region_held_drew (S := fun W => Below (g + 1) w1 W) (by kernel_rfl) HSd.out (fun _ => ?_)
          generalize w1.drew = w3 at *
          refine heldTake 0 (some 23) (.pointer (some ⟨g, 1, none⟩)) rfl rfl (by kernel_rfl) (by kernel_rfl) (by kernel_rfl) (fun _ _ _ h => h) (Or.inl ⟨by rfl, fun w hS => ?_⟩) HSd.out ?_
          · (go_simp)
          simp only [Act.put, List.setIfInBounds_toArray, List.set_cons_zero, List.set_cons_succ]
          refine heldTake 1 (some 24) (.int .i64 a.size) rfl rfl (by kernel_rfl) (by kernel_rfl) (by kernel_rfl) (fun _ _ _ h => h) (Or.inl ⟨by rfl, fun w hS => ?_⟩) HSd.out ?_
          · (have c := HK1.out w hS; go_simp)
          simp only [Act.put, List.setIfInBounds_toArray, List.set_cons_zero, List.set_cons_succ]
          refine heldTake 3 (some 26) (.pointer (some ⟨g, 2, none⟩)) rfl rfl (by kernel_rfl) (by kernel_rfl) (by kernel_rfl) (fun _ _ _ h => h) (Or.inl ⟨by rfl, fun w hS => ?_⟩) HSd.out ?_
          · (go_simp)
          simp only [Act.put, List.setIfInBounds_toArray, List.set_cons_zero, List.set_cons_succ]
          refine heldTake 4 (some 27) (.agg cs) rfl rfl (by kernel_rfl) (by kernel_rfl) (by kernel_rfl) (fun _ _ _ h => h) (yields_mid (by rfl) 37 _ rfl g 2 rfl cs _ (fun w hS => HCS.out w hS) Tryd.underlying37 rfl (by rw [size37, HLn.eq])) HSd.out ?_
          simp only [Act.put, List.setIfInBounds_toArray, List.set_cons_zero, List.set_cons_succ]
          refine heldTake 7 (some 30) (.pointer (some ⟨g, 0, none⟩)) rfl rfl (by kernel_rfl) (by kernel_rfl) (by kernel_rfl) (fun _ _ _ h => h) (Or.inl ⟨by rfl, fun w hS => ?_⟩) HSd.out ?_
          · (go_simp)
          simp only [Act.put, List.setIfInBounds_toArray, List.set_cons_zero, List.set_cons_succ]
          refine heldTake 8 (some 31) (.int .i64 a.version) rfl rfl (by kernel_rfl) (by kernel_rfl) (by kernel_rfl) (fun _ _ _ h => h) (Or.inl ⟨by rfl, fun w hS => ?_⟩) HSd.out ?_
          · (have c := HK0.out w hS; go_simp)
          simp only [Act.put, List.setIfInBounds_toArray, List.set_cons_zero, List.set_cons_succ]
          refine heldOne 2 (by kernel_rfl) rfl (by rfl) (fun KK hK => ?_)
          go_simp
          go_at_call 43
          refine (number_any 2 a.size w3).mono ?_
          rintro e w4 ⟨v4, rfl, ho4, hB4⟩
          have HS4 : Hid (Below (g + 1) w1 w4) := hold_call HSd.out hz1 hB4
          have HO4 : Hid (w4.ownsRow (g + 1) 79 4 v4 (Ino.numF 2 a.size).length ((Ino.numF 2 a.size).flatMap fcells)) := own_mono ho4 hzd
          have hz4 : g + 1 ≤ w4.heap.size := Nat.le_trans hzd hB4.size
          clear ho4 hB4
          refine hK.out _ _ HS4.out ?_
          clear hK KK
          try simp only [Act.put, List.setIfInBounds_toArray, List.set_cons_zero, List.set_cons_succ]
          refine heldOne 5 (by kernel_rfl) rfl (by rfl) (fun KK hK => ?_)
          go_simp
          go_at_call 44
          refine (DG.out w4).mono ?_
          rintro e w5 ⟨v5, rfl, ho5, hB5⟩
          have HS5 : Hid (Below (g + 1) w1 w5) := hold_call HS4.out hz1 hB5
          have HO5 : Hid (w5.ownsRow (g + 1) 79 4 v4 (Ino.numF 2 a.size).length ((Ino.numF 2 a.size).flatMap fcells)) := own_below HO4.out hB5
          have HY5 : Hid (w5.ownsRow w4.heap.size 79 4 v5 (Ino.sumF a.sum).length ((Ino.sumF a.sum).flatMap fcells)) := ho5
          have hz5 : g + 1 ≤ w5.heap.size := Nat.le_trans hz4 hB5.size
          clear ho5 hB5 HO4
          refine hK.out _ _ HS5.out ?_
          clear hK KK
          try simp only [Act.put, List.setIfInBounds_toArray, List.set_cons_zero, List.set_cons_succ]
          obtain ⟨v6, w6, hr6, hO6, hB6⟩ := run_app_f 40 HO5.out HY5.out (by have := numF_len 2 a.size; have := sumF_len a.sum; omega) hz5
          refine heldOne 6 (by kernel_rfl) rfl (by rfl) (fun KK hK => ?_)
          have HS6 : Hid (Below (g + 1) w1 w6) := HS5.out.trans hB6
          have HO6 : Hid (w6.ownsRow (g + 1) 79 4 v6 (Ino.numF 2 a.size ++ Ino.sumF a.sum).length ((Ino.numF 2 a.size ++ Ino.sumF a.sum).flatMap fcells)) := hO6
          have hz6 : g + 1 ≤ w6.heap.size := Nat.le_trans hz5 hB6.size
          clear hO6 hB6 HO5 HY5
          refine op_append 29 (s := .tmp 25) (x := .tmp 28) rfl rfl rfl hr6 rfl ?_
          refine hK.out _ _ HS6.out ?_
          clear hK KK hr6
          try simp only [Act.put, List.setIfInBounds_toArray, List.set_cons_zero, List.set_cons_succ]
          refine heldOne 9 (by kernel_rfl) rfl (by rfl) (fun KK hK => ?_)
          go_simp
          go_at_call 43
          refine (number_any 5 a.version w6).mono ?_
          rintro e w7 ⟨v7, rfl, ho7, hB7⟩
          have HS7 : Hid (Below (g + 1) w1 w7) := hold_call HS6.out hz1 hB7
          have HO7 : Hid (w7.ownsRow (g + 1) 79 4 v6 (Ino.numF 2 a.size ++ Ino.sumF a.sum).length ((Ino.numF 2 a.size ++ Ino.sumF a.sum).flatMap fcells)) := own_below HO6.out hB7
          have HY7 : Hid (w7.ownsRow w6.heap.size 79 4 v7 (Ino.numF 5 a.version).length ((Ino.numF 5 a.version).flatMap fcells)) := ho7
          have hz7 : g + 1 ≤ w7.heap.size := Nat.le_trans hz6 hB7.size
          clear ho7 hB7 HO6
          refine hK.out _ _ HS7.out ?_
          clear hK KK
          try simp only [Act.put, List.setIfInBounds_toArray, List.set_cons_zero, List.set_cons_succ]
          obtain ⟨v8, w8, hr8, hO8, hB8⟩ := run_app_f 40 HO7.out HY7.out (by rw [List.length_append]; have := numF_len 2 a.size; have := sumF_len a.sum; have := numF_len 5 a.version; omega) hz7
          refine heldOne 10 (by kernel_rfl) rfl (by rfl) (fun KK hK => ?_)
          have HS8 : Hid (Below (g + 1) w1 w8) := HS7.out.trans hB8
          have HO8 : Hid (w8.ownsRow (g + 1) 79 4 v8 (Ino.numF 2 a.size ++ Ino.sumF a.sum ++ Ino.numF 5 a.version).length ((Ino.numF 2 a.size ++ Ino.sumF a.sum ++ Ino.numF 5 a.version).flatMap fcells)) := hO8
          clear hO8 hB8 HO7 HY7
          refine op_append 33 (s := .tmp 29) (x := .tmp 32) rfl rfl rfl hr8 rfl ?_
          refine hK.out _ _ HS8.out ?_
          clear hK KK hr8
          try simp only [Act.put, List.setIfInBounds_toArray, List.set_cons_zero, List.set_cons_succ]
          refine heldTake 11 (some 2) (v8) rfl rfl (by kernel_rfl) (by kernel_rfl) (by kernel_rfl) (fun _ _ _ h => h) (Or.inl ⟨by rfl, fun w hS => ?_⟩) HS8.out ?_
          · (go_simp)
          simp only [Act.put, List.setIfInBounds_toArray, List.set_cons_zero, List.set_cons_succ]
          refine heldTake 12 (some 3) (.int .i64 0) rfl rfl (by kernel_rfl) (by kernel_rfl) (by kernel_rfl) (fun _ _ _ h => h) (Or.inl ⟨by rfl, fun w hS => ?_⟩) HS8.out ?_
          · (go_simp)
          simp only [Act.put, List.setIfInBounds_toArray, List.set_cons_zero, List.set_cons_succ]
          refine wpAnyH_done (by kernel_rfl) ?_ _
          go_wp2_with fail
          go_ret2
          refine ⟨_, by rw [HCh.eq]; rfl, ?_, HBb.out _ HS8.out⟩
          rw [HI.eq, HRC.eq, HGg.eq]
          exact own_mono HO8.out (by omega)
end Go.Proofs.YtealbeblkilibaaDoor
/- Proved: the number, and the digest, that a record tells: the program's methods, the document's get and sum. -/
namespace Go.Proofs.YtealbeblkilibaaDoor
open Go.RowKit
open Ino (Nd Ar)
open FI (Fv fv0 FieldsL hit)
def splice {α : Type} (L : List α) (o : Nat) (l : List α) : List α := L.take o ++ l ++ L.drop (o + l.length)
theorem splice_step {α : Type} (cur : List α) (o : Nat) (v : α) (vs : List α) (h : o < cur.length) : splice (cur.set o v) (o + 1) vs = splice cur o (v :: vs) := by
  unfold splice
  rw [List.take_set, List.drop_set, List.length_cons, if_pos (by omega), show o + 1 + vs.length = o + (vs.length + 1) by omega, List.take_succ_eq_append_getElem h, List.set_append_right _ _ (by simp; omega)]
  simp [Nat.min_eq_left (Nat.le_of_lt h)]
theorem splice_length {α : Type} (L l : List α) (o : Nat) (h : o + l.length ≤ L.length) : (splice L o l).length = L.length := by
  unfold splice
  simp
  omega
theorem splice_map {α β : Type} (f : α → β) (a b : List α) (o : Nat) : splice (a.map f) o (b.map f) = (splice a o b).map f := by
  unfold splice
  rw [List.map_append, List.map_append, List.map_take, List.map_drop, List.length_map]
theorem setCells_splice (g t : Nat) : ∀ (l : List Value) (o : Nat) (cur : List Value) (w : World), w.heap[g]? = some (.cells cur.toArray t (0, 0)) → o + l.length ≤ cur.length → (w.setCells g o l).heap[g]? = some (.cells (splice cur o l).toArray t (0, 0))
  | [], o, cur, w, hg, _ => by
    have e : splice cur o [] = cur := by simp [splice]
    rw [e]; exact hg
  | v :: vs, o, cur, w, hg, hl => by
    rw [List.length_cons] at hl
    rw [← splice_step cur o v vs (by omega)]
    refine setCells_splice g t vs (o + 1) (cur.set o v) (w.setCell ⟨g, o, none⟩ v) ?_ (by rw [List.length_set]; omega)
    rw [heap_setCell_same w g o _ t _ hg, List.setIfInBounds_toArray]
/- bytes as cells -/
def bc (l : Pm.T) : List Value := l.map fun b => Value.int .u8 (b.toNat : Int)
theorem bc_length (l : Pm.T) : (bc l).length = l.length := by rw [bc, List.length_map]
theorem bc_splice (a b : Pm.T) (o : Nat) : splice (bc a) o (bc b) = bc (splice a o b) := splice_map _ a b o
theorem run_copy_part {P : Program} (w : World) (dT sT ty elem : TypeId) (b o dLen dCap : Nat) (t : ByteArray) (n : Nat) (hn : n = min t.size dLen)
    (hu : P.underlying dT = some (.slice elem)) (hz : ∀ w, (Go.sizeOf elem).run P w = .ok 1 w) (ht : w.there b o n) :
    (Builtin.copy_ #[dT, sT] ty #[.slice (some ⟨b, o, none⟩) dLen dCap, .string t]).run P w = .ok (goInt n) (w.setCells b o (bc ((bl t).take n))) := by
  have hl : (bc ((bl t).take n)).length = n := by rw [bc_length, List.length_take, bl_length]; omega
  have hst := run_storeCells_cells (P := P) b o (bc ((bl t).take n)) 0 w (by rw [hl]; simpa using fun j hj => (ht j hj).1) (by rw [hl]; simpa using fun j hj => (ht j hj).2) (by
    intro v hv
    obtain ⟨x, _, rfl⟩ := List.mem_map.1 hv
    rfl)
  have hmin : Nat.min t.size dLen = n := hn.symm
  simp [Builtin.copy_, run_underlying hu, Builtin.lenOf, Builtin.firstCells, hz, hmin]
  rw [show (List.take n (List.map (fun b => Value.int .u8 (b.toNat : Int)) t.data.toList)) = bc ((bl t).take n) from (List.map_take).symm, hst]
  rfl
theorem copy_str {P : Program} {ops : Array Oper} {rest : List Oper} {o : Oper} {a : Act} {w : World} {Q : Exit → Act → World → Prop} (hgd : o.guard = none) (d x : Operand) (dT sT : TypeId) (ho : o.op = Op.call { callee := Callee.builtin Builtin.copy, args := #[d, x], argTypes := #[dT, sT] })
    (elem : TypeId) (hu : P.underlying dT = some (.slice elem)) (hz : ∀ w, (Go.sizeOf elem).run P w = .ok 1 w)
    (b off dLen dCap : Nat) (hd : a.eval d = .slice (some ⟨b, off, none⟩) dLen dCap) (t : ByteArray) (hx : a.eval x = .string t) (n : Nat) (hn : n = min t.size dLen) (ht : w.there b off n)
    (h : wpList P ops Q rest (a.put o.dst (goInt n)) (w.setCells b off (bc ((bl t).take n)))) : wpList P ops Q (o :: rest) a w := by
  have hr := run_copy_part (P := P) w dT sT o.type elem b off dLen dCap t n hn hu hz ht
  refine wpList_plain hgd fun K hK => ?_
  unfold Oper.wp execOp
  simp only [ho, resolve, invoke, builtin, Sem.run_bind, Sem.run_pure, Result.andThen_ok, List.map_toArray, List.map_cons, List.map_nil, hd, hx, hr]
  exact hK _ _ h
theorem bc_smc (d : List UInt8) : (bc d).toArray = smc d := rfl
theorem sum_splice (s : ByteArray) : splice Ino.noughts 0 ((bl s).take (min s.size 32)) = Ino.sumV s := by
  have hl := bl_length s
  unfold splice Ino.sumV Ino.noughts
  rw [List.take_zero, List.nil_append, Nat.zero_add, List.length_take, List.drop_replicate, hl]
  congr 1
  · by_cases h : s.size ≤ 32
    · rw [Nat.min_eq_left h, List.take_of_length_le (by omega), List.take_of_length_le (by omega)]
    · rw [Nat.min_eq_right (by omega)]
  · congr 1
    omega
theorem num_of {fs : List Fv} {tag : Int} {w w' : World} {e : Ending} (h : FI.numPost fs tag w e w') : (∃ b, e = .returned (.tuple #[.int .i64 (Ino.numV fs tag), .bool b])) ∧ Below w.heap.size w w' := by
  refine ⟨?_, h.2⟩
  rcases h.1 with ⟨f, hf, he⟩ | ⟨hf, he⟩
  · exact ⟨true, by rw [he]; unfold Ino.numV; rw [hf]⟩
  · exact ⟨false, by rw [he]; unfold Ino.numV; rw [hf]⟩
theorem txt_of {fs : List Fv} {tag : Int} {w w' : World} {e : Ending} (h : FI.textPost fs tag w e w') : (∃ b, e = .returned (.tuple #[.string (Ino.txtV fs tag), .bool b])) ∧ Below w.heap.size w w' := by
  refine ⟨?_, h.2⟩
  rcases h.1 with ⟨f, hf, he⟩ | ⟨hf, he⟩
  · exact ⟨true, by rw [he]; unfold Ino.txtV; rw [hf]⟩
  · exact ⟨false, by rw [he]; unfold Ino.txtV; rw [hf]⟩
set_option maxHeartbeats 1000000 in
theorem recNum_any (a : Option Addr) (len cap : Nat) (tag : Int) (fs : List Fv) (w : World) (hF : FieldsL w a len fs) (hlen : len ≤ 30000) : Calls Tryd.prog 45 #[.slice a len cap, .int .i64 tag] w fun e w' => e = .returned (.int .i64 (Ino.numV fs tag)) ∧ Below w.heap.size w w' := by
  have HN : Hid (Calls Tryd.prog 66 #[.slice a len cap, .int .i64 tag] w fun e w' => (∃ b, e = .returned (.tuple #[.int .i64 (Ino.numV fs tag), .bool b])) ∧ Below w.heap.size w w') := (FI.num_any a len cap tag fs w hF (by omega)).mono fun _ _ h => num_of h
  clear hF
  generalize Ino.numV fs tag = z at *
  go_enter Tryd.func45, Tryd.ntmps45
  go_wp2_with fail
  refine (show Calls _ _ _ _ _ from HN.out).mono ?_
  rintro e w1 ⟨⟨b, rfl⟩, hB1⟩
  have HB1 : Hid (Below w.heap.size w w1) := hB1
  clear hB1
  go_wp2_with fail
  go_ret
  exact ⟨rfl, HB1.out⟩
set_option maxHeartbeats 1000000 in
theorem rget_any (a : Option Addr) (len cap : Nat) (tag : Int) (fs : List Fv) (w : World) (hF : FieldsL w a len fs) (hlen : len ≤ 30000) : Calls Tryd.prog 48 #[.slice a len cap, .int .i64 tag] w fun e w' => e = .returned (.int .i64 (Ino.numV fs tag)) ∧ Below w.heap.size w w' := by
  have HN : Hid (Calls Tryd.prog 68 #[.slice a len cap, .int .i64 tag] w fun e w' => (∃ b, e = .returned (.tuple #[.int .i64 (Ino.numV fs tag), .bool b])) ∧ Below w.heap.size w w') := (FI.rnumt_any a len cap tag fs w hF (by omega)).mono fun _ _ h => num_of h
  clear hF
  generalize Ino.numV fs tag = z at *
  go_enter Tryd.func48, Tryd.ntmps48
  go_wp2_with fail
  refine (show Calls _ _ _ _ _ from HN.out).mono ?_
  rintro e w1 ⟨⟨b, rfl⟩, hB1⟩
  have HB1 : Hid (Below w.heap.size w w1) := hB1
  clear hB1
  go_wp2_with fail
  go_ret
  exact ⟨rfl, HB1.out⟩
theorem zero37 (W : World) : (zeroValue 37).run Tryd.prog W = .ok (.agg (smc Ino.noughts)) W := by kernel_rfl
theorem size_u8 (w : World) : (Go.sizeOf 5).run Tryd.prog w = .ok 1 w := size5 w
theorem there_smc {w : World} {g n : Nat} {d : List UInt8} (h : w.heap[g]? = some (.cells (smc d) 37 (0, 0))) (hd : d.length = 32) (hn : n ≤ 32) : w.there g 0 n := fun j hj => by
  refine ⟨?_, frozen_of_row w g _ _ _ h⟩
  rw [cell_of_row w g _ _ _ (0, 0) h, Array.getElem?_eq_getElem (by rw [smc_size hd]; omega)]
  rfl
set_option maxHeartbeats 2000000 in
set_option maxRecDepth 20000 in
theorem recSum_any (a : Option Addr) (len cap : Nat) (fs : List Fv) (w : World) (hF : FieldsL w a len fs) (hlen : len ≤ 30000) : Calls Tryd.prog 46 #[.slice a len cap] w fun e w' => e = .returned (.agg (smc (Ino.sumV (Ino.txtV fs 3)))) ∧ Below w.heap.size w w' := by
  have HN : Hid (∀ W : World, FieldsL W a len fs → Calls Tryd.prog 67 #[.slice a len cap, .int .i64 3] W fun e w' => (∃ b, e = .returned (.tuple #[.string (Ino.txtV fs 3), .bool b])) ∧ Below W.heap.size W w') := fun W h => (FI.text_any a len cap 3 fs W h (by omega)).mono fun _ _ h => txt_of h
  have HF : Hid (FieldsL w a len fs) := hF
  have hz37 := zero37
  have HZ : Is (smc Ino.noughts).size 32 := ⟨smc_size (by decide)⟩
  have HZs : Is (smc (Ino.sumV (Ino.txtV fs 3))).size 32 := ⟨smc_size (Ino.sumV_length _)⟩
  have HSP : Is (splice Ino.noughts 0 ((bl (Ino.txtV fs 3)).take (min (Ino.txtV fs 3).size 32))) (Ino.sumV (Ino.txtV fs 3)) := ⟨sum_splice _⟩
  have H1 : Hid ((smc (Ino.sumV (Ino.txtV fs 3))).all (·.oneCell') = true) := smc_one _
  clear hF
  generalize Ino.txtV fs 3 = s at *
  obtain ⟨D, hD⟩ : ∃ D, Ino.sumV s = D := ⟨_, rfl⟩
  rw [hD] at HSP HZs H1 ⊢
  clear hD
  go_enter Tryd.func46, Tryd.ntmps46
  go_upto_region 2 with fail
  have hr0 : (w.alloc (.cells (smc Ino.noughts) 37)).heap[w.heap.size]? = some (.cells (smc Ino.noughts) 37 (0, 0)) := heap_alloc_new w _
  have hr1 : ((w.alloc (.cells (smc Ino.noughts) 37)).alloc (.cells (smc Ino.noughts) 37)).heap[w.heap.size + 1]? = some (.cells (smc Ino.noughts) 37 (0, 0)) := by
    have h := heap_alloc_new (w.alloc (.cells (smc Ino.noughts) 37)) (.cells (smc Ino.noughts) 37)
    rwa [FI.size_alloc1] at h
  have hb2 : Below (w.heap.size + 1) (w.alloc (.cells (smc Ino.noughts) 37)) ((w.alloc (.cells (smc Ino.noughts) 37)).alloc (.cells (smc Ino.noughts) 37)) := (Below.refl _ _).alloc (by simp) _
  have hr00 := (hb2.block w.heap.size (by omega)).trans hr0
  have HB2 : Hid (Below w.heap.size w ((w.alloc (.cells (smc Ino.noughts) 37)).alloc (.cells (smc Ino.noughts) 37))) := ((Below.refl _ w).alloc (Nat.le_refl _) _).trans (hb2.mono (by omega))
  have hl2 : w.heap.size + 2 ≤ ((w.alloc (.cells (smc Ino.noughts) 37)).alloc (.cells (smc Ino.noughts) 37)).heap.size := by simp
  have HF2 : Hid (FieldsL ((w.alloc (.cells (smc Ino.noughts) 37)).alloc (.cells (smc Ino.noughts) 37)) a len fs) := HF.out.below HB2.out
  clear hr0 hb2
  generalize (w.alloc (.cells (smc Ino.noughts) 37)).alloc (.cells (smc Ino.noughts) 37) = w2 at *
  obtain ⟨g, hg⟩ : ∃ g, w.heap.size = g := ⟨_, rfl⟩
  have HG : Is w.heap.size g := ⟨hg⟩
  rw [hg] at hr1 hr00 hl2
  rw [hg]
  clear hg hz37
  go_wp2_with fail
  refine (HN.out _ HF2.out).mono ?_
  rintro e w3 ⟨⟨b, rfl⟩, hB3⟩
  have R0 : Is (w3.heap[g]?) (some (.cells (smc Ino.noughts) 37 (0, 0))) := ⟨(hB3.block g (by omega)).trans hr00⟩
  have R1 : Is (w3.heap[g + 1]?) (some (.cells (smc Ino.noughts) 37 (0, 0))) := ⟨(hB3.block (g + 1) (by omega)).trans hr1⟩
  have HB3 : Hid (Below g w w3) := (HG.eq ▸ HB2.out).trans (hB3.mono (by omega))
  clear hr00 hr1 hB3 HN HF2 HF HB2
  go_wp2_with (first
    | (refine copy_str rfl (.tmp 11) (.tmp 12) 92 9 rfl 5 Tryd.underlying92 size_u8 (g + 1) 0 32 32 rfl s rfl (min s.size 32) rfl (there_smc R1.eq (by decide) (by omega)) ?_
       have hlt : (bc ((bl s).take (min s.size 32))).length ≤ 32 := by rw [bc_length, List.length_take]; omega
       have hsp := setCells_splice (g + 1) 37 (bc ((bl s).take (min s.size 32))) 0 (bc Ino.noughts) w3 R1.eq (by rw [show (bc Ino.noughts).length = 32 by decide]; omega)
       rw [bc_splice, HSP.eq] at hsp
       have R4 : Is ((w3.setCells (g + 1) 0 (bc ((bl s).take (min s.size 32)))).heap[g + 1]?) (some (.cells (smc D) 37 (0, 0))) := ⟨hsp⟩
       have hb4 : Below (g + 1) w3 (w3.setCells (g + 1) 0 (bc ((bl s).take (min s.size 32)))) := Go.below_setCells (Nat.le_refl _) _ _ _ (Below.refl _ _)
       have R5 : Is ((w3.setCells (g + 1) 0 (bc ((bl s).take (min s.size 32)))).heap[g]?) (some (.cells (smc Ino.noughts) 37 (0, 0))) := ⟨(hb4.block g (by omega)).trans R0.eq⟩
       have HB4 : Hid (Below g w (w3.setCells (g + 1) 0 (bc ((bl s).take (min s.size 32))))) := HB3.out.trans (hb4.mono (by omega))
       clear hsp hb4 hlt R0 R1 HB3
       generalize w3.setCells (g + 1) 0 (bc ((bl s).take (min s.size 32))) = w4 at *)
    | (refine load_met (by rfl) 37 _ rfl _ rfl 37 (smc D) (0, 0) _ R4.eq Tryd.underlying37 rfl (by rw [size37, HZs.eq]) ?_)
    | (refine wpList_store_row rfl 37 (.tmp 2) (.tmp 14) rfl g (smc D) rfl rfl 37 (smc Ino.noughts) R5.eq (by rw [size37, HZs.eq]) (by rw [HZ.eq, HZs.eq]) H1.out ?_))
  refine bodyPost_ret (results_cell_row rfl _ _ g 37 (smc D) (0, 0) _ rfl (setRow_heap w4 g _ _ _ _ R5.eq) Tryd.underlying37 rfl (by rw [size37, HZs.eq])) rfl ?_
  exact ⟨rfl, by rw [HG.eq]; exact below_setRow HB4.out (Nat.le_refl _) _⟩
end Go.Proofs.YtealbeblkilibaaDoor
