/- Proved: the laws InodeCodes and InodeArchs return true, whatever comes in. -/
import Derived.Test.YtealbeblkilibaaDoorJArchs
namespace Go.Proofs.YtealbeblkilibaaDoor
open Go.RowKit
open Ino (Nd Ar)
open FI (Fv fv0 FieldsL fcells heldTake heldOne)
set_option maxHeartbeats 4000000 in
set_option maxRecDepth 20000 in
theorem codes_walk (n : Nd) (ad : Option Addr) (len cap : Nat) (fs : List Fv) (w : World) (hn : NdIn n) (hF : FieldsL w ad len fs) (hlen : len ≤ 9223372036854775807) (hT : Tab w) :
    Calls Tryd.prog 4 #[.agg (ndc n), .slice ad len cap] w fun e w' => e = .returned (.bool true) ∧ Below w.heap.size w w' := by
  have hz0 := zero39
  have WK : Hid (∀ W : World, Tab W → Calls Tryd.prog 14 #[] W fun e w' => e = .returned (.bool true) ∧ Below W.heap.size W w') := works_any
  have HFt : Hid (Fit (cutFs fs)) := cutFs_fits hF.2.1
  have HFl : Hid ((cutFs fs).length ≤ 30000) := Nat.le_trans (cutFs_length fs) (by omega)
  have HGd : Hid (Fit (encL n)) := (encL_good hn).fit
  have HLl : Hid ((encL n).length ≤ 30000) := Nat.le_trans (encL_good hn).len (by omega)
  have FW : Hid (∀ W : World, FieldsL W ad len fs → Calls Tryd.prog 15 #[.slice ad len cap] W fun e w' => ∃ v, e = .returned v ∧ w'.ownsRow W.heap.size 79 4 v (cutFs fs).length ((cutFs fs).flatMap fcells) ∧ Below W.heap.size W w') := fun W h => few_any ad len cap fs W h hlen
  have EN : Hid (∀ W : World, Calls Tryd.prog 16 #[.agg (ndc n)] W fun e w' => ∃ v, e = .returned (.tuple #[v, .int .i64 (Ino.chk n : Nat)]) ∧ w'.ownsRow W.heap.size 79 4 v (encL n).length ((encL n).flatMap fcells) ∧ Below W.heap.size W w') := fun W => encode_any n W hn
  have RE : Hid (∀ W : World, Calls Tryd.prog 17 #[.agg (ndc n)] W fun e w' => ∃ v, e = .returned (.tuple #[v, .int .i64 (Ino.chk n : Nat)]) ∧ w'.ownsRow W.heap.size 79 4 v (encL n).length ((encL n).flatMap fcells) ∧ Below W.heap.size W w') := fun W => rencode_any n W hn
  have DE : Hid (∀ (W : World) (q : Option Addr) (c1 : Nat), FieldsL W q (cutFs fs).length (cutFs fs) → Calls Tryd.prog 18 #[.slice q (cutFs fs).length c1] W fun e w' => e = .returned (.tuple #[.agg (ndc (Ino.decN (cutFs fs))), .int .i64 (Ino.decE (cutFs fs) : Nat)]) ∧ Below W.heap.size W w') := fun W q c1 h => decode_any q _ c1 _ W h HFl.out
  have RD : Hid (∀ (W : World) (q : Option Addr) (c1 : Nat), FieldsL W q (cutFs fs).length (cutFs fs) → Calls Tryd.prog 19 #[.slice q (cutFs fs).length c1] W fun e w' => e = .returned (.tuple #[.agg (ndc (Ino.decN (cutFs fs))), .int .i64 (Ino.decE (cutFs fs) : Nat)]) ∧ Below W.heap.size W w') := fun W q c1 h => rdecode_any q _ c1 _ W h HFl.out
  have SM : Hid (∀ (W : World) (a1 a2 : Option Addr) (c1 c2 : Nat), FieldsL W a1 (encL n).length (encL n) → FieldsL W a2 (encL n).length (encL n) → Calls Tryd.prog 22 #[.slice a1 (encL n).length c1, .slice a2 (encL n).length c2] W fun e w' => e = .returned (.bool true) ∧ Below W.heap.size W w') := fun W a1 a2 c1 c2 h1 h2 => by
    have h := rsamef_any a1 _ c1 a2 _ c2 _ _ W h1 h2 HLl.out HLl.out
    rw [Ino.leq_same] at h; exact h
  have HEQ : ∀ W : World, (binOp .eql 39 (.agg (ndc (Ino.decN (cutFs fs)))) (.agg (ndc (Ino.decN (cutFs fs))))).run Tryd.prog W = .ok (.bool true) W := fun W => by
    rw [run_eql_struct, nd_eq _ _ (decN_len _) (decN_len _) W, (Ino.same_iff _ _).2 rfl]; rfl
  have HZ : Is (ndc Ino.zeroN).size 37 := ⟨ndc_size (by decide)⟩
  have HZc : Is (ndc n).size 37 := ⟨ndc_size hn.sum⟩
  have HZd : Is (ndc (Ino.decN (cutFs fs))).size 37 := ⟨ndc_size (decN_len _)⟩
  have H1 : Hid ((ndc (Ino.decN (cutFs fs))).all (·.oneCell') = true) := ndc_one _
  have CK : Hid (∀ W : World, Calls Tryd.prog 20 #[.agg (ndc n)] W fun e w' => e = .returned (.int .i64 (Ino.chk n : Nat)) ∧ Below W.heap.size W w') := fun W => check_any n W hn.sum
  have RC : Hid (∀ W : World, Calls Tryd.prog 21 #[.agg (ndc n)] W fun e w' => e = .returned (.int .i64 (Ino.chk n : Nat)) ∧ Below W.heap.size W w') := fun W => rcheck_any n W hn.sum
  have HF : Hid (FieldsL w ad len fs) := hF
  have HT : Hid (Tab w) := hT
  clear hF hT hn
  generalize ndc n = C at *
  generalize ndc (Ino.decN (cutFs fs)) = D at *
  generalize ndc Ino.zeroN = Z at *
  generalize Ino.decE (cutFs fs) = de at *
  generalize Ino.chk n = ce at *
  generalize encL n = le at *
  generalize cutFs fs = R at *
  go_enter Tryd.func4, Tryd.ntmps4
  go_upto_region 1 with fail
  have hr1 : (w.alloc (.cells C 39)).heap[w.heap.size]? = some (.cells C 39 (0, 0)) := heap_alloc_new w _
  have HB1 : Hid (Below w.heap.size w (w.alloc (.cells C 39))) := (Below.refl _ w).alloc (Nat.le_refl _) _
  have HF1 : Hid (FieldsL (w.alloc (.cells C 39)) ad len fs) := HF.out.below HB1.out
  have hl1 : w.heap.size + 1 ≤ (w.alloc (.cells C 39)).heap.size := by simp
  generalize w.alloc (.cells C 39) = w1 at *
  obtain ⟨g, hg⟩ : ∃ g, w.heap.size = g := ⟨_, rfl⟩
  have HG : Is w.heap.size g := ⟨hg⟩
  have HBb : Hid (∀ W : World, Below (w.heap.size + 1) w1 W → Below w.heap.size w W) := fun W h => HB1.out.trans (h.mono (by omega))
  have HTb : Hid (∀ W : World, Below (w.heap.size + 1) w1 W → Tab W) := fun W h => HT.out.below (HBb.out W h)
  rw [hg] at hr1 hl1 HBb HTb
  have HRc : Hid (∀ W : World, Below (g + 1) w1 W → W.heap[g]? = some (.cells C 39 (0, 0))) := fun W h => (h.block g (by omega)).trans hr1
  rw [hg]
  clear hg hr1 HF HB1 HT
  go_wp2_with fail
  refine (FW.out _ HF1.out).mono ?_
  rintro e w2 ⟨v2, rfl, ho2, hB2⟩
  obtain ⟨aR, cR, rfl, hcR, hFR⟩ := FI.own_fields ho2 HFt.out
  have HR2 : Hid (FieldsL w2 aR R.length R) := hFR
  have HS2 : Hid (Below (g + 1) w1 w2) := hB2.mono hl1
  clear ho2 hFR hB2 HF1 FW HFt hcR
  have hC2 := HRc.out _ HS2.out
  go_wp2_with (first | (refine load_met (by rfl) 39 _ rfl _ rfl 39 C (0, 0) _ hC2 Tryd.underlying39 rfl (by rw [size39, HZc.eq]) ?_))
  refine (EN.out _).mono ?_
  rintro e w3 ⟨v3, rfl, ho3, hB3⟩
  obtain ⟨aL, cL, rfl, hcL, hFL⟩ := FI.own_fields ho3 HGd.out
  have HL3 : Hid (FieldsL w3 aL le.length le) := hFL
  have HR3 : Hid (FieldsL w3 aR R.length R) := HR2.out.below hB3
  have HS3 : Hid (Below (g + 1) w1 w3) := hold_call HS2.out hl1 hB3
  clear ho3 hFL hB3 HR2 HS2 hC2 EN hcL
  have hC3 := HRc.out _ HS3.out
  go_wp2_with (first | (refine load_met (by rfl) 39 _ rfl _ rfl 39 C (0, 0) _ hC3 Tryd.underlying39 rfl (by rw [size39, HZc.eq]) ?_))
  refine (RE.out _).mono ?_
  rintro e w4 ⟨v4, rfl, ho4, hB4⟩
  obtain ⟨aM, cM, rfl, hcM, hFM⟩ := FI.own_fields ho4 HGd.out
  have HM4 : Hid (FieldsL w4 aM le.length le) := hFM
  have HL4 : Hid (FieldsL w4 aL le.length le) := HL3.out.below hB4
  have HR4 : Hid (FieldsL w4 aR R.length R) := HR3.out.below hB4
  have HS4 : Hid (Below (g + 1) w1 w4) := hold_call HS3.out hl1 hB4
  clear ho4 hFM hB4 HR3 HL3 HS3 hC3 RE hcM HGd
  go_wp2_with fail
  refine (DE.out _ _ _ HR4.out).mono ?_
  rintro e w5 ⟨rfl, hB5⟩
  have HM5 : Hid (FieldsL w5 aM le.length le) := HM4.out.below hB5
  have HL5 : Hid (FieldsL w5 aL le.length le) := HL4.out.below hB5
  have HR5 : Hid (FieldsL w5 aR R.length R) := HR4.out.below hB5
  have HS5 : Hid (Below (g + 1) w1 w5) := hold_call HS4.out hl1 hB5
  clear hB5 HR4 HL4 HM4 HS4 DE
  go_upto_region 5 with (first | (refine wpList_store_row rfl 39 (.tmp 9) (.tmp 28) rfl w5.heap.size D rfl rfl 39 Z (heap_alloc_new w5 _) (by rw [size39, HZd.eq]) (by rw [HZ.eq, HZd.eq]) H1.out ?_; rw [World.setRow_alloc_new]))
  have hb6 : Below w5.heap.size w5 (w5.alloc (.cells D 39)) := (Below.refl _ _).alloc (Nat.le_refl _) _
  have HM6 : Hid (FieldsL (w5.alloc (.cells D 39)) aM le.length le) := HM5.out.below hb6
  have HL6 : Hid (FieldsL (w5.alloc (.cells D 39)) aL le.length le) := HL5.out.below hb6
  have HR6 : Hid (FieldsL (w5.alloc (.cells D 39)) aR R.length R) := HR5.out.below hb6
  have HS6 : Hid (Below (g + 1) w1 (w5.alloc (.cells D 39))) := hold_call HS5.out hl1 hb6
  have HD6 : Hid ((w5.alloc (.cells D 39)).heap[w5.heap.size]? = some (.cells D 39 (0, 0))) := heap_alloc_new w5 _
  have hl6 : w5.heap.size < (w5.alloc (.cells D 39)).heap.size := by simp
  clear hb6 HM5 HL5 HR5 HS5
  generalize w5.alloc (.cells D 39) = w6 at *
  generalize w5.heap.size = p at *
  clear w5
  go_wp2_with fail
  refine (RD.out _ _ _ HR6.out).mono ?_
  rintro e w7 ⟨rfl, hB7⟩
  have HM7 : Hid (FieldsL w7 aM le.length le) := HM6.out.below hB7
  have HL7 : Hid (FieldsL w7 aL le.length le) := HL6.out.below hB7
  have HS7 : Hid (Below (g + 1) w1 w7) := hold_call HS6.out hl1 hB7
  have HD7 : Hid (w7.heap[p]? = some (.cells D 39 (0, 0))) := (hB7.block p hl6).trans HD6.out
  have hl7 : p < w7.heap.size := Nat.lt_of_lt_of_le hl6 hB7.size
  clear hB7 HR6 HL6 HM6 HS6 HD6 hl6 RD
  go_upto_region 6 with (first | (refine wpList_store_row rfl 39 (.tmp 11) (.tmp 33) rfl w7.heap.size D rfl rfl 39 Z (heap_alloc_new w7 _) (by rw [size39, HZd.eq]) (by rw [HZ.eq, HZd.eq]) H1.out ?_; rw [World.setRow_alloc_new]))
  have hb8 : Below w7.heap.size w7 (w7.alloc (.cells D 39)) := (Below.refl _ _).alloc (Nat.le_refl _) _
  have HM8 : Hid (FieldsL (w7.alloc (.cells D 39)) aM le.length le) := HM7.out.below hb8
  have HL8 : Hid (FieldsL (w7.alloc (.cells D 39)) aL le.length le) := HL7.out.below hb8
  have HS8 : Hid (Below (g + 1) w1 (w7.alloc (.cells D 39))) := hold_call HS7.out hl1 hb8
  have HD8 : Hid ((w7.alloc (.cells D 39)).heap[p]? = some (.cells D 39 (0, 0))) := (hb8.block p hl7).trans HD7.out
  have HE8 : Hid ((w7.alloc (.cells D 39)).heap[w7.heap.size]? = some (.cells D 39 (0, 0))) := heap_alloc_new w7 _
  have hp8 : p < (w7.alloc (.cells D 39)).heap.size := by simp; omega
  have hq8 : w7.heap.size < (w7.alloc (.cells D 39)).heap.size := by simp
  clear hb8 HM7 HL7 HS7 HD7 hl7 hz0 H1
  generalize w7.alloc (.cells D 39) = w8 at *
  generalize w7.heap.size = q at *
  clear w7
  have b1 : (((ce : Nat) : Int) == ((ce : Nat) : Int)) = true := by simp
  have b2 : (((de : Nat) : Int) == ((de : Nat) : Int)) = true := by simp
  have HCb : Hid (∀ W : World, Below w8.heap.size w8 W → W.heap[g]? = some (.cells C 39 (0, 0))) := fun W h => HRc.out _ (HS8.out.trans (h.mono (Nat.le_trans hl1 HS8.out.size)))
  have HDb : Hid (∀ W : World, Below w8.heap.size w8 W → W.heap[p]? = some (.cells D 39 (0, 0))) := fun W h => (h.block p hp8).trans HD8.out
  have HEb : Hid (∀ W : World, Below w8.heap.size w8 W → W.heap[q]? = some (.cells D 39 (0, 0))) := fun W h => (h.block q hq8).trans HE8.out
  have HSd : Hid (Below w8.heap.size w8 w8.drew) := (Below.refl _ _).drew
  refine wp_region_held_drew (S := fun W => Below w8.heap.size w8 W) (by kernel_rfl) HSd.out (fun _ => ?_)
  generalize w8.drew = wd at *
  refine heldTake 0 (some 35) (.agg C) rfl rfl (by kernel_rfl) (by kernel_rfl) (by kernel_rfl) (fun _ _ _ h => h) (yields_mid (by rfl) 39 _ rfl g 0 rfl C _ (fun w hS => range_row (HCb.out w hS)) Tryd.underlying39 rfl (by rw [size39, HZc.eq])) HSd.out ?_
  simp only [Act.put, List.setIfInBounds_toArray, List.set_cons_zero, List.set_cons_succ]
  refine heldTake 2 (some 37) (.agg C) rfl rfl (by kernel_rfl) (by kernel_rfl) (by kernel_rfl) (fun _ _ _ h => h) (yields_mid (by rfl) 39 _ rfl g 0 rfl C _ (fun w hS => range_row (HCb.out w hS)) Tryd.underlying39 rfl (by rw [size39, HZc.eq])) HSd.out ?_
  simp only [Act.put, List.setIfInBounds_toArray, List.set_cons_zero, List.set_cons_succ]
  refine heldOne 1 (by kernel_rfl) rfl (by rfl) (fun KK hK => ?_)
  go_simp
  go_at_call 20
  refine (CK.out _).mono ?_
  rintro e w9 ⟨rfl, hb9⟩
  have HS9 : Hid (Below w8.heap.size w8 w9) := hold_call HSd.out (Nat.le_refl _) hb9
  refine hK.out _ _ HS9.out ?_
  clear hK KK hb9
  try simp only [Act.put, List.setIfInBounds_toArray, List.set_cons_zero, List.set_cons_succ]
  refine heldOne 3 (by kernel_rfl) rfl (by rfl) (fun KK hK => ?_)
  go_simp
  go_at_call 21
  refine (RC.out _).mono ?_
  rintro e w10 ⟨rfl, hb10⟩
  have HS10 : Hid (Below w8.heap.size w8 w10) := hold_call HS9.out (Nat.le_refl _) hb10
  refine hK.out _ _ HS10.out ?_
  clear hK KK hb10
  try simp only [Act.put, List.setIfInBounds_toArray, List.set_cons_zero, List.set_cons_succ]
  refine heldTake 4 (some 39) (.bool true) rfl rfl (by kernel_rfl) (by kernel_rfl) (by kernel_rfl) (fun _ _ _ h => h) (Or.inl ⟨by rfl, fun w hS => ?_⟩) HS10.out ?_
  · (go_simp)
  simp only [Act.put, List.setIfInBounds_toArray, List.set_cons_zero, List.set_cons_succ]
  refine heldTake 5 (some 40) (.bool true) rfl rfl (by kernel_rfl) (by kernel_rfl) (by kernel_rfl) (fun _ _ _ h => h) (Or.inl ⟨by rfl, fun w hS => ?_⟩) HS10.out ?_
  · (go_simp)
  simp only [Act.put, List.setIfInBounds_toArray, List.set_cons_zero, List.set_cons_succ]
  refine heldTake 6 (some 41) (.slice aL le.length cL) rfl rfl (by kernel_rfl) (by kernel_rfl) (by kernel_rfl) (fun _ _ _ h => h) (Or.inl ⟨by rfl, fun w hS => ?_⟩) HS10.out ?_
  · (go_simp)
  simp only [Act.put, List.setIfInBounds_toArray, List.set_cons_zero, List.set_cons_succ]
  refine heldTake 7 (some 42) (.slice aM le.length cM) rfl rfl (by kernel_rfl) (by kernel_rfl) (by kernel_rfl) (fun _ _ _ h => h) (Or.inl ⟨by rfl, fun w hS => ?_⟩) HS10.out ?_
  · (go_simp)
  simp only [Act.put, List.setIfInBounds_toArray, List.set_cons_zero, List.set_cons_succ]
  refine heldOne 8 (by kernel_rfl) rfl (by rfl) (fun KK hK => ?_)
  go_simp
  go_at_call 22
  refine (SM.out _ _ _ _ _ (HL8.out.below HS10.out) (HM8.out.below HS10.out)).mono ?_
  rintro e w11 ⟨rfl, hb11⟩
  have HS11 : Hid (Below w8.heap.size w8 w11) := hold_call HS10.out (Nat.le_refl _) hb11
  refine hK.out _ _ HS11.out ?_
  clear hK KK hb11
  try simp only [Act.put, List.setIfInBounds_toArray, List.set_cons_zero, List.set_cons_succ]
  refine heldTake 9 (some 44) (.bool true) rfl rfl (by kernel_rfl) (by kernel_rfl) (by kernel_rfl) (fun _ _ _ h => h) (Or.inl ⟨by rfl, fun w hS => ?_⟩) HS11.out ?_
  · (go_simp)
  simp only [Act.put, List.setIfInBounds_toArray, List.set_cons_zero, List.set_cons_succ]
  refine heldTake 10 (some 45) (.bool true) rfl rfl (by kernel_rfl) (by kernel_rfl) (by kernel_rfl) (fun _ _ _ h => h) (Or.inl ⟨by rfl, fun w hS => ?_⟩) HS11.out ?_
  · (go_simp)
  simp only [Act.put, List.setIfInBounds_toArray, List.set_cons_zero, List.set_cons_succ]
  refine heldTake 11 (some 46) (.int .i64 (ce : Nat)) rfl rfl (by kernel_rfl) (by kernel_rfl) (by kernel_rfl) (fun _ _ _ h => h) (Or.inl ⟨by rfl, fun w hS => ?_⟩) HS11.out ?_
  · (go_simp)
  simp only [Act.put, List.setIfInBounds_toArray, List.set_cons_zero, List.set_cons_succ]
  refine heldTake 12 (some 47) (.int .i64 (ce : Nat)) rfl rfl (by kernel_rfl) (by kernel_rfl) (by kernel_rfl) (fun _ _ _ h => h) (Or.inl ⟨by rfl, fun w hS => ?_⟩) HS11.out ?_
  · (go_simp)
  simp only [Act.put, List.setIfInBounds_toArray, List.set_cons_zero, List.set_cons_succ]
  refine heldTake 13 (some 48) (.bool true) rfl rfl (by kernel_rfl) (by kernel_rfl) (by kernel_rfl) (fun _ _ _ h => h) (Or.inl ⟨by rfl, fun w hS => ?_⟩) HS11.out ?_
  · (go_simp)
  simp only [Act.put, List.setIfInBounds_toArray, List.set_cons_zero, List.set_cons_succ]
  refine heldTake 14 (some 49) (.bool true) rfl rfl (by kernel_rfl) (by kernel_rfl) (by kernel_rfl) (fun _ _ _ h => h) (Or.inl ⟨by rfl, fun w hS => ?_⟩) HS11.out ?_
  · (go_simp)
  simp only [Act.put, List.setIfInBounds_toArray, List.set_cons_zero, List.set_cons_succ]
  refine heldTake 15 (some 50) (.bool true) rfl rfl (by kernel_rfl) (by kernel_rfl) (by kernel_rfl) (fun _ _ _ h => h) (Or.inl ⟨by rfl, fun w hS => ?_⟩) HS11.out ?_
  · (go_simp)
  simp only [Act.put, List.setIfInBounds_toArray, List.set_cons_zero, List.set_cons_succ]
  refine heldTake 16 (some 51) (.agg D) rfl rfl (by kernel_rfl) (by kernel_rfl) (by kernel_rfl) (fun _ _ _ h => h) (yields_mid (by rfl) 39 _ rfl p 0 rfl D _ (fun w hS => range_row (HDb.out w hS)) Tryd.underlying39 rfl (by rw [size39, HZd.eq])) HS11.out ?_
  simp only [Act.put, List.setIfInBounds_toArray, List.set_cons_zero, List.set_cons_succ]
  refine heldTake 17 (some 52) (.agg D) rfl rfl (by kernel_rfl) (by kernel_rfl) (by kernel_rfl) (fun _ _ _ h => h) (yields_mid (by rfl) 39 _ rfl q 0 rfl D _ (fun w hS => range_row (HEb.out w hS)) Tryd.underlying39 rfl (by rw [size39, HZd.eq])) HS11.out ?_
  simp only [Act.put, List.setIfInBounds_toArray, List.set_cons_zero, List.set_cons_succ]
  refine heldTake 18 (some 53) (.bool true) rfl rfl (by kernel_rfl) (by kernel_rfl) (by kernel_rfl) (fun _ _ _ h => h) (Or.inl ⟨by rfl, fun w hS => ?_⟩) HS11.out ?_
  · (go_simp)
  simp only [Act.put, List.setIfInBounds_toArray, List.set_cons_zero, List.set_cons_succ]
  refine heldTake 19 (some 54) (.bool true) rfl rfl (by kernel_rfl) (by kernel_rfl) (by kernel_rfl) (fun _ _ _ h => h) (Or.inl ⟨by rfl, fun w hS => ?_⟩) HS11.out ?_
  · (go_simp)
  simp only [Act.put, List.setIfInBounds_toArray, List.set_cons_zero, List.set_cons_succ]
  refine heldTake 20 (some 55) (.bool true) rfl rfl (by kernel_rfl) (by kernel_rfl) (by kernel_rfl) (fun _ _ _ h => h) (Or.inl ⟨by rfl, fun w hS => ?_⟩) HS11.out ?_
  · (go_simp)
  simp only [Act.put, List.setIfInBounds_toArray, List.set_cons_zero, List.set_cons_succ]
  refine heldTake 21 (some 56) (.int .i64 (de : Nat)) rfl rfl (by kernel_rfl) (by kernel_rfl) (by kernel_rfl) (fun _ _ _ h => h) (Or.inl ⟨by rfl, fun w hS => ?_⟩) HS11.out ?_
  · (go_simp)
  simp only [Act.put, List.setIfInBounds_toArray, List.set_cons_zero, List.set_cons_succ]
  refine heldTake 22 (some 57) (.int .i64 (de : Nat)) rfl rfl (by kernel_rfl) (by kernel_rfl) (by kernel_rfl) (fun _ _ _ h => h) (Or.inl ⟨by rfl, fun w hS => ?_⟩) HS11.out ?_
  · (go_simp)
  simp only [Act.put, List.setIfInBounds_toArray, List.set_cons_zero, List.set_cons_succ]
  refine heldTake 23 (some 58) (.bool true) rfl rfl (by kernel_rfl) (by kernel_rfl) (by kernel_rfl) (fun _ _ _ h => h) (Or.inl ⟨by rfl, fun w hS => ?_⟩) HS11.out ?_
  · (go_simp)
  simp only [Act.put, List.setIfInBounds_toArray, List.set_cons_zero, List.set_cons_succ]
  refine heldTake 24 (some 59) (.bool true) rfl rfl (by kernel_rfl) (by kernel_rfl) (by kernel_rfl) (fun _ _ _ h => h) (Or.inl ⟨by rfl, fun w hS => ?_⟩) HS11.out ?_
  · (go_simp)
  simp only [Act.put, List.setIfInBounds_toArray, List.set_cons_zero, List.set_cons_succ]
  refine heldTake 25 (some 60) (.bool true) rfl rfl (by kernel_rfl) (by kernel_rfl) (by kernel_rfl) (fun _ _ _ h => h) (Or.inl ⟨by rfl, fun w hS => ?_⟩) HS11.out ?_
  · (go_simp)
  simp only [Act.put, List.setIfInBounds_toArray, List.set_cons_zero, List.set_cons_succ]
  refine heldOne 26 (by kernel_rfl) rfl (by rfl) (fun KK hK => ?_)
  go_simp
  go_at_call 14
  refine (WK.out _ (HTb.out _ (HS8.out.trans (HS11.out.mono (Nat.le_trans hl1 HS8.out.size))))).mono ?_
  rintro e w12 ⟨rfl, hb12⟩
  have HS12 : Hid (Below w8.heap.size w8 w12) := hold_call HS11.out (Nat.le_refl _) hb12
  refine hK.out _ _ HS12.out ?_
  clear hK KK hb12
  try simp only [Act.put, List.setIfInBounds_toArray, List.set_cons_zero, List.set_cons_succ]
  refine heldTake 27 (some 62) (.bool true) rfl rfl (by kernel_rfl) (by kernel_rfl) (by kernel_rfl) (fun _ _ _ h => h) (Or.inl ⟨by rfl, fun w hS => ?_⟩) HS12.out ?_
  · (go_simp)
  simp only [Act.put, List.setIfInBounds_toArray, List.set_cons_zero, List.set_cons_succ]
  refine heldTake 28 (some 4) (.bool true) rfl rfl (by kernel_rfl) (by kernel_rfl) (by kernel_rfl) (fun _ _ _ h => h) (Or.inl ⟨by rfl, fun w hS => ?_⟩) HS12.out ?_
  · (go_simp)
  simp only [Act.put, List.setIfInBounds_toArray, List.set_cons_zero, List.set_cons_succ]
  refine wpAnyH_done (by kernel_rfl) ?_ _
  go_wp2_with fail
  go_ret
  exact ⟨rfl, by rw [HG.eq]; exact HG.eq ▸ HBb.out _ (HS8.out.trans (HS12.out.mono (Nat.le_trans hl1 HS8.out.size)))⟩
end Go.Proofs.YtealbeblkilibaaDoor
