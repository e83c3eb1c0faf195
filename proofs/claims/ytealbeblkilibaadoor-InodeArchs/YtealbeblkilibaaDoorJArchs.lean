/- Proved: the laws InodeCodes and InodeArchs return true, whatever comes in. -/
import Derived.Test.YtealbeblkilibaaDoorK01
import Derived.Test.YtealbeblkilibaaDoorK03
namespace Go.Proofs.YtealbeblkilibaaDoor
open Go.RowKit
open Ino (Nd Ar)
open FI (Fv fv0 FieldsL fcells heldTake heldOne)
theorem decN_len (fs : List Fv) : (Ino.decN fs).sum.length = 32 := by
  unfold Ino.decN
  split
  · exact Ino.sumV_length _
  · decide
theorem decA_len (fs : List Fv) : (Ino.decA fs).sum.length = 32 := by
  unfold Ino.decA
  split
  · exact Ino.sumV_length _
  · decide
set_option maxHeartbeats 4000000 in
set_option maxRecDepth 20000 in
theorem archs_walk (a : Ar) (ad : Option Addr) (len cap : Nat) (fs : List Fv) (w : World) (hn : ArIn a) (hF : FieldsL w ad len fs) (hlen : len ≤ 9223372036854775807) (hT : Tab w) :
    Calls Tryd.prog 5 #[.agg (arc a), .slice ad len cap] w fun e w' => e = .returned (.bool true) ∧ Below w.heap.size w w' := by
  have hz0 := zero55
  have WK : Hid (∀ W : World, Tab W → Calls Tryd.prog 14 #[] W fun e w' => e = .returned (.bool true) ∧ Below W.heap.size W w') := works_any
  have HFt : Hid (Fit (cutFs fs)) := cutFs_fits hF.2.1
  have HFl : Hid ((cutFs fs).length ≤ 30000) := Nat.le_trans (cutFs_length fs) (by omega)
  have HGd : Hid (Fit (encA a)) := (encA_good hn).fit
  have HLl : Hid ((encA a).length ≤ 30000) := Nat.le_trans (encA_good hn).len (by omega)
  have FW : Hid (∀ W : World, FieldsL W ad len fs → Calls Tryd.prog 15 #[.slice ad len cap] W fun e w' => ∃ v, e = .returned v ∧ w'.ownsRow W.heap.size 79 4 v (cutFs fs).length ((cutFs fs).flatMap fcells) ∧ Below W.heap.size W w') := fun W h => few_any ad len cap fs W h hlen
  have EN : Hid (∀ W : World, Calls Tryd.prog 23 #[.agg (arc a)] W fun e w' => ∃ v, e = .returned (.tuple #[v, .int .i64 (Ino.chkA a : Nat)]) ∧ w'.ownsRow W.heap.size 79 4 v (encA a).length ((encA a).flatMap fcells) ∧ Below W.heap.size W w') := fun W => encodeA_any a W hn
  have RE : Hid (∀ W : World, Calls Tryd.prog 24 #[.agg (arc a)] W fun e w' => ∃ v, e = .returned (.tuple #[v, .int .i64 (Ino.chkA a : Nat)]) ∧ w'.ownsRow W.heap.size 79 4 v (encA a).length ((encA a).flatMap fcells) ∧ Below W.heap.size W w') := fun W => rencodeA_any a W hn
  have DE : Hid (∀ (W : World) (q : Option Addr) (c1 : Nat), FieldsL W q (cutFs fs).length (cutFs fs) → Calls Tryd.prog 25 #[.slice q (cutFs fs).length c1] W fun e w' => e = .returned (.tuple #[.agg (arc (Ino.decA (cutFs fs))), .int .i64 (Ino.decAE (cutFs fs) : Nat)]) ∧ Below W.heap.size W w') := fun W q c1 h => decodeA_any q _ c1 _ W h HFl.out
  have RD : Hid (∀ (W : World) (q : Option Addr) (c1 : Nat), FieldsL W q (cutFs fs).length (cutFs fs) → Calls Tryd.prog 26 #[.slice q (cutFs fs).length c1] W fun e w' => e = .returned (.tuple #[.agg (arc (Ino.decA (cutFs fs))), .int .i64 (Ino.decAE (cutFs fs) : Nat)]) ∧ Below W.heap.size W w') := fun W q c1 h => rdecodeA_any q _ c1 _ W h HFl.out
  have SM : Hid (∀ (W : World) (a1 a2 : Option Addr) (c1 c2 : Nat), FieldsL W a1 (encA a).length (encA a) → FieldsL W a2 (encA a).length (encA a) → Calls Tryd.prog 22 #[.slice a1 (encA a).length c1, .slice a2 (encA a).length c2] W fun e w' => e = .returned (.bool true) ∧ Below W.heap.size W w') := fun W a1 a2 c1 c2 h1 h2 => by
    have h := rsamef_any a1 _ c1 a2 _ c2 _ _ W h1 h2 HLl.out HLl.out
    rw [Ino.leq_same] at h; exact h
  have HEQ : ∀ W : World, (binOp .eql 55 (.agg (arc (Ino.decA (cutFs fs)))) (.agg (arc (Ino.decA (cutFs fs))))).run Tryd.prog W = .ok (.bool true) W := fun W => by
    rw [run_eql_struct, ar_eq _ _ (decA_len _) (decA_len _) W, (Ino.samA_iff _ _).2 rfl]; rfl
  have HZ : Is (arc Ino.zeroA).size 34 := ⟨arc_size (by decide)⟩
  have HZc : Is (arc a).size 34 := ⟨arc_size hn.sum⟩
  have HZd : Is (arc (Ino.decA (cutFs fs))).size 34 := ⟨arc_size (decA_len _)⟩
  have H1 : Hid ((arc (Ino.decA (cutFs fs))).all (·.oneCell') = true) := arc_one _
  have HF : Hid (FieldsL w ad len fs) := hF
  have HT : Hid (Tab w) := hT
  clear hF hT hn
  generalize arc a = C at *
  generalize arc (Ino.decA (cutFs fs)) = D at *
  generalize arc Ino.zeroA = Z at *
  generalize Ino.decAE (cutFs fs) = de at *
  generalize Ino.chkA a = ce at *
  generalize encA a = le at *
  generalize cutFs fs = R at *
  go_enter Tryd.func5, Tryd.ntmps5
  go_upto_region 1 with fail
  have hr1 : (w.alloc (.cells C 55)).heap[w.heap.size]? = some (.cells C 55 (0, 0)) := heap_alloc_new w _
  have HB1 : Hid (Below w.heap.size w (w.alloc (.cells C 55))) := (Below.refl _ w).alloc (Nat.le_refl _) _
  have HF1 : Hid (FieldsL (w.alloc (.cells C 55)) ad len fs) := HF.out.below HB1.out
  have hl1 : w.heap.size + 1 ≤ (w.alloc (.cells C 55)).heap.size := by simp
  generalize w.alloc (.cells C 55) = w1 at *
  obtain ⟨g, hg⟩ : ∃ g, w.heap.size = g := ⟨_, rfl⟩
  have HG : Is w.heap.size g := ⟨hg⟩
  have HBb : Hid (∀ W : World, Below (w.heap.size + 1) w1 W → Below w.heap.size w W) := fun W h => HB1.out.trans (h.mono (by omega))
  have HTb : Hid (∀ W : World, Below (w.heap.size + 1) w1 W → Tab W) := fun W h => HT.out.below (HBb.out W h)
  rw [hg] at hr1 hl1 HBb HTb
  have HRc : Hid (∀ W : World, Below (g + 1) w1 W → W.heap[g]? = some (.cells C 55 (0, 0))) := fun W h => (h.block g (by omega)).trans hr1
  rw [hg]
  clear hg hr1 HF HB1 HT
  go_wp2_with fail
  refine (FW.out _ HF1.out).mono ?_
  rintro e w2 ⟨v2, rfl, ho2, hB2⟩
  obtain ⟨aR, cR, rfl, hcR, hFR⟩ := FI.own_fields ho2 HFt.out
  have HR2 : Hid (FieldsL w2 aR R.length R) := hFR
  have HS2 : Hid (Below (g + 1) w1 w2) := hB2.mono hl1
  clear ho2 hFR hB2 HF1 FW HFt hcR
  have hC2 := HRc.out _ HS2.out
  go_wp2_with (first | (refine load_met (by rfl) 55 _ rfl _ rfl 55 C (0, 0) _ hC2 Tryd.underlying55 rfl (by rw [size55, HZc.eq]) ?_))
  refine (EN.out _).mono ?_
  rintro e w3 ⟨v3, rfl, ho3, hB3⟩
  obtain ⟨aL, cL, rfl, hcL, hFL⟩ := FI.own_fields ho3 HGd.out
  have HL3 : Hid (FieldsL w3 aL le.length le) := hFL
  have HR3 : Hid (FieldsL w3 aR R.length R) := HR2.out.below hB3
  have HS3 : Hid (Below (g + 1) w1 w3) := hold_call HS2.out hl1 hB3
  clear ho3 hFL hB3 HR2 HS2 hC2 EN hcL
  have hC3 := HRc.out _ HS3.out
  go_wp2_with (first | (refine load_met (by rfl) 55 _ rfl _ rfl 55 C (0, 0) _ hC3 Tryd.underlying55 rfl (by rw [size55, HZc.eq]) ?_))
  refine (RE.out _).mono ?_
  rintro e w4 ⟨v4, rfl, ho4, hB4⟩
  obtain ⟨aM, cM, rfl, hcM, hFM⟩ := FI.own_fields ho4 HGd.out
  have HM4 : Hid (FieldsL w4 aM le.length le) := hFM
  have HL4 : Hid (FieldsL w4 aL le.length le) := HL3.out.below hB4
  have HR4 : Hid (FieldsL w4 aR R.length R) := HR3.out.below hB4
  have HS4 : Hid (Below (g + 1) w1 w4) := hold_call HS3.out hl1 hB4
  clear ho4 hFM hB4 HR3 HL3 HS3 hC3 RE hcM HGd
  go_wp2_with fail
  refine (DE.out _ _ _ HR4.out).mono ?_
  rintro e w5 ⟨rfl, hB5⟩
  have HM5 : Hid (FieldsL w5 aM le.length le) := HM4.out.below hB5
  have HL5 : Hid (FieldsL w5 aL le.length le) := HL4.out.below hB5
  have HR5 : Hid (FieldsL w5 aR R.length R) := HR4.out.below hB5
  have HS5 : Hid (Below (g + 1) w1 w5) := hold_call HS4.out hl1 hB5
  clear hB5 HR4 HL4 HM4 HS4 DE
  go_upto_region 5 with (first | (refine wpList_store_row rfl 55 (.tmp 9) (.tmp 28) rfl w5.heap.size D rfl rfl 55 Z (heap_alloc_new w5 _) (by rw [size55, HZd.eq]) (by rw [HZ.eq, HZd.eq]) H1.out ?_; rw [World.setRow_alloc_new]))
  have hb6 : Below w5.heap.size w5 (w5.alloc (.cells D 55)) := (Below.refl _ _).alloc (Nat.le_refl _) _
  have HM6 : Hid (FieldsL (w5.alloc (.cells D 55)) aM le.length le) := HM5.out.below hb6
  have HL6 : Hid (FieldsL (w5.alloc (.cells D 55)) aL le.length le) := HL5.out.below hb6
  have HR6 : Hid (FieldsL (w5.alloc (.cells D 55)) aR R.length R) := HR5.out.below hb6
  have HS6 : Hid (Below (g + 1) w1 (w5.alloc (.cells D 55))) := hold_call HS5.out hl1 hb6
  have HD6 : Hid ((w5.alloc (.cells D 55)).heap[w5.heap.size]? = some (.cells D 55 (0, 0))) := heap_alloc_new w5 _
  have hl6 : w5.heap.size < (w5.alloc (.cells D 55)).heap.size := by simp
  clear hb6 HM5 HL5 HR5 HS5
  generalize w5.alloc (.cells D 55) = w6 at *
  generalize w5.heap.size = p at *
  clear w5
  go_wp2_with fail
  refine (RD.out _ _ _ HR6.out).mono ?_
  rintro e w7 ⟨rfl, hB7⟩
  have HM7 : Hid (FieldsL w7 aM le.length le) := HM6.out.below hB7
  have HL7 : Hid (FieldsL w7 aL le.length le) := HL6.out.below hB7
  have HS7 : Hid (Below (g + 1) w1 w7) := hold_call HS6.out hl1 hB7
  have HD7 : Hid (w7.heap[p]? = some (.cells D 55 (0, 0))) := (hB7.block p hl6).trans HD6.out
  have hl7 : p < w7.heap.size := Nat.lt_of_lt_of_le hl6 hB7.size
  clear hB7 HR6 HL6 HM6 HS6 HD6 hl6 RD
  go_upto_region 6 with (first | (refine wpList_store_row rfl 55 (.tmp 11) (.tmp 33) rfl w7.heap.size D rfl rfl 55 Z (heap_alloc_new w7 _) (by rw [size55, HZd.eq]) (by rw [HZ.eq, HZd.eq]) H1.out ?_; rw [World.setRow_alloc_new]))
  have hb8 : Below w7.heap.size w7 (w7.alloc (.cells D 55)) := (Below.refl _ _).alloc (Nat.le_refl _) _
  have HM8 : Hid (FieldsL (w7.alloc (.cells D 55)) aM le.length le) := HM7.out.below hb8
  have HL8 : Hid (FieldsL (w7.alloc (.cells D 55)) aL le.length le) := HL7.out.below hb8
  have HS8 : Hid (Below (g + 1) w1 (w7.alloc (.cells D 55))) := hold_call HS7.out hl1 hb8
  have HD8 : Hid ((w7.alloc (.cells D 55)).heap[p]? = some (.cells D 55 (0, 0))) := (hb8.block p hl7).trans HD7.out
  have HE8 : Hid ((w7.alloc (.cells D 55)).heap[w7.heap.size]? = some (.cells D 55 (0, 0))) := heap_alloc_new w7 _
  have hp8 : p < (w7.alloc (.cells D 55)).heap.size := by simp; omega
  have hq8 : w7.heap.size < (w7.alloc (.cells D 55)).heap.size := by simp
  clear hb8 HM7 HL7 HS7 HD7 hl7 hz0 H1
  generalize w7.alloc (.cells D 55) = w8 at *
  generalize w7.heap.size = q at *
  clear w7
  have b1 : (((ce : Nat) : Int) == ((ce : Nat) : Int)) = true := by simp
  have b2 : (((de : Nat) : Int) == ((de : Nat) : Int)) = true := by simp
  go_wp2_with fail
  refine (SM.out _ _ _ _ _ HL8.out HM8.out).mono ?_
  rintro e w9 ⟨rfl, hB9⟩
  have HD9 : Is (w9.heap[p]?) (some (.cells D 55 (0, 0))) := ⟨(hB9.block p hp8).trans HD8.out⟩
  have HE9 : Is (w9.heap[q]?) (some (.cells D 55 (0, 0))) := ⟨(hB9.block q hq8).trans HE8.out⟩
  have HS9 : Hid (Below (g + 1) w1 w9) := hold_call HS8.out hl1 hB9
  have HT9 : Hid (Tab w9) := HTb.out _ HS9.out
  clear hB9 SM HL8 HM8 HD8 HE8 HS8
  go_wp2_with (first | (refine load_met (by rfl) 55 _ rfl _ rfl 55 D (0, 0) _ HD9.eq Tryd.underlying55 rfl (by rw [size55, HZd.eq]) ?_) | (refine load_met (by rfl) 55 _ rfl _ rfl 55 D (0, 0) _ HE9.eq Tryd.underlying55 rfl (by rw [size55, HZd.eq]) ?_) | (go_at_call 14; refine (WK.out _ HT9.out).mono ?_; rintro e w10 ⟨rfl, hB10⟩; have HS10 : Hid (Below (g + 1) w1 w10) := hold_call HS9.out hl1 hB10; clear hB10))
  go_ret
  exact ⟨rfl, by rw [HG.eq]; exact HG.eq ▸ HBb.out _ HS10.out⟩
end Go.Proofs.YtealbeblkilibaaDoor
