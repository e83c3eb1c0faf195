/- Proved: the law InodeBack returns true, whatever comes in. -/
import Derived.Test.YtealbeblkilibaaDoorK01
import Derived.Test.YtealbeblkilibaaDoorK03
import Derived.Test.YtealbeblkilibaaDoorJ03
import Derived.Test.YtealbeblkilibaaDoorJ08
import Derived.Test.YtealbeblkilibaaDoorK04
namespace Go.Proofs.YtealbeblkilibaaDoor
open Go.RowKit
open Ino (Nd Ar Pt)
open FI (Fv fv0 FieldsL fcells heldTake heldOne)
theorem back_enc {l : List Fv} (h : FI.Dec (FI.enc l) l) (hl : l.length ≤ 10) (q : Option Addr) (c : Nat) (W : World) (hF : FieldsL W q l.length l) :
    Calls Tryd.prog 33 #[.slice q l.length c] W fun e w' => e = .returned (.tuple #[.string (FI.encS l), .int .i64 0]) ∧ Below W.heap.size W w' := by
  have h1 := FI.enc_any q l.length c l W hF (by omega)
  rw [FI.dec_enc h] at h1
  exact h1
theorem back_dec {l : List Fv} (h : FI.Dec (FI.enc l) l) (W : World) :
    Calls Tryd.prog 34 #[.string (FI.encS l)] W fun e w' => ∃ v, e = .returned (.tuple #[v, .int .i64 0]) ∧ w'.ownsRow W.heap.size 79 4 v l.length (l.flatMap fcells) ∧ Below W.heap.size W w' := by
  refine (FI.dec_any (FI.encS l) W (by have := FI.encS_size l; omega)).mono fun e w' hp => ?_
  have hb : FI.bl (FI.encS l) = FI.enc l := FI.encS_bl (FI.dec_enc h)
  rcases hp with ⟨l2, v, hd, he, ho, hB⟩ | ⟨hno, _, _⟩
  · rw [hb] at hd
    have e2 := hd.one h
    subst e2
    exact ⟨v, he, ho, hB⟩
  · exact absurd (hb.symm ▸ h) (hno l)
theorem back_nd {n : Nd} (hn : NdIn n) (h0 : Ino.chk n = 0) : FI.Dec (FI.enc (encL n)) (encL n) ∧ Ino.decE (encL n) = 0 ∧ Ino.decN (encL n) = n := by
  have e : encL n = Ino.recN n := by unfold encL; rw [if_pos h0]
  have hl := (encL_good hn).len
  rw [e] at hl ⊢
  exact ⟨(Ino.recN_rise hn.sum h0).dec (by omega), (Ino.dec_back hn.sum h0).1, (Ino.dec_back hn.sum h0).2⟩
theorem back_ar {a : Ar} (ha : ArIn a) (h0 : Ino.chkA a = 0) : Ino.decAE (encA a) = 0 ∧ Ino.decA (encA a) = a := by
  have e : encA a = Ino.recA a := by unfold encA; rw [if_pos h0]
  rw [e]
  exact Ino.decA_back ha.sum h0
theorem back_path {p : ByteArray} (h0 : (Pm.kind (bl p)).2 = 0) : mk (Ino.pathS (Ino.keyL (bl p))) = p ∧ Ino.pathE (Ino.keyL (bl p)) = 0 := by
  have h := Ino.path_key h0
  constructor
  · unfold Ino.pathS; rw [h]; exact mk_bl p
  · unfold Ino.pathE; rw [h]; rfl
set_option maxHeartbeats 8000000 in
set_option maxRecDepth 20000 in
theorem back_walk (n : Nd) (a : Ar) (s : ByteArray) (w : World) (hn : NdIn n) (ha : ArIn a) (hs : s.size ≤ 9223372036854775807) (hT : Tab w) :
    Calls Tryd.prog 7 #[.agg (ndc n), .agg (arc a), .string s] w fun e w' => e = .returned (.bool true) ∧ Below w.heap.size w w' := by
  have hz0 := zero39
  have hz1 := zero55
  have WK : Hid (∀ W : World, Tab W → Calls Tryd.prog 14 #[] W fun e w' => e = .returned (.bool true) ∧ Below W.heap.size W w') := works_any
  have m0 : (0 : Int) ≤ min (s.size : Int) 200 := by omega
  have m1 : min (s.size : Int) 200 ≤ (s.size : Int) := by omega
  have HP2 : Hid ((s.extract 0 (min (s.size : Int) 200).toNat).size ≤ 200) := by
    show _ ≤ _
    rw [ByteArray.size_extract]; omega
  have HGn : Hid (Fit (encL n)) := (encL_good hn).fit
  have HGa : Hid (Fit (encA a)) := (encA_good ha).fit
  have HLn : Hid ((encL n).length ≤ 6) := (encL_good hn).len
  have HLa : Hid ((encA a).length ≤ 3) := (encA_good ha).len
  have EN : Hid (∀ W : World, Calls Tryd.prog 16 #[.agg (ndc n)] W fun e w' => ∃ v, e = .returned (.tuple #[v, .int .i64 (Ino.chk n : Nat)]) ∧ w'.ownsRow W.heap.size 79 4 v (encL n).length ((encL n).flatMap fcells) ∧ Below W.heap.size W w') := fun W => encode_any n W hn
  have AE : Hid (∀ W : World, Calls Tryd.prog 23 #[.agg (arc a)] W fun e w' => ∃ v, e = .returned (.tuple #[v, .int .i64 (Ino.chkA a : Nat)]) ∧ w'.ownsRow W.heap.size 79 4 v (encA a).length ((encA a).flatMap fcells) ∧ Below W.heap.size W w') := fun W => encodeA_any a W ha
  have FE : Hid (Ino.chk n = 0 → ∀ (W : World) (q : Option Addr) (c : Nat), FieldsL W q (encL n).length (encL n) → Calls Tryd.prog 33 #[.slice q (encL n).length c] W fun e w' => e = .returned (.tuple #[.string (FI.encS (encL n)), .int .i64 0]) ∧ Below W.heap.size W w') := fun h W q c hF => back_enc (back_nd hn h).1 (by have := HLn.out; omega) q c W hF
  have FD : Hid (Ino.chk n = 0 → ∀ W : World, Calls Tryd.prog 34 #[.string (FI.encS (encL n))] W fun e w' => ∃ v, e = .returned (.tuple #[v, .int .i64 0]) ∧ w'.ownsRow W.heap.size 79 4 v (encL n).length ((encL n).flatMap fcells) ∧ Below W.heap.size W w') := fun h W => back_dec (back_nd hn h).1 W
  have DE : Hid (Ino.chk n = 0 → ∀ (W : World) (q : Option Addr) (c : Nat), FieldsL W q (encL n).length (encL n) → Calls Tryd.prog 18 #[.slice q (encL n).length c] W fun e w' => e = .returned (.tuple #[.agg (ndc n), .int .i64 0]) ∧ Below W.heap.size W w') := fun h W q c hF => by
    have h1 := decode_any q _ c _ W hF (by have := HLn.out; omega)
    rw [(back_nd hn h).2.1, (back_nd hn h).2.2] at h1
    exact h1
  have AD : Hid (Ino.chkA a = 0 → ∀ (W : World) (q : Option Addr) (c : Nat), FieldsL W q (encA a).length (encA a) → Calls Tryd.prog 25 #[.slice q (encA a).length c] W fun e w' => e = .returned (.tuple #[.agg (arc a), .int .i64 0]) ∧ Below W.heap.size W w') := fun h W q c hF => by
    have h1 := decodeA_any q _ c _ W hF (by have := HLa.out; omega)
    rw [(back_ar ha h).1, (back_ar ha h).2] at h1
    exact h1
  have HNE : ∀ W : World, (binOp .neq 39 (.agg (ndc n)) (.agg (ndc n))).run Tryd.prog W = .ok (.bool false) W := fun W => by
    rw [run_neq_struct, nd_eq _ _ hn.sum hn.sum W, (Ino.same_iff _ _).2 rfl]; rfl
  have HNA : ∀ W : World, (binOp .neq 55 (.agg (arc a)) (.agg (arc a))).run Tryd.prog W = .ok (.bool false) W := fun W => by
    rw [run_neq_struct, ar_eq _ _ ha.sum ha.sum W, (Ino.samA_iff _ _).2 rfl]; rfl
  have HZn : Is (ndc Ino.zeroN).size 37 := ⟨ndc_size (by decide)⟩
  have HZa : Is (arc Ino.zeroA).size 34 := ⟨arc_size (by decide)⟩
  have HZC : Is (ndc n).size 37 := ⟨ndc_size hn.sum⟩
  have HZE : Is (arc a).size 34 := ⟨arc_size ha.sum⟩
  have H1 : Hid ((ndc n).all (·.oneCell') = true) := ndc_one _
  have H2 : Hid ((arc a).all (·.oneCell') = true) := arc_one _
  have hr0 : (w.alloc (.cells (ndc n) 39)).heap[w.heap.size]? = some (.cells (ndc n) 39 (0, 0)) := heap_alloc_new w _
  have hrN : ((w.alloc (.cells (ndc n) 39)).alloc (.cells (arc a) 55)).heap[w.heap.size]? = some (.cells (ndc n) 39 (0, 0)) := (((Below.refl (w.heap.size + 1) (w.alloc (.cells (ndc n) 39))).alloc (by simp) _).block w.heap.size (by omega)).trans hr0
  have hrA : ((w.alloc (.cells (ndc n) 39)).alloc (.cells (arc a) 55)).heap[w.heap.size + 1]? = some (.cells (arc a) 55 (0, 0)) := by
    have h := heap_alloc_new (w.alloc (.cells (ndc n) 39)) (.cells (arc a) 55)
    rwa [FI.size_alloc1] at h
  have HB1 : Hid (Below w.heap.size w ((w.alloc (.cells (ndc n) 39)).alloc (.cells (arc a) 55))) := ((Below.refl _ w).alloc (Nat.le_refl _) _).alloc (by simp) _
  have hl1 : w.heap.size + 2 ≤ ((w.alloc (.cells (ndc n) 39)).alloc (.cells (arc a) 55)).heap.size := by simp
  have HT : Hid (Tab w) := hT
  clear hT hn ha hr0
  generalize ndc n = C at *
  generalize arc a = E at *
  generalize ndc Ino.zeroN = Zn at *
  generalize arc Ino.zeroA = Za at *
  generalize hce : Ino.chk n = ce at *
  generalize hca : Ino.chkA a = ca at *
  generalize FI.encS (encL n) = S at *
  generalize encL n = le at *
  generalize encA a = la at *
  clear hce hca
  go_enter Tryd.func7, Tryd.ntmps7
  go_upto_region 2 with fail
  generalize s.extract 0 (min (s.size : Int) 200).toNat = p at *
  clear m0 m1 hs
  have KE : Hid (∀ W : World, Tab W → Calls Tryd.prog 9 #[.string p] W fun e w' => ∃ v, e = .returned (.tuple #[v, .int .i64 ((Pm.kind (bl p)).2 : Nat)]) ∧ w'.ownsRow W.heap.size 24 3 v (Ino.keyL (bl p)).length ((Ino.keyL (bl p)).flatMap pcells) ∧ Below W.heap.size W w') := fun W hW => key_any p W (Nat.le_trans HP2.out (by omega)) hW
  have PA : Hid ((Pm.kind (bl p)).2 = 0 → ∀ (W : World) (q : Option Addr) (c : Nat), PartsL W q (Ino.keyL (bl p)).length (Ino.keyL (bl p)) → Tab W → Calls Tryd.prog 11 #[.slice q (Ino.keyL (bl p)).length c] W fun e w' => e = .returned (.tuple #[.string p, .int .i64 0]) ∧ Below W.heap.size W w') := fun h W q c hF hW => by
    have h1 := path_any q _ c _ W hF (by have := split_small (bl p); rw [keyL_length]; omega) (fun x hx => by have := Ino.key_sizes p x hx; have := HP2.out; omega) hW
    rw [(back_path h).1, (back_path h).2] at h1
    exact h1
  generalize (Pm.kind (bl p)).2 = pe at *
  generalize Ino.keyL (bl p) = L at *
  generalize (w.alloc (.cells C 39)).alloc (.cells E 55) = w1 at *
  have HBb : Hid (∀ W : World, Below (w.heap.size + 2) w1 W → Below w.heap.size w W) := fun W h => HB1.out.trans (h.mono (by omega))
  have HTb : Hid (∀ W : World, Below (w.heap.size + 2) w1 W → Tab W) := fun W h => HT.out.below (HBb.out W h)
  generalize hg : w.heap.size = g at *
  have HG : Is w.heap.size g := ⟨hg⟩
  have HRN : Hid (∀ W : World, Below (g + 2) w1 W → W.heap[g]? = some (.cells C 39 (0, 0))) := fun W h => (h.block g (by omega)).trans hrN
  have HRA : Hid (∀ W : World, Below (g + 2) w1 W → W.heap[g + 1]? = some (.cells E 55 (0, 0))) := fun W h => (h.block (g + 1) (by omega)).trans hrA
  clear hg hrN hrA HB1 HT
  have b3 : (p.toList == p.toList) = true := by simp
  have hC1 := HRN.out _ (Below.refl _ w1)
  go_wp2_with (first | (refine load_met (by rfl) 39 _ rfl _ rfl 39 C (0, 0) _ hC1 Tryd.underlying39 rfl (by rw [size39, HZC.eq]) ?_))
  refine (EN.out _).mono ?_
  rintro e w2 ⟨v2, rfl, ho2, hB2⟩
  obtain ⟨aL, cL, rfl, hcL, hFL⟩ := FI.own_fields ho2 HGn.out
  have HL2 : Hid (FieldsL w2 aL le.length le) := hFL
  have HS2 : Hid (Below (g + 2) w1 w2) := hB2.mono hl1
  clear ho2 hFL hB2 EN hC1 hcL
  by_cases n0 : ce = 0
  · subst n0
    have b4 : (((0 : Nat) : Int) == 0) = true := rfl
    go_wp2_with fail
    refine (FE.out (by trivial) _ _ _ HL2.out).mono ?_
    rintro e w3 ⟨rfl, hB3⟩
    have HS3 : Hid (Below (g + 2) w1 w3) := hold_call HS2.out hl1 hB3
    clear hB3 HL2 HS2 FE
    go_wp2_with fail
    refine (FD.out (by trivial) _).mono ?_
    rintro e w4 ⟨v4, rfl, ho4, hB4⟩
    obtain ⟨aM, cM, rfl, hcM, hFM⟩ := FI.own_fields ho4 HGn.out
    have HM4 : Hid (FieldsL w4 aM le.length le) := hFM
    have HS4 : Hid (Below (g + 2) w1 w4) := hold_call HS3.out hl1 hB4
    clear ho4 hFM hB4 HS3 FD hcM
    go_wp2_with fail
    refine (DE.out (by trivial) _ _ _ HM4.out).mono ?_
    rintro e w5 ⟨rfl, hB5⟩
    have HS5 : Hid (Below (g + 2) w1 w5) := hold_call HS4.out hl1 hB5
    clear hB5 HS4 HM4 DE
    go_upto_region 7 with (first | (refine wpList_store_row rfl 39 (.tmp 13) (.tmp 48) rfl w5.heap.size C rfl rfl 39 Zn (heap_alloc_new w5 _) (by rw [size39, HZC.eq]) (by rw [HZn.eq, HZC.eq]) H1.out ?_; rw [World.setRow_alloc_new]))
    have hb6 : Below w5.heap.size w5 (w5.alloc (.cells C 39)) := (Below.refl _ _).alloc (Nat.le_refl _) _
    have HSw6 : Hid (Below (g + 2) w1 (w5.alloc (.cells C 39))) := hold_call HS5.out hl1 hb6
    have HD6 : Is ((w5.alloc (.cells C 39)).heap[w5.heap.size]?) (some (.cells C 39 (0, 0))) := ⟨heap_alloc_new w5 _⟩
    clear hb6 HS5
    generalize w5.alloc (.cells C 39) = w6 at *
    generalize w5.heap.size = np at *
    clear w5
    have hC6 := HRN.out _ HSw6.out
    go_upto_region 9 with (first | (refine load_met (by rfl) 39 _ rfl _ rfl 39 C (0, 0) _ HD6.eq Tryd.underlying39 rfl (by rw [size39, HZC.eq]) ?_) | (refine load_met (by rfl) 39 _ rfl _ rfl 39 C (0, 0) _ hC6 Tryd.underlying39 rfl (by rw [size39, HZC.eq]) ?_))
    clear HD6 hC6
    have hE1 := HRA.out _ HSw6.out
    go_wp2_with (first | (refine load_met (by rfl) 55 _ rfl _ rfl 55 E (0, 0) _ hE1 Tryd.underlying55 rfl (by rw [size55, HZE.eq]) ?_))
    refine (AE.out _).mono ?_
    rintro e x2 ⟨v3, rfl, ho3, hB3⟩
    obtain ⟨aA, cA, rfl, hcA, hFA⟩ := FI.own_fields ho3 HGa.out
    have HA2 : Hid (FieldsL x2 aA la.length la) := hFA
    have HSx2 : Hid (Below (g + 2) w1 x2) := hold_call HSw6.out hl1 hB3
    clear ho3 hFA hB3 AE hE1 hcA HGa HSw6
    by_cases a0 : ca = 0
    · subst a0
      have b6 : (((0 : Nat) : Int) == 0) = true := rfl
      go_wp2_with fail
      refine (AD.out (by trivial) _ _ _ HA2.out).mono ?_
      rintro e x3 ⟨rfl, hB4⟩
      have HSx3 : Hid (Below (g + 2) w1 x3) := hold_call HSx2.out hl1 hB4
      clear hB4 HA2 HSx2 AD
      go_upto_region 12 with (first | (refine wpList_store_row rfl 55 (.tmp 17) (.tmp 75) rfl x3.heap.size E rfl rfl 55 Za (heap_alloc_new x3 _) (by rw [size55, HZE.eq]) (by rw [HZa.eq, HZE.eq]) H2.out ?_; rw [World.setRow_alloc_new]))
      have hb6 : Below x3.heap.size x3 (x3.alloc (.cells E 55)) := (Below.refl _ _).alloc (Nat.le_refl _) _
      have HSx4 : Hid (Below (g + 2) w1 (x3.alloc (.cells E 55))) := hold_call HSx3.out hl1 hb6
      have HD6 : Is ((x3.alloc (.cells E 55)).heap[x3.heap.size]?) (some (.cells E 55 (0, 0))) := ⟨heap_alloc_new x3 _⟩
      clear hb6 HSx3
      generalize x3.alloc (.cells E 55) = x4 at *
      generalize x3.heap.size = ap at *
      clear x3
      have hE4 := HRA.out _ HSx4.out
      go_upto_region 14 with (first | (refine load_met (by rfl) 55 _ rfl _ rfl 55 E (0, 0) _ HD6.eq Tryd.underlying55 rfl (by rw [size55, HZE.eq]) ?_) | (refine load_met (by rfl) 55 _ rfl _ rfl 55 E (0, 0) _ hE4 Tryd.underlying55 rfl (by rw [size55, HZE.eq]) ?_))
      clear HD6 hE4
      have HTx4 : Hid (Tab x4) := HTb.out _ HSx4.out
      go_wp2_with fail
      refine (KE.out _ HTx4.out).mono ?_
      rintro e k1 ⟨kv, rfl, hok, hBk⟩
      obtain ⟨aK, cK, rfl, hcK, hPK⟩ := own_parts hok
      have HPK : Hid (PartsL k1 aK L.length L) := hPK
      have HK1 : Hid (Below (g + 2) w1 k1) := hold_call HSx4.out hl1 hBk
      have HTK : Hid (Tab k1) := HTb.out _ HK1.out
      clear hok hPK hBk hcK HSx4 HTx4 KE
      by_cases k0 : pe = 0
      · subst k0
        have b5 : (((0 : Nat) : Int) == 0) = true := rfl
        go_wp2_with fail
        refine (PA.out (by trivial) _ _ _ HPK.out HTK.out).mono ?_
        rintro e k2 ⟨rfl, hBk⟩
        have HK2 : Hid (Below (g + 2) w1 k2) := hold_call HK1.out hl1 hBk
        have HT2 : Hid (Tab k2) := HTb.out _ HK2.out
        clear hBk HPK HTK HK1 PA
        go_wp2_with (first | (go_at_call 14; refine (WK.out _ HT2.out).mono ?_; rintro e w10 ⟨rfl, hB10⟩; have HS10 : Hid (Below (g + 2) w1 w10) := hold_call HK2.out hl1 hB10; clear hB10))
        go_ret
        exact ⟨rfl, by rw [HG.eq]; exact HG.eq ▸ HBb.out _ HS10.out⟩
      · have k1i : ¬ (pe : Int) = 0 := by omega
        go_wp2_with (first | (go_at_call 14; refine (WK.out _ HTK.out).mono ?_; rintro e w10 ⟨rfl, hB10⟩; have HS10 : Hid (Below (g + 2) w1 w10) := hold_call HK1.out hl1 hB10; clear hB10))
        go_ret
        exact ⟨rfl, by rw [HG.eq]; exact HG.eq ▸ HBb.out _ HS10.out⟩
    · have a1i : ¬ (ca : Int) = 0 := by omega
      clear HA2 AD
      have HTx2 : Hid (Tab x2) := HTb.out _ HSx2.out
      go_wp2_with fail
      refine (KE.out _ HTx2.out).mono ?_
      rintro e k1 ⟨kv, rfl, hok, hBk⟩
      obtain ⟨aK, cK, rfl, hcK, hPK⟩ := own_parts hok
      have HPK : Hid (PartsL k1 aK L.length L) := hPK
      have HK1 : Hid (Below (g + 2) w1 k1) := hold_call HSx2.out hl1 hBk
      have HTK : Hid (Tab k1) := HTb.out _ HK1.out
      clear hok hPK hBk hcK HSx2 HTx2 KE
      by_cases k0 : pe = 0
      · subst k0
        have b5 : (((0 : Nat) : Int) == 0) = true := rfl
        go_wp2_with fail
        refine (PA.out (by trivial) _ _ _ HPK.out HTK.out).mono ?_
        rintro e k2 ⟨rfl, hBk⟩
        have HK2 : Hid (Below (g + 2) w1 k2) := hold_call HK1.out hl1 hBk
        have HT2 : Hid (Tab k2) := HTb.out _ HK2.out
        clear hBk HPK HTK HK1 PA
        go_wp2_with (first | (go_at_call 14; refine (WK.out _ HT2.out).mono ?_; rintro e w10 ⟨rfl, hB10⟩; have HS10 : Hid (Below (g + 2) w1 w10) := hold_call HK2.out hl1 hB10; clear hB10))
        go_ret
        exact ⟨rfl, by rw [HG.eq]; exact HG.eq ▸ HBb.out _ HS10.out⟩
      · have k1i : ¬ (pe : Int) = 0 := by omega
        go_wp2_with (first | (go_at_call 14; refine (WK.out _ HTK.out).mono ?_; rintro e w10 ⟨rfl, hB10⟩; have HS10 : Hid (Below (g + 2) w1 w10) := hold_call HK1.out hl1 hB10; clear hB10))
        go_ret
        exact ⟨rfl, by rw [HG.eq]; exact HG.eq ▸ HBb.out _ HS10.out⟩
  · have n1i : ¬ (ce : Int) = 0 := by omega
    clear HL2 FE FD DE
    have HSw2 := HS2
    have hE1 := HRA.out _ HSw2.out
    go_wp2_with (first | (refine load_met (by rfl) 55 _ rfl _ rfl 55 E (0, 0) _ hE1 Tryd.underlying55 rfl (by rw [size55, HZE.eq]) ?_))
    refine (AE.out _).mono ?_
    rintro e x2 ⟨v3, rfl, ho3, hB3⟩
    obtain ⟨aA, cA, rfl, hcA, hFA⟩ := FI.own_fields ho3 HGa.out
    have HA2 : Hid (FieldsL x2 aA la.length la) := hFA
    have HSx2 : Hid (Below (g + 2) w1 x2) := hold_call HSw2.out hl1 hB3
    clear ho3 hFA hB3 AE hE1 hcA HGa HSw2
    by_cases a0 : ca = 0
    · subst a0
      have b6 : (((0 : Nat) : Int) == 0) = true := rfl
      go_wp2_with fail
      refine (AD.out (by trivial) _ _ _ HA2.out).mono ?_
      rintro e x3 ⟨rfl, hB4⟩
      have HSx3 : Hid (Below (g + 2) w1 x3) := hold_call HSx2.out hl1 hB4
      clear hB4 HA2 HSx2 AD
      go_upto_region 12 with (first | (refine wpList_store_row rfl 55 (.tmp 17) (.tmp 75) rfl x3.heap.size E rfl rfl 55 Za (heap_alloc_new x3 _) (by rw [size55, HZE.eq]) (by rw [HZa.eq, HZE.eq]) H2.out ?_; rw [World.setRow_alloc_new]))
      have hb6 : Below x3.heap.size x3 (x3.alloc (.cells E 55)) := (Below.refl _ _).alloc (Nat.le_refl _) _
      have HSx4 : Hid (Below (g + 2) w1 (x3.alloc (.cells E 55))) := hold_call HSx3.out hl1 hb6
      have HD6 : Is ((x3.alloc (.cells E 55)).heap[x3.heap.size]?) (some (.cells E 55 (0, 0))) := ⟨heap_alloc_new x3 _⟩
      clear hb6 HSx3
      generalize x3.alloc (.cells E 55) = x4 at *
      generalize x3.heap.size = ap at *
      clear x3
      have hE4 := HRA.out _ HSx4.out
      go_upto_region 14 with (first | (refine load_met (by rfl) 55 _ rfl _ rfl 55 E (0, 0) _ HD6.eq Tryd.underlying55 rfl (by rw [size55, HZE.eq]) ?_) | (refine load_met (by rfl) 55 _ rfl _ rfl 55 E (0, 0) _ hE4 Tryd.underlying55 rfl (by rw [size55, HZE.eq]) ?_))
      clear HD6 hE4
      have HTx4 : Hid (Tab x4) := HTb.out _ HSx4.out
      go_wp2_with fail
      refine (KE.out _ HTx4.out).mono ?_
      rintro e k1 ⟨kv, rfl, hok, hBk⟩
      obtain ⟨aK, cK, rfl, hcK, hPK⟩ := own_parts hok
      have HPK : Hid (PartsL k1 aK L.length L) := hPK
      have HK1 : Hid (Below (g + 2) w1 k1) := hold_call HSx4.out hl1 hBk
      have HTK : Hid (Tab k1) := HTb.out _ HK1.out
      clear hok hPK hBk hcK HSx4 HTx4 KE
      by_cases k0 : pe = 0
      · subst k0
        have b5 : (((0 : Nat) : Int) == 0) = true := rfl
        go_wp2_with fail
        refine (PA.out (by trivial) _ _ _ HPK.out HTK.out).mono ?_
        rintro e k2 ⟨rfl, hBk⟩
        have HK2 : Hid (Below (g + 2) w1 k2) := hold_call HK1.out hl1 hBk
        have HT2 : Hid (Tab k2) := HTb.out _ HK2.out
        clear hBk HPK HTK HK1 PA
        go_wp2_with (first | (go_at_call 14; refine (WK.out _ HT2.out).mono ?_; rintro e w10 ⟨rfl, hB10⟩; have HS10 : Hid (Below (g + 2) w1 w10) := hold_call HK2.out hl1 hB10; clear hB10))
        go_ret
        exact ⟨rfl, by rw [HG.eq]; exact HG.eq ▸ HBb.out _ HS10.out⟩
      · have k1i : ¬ (pe : Int) = 0 := by omega
        go_wp2_with (first | (go_at_call 14; refine (WK.out _ HTK.out).mono ?_; rintro e w10 ⟨rfl, hB10⟩; have HS10 : Hid (Below (g + 2) w1 w10) := hold_call HK1.out hl1 hB10; clear hB10))
        go_ret
        exact ⟨rfl, by rw [HG.eq]; exact HG.eq ▸ HBb.out _ HS10.out⟩
    · have a1i : ¬ (ca : Int) = 0 := by omega
      clear HA2 AD
      have HTx2 : Hid (Tab x2) := HTb.out _ HSx2.out
      go_wp2_with fail
      refine (KE.out _ HTx2.out).mono ?_
      rintro e k1 ⟨kv, rfl, hok, hBk⟩
      obtain ⟨aK, cK, rfl, hcK, hPK⟩ := own_parts hok
      have HPK : Hid (PartsL k1 aK L.length L) := hPK
      have HK1 : Hid (Below (g + 2) w1 k1) := hold_call HSx2.out hl1 hBk
      have HTK : Hid (Tab k1) := HTb.out _ HK1.out
      clear hok hPK hBk hcK HSx2 HTx2 KE
      by_cases k0 : pe = 0
      · subst k0
        have b5 : (((0 : Nat) : Int) == 0) = true := rfl
        go_wp2_with fail
        refine (PA.out (by trivial) _ _ _ HPK.out HTK.out).mono ?_
        rintro e k2 ⟨rfl, hBk⟩
        have HK2 : Hid (Below (g + 2) w1 k2) := hold_call HK1.out hl1 hBk
        have HT2 : Hid (Tab k2) := HTb.out _ HK2.out
        clear hBk HPK HTK HK1 PA
        go_wp2_with (first | (go_at_call 14; refine (WK.out _ HT2.out).mono ?_; rintro e w10 ⟨rfl, hB10⟩; have HS10 : Hid (Below (g + 2) w1 w10) := hold_call HK2.out hl1 hB10; clear hB10))
        go_ret
        exact ⟨rfl, by rw [HG.eq]; exact HG.eq ▸ HBb.out _ HS10.out⟩
      · have k1i : ¬ (pe : Int) = 0 := by omega
        go_wp2_with (first | (go_at_call 14; refine (WK.out _ HTK.out).mono ?_; rintro e w10 ⟨rfl, hB10⟩; have HS10 : Hid (Below (g + 2) w1 w10) := hold_call HK1.out hl1 hB10; clear hB10))
        go_ret
        exact ⟨rfl, by rw [HG.eq]; exact HG.eq ▸ HBb.out _ HS10.out⟩
end Go.Proofs.YtealbeblkilibaaDoor
