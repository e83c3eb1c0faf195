/- Proved: the law InodeKeys returns true, whatever comes in. -/
import Derived.Test.YtealbeblkilibaaDoorJ12
import Derived.Test.YtealbeblkilibaaDoorJ13
namespace Go.Proofs.YtealbeblkilibaaDoor
open Go.RowKit
open Ino (Pt)
def cutP (x : Pt) : Pt := ⟨x.kind, x.n, x.s.extract 0 (min (x.s.size : Int) 60).toNat⟩
def cutK (ps : List Pt) : List Pt := (ps.take 12).map cutP
theorem cutP_size (x : Pt) : (cutP x).s.size ≤ 60 := by
  show (x.s.extract 0 (min (x.s.size : Int) 60).toNat).size ≤ 60
  rw [ByteArray.size_extract]; omega
theorem cutK_size (ps : List Pt) : ∀ x ∈ cutK ps, x.s.size ≤ 60 := fun x hx => by
  obtain ⟨y, _, rfl⟩ := List.mem_map.1 hx
  exact cutP_size y
theorem cutK_step (ps : List Pt) (k : Nat) (hk : k < ps.length) : (ps.take (k + 1)).map cutP = (ps.take k).map cutP ++ [cutP (ps.getD k pt0)] := by
  rw [take_getD ps k hk]; simp
set_option maxHeartbeats 2000000 in
set_option maxRecDepth 20000 in
theorem keys_walk (s : ByteArray) (a : Option Addr) (len cap : Nat) (ps : List Pt) (w : World) (hs : s.size ≤ 9223372036854775807) (hP : PartsL w a len ps) (hlen : len ≤ 9223372036854775807) (hsz : ∀ x ∈ ps, x.s.size ≤ 9223372036854775807) (hT : Tab w) :
    Calls Tryd.prog 3 #[.string s, .slice a len cap] w fun e w' => e = .returned (.bool true) ∧ Below w.heap.size w w' := by
  have HT : Hid (Tab w) := hT
  have HP : Hid (PartsL w a len ps) := hP
  have HSZ : Hid (∀ x ∈ ps, x.s.size ≤ 9223372036854775807) := hsz
  have m0 : (0 : Int) ≤ min (s.size : Int) 200 := by omega
  have m1 : min (s.size : Int) 200 ≤ (s.size : Int) := by omega
  have HP2 : Hid ((s.extract 0 (min (s.size : Int) 200).toNat).size ≤ 200) := by
    show _ ≤ _
    rw [ByteArray.size_extract]; omega
  clear hT hP hsz
  go_enter Tryd.func3, Tryd.ntmps3
  go_upto_region 2 with fail
  generalize s.extract 0 (min (s.size : Int) 200).toNat = p at *
  clear m0 m1
  go_wp2_with fail
  go_loopw [5, 6] (fun v5 i wr => ∃ (k : Nat) (V : Value), k ≤ len ∧ k ≤ 12 ∧ i = .int .i64 k ∧ V = v5 ∧ wr.ownsRow w.heap.size 24 3 V k (((ps.take k).map cutP).flatMap pcells) ∧ Below w.heap.size w wr) (fun _ i _ => 12 - (intOf i).toNat)
  case atStart => exact ⟨0, _, by omega, by omega, rfl, rfl, own_nil _ _, Below.refl _ _⟩
  case round =>
    obtain ⟨k, V, hk, hk12, rfl, rfl, hO, hB⟩ := hrel
    have HO : Hid (wr.ownsRow w.heap.size 24 3 V k (((ps.take k).map cutP).flatMap pcells)) := hO
    have HB : Hid (Below w.heap.size w wr) := hB
    have hsw := hB.size
    clear hO hB
    by_cases hlt : k < len
    · have i0 : (k : Int) < (len : Int) := by omega
      by_cases h12 : k < 12
      · have i1 : (k : Int) < 12 := by omega
        have j0 : (0 : Int) ≤ (k : Int) := Int.natCast_nonneg _
        obtain ⟨b, off, rfl, hc⟩ : ∃ b off, a = some ⟨b, off, none⟩ ∧ ∀ i, i < len → PartAt w b (off + i * 3) (ps.getD i pt0) := by
          rcases HP.out.2 with h | h
          · omega
          · exact h
        obtain ⟨d0, d1, d2⟩ := (hc k hlt).below HB.out (block_lt_of_cell (hc k hlt).kind)
        have hkl : k < ps.length := by rw [HP.out.1]; exact hlt
        have HE : Is ((ps.take (k + 1)).map cutP) ((ps.take k).map cutP ++ [cutP (ps.getD k pt0)]) := ⟨cutK_step ps k hkl⟩
        clear hc
        generalize ps.getD k pt0 = x at *
        obtain ⟨xk, xn, xs⟩ := x
        have HX : Is (cutP ⟨xk, xn, xs⟩) ⟨xk, xn, xs.extract 0 (min (xs.size : Int) 60).toNat⟩ := ⟨rfl⟩
        rw [HX.eq] at HE
        clear HX
        simp only at d0 d1 d2
        have q0 : (0 : Int) ≤ min (xs.size : Int) 60 := by omega
        have q1 : min (xs.size : Int) 60 ≤ (xs.size : Int) := by omega
        go_upto_region 8 with fail
        have HB5 : Hid (Below w.heap.size w (wr.alloc (.cells #[.int .i64 xk, .int .i64 xn, .string (xs.extract 0 (min (xs.size : Int) 60).toNat)] 24))) := HB.out.trans (((Below.refl _ wr).alloc (Nat.le_refl _) _).mono hsw)
        have HP5 : Hid (PartAt (wr.alloc (.cells #[.int .i64 xk, .int .i64 xn, .string (xs.extract 0 (min (xs.size : Int) 60).toNat)] 24)) wr.heap.size 0 ⟨xk, xn, xs.extract 0 (min (xs.size : Int) 60).toNat⟩) := by
          have h := part_new wr ⟨xk, xn, xs.extract 0 (min (xs.size : Int) 60).toNat⟩
          exact ⟨h 0 _ rfl, h 1 _ rfl, h 2 _ rfl⟩
        have HO5 : Hid ((wr.alloc (.cells #[.int .i64 xk, .int .i64 xn, .string (xs.extract 0 (min (xs.size : Int) 60).toNat)] 24)).ownsRow w.heap.size 24 3 V k (((ps.take k).map cutP).flatMap pcells)) := own_alloc1 HO.out _
        clear d0 d1 d2 q0 q1 HO HB
        generalize xs.extract 0 (min (xs.size : Int) 60).toNat = y at *
        generalize wr.alloc (.cells #[.int .i64 xk, .int .i64 xn, .string y] 24) = w5 at *
        generalize wr.heap.size = g at *
        obtain ⟨p0, p1, p2⟩ := HP5.out
        simp only [Nat.zero_add] at p0 p1 p2
        have hz5 := HB5.out.size
        go_wp2_with (first | (at_builtin; refine append_part rfl (.tmp 43) (.tmp 45) rfl _ w.heap.size _ k _ rfl (own_alloc1 HO5.out _) ⟨w5.heap.size, 0, none⟩ 1 ⟨xk, xn, y⟩ rfl (part_new w5 ⟨xk, xn, y⟩) (by omega) (by simp; omega) ?_; intro v8 w8 hO8 hB8; rw [← HE.eq] at hO8; have HF : Hid (w8.ownsRow w.heap.size 24 3 v8 (k + 1) (((ps.take (k + 1)).map cutP).flatMap pcells)) := hO8; have HBF : Hid (Below w.heap.size w w8) := HB5.out.trans ((((Below.refl _ w5).alloc (Nat.le_refl _) _).mono hz5).trans hB8); clear hO8 hB8 p0 p1 p2))
        go_roundw
        case rel => exact ⟨k + 1, _, by omega, by omega, by go_num, rfl, HF.out, HBF.out⟩
        case measure => (simp [intOf]) <;> omega
      · have hk2 : k = 12 := by omega
        have i1 : ¬ (k : Int) < 12 := by omega
        have HK : Is ((ps.take k).map cutP) (cutK ps) := ⟨by rw [hk2]; rfl⟩
        rw [HK.eq] at HO
        clear hk2
        have HKS : Hid (∀ x ∈ cutK ps, x.s.size ≤ 60) := cutK_size ps
        obtain ⟨ak, ck, rfl, hck, hPK⟩ := own_parts HO.out
        have HPK : Hid (PartsL wr ak k (cutK ps)) := hPK
        clear hPK HO HK HP HSZ
        have KE : Hid (∀ W : World, Tab W → Calls Tryd.prog 9 #[.string p] W fun e w' => ∃ v, e = .returned (.tuple #[v, .int .i64 ((Pm.kind (bl p)).2 : Nat)]) ∧ w'.ownsRow W.heap.size 24 3 v (Ino.keyL (bl p)).length ((Ino.keyL (bl p)).flatMap pcells) ∧ Below W.heap.size W w') := fun W hW => key_any p W (Nat.le_trans HP2.out (by omega)) hW
        have RK : Hid (∀ W : World, Calls Tryd.prog 10 #[.string p] W fun e w' => ∃ v, e = .returned (.tuple #[v, .int .i64 ((Pm.kind (bl p)).2 : Nat)]) ∧ w'.ownsRow W.heap.size 24 3 v (Ino.keyL (bl p)).length ((Ino.keyL (bl p)).flatMap pcells) ∧ Below W.heap.size W w') := fun W => rkey_any p W (Nat.le_trans HP2.out (by omega))
        have PA : Hid (∀ W : World, PartsL W ak k (cutK ps) → Tab W → Calls Tryd.prog 11 #[.slice ak k ck] W fun e w' => e = .returned (.tuple #[.string (mk (Ino.pathS (cutK ps))), .int .i64 (Ino.pathE (cutK ps) : Nat)]) ∧ Below W.heap.size W w') := fun W h hW => path_any ak k ck (cutK ps) W h (by omega) (fun x hx => by have := HKS.out x hx; omega) hW
        have RP : Hid (∀ W : World, PartsL W ak k (cutK ps) → Calls Tryd.prog 12 #[.slice ak k ck] W fun e w' => e = .returned (.tuple #[.string (mk (Ino.pathS (cutK ps))), .int .i64 (Ino.pathE (cutK ps) : Nat)]) ∧ Below W.heap.size W w') := fun W h => rpath_any ak k ck (cutK ps) W h (by omega) (fun x hx => by have := HKS.out x hx; omega)
        have hK8 := split_small (bl p)
        rw [← keyL_length] at hK8
        have WK : Hid (∀ W : World, Tab W → Calls Tryd.prog 14 #[] W fun e w' => e = .returned (.bool true) ∧ Below W.heap.size W w') := works_any
        generalize Ino.keyL (bl p) = L at *
        have SM : Hid (∀ (W : World) (a1 a2 : Option Addr) (c1 c2 : Nat), PartsL W a1 L.length L → PartsL W a2 L.length L → Calls Tryd.prog 13 #[.slice a1 L.length c1, .slice a2 L.length c2] W fun e w' => e = .returned (.bool true) ∧ Below W.heap.size W w') := fun W a1 a2 c1 c2 h1 h2 => samep_yes a1 L.length c1 a2 c2 L W h1 h2 (by omega)
        generalize mk (Ino.pathS (cutK ps)) = q at *
        generalize Ino.pathE (cutK ps) = qe at *
        generalize (Pm.kind (bl p)).2 = pe at *
        generalize cutK ps = K at *
        have HT1 : Hid (Tab wr) := HT.out.below HB.out
        go_wp2_with fail
        refine (KE.out _ HT1.out).mono ?_
        rintro e w1 ⟨v1, rfl, ho1, hB1⟩
        obtain ⟨a1, c1, rfl, hc1, hL1⟩ := own_parts ho1
        have HL1 : Hid (PartsL w1 a1 L.length L) := hL1
        have HB1 : Hid (Below w.heap.size w w1) := HB.out.trans (hB1.mono hsw)
        have HPK1 : Hid (PartsL w1 ak k K) := HPK.out.below hB1
        have hz1 := HB1.out.size
        clear ho1 hL1 hB1 KE HT1
        go_wp2_with fail
        refine (RK.out _).mono ?_
        rintro e w2 ⟨v2, rfl, ho2, hB2⟩
        obtain ⟨a2, c2, rfl, hc2, hL2⟩ := own_parts ho2
        have HL2 : Hid (PartsL w2 a2 L.length L) := hL2
        have HL12 : Hid (PartsL w2 a1 L.length L) := HL1.out.below hB2
        have HB2 : Hid (Below w.heap.size w w2) := HB1.out.trans (hB2.mono hz1)
        have HPK2 : Hid (PartsL w2 ak k K) := HPK1.out.below hB2
        have HT2 : Hid (Tab w2) := HT.out.below HB2.out
        have hz2 := HB2.out.size
        clear ho2 hL2 hB2 RK HL1 HPK1
        go_wp2_with fail
        refine (PA.out _ HPK2.out HT2.out).mono ?_
        rintro e w3 ⟨rfl, hB3⟩
        have HL3 : Hid (PartsL w3 a1 L.length L) := HL12.out.below hB3
        have HL4 : Hid (PartsL w3 a2 L.length L) := HL2.out.below hB3
        have HPK3 : Hid (PartsL w3 ak k K) := HPK2.out.below hB3
        have HB3 : Hid (Below w.heap.size w w3) := HB2.out.trans (hB3.mono hz2)
        have hz3 := HB3.out.size
        clear hB3 PA HPK2 HL12 HL2 HT2
        go_wp2_with fail
        refine (RP.out _ HPK3.out).mono ?_
        rintro e w4 ⟨rfl, hB4⟩
        have HL5 : Hid (PartsL w4 a1 L.length L) := HL3.out.below hB4
        have HL6 : Hid (PartsL w4 a2 L.length L) := HL4.out.below hB4
        have HB4 : Hid (Below w.heap.size w w4) := HB3.out.trans (hB4.mono hz3)
        have hz4 := HB4.out.size
        clear hB4 RP HPK3 HL3 HL4
        go_wp2_with fail
        refine (SM.out _ _ _ _ _ HL5.out HL6.out).mono ?_
        rintro e w5 ⟨rfl, hB5⟩
        have HB5 : Hid (Below w.heap.size w w5) := HB4.out.trans (hB5.mono hz4)
        have HT5 : Hid (Tab w5) := HT.out.below HB5.out
        have hz5 := HB5.out.size
        have b1 : (((pe : Nat) : Int) == ((pe : Nat) : Int)) = true := by simp
        have b2 : (((qe : Nat) : Int) == ((qe : Nat) : Int)) = true := by simp
        have b3 : (q.toList == q.toList) = true := by simp
        clear hB5 SM HL5 HL6
        go_wp2_with (first | (go_at_call 14; refine (WK.out _ HT5.out).mono ?_; rintro e w6 ⟨rfl, hB6⟩; have HB6 : Hid (Below w.heap.size w w6) := HB5.out.trans (hB6.mono hz5); clear hB6))
        go_ret
        exact ⟨rfl, HB6.out⟩
    · have i0 : ¬ (k : Int) < (len : Int) := by omega
      have hk2 : ps.length ≤ k := by rw [HP.out.1]; omega
      have HK : Is ((ps.take k).map cutP) (cutK ps) := ⟨by unfold cutK; rw [List.take_of_length_le hk2, List.take_of_length_le (by omega)]⟩
      rw [HK.eq] at HO
      clear hk2
      have HKS : Hid (∀ x ∈ cutK ps, x.s.size ≤ 60) := cutK_size ps
      obtain ⟨ak, ck, rfl, hck, hPK⟩ := own_parts HO.out
      have HPK : Hid (PartsL wr ak k (cutK ps)) := hPK
      clear hPK HO HK HP HSZ
      have KE : Hid (∀ W : World, Tab W → Calls Tryd.prog 9 #[.string p] W fun e w' => ∃ v, e = .returned (.tuple #[v, .int .i64 ((Pm.kind (bl p)).2 : Nat)]) ∧ w'.ownsRow W.heap.size 24 3 v (Ino.keyL (bl p)).length ((Ino.keyL (bl p)).flatMap pcells) ∧ Below W.heap.size W w') := fun W hW => key_any p W (Nat.le_trans HP2.out (by omega)) hW
      have RK : Hid (∀ W : World, Calls Tryd.prog 10 #[.string p] W fun e w' => ∃ v, e = .returned (.tuple #[v, .int .i64 ((Pm.kind (bl p)).2 : Nat)]) ∧ w'.ownsRow W.heap.size 24 3 v (Ino.keyL (bl p)).length ((Ino.keyL (bl p)).flatMap pcells) ∧ Below W.heap.size W w') := fun W => rkey_any p W (Nat.le_trans HP2.out (by omega))
      have PA : Hid (∀ W : World, PartsL W ak k (cutK ps) → Tab W → Calls Tryd.prog 11 #[.slice ak k ck] W fun e w' => e = .returned (.tuple #[.string (mk (Ino.pathS (cutK ps))), .int .i64 (Ino.pathE (cutK ps) : Nat)]) ∧ Below W.heap.size W w') := fun W h hW => path_any ak k ck (cutK ps) W h (by omega) (fun x hx => by have := HKS.out x hx; omega) hW
      have RP : Hid (∀ W : World, PartsL W ak k (cutK ps) → Calls Tryd.prog 12 #[.slice ak k ck] W fun e w' => e = .returned (.tuple #[.string (mk (Ino.pathS (cutK ps))), .int .i64 (Ino.pathE (cutK ps) : Nat)]) ∧ Below W.heap.size W w') := fun W h => rpath_any ak k ck (cutK ps) W h (by omega) (fun x hx => by have := HKS.out x hx; omega)
      have hK8 := split_small (bl p)
      rw [← keyL_length] at hK8
      have WK : Hid (∀ W : World, Tab W → Calls Tryd.prog 14 #[] W fun e w' => e = .returned (.bool true) ∧ Below W.heap.size W w') := works_any
      generalize Ino.keyL (bl p) = L at *
      have SM : Hid (∀ (W : World) (a1 a2 : Option Addr) (c1 c2 : Nat), PartsL W a1 L.length L → PartsL W a2 L.length L → Calls Tryd.prog 13 #[.slice a1 L.length c1, .slice a2 L.length c2] W fun e w' => e = .returned (.bool true) ∧ Below W.heap.size W w') := fun W a1 a2 c1 c2 h1 h2 => samep_yes a1 L.length c1 a2 c2 L W h1 h2 (by omega)
      generalize mk (Ino.pathS (cutK ps)) = q at *
      generalize Ino.pathE (cutK ps) = qe at *
      generalize (Pm.kind (bl p)).2 = pe at *
      generalize cutK ps = K at *
      have HT1 : Hid (Tab wr) := HT.out.below HB.out
      go_wp2_with fail
      refine (KE.out _ HT1.out).mono ?_
      rintro e w1 ⟨v1, rfl, ho1, hB1⟩
      obtain ⟨a1, c1, rfl, hc1, hL1⟩ := own_parts ho1
      have HL1 : Hid (PartsL w1 a1 L.length L) := hL1
      have HB1 : Hid (Below w.heap.size w w1) := HB.out.trans (hB1.mono hsw)
      have HPK1 : Hid (PartsL w1 ak k K) := HPK.out.below hB1
      have hz1 := HB1.out.size
      clear ho1 hL1 hB1 KE HT1
      go_wp2_with fail
      refine (RK.out _).mono ?_
      rintro e w2 ⟨v2, rfl, ho2, hB2⟩
      obtain ⟨a2, c2, rfl, hc2, hL2⟩ := own_parts ho2
      have HL2 : Hid (PartsL w2 a2 L.length L) := hL2
      have HL12 : Hid (PartsL w2 a1 L.length L) := HL1.out.below hB2
      have HB2 : Hid (Below w.heap.size w w2) := HB1.out.trans (hB2.mono hz1)
      have HPK2 : Hid (PartsL w2 ak k K) := HPK1.out.below hB2
      have HT2 : Hid (Tab w2) := HT.out.below HB2.out
      have hz2 := HB2.out.size
      clear ho2 hL2 hB2 RK HL1 HPK1
      go_wp2_with fail
      refine (PA.out _ HPK2.out HT2.out).mono ?_
      rintro e w3 ⟨rfl, hB3⟩
      have HL3 : Hid (PartsL w3 a1 L.length L) := HL12.out.below hB3
      have HL4 : Hid (PartsL w3 a2 L.length L) := HL2.out.below hB3
      have HPK3 : Hid (PartsL w3 ak k K) := HPK2.out.below hB3
      have HB3 : Hid (Below w.heap.size w w3) := HB2.out.trans (hB3.mono hz2)
      have hz3 := HB3.out.size
      clear hB3 PA HPK2 HL12 HL2 HT2
      go_wp2_with fail
      refine (RP.out _ HPK3.out).mono ?_
      rintro e w4 ⟨rfl, hB4⟩
      have HL5 : Hid (PartsL w4 a1 L.length L) := HL3.out.below hB4
      have HL6 : Hid (PartsL w4 a2 L.length L) := HL4.out.below hB4
      have HB4 : Hid (Below w.heap.size w w4) := HB3.out.trans (hB4.mono hz3)
      have hz4 := HB4.out.size
      clear hB4 RP HPK3 HL3 HL4
      go_wp2_with fail
      refine (SM.out _ _ _ _ _ HL5.out HL6.out).mono ?_
      rintro e w5 ⟨rfl, hB5⟩
      have HB5 : Hid (Below w.heap.size w w5) := HB4.out.trans (hB5.mono hz4)
      have HT5 : Hid (Tab w5) := HT.out.below HB5.out
      have hz5 := HB5.out.size
      have b1 : (((pe : Nat) : Int) == ((pe : Nat) : Int)) = true := by simp
      have b2 : (((qe : Nat) : Int) == ((qe : Nat) : Int)) = true := by simp
      have b3 : (q.toList == q.toList) = true := by simp
      clear hB5 SM HL5 HL6
      go_wp2_with (first | (go_at_call 14; refine (WK.out _ HT5.out).mono ?_; rintro e w6 ⟨rfl, hB6⟩; have HB6 : Hid (Below w.heap.size w w6) := HB5.out.trans (hB6.mono hz5); clear hB6))
      go_ret
      exact ⟨rfl, HB6.out⟩
end Go.Proofs.YtealbeblkilibaaDoor
