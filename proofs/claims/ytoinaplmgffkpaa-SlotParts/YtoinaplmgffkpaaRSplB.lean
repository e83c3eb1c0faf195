/- Proved: what the document's Split answers of a branch (stage 11). -/
import Derived.Test.YtoinaplmgffkpaaRSplH
import Derived.Test.YtoinaplmgffkpaaRBtB
namespace Go.Proofs.Ytoinaplmgffkpaa
open Go.RowKit
open Sl (Cel Nod)
set_option maxHeartbeats 8000000 in
set_option maxRecDepth 20000 in
theorem rsplit_branch (n : Nod) (p : Pt) (w : World) (hN : Lies w n p) (hF : Fit n) (hm : Sl.may n = true) (hf : n.leaf = false) (hl : 3 ≤ n.keys.length) :
    Calls Try.prog 20 #[nv n p] w (RsPost w n) := by
  have HOK := (show Hid (spOk n = true) from spOk_yes hm (by rw [spN_branch hf]; omega))
  have HYE0 := (show Hid (∀ (e : Ending) (w' : World) (p1 p2 : Pt), spOk n = true → e = .returned (.tuple #[nv (ctL n (spP n)) p1, nv (ctR n (spP n)) p2, .string (ctK n (spP n)), .int .i64 0]) → Lies w' (ctL n (spP n)) p1 → Lies w' (ctR n (spP n)) p2 → Below w.heap.size w w' → RsPost w n e w') from fun e w' p1 p2 h he h1 h2 hB => rs_yes e w' p1 p2 h he h1 h2 hB)
  have HCH := fun (W : World) (h : Below w.heap.size w W) => rcheck_any n p W (hN.below h) hF
  unfold checkE at HCH
  rw [hm] at HCH
  simp only [if_true] at HCH
  have hkd := (may_branch hm hf).2.2.2.2.1
  have hk255 := (may_branch hm hf).2.1
  have HCT := fun (k : Nat) (hk : k + 1 < n.keys.length) (W : World) (h : Below w.heap.size w W) => (rparts_branch n p k w W hN h hf hk (by omega) hkd).mono (fun _ _ hx => hx.ex)
  have HCT2 := (show Hid (∀ k, (⟨false, [], n.keys.take k, n.kids.take (k + 1)⟩ : Nod) = ctL n k ∧ (⟨false, [], n.keys.drop (k + 1), n.kids.drop (k + 1)⟩ : Nod) = ctR n k ∧ n.keys.getD k ByteArray.empty = ctK n k) from fun k => by unfold ctL ctR ctK; rw [hf]; exact ⟨rfl, rfl, rfl⟩)
  have HBL := fun (k : Nat) (hk : k + 1 < n.keys.length) (q : Pt) (W : World) (h : Lies W (ctL n k) q) => rbytes_any (ctL n k) q W h (ct_may hm (fun _ => hk)).1
  have HBR := fun (k : Nat) (hk : k + 1 < n.keys.length) (q : Pt) (W : World) (h : Lies W (ctR n k) q) => rbytes_any (ctR n k) q W h (ct_may hm (fun _ => hk)).2
  clear hkd hk255
  have HMX := (show Hid (∀ k, max (sizeN (ctL n k)) (sizeN (ctR n k)) = headN n + gr (sizes n) (spB n) k) from ct_max n)
  have hhd : headN n = 6 := by unfold headN; rw [hf]; rfl
  have hPN := spP_eq n
  have hPr := (best_pos (gr (sizes n) (spB n)) (spN n) (by rw [spN_branch hf]; omega))
  rw [← hPN] at hPr
  have hNl := spN_branch hf
  have HPN : Is (spP n) (best (gr (sizes n) (spB n)) (spN n)) := ⟨hPN⟩
  clear hPN
  have HYE := HYE0.out
  have HYE := (show Hid (∀ (e : Ending) (w' : World) (p1 p2 : Pt), e = .returned (.tuple #[nv (ctL n (spP n)) p1, nv (ctR n (spP n)) p2, .string (ctK n (spP n)), .int .i64 0]) → Lies w' (ctL n (spP n)) p1 → Lies w' (ctR n (spP n)) p2 → Below w.heap.size w w' → RsPost w n e w') from fun e w' p1 p2 => HYE0.out e w' p1 p2 HOK.out)
  clear HYE0 HOK hm
  generalize headN n = hd at *
  generalize spN n = N at *
  generalize spP n = P at *
  generalize gr (sizes n) (spB n) = g at *
  have hl1 := hF.l1
  have hl2 := hF.l2
  clear hN hF
  have HLs := fun k => HCT2.out k
  clear HCT2
  have HCX := fun (k : Nat) (hk : k + 1 < n.keys.length) (W : World) (h : Below w.heap.size w W) => HCT k hk W h
  simp only [(HLs _).1, (HLs _).2.1, (HLs _).2.2] at HCX
  clear HCT HLs
  obtain ⟨L0, HL0⟩ : ∃ L0 : Nat → Nod, Is L0 (ctL n) := ⟨_, ⟨rfl⟩⟩
  obtain ⟨R0, HR0⟩ : ∃ R0 : Nat → Nod, Is R0 (ctR n) := ⟨_, ⟨rfl⟩⟩
  obtain ⟨K0, HK0⟩ : ∃ K0 : Nat → ByteArray, Is K0 (ctK n) := ⟨_, ⟨rfl⟩⟩
  rw [← HL0.eq, ← HR0.eq, ← HK0.eq] at HYE
  rw [← HL0.eq, ← HR0.eq, ← HK0.eq] at HCX
  rw [← HL0.eq] at HBL
  rw [← HR0.eq] at HBR
  rw [← HL0.eq, ← HR0.eq] at HMX
  clear HL0 HR0 HK0
  obtain ⟨lf, cs, ks, ds⟩ := n
  obtain ⟨a1, c1, a2, c2, a3, c3⟩ := p
  simp only at hf hl hl1 hl2 hNl
  subst hf
  unfold nv at HCH ⊢
  simp only at HCH ⊢
  have HS0 := (show Hid (Below w.heap.size w (((w.alloc (.cells #[.bool false, .slice a1 cs.length c1, .slice a2 ks.length c2, .slice a3 ds.length c3] 26)).alloc (.cells #[.bool false, .slice none 0 0, .slice none 0 0, .slice none 0 0] 26)).alloc (.cells #[.bool false, .slice none 0 0, .slice none 0 0, .slice none 0 0] 26)) ∧ Brow (((w.alloc (.cells #[.bool false, .slice a1 cs.length c1, .slice a2 ks.length c2, .slice a3 ds.length c3] 26)).alloc (.cells #[.bool false, .slice none 0 0, .slice none 0 0, .slice none 0 0] 26)).alloc (.cells #[.bool false, .slice none 0 0, .slice none 0 0, .slice none 0 0] 26)) w.heap.size [.bool false, .slice a1 cs.length c1, .slice a2 ks.length c2, .slice a3 ds.length c3] 26 ∧ Brow (((w.alloc (.cells #[.bool false, .slice a1 cs.length c1, .slice a2 ks.length c2, .slice a3 ds.length c3] 26)).alloc (.cells #[.bool false, .slice none 0 0, .slice none 0 0, .slice none 0 0] 26)).alloc (.cells #[.bool false, .slice none 0 0, .slice none 0 0, .slice none 0 0] 26)) (w.heap.size + 1) [.bool false, .slice none 0 0, .slice none 0 0, .slice none 0 0] 26 ∧ Brow (((w.alloc (.cells #[.bool false, .slice a1 cs.length c1, .slice a2 ks.length c2, .slice a3 ds.length c3] 26)).alloc (.cells #[.bool false, .slice none 0 0, .slice none 0 0, .slice none 0 0] 26)).alloc (.cells #[.bool false, .slice none 0 0, .slice none 0 0, .slice none 0 0] 26)) (w.heap.size + 2) [.bool false, .slice none 0 0, .slice none 0 0, .slice none 0 0] 26) from ⟨((below_alloc _ _).alloc (by rw [size_alloc1]; omega) _).alloc (by rw [size_alloc1, size_alloc1]; omega) _, ((Brow.new w [.bool false, .slice a1 cs.length c1, .slice a2 ks.length c2, .slice a3 ds.length c3] 26).alloc _).alloc _, by
    have := (Brow.new (w.alloc (.cells #[.bool false, .slice a1 cs.length c1, .slice a2 ks.length c2, .slice a3 ds.length c3] 26)) [.bool false, .slice none 0 0, .slice none 0 0, .slice none 0 0] 26).alloc (.cells #[.bool false, .slice none 0 0, .slice none 0 0, .slice none 0 0] 26)
    rwa [size_alloc1] at this, by
    have := Brow.new ((w.alloc (.cells #[.bool false, .slice a1 cs.length c1, .slice a2 ks.length c2, .slice a3 ds.length c3] 26)).alloc (.cells #[.bool false, .slice none 0 0, .slice none 0 0, .slice none 0 0] 26)) [.bool false, .slice none 0 0, .slice none 0 0, .slice none 0 0] 26
    rwa [size_alloc1, size_alloc1] at this⟩)
  have hs0 : w.heap.size + 3 ≤ (((w.alloc (.cells #[.bool false, .slice a1 cs.length c1, .slice a2 ks.length c2, .slice a3 ds.length c3] 26)).alloc (.cells #[.bool false, .slice none 0 0, .slice none 0 0, .slice none 0 0] 26)).alloc (.cells #[.bool false, .slice none 0 0, .slice none 0 0, .slice none 0 0] 26)).heap.size := by rw [size_alloc1, size_alloc1, size_alloc1]; omega
  go_enter Try.func20, Try.ntmps20
  go_wp2_with fail
  refine (HCH _ HS0.out.1).mono ?_
  rintro e w1 ⟨rfl, hB1⟩
  have HS1 := (show Hid (Below w.heap.size w w1 ∧ Brow w1 w.heap.size [.bool false, .slice a1 cs.length c1, .slice a2 ks.length c2, .slice a3 ds.length c3] 26 ∧ Brow w1 (w.heap.size + 1) [.bool false, .slice none 0 0, .slice none 0 0, .slice none 0 0] 26 ∧ Brow w1 (w.heap.size + 2) [.bool false, .slice none 0 0, .slice none 0 0, .slice none 0 0] 26) from ⟨HS0.out.1.trans (hB1.mono (by omega)), HS0.out.2.1.below hB1 (by omega), HS0.out.2.2.1.below hB1 (by omega), HS0.out.2.2.2.below hB1 (by omega)⟩)
  have hs1 : w.heap.size + 3 ≤ w1.heap.size := Nat.le_trans hs0 hB1.size
  clear hB1 HS0 hs0 HCH
  have q0 := HS1.out.2.1.at 0 _ rfl
  have q1 := HS1.out.2.1.at 1 _ rfl
  have q2 := HS1.out.2.1.at 2 _ rfl
  have q3 := HS1.out.2.1.at 3 _ rfl
  have c1_ : ¬ (ks.length : Int) < 3 := by omega
  have c2_ : decide ((ks.length : Int) < 3) = false := decide_eq_false c1_
  have c3_ : ¬ ks.length < 3 := by omega
  obtain ⟨L1, HL1⟩ : ∃ L1, Is L1 (ks.length - 1) := ⟨_, ⟨rfl⟩⟩
  have c4_ : (ks.length : Int) - 1 = (L1 : Int) := by have := HL1.eq; omega
  have c5_ : IntKind.i64.wrap (L1 : Int) = (L1 : Int) := by rw [IntKind.wrap_i64]; omega
  have c6_ : IntKind.i64.wrap ((ks.length : Int) - 1) = (L1 : Int) := by rw [IntKind.wrap_i64]; omega
  go_wp2_with fail
  clear q0 q1 q2 q3
  go_loopw [6, 7, 8] (fun s6 s7 s8 wr => ∃ k_ j_ : Nat, Is k_ (j_ + 1) ∧ j_ ≤ N ∧ s6 = .int .i64 (best g j_ : Int) ∧ s7 = .int .i64 (wj g hd j_ : Int) ∧ s8 = .int .i64 (k_ : Int) ∧ Below w1.heap.size w1 wr) (fun _ _ s8 _ => N + 1 - (intOf s8).toNat)
  case atStart => exact ⟨1, 0, ⟨rfl⟩, by omega, rfl, rfl, rfl, Below.refl _ _⟩
  case round =>
    obtain ⟨k, j, HK, hj, rfl, rfl, rfl, hB⟩ := hrel
    have HSr := (show Hid (Below w.heap.size w wr ∧ Brow wr w.heap.size [.bool false, .slice a1 cs.length c1, .slice a2 ks.length c2, .slice a3 ds.length c3] 26 ∧ Brow wr (w.heap.size + 1) [.bool false, .slice none 0 0, .slice none 0 0, .slice none 0 0] 26 ∧ Brow wr (w.heap.size + 2) [.bool false, .slice none 0 0, .slice none 0 0, .slice none 0 0] 26) from ⟨HS1.out.1.trans (hB.mono (by omega)), HS1.out.2.1.below hB (by omega), HS1.out.2.2.1.below hB (by omega), HS1.out.2.2.2.below hB (by omega)⟩)
    have HBr := (show Hid (Below w1.heap.size w1 wr) from hB)
    have hsr : w.heap.size + 3 ≤ wr.heap.size := Nat.le_trans hs1 hB.size
    have hsw : w1.heap.size ≤ wr.heap.size := hB.size
    clear hB
    have q0 := HSr.out.2.1.at 0 _ rfl
    have q1 := HSr.out.2.1.at 1 _ rfl
    have q2 := HSr.out.2.1.at 2 _ rfl
    have q3 := HSr.out.2.1.at 3 _ rfl
    by_cases hlt : j < N
    · clear HYE HPN
      have k1 : (k : Int) < (L1 : Int) := by have := HK.eq; have := HL1.eq; omega
      have k2 : decide ((k : Int) < (L1 : Int)) = true := decide_eq_true k1
      have hkr : k + 1 < ks.length := (by have := HK.eq; omega)
      have HYS := (show Hid (best g j = 0 ∨ hd + g (j + 1) < wj g hd j → best g (j + 1) = j + 1 ∧ wj g hd (j + 1) = hd + g (j + 1)) from wj_yes)
      have HNS := (show Hid (¬ (best g j = 0 ∨ hd + g (j + 1) < wj g hd j) → best g (j + 1) = best g j ∧ wj g hd (j + 1) = wj g hd j) from wj_no)
      have hMX := HMX.out k
      rw [← HK.eq, ← hMX] at HYS
      rw [← HK.eq, ← hMX] at HNS
      have hkN : k ≤ N := by have := HK.eq; omega
      have HCk := HCX k hkr wr HSr.out.1
      have HBLk := HBL k hkr
      have HBRk := HBR k hkr
      clear hMX HMX HCX HBL HBR HK
      generalize best g j = BJ at *
      generalize wj g hd j = WJ at *
      generalize L0 k = LL at *
      generalize R0 k = RRn at *
      generalize K0 k = KK at *
      generalize sizeN LL = LA at *
      generalize sizeN RRn = RA at *
      obtain ⟨Lf, Lc, Lk, Ld⟩ := LL
      obtain ⟨Rf, Rc, Rk, Rd⟩ := RRn
      unfold nv at *
      simp only at HCk HBLk HBRk
      go_wp2_with fail
      refine (HCk).mono ?_
      rintro e w2 ⟨⟨x1, y1, x2, y2, x3, y3⟩, ⟨u1, v1, u2, v2, u3, v3⟩, rfl, hLL, hRR, hB2⟩
      have HLL := (show Hid (Lies w ⟨Lf, Lc, Lk, Ld⟩ ⟨x1, y1, x2, y2, x3, y3⟩ ∧ Lies w ⟨Rf, Rc, Rk, Rd⟩ ⟨u1, v1, u2, v2, u3, v3⟩) from ⟨hLL, hRR⟩)
      have hA2 : Below w2.heap.size w2 ((w2.alloc (.cells #[.bool Lf, .slice x1 Lc.length y1, .slice x2 Lk.length y2, .slice x3 Ld.length y3] 26)).alloc (.cells #[.bool Rf, .slice u1 Rc.length v1, .slice u2 Rk.length v2, .slice u3 Rd.length v3] 26)) := (below_alloc _ _).alloc (by rw [size_alloc1]; omega) _
      have hz2 := hB2.size
      have HS3 := (show Hid ((Below w.heap.size w ((w2.alloc (.cells #[.bool Lf, .slice x1 Lc.length y1, .slice x2 Lk.length y2, .slice x3 Ld.length y3] 26)).alloc (.cells #[.bool Rf, .slice u1 Rc.length v1, .slice u2 Rk.length v2, .slice u3 Rd.length v3] 26)) ∧ Brow ((w2.alloc (.cells #[.bool Lf, .slice x1 Lc.length y1, .slice x2 Lk.length y2, .slice x3 Ld.length y3] 26)).alloc (.cells #[.bool Rf, .slice u1 Rc.length v1, .slice u2 Rk.length v2, .slice u3 Rd.length v3] 26)) w.heap.size [.bool false, .slice a1 cs.length c1, .slice a2 ks.length c2, .slice a3 ds.length c3] 26 ∧ Brow ((w2.alloc (.cells #[.bool Lf, .slice x1 Lc.length y1, .slice x2 Lk.length y2, .slice x3 Ld.length y3] 26)).alloc (.cells #[.bool Rf, .slice u1 Rc.length v1, .slice u2 Rk.length v2, .slice u3 Rd.length v3] 26)) (w.heap.size + 1) [.bool false, .slice none 0 0, .slice none 0 0, .slice none 0 0] 26 ∧ Brow ((w2.alloc (.cells #[.bool Lf, .slice x1 Lc.length y1, .slice x2 Lk.length y2, .slice x3 Ld.length y3] 26)).alloc (.cells #[.bool Rf, .slice u1 Rc.length v1, .slice u2 Rk.length v2, .slice u3 Rd.length v3] 26)) (w.heap.size + 2) [.bool false, .slice none 0 0, .slice none 0 0, .slice none 0 0] 26) ∧ Brow ((w2.alloc (.cells #[.bool Lf, .slice x1 Lc.length y1, .slice x2 Lk.length y2, .slice x3 Ld.length y3] 26)).alloc (.cells #[.bool Rf, .slice u1 Rc.length v1, .slice u2 Rk.length v2, .slice u3 Rd.length v3] 26)) w2.heap.size [.bool Lf, .slice x1 Lc.length y1, .slice x2 Lk.length y2, .slice x3 Ld.length y3] 26 ∧ Brow ((w2.alloc (.cells #[.bool Lf, .slice x1 Lc.length y1, .slice x2 Lk.length y2, .slice x3 Ld.length y3] 26)).alloc (.cells #[.bool Rf, .slice u1 Rc.length v1, .slice u2 Rk.length v2, .slice u3 Rd.length v3] 26)) (w2.heap.size + 1) [.bool Rf, .slice u1 Rc.length v1, .slice u2 Rk.length v2, .slice u3 Rd.length v3] 26) from by
        refine ⟨⟨(HSr.out.1.trans (hB2.mono (by omega))).trans (hA2.mono (by omega)), (HSr.out.2.1.below hB2 (by omega)).below hA2 (by omega), (HSr.out.2.2.1.below hB2 (by omega)).below hA2 (by omega), (HSr.out.2.2.2.below hB2 (by omega)).below hA2 (by omega)⟩, (Brow.new w2 [.bool Lf, .slice x1 Lc.length y1, .slice x2 Lk.length y2, .slice x3 Ld.length y3] 26).alloc _, ?_⟩
        have := Brow.new (w2.alloc (.cells #[.bool Lf, .slice x1 Lc.length y1, .slice x2 Lk.length y2, .slice x3 Ld.length y3] 26)) [.bool Rf, .slice u1 Rc.length v1, .slice u2 Rk.length v2, .slice u3 Rd.length v3] 26
        rwa [size_alloc1] at this)
      have HBr3 := (show Hid (Below w1.heap.size w1 ((w2.alloc (.cells #[.bool Lf, .slice x1 Lc.length y1, .slice x2 Lk.length y2, .slice x3 Ld.length y3] 26)).alloc (.cells #[.bool Rf, .slice u1 Rc.length v1, .slice u2 Rk.length v2, .slice u3 Rd.length v3] 26))) from (HBr.out.trans (hB2.mono hsw)).trans (hA2.mono (Nat.le_trans hsw hz2)))
      have hs3 : w2.heap.size + 2 ≤ ((w2.alloc (.cells #[.bool Lf, .slice x1 Lc.length y1, .slice x2 Lk.length y2, .slice x3 Ld.length y3] 26)).alloc (.cells #[.bool Rf, .slice u1 Rc.length v1, .slice u2 Rk.length v2, .slice u3 Rd.length v3] 26)).heap.size := by rw [size_alloc1, size_alloc1]; omega
      have hX : w.heap.size + 3 ≤ w2.heap.size := Nat.le_trans hsr hz2
      have hsw3 : w1.heap.size ≤ ((w2.alloc (.cells #[.bool Lf, .slice x1 Lc.length y1, .slice x2 Lk.length y2, .slice x3 Ld.length y3] 26)).alloc (.cells #[.bool Rf, .slice u1 Rc.length v1, .slice u2 Rk.length v2, .slice u3 Rd.length v3] 26)).heap.size := HBr3.out.size
      clear hLL hRR hB2 hA2 hz2 HSr HBr q0 q1 q2 q3 hsr hsw
      clear HCk
      go_upto_region 9 with fail
      generalize ((w2.alloc (.cells #[.bool Lf, .slice x1 Lc.length y1, .slice x2 Lk.length y2, .slice x3 Ld.length y3] 26)).alloc (.cells #[.bool Rf, .slice u1 Rc.length v1, .slice u2 Rk.length v2, .slice u3 Rd.length v3] 26)) = w3 at *
      generalize w2.heap.size = X at *
      have q0 := HS3.out.2.1.at 0 _ rfl
      have q1 := HS3.out.2.1.at 1 _ rfl
      have q2 := HS3.out.2.1.at 2 _ rfl
      have q3 := HS3.out.2.1.at 3 _ rfl
      go_wp2_with fail
      refine ((HBLk ⟨x1, y1, x2, y2, x3, y3⟩ w3 (HLL.out.1.below HS3.out.1.1)).mono (fun _ _ hx => hx.ex)).mono ?_
      rintro e w4 ⟨t4, rfl, ht4, hB4⟩
      have HS4 := (show Hid ((Below w.heap.size w w4 ∧ Brow w4 w.heap.size [.bool false, .slice a1 cs.length c1, .slice a2 ks.length c2, .slice a3 ds.length c3] 26 ∧ Brow w4 (w.heap.size + 1) [.bool false, .slice none 0 0, .slice none 0 0, .slice none 0 0] 26 ∧ Brow w4 (w.heap.size + 2) [.bool false, .slice none 0 0, .slice none 0 0, .slice none 0 0] 26) ∧ Brow w4 X [.bool Lf, .slice x1 Lc.length y1, .slice x2 Lk.length y2, .slice x3 Ld.length y3] 26 ∧ Brow w4 (X + 1) [.bool Rf, .slice u1 Rc.length v1, .slice u2 Rk.length v2, .slice u3 Rd.length v3] 26) from ⟨⟨HS3.out.1.1.trans (hB4.mono (by omega)), HS3.out.1.2.1.below hB4 (by omega), HS3.out.1.2.2.1.below hB4 (by omega), HS3.out.1.2.2.2.below hB4 (by omega)⟩, HS3.out.2.1.below hB4 (by omega), HS3.out.2.2.below hB4 (by omega)⟩)
      have HBr4 := (show Hid (Below w1.heap.size w1 w4) from HBr3.out.trans (hB4.mono (by omega)))
      have hs4 : X + 2 ≤ w4.heap.size := Nat.le_trans hs3 hB4.size
      have hsw4 : w1.heap.size ≤ w4.heap.size := Nat.le_trans hsw3 hB4.size
      clear hB4 HS3 hs3 HBr3 hsw3
      clear q0 q1 q2 q3 HBLk
      have q0 := HS4.out.2.2.at 0 _ rfl
      have q1 := HS4.out.2.2.at 1 _ rfl
      have q2 := HS4.out.2.2.at 2 _ rfl
      have q3 := HS4.out.2.2.at 3 _ rfl
      go_wp2_with fail
      refine ((HBRk ⟨u1, v1, u2, v2, u3, v3⟩ w4 (HLL.out.2.below HS4.out.1.1)).mono (fun _ _ hx => hx.ex)).mono ?_
      rintro e w5 ⟨t5, rfl, ht5, hB5⟩
      have HS5 := (show Hid ((Below w.heap.size w w5 ∧ Brow w5 w.heap.size [.bool false, .slice a1 cs.length c1, .slice a2 ks.length c2, .slice a3 ds.length c3] 26 ∧ Brow w5 (w.heap.size + 1) [.bool false, .slice none 0 0, .slice none 0 0, .slice none 0 0] 26 ∧ Brow w5 (w.heap.size + 2) [.bool false, .slice none 0 0, .slice none 0 0, .slice none 0 0] 26) ∧ Brow w5 X [.bool Lf, .slice x1 Lc.length y1, .slice x2 Lk.length y2, .slice x3 Ld.length y3] 26 ∧ Brow w5 (X + 1) [.bool Rf, .slice u1 Rc.length v1, .slice u2 Rk.length v2, .slice u3 Rd.length v3] 26) from ⟨⟨HS4.out.1.1.trans (hB5.mono (by omega)), HS4.out.1.2.1.below hB5 (by omega), HS4.out.1.2.2.1.below hB5 (by omega), HS4.out.1.2.2.2.below hB5 (by omega)⟩, HS4.out.2.1.below hB5 (by omega), HS4.out.2.2.below hB5 (by omega)⟩)
      have HBr5 := (show Hid (Below w1.heap.size w1 w5) from HBr4.out.trans (hB5.mono (by omega)))
      have hs5 : X + 2 ≤ w5.heap.size := Nat.le_trans hs4 hB5.size
      have hsw5 : w1.heap.size ≤ w5.heap.size := Nat.le_trans hsw4 hB5.size
      clear hB5 HS4 hs4 HBr4 hsw4
      clear q0 q1 q2 q3
      by_cases hLR : LA < RA
      · have m1 : max LA RA = RA := by omega
        rw [m1] at HYS HNS
        have l1 : (LA : Int) < (RA : Int) := by omega
        have l2 : decide ((LA : Int) < (RA : Int)) = true := decide_eq_true l1
        clear m1
        have q0 := HS5.out.2.2.at 0 _ rfl
        have q1 := HS5.out.2.2.at 1 _ rfl
        have q2 := HS5.out.2.2.at 2 _ rfl
        have q3 := HS5.out.2.2.at 3 _ rfl
        go_wp2_with fail
        refine ((HBRk ⟨u1, v1, u2, v2, u3, v3⟩ w5 (HLL.out.2.below HS5.out.1.1)).mono (fun _ _ hx => hx.ex)).mono ?_
        rintro e w6 ⟨t6, rfl, ht6, hB6⟩
        have HS6 := (show Hid ((Below w.heap.size w w6 ∧ Brow w6 w.heap.size [.bool false, .slice a1 cs.length c1, .slice a2 ks.length c2, .slice a3 ds.length c3] 26 ∧ Brow w6 (w.heap.size + 1) [.bool false, .slice none 0 0, .slice none 0 0, .slice none 0 0] 26 ∧ Brow w6 (w.heap.size + 2) [.bool false, .slice none 0 0, .slice none 0 0, .slice none 0 0] 26) ∧ Brow w6 X [.bool Lf, .slice x1 Lc.length y1, .slice x2 Lk.length y2, .slice x3 Ld.length y3] 26 ∧ Brow w6 (X + 1) [.bool Rf, .slice u1 Rc.length v1, .slice u2 Rk.length v2, .slice u3 Rd.length v3] 26) from ⟨⟨HS5.out.1.1.trans (hB6.mono (by omega)), HS5.out.1.2.1.below hB6 (by omega), HS5.out.1.2.2.1.below hB6 (by omega), HS5.out.1.2.2.2.below hB6 (by omega)⟩, HS5.out.2.1.below hB6 (by omega), HS5.out.2.2.below hB6 (by omega)⟩)
        have HBr6 := (show Hid (Below w1.heap.size w1 w6) from HBr5.out.trans (hB6.mono (by omega)))
        have hs6 : X + 2 ≤ w6.heap.size := Nat.le_trans hs5 hB6.size
        have hsw6 : w1.heap.size ≤ w6.heap.size := Nat.le_trans hsw5 hB6.size
        clear hB6 HS5 hs5 HBr5 hsw5
        clear q0 q1 q2 q3 HBRk
        by_cases hb0 : BJ = 0
        · have HY2 := (show Hid (best g k = k ∧ wj g hd k = RA) from HYS.out (.inl hb0))
          have b1 : ((BJ : Int) == 0) = true := by rw [hb0]; rfl
          have b2 : (BJ : Int) = 0 := by omega
          clear hb0
          have HREL := (show Hid (∃ k_ j_ : Nat, Is k_ (j_ + 1) ∧ j_ ≤ N ∧ Value.int .i64 (k : Int) = .int .i64 (best g j_ : Int) ∧ Value.int .i64 (RA : Int) = .int .i64 (wj g hd j_ : Int) ∧ Value.int .i64 ((k : Int) + 1) = .int .i64 (k_ : Int) ∧ Below w1.heap.size w1 w6) from ⟨k + 1, k, ⟨rfl⟩, by omega, by rw [HY2.out.1], by rw [HY2.out.2], by go_num, HBr6.out⟩)
          clear HBr6 HS6 HYS HNS HY2
          go_wp2_with fail
          go_roundw
          case rel => first | exact HREL.out | (obtain ⟨k', j', h0, h1, h2, h3, h4, h5⟩ := HREL.out; exact ⟨k', j', h0, h1, h2, h3, h4, h5⟩)
          case measure => (simp [intOf]) <;> omega
        · have b1 : ((BJ : Int) == 0) = false := beq_eq_false_iff_ne.2 (by omega)
          have b2 : ¬ (BJ : Int) = 0 := by omega
          by_cases hbl : RA < WJ
          · have HY2 := (show Hid (best g k = k ∧ wj g hd k = RA) from HYS.out (.inr hbl))
            have b3 : ((RA : Nat) : Int) < (WJ : Int) := by omega
            have b4 : decide (((RA : Nat) : Int) < (WJ : Int)) = true := decide_eq_true b3
            have HREL := (show Hid (∃ k_ j_ : Nat, Is k_ (j_ + 1) ∧ j_ ≤ N ∧ Value.int .i64 (k : Int) = .int .i64 (best g j_ : Int) ∧ Value.int .i64 (RA : Int) = .int .i64 (wj g hd j_ : Int) ∧ Value.int .i64 ((k : Int) + 1) = .int .i64 (k_ : Int) ∧ Below w1.heap.size w1 w6) from ⟨k + 1, k, ⟨rfl⟩, by omega, by rw [HY2.out.1], by rw [HY2.out.2], by go_num, HBr6.out⟩)
            clear HBr6 HS6 HYS HNS HY2
            go_wp2_with fail
            go_roundw
            case rel => first | exact HREL.out | (obtain ⟨k', j', h0, h1, h2, h3, h4, h5⟩ := HREL.out; exact ⟨k', j', h0, h1, h2, h3, h4, h5⟩)
            case measure => (simp [intOf]) <;> omega
          · have HY2 := (show Hid (best g k = BJ ∧ wj g hd k = WJ) from HNS.out (fun h => by rcases h with h | h; exact hb0 h; exact hbl h))
            have b3 : ¬ ((RA : Nat) : Int) < (WJ : Int) := by omega
            have b4 : decide (((RA : Nat) : Int) < (WJ : Int)) = false := decide_eq_false b3
            have HREL := (show Hid (∃ k_ j_ : Nat, Is k_ (j_ + 1) ∧ j_ ≤ N ∧ Value.int .i64 (BJ : Int) = .int .i64 (best g j_ : Int) ∧ Value.int .i64 (WJ : Int) = .int .i64 (wj g hd j_ : Int) ∧ Value.int .i64 ((k : Int) + 1) = .int .i64 (k_ : Int) ∧ Below w1.heap.size w1 w6) from ⟨k + 1, k, ⟨rfl⟩, by omega, by rw [HY2.out.1], by rw [HY2.out.2], by go_num, HBr6.out⟩)
            clear HBr6 HS6 HYS HNS HY2
            go_wp2_with fail
            go_roundw
            case rel => first | exact HREL.out | (obtain ⟨k', j', h0, h1, h2, h3, h4, h5⟩ := HREL.out; exact ⟨k', j', h0, h1, h2, h3, h4, h5⟩)
            case measure => (simp [intOf]) <;> omega
      · have m1 : max LA RA = LA := by omega
        rw [m1] at HYS HNS
        have l1 : ¬ (LA : Int) < (RA : Int) := by omega
        have l2 : decide ((LA : Int) < (RA : Int)) = false := decide_eq_false l1
        clear m1 HBRk
        by_cases hb0 : BJ = 0
        · have HY2 := (show Hid (best g k = k ∧ wj g hd k = LA) from HYS.out (.inl hb0))
          have b1 : ((BJ : Int) == 0) = true := by rw [hb0]; rfl
          have b2 : (BJ : Int) = 0 := by omega
          clear hb0
          have HREL := (show Hid (∃ k_ j_ : Nat, Is k_ (j_ + 1) ∧ j_ ≤ N ∧ Value.int .i64 (k : Int) = .int .i64 (best g j_ : Int) ∧ Value.int .i64 (LA : Int) = .int .i64 (wj g hd j_ : Int) ∧ Value.int .i64 ((k : Int) + 1) = .int .i64 (k_ : Int) ∧ Below w1.heap.size w1 w5) from ⟨k + 1, k, ⟨rfl⟩, by omega, by rw [HY2.out.1], by rw [HY2.out.2], by go_num, HBr5.out⟩)
          clear HBr5 HS5 HYS HNS HY2
          go_wp2_with fail
          go_roundw
          case rel => first | exact HREL.out | (obtain ⟨k', j', h0, h1, h2, h3, h4, h5⟩ := HREL.out; exact ⟨k', j', h0, h1, h2, h3, h4, h5⟩)
          case measure => (simp [intOf]) <;> omega
        · have b1 : ((BJ : Int) == 0) = false := beq_eq_false_iff_ne.2 (by omega)
          have b2 : ¬ (BJ : Int) = 0 := by omega
          by_cases hbl : LA < WJ
          · have HY2 := (show Hid (best g k = k ∧ wj g hd k = LA) from HYS.out (.inr hbl))
            have b3 : ((LA : Nat) : Int) < (WJ : Int) := by omega
            have b4 : decide (((LA : Nat) : Int) < (WJ : Int)) = true := decide_eq_true b3
            have HREL := (show Hid (∃ k_ j_ : Nat, Is k_ (j_ + 1) ∧ j_ ≤ N ∧ Value.int .i64 (k : Int) = .int .i64 (best g j_ : Int) ∧ Value.int .i64 (LA : Int) = .int .i64 (wj g hd j_ : Int) ∧ Value.int .i64 ((k : Int) + 1) = .int .i64 (k_ : Int) ∧ Below w1.heap.size w1 w5) from ⟨k + 1, k, ⟨rfl⟩, by omega, by rw [HY2.out.1], by rw [HY2.out.2], by go_num, HBr5.out⟩)
            clear HBr5 HS5 HYS HNS HY2
            go_wp2_with fail
            go_roundw
            case rel => first | exact HREL.out | (obtain ⟨k', j', h0, h1, h2, h3, h4, h5⟩ := HREL.out; exact ⟨k', j', h0, h1, h2, h3, h4, h5⟩)
            case measure => (simp [intOf]) <;> omega
          · have HY2 := (show Hid (best g k = BJ ∧ wj g hd k = WJ) from HNS.out (fun h => by rcases h with h | h; exact hb0 h; exact hbl h))
            have b3 : ¬ ((LA : Nat) : Int) < (WJ : Int) := by omega
            have b4 : decide (((LA : Nat) : Int) < (WJ : Int)) = false := decide_eq_false b3
            have HREL := (show Hid (∃ k_ j_ : Nat, Is k_ (j_ + 1) ∧ j_ ≤ N ∧ Value.int .i64 (BJ : Int) = .int .i64 (best g j_ : Int) ∧ Value.int .i64 (WJ : Int) = .int .i64 (wj g hd j_ : Int) ∧ Value.int .i64 ((k : Int) + 1) = .int .i64 (k_ : Int) ∧ Below w1.heap.size w1 w5) from ⟨k + 1, k, ⟨rfl⟩, by omega, by rw [HY2.out.1], by rw [HY2.out.2], by go_num, HBr5.out⟩)
            clear HBr5 HS5 HYS HNS HY2
            go_wp2_with fail
            go_roundw
            case rel => first | exact HREL.out | (obtain ⟨k', j', h0, h1, h2, h3, h4, h5⟩ := HREL.out; exact ⟨k', j', h0, h1, h2, h3, h4, h5⟩)
            case measure => (simp [intOf]) <;> omega
    · clear HMX HBL HBR
      have k1 : ¬ (k : Int) < (L1 : Int) := by have := HK.eq; have := HL1.eq; omega
      have k2 : decide ((k : Int) < (L1 : Int)) = false := decide_eq_false k1
      have hjN : j = N := by omega
      subst hjN
      rw [← HPN.eq]
      have hPr1 := hPr.1
      have hPr2 := hPr.2
      have HCk := HCX P (by omega) wr HSr.out.1
      clear HCX HPN HK hPr
      generalize L0 P = LL at *
      generalize R0 P = RRn at *
      generalize K0 P = KK at *
      obtain ⟨Lf, Lc, Lk, Ld⟩ := LL
      obtain ⟨Rf, Rc, Rk, Rd⟩ := RRn
      unfold nv at *
      simp only at HCk HYE
      go_wp2_with fail
      refine (HCk).mono ?_
      rintro e w2 ⟨⟨x1, y1, x2, y2, x3, y3⟩, ⟨u1, v1, u2, v2, u3, v3⟩, rfl, hLL, hRR, hB2⟩
      have HLL := (show Hid (Lies w ⟨Lf, Lc, Lk, Ld⟩ ⟨x1, y1, x2, y2, x3, y3⟩ ∧ Lies w ⟨Rf, Rc, Rk, Rd⟩ ⟨u1, v1, u2, v2, u3, v3⟩) from ⟨hLL, hRR⟩)
      have hA2 : Below w2.heap.size w2 ((w2.alloc (.cells #[.bool Lf, .slice x1 Lc.length y1, .slice x2 Lk.length y2, .slice x3 Ld.length y3] 26)).alloc (.cells #[.bool Rf, .slice u1 Rc.length v1, .slice u2 Rk.length v2, .slice u3 Rd.length v3] 26)) := (below_alloc _ _).alloc (by rw [size_alloc1]; omega) _
      have hz2 := hB2.size
      have HS3 := (show Hid ((Below w.heap.size w ((w2.alloc (.cells #[.bool Lf, .slice x1 Lc.length y1, .slice x2 Lk.length y2, .slice x3 Ld.length y3] 26)).alloc (.cells #[.bool Rf, .slice u1 Rc.length v1, .slice u2 Rk.length v2, .slice u3 Rd.length v3] 26)) ∧ Brow ((w2.alloc (.cells #[.bool Lf, .slice x1 Lc.length y1, .slice x2 Lk.length y2, .slice x3 Ld.length y3] 26)).alloc (.cells #[.bool Rf, .slice u1 Rc.length v1, .slice u2 Rk.length v2, .slice u3 Rd.length v3] 26)) w.heap.size [.bool false, .slice a1 cs.length c1, .slice a2 ks.length c2, .slice a3 ds.length c3] 26 ∧ Brow ((w2.alloc (.cells #[.bool Lf, .slice x1 Lc.length y1, .slice x2 Lk.length y2, .slice x3 Ld.length y3] 26)).alloc (.cells #[.bool Rf, .slice u1 Rc.length v1, .slice u2 Rk.length v2, .slice u3 Rd.length v3] 26)) (w.heap.size + 1) [.bool false, .slice none 0 0, .slice none 0 0, .slice none 0 0] 26 ∧ Brow ((w2.alloc (.cells #[.bool Lf, .slice x1 Lc.length y1, .slice x2 Lk.length y2, .slice x3 Ld.length y3] 26)).alloc (.cells #[.bool Rf, .slice u1 Rc.length v1, .slice u2 Rk.length v2, .slice u3 Rd.length v3] 26)) (w.heap.size + 2) [.bool false, .slice none 0 0, .slice none 0 0, .slice none 0 0] 26) ∧ Brow ((w2.alloc (.cells #[.bool Lf, .slice x1 Lc.length y1, .slice x2 Lk.length y2, .slice x3 Ld.length y3] 26)).alloc (.cells #[.bool Rf, .slice u1 Rc.length v1, .slice u2 Rk.length v2, .slice u3 Rd.length v3] 26)) w2.heap.size [.bool Lf, .slice x1 Lc.length y1, .slice x2 Lk.length y2, .slice x3 Ld.length y3] 26 ∧ Brow ((w2.alloc (.cells #[.bool Lf, .slice x1 Lc.length y1, .slice x2 Lk.length y2, .slice x3 Ld.length y3] 26)).alloc (.cells #[.bool Rf, .slice u1 Rc.length v1, .slice u2 Rk.length v2, .slice u3 Rd.length v3] 26)) (w2.heap.size + 1) [.bool Rf, .slice u1 Rc.length v1, .slice u2 Rk.length v2, .slice u3 Rd.length v3] 26) from by
        refine ⟨⟨(HSr.out.1.trans (hB2.mono (by omega))).trans (hA2.mono (by omega)), (HSr.out.2.1.below hB2 (by omega)).below hA2 (by omega), (HSr.out.2.2.1.below hB2 (by omega)).below hA2 (by omega), (HSr.out.2.2.2.below hB2 (by omega)).below hA2 (by omega)⟩, (Brow.new w2 [.bool Lf, .slice x1 Lc.length y1, .slice x2 Lk.length y2, .slice x3 Ld.length y3] 26).alloc _, ?_⟩
        have := Brow.new (w2.alloc (.cells #[.bool Lf, .slice x1 Lc.length y1, .slice x2 Lk.length y2, .slice x3 Ld.length y3] 26)) [.bool Rf, .slice u1 Rc.length v1, .slice u2 Rk.length v2, .slice u3 Rd.length v3] 26
        rwa [size_alloc1] at this)
      have HBr3 := (show Hid (Below w1.heap.size w1 ((w2.alloc (.cells #[.bool Lf, .slice x1 Lc.length y1, .slice x2 Lk.length y2, .slice x3 Ld.length y3] 26)).alloc (.cells #[.bool Rf, .slice u1 Rc.length v1, .slice u2 Rk.length v2, .slice u3 Rd.length v3] 26))) from (HBr.out.trans (hB2.mono hsw)).trans (hA2.mono (Nat.le_trans hsw hz2)))
      have hs3 : w2.heap.size + 2 ≤ ((w2.alloc (.cells #[.bool Lf, .slice x1 Lc.length y1, .slice x2 Lk.length y2, .slice x3 Ld.length y3] 26)).alloc (.cells #[.bool Rf, .slice u1 Rc.length v1, .slice u2 Rk.length v2, .slice u3 Rd.length v3] 26)).heap.size := by rw [size_alloc1, size_alloc1]; omega
      have hX : w.heap.size + 3 ≤ w2.heap.size := Nat.le_trans hsr hz2
      have hsw3 : w1.heap.size ≤ ((w2.alloc (.cells #[.bool Lf, .slice x1 Lc.length y1, .slice x2 Lk.length y2, .slice x3 Ld.length y3] 26)).alloc (.cells #[.bool Rf, .slice u1 Rc.length v1, .slice u2 Rk.length v2, .slice u3 Rd.length v3] 26)).heap.size := HBr3.out.size
      clear hLL hRR hB2 hA2 hz2 HSr HBr q0 q1 q2 q3 hsr hsw
      clear HCk
      go_upto_region 16 with fail
      generalize ((w2.alloc (.cells #[.bool Lf, .slice x1 Lc.length y1, .slice x2 Lk.length y2, .slice x3 Ld.length y3] 26)).alloc (.cells #[.bool Rf, .slice u1 Rc.length v1, .slice u2 Rk.length v2, .slice u3 Rd.length v3] 26)) = w3 at *
      generalize w2.heap.size = X at *
      have HSd := (show Hid ((fun W : World => Brow W X [.bool Lf, .slice x1 Lc.length y1, .slice x2 Lk.length y2, .slice x3 Ld.length y3] 26 ∧ Brow W (X + 1) [.bool Rf, .slice u1 Rc.length v1, .slice u2 Rk.length v2, .slice u3 Rd.length v3] 26) w3.drew) from ⟨HS3.out.2.1.drew, HS3.out.2.2.drew⟩)
      have HXd := (show Hid (Brow w3.drew (w.heap.size + 1) [.bool false, .slice none 0 0, .slice none 0 0, .slice none 0 0] 26) from HS3.out.1.2.2.1.drew)
      have HYd := (show Hid (Brow w3.drew (w.heap.size + 2) [.bool false, .slice none 0 0, .slice none 0 0, .slice none 0 0] 26) from HS3.out.1.2.2.2.drew)
      have HBd := (show Hid (Below w.heap.size w w3.drew) from HS3.out.1.1.drew)
      clear HS3 HBr3
      refine wp_region_held_drew (S := (fun W : World => Brow W X [.bool Lf, .slice x1 Lc.length y1, .slice x2 Lk.length y2, .slice x3 Ld.length y3] 26 ∧ Brow W (X + 1) [.bool Rf, .slice u1 Rc.length v1, .slice u2 Rk.length v2, .slice u3 Rd.length v3] 26)) (by kernel_rfl) HSd.out (fun _ => ?_)
      generalize w3.drew = wd at *
      refine heldTake 0 (some 100) (.agg #[.bool Lf, .slice x1 Lc.length y1, .slice x2 Lk.length y2, .slice x3 Ld.length y3]) rfl rfl (by kernel_rfl) (by kernel_rfl) (by kernel_rfl) (fun _ _ _ h => h) (Or.inl ⟨by rfl, fun w hS => ?_⟩) HSd.out ?_
      · (have q0 := hS.1.at 0 _ rfl; have q1 := hS.1.at 1 _ rfl; have q2 := hS.1.at 2 _ rfl; have q3 := hS.1.at 3 _ rfl; go_simp)
      simp only [Act.put, List.setIfInBounds_toArray, List.set_cons_zero, List.set_cons_succ]
      refine heldTake 1 (some 101) (.agg #[.bool Rf, .slice u1 Rc.length v1, .slice u2 Rk.length v2, .slice u3 Rd.length v3]) rfl rfl (by kernel_rfl) (by kernel_rfl) (by kernel_rfl) (fun _ _ _ h => h) (Or.inl ⟨by rfl, fun w hS => ?_⟩) HSd.out ?_
      · (have q0 := hS.2.at 0 _ rfl; have q1 := hS.2.at 1 _ rfl; have q2 := hS.2.at 2 _ rfl; have q3 := hS.2.at 3 _ rfl; go_simp)
      simp only [Act.put, List.setIfInBounds_toArray, List.set_cons_zero, List.set_cons_succ]
      refine heldTake 2 (some 102) (.string KK) rfl rfl (by kernel_rfl) (by kernel_rfl) (by kernel_rfl) (fun _ _ _ h => h) (Or.inl ⟨by rfl, fun w hS => ?_⟩) HSd.out ?_
      · (go_simp)
      simp only [Act.put, List.setIfInBounds_toArray, List.set_cons_zero, List.set_cons_succ]
      have HSA := (show Hid ((fun W : World => Brow W X [.bool Lf, .slice x1 Lc.length y1, .slice x2 Lk.length y2, .slice x3 Ld.length y3] 26 ∧ Brow W (X + 1) [.bool Rf, .slice u1 Rc.length v1, .slice u2 Rk.length v2, .slice u3 Rd.length v3] 26) (setN wd (w.heap.size + 1) (.bool Lf) (.slice x1 Lc.length y1) (.slice x2 Lk.length y2) (.slice x3 Ld.length y3))) from ⟨setN_far HSd.out.1 (by omega) _ _ _ _, setN_far HSd.out.2 (by omega) _ _ _ _⟩)
      have HXA := (show Hid (Brow (setN wd (w.heap.size + 1) (.bool Lf) (.slice x1 Lc.length y1) (.slice x2 Lk.length y2) (.slice x3 Ld.length y3)) (w.heap.size + 1) [.bool Lf, .slice x1 Lc.length y1, .slice x2 Lk.length y2, .slice x3 Ld.length y3] 26) from setN_row HXd.out _ _ _ _)
      have HYA := (show Hid (Brow (setN wd (w.heap.size + 1) (.bool Lf) (.slice x1 Lc.length y1) (.slice x2 Lk.length y2) (.slice x3 Ld.length y3)) (w.heap.size + 2) [.bool false, .slice none 0 0, .slice none 0 0, .slice none 0 0] 26) from setN_far HYd.out (by omega) _ _ _ _)
      have HBA := (show Hid (Below w.heap.size w (setN wd (w.heap.size + 1) (.bool Lf) (.slice x1 Lc.length y1) (.slice x2 Lk.length y2) (.slice x3 Ld.length y3))) from setN_below HBd.out (by omega) _ _ _ _)
      have y_0 := HXd.out.at 0 _ rfl
      have y_1 := HXd.out.at 1 _ rfl
      have y_2 := HXd.out.at 2 _ rfl
      have y_3 := HXd.out.at 3 _ rfl
      have z_0 := HXd.out.fz 0
      have z_1 := HXd.out.fz 1
      have z_2 := HXd.out.fz 2
      have z_3 := HXd.out.fz 3
      unfold setN at HSA HXA HYA HBA
      refine heldOne 3 (by kernel_rfl) rfl (by rfl) (fun KK hK => ?_)
      go_simp
      refine hK.out _ _ HSA.out ?_
      clear hK KK
      try simp only [Act.put, List.setIfInBounds_toArray, List.set_cons_zero, List.set_cons_succ]
      clear y_0 y_1 y_2 y_3 z_0 z_1 z_2 z_3 HSd HXd HYd HBd
      generalize ((((wd.setCell ⟨w.heap.size + 1, 0, none⟩ (.bool Lf)).setCell ⟨w.heap.size + 1, 1, none⟩ (.slice x1 Lc.length y1)).setCell ⟨w.heap.size + 1, 2, none⟩ (.slice x2 Lk.length y2)).setCell ⟨w.heap.size + 1, 3, none⟩ (.slice x3 Ld.length y3)) = wA at *
      have HSB := (show Hid ((fun W : World => Brow W X [.bool Lf, .slice x1 Lc.length y1, .slice x2 Lk.length y2, .slice x3 Ld.length y3] 26 ∧ Brow W (X + 1) [.bool Rf, .slice u1 Rc.length v1, .slice u2 Rk.length v2, .slice u3 Rd.length v3] 26) (setN wA (w.heap.size + 2) (.bool Rf) (.slice u1 Rc.length v1) (.slice u2 Rk.length v2) (.slice u3 Rd.length v3))) from ⟨setN_far HSA.out.1 (by omega) _ _ _ _, setN_far HSA.out.2 (by omega) _ _ _ _⟩)
      have HXB := (show Hid (Brow (setN wA (w.heap.size + 2) (.bool Rf) (.slice u1 Rc.length v1) (.slice u2 Rk.length v2) (.slice u3 Rd.length v3)) (w.heap.size + 1) [.bool Lf, .slice x1 Lc.length y1, .slice x2 Lk.length y2, .slice x3 Ld.length y3] 26) from setN_far HXA.out (by omega) _ _ _ _)
      have HYB := (show Hid (Brow (setN wA (w.heap.size + 2) (.bool Rf) (.slice u1 Rc.length v1) (.slice u2 Rk.length v2) (.slice u3 Rd.length v3)) (w.heap.size + 2) [.bool Rf, .slice u1 Rc.length v1, .slice u2 Rk.length v2, .slice u3 Rd.length v3] 26) from setN_row HYA.out _ _ _ _)
      have HBB := (show Hid (Below w.heap.size w (setN wA (w.heap.size + 2) (.bool Rf) (.slice u1 Rc.length v1) (.slice u2 Rk.length v2) (.slice u3 Rd.length v3))) from setN_below HBA.out (by omega) _ _ _ _)
      have y_0 := HYA.out.at 0 _ rfl
      have y_1 := HYA.out.at 1 _ rfl
      have y_2 := HYA.out.at 2 _ rfl
      have y_3 := HYA.out.at 3 _ rfl
      have z_0 := HYA.out.fz 0
      have z_1 := HYA.out.fz 1
      have z_2 := HYA.out.fz 2
      have z_3 := HYA.out.fz 3
      unfold setN at HSB HXB HYB HBB
      refine heldOne 4 (by kernel_rfl) rfl (by rfl) (fun KK hK => ?_)
      go_simp
      refine hK.out _ _ HSB.out ?_
      clear hK KK
      try simp only [Act.put, List.setIfInBounds_toArray, List.set_cons_zero, List.set_cons_succ]
      clear y_0 y_1 y_2 y_3 z_0 z_1 z_2 z_3 HSA HXA HYA HBA
      generalize ((((wA.setCell ⟨w.heap.size + 2, 0, none⟩ (.bool Rf)).setCell ⟨w.heap.size + 2, 1, none⟩ (.slice u1 Rc.length v1)).setCell ⟨w.heap.size + 2, 2, none⟩ (.slice u2 Rk.length v2)).setCell ⟨w.heap.size + 2, 3, none⟩ (.slice u3 Rd.length v3)) = wB at *
      refine heldTake 5 (some 4) (.string KK) rfl rfl (by kernel_rfl) (by kernel_rfl) (by kernel_rfl) (fun _ _ _ h => h) (Or.inl ⟨by rfl, fun w hS => ?_⟩) HSB.out ?_
      · (go_simp)
      simp only [Act.put, List.setIfInBounds_toArray, List.set_cons_zero, List.set_cons_succ]
      refine heldTake 6 (some 5) (.int .i64 0) rfl rfl (by kernel_rfl) (by kernel_rfl) (by kernel_rfl) (fun _ _ _ h => h) (Or.inl ⟨by rfl, fun w hS => ?_⟩) HSB.out ?_
      · (go_simp)
      simp only [Act.put, List.setIfInBounds_toArray, List.set_cons_zero, List.set_cons_succ]
      refine wpAnyH_done (by kernel_rfl) ?_ _
      go_wp2
      refine bodyPost_ret (res_cctt rfl _ _ (w.heap.size + 1) (w.heap.size + 2) 26 _ _ _ rfl HXB.out rfl HYB.out Try.underlying26 rfl (by kernel_rfl) (by kernel_rfl)) rfl ?_
      exact HYE.out _ _ ⟨x1, y1, x2, y2, x3, y3⟩ ⟨u1, v1, u2, v2, u3, v3⟩ rfl (HLL.out.1.below HBB.out) (HLL.out.2.below HBB.out) HBB.out
end Go.Proofs.Ytoinaplmgffkpaa
