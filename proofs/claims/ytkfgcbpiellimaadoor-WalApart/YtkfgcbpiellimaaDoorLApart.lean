/- Proved: the law of two logs on one disk. -/
import Derived.Test.YtkfgcbpiellimaaDoorLDuo
namespace Go.Proofs.YtkfgcbpiellimaaDoor
open Go.RowKit
def txtY : ByteArray := ⟨#[121]⟩
theorem flat_put (s : Sc.St) (i : Nat) (x : ByteArray) : Wl.flat (Sc.put s i x) = (Wl.flat s).set i (Sc.fill x) := by
  show Sc.keepI (fun _ => true) (s.pend ++ [(i, Sc.fill x)]) 0 s.kept = _
  rw [Sc.keepI_snoc, if_pos rfl]
  rfl
theorem put_up {N : Nat} {s : Sc.St} (hu : Wl.Up N s) (i : Nat) (x : ByteArray) (hi : i < N) (hx : x.size ≤ 64) : Sc.writeS s (i : Int) x = Sc.put s i x ∧ Sc.writeE s (i : Int) x = 0 := by
  have hh : Sc.has s (i : Int) = true := Sc.has_iff.2 ⟨by omega, by rw [hu.len]; omega⟩
  have hx' : ¬ 64 < x.size := by omega
  have hl : ¬ s.left = 0 := by have := hu.left; omega
  unfold Sc.writeS Sc.writeE
  simp only [hu.down, hh, hx', hl, if_false, Bool.false_eq_true, Bool.true_eq_false, Int.toNat_natCast]
  exact ⟨trivial, trivial⟩
/- others write to one of the first two sectors -/
theorem Duo.disk {w w' : World} {q1 q2 g kg : Nat} {vr1 vw1 vr2 vw2 vp vp' : Value} {l1 l2 : Wl.Lg} {s : Sc.St} (D : Duo w q1 vr1 vw1 l1 q2 vr2 vw2 l2 g kg vp s) (i : Nat) (x : ByteArray) (hi : i < 2) (hD : Dk w' g kg vp' (Sc.put s i x)) (hT : Turn (foot g kg vp) (foot g kg vp') w w') :
    Duo w' q1 vr1 vw1 l1 q2 vr2 vw2 l2 g kg vp' (Sc.put s i x) ∧ Turn (dfoot q1 vr1 vw1 q2 vr2 vw2 g kg vp) (dfoot q1 vr1 vw1 q2 vr2 vw2 g kg vp') w w' := by
  have hTT : Turn (dfoot q1 vr1 vw1 q2 vr2 vw2 g kg vp) (dfoot q1 vr1 vw1 q2 vr2 vw2 g kg vp') w w' := hT.right.right
  have ho : Wl.Out (Wl.flat s) (Wl.flat (Sc.put s i x)) i 1 := fun j hj => by
    rw [flat_put, List.getD_eq_getElem?_getD, List.getElem?_set_ne (by omega), ← List.getD_eq_getElem?_getD]
  have hl : (Wl.flat (Sc.put s i x)).length = (Wl.flat s).length := by rw [flat_put, List.length_set]
  refine ⟨⟨D.p1.keep hT.chg D.a1, D.p2.keep hT.chg D.a2, hD, D.a12, hT.apart D.a1 D.p1.lt, hT.apart D.a2 D.p2.lt, D.up.put i x, D.on1.out hl ho (.inr (by rw [D.b1.1]; omega)), D.on2.out hl ho (.inr (by rw [D.b2.1]; omega)), D.lost1, D.lost2, D.b1, D.b2, D.safe.turn hTT⟩, hTT⟩
structure AR (w0 : World) (q1 q2 g kg : Nat) (F0 : List Nat) (d : Nat) (vr1 vw1 : Value) (l1 : Wl.Lg) (vr2 vw2 : Value) (l2 : Wl.Lg) (vp : Value) (s : Sc.St) (u : Value) (wr : World) : Prop where
  duo : Duo wr q1 vr1 vw1 l1 q2 vr2 vw2 l2 g kg vp s
  held : Held wr w0.heap.size u l2.recs nil0 [] (dfoot q1 vr1 vw1 q2 vr2 vw2 g kg vp)
  turn : Turn F0 (dfoot q1 vr1 vw1 q2 vr2 vw2 g kg vp) w0 wr
  wait2 : l2.wait = []
  pend : s.pend.length ≤ 2
  dn : s.dn ≤ d
  x0 : (Wl.flat s).getD 0 Sc.zero64 = Sc.fill txtX
  x1 : (Wl.flat s).getD 1 Sc.zero64 = Sc.fill txtY
section
variable {w0 w w' : World} {q1 q2 g kg d d' : Nat} {F0 : List Nat} {vr1 vw1 vr2 vw2 vp vr vw vp' u : Value} {l1 l2 l : Wl.Lg} {s s' : Sc.St}
theorem AR.below (A : AR w0 q1 q2 g kg F0 d vr1 vw1 l1 vr2 vw2 l2 vp s u w) (hB : Below w.heap.size w w') : AR w0 q1 q2 g kg F0 d vr1 vw1 l1 vr2 vw2 l2 vp s u w' := ⟨A.duo.below hB, A.held.below hB, A.turn.under hB, A.wait2, A.pend, A.dn, A.x0, A.x1⟩
theorem AR.mono (A : AR w0 q1 q2 g kg F0 d vr1 vw1 l1 vr2 vw2 l2 vp s u w) (h : d ≤ d') : AR w0 q1 q2 g kg F0 d' vr1 vw1 l1 vr2 vw2 l2 vp s u w := ⟨A.duo, A.held, A.turn, A.wait2, A.pend, by have := A.dn; omega, A.x0, A.x1⟩
theorem AR.one (A : AR w0 q1 q2 g kg F0 d vr1 vw1 l1 vr2 vw2 l2 vp s u w) (hG : Good w' q1 g vr vw l kg vp' s' 20) (hT : Turn (lfoot q1 g vr1 vw1 kg vp) (lfoot q1 g vr vw kg vp') w w') (ho : Wl.Out (Wl.flat s) (Wl.flat s') 2 16) (hb : l.base = 2 ∧ l.n = 16) (hp : s'.pend.length ≤ s.pend.length) (hd : s'.dn ≤ d') : AR w0 q1 q2 g kg F0 d' vr vw l vr2 vw2 l2 vp' s' u w' := by
  obtain ⟨hD, hTT⟩ := A.duo.step1 hG hT ho hb
  exact ⟨hD, A.held.turn hTT, A.turn.trans hTT, A.wait2, by have := A.pend; omega, hd, (ho 0 (by omega)).trans A.x0, (ho 1 (by omega)).trans A.x1⟩
theorem AR.add1 (A : AR w0 q1 q2 g kg F0 d vr1 vw1 l1 vr2 vw2 l2 vp s u w) {r : ByteArray} (hG : Good w' q1 g vr vw (Wl.addS l1 r) kg vp s 20) (hT : Turn (lfoot q1 g vr1 vw1 kg vp) (lfoot q1 g vr vw kg vp) w w') : AR w0 q1 q2 g kg F0 d vr vw (Wl.addS l1 r) vr2 vw2 l2 vp s u w' := by
  obtain ⟨h1, h2, _⟩ := Wl.addS_base l1 r
  exact A.one hG hT (fun _ _ => rfl) ⟨h1.trans A.duo.b1.1, h2.trans A.duo.b1.2⟩ (Nat.le_refl _) A.dn
end
set_option maxHeartbeats 16000000 in
set_option maxRecDepth 20000 in
theorem apart_walk (a1 : Option Addr) (len1 cap1 : Nat) (a2 : Option Addr) (len2 cap2 : Nat) (w : World) (hA1 : Acts w a1 len1) (_hlc1 : len1 ≤ cap1) (_hcm1 : cap1 ≤ 9223372036854775807) (hA2 : Acts w a2 len2) (_hlc2 : len2 ≤ cap2) (_hcm2 : cap2 ≤ 9223372036854775807) (hT : Tab w) :
    Calls Tryd.prog 6 #[.slice a1 len1 cap1, .slice a2 len2 cap2] w fun e w' => e = .returned (.bool true) ∧ Below w.heap.size w w' := by
  have HA1 : Hid (Acts w a1 len1) := hA1
  have HA2 : Hid (Acts w a2 len2) := hA2
  have HBG := begin_any w hT
  have hpos := hT.pos
  clear hA1 hA2 hT
  go_enter Tryd.func6, Tryd.ntmps6
  go_wp2_with fail
  refine HBG.mono ?_
  rintro e w1 ⟨g, kg, q1, vr1, rfl, hG1, hB1, hF1⟩
  have HG1 : Hid (Good w1 q1 g vr1 nil0 lgB kg nil0 (Sc.made 20) 20) := hG1
  have HB1 : Hid (Below w.heap.size w w1) := hB1
  have HF1 : Hid (∀ k ∈ lfoot q1 g vr1 nil0 kg nil0, w.heap.size ≤ k) := hF1
  have hs1 := hB1.size
  clear hG1 hB1 hF1 HBG
  go_wp2_with fail
  refine (gopen g kg nil0 (Sc.made 20) 18 2 0 20 [] w1 HG1.out.lp.dk (made_up 20) (HG1.out.safe.of (fun k hk => List.mem_append.2 (.inr hk))) (by intro r hr; cases hr) (made_on 20 18 2 (by omega) (by omega))).mono ?_
  rintro e w2 ⟨q2, vr2, rfl, hG2, hB2, hab2⟩
  have HD2 : Hid (Duo w2 q1 vr1 nil0 lgB q2 vr2 nil0 (opened 18 2 0 []) g kg nil0 (Sc.made 20)) := by
    have hG1 := HG1.out.below hB2
    refine ⟨hG1.lp.pk, hG2.lp.pk, hG1.lp.dk, fun k hk hm => ?_, hG1.lp.ap, hG2.lp.ap, made_up 20, hG1.on, hG2.on, rfl, rfl, ⟨rfl, rfl⟩, ⟨rfl, rfl⟩, hG1.safe.tab, fun hm => ?_⟩
    · have := hab2 k hm
      have := HG1.out.lp.pk.lt k hk
      omega
    · rcases List.mem_append.1 hm with h | h
      · exact hG1.safe.no (List.mem_append.2 (.inl h))
      · exact hG2.safe.no h
  have HB2 : Hid (Below w.heap.size w w2) := HB1.out.trans (hB2.mono hs1)
  have HF2 : Hid (∀ k ∈ dfoot q1 vr1 nil0 q2 vr2 nil0 g kg nil0, w.heap.size ≤ k) := fun k hk => by
    rcases List.mem_append.1 hk with h | h
    · exact HF1.out k (List.mem_append.2 (.inl h))
    · rcases List.mem_append.1 h with h | h
      · have := hab2 k h; omega
      · exact HF1.out k (List.mem_append.2 (.inr h))
  have hs2 := HB2.out.size
  clear hG2 hB2 hab2 HG1 HB1 HF1
  have HW1 := write_any g kg nil0 (Sc.made 20) ((0 : Nat) : Int) txtX w2 HD2.out.dk (by decide) (by decide)
  obtain ⟨e1, e2⟩ := put_up (made_up 20) 0 txtX (by omega) (by decide)
  rw [e1, e2] at HW1
  clear e1 e2
  go_wp2_with fail
  refine HW1.mono ?_
  rintro e w3 ⟨vp3, rfl, hD3, hT3⟩
  obtain ⟨hDu3, hTT3⟩ := HD2.out.disk 0 txtX (by omega) hD3 hT3
  have HD3 : Hid (Duo w3 q1 vr1 nil0 lgB q2 vr2 nil0 (opened 18 2 0 []) g kg vp3 (Sc.put (Sc.made 20) 0 txtX)) := hDu3
  have HB3 : Hid (Below w.heap.size w w3) := HB2.out.trans (hTT3.below HF2.out hs2)
  have HF3 : Hid (∀ k ∈ dfoot q1 vr1 nil0 q2 vr2 nil0 g kg vp3, w.heap.size ≤ k) := hTT3.above HF2.out hs2
  have hs3 := HB3.out.size
  clear hD3 hT3 hDu3 hTT3 HW1 HD2 HB2 HF2
  have HW2 := write_any g kg vp3 (Sc.put (Sc.made 20) 0 txtX) ((1 : Nat) : Int) txtY w3 HD3.out.dk (by decide) (by decide)
  obtain ⟨e1, e2⟩ := put_up HD3.out.up 1 txtY (by omega) (by decide)
  rw [e1, e2] at HW2
  clear e1 e2
  go_wp2_with fail
  refine HW2.mono ?_
  rintro e w4 ⟨vp4, rfl, hD4, hT4⟩
  obtain ⟨hDu4, hTT4⟩ := HD3.out.disk 1 txtY (by omega) hD4 hT4
  have HB4 : Hid (Below w.heap.size w w4) := HB3.out.trans (hTT4.below HF3.out hs3)
  have HF4 : Hid (∀ k ∈ dfoot q1 vr1 nil0 q2 vr2 nil0 g kg vp4, w.heap.size ≤ k) := hTT4.above HF3.out hs3
  have hs4 := HB4.out.size
  have HR0 : Hid (AR w4 q1 q2 g kg (dfoot q1 vr1 nil0 q2 vr2 nil0 g kg vp4) (2 + 24 * 0) vr1 nil0 lgB vr2 nil0 (opened 18 2 0 []) vp4 (Sc.put (Sc.put (Sc.made 20) 0 txtX) 1 txtY) nil0 w4) := by
    refine ⟨hDu4, Held.start _ _ _, Turn.refl _ _, rfl, by decide, by decide, ?_, ?_⟩
    · rw [flat_put, flat_put]
      rfl
    · rw [flat_put, flat_put]
      rfl
  clear hD4 hT4 hDu4 hTT4 HW2 HD3 HB3 HF3
  generalize Sc.put (Sc.put (Sc.made 20) 0 txtX) 1 txtY = s0 at *
  generalize dfoot q1 vr1 nil0 q2 vr2 nil0 g kg vp4 = F0 at *
  go_wp2_with fail
  go_loopw [9, 10, 11] (fun s9 s10 _ wr => ∃ (k : Nat) (vr1 vw1 : Value) (l1 : Wl.Lg) (vr2 vw2 : Value) (l2 : Wl.Lg) (vp : Value) (s : Sc.St), k ≤ 20 ∧ s10 = .int .i64 (k : Int) ∧ AR w4 q1 q2 g kg F0 (2 + 24 * k) vr1 vw1 l1 vr2 vw2 l2 vp s s9 wr) (fun _ s10 _ _ => 20 - (intOf s10).toNat)
  case atStart => exact ⟨0, vr1, nil0, lgB, vr2, nil0, opened 18 2 0 [], vp4, s0, by omega, rfl, HR0.out⟩
  case round =>
    clear HR0 vr1 vr2 vp4 s0
    obtain ⟨k, vr1, vw1, l1, vr2, vw2, l2, vp, s, hk, rfl, hR⟩ := hrel
    have HR := (show Hid (AR w4 q1 q2 g kg F0 (2 + 24 * k) vr1 vw1 l1 vr2 vw2 l2 vp s _ wr) from hR)
    have hdn := hR.dn
    have hb1 := hR.duo.b1.2
    have hb2 := hR.duo.b2.2
    have hpe := hR.pend
    clear hR
    have HBr : Hid (Below w.heap.size w wr) := HB4.out.trans (HR.out.turn.below HF4.out hs4)
    by_cases hk20 : k < 20
    · have d20 : decide ((k : Int) < 20) = true := decide_eq_true (by omega)
      have k0 : (0 : Int) ≤ (k : Int) := by omega
      by_cases hla : k < len1
      · have da : decide ((k : Int) < (len1 : Int)) = true := decide_eq_true (by omega)
        have ka : (k : Int) < (len1 : Int) := by omega
        obtain ⟨b, off, rfl, x, hx, c0, c2⟩ := HA1.out.at HBr.out hla
        obtain ⟨kind, at', sx, ka', kl, kc, mm⟩ := x
        simp only at c0 c2
        have HX := (show Hid (sx.size ≤ 9223372036854775807) from hx.s)
        have hbw : b < w.heap.size := by
          rcases HA1.out with h | ⟨b', off', h1, h2⟩
          · omega
          · obtain ⟨y, _, hy⟩ := h2 k hla
            have h3 : b' < w.heap.size := block_lt_of_cell (hy 0 _ rfl)
            have e : b = b' := by simpa using congrArg (fun z : Option Addr => z.map Addr.block) h1
            omega
        clear hx
        obtain ⟨n, hn1, hn2, hmin⟩ : ∃ n : Nat, n ≤ sx.size ∧ n ≤ 100 ∧ min (sx.size : Int) 100 = (n : Int) := ⟨min sx.size 100, by omega, by omega, by omega⟩
        have hif : (if (100 : Int) < (sx.size : Int) then (100 : Int) else (sx.size : Int)) = (n : Int) := by split <;> omega
        have hcs : (sx.extract 0 n).size = n := cut_size sx n hn1
        have n0 : (0 : Int) ≤ (n : Int) := by omega
        have n1 : (n : Int) ≤ (sx.size : Int) := by omega
        go_wp2_with fail
        have HRD := (show Hid (AR w4 q1 q2 g kg F0 (2 + 24 * k) vr1 vw1 l1 vr2 vw2 l2 vp s _ wr.drew) from HR.out.below ((Below.refl _ wr).drew))
        have HS : Hid ((fun V : World => V.cell? ⟨b, off + k * 4 + 2, none⟩ = some (.string sx)) wr.drew) := c2
        have HAD := gadd (sx.extract 0 n) HRD.out.duo.good1 (by omega)
        refine wp_region_held_drew (S := fun V => V.cell? ⟨b, off + k * 4 + 2, none⟩ = some (.string sx)) (by kernel_rfl) HS.out (fun _ => ?_)
        refine heldTake 0 (some 53) (ptr q1) rfl rfl (by kernel_rfl) (by kernel_rfl) (by kernel_rfl) (fun _ _ _ h => h) (Or.inl ⟨by rfl, fun w hS => ?_⟩) HS.out ?_
        · (go_simp)
        simp only [Act.put, List.setIfInBounds_toArray, List.set_cons_zero, List.set_cons_succ]
        refine heldTake 1 (some 54) (.slice (some ⟨b, off, none⟩) len1 cap1) rfl rfl (by kernel_rfl) (by kernel_rfl) (by kernel_rfl) (fun _ _ _ h => h) (Or.inl ⟨by rfl, fun w hS => ?_⟩) HS.out ?_
        · (go_simp)
        simp only [Act.put, List.setIfInBounds_toArray, List.set_cons_zero, List.set_cons_succ]
        refine heldTake 2 (some 55) (.int .i64 (k : Int)) rfl rfl (by kernel_rfl) (by kernel_rfl) (by kernel_rfl) (fun _ _ _ h => h) (Or.inl ⟨by rfl, fun w hS => ?_⟩) HS.out ?_
        · (go_simp)
        simp only [Act.put, List.setIfInBounds_toArray, List.set_cons_zero, List.set_cons_succ]
        refine heldTake 3 (some 56) (.pointer (some ⟨b, off + k * 4, none⟩)) rfl rfl (by kernel_rfl) (by kernel_rfl) (by kernel_rfl) (fun _ _ _ h => h) (Or.inl ⟨by rfl, fun w hS => ?_⟩) HS.out ?_
        · (go_simp)
        simp only [Act.put, List.setIfInBounds_toArray, List.set_cons_zero, List.set_cons_succ]
        refine heldTake 4 (some 57) (.pointer (some ⟨b, off + k * 4 + 2, none⟩)) rfl rfl (by kernel_rfl) (by kernel_rfl) (by kernel_rfl) (fun _ _ _ h => h) (Or.inl ⟨by rfl, fun w hS => ?_⟩) HS.out ?_
        · (go_simp)
        simp only [Act.put, List.setIfInBounds_toArray, List.set_cons_zero, List.set_cons_succ]
        refine heldTake 5 (some 58) (.string sx) rfl rfl (by kernel_rfl) (by kernel_rfl) (by kernel_rfl) (fun _ _ _ h => h) (Or.inl ⟨by rfl, fun w hS => ?_⟩) HS.out ?_
        · (have q1 := hS; go_simp)
        simp only [Act.put, List.setIfInBounds_toArray, List.set_cons_zero, List.set_cons_succ]
        refine heldTake 6 (some 59) (.slice (some ⟨b, off, none⟩) len1 cap1) rfl rfl (by kernel_rfl) (by kernel_rfl) (by kernel_rfl) (fun _ _ _ h => h) (Or.inl ⟨by rfl, fun w hS => ?_⟩) HS.out ?_
        · (go_simp)
        simp only [Act.put, List.setIfInBounds_toArray, List.set_cons_zero, List.set_cons_succ]
        refine heldTake 7 (some 60) (.int .i64 (k : Int)) rfl rfl (by kernel_rfl) (by kernel_rfl) (by kernel_rfl) (fun _ _ _ h => h) (Or.inl ⟨by rfl, fun w hS => ?_⟩) HS.out ?_
        · (go_simp)
        simp only [Act.put, List.setIfInBounds_toArray, List.set_cons_zero, List.set_cons_succ]
        refine heldTake 8 (some 61) (.pointer (some ⟨b, off + k * 4, none⟩)) rfl rfl (by kernel_rfl) (by kernel_rfl) (by kernel_rfl) (fun _ _ _ h => h) (Or.inl ⟨by rfl, fun w hS => ?_⟩) HS.out ?_
        · (go_simp)
        simp only [Act.put, List.setIfInBounds_toArray, List.set_cons_zero, List.set_cons_succ]
        refine heldTake 9 (some 62) (.pointer (some ⟨b, off + k * 4 + 2, none⟩)) rfl rfl (by kernel_rfl) (by kernel_rfl) (by kernel_rfl) (fun _ _ _ h => h) (Or.inl ⟨by rfl, fun w hS => ?_⟩) HS.out ?_
        · (go_simp)
        simp only [Act.put, List.setIfInBounds_toArray, List.set_cons_zero, List.set_cons_succ]
        refine heldTake 10 (some 63) (.string sx) rfl rfl (by kernel_rfl) (by kernel_rfl) (by kernel_rfl) (fun _ _ _ h => h) (Or.inl ⟨by rfl, fun w hS => ?_⟩) HS.out ?_
        · (have q1 := hS; go_simp)
        simp only [Act.put, List.setIfInBounds_toArray, List.set_cons_zero, List.set_cons_succ]
        refine heldTake 11 (some 64) (.int .i64 (sx.size : Int)) rfl rfl (by kernel_rfl) (by kernel_rfl) (by kernel_rfl) (fun _ _ _ h => h) (Or.inl ⟨by rfl, fun w hS => ?_⟩) HS.out ?_
        · (go_simp)
        simp only [Act.put, List.setIfInBounds_toArray, List.set_cons_zero, List.set_cons_succ]
        refine heldTake 12 (some 65) (.int .i64 (n : Int)) rfl rfl (by kernel_rfl) (by kernel_rfl) (by kernel_rfl) (fun _ _ _ h => h) (Or.inl ⟨by rfl, fun w hS => ?_⟩) HS.out ?_
        · (go_simp)
        simp only [Act.put, List.setIfInBounds_toArray, List.set_cons_zero, List.set_cons_succ]
        refine heldTake 13 (some 66) (.string (sx.extract 0 n)) rfl rfl (by kernel_rfl) (by kernel_rfl) (by kernel_rfl) (fun _ _ _ h => h) (Or.inl ⟨by rfl, fun w hS => ?_⟩) HS.out ?_
        · (go_simp)
        simp only [Act.put, List.setIfInBounds_toArray, List.set_cons_zero, List.set_cons_succ]
        generalize sx.extract 0 n = sy at *
        refine heldOne 14 (by kernel_rfl) rfl (by rfl) (fun KK hK => ?_)
        go_simp
        go_at_call 9
        refine HAD.mono ?_
        rintro e w5 ⟨vr5, vw5, rfl, hG5, hT5⟩
        have HR5 := (show Hid (AR w4 q1 q2 g kg F0 (2 + 24 * k) vr5 vw5 (Wl.addS l1 sy) vr2 vw2 l2 vp s _ w5) from HRD.out.add1 hG5 hT5)
        have HB5 : Hid (Below w.heap.size w w5) := HB4.out.trans (HR5.out.turn.below HF4.out hs4)
        have c0' : w5.cell? ⟨b, off + k * 4, none⟩ = some (.int .i64 kind) := by
          obtain ⟨b', off', he, x', _, d0, _⟩ := HA1.out.at HB5.out hla
          obtain ⟨b'', off'', he', x'', _, d0', _⟩ := HA1.out.at HBr.out hla
          have h1 : w5.cell? ⟨b, off + k * 4, none⟩ = wr.cell? ⟨b, off + k * 4, none⟩ := by
            rw [HB5.out.cell (p := ⟨b, off + k * 4, none⟩) hbw, HBr.out.cell (p := ⟨b, off + k * 4, none⟩) hbw]
          rw [h1]
          exact c0
        have c2' : w5.cell? ⟨b, off + k * 4 + 2, none⟩ = some (.string sx) := by
          rw [HB5.out.cell (p := ⟨b, off + k * 4 + 2, none⟩) hbw, ← HBr.out.cell (p := ⟨b, off + k * 4 + 2, none⟩) hbw]
          exact c2
        clear hG5 hT5
        refine hK.out _ _ c2' ?_
        clear hK KK
        refine wpAnyH_done (by kernel_rfl) ?_ _
        have c0 : w5.cell? ⟨b, off + k * 4, none⟩ = some (.int .i64 kind) := c0'
        clear c0' c2' c2 HS HAD HRD HR hmin hif HX
        by_cases hkd : kind = 1
        · subst hkd
          have HSY := gsync HR5.out.duo.good1 (by have := (Wl.addS_base l1 sy).2.1; omega) (by have := (Wl.addS_base l1 sy).2.1; omega)
          go_wp2_with fail
          refine HSY.mono ?_
          rintro e w6 ⟨vr6, vw6, vp6, s6, rfl, hG6, hT6, _, ho6, hd6, hp6, _⟩
          have hbase := Wl.addS_base l1 sy
          have hb5 := HR5.out.duo.b1
          have HA := (show Hid (AR w4 q1 q2 g kg F0 (21 + 24 * k) vr6 vw6 (Wl.synced (Wl.addS l1 sy)) vr2 vw2 l2 vp6 s6 _ w6) from HR5.out.one hG6 hT6 (by rw [hb5.1, hb5.2] at ho6; exact ho6) hb5 hp6 (by have := hb5.2; omega))
          have HBA : Hid (Below w.heap.size w w6) := HB4.out.trans (HA.out.turn.below HF4.out hs4)
          clear hG6 hT6 ho6 HSY HR5 HB5 c0 hdn hd6 hp6 hbase hb5
          generalize Wl.synced (Wl.addS l1 sy) = lA at *
          by_cases hlb : k < len2
          · have db : decide ((k : Int) < (len2 : Int)) = true := decide_eq_true (by omega)
            have kb : (k : Int) < (len2 : Int) := by omega
            obtain ⟨b', off', rfl, x', hx', _, c2'⟩ := HA2.out.at HBA.out hlb
            obtain ⟨kind', at'', sz, kb', kl', kc', mm'⟩ := x'
            simp only at c2'
            have HX' := (show Hid (sz.size ≤ 9223372036854775807) from hx'.s)
            clear hx'
            obtain ⟨n', hn1', hn2', hmin'⟩ : ∃ n' : Nat, n' ≤ sz.size ∧ n' ≤ 30 ∧ min (sz.size : Int) 30 = (n' : Int) := ⟨min sz.size 30, by omega, by omega, by omega⟩
            have hcs' : (sz.extract 0 n').size = n' := cut_size sz n' hn1'
            have n0' : (0 : Int) ≤ (n' : Int) := by omega
            have n1' : (n' : Int) ≤ (sz.size : Int) := by omega
            go_wp2_with fail
            go_quiet (fail)
            have HBq : Hid (Below w6.heap.size w6 (w6.drewN nq)) := below_drewN w6 nq
            have HQ := (show Hid (AR w4 q1 q2 g kg F0 (21 + 24 * k) vr6 vw6 lA vr2 vw2 l2 vp6 s6 _ (w6.drewN nq)) from HA.out.below HBq.out)
            generalize w6.drewN nq = U at *
            generalize sz.extract 0 n' = sq at *
            have hlost := HQ.out.duo.lost2
            have hq1 := HQ.out.dn
            have hq2 := HQ.out.pend
            have hq3 := HQ.out.duo.b2
            clear HA HBq HBA hmin' c2' HX'
            have HAD' := gadd sq HQ.out.duo.good2 (by omega)
            by_cases hfull : Wl.room l2 - 8 < (n' : Int)
            · have e1 : Wl.addE l2 sq = 7 := by unfold Wl.addE; rw [hlost, if_neg (by decide), if_neg (by omega), if_pos (by omega)]
              have e2 : Wl.addS l2 sq = l2 := by unfold Wl.addS; rw [e1, if_neg (by decide)]
              rw [e1, e2] at HAD'
              clear e1 e2
              go_wp2_with fail
              refine HAD'.mono ?_
              rintro e wB ⟨vrB, vwB, rfl, hGB, hTB⟩
              obtain ⟨hDB, hTTB⟩ := HQ.out.duo.step2 hGB hTB (fun _ _ => rfl) hq3
              have HQB := (show Hid (AR w4 q1 q2 g kg F0 (21 + 24 * k) vr6 vw6 lA vrB vwB l2 vp6 s6 _ wB) from ⟨hDB, HQ.out.held.turn hTTB, HQ.out.turn.trans hTTB, HQ.out.wait2, HQ.out.pend, HQ.out.dn, HQ.out.x0, HQ.out.x1⟩)
              clear hGB hTB hDB hTTB HAD' HQ
              have HSY' := gsync HQB.out.duo.good2 (by omega) (by omega)
              go_wp2_with fail
              refine HSY'.mono ?_
              rintro e wC ⟨vrC, vwC, vpC, sC, rfl, hGC, hTC, _, hoC, hdC, hpC, _⟩
              rw [Wl.synced_none HQB.out.wait2] at hGC
              rw [hq3.1, hq3.2] at hoC
              obtain ⟨hDC, hTTC⟩ := HQB.out.duo.step2 hGC hTC hoC hq3
              have HFN := (show Hid (∃ (k' : Nat) (vr1 vw1 : Value) (l1 : Wl.Lg) (vr2 vw2 : Value) (l2 : Wl.Lg) (vp : Value) (s : Sc.St), k' ≤ 20 ∧ Value.int .i64 ((k : Int) + 1) = .int .i64 (k' : Int) ∧ AR w4 q1 q2 g kg F0 (2 + 24 * k') vr1 vw1 l1 vr2 vw2 l2 vp s _ wC) from ⟨k + 1, vr6, vw6, lA, vrC, vwC, l2, vpC, sC, by omega, by go_num, ⟨hDC, HQB.out.held.turn hTTC, HQB.out.turn.trans hTTC, HQB.out.wait2, by omega, by omega, (hoC 0 (by omega)).trans HQB.out.x0, (hoC 1 (by omega)).trans HQB.out.x1⟩⟩)
              clear hGC hTC hDC hTTC HSY' hoC HQB
              go_wp2
              go_roundw
              case rel => first | exact HFN.out | ((repeat apply Exists.intro); exact ⟨HFN.out, rfl⟩)
              case measure => (simp [intOf]) <;> omega
            · have e1 : Wl.addE l2 sq = 0 := by unfold Wl.addE; rw [hlost, if_neg (by decide), if_neg (by omega), if_neg (by omega)]
              have e2 : Wl.addS l2 sq = { l2 with wait := [sq] } := by unfold Wl.addS; rw [e1, if_pos rfl, HQ.out.wait2]; rfl
              rw [e1, e2] at HAD'
              have hrl := HQ.out.duo.p2.rlen
              clear e1 e2
              go_wp2_with fail
              refine HAD'.mono ?_
              rintro e wB ⟨vrB, vwB, rfl, hGB, hTB⟩
              obtain ⟨hDB, hTTB⟩ := HQ.out.duo.step2 hGB hTB (fun _ _ => rfl) hq3
              have HDB := (show Hid (Duo wB q1 vr6 vw6 lA q2 vrB vwB { l2 with wait := [sq] } g kg vp6 s6) from hDB)
              have HHB := (show Hid (Held wB w4.heap.size _ l2.recs nil0 [] _) from HQ.out.held.turn hTTB)
              have HTB := (show Hid (Turn F0 _ w4 wB) from HQ.out.turn.trans hTTB)
              have hwB : w4.heap.size ≤ wB.heap.size := HTB.out.chg.size
              have qq1 : l2.recs.length + [sq].length ≤ 10000000 := by simp; omega
              have qq2 : ∀ o, w4.heap.size ≤ (wB.alloc o).heap.size := fun o => by simp; omega
              have HXX : Hid ((Wl.flat s6).getD 0 Sc.zero64 = Sc.fill txtX ∧ (Wl.flat s6).getD 1 Sc.zero64 = Sc.fill txtY) := ⟨HQ.out.x0, HQ.out.x1⟩
              clear hGB hTB hDB hTTB HAD' HQ
              have hBA' : Hid (Below wB.heap.size wB (wB.alloc (.cells #[.string sq] 9))) := (Below.refl _ _).alloc (Nat.le_refl _) _
              have HHA := (show Hid (Held (wB.alloc (.cells #[.string sq] 9)) w4.heap.size _ l2.recs nil0 [] _) from HHB.out.below hBA'.out)
              go_wp2_with (first | (refine app_many rfl (.tmp 100) (.tmp 102) rfl _ w4.heap.size _ _ l2.recs [sq] rfl HHA.out.a rfl (own_new wB sq) qq1 (qq2 _) ?_; intro v3 wD hO3 hG3 hv3; have HO3 := (show Hid (OwnS wD w4.heap.size v3 (l2.recs ++ [sq])) from hO3); have HG3 := (show Hid (World.grownBy (wB.alloc (.cells #[.string sq] 9)) wD _) from hG3); have HV3 := (show Hid (_ = _ ∨ _ = _) from hv3); clear hO3 hG3 hv3))
              have HDD := (show Hid (Duo wD q1 vr6 vw6 lA q2 vrB vwB { l2 with wait := [sq] } g kg vp6 s6) from (HDB.out.below hBA'.out).grown HG3.out HHA.out.af (fun j hj => by have := (HHA.out.a.lt j hj).1; omega))
              have HHD := (show Hid (Held wD w4.heap.size v3 (l2.recs ++ [sq]) nil0 [] _) from HHA.out.app_a (fun j hj => (HDB.out.below hBA'.out).lt j hj) HO3.out HV3.out)
              have HTD := (show Hid (Turn F0 _ w4 wD) from (HTB.out.under hBA'.out).grown HG3.out (fun j hj => (HHA.out.a.lt j hj).1))
              clear HO3 HG3 HV3 HHA hBA' HDB HHB HTB
              have HSY' := gsync HDD.out.good2 (by show s6.dn + l2.n ≤ _; omega) (by show s6.pend.length + l2.n ≤ _; omega)
              refine HSY'.mono ?_
              rintro e wC ⟨vrC, vwC, vpC, sC, rfl, hGC, hTC, _, hoC, hdC, hpC, _⟩
              have hoC' : Wl.Out (Wl.flat s6) (Wl.flat sC) 18 2 := by
                have := hoC
                rw [show ({ l2 with wait := [sq] } : Wl.Lg).base = 18 from hq3.1, show ({ l2 with wait := [sq] } : Wl.Lg).n = 2 from hq3.2] at this
                exact this
              obtain ⟨hDC, hTTC⟩ := HDD.out.step2 hGC hTC hoC' hq3
              have hdC' : sC.dn ≤ s6.dn + l2.n + 3 := hdC
              have HFN := (show Hid (∃ (k' : Nat) (vr1 vw1 : Value) (l1 : Wl.Lg) (vr2 vw2 : Value) (l2 : Wl.Lg) (vp : Value) (s : Sc.St), k' ≤ 20 ∧ Value.int .i64 ((k : Int) + 1) = .int .i64 (k' : Int) ∧ AR w4 q1 q2 g kg F0 (2 + 24 * k') vr1 vw1 l1 vr2 vw2 l2 vp s v3 wC) from ⟨k + 1, vr6, vw6, lA, vrC, vwC, _, vpC, sC, by omega, by go_num, ⟨hDC, HHD.out.turn hTTC, HTD.out.trans hTTC, rfl, by omega, by omega, (hoC' 0 (by omega)).trans HXX.out.1, (hoC' 1 (by omega)).trans HXX.out.2⟩⟩)
              clear hGC hTC hDC hTTC HSY' hoC hoC' HDD HHD HTD hdC hdC'
              go_wp2
              go_roundw
              case rel => first | exact HFN.out | ((repeat apply Exists.intro); exact ⟨HFN.out, rfl⟩)
              case measure => (simp [intOf]) <;> omega
          · have db : decide ((k : Int) < (len2 : Int)) = false := decide_eq_false (by omega)
            have HFN := (show Hid (∃ (k' : Nat) (vr1 vw1 : Value) (l1 : Wl.Lg) (vr2 vw2 : Value) (l2 : Wl.Lg) (vp : Value) (s : Sc.St), k' ≤ 20 ∧ Value.int .i64 ((k : Int) + 1) = .int .i64 (k' : Int) ∧ AR w4 q1 q2 g kg F0 (2 + 24 * k') vr1 vw1 l1 vr2 vw2 l2 vp s _ w6) from ⟨k + 1, vr6, vw6, lA, vr2, vw2, l2, vp6, s6, by omega, by go_num, HA.out.mono (by omega)⟩)
            clear HA HBA
            go_wp2
            go_roundw
            case rel => first | exact HFN.out | ((repeat apply Exists.intro); exact ⟨HFN.out, rfl⟩)
            case measure => (simp [intOf]) <;> omega
        · have hkb : (kind == 1) = false := by simp [hkd]
          have HA := (show Hid (AR w4 q1 q2 g kg F0 (21 + 24 * k) vr5 vw5 (Wl.addS l1 sy) vr2 vw2 l2 vp s _ w5) from HR5.out.mono (by omega))
          have HBA : Hid (Below w.heap.size w w5) := HB5.out
          clear HR5 HB5 hdn hkd
          generalize Wl.addS l1 sy = lA at *
          by_cases hlb : k < len2
          · have db : decide ((k : Int) < (len2 : Int)) = true := decide_eq_true (by omega)
            have kb : (k : Int) < (len2 : Int) := by omega
            obtain ⟨b', off', rfl, x', hx', _, c2'⟩ := HA2.out.at HBA.out hlb
            obtain ⟨kind', at'', sz, kb', kl', kc', mm'⟩ := x'
            simp only at c2'
            have HX' := (show Hid (sz.size ≤ 9223372036854775807) from hx'.s)
            clear hx'
            obtain ⟨n', hn1', hn2', hmin'⟩ : ∃ n' : Nat, n' ≤ sz.size ∧ n' ≤ 30 ∧ min (sz.size : Int) 30 = (n' : Int) := ⟨min sz.size 30, by omega, by omega, by omega⟩
            have hcs' : (sz.extract 0 n').size = n' := cut_size sz n' hn1'
            have n0' : (0 : Int) ≤ (n' : Int) := by omega
            have n1' : (n' : Int) ≤ (sz.size : Int) := by omega
            go_wp2_with fail
            go_quiet (fail)
            have HBq : Hid (Below w5.heap.size w5 (w5.drewN nq)) := below_drewN w5 nq
            have HQ := (show Hid (AR w4 q1 q2 g kg F0 (21 + 24 * k) vr5 vw5 lA vr2 vw2 l2 vp s _ (w5.drewN nq)) from HA.out.below HBq.out)
            generalize w5.drewN nq = U at *
            generalize sz.extract 0 n' = sq at *
            have hlost := HQ.out.duo.lost2
            have hq1 := HQ.out.dn
            have hq2 := HQ.out.pend
            have hq3 := HQ.out.duo.b2
            clear HA HBq HBA hmin' c2' HX'
            have HAD' := gadd sq HQ.out.duo.good2 (by omega)
            by_cases hfull : Wl.room l2 - 8 < (n' : Int)
            · have e1 : Wl.addE l2 sq = 7 := by unfold Wl.addE; rw [hlost, if_neg (by decide), if_neg (by omega), if_pos (by omega)]
              have e2 : Wl.addS l2 sq = l2 := by unfold Wl.addS; rw [e1, if_neg (by decide)]
              rw [e1, e2] at HAD'
              clear e1 e2
              go_wp2_with fail
              refine HAD'.mono ?_
              rintro e wB ⟨vrB, vwB, rfl, hGB, hTB⟩
              obtain ⟨hDB, hTTB⟩ := HQ.out.duo.step2 hGB hTB (fun _ _ => rfl) hq3
              have HQB := (show Hid (AR w4 q1 q2 g kg F0 (21 + 24 * k) vr5 vw5 lA vrB vwB l2 vp s _ wB) from ⟨hDB, HQ.out.held.turn hTTB, HQ.out.turn.trans hTTB, HQ.out.wait2, HQ.out.pend, HQ.out.dn, HQ.out.x0, HQ.out.x1⟩)
              clear hGB hTB hDB hTTB HAD' HQ
              have HSY' := gsync HQB.out.duo.good2 (by omega) (by omega)
              go_wp2_with fail
              refine HSY'.mono ?_
              rintro e wC ⟨vrC, vwC, vpC, sC, rfl, hGC, hTC, _, hoC, hdC, hpC, _⟩
              rw [Wl.synced_none HQB.out.wait2] at hGC
              rw [hq3.1, hq3.2] at hoC
              obtain ⟨hDC, hTTC⟩ := HQB.out.duo.step2 hGC hTC hoC hq3
              have HFN := (show Hid (∃ (k' : Nat) (vr1 vw1 : Value) (l1 : Wl.Lg) (vr2 vw2 : Value) (l2 : Wl.Lg) (vp : Value) (s : Sc.St), k' ≤ 20 ∧ Value.int .i64 ((k : Int) + 1) = .int .i64 (k' : Int) ∧ AR w4 q1 q2 g kg F0 (2 + 24 * k') vr1 vw1 l1 vr2 vw2 l2 vp s _ wC) from ⟨k + 1, vr5, vw5, lA, vrC, vwC, l2, vpC, sC, by omega, by go_num, ⟨hDC, HQB.out.held.turn hTTC, HQB.out.turn.trans hTTC, HQB.out.wait2, by omega, by omega, (hoC 0 (by omega)).trans HQB.out.x0, (hoC 1 (by omega)).trans HQB.out.x1⟩⟩)
              clear hGC hTC hDC hTTC HSY' hoC HQB
              go_wp2
              go_roundw
              case rel => first | exact HFN.out | ((repeat apply Exists.intro); exact ⟨HFN.out, rfl⟩)
              case measure => (simp [intOf]) <;> omega
            · have e1 : Wl.addE l2 sq = 0 := by unfold Wl.addE; rw [hlost, if_neg (by decide), if_neg (by omega), if_neg (by omega)]
              have e2 : Wl.addS l2 sq = { l2 with wait := [sq] } := by unfold Wl.addS; rw [e1, if_pos rfl, HQ.out.wait2]; rfl
              rw [e1, e2] at HAD'
              have hrl := HQ.out.duo.p2.rlen
              clear e1 e2
              go_wp2_with fail
              refine HAD'.mono ?_
              rintro e wB ⟨vrB, vwB, rfl, hGB, hTB⟩
              obtain ⟨hDB, hTTB⟩ := HQ.out.duo.step2 hGB hTB (fun _ _ => rfl) hq3
              have HDB := (show Hid (Duo wB q1 vr5 vw5 lA q2 vrB vwB { l2 with wait := [sq] } g kg vp s) from hDB)
              have HHB := (show Hid (Held wB w4.heap.size _ l2.recs nil0 [] _) from HQ.out.held.turn hTTB)
              have HTB := (show Hid (Turn F0 _ w4 wB) from HQ.out.turn.trans hTTB)
              have hwB : w4.heap.size ≤ wB.heap.size := HTB.out.chg.size
              have qq1 : l2.recs.length + [sq].length ≤ 10000000 := by simp; omega
              have qq2 : ∀ o, w4.heap.size ≤ (wB.alloc o).heap.size := fun o => by simp; omega
              have HXX : Hid ((Wl.flat s).getD 0 Sc.zero64 = Sc.fill txtX ∧ (Wl.flat s).getD 1 Sc.zero64 = Sc.fill txtY) := ⟨HQ.out.x0, HQ.out.x1⟩
              clear hGB hTB hDB hTTB HAD' HQ
              have hBA' : Hid (Below wB.heap.size wB (wB.alloc (.cells #[.string sq] 9))) := (Below.refl _ _).alloc (Nat.le_refl _) _
              have HHA := (show Hid (Held (wB.alloc (.cells #[.string sq] 9)) w4.heap.size _ l2.recs nil0 [] _) from HHB.out.below hBA'.out)
              go_wp2_with (first | (refine app_many rfl (.tmp 100) (.tmp 102) rfl _ w4.heap.size _ _ l2.recs [sq] rfl HHA.out.a rfl (own_new wB sq) qq1 (qq2 _) ?_; intro v3 wD hO3 hG3 hv3; have HO3 := (show Hid (OwnS wD w4.heap.size v3 (l2.recs ++ [sq])) from hO3); have HG3 := (show Hid (World.grownBy (wB.alloc (.cells #[.string sq] 9)) wD _) from hG3); have HV3 := (show Hid (_ = _ ∨ _ = _) from hv3); clear hO3 hG3 hv3))
              have HDD := (show Hid (Duo wD q1 vr5 vw5 lA q2 vrB vwB { l2 with wait := [sq] } g kg vp s) from (HDB.out.below hBA'.out).grown HG3.out HHA.out.af (fun j hj => by have := (HHA.out.a.lt j hj).1; omega))
              have HHD := (show Hid (Held wD w4.heap.size v3 (l2.recs ++ [sq]) nil0 [] _) from HHA.out.app_a (fun j hj => (HDB.out.below hBA'.out).lt j hj) HO3.out HV3.out)
              have HTD := (show Hid (Turn F0 _ w4 wD) from (HTB.out.under hBA'.out).grown HG3.out (fun j hj => (HHA.out.a.lt j hj).1))
              clear HO3 HG3 HV3 HHA hBA' HDB HHB HTB
              have HSY' := gsync HDD.out.good2 (by show s.dn + l2.n ≤ _; omega) (by show s.pend.length + l2.n ≤ _; omega)
              refine HSY'.mono ?_
              rintro e wC ⟨vrC, vwC, vpC, sC, rfl, hGC, hTC, _, hoC, hdC, hpC, _⟩
              have hoC' : Wl.Out (Wl.flat s) (Wl.flat sC) 18 2 := by
                have := hoC
                rw [show ({ l2 with wait := [sq] } : Wl.Lg).base = 18 from hq3.1, show ({ l2 with wait := [sq] } : Wl.Lg).n = 2 from hq3.2] at this
                exact this
              obtain ⟨hDC, hTTC⟩ := HDD.out.step2 hGC hTC hoC' hq3
              have hdC' : sC.dn ≤ s.dn + l2.n + 3 := hdC
              have HFN := (show Hid (∃ (k' : Nat) (vr1 vw1 : Value) (l1 : Wl.Lg) (vr2 vw2 : Value) (l2 : Wl.Lg) (vp : Value) (s : Sc.St), k' ≤ 20 ∧ Value.int .i64 ((k : Int) + 1) = .int .i64 (k' : Int) ∧ AR w4 q1 q2 g kg F0 (2 + 24 * k') vr1 vw1 l1 vr2 vw2 l2 vp s v3 wC) from ⟨k + 1, vr5, vw5, lA, vrC, vwC, _, vpC, sC, by omega, by go_num, ⟨hDC, HHD.out.turn hTTC, HTD.out.trans hTTC, rfl, by omega, by omega, (hoC' 0 (by omega)).trans HXX.out.1, (hoC' 1 (by omega)).trans HXX.out.2⟩⟩)
              clear hGC hTC hDC hTTC HSY' hoC hoC' HDD HHD HTD hdC hdC'
              go_wp2
              go_roundw
              case rel => first | exact HFN.out | ((repeat apply Exists.intro); exact ⟨HFN.out, rfl⟩)
              case measure => (simp [intOf]) <;> omega
          · have db : decide ((k : Int) < (len2 : Int)) = false := decide_eq_false (by omega)
            have HFN := (show Hid (∃ (k' : Nat) (vr1 vw1 : Value) (l1 : Wl.Lg) (vr2 vw2 : Value) (l2 : Wl.Lg) (vp : Value) (s : Sc.St), k' ≤ 20 ∧ Value.int .i64 ((k : Int) + 1) = .int .i64 (k' : Int) ∧ AR w4 q1 q2 g kg F0 (2 + 24 * k') vr1 vw1 l1 vr2 vw2 l2 vp s _ w5) from ⟨k + 1, vr5, vw5, lA, vr2, vw2, l2, vp, s, by omega, by go_num, HA.out.mono (by omega)⟩)
            clear HA HBA
            go_wp2
            go_roundw
            case rel => first | exact HFN.out | ((repeat apply Exists.intro); exact ⟨HFN.out, rfl⟩)
            case measure => (simp [intOf]) <;> omega
      · have da : decide ((k : Int) < (len1 : Int)) = false := decide_eq_false (by omega)
        have HA := (show Hid (AR w4 q1 q2 g kg F0 (21 + 24 * k) vr1 vw1 l1 vr2 vw2 l2 vp s _ wr) from HR.out.mono (by omega))
        have HBA : Hid (Below w.heap.size w wr) := HBr.out
        clear HR hdn
        by_cases hlb : k < len2
        · have db : decide ((k : Int) < (len2 : Int)) = true := decide_eq_true (by omega)
          have kb : (k : Int) < (len2 : Int) := by omega
          obtain ⟨b', off', rfl, x', hx', _, c2'⟩ := HA2.out.at HBA.out hlb
          obtain ⟨kind', at'', sz, kb', kl', kc', mm'⟩ := x'
          simp only at c2'
          have HX' := (show Hid (sz.size ≤ 9223372036854775807) from hx'.s)
          clear hx'
          obtain ⟨n', hn1', hn2', hmin'⟩ : ∃ n' : Nat, n' ≤ sz.size ∧ n' ≤ 30 ∧ min (sz.size : Int) 30 = (n' : Int) := ⟨min sz.size 30, by omega, by omega, by omega⟩
          have hcs' : (sz.extract 0 n').size = n' := cut_size sz n' hn1'
          have n0' : (0 : Int) ≤ (n' : Int) := by omega
          have n1' : (n' : Int) ≤ (sz.size : Int) := by omega
          go_wp2_with fail
          go_quiet (fail)
          have HBq : Hid (Below wr.heap.size wr (wr.drewN nq)) := below_drewN wr nq
          have HQ := (show Hid (AR w4 q1 q2 g kg F0 (21 + 24 * k) vr1 vw1 l1 vr2 vw2 l2 vp s _ (wr.drewN nq)) from HA.out.below HBq.out)
          generalize wr.drewN nq = U at *
          generalize sz.extract 0 n' = sq at *
          have hlost := HQ.out.duo.lost2
          have hq1 := HQ.out.dn
          have hq2 := HQ.out.pend
          have hq3 := HQ.out.duo.b2
          clear HA HBq HBA hmin' c2' HX'
          have HAD' := gadd sq HQ.out.duo.good2 (by omega)
          by_cases hfull : Wl.room l2 - 8 < (n' : Int)
          · have e1 : Wl.addE l2 sq = 7 := by unfold Wl.addE; rw [hlost, if_neg (by decide), if_neg (by omega), if_pos (by omega)]
            have e2 : Wl.addS l2 sq = l2 := by unfold Wl.addS; rw [e1, if_neg (by decide)]
            rw [e1, e2] at HAD'
            clear e1 e2
            go_wp2_with fail
            refine HAD'.mono ?_
            rintro e wB ⟨vrB, vwB, rfl, hGB, hTB⟩
            obtain ⟨hDB, hTTB⟩ := HQ.out.duo.step2 hGB hTB (fun _ _ => rfl) hq3
            have HQB := (show Hid (AR w4 q1 q2 g kg F0 (21 + 24 * k) vr1 vw1 l1 vrB vwB l2 vp s _ wB) from ⟨hDB, HQ.out.held.turn hTTB, HQ.out.turn.trans hTTB, HQ.out.wait2, HQ.out.pend, HQ.out.dn, HQ.out.x0, HQ.out.x1⟩)
            clear hGB hTB hDB hTTB HAD' HQ
            have HSY' := gsync HQB.out.duo.good2 (by omega) (by omega)
            go_wp2_with fail
            refine HSY'.mono ?_
            rintro e wC ⟨vrC, vwC, vpC, sC, rfl, hGC, hTC, _, hoC, hdC, hpC, _⟩
            rw [Wl.synced_none HQB.out.wait2] at hGC
            rw [hq3.1, hq3.2] at hoC
            obtain ⟨hDC, hTTC⟩ := HQB.out.duo.step2 hGC hTC hoC hq3
            have HFN := (show Hid (∃ (k' : Nat) (vr1 vw1 : Value) (l1 : Wl.Lg) (vr2 vw2 : Value) (l2 : Wl.Lg) (vp : Value) (s : Sc.St), k' ≤ 20 ∧ Value.int .i64 ((k : Int) + 1) = .int .i64 (k' : Int) ∧ AR w4 q1 q2 g kg F0 (2 + 24 * k') vr1 vw1 l1 vr2 vw2 l2 vp s _ wC) from ⟨k + 1, vr1, vw1, l1, vrC, vwC, l2, vpC, sC, by omega, by go_num, ⟨hDC, HQB.out.held.turn hTTC, HQB.out.turn.trans hTTC, HQB.out.wait2, by omega, by omega, (hoC 0 (by omega)).trans HQB.out.x0, (hoC 1 (by omega)).trans HQB.out.x1⟩⟩)
            clear hGC hTC hDC hTTC HSY' hoC HQB
            go_wp2
            go_roundw
            case rel => first | exact HFN.out | ((repeat apply Exists.intro); exact ⟨HFN.out, rfl⟩)
            case measure => (simp [intOf]) <;> omega
          · have e1 : Wl.addE l2 sq = 0 := by unfold Wl.addE; rw [hlost, if_neg (by decide), if_neg (by omega), if_neg (by omega)]
            have e2 : Wl.addS l2 sq = { l2 with wait := [sq] } := by unfold Wl.addS; rw [e1, if_pos rfl, HQ.out.wait2]; rfl
            rw [e1, e2] at HAD'
            have hrl := HQ.out.duo.p2.rlen
            clear e1 e2
            go_wp2_with fail
            refine HAD'.mono ?_
            rintro e wB ⟨vrB, vwB, rfl, hGB, hTB⟩
            obtain ⟨hDB, hTTB⟩ := HQ.out.duo.step2 hGB hTB (fun _ _ => rfl) hq3
            have HDB := (show Hid (Duo wB q1 vr1 vw1 l1 q2 vrB vwB { l2 with wait := [sq] } g kg vp s) from hDB)
            have HHB := (show Hid (Held wB w4.heap.size _ l2.recs nil0 [] _) from HQ.out.held.turn hTTB)
            have HTB := (show Hid (Turn F0 _ w4 wB) from HQ.out.turn.trans hTTB)
            have hwB : w4.heap.size ≤ wB.heap.size := HTB.out.chg.size
            have qq1 : l2.recs.length + [sq].length ≤ 10000000 := by simp; omega
            have qq2 : ∀ o, w4.heap.size ≤ (wB.alloc o).heap.size := fun o => by simp; omega
            have HXX : Hid ((Wl.flat s).getD 0 Sc.zero64 = Sc.fill txtX ∧ (Wl.flat s).getD 1 Sc.zero64 = Sc.fill txtY) := ⟨HQ.out.x0, HQ.out.x1⟩
            clear hGB hTB hDB hTTB HAD' HQ
            have hBA' : Hid (Below wB.heap.size wB (wB.alloc (.cells #[.string sq] 9))) := (Below.refl _ _).alloc (Nat.le_refl _) _
            have HHA := (show Hid (Held (wB.alloc (.cells #[.string sq] 9)) w4.heap.size _ l2.recs nil0 [] _) from HHB.out.below hBA'.out)
            go_wp2_with (first | (refine app_many rfl (.tmp 100) (.tmp 102) rfl _ w4.heap.size _ _ l2.recs [sq] rfl HHA.out.a rfl (own_new wB sq) qq1 (qq2 _) ?_; intro v3 wD hO3 hG3 hv3; have HO3 := (show Hid (OwnS wD w4.heap.size v3 (l2.recs ++ [sq])) from hO3); have HG3 := (show Hid (World.grownBy (wB.alloc (.cells #[.string sq] 9)) wD _) from hG3); have HV3 := (show Hid (_ = _ ∨ _ = _) from hv3); clear hO3 hG3 hv3))
            have HDD := (show Hid (Duo wD q1 vr1 vw1 l1 q2 vrB vwB { l2 with wait := [sq] } g kg vp s) from (HDB.out.below hBA'.out).grown HG3.out HHA.out.af (fun j hj => by have := (HHA.out.a.lt j hj).1; omega))
            have HHD := (show Hid (Held wD w4.heap.size v3 (l2.recs ++ [sq]) nil0 [] _) from HHA.out.app_a (fun j hj => (HDB.out.below hBA'.out).lt j hj) HO3.out HV3.out)
            have HTD := (show Hid (Turn F0 _ w4 wD) from (HTB.out.under hBA'.out).grown HG3.out (fun j hj => (HHA.out.a.lt j hj).1))
            clear HO3 HG3 HV3 HHA hBA' HDB HHB HTB
            have HSY' := gsync HDD.out.good2 (by show s.dn + l2.n ≤ _; omega) (by show s.pend.length + l2.n ≤ _; omega)
            refine HSY'.mono ?_
            rintro e wC ⟨vrC, vwC, vpC, sC, rfl, hGC, hTC, _, hoC, hdC, hpC, _⟩
            have hoC' : Wl.Out (Wl.flat s) (Wl.flat sC) 18 2 := by
              have := hoC
              rw [show ({ l2 with wait := [sq] } : Wl.Lg).base = 18 from hq3.1, show ({ l2 with wait := [sq] } : Wl.Lg).n = 2 from hq3.2] at this
              exact this
            obtain ⟨hDC, hTTC⟩ := HDD.out.step2 hGC hTC hoC' hq3
            have hdC' : sC.dn ≤ s.dn + l2.n + 3 := hdC
            have HFN := (show Hid (∃ (k' : Nat) (vr1 vw1 : Value) (l1 : Wl.Lg) (vr2 vw2 : Value) (l2 : Wl.Lg) (vp : Value) (s : Sc.St), k' ≤ 20 ∧ Value.int .i64 ((k : Int) + 1) = .int .i64 (k' : Int) ∧ AR w4 q1 q2 g kg F0 (2 + 24 * k') vr1 vw1 l1 vr2 vw2 l2 vp s v3 wC) from ⟨k + 1, vr1, vw1, l1, vrC, vwC, _, vpC, sC, by omega, by go_num, ⟨hDC, HHD.out.turn hTTC, HTD.out.trans hTTC, rfl, by omega, by omega, (hoC' 0 (by omega)).trans HXX.out.1, (hoC' 1 (by omega)).trans HXX.out.2⟩⟩)
            clear hGC hTC hDC hTTC HSY' hoC hoC' HDD HHD HTD hdC hdC'
            go_wp2
            go_roundw
            case rel => first | exact HFN.out | ((repeat apply Exists.intro); exact ⟨HFN.out, rfl⟩)
            case measure => (simp [intOf]) <;> omega
        · have db : decide ((k : Int) < (len2 : Int)) = false := decide_eq_false (by omega)
          have HFN := (show Hid (∃ (k' : Nat) (vr1 vw1 : Value) (l1 : Wl.Lg) (vr2 vw2 : Value) (l2 : Wl.Lg) (vp : Value) (s : Sc.St), k' ≤ 20 ∧ Value.int .i64 ((k : Int) + 1) = .int .i64 (k' : Int) ∧ AR w4 q1 q2 g kg F0 (2 + 24 * k') vr1 vw1 l1 vr2 vw2 l2 vp s _ wr) from ⟨k + 1, vr1, vw1, l1, vr2, vw2, l2, vp, s, by omega, by go_num, HA.out.mono (by omega)⟩)
          clear HA HBA
          go_wp2
          go_roundw
          case rel => first | exact HFN.out | ((repeat apply Exists.intro); exact ⟨HFN.out, rfl⟩)
          case measure => (simp [intOf]) <;> omega
    · have d20 : decide ((k : Int) < 20) = false := decide_eq_false (by omega)
      obtain ⟨e1, e2⟩ := read_up (s := s) (i := 0) HR.out.duo.up.down (by rw [HR.out.duo.up.len]; omega)
      obtain ⟨e3, e4⟩ := read_up (s := s) (i := 1) HR.out.duo.up.down (by rw [HR.out.duo.up.len]; omega)
      rw [Wl.now_flat (by rw [HR.out.duo.up.len]; omega), HR.out.x0] at e1
      rw [Wl.now_flat (by rw [HR.out.duo.up.len]; omega), HR.out.x1] at e3
      have HR1 := read_any g kg vp s ((0 : Nat) : Int) wr HR.out.duo.dk
      rw [e1, e2] at HR1
      have hsr := HBr.out.size
      clear e1 e2
      go_wp2_with fail
      refine HR1.mono ?_
      rintro e w5 ⟨rfl, hB5⟩
      have HR5 := (show Hid (AR w4 q1 q2 g kg F0 (2 + 24 * k) vr1 vw1 l1 vr2 vw2 l2 vp s _ w5) from HR.out.below hB5)
      have HB5 : Hid (Below w.heap.size w w5) := HBr.out.trans (hB5.mono hsr)
      have hs5 := HB5.out.size
      have HR2 := read_any g kg vp s ((1 : Nat) : Int) w5 HR5.out.duo.dk
      rw [e3, e4] at HR2
      clear e3 e4 hB5 HR1 HR
      go_wp2_with fail
      refine HR2.mono ?_
      rintro e w6 ⟨rfl, hB6⟩
      have HR6 := (show Hid (AR w4 q1 q2 g kg F0 (2 + 24 * k) vr1 vw1 l1 vr2 vw2 l2 vp s _ w6) from HR5.out.below hB6)
      have HB6 : Hid (Below w.heap.size w w6) := HB5.out.trans (hB6.mono hs5)
      have hs6 := HB6.out.size
      have z1 : (Sc.fill txtX).size = 64 := Sc.fill_size (by decide)
      have z2 : (Sc.fill txtY).size = 64 := Sc.fill_size (by decide)
      have g1 : ∀ h, ((Sc.fill txtX)[0]'h) = 120 := fun h => fill_get txtX 0 h 120 rfl
      have g2 : ∀ h, ((Sc.fill txtY)[0]'h) = 121 := fun h => fill_get txtY 0 h 121 rfl
      clear hB6 HR2 HR5 HB5
      generalize Sc.fill txtX = px at *
      generalize Sc.fill txtY = py at *
      go_wp2_with fail
      refine (lrecords_any q2 g vr2 vw2 l2 w6 HR6.out.duo.p2).mono ?_
      rintro e w7 ⟨u7, rfl, hO7, hB7⟩
      have HH7 := (show Hid (OwnS w7 w4.heap.size _ l2.recs) from own_below HR6.out.held.a hB7)
      have HB7 : Hid (Below w.heap.size w w7) := HB6.out.trans (hB7.mono hs6)
      have hs7 := HB7.out.size
      have HT7 : Hid (Tab w7) := HR6.out.duo.safe.tab.below hB7 (by omega)
      have HSM := same_any u7 _ l2.recs l2.recs w7 (own_zero hO7) (own_zero HH7.out)
      rw [decide_eq_true rfl] at HSM
      clear hO7 hB7 HR6 HB6
      go_wp2_with fail
      refine HSM.mono ?_
      rintro e w8 ⟨rfl, hB8, _⟩
      have HB8 : Hid (Below w.heap.size w w8) := HB7.out.trans (hB8.mono hs7)
      have hs8 := HB8.out.size
      have HWK := works_any w8 (HT7.out.below hB8 (by omega))
      clear hB8 HSM
      go_wp2_with fail
      refine HWK.mono ?_
      rintro e w9 ⟨rfl, hB9⟩
      have HFN : Hid (Below w.heap.size w w9) := HB8.out.trans (hB9.mono hs8)
      clear hB9 HWK
      go_wp2
      go_ret
      exact ⟨rfl, HFN.out⟩
end Go.Proofs.YtkfgcbpiellimaaDoor
