/- Proved: what writeWaiting makes of a log's disk. -/
import Derived.Test.YtcfninpokngmlaaGreatDoorM05
namespace Go.Proofs.YtcfninpokngmlaaGreatDoor
open Go.RowKit
/- bytes that lie in block b, from some place on -/
def Rb (b : Nat) (w : World) (v : Value) (R : ByteArray) : Prop := ∃ a c, v = .slice a R.size c ∧ R.size ≤ c ∧ c ≤ 9223372036854775807 ∧ (0 < R.size → ∃ off, a = some ⟨b, off, none⟩ ∧ w.rangeAt b off (bc R))
theorem Rb.of_own {w : World} {N : Nat} {v : Value} {y : ByteArray} (h : OwnB w N v y) (h0 : 0 < y.size) : ∃ b, N ≤ b ∧ b < w.heap.size ∧ Rb b w v y := by
  obtain ⟨a, c, h1, h2, h3, h4⟩ := own_range h
  obtain ⟨b, hb1, hb2, hb3, hb4⟩ := h4 h0
  exact ⟨b, hb2, hb3, a, c, h1, h2, h3, fun _ => ⟨0, hb1, hb4⟩⟩
set_option maxHeartbeats 8000000 in
set_option maxRecDepth 20000 in
theorem lww_any (q g : Nat) (vr vw : Value) (l : Wl.Lg) (kg : Nat) (vp : Value) (s : Sc.St) (w : World) (L : LP w q g vr vw l kg vp s) (hT : Tab w) (hd : s.down = false) (htl : ∀ j, j < l.bytes.size % 64 → (Sc.now s (l.base + 1 + l.bytes.size / 64)).data.toList[j]? = l.bytes.data.toList[64 * (l.bytes.size / 64) + j]?) (hw0 : 0 < l.wait.length) (hn : s.dn + l.n ≤ 90000) (hp : s.pend.length + l.n ≤ 19000) :
    Calls Tryz.prog 120 #[ptr q] w (LDoes w q g vr vw kg vp l (Wl.wwT l s).1 (Wl.wwT l s).2) := by
  have c1 := L.pk.c1
  have c4 := L.pk.c4
  have HL : Hid (LP w q g vr vw l kg vp s) := L
  have HTB : Hid (Tab w) := hT
  have hpos := hT.pos
  have HTL : Hid (∀ j, j < l.bytes.size % 64 → (Sc.now s (l.base + 1 + l.bytes.size / 64)).data.toList[j]? = l.bytes.data.toList[64 * (l.bytes.size / 64) + j]?) := htl
  have h2n := L.pk.ok.two
  have hmost := L.pk.ok.most
  have hroom := L.pk.ok.room
  have hfits := L.fits
  have HFIT : Hid (Wl.Fit l.wait) := L.pk.ok.fit
  have hwl := L.pk.wlen
  have HWW : Hid (Wl.wwT l s = if (Wl.writes l s).2 = 0 then (Sc.flushS (Wl.writes l s).1, Sc.flushE (Wl.writes l s).1) else Wl.writes l s) := rfl
  have HWR : Hid (Wl.puts l.base (Wl.all l).data.toList (Wl.many l.bytes.size (Wl.all l).size) (l.bytes.size / 64) s = Wl.writes l s) := rfl
  have hts := Wl.all_size l
  have hbz : l.bytes.size ≤ 4194304 := by omega
  clear L hT htl
  generalize Wl.wwT l s = T at *
  generalize Wl.writes l s = Wr at *
  go_enter Tryz.func120, Tryz.ntmps120
  go_wp2_with fail
  go_quiet (fail)
  have HBq : Hid (Below w.heap.size w (w.drewN nq)) := below_drewN w nq
  have HLq : Hid (LP (w.drewN nq) q g vr vw l kg vp s) := HL.out.below HBq.out
  have hsq : (w.drewN nq).heap.size = w.heap.size := rfl
  have HSQ : Hid ((w.drewN nq).heap.size = w.heap.size) := hsq
  clear hsq
  generalize w.drewN nq = W at *
  clear c1 c4
  have c1 := HLq.out.pk.c1
  have c4 := HLq.out.pk.c4
  have c0 := HLq.out.pk.c0
  go_wp2_with fail
  have hk1 : (l.base : Int) + 1 + (l.bytes.size : Int) / 64 = ((l.base + 1 + l.bytes.size / 64 : Nat) : Int) := by omega
  have hk2 : (l.bytes.size : Int) % 64 = ((l.bytes.size % 64 : Nat) : Int) := by omega
  rw [hk1, hk2]
  have HRD := lread_any q g kg vp s (l.base + 1 + l.bytes.size / 64) (l.bytes.size % 64) (Wl.tail l.bytes) W c0 HLq.out.dk hd (Wl.tail_size _) (by omega) (by omega) (fun i hi => by omega) (fun i j hj hij => by
    obtain rfl : i = 0 := by omega
    rw [Nat.mul_zero, Nat.zero_add, Nat.add_zero] at *
    rw [HTL.out j hij, Wl.tail_at])
  refine HRD.mono ?_
  rintro e w1 ⟨v1, rfl, hO1, hB1⟩
  rw [HSQ.out] at hO1 hB1
  have HO1 : Hid (OwnB w1 w.heap.size v1 (Wl.tail l.bytes)) := hO1
  have HB1 : Hid (Below w.heap.size w w1) := HBq.out.trans hB1
  have HL1 : Hid (LP w1 q g vr vw l kg vp s) := HL.out.below HB1.out
  have hs1 := HB1.out.size
  clear hO1 hB1 HRD HLq HBq HTL c0 c1 c4 hk1 hk2 HSQ
  have c6 := HL1.out.pk.c6
  obtain ⟨wa, wcap, hwv, hwc1, hwc2, hwr⟩ := own_strs HL1.out.pk.wait
  have HWS : Hid (0 < l.wait.length → ∃ g', wa = some ⟨g', 0, none⟩ ∧ vw.ownBlock = some g' ∧ ∀ i r, l.wait[i]? = some r → w1.cell? ⟨g', i, none⟩ = some (.string r)) := hwr
  rw [hwv] at c6
  have HWV : Hid (vw = .slice wa l.wait.length wcap) := hwv
  clear hwr hwv
  have hmz := Wl.many_le l.bytes.size (Wl.all l).size l.n (by omega) h2n
  have HNU : Hid (∀ j, 64 * (l.bytes.size / 64 + j) < (Wl.all l).size → j < Wl.many l.bytes.size (Wl.all l).size) := fun j => Wl.many_num _ _ _ j rfl
  have HMO : Hid (∀ j, ¬ 64 * (l.bytes.size / 64 + j) < (Wl.all l).size → Wl.many l.bytes.size (Wl.all l).size ≤ j) := fun j => Wl.many_most _ _ _ j rfl
  have hal : (Wl.all l).size ≤ 64 * (l.n - 1) := by omega
  have hks : l.bytes.size / 64 ≤ l.n := by omega
  have HA0 : Hid (l.base + 1 + l.bytes.size / 64 = l.base + 1 + l.bytes.size / 64) := rfl
  generalize ha0 : l.base + 1 + l.bytes.size / 64 = a0 at *
  have HA : Hid (a0 = l.base + 1 + l.bytes.size / 64) := ha0.symm
  have ha1 : a0 ≤ 200000 := by omega
  clear HA0 ha0
  go_wp2_with fail
  go_loopw [4, 7, 40] (fun s4 _ s40 wr => ∃ k : Nat, k ≤ l.wait.length ∧ s40 = .int .i64 (k : Int) ∧ OwnB wr w.heap.size s4 (Wl.tail l.bytes ++ Wl.frames (l.wait.take k)) ∧ Below w.heap.size w1 wr) (fun _ _ s40 _ => l.wait.length - (intOf s40).toNat)
  case atStart => exact ⟨0, by omega, rfl, (by rw [List.take_zero, Wl.app_none]; exact HO1.out), Below.refl _ _⟩
  case round =>
    obtain ⟨k, hk, rfl, hO, hB⟩ := hrel
    have HO := (show Hid (OwnB wr w.heap.size _ (Wl.tail l.bytes ++ Wl.frames (l.wait.take k))) from hO)
    have HBr : Hid (Below w.heap.size w1 wr) := hB
    have HBw : Hid (Below w.heap.size w wr) := HB1.out.trans hB
    have hsr := HBw.out.size
    clear hO hB HO1
    by_cases hkl : k < l.wait.length
    · have dk : decide ((k : Int) < (l.wait.length : Int)) = true := decide_eq_true (by omega)
      obtain ⟨g', rfl, hgw, hcell⟩ := HWS.out (by omega)
      obtain ⟨r, hr⟩ : ∃ r, l.wait[k]? = some r := ⟨_, List.getElem?_eq_getElem hkl⟩
      have hg' : g' < w.heap.size := HL.out.pk.lt g' (by simp [pfoot, hgw])
      have q1 : wr.cell? ⟨g', k, none⟩ = some (.string r) := (HBr.out.cell (p := ⟨g', k, none⟩) hg').trans (hcell k r hr)
      have k0 : (0 : Int) ≤ (k : Int) := by omega
      have k1 : (k : Int) < (l.wait.length : Int) := by omega
      have hrs : r.size ≤ 65536 := HFIT.out r (List.mem_of_getElem? hr)
      have htl := Wl.total_le l.wait k
      have hys : (Wl.tail l.bytes ++ Wl.frames (l.wait.take k)).size ≤ 100000000 := by rw [ByteArray.size_append, Wl.tail_size, Wl.frames_size]; omega
      have HAP := appf_any _ (Wl.tail l.bytes ++ Wl.frames (l.wait.take k)) r w.heap.size wr HO.out hpos hsr (HTB.out.below HBw.out hpos) hrs hys
      have HEQ : Hid (Wl.tail l.bytes ++ Wl.frames (l.wait.take k) ++ Wl.frame r = Wl.tail l.bytes ++ Wl.frames (l.wait.take (k + 1))) := by rw [Wl.frames_take _ _ _ hr, Wl.app_assoc]; trivial
      clear hcell hr htl hgw hys hroom
      go_wp2_with fail
      refine HAP.mono ?_
      rintro e w2 ⟨v2, rfl, hO2, hB2⟩
      have HFN : Hid (∃ k' : Nat, k' ≤ l.wait.length ∧ Value.int .i64 ((k : Int) + 1) = .int .i64 (k' : Int) ∧ OwnB w2 w.heap.size v2 (Wl.tail l.bytes ++ Wl.frames (l.wait.take k')) ∧ Below w.heap.size w1 w2) := ⟨k + 1, by omega, by go_num, (by rw [← HEQ.out]; exact hO2), HBr.out.trans hB2⟩
      clear hO2 hB2 HAP
      go_wp2
      go_roundw
      case rel => first | exact HFN.out | ((repeat apply Exists.intro); exact ⟨HFN.out, rfl⟩)
      case measure => (simp [intOf]) <;> omega
    · have hke : k = l.wait.length := by omega
      have hdk : decide ((k : Int) < (l.wait.length : Int)) = false := decide_eq_false (by omega)
      rw [hke, List.take_length, Wl.tail_all] at HO
      have hls := Wl.left_size (Wl.all l).data.toList (l.bytes.size / 64)
      rw [← Sc.size_eq] at hls
      have htc := Wl.total_count l.wait
      obtain ⟨gb, hgb1, hgb2, hrb⟩ := Rb.of_own HO.out (by omega)
      have HRB := (show Hid (Rb gb wr _ (Wl.left (Wl.all l).data.toList (l.bytes.size / 64))) from hrb)
      have HLr : Hid (LP wr q g vr vw l kg vp s) := HL.out.below HBw.out
      have HTr : Hid (Turn (lfoot q g vr vw kg vp) (lfoot q g vr vw kg vp) w wr) := Turn.of_below HBw.out
      have HGF : Hid (gb ∉ foot g kg vp) := fun h => by have := HL.out.dk.lt gb h; omega
      have hGB2 : gb < wr.heap.size := hgb2
      clear hke hrb hgb1 hgb2 HO hls htc HWS c6 HFIT hroom HB1 HL1 HWV hw0
      generalize Wl.many l.bytes.size (Wl.all l).size = m at *
      generalize l.bytes.size / 64 = k0 at *
      have HALS : Hid ((Wl.all l).data.toList.length = (Wl.all l).size) := (Sc.size_eq _).symm
      clear hts
      generalize (Wl.all l).size = z at *
      generalize (Wl.all l).data.toList = al at *
      go_wp2_with fail
      go_loopw [3, 4, 8, 9] (fun s3 s4 _ _ wr => ∃ (j : Nat) (s' : Sc.St) (vp' : Value), j ≤ m ∧ s3 = .int .i64 ((a0 + j : Nat) : Int) ∧ Rb gb wr s4 (Wl.left al (k0 + j)) ∧ Wl.puts l.base al (m - j) (k0 + j) s' = Wr ∧ LP wr q g vr vw l kg vp' s' ∧ Turn (lfoot q g vr vw kg vp) (lfoot q g vr vw kg vp') w wr ∧ gb ∉ foot g kg vp' ∧ gb < wr.heap.size ∧ s'.dn ≤ s.dn + j ∧ s'.pend.length ≤ s.pend.length + j) (fun s3 _ _ _ _ => a0 + m - (intOf s3).toNat)
      case atStart => exact ⟨0, s, vp, by omega, rfl, HRB.out, HWR.out, HLr.out, HTr.out, HGF.out, hGB2, by omega, by omega⟩
      case round =>
        obtain ⟨j, s', vp', hj, rfl, hRb, hpu, hLr, hTr, hgf, hgl, hdn', hpe'⟩ := hrel
        obtain ⟨ra, rc, rfl, hrc1, hrc2, hrg⟩ := hRb
        have HPU : Hid (Wl.puts l.base al (m - j) (k0 + j) s' = Wr) := hpu
        have HLr := (show Hid (LP _ q g vr vw l kg vp' s') from hLr)
        have HTr := (show Hid (Turn (lfoot q g vr vw kg vp) (lfoot q g vr vw kg vp') w _) from hTr)
        have HGF : Hid (gb ∉ foot g kg vp') := hgf
        clear hpu hLr hTr HWR HRB hgf
        have hnj := HNU.out j
        have hmj := HMO.out j
        have hav : ((a0 + j : Nat) : Int) = (l.base : Int) + 1 + ((k0 + j : Nat) : Int) := by have := HA.out; omega
        have hls := Wl.left_size al (k0 + j)
        rw [HALS.out] at hls
        generalize hkk : k0 + j = kk at *
        generalize hAA : a0 + j = A at *
        have hA2 : A ≤ 300000 := by omega
        by_cases hin : 64 * kk < z
        · have hjm := hnj hin
          have hmn : m ≤ l.n := by omega
          have hpm : m - j = (m - (j + 1)) + 1 := by omega
          obtain ⟨off, rfl, hrange⟩ := hrg (by omega)
          have hsp := Wl.left_split al kk
          have hxs := Wl.sec_size al kk
          rw [HALS.out] at hxs
          have hls2 := Wl.left_size al (kk + 1)
          rw [HALS.out] at hls2
          rw [hsp, bc_append] at hrange
          obtain ⟨hX, hX'⟩ := range_app hrange
          rw [bc_length] at hX'
          have HX := (show Hid (World.rangeAt _ gb off (bc (Wl.ob (Wl.sec al kk)))) from hX)
          have HX' := (show Hid (World.rangeAt _ gb (off + (Wl.ob (Wl.sec al kk)).size) (bc (Wl.left al (kk + 1)))) from hX')
          clear hX hX' hrange hsp hrg
          generalize (Wl.left al kk).size = rs at *
          have HYES : Hid (Sc.writeE s' (A : Int) (Wl.ob (Wl.sec al kk)) = 0 → Wl.puts l.base al (m - (j + 1)) (kk + 1) (Sc.writeS s' (A : Int) (Wl.ob (Wl.sec al kk))) = Wr) := fun h => by rw [← HPU.out, hpm]; rw [hav] at h ⊢; rw [Wl.puts_yes h]
          have HNO : Hid (Sc.writeE s' (A : Int) (Wl.ob (Wl.sec al kk)) ≠ 0 → Wr = (Sc.writeS s' (A : Int) (Wl.ob (Wl.sec al kk)), Sc.writeE s' (A : Int) (Wl.ob (Wl.sec al kk)))) := fun h => by rw [← HPU.out, hpm]; rw [hav] at h ⊢; rw [Wl.puts_no h]
          have hst := Sc.writeS_step s' (A : Int) (Wl.ob (Wl.sec al kk))
          have hst1 := hst.len
          have hst2 := hst.dn
          have hst3 := hst.pend
          clear hst
          clear hav
          generalize Wl.ob (Wl.sec al kk) = X at *
          have HR' : Hid ((Wl.left al (kk + 1)).size = z - 64 * (kk + 1)) := hls2
          have hrx : rs - X.size = z - 64 * (kk + 1) := by omega
          have hrp : 0 < rs := by omega
          generalize hcut : X.size = cut at *
          have hmin : min (rs : Int) 64 = (cut : Int) := by omega
          have hcr : (cut : Int) ≤ (rs : Int) := by omega
          have hcc : (cut : Int) ≤ (rc : Int) := by omega
          have hc64 : cut ≤ 64 := by omega
          have dr : decide ((0 : Int) < (rs : Int)) = true := decide_eq_true (by omega)
          clear hls hls2 hxs hnj hmj
          go_wp2_with fail
          have HLD := (show Hid (LP wr.drew q g vr vw l kg vp' s') from HLr.out.drew)
          have HTD := (show Hid (Turn (lfoot q g vr vw kg vp) (lfoot q g vr vw kg vp') w wr.drew) from HTr.out.drew)
          have HS : Hid ((fun U : World => U.cell? ⟨q, 0, none⟩ = some (ptr g) ∧ U.rangeAt gb off (bc X)) wr.drew) := ⟨HLD.out.pk.c0, HX.out⟩
          refine wp_region_held_drew (S := fun U => U.cell? ⟨q, 0, none⟩ = some (ptr g) ∧ U.rangeAt gb off (bc X)) (by kernel_rfl) HS.out (fun _ => ?_)
          refine heldTake 0 (some 56) (ptr q) rfl rfl (by kernel_rfl) (by kernel_rfl) (by kernel_rfl) (fun _ _ _ h => h) (Or.inl ⟨by rfl, fun w hS => ?_⟩) HS.out ?_
          · (go_simp)
          simp only [Act.put, List.setIfInBounds_toArray, List.set_cons_zero, List.set_cons_succ]
          refine heldTake 1 (some 57) (ptr q) rfl rfl (by kernel_rfl) (by kernel_rfl) (by kernel_rfl) (fun _ _ _ h => h) (Or.inl ⟨by rfl, fun w hS => ?_⟩) HS.out ?_
          · (go_simp)
          simp only [Act.put, List.setIfInBounds_toArray, List.set_cons_zero, List.set_cons_succ]
          refine heldTake 2 (some 58) (ptr q) rfl rfl (by kernel_rfl) (by kernel_rfl) (by kernel_rfl) (fun _ _ _ h => h) (Or.inl ⟨by rfl, fun w hS => ?_⟩) HS.out ?_
          · (go_simp)
          simp only [Act.put, List.setIfInBounds_toArray, List.set_cons_zero, List.set_cons_succ]
          refine heldTake 3 (some 59) (ptr g) rfl rfl (by kernel_rfl) (by kernel_rfl) (by kernel_rfl) (fun _ _ _ h => h) (Or.inl ⟨by rfl, fun w hS => ?_⟩) HS.out ?_
          · (obtain ⟨p0, p1⟩ := hS; go_simp)
          simp only [Act.put, List.setIfInBounds_toArray, List.set_cons_zero, List.set_cons_succ]
          refine heldTake 4 (some 60) (.int .i64 (A : Int)) rfl rfl (by kernel_rfl) (by kernel_rfl) (by kernel_rfl) (fun _ _ _ h => h) (Or.inl ⟨by rfl, fun w hS => ?_⟩) HS.out ?_
          · (go_simp)
          simp only [Act.put, List.setIfInBounds_toArray, List.set_cons_zero, List.set_cons_succ]
          refine heldTake 5 (some 61) (.slice (some ⟨gb, off, none⟩) rs rc) rfl rfl (by kernel_rfl) (by kernel_rfl) (by kernel_rfl) (fun _ _ _ h => h) (Or.inl ⟨by rfl, fun w hS => ?_⟩) HS.out ?_
          · (go_simp)
          simp only [Act.put, List.setIfInBounds_toArray, List.set_cons_zero, List.set_cons_succ]
          refine heldTake 6 (some 62) (.int .i64 (cut : Int)) rfl rfl (by kernel_rfl) (by kernel_rfl) (by kernel_rfl) (fun _ _ _ h => h) (Or.inl ⟨by rfl, fun w hS => ?_⟩) HS.out ?_
          · (go_simp)
          simp only [Act.put, List.setIfInBounds_toArray, List.set_cons_zero, List.set_cons_succ]
          refine heldTake 7 (some 63) (.int .i64 (cut : Int)) rfl rfl (by kernel_rfl) (by kernel_rfl) (by kernel_rfl) (fun _ _ _ h => h) (Or.inl ⟨by rfl, fun w hS => ?_⟩) HS.out ?_
          · (go_simp)
          simp only [Act.put, List.setIfInBounds_toArray, List.set_cons_zero, List.set_cons_succ]
          refine heldTake 8 (some 64) (.slice (some ⟨gb, off, none⟩) cut cut) rfl rfl (by kernel_rfl) (by kernel_rfl) (by kernel_rfl) (fun _ _ _ h => h) (Or.inl ⟨by rfl, fun w hS => ?_⟩) HS.out ?_
          · (go_simp)
          simp only [Act.put, List.setIfInBounds_toArray, List.set_cons_zero, List.set_cons_succ]
          refine heldTake 9 (some 65) (.string X) rfl rfl (by kernel_rfl) (by kernel_rfl) (by kernel_rfl) (fun _ _ _ h => h) (Or.inl ⟨by rfl, fun w hS => ?_⟩) HS.out ?_
          · (obtain ⟨p0, p1⟩ := hS; have hcv := str_at p1 cut; rw [hcut] at hcv; go_simp)
          simp only [Act.put, List.setIfInBounds_toArray, List.set_cons_zero, List.set_cons_succ]
          refine heldOne 10 (by kernel_rfl) rfl (by rfl) (fun KK hK => ?_)
          go_simp
          go_at_call 106
          refine (write_any g kg vp' s' (A : Int) X wr.drew HLD.out.dk (by omega) (by omega)).mono ?_
          generalize Sc.writeS s' (A : Int) X = s2 at *
          generalize Sc.writeE s' (A : Int) X = e2 at *
          rintro r w2 ⟨vp2, rfl, hR2, hT2⟩
          obtain ⟨hL2, hTL2⟩ := HLD.out.d hR2 hT2 hst1
          have HL2 : Hid (LP w2 q g vr vw l kg vp2 s2) := hL2
          have HT2 : Hid (Turn (lfoot q g vr vw kg vp) (lfoot q g vr vw kg vp2) w w2) := HTD.out.trans hTL2
          have HG2 : Hid (gb ∉ foot g kg vp2) := hT2.apart (rs := [gb]) (fun k hk => by rw [List.mem_singleton.1 hk]; exact HGF.out) (fun k hk => by rw [List.mem_singleton.1 hk]; exact hgl) gb (List.mem_singleton.2 rfl)
          have HX2 : Hid (w2.rangeAt gb off (bc X)) := range_chg (w := wr.drew) HX.out hT2.chg HGF.out
          have HX2' : Hid (w2.rangeAt gb (off + cut) (bc (Wl.left al (kk + 1)))) := range_chg (w := wr.drew) HX'.out hT2.chg HGF.out
          have hgl2 : gb < w2.heap.size := Nat.lt_of_lt_of_le hgl hT2.chg.size
          have HS2 : Hid ((fun U : World => U.cell? ⟨q, 0, none⟩ = some (ptr g) ∧ U.rangeAt gb off (bc X)) w2) := ⟨hL2.pk.c0, HX2.out⟩
          clear hR2 hT2 hL2 hTL2
          refine hK.out _ _ HS2.out ?_
          clear hK KK
          refine heldTake 11 (some 9) (.int .i64 e2) rfl rfl (by kernel_rfl) (by kernel_rfl) (by kernel_rfl) (fun _ _ _ h => h) (Or.inl ⟨by rfl, fun w hS => ?_⟩) HS2.out ?_
          · (go_simp)
          simp only [Act.put, List.setIfInBounds_toArray, List.set_cons_zero, List.set_cons_succ]
          refine wpAnyH_done (by kernel_rfl) ?_ _
          clear HS HS2 HX HX' HLr HTr HLD HTD HX2
          by_cases h5 : e2 = 0
          · subst h5
            have HFN : Hid (∀ v, Rb gb w2 v (Wl.left al (kk + 1)) → ∃ (j' : Nat) (s' : Sc.St) (vp' : Value), j' ≤ m ∧ Value.int .i64 ((A : Int) + 1) = .int .i64 ((a0 + j' : Nat) : Int) ∧ Rb gb w2 v (Wl.left al (k0 + j')) ∧ Wl.puts l.base al (m - j') (k0 + j') s' = Wr ∧ LP w2 q g vr vw l kg vp' s' ∧ Turn (lfoot q g vr vw kg vp) (lfoot q g vr vw kg vp') w w2 ∧ gb ∉ foot g kg vp' ∧ gb < w2.heap.size ∧ s'.dn ≤ s.dn + j' ∧ s'.pend.length ≤ s.pend.length + j') := fun v hv => ⟨j + 1, s2, vp2, by omega, by rw [show a0 + (j + 1) = A + 1 by omega]; go_num, by rw [show k0 + (j + 1) = kk + 1 by omega]; exact hv, by rw [show k0 + (j + 1) = kk + 1 by omega]; exact HYES.out rfl, HL2.out, HT2.out, HG2.out, hgl2, by omega, by omega⟩
            have HRBN : Hid (Rb gb w2 (.slice (if rc = cut then some ⟨gb, off, none⟩ else some ⟨gb, off + cut, none⟩) (rs - cut) (rc - cut)) (Wl.left al (kk + 1))) := by
              refine ⟨_, _, by rw [HR'.out, hrx], by rw [HR'.out]; omega, by omega, fun h0 => ⟨off + cut, ?_, HX2'.out⟩⟩
              rw [HR'.out] at h0
              rw [if_neg (by omega)]
            clear hrx
            go_wp2
            go_roundw
            case rel => exact HFN.out _ HRBN.out
            case measure => (simp [intOf]) <;> omega
          · have hb5 : (e2 != 0) = true := by simp [h5]
            have HFN : Hid (LDoes w q g vr vw kg vp l T.1 T.2 (.returned (.int .i64 e2)) w2) := by
              have hw := HNO.out h5
              rw [HWW.out, hw]
              simp only [h5, if_false]
              exact ⟨vr, vw, vp2, rfl, HL2.out, HT2.out⟩
            clear h5
            go_wp2
            go_ret
            exact HFN.out
        · have hpz : m - j = 0 := by have := hmj hin; omega
          clear hav
          have HWs : Hid (Wr = (s', 0)) := by rw [← HPU.out, hpz]; rfl
          have HFL := flush_any g kg vp' s' wr HLr.out.dk (by omega)
          have hfs := (Sc.flushS_step s').len
          have c0 := HLr.out.pk.c0
          have HTT : Hid (T = (Sc.flushS s', Sc.flushE s')) := by rw [HWW.out, HWs.out]; rfl
          have hd0 : decide ((0 : Int) < ((Wl.left al kk).size : Int)) = false := decide_eq_false (by omega)
          have hd1 : ¬ 0 < (Wl.left al kk).size := by omega
          clear hls hrg hrc1
          generalize (Wl.left al kk).size = rs at *
          generalize Sc.flushS s' = s3 at *
          generalize Sc.flushE s' = e3 at *
          go_wp2_with fail
          refine HFL.mono ?_
          rintro r w3 ⟨vp3, rfl, hR3, hT3⟩
          obtain ⟨hL3, hTL3⟩ := HLr.out.d hR3 hT3 hfs
          have HFN : Hid (LDoes w q g vr vw kg vp l T.1 T.2 (.returned (.int .i64 e3)) w3) := by
            rw [HTT.out]
            exact ⟨vr, vw, vp3, rfl, hL3, HTr.out.trans hTL3⟩
          clear hR3 hT3 hL3 hTL3 HFL c0
          go_wp2
          go_ret
          exact HFN.out
end Go.Proofs.YtcfninpokngmlaaGreatDoor
/- Proved: what Sync makes of a log and its disk. -/
namespace Go.Proofs.YtcfninpokngmlaaGreatDoor
open Go.RowKit
/- the records take in what waits; the length is the new one; none waits -/
theorem Pk.synced {w w' : World} {q g : Nat} {vr vw v' : Value} {l : Wl.Lg} (H : Pk w q g vr vw l) (hG : w.grownBy w' vr.ownBlock) (hO : OwnS w' 0 v' (l.recs ++ l.wait)) (hv : v'.ownBlock = vr.ownBlock ∨ v'.ownBlock = some w.heap.size) :
    Pk ((((w'.setCell ⟨q, 5, none⟩ v').setCell ⟨q, 4, none⟩ (.int .i64 ((l.bytes.size : Int) + (Wl.total l.wait : Int)))).setCell ⟨q, 6, none⟩ (.slice none 0 0)).setCell ⟨q, 7, none⟩ (.int .i64 0)) q g v' (.slice none 0 0) { l with bytes := Wl.all l, recs := l.recs ++ l.wait, wait := [] } ∧
    Turn (pfoot q vr vw) (pfoot q v' (.slice none 0 0)) w ((((w'.setCell ⟨q, 5, none⟩ v').setCell ⟨q, 4, none⟩ (.int .i64 ((l.bytes.size : Int) + (Wl.total l.wait : Int)))).setCell ⟨q, 6, none⟩ (.slice none 0 0)).setCell ⟨q, 7, none⟩ (.int .i64 0)) := by
  have lt := H.lt
  have hq : w'.heap[q]? = w.heap[q]? := hG.block q (lt q (by simp [pfoot])) (fun e => H.hr e.symm)
  have ne1 : v'.ownBlock ≠ some q := fun e => by
    rcases hv with h | h
    · exact H.hr (h ▸ e)
    · rw [h] at e
      have := lt q (by simp [pfoot])
      have := Option.some.inj e
      omega
  have hC2 : Chg [q] w' ((((w'.setCell ⟨q, 5, none⟩ v').setCell ⟨q, 4, none⟩ (.int .i64 ((l.bytes.size : Int) + (Wl.total l.wait : Int)))).setCell ⟨q, 6, none⟩ (.slice none 0 0)).setCell ⟨q, 7, none⟩ (.int .i64 0)) := (((Chg.setCell _ q 5 _).trans (Chg.setCell _ q 4 _)).trans (Chg.setCell _ q 6 _)).trans (Chg.setCell _ q 7 _)
  have hsz : ((Wl.all l).size : Int) = (l.bytes.size : Int) + (Wl.total l.wait : Int) := by rw [Wl.all_size]; omega
  refine ⟨⟨?_, own_keep hO (fun k hk => hC2.block k (hO.lt k hk).2 (fun e => ne1 (by rw [hk, List.mem_singleton.1 e]))), own_nil _, ne1, (by intro e; cases e), (by intro k _ e; cases e), Wl.synced_ok H.ok⟩, ⟨?_, fun k hk => ?_⟩⟩
  · rw [heap_setCell_same _ q 7 _ _ _ (heap_setCell_same _ q 6 _ _ _ (heap_setCell_same _ q 4 _ _ _ (heap_setCell_same w' q 5 _ _ _ (hq.trans H.row)))), ← hsz]
    rfl
  · exact ((Chg.grown hG).mono (fun k hk => by simp [pfoot]; simp at hk; exact .inr (.inl hk))).trans (hC2.mono (fun k hk => by rw [List.mem_singleton.1 hk]; simp [pfoot]))
  · simp only [pfoot, List.mem_cons, List.mem_append, Option.mem_toList] at hk ⊢
    rcases hk with h1 | h1 | h1
    · exact .inl (.inl h1)
    · rcases hv with e | e
      · rw [e] at h1; exact .inl (.inr (.inl h1))
      · rw [e] at h1
        exact .inr (by have := Option.some.inj h1; omega)
    · cases h1
set_option maxHeartbeats 400000 in
theorem lmade_raw (q g : Nat) (w : World) (c0 : w.cell? ⟨q, 0, none⟩ = some (ptr g)) :
    Calls Tryz.prog 100 #[ptr q] w fun e w' => e = .returned (.bool true) ∧ w' = w := by
  go_enter Tryz.func100, Tryz.ntmps100
  go_wp2
  go_ret
  exact ⟨rfl, rfl⟩
set_option maxHeartbeats 400000 in
theorem ldrop_raw (q g : Nat) (x6 x7 : Value) (w : World) (c0 : w.cell? ⟨q, 0, none⟩ = some (ptr g)) (c6 : w.cell? ⟨q, 6, none⟩ = some x6) (c7 : w.cell? ⟨q, 7, none⟩ = some x7) (f6 : w.frozen? ⟨q, 6, none⟩ = false) (f7 : w.frozen? ⟨q, 7, none⟩ = false) :
    Calls Tryz.prog 121 #[ptr q] w fun e w' => e = .returned (.tuple #[]) ∧ w' = (w.setCell ⟨q, 6, none⟩ (.slice none 0 0)).setCell ⟨q, 7, none⟩ (.int .i64 0) := by
  have HM := lmade_raw q g w c0
  go_enter Tryz.func121, Tryz.ntmps121
  go_wp2_with (go_at_call 100; refine HM.mono ?_; rintro e w' ⟨rfl, rfl⟩)
  go_end0
  exact ⟨rfl, rfl⟩
theorem keep_len (l : Wl.Lg) (s : Sc.St) : (Wl.wwT l s).1.kept.length = s.kept.length := by
  have key : ∀ (m k : Nat) (al : List UInt8) (base : Nat) (s : Sc.St), (Wl.puts base al m k s).1.kept.length = s.kept.length := by
    intro m
    induction m with
    | zero => intro k al base s; rfl
    | succ m ih =>
      intro k al base s
      by_cases h : Sc.writeE s ((base : Int) + 1 + (k : Int)) (Wl.ob (Wl.sec al k)) = 0
      · rw [Wl.puts_yes h, ih, (Sc.writeS_step s _ _).len]
      · rw [Wl.puts_no h, (Sc.writeS_step s _ _).len]
  unfold Wl.wwT
  split
  · show (Sc.flushS (Wl.writes l s).1).kept.length = _
    rw [(Sc.flushS_step _).len]
    exact key _ _ _ _ _
  · exact key _ _ _ _ _
theorem ww_small (l : Wl.Lg) (s : Sc.St) (h : l.Ok) : (Wl.wwT l s).1.dn ≤ s.dn + l.n + 1 ∧ (Wl.wwT l s).1.pend.length ≤ s.pend.length + l.n + 1 := by
  have key : ∀ (m k : Nat) (al : List UInt8) (base : Nat) (s : Sc.St), (Wl.puts base al m k s).1.dn ≤ s.dn + m ∧ (Wl.puts base al m k s).1.pend.length ≤ s.pend.length + m := by
    intro m
    induction m with
    | zero => intro k al base s; exact ⟨Nat.le_refl _, Nat.le_refl _⟩
    | succ m ih =>
      intro k al base s
      have hst := Sc.writeS_step s ((base : Int) + 1 + (k : Int)) (Wl.ob (Wl.sec al k))
      have h1 := hst.dn
      have h2 := hst.pend
      by_cases h : Sc.writeE s ((base : Int) + 1 + (k : Int)) (Wl.ob (Wl.sec al k)) = 0
      · rw [Wl.puts_yes h]
        have := ih (k + 1) al base (Sc.writeS s ((base : Int) + 1 + (k : Int)) (Wl.ob (Wl.sec al k)))
        omega
      · rw [Wl.puts_no h]
        simp only
        omega
  have h2 := h.two
  have hr := h.room
  have hz := Wl.all_size l
  have hm : Wl.many l.bytes.size (Wl.all l).size ≤ l.n := by unfold Wl.many; omega
  have hk := key (Wl.many l.bytes.size (Wl.all l).size) (l.bytes.size / 64) (Wl.all l).data.toList l.base s
  have hk' : (Wl.writes l s).1.dn ≤ s.dn + Wl.many l.bytes.size (Wl.all l).size ∧ (Wl.writes l s).1.pend.length ≤ s.pend.length + Wl.many l.bytes.size (Wl.all l).size := hk
  unfold Wl.wwT
  split
  · have hst := Sc.flushS_step (Wl.writes l s).1
    have h1 := hst.dn
    have h3 := hst.pend
    show (Sc.flushS (Wl.writes l s).1).dn ≤ _ ∧ (Sc.flushS (Wl.writes l s).1).pend.length ≤ _
    omega
  · omega
set_option maxHeartbeats 8000000 in
set_option maxRecDepth 20000 in
theorem lsync_any (q g : Nat) (vr vw : Value) (l : Wl.Lg) (kg : Nat) (vp : Value) (s : Sc.St) (w : World) (L : LP w q g vr vw l kg vp s) (hS : Safe w (lfoot q g vr vw kg vp)) (htl : l.lost = false → 0 < l.wait.length → s.down = false ∧ ∀ j, j < l.bytes.size % 64 → (Sc.now s (l.base + 1 + l.bytes.size / 64)).data.toList[j]? = l.bytes.data.toList[64 * (l.bytes.size / 64) + j]?) (hn : s.dn + l.n ≤ 90000) (hp : s.pend.length + l.n ≤ 19000) :
    Calls Tryz.prog 95 #[ptr q] w (LDoes w q g vr vw kg vp (Wl.sycL l s) (Wl.sycS l s) (Wl.sycE l s)) := by
  have c6 := L.pk.c6
  have HRD := lready_any q g vr vw l w L.pk
  unfold lreadyE at HRD
  have HL : Hid (LP w q g vr vw l kg vp s) := L
  have HSF : Hid (Safe w (lfoot q g vr vw kg vp)) := hS
  have HKEEP : Hid (∀ n, LDoes w q g vr vw kg vp l s n (.returned (.int .i64 n)) w) := fun n => ⟨vr, vw, vp, rfl, HL.out, Turn.refl _ _⟩
  obtain ⟨wa, wcap, hwv⟩ := L.pk.wval
  rw [hwv] at c6
  have h2n := L.pk.ok.two
  have hmost := L.pk.ok.most
  have hroom := L.pk.ok.room
  have hep := L.pk.ok.epoch
  have hwl := L.pk.wlen
  have hrl := L.pk.rlen
  clear L hS
  by_cases h1 : l.lost = true
  · have e1 : Wl.sycE l s = 10 := by unfold Wl.sycE; rw [if_pos h1]
    have e2 : Wl.sycL l s = l := by unfold Wl.sycL; rw [if_pos h1]
    have e3 : Wl.sycS l s = s := by unfold Wl.sycS; rw [if_pos h1]
    rw [e1, e2, e3]
    rw [if_pos h1] at HRD
    clear e1 e2 e3 hwv htl
    go_enter Tryz.func95, Tryz.ntmps95
    go_wp2_with (go_at_call 109; refine HRD.mono ?_; rintro e w' ⟨rfl, rfl⟩)
    go_ret
    exact HKEEP.out 10
  · rw [if_neg h1] at HRD
    by_cases h2 : l.wait.length = 0
    · have e1 : Wl.sycE l s = 0 := by unfold Wl.sycE; rw [if_neg h1, if_pos h2]
      have e2 : Wl.sycL l s = l := by unfold Wl.sycL; rw [if_neg h1, if_pos h2]
      have e3 : Wl.sycS l s = s := by unfold Wl.sycS; rw [if_neg h1, if_pos h2]
      rw [e1, e2, e3]
      have d1 : ((l.wait.length : Int) == 0) = true := by simp [h2]
      clear e1 e2 e3 hwv htl h2
      go_enter Tryz.func95, Tryz.ntmps95
      go_wp2_with (go_at_call 109; refine HRD.mono ?_; rintro e w' ⟨rfl, rfl⟩)
      go_ret
      exact HKEEP.out 0
    · have d1 : ((l.wait.length : Int) == 0) = false := by simp [h2]
      have e1 : Wl.sycE l s = (Wl.syncT l s).2 := by unfold Wl.sycE; rw [if_neg h1, if_neg h2]
      have e3 : Wl.sycS l s = (Wl.syncT l s).1 := by unfold Wl.sycS; rw [if_neg h1, if_neg h2]
      have e2 : Wl.sycL l s = if (Wl.syncT l s).2 = 0 then { l with bytes := Wl.all l, recs := l.recs ++ l.wait, wait := [] } else Wl.lose l (Wl.syncT l s).2 := by unfold Wl.sycL; rw [if_neg h1, if_neg h2]
      rw [e1, e3]
      have HE2 : Hid (Wl.sycL l s = if (Wl.syncT l s).2 = 0 then { l with bytes := Wl.all l, recs := l.recs ++ l.wait, wait := [] } else Wl.lose l (Wl.syncT l s).2) := e2
      have HST := (show Hid _ from Wl.syncT_ww l s)
      obtain ⟨hd, htl'⟩ := htl (by simpa using h1) (by omega)
      have HWW := lww_any q g vr vw l kg vp s w HL.out HSF.out.tab hd htl' (by omega) hn hp
      have hkl := keep_len l s
      obtain ⟨hsm1, hsm2⟩ := ww_small l s HL.out.pk.ok
      have hal := Wl.all_size l
      clear e1 e2 e3 hwv HKEEP htl htl' hd
      generalize Wl.sycL l s = l3 at *
      generalize Wl.syncT l s = T at *
      generalize Wl.wwT l s = U at *
      obtain ⟨s1, e1⟩ := U
      simp only at *
      go_enter Tryz.func95, Tryz.ntmps95
      go_wp2_with fail
      refine HRD.mono ?_
      rintro e w' ⟨rfl, hw⟩
      rw [hw]
      clear hw w' HRD
      go_wp2_with fail
      refine HWW.mono ?_
      rintro e w1 ⟨vr1, vw1, vp1, rfl, hL1, hT1⟩
      have HL1 : Hid (LP w1 q g vr1 vw1 l kg vp1 s1) := hL1
      have HT1 : Hid (Turn (lfoot q g vr vw kg vp) (lfoot q g vr1 vw1 kg vp1) w w1) := hT1
      have HS1 : Hid (Safe w1 (lfoot q g vr1 vw1 kg vp1)) := HSF.out.turn hT1
      clear hL1 hT1 HWW c6
      by_cases h5 : e1 = 0
      · subst h5
        simp only [if_true] at HST
        have c3 := HL1.out.pk.c3
        have c4 := HL1.out.pk.c4
        have c7 := HL1.out.pk.c7
        have htw : Wl.total l.wait ≤ 4194304 := by omega
        have hbz : l.bytes.size ≤ 4194304 := by omega
        go_wp2_with fail
        go_quiet (fail)
        have HBq : Hid (Below w1.heap.size w1 (w1.drewN nq)) := below_drewN w1 nq
        have HLq : Hid (LP (w1.drewN nq) q g vr1 vw1 l kg vp1 s1) := HL1.out.below HBq.out
        have HTq : Hid (Turn (lfoot q g vr vw kg vp) (lfoot q g vr1 vw1 kg vp1) w (w1.drewN nq)) := HT1.out.trans (Turn.of_below HBq.out)
        have HSq : Hid (Safe (w1.drewN nq) (lfoot q g vr1 vw1 kg vp1)) := HS1.out.below HBq.out
        generalize w1.drewN nq = W at *
        clear c3 c4 c7 HBq HL1 HT1 HS1
        have c3 := HLq.out.pk.c3
        have hlen : (l.bytes.size : Int) + (Wl.total l.wait : Int) = (((Wl.all l).size : Nat) : Int) := by omega
        have HMK := lmark_any q g vr1 vw1 l kg vp1 s1 l.epoch (Wl.all l).size W HLq.out HSq.out.tab (by omega) (by omega) (by omega) (by omega)
        rw [← hlen] at HMK
        clear hlen
        generalize Wl.hdE s1 l.base l.epoch (Wl.all l).size = e5 at *
        generalize Wl.hdS s1 l.base l.epoch (Wl.all l).size = s5 at *
        go_wp2_with fail
        refine HMK.mono ?_
        rintro e w2 ⟨vr2, vw2, vp2, rfl, hL2, hT2⟩
        have HL2 : Hid (LP w2 q g vr2 vw2 l kg vp2 s5) := hL2
        have HT2 : Hid (Turn (lfoot q g vr vw kg vp) (lfoot q g vr2 vw2 kg vp2) w w2) := HTq.out.trans hT2
        clear hL2 hT2 HMK c3 HLq HTq HSq
        by_cases h6 : e5 = 0
        · subst h6
          have HTT : Hid (T = (s5, 0)) := HST.out
          have HE3 : Hid (l3 = { l with bytes := Wl.all l, recs := l.recs ++ l.wait, wait := [] }) := by show l3 = _; rw [HE2.out, HST.out]; simp only; rw [if_pos trivial]
          clear HE2 HST
          have HPD : Hid (Pk w2.drew q g vr2 vw2 l) := HL2.out.pk.drew
          go_wp2_with fail
          have HS : Hid ((fun U : World => U.cell? ⟨q, 5, none⟩ = some vr2 ∧ U.cell? ⟨q, 6, none⟩ = some vw2) w2.drew) := ⟨HPD.out.c5, HPD.out.c6⟩
          refine AnyBut.begin (z := 12) (S := fun U => U.cell? ⟨q, 5, none⟩ = some vr2 ∧ U.cell? ⟨q, 6, none⟩ = some vw2) (by kernel_rfl) ?_
          refine AnyBut.take 0 (some 46) (v := (ptr q)) rfl rfl (by kernel_rfl) (by decide) (by kernel_rfl) (by kernel_rfl) (by kernel_rfl) (by kernel_rfl) (fun _ _ _ h => h) (Or.inl ⟨by rfl, fun w hS => ?_⟩) HS.out ?_
          · (go_simp)
          simp only [Act.put, List.setIfInBounds_toArray, List.set_cons_zero, List.set_cons_succ]
          refine AnyBut.take 1 (some 47) (v := (ptr q)) rfl rfl (by kernel_rfl) (by decide) (by kernel_rfl) (by kernel_rfl) (by kernel_rfl) (by kernel_rfl) (fun _ _ _ h => h) (Or.inl ⟨by rfl, fun w hS => ?_⟩) HS.out ?_
          · (go_simp)
          simp only [Act.put, List.setIfInBounds_toArray, List.set_cons_zero, List.set_cons_succ]
          refine AnyBut.take 2 (some 48) (v := (ptr q)) rfl rfl (by kernel_rfl) (by decide) (by kernel_rfl) (by kernel_rfl) (by kernel_rfl) (by kernel_rfl) (fun _ _ _ h => h) (Or.inl ⟨by rfl, fun w hS => ?_⟩) HS.out ?_
          · (go_simp)
          simp only [Act.put, List.setIfInBounds_toArray, List.set_cons_zero, List.set_cons_succ]
          refine AnyBut.take 3 (some 49) (v := (.pointer (some ⟨q, 5, none⟩))) rfl rfl (by kernel_rfl) (by decide) (by kernel_rfl) (by kernel_rfl) (by kernel_rfl) (by kernel_rfl) (fun _ _ _ h => h) (Or.inl ⟨by rfl, fun w hS => ?_⟩) HS.out ?_
          · (go_simp)
          simp only [Act.put, List.setIfInBounds_toArray, List.set_cons_zero, List.set_cons_succ]
          refine AnyBut.take 4 (some 50) (v := (vr2)) rfl rfl (by kernel_rfl) (by decide) (by kernel_rfl) (by kernel_rfl) (by kernel_rfl) (by kernel_rfl) (fun _ _ _ h => h) (Or.inl ⟨by rfl, fun w hS => ?_⟩) HS.out ?_
          · (obtain ⟨q1, q2⟩ := hS; go_simp)
          simp only [Act.put, List.setIfInBounds_toArray, List.set_cons_zero, List.set_cons_succ]
          refine AnyBut.take 5 (some 51) (v := (ptr q)) rfl rfl (by kernel_rfl) (by decide) (by kernel_rfl) (by kernel_rfl) (by kernel_rfl) (by kernel_rfl) (fun _ _ _ h => h) (Or.inl ⟨by rfl, fun w hS => ?_⟩) HS.out ?_
          · (go_simp)
          simp only [Act.put, List.setIfInBounds_toArray, List.set_cons_zero, List.set_cons_succ]
          refine AnyBut.take 6 (some 52) (v := (ptr q)) rfl rfl (by kernel_rfl) (by decide) (by kernel_rfl) (by kernel_rfl) (by kernel_rfl) (by kernel_rfl) (fun _ _ _ h => h) (Or.inl ⟨by rfl, fun w hS => ?_⟩) HS.out ?_
          · (go_simp)
          simp only [Act.put, List.setIfInBounds_toArray, List.set_cons_zero, List.set_cons_succ]
          refine AnyBut.take 7 (some 53) (v := (.pointer (some ⟨q, 6, none⟩))) rfl rfl (by kernel_rfl) (by decide) (by kernel_rfl) (by kernel_rfl) (by kernel_rfl) (by kernel_rfl) (fun _ _ _ h => h) (Or.inl ⟨by rfl, fun w hS => ?_⟩) HS.out ?_
          · (go_simp)
          simp only [Act.put, List.setIfInBounds_toArray, List.set_cons_zero, List.set_cons_succ]
          refine AnyBut.take 8 (some 54) (v := (vw2)) rfl rfl (by kernel_rfl) (by decide) (by kernel_rfl) (by kernel_rfl) (by kernel_rfl) (by kernel_rfl) (fun _ _ _ h => h) (Or.inl ⟨by rfl, fun w hS => ?_⟩) HS.out ?_
          · (obtain ⟨q1, q2⟩ := hS; go_simp)
          simp only [Act.put, List.setIfInBounds_toArray, List.set_cons_zero, List.set_cons_succ]
          refine AnyBut.one 9 (by kernel_rfl) rfl (by rfl) (fun KK hK => ?_)
          refine opw_many (.tmp 50) (.tmp 54) (some 55) rfl rfl 0 vr2 vw2 l.recs l.wait rfl HPD.out.recs rfl HPD.out.wait (by omega) (Nat.zero_le _) ?_
          intro v' w3 hO3 hG3 hv3
          have HN := (show Hid _ from HPD.out.synced hG3 hO3 hv3)
          have hq3 : w3.heap[q]? = w2.drew.heap[q]? := hG3.block q (HPD.out.lt q (by simp [pfoot])) (fun e => HPD.out.hr e.symm)
          have c0 : w3.cell? ⟨q, 0, none⟩ = some (ptr g) := (World.cell?_of_block hq3).trans HPD.out.c0
          have c4 : w3.cell? ⟨q, 4, none⟩ = some (.int .i64 (l.bytes.size : Int)) := (World.cell?_of_block hq3).trans HPD.out.c4
          have c5 : w3.cell? ⟨q, 5, none⟩ = some vr2 := (World.cell?_of_block hq3).trans HPD.out.c5
          have c6 : w3.cell? ⟨q, 6, none⟩ = some vw2 := (World.cell?_of_block hq3).trans HPD.out.c6
          have c7 : w3.cell? ⟨q, 7, none⟩ = some (.int .i64 (Wl.total l.wait : Int)) := (World.cell?_of_block hq3).trans HPD.out.c7
          have f4 : w3.frozen? ⟨q, 4, none⟩ = false := (World.frozen?_of_block hq3).trans (HPD.out.fz 4)
          have f5 : w3.frozen? ⟨q, 5, none⟩ = false := (World.frozen?_of_block hq3).trans (HPD.out.fz 5)
          have f6 : w3.frozen? ⟨q, 6, none⟩ = false := (World.frozen?_of_block hq3).trans (HPD.out.fz 6)
          have f7 : w3.frozen? ⟨q, 7, none⟩ = false := (World.frozen?_of_block hq3).trans (HPD.out.fz 7)
          obtain ⟨va, vc, hv'⟩ := own_slice hO3
          rw [List.length_append] at hv'
          have HV' : Hid (v' = .slice va (l.recs.length + l.wait.length) vc) := hv'
          have hrow : w3.heap[q]? = some (.cells (pcells l g vr2 vw2) 116 (0, 0)) := hq3.trans HPD.out.row
          have HROW : Hid (((w3.setCell ⟨q, 5, none⟩ v').setCell ⟨q, 4, none⟩ (.int .i64 ((l.bytes.size : Int) + (Wl.total l.wait : Int)))).heap[q]? = some (.cells (((pcells l g vr2 vw2).setIfInBounds 5 v').setIfInBounds 4 (.int .i64 ((l.bytes.size : Int) + (Wl.total l.wait : Int)))) 116 (0, 0))) := heap_setCell_same _ q 4 _ _ _ (heap_setCell_same w3 q 5 _ _ _ hrow)
          have HDR := ldrop_raw q g vw2 (.int .i64 (Wl.total l.wait : Int)) ((w3.setCell ⟨q, 5, none⟩ v').setCell ⟨q, 4, none⟩ (.int .i64 ((l.bytes.size : Int) + (Wl.total l.wait : Int)))) (by rw [cell_of_row _ q 0 _ _ (0, 0) HROW.out]; rfl) (by rw [cell_of_row _ q 6 _ _ (0, 0) HROW.out]; rfl) (by rw [cell_of_row _ q 7 _ _ (0, 0) HROW.out]; rfl) (frozen_of_row _ q 6 _ _ HROW.out) (frozen_of_row _ q 7 _ _ HROW.out)
          obtain ⟨hy1, hy2⟩ := HL2.out.drew.p HN.out.1 HN.out.2 rfl rfl
          have HFN : Hid (LDoes w q g vr vw kg vp l3 T.1 T.2 (.returned (.int .i64 0)) ((((w3.setCell ⟨q, 5, none⟩ v').setCell ⟨q, 4, none⟩ (.int .i64 ((l.bytes.size : Int) + (Wl.total l.wait : Int)))).setCell ⟨q, 6, none⟩ (.slice none 0 0)).setCell ⟨q, 7, none⟩ (.int .i64 0))) := by
            rw [HE3.out, HTT.out]
            exact ⟨_, _, _, rfl, hy1, HT2.out.drew.trans hy2⟩
          have HS3 : Hid ((fun U : World => U.cell? ⟨q, 5, none⟩ = some vr2 ∧ U.cell? ⟨q, 6, none⟩ = some vw2) w3) := ⟨c5, c6⟩
          clear hO3 hG3 hv3 hv' hy1 hy2 hq3 hrow HROW
          refine hK.out _ _ (fun _ => HS3.out) ?_
          clear hK KK
          simp only [Act.put, List.setIfInBounds_toArray, List.set_cons_zero, List.set_cons_succ]
          refine AnyBut.take 10 (some 56) (v := (ptr q)) rfl rfl (by kernel_rfl) (by decide) (by kernel_rfl) (by kernel_rfl) (by kernel_rfl) (by kernel_rfl) (fun _ _ _ h => h) (Or.inl ⟨by rfl, fun w hS => ?_⟩) HS3.out ?_
          · (go_simp)
          simp only [Act.put, List.setIfInBounds_toArray, List.set_cons_zero, List.set_cons_succ]
          refine AnyBut.take 11 (some 57) (v := (.pointer (some ⟨q, 5, none⟩))) rfl rfl (by kernel_rfl) (by decide) (by kernel_rfl) (by kernel_rfl) (by kernel_rfl) (by kernel_rfl) (fun _ _ _ h => h) (Or.inl ⟨by rfl, fun w hS => ?_⟩) HS3.out ?_
          · (go_simp)
          simp only [Act.put, List.setIfInBounds_toArray, List.set_cons_zero, List.set_cons_succ]
          refine AnyBut.one 12 (by kernel_rfl) rfl (by rfl) (fun KK hK => ?_)
          rw [HV'.out]
          go_simp
          refine hK.out _ _ (fun h => absurd rfl h) ?_
          clear hK KK
          refine AnyBut.done (by kernel_rfl) ?_
          rw [HV'.out] at HFN HDR
          generalize l.recs.length + l.wait.length = rr at *
          generalize Wl.total l.wait = tw at *
          clear HN
          go_wp2_with fail
          refine HDR.mono ?_
          rintro e w' ⟨rfl, hw⟩
          rw [hw]
          clear hw w' HDR
          go_wp2
          go_ret
          exact HFN.out
        · have hb6 : (e5 != 0) = true := by simp [h6]
          have HE3 : Hid (l3 = Wl.lose l e5) := by show l3 = _; rw [HE2.out, HST.out]; simp only; rw [if_neg h6]
          have HLO := lose_any q g vr2 vw2 l e5 w2 HL2.out.pk h6
          have HTT : Hid (T = (s5, e5)) := HST.out
          clear h6
          go_wp2_with fail
          refine HLO.mono ?_
          intro r w3 hP3
          obtain ⟨vr3, vw3, vp3, rfl, hL3, hT3⟩ := HL2.out.lose hP3
          have HFN : Hid (LDoes w q g vr vw kg vp l3 T.1 T.2 (.returned (.int .i64 e5)) w3) := by rw [HE3.out, HTT.out]; exact ⟨vr3, vw3, vp3, rfl, hL3, HT2.out.trans hT3⟩
          clear hP3 hL3 hT3 HLO
          go_wp2
          go_ret
          exact HFN.out
      · have hb5 : (e1 != 0) = true := by simp [h5]
        simp only [h5, if_false] at HST
        have HE3 : Hid (l3 = Wl.lose l e1) := by show l3 = _; rw [HE2.out, HST.out]; simp only; rw [if_neg h5]
        have HLO := lose_any q g vr1 vw1 l e1 w1 HL1.out.pk h5
        have HTT : Hid (T = (s1, e1)) := HST.out
        clear h5 HE2 HST
        go_wp2_with fail
        refine HLO.mono ?_
        intro r w3 hP3
        obtain ⟨vr3, vw3, vp3, rfl, hL3, hT3⟩ := HL1.out.lose hP3
        have HFN : Hid (LDoes w q g vr vw kg vp l3 T.1 T.2 (.returned (.int .i64 e1)) w3) := by rw [HE3.out, HTT.out]; exact ⟨vr3, vw3, vp3, rfl, hL3, HT1.out.trans hT3⟩
        clear hP3 hL3 hT3 HLO
        go_wp2
        go_ret
        exact HFN.out
end Go.Proofs.YtcfninpokngmlaaGreatDoor
/- Proved: what Open tells of a disk that has a log. -/
namespace Go.Proofs.YtcfninpokngmlaaGreatDoor
open Go.RowKit
abbrev nil0 : Value := .slice none 0 0
def bare (l : Wl.Lg) : Wl.Lg := { l with epoch := 0, bytes := Wl.ob [], recs := [], wait := [], lost := false }
theorem Rest.of_own {w : World} {N : Nat} {v : Value} {rs : List ByteArray} (h : OwnB w N v (Wl.frames rs)) : Rest w.heap.size w v rs := by
  obtain ⟨a, c, h1, h2, h3, h4⟩ := own_range h
  rw [Wl.frames_size] at h1 h2 h4
  refine ⟨a, c, h1, h2, h3, fun h0 => ?_⟩
  obtain ⟨g, hg1, _, hg3, hg4⟩ := h4 h0
  exact ⟨g, 0, hg1, hg3, hg4⟩
theorem headOf {ks : List ByteArray} {base e n : Nat} (h : Wl.HeadIs ks base e n) (w : World) (hT : Tab w) (he : e < 18446744073709551616) (hn : n < 4294967296) :
    Calls Tryz.prog 97 #[.string (ks.getD base Sc.zero64)] w fun r w' => r = .returned (.tuple #[.int .u64 (e : Int), .int .u64 (n : Int), .bool true]) ∧ Below w.heap.size w w' := by
  rcases h with h | ⟨h, rfl, rfl⟩
  · rw [h]
    exact readHead_any e n w hT he hn
  · rw [h]
    refine (readHead_zero w).mono ?_
    rintro r w' ⟨rfl, rfl⟩
    exact ⟨rfl, Below.refl _ _⟩
set_option maxHeartbeats 8000000 in
set_option maxRecDepth 20000 in
theorem load_any (q g kg : Nat) (vp : Value) (s : Sc.St) (l : Wl.Lg) (w : World) (hrow : w.heap[q]? = some (.cells (pcells (bare l) g nil0 nil0) 116 (0, 0))) (hD : Dk w g kg vp s) (hd : s.down = false) (hT : Tab w) (h0 : q ≠ 0) (hqf : q ∉ foot g kg vp) (hok : l.Ok) (hw : l.wait = []) (hll : l.lost = false) (hfits : l.base + l.n ≤ s.kept.length) (hon : Wl.On (Wl.flat s) l.base l.n l.epoch l.bytes) :
    Calls Tryz.prog 73 #[ptr q] w fun e w' => ∃ vr, e = .returned (.int .i64 0) ∧ Pk w' q g vr nil0 l ∧ Turn [q] (pfoot q vr nil0) w w' := by
  have h2 := hok.two
  have hmost := hok.most
  have hroom := hok.room
  have hep := hok.epoch
  have HD : Hid (Dk w g kg vp s) := hD
  have HTB : Hid (Tab w) := hT
  have hpos := hT.pos
  have HON : Hid (Wl.On (Wl.flat s) l.base l.n l.epoch l.bytes) := hon
  have HOK : Hid l.Ok := hok
  have HROW : Hid (w.heap[q]? = some (.cells (pcells (bare l) g nil0 nil0) 116 (0, 0))) := hrow
  have hq : q < w.heap.size := (Array.getElem?_eq_some_iff.1 hrow).1
  have HQF : Hid (q ∉ foot g kg vp) := hqf
  have HW : Hid (l.wait = []) := hw
  have HLL : Hid (l.lost = false) := hll
  have HIS : Hid (l.bytes = Wl.frames l.recs) := hok.is.1
  have HFT : Hid (Wl.Fit l.recs) := hok.is.2
  have hbz : l.bytes.size ≤ 4194304 := by omega
  have c0 : w.cell? ⟨q, 0, none⟩ = some (ptr g) := by rw [cell_of_row _ q 0 _ _ (0, 0) hrow]; rfl
  have c1 : w.cell? ⟨q, 1, none⟩ = some (.int .i64 (l.base : Int)) := by rw [cell_of_row _ q 1 _ _ (0, 0) hrow]; rfl
  obtain ⟨e1, e2⟩ := read_up (s := s) (i := l.base) hd (by omega)
  have HR := read_any g kg vp s (l.base : Int) w.drew hD.drew
  rw [e1, e2, Wl.now_flat (by omega)] at HR
  clear hD hT hon hok hrow hqf hw hll e1 e2
  have HS : Hid ((fun U : World => U.cell? ⟨q, 0, none⟩ = some (ptr g) ∧ U.cell? ⟨q, 1, none⟩ = some (.int .i64 (l.base : Int))) w.drew) := ⟨c0, c1⟩
  go_enter Tryz.func73, Tryz.ntmps73
  go_wp2_with fail
  refine wp_region_held_drew (S := fun U => U.cell? ⟨q, 0, none⟩ = some (ptr g) ∧ U.cell? ⟨q, 1, none⟩ = some (.int .i64 (l.base : Int))) (by kernel_rfl) HS.out (fun _ => ?_)
  refine heldTake 0 (some 12) (ptr q) rfl rfl (by kernel_rfl) (by kernel_rfl) (by kernel_rfl) (fun _ _ _ h => h) (Or.inl ⟨by rfl, fun w hS => ?_⟩) HS.out ?_
  · (go_simp)
  simp only [Act.put, List.setIfInBounds_toArray, List.set_cons_zero, List.set_cons_succ]
  refine heldTake 1 (some 13) (ptr q) rfl rfl (by kernel_rfl) (by kernel_rfl) (by kernel_rfl) (fun _ _ _ h => h) (Or.inl ⟨by rfl, fun w hS => ?_⟩) HS.out ?_
  · (go_simp)
  simp only [Act.put, List.setIfInBounds_toArray, List.set_cons_zero, List.set_cons_succ]
  refine heldTake 2 (some 14) (ptr q) rfl rfl (by kernel_rfl) (by kernel_rfl) (by kernel_rfl) (fun _ _ _ h => h) (Or.inl ⟨by rfl, fun w hS => ?_⟩) HS.out ?_
  · (go_simp)
  simp only [Act.put, List.setIfInBounds_toArray, List.set_cons_zero, List.set_cons_succ]
  refine heldTake 3 (some 15) (ptr g) rfl rfl (by kernel_rfl) (by kernel_rfl) (by kernel_rfl) (fun _ _ _ h => h) (Or.inl ⟨by rfl, fun w hS => ?_⟩) HS.out ?_
  · (obtain ⟨p0, p1⟩ := hS; go_simp)
  simp only [Act.put, List.setIfInBounds_toArray, List.set_cons_zero, List.set_cons_succ]
  refine heldTake 4 (some 16) (ptr q) rfl rfl (by kernel_rfl) (by kernel_rfl) (by kernel_rfl) (fun _ _ _ h => h) (Or.inl ⟨by rfl, fun w hS => ?_⟩) HS.out ?_
  · (go_simp)
  simp only [Act.put, List.setIfInBounds_toArray, List.set_cons_zero, List.set_cons_succ]
  refine heldTake 5 (some 17) (ptr q) rfl rfl (by kernel_rfl) (by kernel_rfl) (by kernel_rfl) (fun _ _ _ h => h) (Or.inl ⟨by rfl, fun w hS => ?_⟩) HS.out ?_
  · (go_simp)
  simp only [Act.put, List.setIfInBounds_toArray, List.set_cons_zero, List.set_cons_succ]
  refine heldTake 6 (some 18) (.pointer (some ⟨q, 1, none⟩)) rfl rfl (by kernel_rfl) (by kernel_rfl) (by kernel_rfl) (fun _ _ _ h => h) (Or.inl ⟨by rfl, fun w hS => ?_⟩) HS.out ?_
  · (go_simp)
  simp only [Act.put, List.setIfInBounds_toArray, List.set_cons_zero, List.set_cons_succ]
  refine heldTake 7 (some 19) (.int .i64 (l.base : Int)) rfl rfl (by kernel_rfl) (by kernel_rfl) (by kernel_rfl) (fun _ _ _ h => h) (Or.inl ⟨by rfl, fun w hS => ?_⟩) HS.out ?_
  · (obtain ⟨p0, p1⟩ := hS; go_simp)
  simp only [Act.put, List.setIfInBounds_toArray, List.set_cons_zero, List.set_cons_succ]
  refine heldOne 8 (by kernel_rfl) rfl (by rfl) (fun KK hK => ?_)
  go_simp
  go_at_call 96
  refine HR.mono ?_
  rintro r w1 ⟨rfl, hB1⟩
  have HB1 : Hid (Below w.heap.size w w1) := (Below.refl _ w).drew.trans hB1
  have hs1 := HB1.out.size
  have HS1 : Hid ((fun U : World => U.cell? ⟨q, 0, none⟩ = some (ptr g) ∧ U.cell? ⟨q, 1, none⟩ = some (.int .i64 (l.base : Int))) w1) := ⟨(HB1.out.cell (p := ⟨q, 0, none⟩) hq).trans c0, (HB1.out.cell (p := ⟨q, 1, none⟩) hq).trans c1⟩
  have HHD := headOf HON.out.head w1 (HTB.out.below HB1.out hpos) (by omega) (by omega)
  clear hB1 HR
  refine hK.out _ _ HS1.out ?_
  clear hK KK
  generalize (Wl.flat s).getD l.base Sc.zero64 = x at *
  refine heldTake 9 (some 11) (.tuple #[.string x, .int .i64 0]) rfl rfl (by kernel_rfl) (by kernel_rfl) (by kernel_rfl) (fun _ _ _ h => h) (Or.inl ⟨by rfl, fun w hS => ?_⟩) HS1.out ?_
  · (go_simp)
  simp only [Act.put, List.setIfInBounds_toArray, List.set_cons_zero, List.set_cons_succ]
  refine heldTake 10 (some 21) (.string x) rfl rfl (by kernel_rfl) (by kernel_rfl) (by kernel_rfl) (fun _ _ _ h => h) (Or.inl ⟨by rfl, fun w hS => ?_⟩) HS1.out ?_
  · (go_simp)
  simp only [Act.put, List.setIfInBounds_toArray, List.set_cons_zero, List.set_cons_succ]
  refine heldTake 11 (some 22) (.int .i64 0) rfl rfl (by kernel_rfl) (by kernel_rfl) (by kernel_rfl) (fun _ _ _ h => h) (Or.inl ⟨by rfl, fun w hS => ?_⟩) HS1.out ?_
  · (go_simp)
  simp only [Act.put, List.setIfInBounds_toArray, List.set_cons_zero, List.set_cons_succ]
  refine heldTake 12 (some 3) (.string x) rfl rfl (by kernel_rfl) (by kernel_rfl) (by kernel_rfl) (fun _ _ _ h => h) (Or.inl ⟨by rfl, fun w hS => ?_⟩) HS1.out ?_
  · (go_simp)
  simp only [Act.put, List.setIfInBounds_toArray, List.set_cons_zero, List.set_cons_succ]
  refine heldTake 13 (some 4) (.int .i64 0) rfl rfl (by kernel_rfl) (by kernel_rfl) (by kernel_rfl) (fun _ _ _ h => h) (Or.inl ⟨by rfl, fun w hS => ?_⟩) HS1.out ?_
  · (go_simp)
  simp only [Act.put, List.setIfInBounds_toArray, List.set_cons_zero, List.set_cons_succ]
  refine wpAnyH_done (by kernel_rfl) ?_ _
  clear HS HS1 c0 c1
  go_wp2_with fail
  refine HHD.mono ?_
  rintro r w2 ⟨rfl, hB2⟩
  have HB2 : Hid (Below w.heap.size w w2) := HB1.out.trans (hB2.mono hs1)
  have hs2 := HB2.out.size
  have HROW2 : Hid (w2.heap[q]? = some (.cells (pcells (bare l) g nil0 nil0) 116 (0, 0))) := (HB2.out.block q hq).trans HROW.out
  have c2 : w2.cell? ⟨q, 2, none⟩ = some (.int .i64 (64 * ((l.n : Int) - 1))) := by rw [cell_of_row _ q 2 _ _ (0, 0) HROW2.out]; rfl
  have c3 : w2.cell? ⟨q, 3, none⟩ = some (.int .i64 0) := by rw [cell_of_row _ q 3 _ _ (0, 0) HROW2.out]; rfl
  have c4 : w2.cell? ⟨q, 4, none⟩ = some (.int .i64 0) := by rw [cell_of_row _ q 4 _ _ (0, 0) HROW2.out]; rfl
  have f3 := frozen_of_row _ q 3 _ _ HROW2.out
  have f4 := frozen_of_row _ q 4 _ _ HROW2.out
  clear hB2 HHD HB1
  have hwn : IntKind.u64.wrap (64 * ((l.n : Int) - 1)) = 64 * ((l.n : Int) - 1) := by rw [IntKind.wrap_u64]; omega
  have hg1 : decide ((4611686018427387904 : Int) < (l.epoch : Int)) = false := decide_eq_false (by omega)
  have hg2 : decide (64 * ((l.n : Int) - 1) < (l.bytes.size : Int)) = false := decide_eq_false (by omega)
  have hg1' : ¬ (4611686018427387904 : Int) < (l.epoch : Int) := by omega
  have hg2' : ¬ 64 * ((l.n : Int) - 1) < (l.bytes.size : Int) := by omega
  have he0 : (0 : Int) ≤ (l.epoch : Int) := by omega
  have hwe : IntKind.i64.wrap (l.epoch : Int) = (l.epoch : Int) := by rw [IntKind.wrap_i64]; omega
  have hwb : IntKind.i64.wrap (l.bytes.size : Int) = (l.bytes.size : Int) := by rw [IntKind.wrap_i64]; omega
  go_wp2_with fail
  have HROW3 : Hid (((w2.setCell ⟨q, 3, none⟩ (.int .i64 (l.epoch : Int))).setCell ⟨q, 4, none⟩ (.int .i64 (l.bytes.size : Int))).heap[q]? = some (.cells (pcells l g nil0 nil0) 116 (0, 0))) := by
    show _ = _
    rw [heap_setCell_same _ q 4 _ _ _ (heap_setCell_same w2 q 3 _ _ _ HROW2.out)]
    unfold pcells bare
    rw [HW.out, HLL.out]
    rfl
  have HC3 : Hid (Chg [q] w ((w2.setCell ⟨q, 3, none⟩ (.int .i64 (l.epoch : Int))).setCell ⟨q, 4, none⟩ (.int .i64 (l.bytes.size : Int)))) := ((Chg.of_below HB2.out).trans (Chg.setCell _ q 3 _)).trans (Chg.setCell _ q 4 _)
  generalize (w2.setCell ⟨q, 3, none⟩ (.int .i64 (l.epoch : Int))).setCell ⟨q, 4, none⟩ (.int .i64 (l.bytes.size : Int)) = w3 at *
  clear c2 c3 c4 f3 f4 hwn hg1 hg2 hg1' hg2' hwe hwb he0 HB2 HROW2 hs2 hs1
  have hs3 := HC3.out.size
  have HD3 : Hid (Dk w3 g kg vp s) := HD.out.keep HC3.out (fun k hk hm => HQF.out (by rw [← List.mem_singleton.1 hm]; exact hk))
  have HT3 : Hid (Tab w3) := HTB.out.of_block (HC3.out.block 0 hpos (fun hm => h0 (List.mem_singleton.1 hm).symm))
  have HSA : Hid ((fun U : World => U.cell? ⟨q, 1, none⟩ = some (.int .i64 (l.base : Int)) ∧ U.cell? ⟨q, 4, none⟩ = some (.int .i64 (l.bytes.size : Int))) w3.drew) := ⟨by show w3.cell? _ = _; rw [cell_of_row _ q 1 _ _ (0, 0) HROW3.out]; rfl, by show w3.cell? _ = _; rw [cell_of_row _ q 4 _ _ (0, 0) HROW3.out]; rfl⟩
  have HRD := lread_any q g kg vp s (l.base + 1) l.bytes.size l.bytes w3.drew (by show w3.cell? _ = _; rw [cell_of_row _ q 0 _ _ (0, 0) HROW3.out]; rfl) HD3.out.drew hd rfl (by omega) (by omega) (fun i hi => by omega) (fun i j hj hij => HON.out.tail hj hij)
  rw [show ((l.base + 1 : Nat) : Int) = (l.base : Int) + 1 by omega] at HRD
  have hb1 : l.base ≤ 65536 := by omega
  refine wp_region_held_drew (S := fun U => U.cell? ⟨q, 1, none⟩ = some (.int .i64 (l.base : Int)) ∧ U.cell? ⟨q, 4, none⟩ = some (.int .i64 (l.bytes.size : Int))) (by kernel_rfl) HSA.out (fun _ => ?_)
  refine heldTake 0 (some 58) (ptr q) rfl rfl (by kernel_rfl) (by kernel_rfl) (by kernel_rfl) (fun _ _ _ h => h) (Or.inl ⟨by rfl, fun w hS => ?_⟩) HSA.out ?_
  · (go_simp)
  simp only [Act.put, List.setIfInBounds_toArray, List.set_cons_zero, List.set_cons_succ]
  refine heldTake 1 (some 59) (ptr q) rfl rfl (by kernel_rfl) (by kernel_rfl) (by kernel_rfl) (fun _ _ _ h => h) (Or.inl ⟨by rfl, fun w hS => ?_⟩) HSA.out ?_
  · (go_simp)
  simp only [Act.put, List.setIfInBounds_toArray, List.set_cons_zero, List.set_cons_succ]
  refine heldTake 2 (some 60) (ptr q) rfl rfl (by kernel_rfl) (by kernel_rfl) (by kernel_rfl) (fun _ _ _ h => h) (Or.inl ⟨by rfl, fun w hS => ?_⟩) HSA.out ?_
  · (go_simp)
  simp only [Act.put, List.setIfInBounds_toArray, List.set_cons_zero, List.set_cons_succ]
  refine heldTake 3 (some 61) (.pointer (some ⟨q, 1, none⟩)) rfl rfl (by kernel_rfl) (by kernel_rfl) (by kernel_rfl) (fun _ _ _ h => h) (Or.inl ⟨by rfl, fun w hS => ?_⟩) HSA.out ?_
  · (go_simp)
  simp only [Act.put, List.setIfInBounds_toArray, List.set_cons_zero, List.set_cons_succ]
  refine heldTake 4 (some 62) (.int .i64 (l.base : Int)) rfl rfl (by kernel_rfl) (by kernel_rfl) (by kernel_rfl) (fun _ _ _ h => h) (Or.inl ⟨by rfl, fun w hS => ?_⟩) HSA.out ?_
  · (obtain ⟨p0, p1⟩ := hS; go_simp)
  simp only [Act.put, List.setIfInBounds_toArray, List.set_cons_zero, List.set_cons_succ]
  refine heldTake 5 (some 63) (.int .i64 ((l.base : Int) + 1)) rfl rfl (by kernel_rfl) (by kernel_rfl) (by kernel_rfl) (fun _ _ _ h => h) (Or.inl ⟨by rfl, fun w hS => ?_⟩) HSA.out ?_
  · (go_simp; rw [IntKind.wrap_i64]; omega)
  simp only [Act.put, List.setIfInBounds_toArray, List.set_cons_zero, List.set_cons_succ]
  refine heldTake 6 (some 64) (ptr q) rfl rfl (by kernel_rfl) (by kernel_rfl) (by kernel_rfl) (fun _ _ _ h => h) (Or.inl ⟨by rfl, fun w hS => ?_⟩) HSA.out ?_
  · (go_simp)
  simp only [Act.put, List.setIfInBounds_toArray, List.set_cons_zero, List.set_cons_succ]
  refine heldTake 7 (some 65) (ptr q) rfl rfl (by kernel_rfl) (by kernel_rfl) (by kernel_rfl) (fun _ _ _ h => h) (Or.inl ⟨by rfl, fun w hS => ?_⟩) HSA.out ?_
  · (go_simp)
  simp only [Act.put, List.setIfInBounds_toArray, List.set_cons_zero, List.set_cons_succ]
  refine heldTake 8 (some 66) (.pointer (some ⟨q, 4, none⟩)) rfl rfl (by kernel_rfl) (by kernel_rfl) (by kernel_rfl) (fun _ _ _ h => h) (Or.inl ⟨by rfl, fun w hS => ?_⟩) HSA.out ?_
  · (go_simp)
  simp only [Act.put, List.setIfInBounds_toArray, List.set_cons_zero, List.set_cons_succ]
  refine heldTake 9 (some 67) (.int .i64 (l.bytes.size : Int)) rfl rfl (by kernel_rfl) (by kernel_rfl) (by kernel_rfl) (fun _ _ _ h => h) (Or.inl ⟨by rfl, fun w hS => ?_⟩) HSA.out ?_
  · (obtain ⟨p0, p1⟩ := hS; go_simp)
  simp only [Act.put, List.setIfInBounds_toArray, List.set_cons_zero, List.set_cons_succ]
  refine heldOne 10 (by kernel_rfl) rfl (by rfl) (fun KK hK => ?_)
  go_simp
  go_at_call 98
  refine HRD.mono ?_
  rintro r w4 ⟨v4, rfl, hO4, hB4⟩
  have HB4 : Hid (Below w3.heap.size w3 w4) := (Below.refl _ w3).drew.trans hB4
  have hq3 : q < w3.heap.size := Nat.lt_of_lt_of_le hq hs3
  have HSB : Hid ((fun U : World => U.cell? ⟨q, 1, none⟩ = some (.int .i64 (l.base : Int)) ∧ U.cell? ⟨q, 4, none⟩ = some (.int .i64 (l.bytes.size : Int))) w4) := ⟨(HB4.out.cell (p := ⟨q, 1, none⟩) hq3).trans HSA.out.1, (HB4.out.cell (p := ⟨q, 4, none⟩) hq3).trans HSA.out.2⟩
  have HO4 : Hid (OwnB w4 w3.heap.size v4 l.bytes) := hO4
  clear hB4 hO4 HRD
  refine hK.out _ _ HSB.out ?_
  clear hK KK
  refine heldTake 11 (some 57) (.tuple #[v4, .int .i64 0]) rfl rfl (by kernel_rfl) (by kernel_rfl) (by kernel_rfl) (fun _ _ _ h => h) (Or.inl ⟨by rfl, fun w hS => ?_⟩) HSB.out ?_
  · (go_simp)
  simp only [Act.put, List.setIfInBounds_toArray, List.set_cons_zero, List.set_cons_succ]
  refine heldTake 12 (some 69) (v4) rfl rfl (by kernel_rfl) (by kernel_rfl) (by kernel_rfl) (fun _ _ _ h => h) (Or.inl ⟨by rfl, fun w hS => ?_⟩) HSB.out ?_
  · (go_simp)
  simp only [Act.put, List.setIfInBounds_toArray, List.set_cons_zero, List.set_cons_succ]
  refine heldTake 13 (some 70) (.int .i64 0) rfl rfl (by kernel_rfl) (by kernel_rfl) (by kernel_rfl) (fun _ _ _ h => h) (Or.inl ⟨by rfl, fun w hS => ?_⟩) HSB.out ?_
  · (go_simp)
  simp only [Act.put, List.setIfInBounds_toArray, List.set_cons_zero, List.set_cons_succ]
  refine heldTake 14 (some 8) (v4) rfl rfl (by kernel_rfl) (by kernel_rfl) (by kernel_rfl) (fun _ _ _ h => h) (Or.inl ⟨by rfl, fun w hS => ?_⟩) HSB.out ?_
  · (go_simp)
  simp only [Act.put, List.setIfInBounds_toArray, List.set_cons_zero, List.set_cons_succ]
  refine heldTake 15 (some 4) (.int .i64 0) rfl rfl (by kernel_rfl) (by kernel_rfl) (by kernel_rfl) (fun _ _ _ h => h) (Or.inl ⟨by rfl, fun w hS => ?_⟩) HSB.out ?_
  · (go_simp)
  simp only [Act.put, List.setIfInBounds_toArray, List.set_cons_zero, List.set_cons_succ]
  refine wpAnyH_done (by kernel_rfl) ?_ _
  clear HSA HSB
  have hs4 := HB4.out.size
  have HRF := readFrames_any v4 l.recs w4 (Rest.of_own (by rw [← HIS.out]; exact HO4.out)) (HT3.out.below HB4.out (by omega)) HFT.out (by have := congrArg ByteArray.size HIS.out; rw [Wl.frames_size] at this; omega)
  go_wp2_with fail
  refine HRF.mono ?_
  rintro r w5 ⟨u, rfl, hO5, hB5⟩
  have HB5 : Hid (Below w3.heap.size w3 w5) := HB4.out.trans (hB5.mono hs4)
  have HO5 : Hid (OwnS w5 w4.heap.size u l.recs) := hO5
  have HROW5 : Hid (w5.heap[q]? = some (.cells (pcells l g nil0 nil0) 116 (0, 0))) := (HB5.out.block q hq3).trans HROW3.out
  have c5 : w5.cell? ⟨q, 5, none⟩ = some nil0 := by rw [cell_of_row _ q 5 _ _ (0, 0) HROW5.out]; rfl
  have f5 := frozen_of_row _ q 5 _ _ HROW5.out
  have hqn : u.ownBlock ≠ some q := fun e => by have := (hO5.lt q e).1; omega
  have HFN : Hid (Pk (w5.setCell ⟨q, 5, none⟩ u) q g u nil0 l ∧ Turn [q] (pfoot q u nil0) w (w5.setCell ⟨q, 5, none⟩ u)) := by
    refine ⟨⟨?_, own_keep (own_zero HO5.out) (fun k hk => heap_setCell_other _ _ _ _ (fun e => hqn (by rw [hk, e]))), ?_, hqn, (by intro e; cases e), (by intro k _ e; cases e), HOK.out⟩, ⟨(HC3.out.trans (Chg.of_below HB5.out)).trans (Chg.setCell _ q 5 _), fun k hk => ?_⟩⟩
    · rw [heap_setCell_same _ q 5 _ _ _ HROW5.out]
      rfl
    · rw [HW.out]; exact own_nil _
    · simp only [pfoot, List.mem_cons, List.mem_append, Option.mem_toList] at hk ⊢
      rcases hk with h1 | h1 | h1
      · exact .inl (.inl h1)
      · exact .inr (by have := (HO5.out.lt k h1).1; omega)
      · cases h1
  obtain ⟨ua, uc, hu⟩ := own_slice hO5
  have HU : Hid (u = .slice ua l.recs.length uc) := hu
  clear hO5 hB5 HRF hu hqn
  rw [HU.out] at HFN
  rw [HU.out]
  go_wp2
  go_ret
  exact ⟨_, rfl, HFN.out⟩
/- the log that a disk has -/
def opened (base n e : Nat) (rs : List ByteArray) : Wl.Lg := ⟨base, n, e, Wl.frames rs, rs, [], false⟩
theorem opened_ok {ks : List ByteArray} {base n e : Nat} {rs : List ByteArray} (h : Wl.On ks base n e (Wl.frames rs)) (hf : Wl.Fit rs) (hk : ks.length ≤ 65536) : (opened base n e rs).Ok :=
  ⟨h.two, by have := h.fits; show base + n ≤ _; omega, h.most, ⟨rfl, hf⟩, (by intro r hr; cases hr), by have := h.room; show (Wl.frames rs).size + Wl.total [] ≤ 64 * (n - 1); rw [Wl.total]; omega⟩
set_option maxHeartbeats 8000000 in
set_option maxRecDepth 20000 in
theorem open_any (g kg : Nat) (vp : Value) (s : Sc.St) (base n e : Nat) (rs : List ByteArray) (w : World) (hD : Dk w g kg vp s) (hd : s.down = false) (hT : Tab w) (hf : Wl.Fit rs) (hon : Wl.On (Wl.flat s) base n e (Wl.frames rs)) :
    Calls Tryz.prog 54 #[ptr g, .int .i64 (base : Int), .int .i64 (n : Int)] w fun r w' => ∃ q vr, r = .returned (.tuple #[ptr q, .int .i64 0]) ∧ LP w' q g vr nil0 (opened base n e rs) kg vp s ∧ Below w.heap.size w w' ∧ ∀ k ∈ pfoot q vr nil0, w.heap.size ≤ k := by
  have HSZ := size_any g kg vp s w hD
  have HDN := down_any g kg vp s w hD
  rw [hd] at HDN
  have h2 := hon.two
  have hfits := hon.fits
  rw [Wl.flat_length] at hfits
  have hkl := hD.ok.most
  have HOK : Hid ((opened base n e rs).Ok) := opened_ok hon hf (by rw [Wl.flat_length]; exact hkl)
  have hpos := hT.pos
  have HD : Hid (Dk w g kg vp s) := hD
  have HTB : Hid (Tab w) := hT
  have HON : Hid (Wl.On (Wl.flat s) base n e (Wl.frames rs)) := hon
  clear hD hT hon hf
  have d0 : ((s.kept.length : Int) == 0) = false := by rw [beq_eq_false_iff_ne]; omega
  have d1 : decide ((n : Int) < 2) = false := decide_eq_false (by omega)
  have d2 : decide ((s.kept.length : Int) < (n : Int)) = false := decide_eq_false (by omega)
  have d3 : decide ((base : Int) < 0) = false := decide_eq_false (by omega)
  have d4 : decide ((s.kept.length : Int) - (n : Int) < (base : Int)) = false := decide_eq_false (by omega)
  have d1' : ¬ (n : Int) < 2 := by omega
  have d2' : ¬ (s.kept.length : Int) < (n : Int) := by omega
  have d4' : ¬ (s.kept.length : Int) - (n : Int) < (base : Int) := by omega
  have hk1 : s.kept.length ≤ 65536 := hkl
  generalize hK : s.kept.length = K at *
  go_enter Tryz.func54, Tryz.ntmps54
  go_wp2_with fail
  refine HSZ.mono ?_
  rintro r w' ⟨rfl, hw⟩
  rw [hw]
  clear hw w'
  go_wp2_with fail
  refine HDN.mono ?_
  rintro r w' ⟨rfl, hw⟩
  rw [hw]
  clear hw w'
  go_wp2_with fail
  have HROW : Hid ((w.alloc (.cells #[ptr g, .int .i64 (base : Int), .int .i64 (((n : Int) - 1) * 64), .int .i64 0, .int .i64 0, .slice none 0 0, .slice none 0 0, .int .i64 0, .bool false] 116)).heap[w.heap.size]? = some (.cells (pcells (bare (opened base n e rs)) g nil0 nil0) 116 (0, 0))) := by
    show _ = _
    rw [heap_alloc_new, Int.mul_comm]
    rfl
  have HB0 : Hid (Below w.heap.size w (w.alloc (.cells #[ptr g, .int .i64 (base : Int), .int .i64 (((n : Int) - 1) * 64), .int .i64 0, .int .i64 0, .slice none 0 0, .slice none 0 0, .int .i64 0, .bool false] 116))) := (Below.refl _ _).alloc (Nat.le_refl _) _
  generalize World.alloc w _ = w1 at *
  have HD1 : Hid (Dk w1 g kg vp s) := HD.out.below HB0.out
  have HLD := load_any w.heap.size g kg vp s (opened base n e rs) w1 HROW.out HD1.out hd (HTB.out.below HB0.out hpos) (by omega) (fun hm => by have := HD.out.lt _ hm; omega) HOK.out rfl rfl (by rw [hK]; exact hfits) HON.out
  refine HLD.mono ?_
  rintro r w2 ⟨vr, rfl, hP2, hT2⟩
  have HFN : Hid (LP w2 w.heap.size g vr nil0 (opened base n e rs) kg vp s ∧ Below w.heap.size w w2 ∧ ∀ k ∈ pfoot w.heap.size vr nil0, w.heap.size ≤ k) := by
    have hab : ∀ k ∈ pfoot w.heap.size vr nil0, w.heap.size ≤ k := hT2.above (fun k hk => by rw [List.mem_singleton.1 hk]; exact Nat.le_refl _) HB0.out.size
    refine ⟨⟨hP2, HD1.out.keep hT2.chg (fun k hk hm => by have := HD.out.lt k hk; rw [List.mem_singleton.1 hm] at this; omega), fun k hk hm => by have := hab k hk; have := HD.out.lt k hm; omega, by rw [hK]; exact hfits⟩, HB0.out.trans (hT2.below (fun k hk => by rw [List.mem_singleton.1 hk]; exact Nat.le_refl _) HB0.out.size), hab⟩
  clear hP2 hT2 HLD
  go_wp2
  go_ret2
  exact ⟨_, _, rfl, HFN.out⟩
end Go.Proofs.YtcfninpokngmlaaGreatDoor
/- Proved: what the laws' comparison of two lists of texts answers. -/
namespace Go.Proofs.YtcfninpokngmlaaGreatDoor
open Go.RowKit
theorem toList_ne {a b : ByteArray} (h : ¬ a = b) : (a.toList == b.toList) = false := by
  rw [beq_eq_false_iff_ne]
  intro e
  exact h (Wl.ext_list (by rw [ByteArray.toList_eq, ByteArray.toList_eq] at e; exact e))
end Go.Proofs.YtcfninpokngmlaaGreatDoor
/- Proved: what a log on a disk that has power and is not armed makes of Add, Sync and Reset. -/
namespace Wl
open Sc (St)
def synced (l : Lg) : Lg := { l with bytes := all l, recs := l.recs ++ l.wait, wait := [] }
def emptied (l : Lg) : Lg := { l with epoch := l.epoch + 1, bytes := ob [], recs := [] }
theorem addS_base (l : Lg) (r : ByteArray) : (addS l r).base = l.base ∧ (addS l r).n = l.n ∧ (addS l r).epoch = l.epoch ∧ (addS l r).bytes = l.bytes ∧ (addS l r).recs = l.recs ∧ (addS l r).lost = l.lost := by
  unfold addS
  split
  · exact ⟨rfl, rfl, rfl, rfl, rfl, rfl⟩
  · exact ⟨rfl, rfl, rfl, rfl, rfl, rfl⟩
end Wl
namespace Go.Proofs.YtcfninpokngmlaaGreatDoor
open Go.RowKit
structure Good (w : World) (q g : Nat) (vr vw : Value) (l : Wl.Lg) (kg : Nat) (vp : Value) (s : Sc.St) (N : Nat) : Prop where
  lp : LP w q g vr vw l kg vp s
  up : Wl.Up N s
  on : Wl.On (Wl.flat s) l.base l.n l.epoch l.bytes
  lost : l.lost = false
  safe : Safe w (lfoot q g vr vw kg vp)
section
variable {w w' : World} {q g kg N : Nat} {vr vw vr' vw' vp vp' : Value} {l l' : Wl.Lg} {s s' : Sc.St}
theorem Good.fits (G : Good w q g vr vw l kg vp s N) : l.base + l.n ≤ N := by have := G.lp.fits; rw [G.up.len] at this; exact this
theorem Good.below (G : Good w q g vr vw l kg vp s N) (hB : Below w.heap.size w w') : Good w' q g vr vw l kg vp s N := ⟨G.lp.below hB, G.up, G.on, G.lost, G.safe.below hB⟩
theorem LP.keep (L : LP w q g vr vw l kg vp s) {fs : List Nat} (hc : Chg fs w w') (ha : ∀ k ∈ lfoot q g vr vw kg vp, k ∉ fs) : LP w' q g vr vw l kg vp s := ⟨L.pk.keep hc (fun k hk => ha k (List.mem_append.2 (.inl hk))), L.dk.keep hc (fun k hk => ha k (List.mem_append.2 (.inr hk))), L.ap, L.fits⟩
theorem Good.keep (G : Good w q g vr vw l kg vp s N) {fs : List Nat} (hc : Chg fs w w') (ha : ∀ k ∈ lfoot q g vr vw kg vp, k ∉ fs) (h0 : 0 ∉ fs) : Good w' q g vr vw l kg vp s N := ⟨G.lp.keep hc ha, G.up, G.on, G.lost, ⟨G.safe.tab.of_block (hc.block 0 G.safe.tab.pos h0), G.safe.no⟩⟩
theorem Good.tail (G : Good w q g vr vw l kg vp s N) : ∀ j, j < l.bytes.size % 64 → (Sc.now s (l.base + 1 + l.bytes.size / 64)).data.toList[j]? = l.bytes.data.toList[64 * (l.bytes.size / 64) + j]? := fun j hj => G.on.tail (i := l.bytes.size / 64) (by omega) (by omega)
end
theorem made_on (n base m : Nat) (h2 : 2 ≤ m) (hf : base + m ≤ n) : Wl.On (Wl.flat (Sc.made n)) base m 0 (Wl.frames []) := by
  have e : Wl.flat (Sc.made n) = List.replicate n Sc.zero64 := Wl.flat_nil rfl
  rw [e]
  refine Wl.On.zero ?_ h2 (by rw [List.length_replicate]; exact hf)
  rw [List.getD_eq_getElem?_getD, List.getElem?_replicate]
  split <;> rfl
end Go.Proofs.YtcfninpokngmlaaGreatDoor
