/- Proved: the bytes of a branch, as slot's branchBytes answers them; what Encode answers (stage 11). -/
import Derived.Test.YtoinaplmgffkpaaEncL
import Derived.Test.YtoinaplmgffkpaaSize
namespace Go.Proofs.Ytoinaplmgffkpaa
open Go.RowKit
open Sl (Cel Nod)
def bpart (ks : List ByteArray) (ds : List Int) (i : Nat) : List Nat := tx (ks.getD i ByteArray.empty) ++ four (ds.getD (i + 1) 0).toNat 4
def bflat (ks : List ByteArray) (ds : List Int) : Nat → List Nat
  | 0 => []
  | k + 1 => bflat ks ds k ++ bpart ks ds k
def bbytes (ks : List ByteArray) (ds : List Int) : List Nat := 2 :: ks.length :: (four (ds.getD 0 0).toNat 4 ++ bflat ks ds ks.length)
theorem bpart_length (ks : List ByteArray) (ds : List Int) (i : Nat) : (bpart ks ds i).length = 5 + (ks.getD i ByteArray.empty).size := by
  unfold bpart
  rw [List.length_append, tx_length, four_length]; omega
theorem bflat_len (ks : List ByteArray) (ds : List Int) (h : ∀ k ∈ ks, k.size ≤ 140) : ∀ k, k ≤ ks.length → (bflat ks ds k).length ≤ k * 145
  | 0, _ => by simp [bflat]
  | k + 1, hk => by
    have h1 := bflat_len ks ds h k (by omega)
    have h2 := h _ (Sl.getD_mem ks k ByteArray.empty (by omega))
    rw [bflat, List.length_append, bpart_length]
    omega
theorem Brow.grew {w w' : World} {v v' : Value} {b : Nat} {cs : List Value} {t : TypeId} (h : Brow w b cs t) (G : Grew w v w' v') (hne : some b ≠ v.ownBlock) : Brow w' b cs t := ⟨(G.by_.block b h.lt hne).trans h.row⟩
theorem own_far {w : World} {N n : Nat} {v : Value} {vs : List Value} {e : TypeId} {k : Nat} (h : w.ownsRow N e k v n vs) {b : Nat} (hb : b < N) : some b ≠ v.ownBlock := fun e => by
  have := own_row h e.symm
  omega
set_option maxHeartbeats 4000000 in
theorem bbytes_any (n : Nod) (p : Pt) (w : World) (hN : Lies w n p) (hk : ∀ k ∈ n.keys, k.size ≤ 140) (hd : ∀ d ∈ n.kids, Sl.isPage d = true) (hl : n.keys.length ≤ 255) (hkd : n.kids.length = n.keys.length + 1) :
    Calls Try.prog 46 #[nv n p] w fun e w' => ∃ v, e = .returned v ∧ w'.ownsRow w.heap.size 5 1 v (bbytes n.keys n.kids).length ((bbytes n.keys n.kids).map V8) ∧ Below w.heap.size w w' := by
  have HL : Hid (Lies w n p) := hN
  have HB0 : Hid (Below w.heap.size w (boxN w n p)) := below_alloc _ _
  have HX0 : Hid (Brow (boxN w n p) w.heap.size [.bool n.leaf, .slice p.a1 n.cells.length p.c1, .slice p.a2 n.keys.length p.c2, .slice p.a3 n.kids.length p.c3] 26) := Brow.new w _ 26
  have hs0 : (boxN w n p).heap.size = w.heap.size + 1 := size_alloc1 _ _
  obtain ⟨lf, cs, ks, ds⟩ := n
  obtain ⟨a1, c1, a2, c2, a3, c3⟩ := p
  unfold nv
  simp only at hk hd hl hkd HX0 ⊢
  have HDN := (show Hid (∀ i, i < ds.length → ∃ m : Nat, ds.getD i 0 = (m : Int) ∧ m ≤ 2147483647 ∧ (ds.getD i 0).toNat = m) from fun i hi => by
    have := hd _ (Sl.getD_mem ds i 0 hi)
    unfold Sl.isPage at this
    simp only [Bool.and_eq_true, decide_eq_true_eq] at this
    exact ⟨(ds.getD i 0).toNat, by omega, by omega, rfl⟩)
  have HKS := (show Hid (∀ k ∈ ks, k.size ≤ 140) from hk)
  have HLE := (show Hid (∀ k, k ≤ ks.length → (bflat ks ds k).length ≤ k * 145) from bflat_len ks ds hk)
  obtain ⟨d0, hd0, hd1, hd2⟩ := HDN.out 0 (by omega)
  obtain ⟨bd, fd, ha3, hbd, hcd⟩ := HL.out.r3.intAt (show 0 < ds.length by omega)
  simp only at ha3
  subst ha3
  have hc0 := hcd 0 (show 0 < ds.length by omega)
  simp only at hc0
  rw [hd0, Nat.add_zero] at hc0
  have HCD := (show Hid (∀ i, i < ds.length → w.cell? ⟨bd, fd + i, none⟩ = some (.int .i64 (ds.getD i 0))) from hcd)
  have HC0 := (show Hid (w.cell? ⟨bd, fd, none⟩ = some (.int .i64 (d0 : Int))) from hc0)
  have HBY : Is (bbytes ks ds) ([2, ks.length] ++ four d0 4 ++ bflat ks ds ks.length) := ⟨by unfold bbytes; rw [hd2]; rfl⟩
  have hkd1 : ds.length ≤ ks.length + 1 := by omega
  have hkd2 : ks.length + 1 ≤ ds.length := by omega
  clear hN hk hd hcd hc0 hd0 hd2 hkd
  have i0 : ((ks.length : Nat) : Int) ≤ 255 := by omega
  have i1 : ((ks.length : Nat) : Int) % 256 = (ks.length : Int) := by omega
  have i4 : (0 : Int) < (ds.length : Int) := by omega
  have i5 : 0 < ds.length := by omega
  have i6 : IntKind.u8.wrap (ks.length : Int) = (ks.length : Int) := by rw [IntKind.wrap_u8]; omega
  go_enter Try.func46, Try.ntmps46
  go_upto_region 1 with fail
  have HSD : Hid ((fun W : World => Brow W w.heap.size [.bool lf, .slice a1 cs.length c1, .slice a2 ks.length c2, .slice (some ⟨bd, fd, none⟩) ds.length c3] 26 ∧ W.cell? ⟨bd, fd, none⟩ = some (.int .i64 (d0 : Int))) (boxN w ⟨lf, cs, ks, ds⟩ ⟨a1, c1, a2, c2, some ⟨bd, fd, none⟩, c3⟩).drew) := ⟨HX0.out.drew, (HB0.out.drew.cell (p := ⟨bd, fd, none⟩) hbd).trans HC0.out⟩
  have HBD : Hid (Below w.heap.size w (boxN w ⟨lf, cs, ks, ds⟩ ⟨a1, c1, a2, c2, some ⟨bd, fd, none⟩, c3⟩).drew) := HB0.out.drew
  have hsD : (boxN w ⟨lf, cs, ks, ds⟩ ⟨a1, c1, a2, c2, some ⟨bd, fd, none⟩, c3⟩).drew.heap.size = w.heap.size + 1 := hs0
  unfold boxN at HSD HBD hsD
  simp only at HBD hsD
  refine wp_region_held_drew (S := (fun W : World => Brow W w.heap.size [.bool lf, .slice a1 cs.length c1, .slice a2 ks.length c2, .slice (some ⟨bd, fd, none⟩) ds.length c3] 26 ∧ W.cell? ⟨bd, fd, none⟩ = some (.int .i64 (d0 : Int)))) (by kernel_rfl) HSD.out (fun _ => ?_)
  generalize (w.alloc (.cells #[.bool lf, .slice a1 cs.length c1, .slice a2 ks.length c2, .slice (some ⟨bd, fd, none⟩) ds.length c3] 26)).drew = wd at *
  have hsE : w.heap.size + 1 ≤ wd.heap.size := by omega
  clear HX0 HB0 hs0 hsD
  refine heldTake 0 (some 6) (.pointer (some ⟨w.heap.size, 2, none⟩)) rfl rfl (by kernel_rfl) (by kernel_rfl) (by kernel_rfl) (fun _ _ _ h => h) (Or.inl ⟨by rfl, fun w hS => ?_⟩) HSD.out ?_
  · (go_simp)
  simp only [Act.put, List.setIfInBounds_toArray, List.set_cons_zero, List.set_cons_succ]
  refine heldTake 1 (some 7) (.slice a2 ks.length c2) rfl rfl (by kernel_rfl) (by kernel_rfl) (by kernel_rfl) (fun _ _ _ h => h) (Or.inl ⟨by rfl, fun w hS => ?_⟩) HSD.out ?_
  · (have q := hS.1.at 2 _ rfl; go_simp)
  simp only [Act.put, List.setIfInBounds_toArray, List.set_cons_zero, List.set_cons_succ]
  refine heldTake 2 (some 8) (.int .i64 (ks.length : Int)) rfl rfl (by kernel_rfl) (by kernel_rfl) (by kernel_rfl) (fun _ _ _ h => h) (Or.inl ⟨by rfl, fun w hS => ?_⟩) HSD.out ?_
  · (go_simp)
  simp only [Act.put, List.setIfInBounds_toArray, List.set_cons_zero, List.set_cons_succ]
  refine heldTake 3 (some 9) (.int .u8 (ks.length : Int)) rfl rfl (by kernel_rfl) (by kernel_rfl) (by kernel_rfl) (fun _ _ _ h => h) (Or.inl ⟨by rfl, fun w hS => ?_⟩) HSD.out ?_
  · (go_simp)
  simp only [Act.put, List.setIfInBounds_toArray, List.set_cons_zero, List.set_cons_succ]
  refine heldTake 5 (some 11) (.pointer (some ⟨w.heap.size, 3, none⟩)) rfl rfl (by kernel_rfl) (by kernel_rfl) (by kernel_rfl) (fun _ _ _ h => h) (Or.inl ⟨by rfl, fun w hS => ?_⟩) HSD.out ?_
  · (go_simp)
  simp only [Act.put, List.setIfInBounds_toArray, List.set_cons_zero, List.set_cons_succ]
  refine heldTake 6 (some 12) (.slice (some ⟨bd, fd, none⟩) ds.length c3) rfl rfl (by kernel_rfl) (by kernel_rfl) (by kernel_rfl) (fun _ _ _ h => h) (Or.inl ⟨by rfl, fun w hS => ?_⟩) HSD.out ?_
  · (have q := hS.1.at 3 _ rfl; go_simp)
  simp only [Act.put, List.setIfInBounds_toArray, List.set_cons_zero, List.set_cons_succ]
  refine heldTake 7 (some 13) (.pointer (some ⟨bd, fd, none⟩)) rfl rfl (by kernel_rfl) (by kernel_rfl) (by kernel_rfl) (fun _ _ _ h => h) (Or.inl ⟨by rfl, fun w hS => ?_⟩) HSD.out ?_
  · (go_simp)
  simp only [Act.put, List.setIfInBounds_toArray, List.set_cons_zero, List.set_cons_succ]
  refine heldTake 8 (some 14) (.int .i64 (d0 : Int)) rfl rfl (by kernel_rfl) (by kernel_rfl) (by kernel_rfl) (fun _ _ _ h => h) (Or.inl ⟨by rfl, fun w hS => ?_⟩) HSD.out ?_
  · (have q := hS.2; go_simp)
  simp only [Act.put, List.setIfInBounds_toArray, List.set_cons_zero, List.set_cons_succ]
  have HO0 := (show Hid _ from two_own wd 2 (ks.length : Int) 2 ks.length rfl rfl)
  have HB1 : Hid (Below w.heap.size w (wd.alloc (.cells #[.int .u8 2, .int .u8 (ks.length : Int)] 5))) := HBD.out.alloc (by omega) _
  have HS1 : Hid ((fun W : World => Brow W w.heap.size [.bool lf, .slice a1 cs.length c1, .slice a2 ks.length c2, .slice (some ⟨bd, fd, none⟩) ds.length c3] 26 ∧ W.cell? ⟨bd, fd, none⟩ = some (.int .i64 (d0 : Int))) (wd.alloc (.cells #[.int .u8 2, .int .u8 (ks.length : Int)] 5))) := ⟨HSD.out.1.alloc _, (HB1.out.cell (p := ⟨bd, fd, none⟩) hbd).trans HC0.out⟩
  have HAF := afour_any (wd.alloc (.cells #[.int .u8 2, .int .u8 (ks.length : Int)] 5)) wd.heap.size (.slice (some ⟨wd.heap.size, 0, none⟩) 2 2) 2 [2, ks.length] d0 HO0.out (by rw [size_alloc1]; omega) (by omega) (by omega)
  have HNE := (show Hid (some w.heap.size ≠ (Value.slice (some ⟨wd.heap.size, 0, none⟩) 2 2).ownBlock) from own_far HO0.out (by omega))
  refine heldOne 4 (by kernel_rfl) rfl (by rfl) (fun KK hK => ?_)
  go_simp
  refine hK.out _ _ HS1.out ?_
  clear hK KK
  try simp only [Act.put, List.setIfInBounds_toArray, List.set_cons_zero, List.set_cons_succ]
  refine heldOne 9 (by kernel_rfl) rfl (by rfl) (fun KK hK => ?_)
  go_simp
  go_at_call 70
  refine HAF.mono ?_
  rintro e w1 ⟨v1, rfl, hO1, hG1⟩
  have HB2 : Hid (Below w.heap.size w w1) := HB1.out.trans ((hG1.below HO0.out (by rw [size_alloc1]; omega)).mono (by omega))
  have HX2 : Hid (Brow w1 w.heap.size [.bool lf, .slice a1 cs.length c1, .slice a2 ks.length c2, .slice (some ⟨bd, fd, none⟩) ds.length c3] 26) := HS1.out.1.grew hG1 HNE.out
  have HS2 : Hid ((fun W : World => Brow W w.heap.size [.bool lf, .slice a1 cs.length c1, .slice a2 ks.length c2, .slice (some ⟨bd, fd, none⟩) ds.length c3] 26 ∧ W.cell? ⟨bd, fd, none⟩ = some (.int .i64 (d0 : Int))) w1) := ⟨HX2.out, (HB2.out.cell (p := ⟨bd, fd, none⟩) hbd).trans HC0.out⟩
  have HO2 : Hid (w1.ownsRow (w.heap.size + 1) 5 1 v1 (2 + 4) (List.map V8 ([2, ks.length] ++ four d0 4))) := owns_base hO1 (by omega)
  have hz2 : w.heap.size + 1 ≤ w1.heap.size := by have := hG1.by_.size; rw [size_alloc1] at this; omega
  clear hO1 hG1 HAF HO0 HB1 HS1 HNE HSD HBD hsE
  refine hK.out _ _ HS2.out ?_
  clear hK KK
  try simp only [Act.put, List.setIfInBounds_toArray, List.set_cons_zero, List.set_cons_succ]
  refine heldTake 10 (some 3) (v1) rfl rfl (by kernel_rfl) (by kernel_rfl) (by kernel_rfl) (fun _ _ _ h => h) (Or.inl ⟨by rfl, fun w hS => ?_⟩) HS2.out ?_
  · (go_simp)
  simp only [Act.put, List.setIfInBounds_toArray, List.set_cons_zero, List.set_cons_succ]
  refine wpAnyH_done (by kernel_rfl) ?_ _
  clear HS2
  have q0 := HX2.out.at 0 _ rfl
  have q1 := HX2.out.at 1 _ rfl
  have q2 := HX2.out.at 2 _ rfl
  have q3 := HX2.out.at 3 _ rfl
  go_wp2_with fail
  clear q0 q1 q2 q3
  go_loopw [3, 19] (fun s3 s19 wr => ∃ k : Nat, k ≤ ks.length ∧ s19 = .int .i64 k ∧ wr.ownsRow (w.heap.size + 1) 5 1 s3 ([2, ks.length] ++ four d0 4 ++ bflat ks ds k).length (([2, ks.length] ++ four d0 4 ++ bflat ks ds k).map V8) ∧ Brow wr w.heap.size [.bool lf, .slice a1 cs.length c1, .slice a2 ks.length c2, .slice (some ⟨bd, fd, none⟩) ds.length c3] 26 ∧ Below w.heap.size w wr) (fun _ s19 _ => ks.length - (intOf s19).toNat)
  case atStart => exact ⟨0, by omega, rfl, by unfold bflat; rw [List.append_nil, List.length_append, four_length]; exact HO2.out, HX2.out, HB2.out⟩
  case round =>
    obtain ⟨k, hk, rfl, hO, hX, hB⟩ := hrel
    have HO1 := (show Hid (wr.ownsRow (w.heap.size + 1) 5 1 _ ([2, ks.length] ++ four d0 4 ++ bflat ks ds k).length (([2, ks.length] ++ four d0 4 ++ bflat ks ds k).map V8)) from hO)
    have HX := (show Hid (Brow wr w.heap.size [.bool lf, .slice a1 cs.length c1, .slice a2 ks.length c2, .slice (some ⟨bd, fd, none⟩) ds.length c3] 26) from hX)
    have HB := (show Hid (Below w.heap.size w wr) from hB)
    have hz := hX.lt
    clear hO hB hX HO2 HX2 HB2 hz2
    by_cases hlt : k < ks.length
    · have hle := HLE.out k hk
      obtain ⟨bk, fk, ha2, hbk, hck⟩ := HL.out.r2.keyAt (Nat.lt_of_le_of_lt (Nat.zero_le _) hlt)
      simp only at ha2
      subst ha2
      have hcx := (HB.out.cell (p := ⟨bk, fk + k, none⟩) hbk).trans (hck k hlt)
      simp only at hcx
      obtain ⟨m, hm0, hm1, hm2⟩ := HDN.out (k + 1) (by omega)
      have HCM := (show Hid (w.cell? ⟨bd, fd + (k + 1), none⟩ = some (.int .i64 (m : Int))) from by show _ = _; rw [HCD.out (k + 1) (by omega), hm0])
      have hksz := HKS.out _ (Sl.getD_mem ks k ByteArray.empty hlt)
      have i2 : decide ((k : Int) < (ks.length : Int)) = true := decide_eq_true (by omega)
      obtain ⟨U', HU'⟩ : ∃ U', Is U' ([2, ks.length] ++ four d0 4 ++ bflat ks ds (k + 1)) := ⟨_, ⟨rfl⟩⟩
      have HFT : Is U' ([2, ks.length] ++ four d0 4 ++ bflat ks ds k ++ tx (ks.getD k ByteArray.empty) ++ four m 4) := ⟨by rw [HU'.eq, bflat, bpart, hm2]; simp only [List.append_assoc]⟩
      have hlen : ([2, ks.length] ++ four d0 4 ++ bflat ks ds k).length ≤ 40000 := by rw [List.length_append, List.length_append, four_length]; simp only [List.length_cons, List.length_nil]; omega
      clear hck hle HL hm0 hm2
      generalize ks.getD k ByteArray.empty = x at *
      generalize [2, ks.length] ++ four d0 4 ++ bflat ks ds k = U at *
      have e1 : ((k : Int) + 1).toNat = k + 1 := by omega
      have e2 : IntKind.i64.wrap ((k : Int) + 1) = (k : Int) + 1 := by rw [IntKind.wrap_i64]; omega
      have e3 : (0 : Int) ≤ (k : Int) + 1 := by omega
      have e4 : (k : Int) + 1 < (ds.length : Int) := by omega
      have HLN : Is U'.length (U.length + (tx x).length + 4) := ⟨by rw [HFT.eq]; simp only [List.length_append, four_length]⟩
      have htl := tx_length x
      have q3 := HX.out.at 3 _ rfl
      go_upto_region 5 with fail
      clear q3 hcx
      have HSD : Hid ((fun W : World => Brow W w.heap.size [.bool lf, .slice a1 cs.length c1, .slice (some ⟨bk, fk, none⟩) ks.length c2, .slice (some ⟨bd, fd, none⟩) ds.length c3] 26 ∧ W.cell? ⟨bd, fd + (k + 1), none⟩ = some (.int .i64 (m : Int))) wr.drew) := ⟨HX.out.drew, (HB.out.drew.cell (p := ⟨bd, fd + (k + 1), none⟩) hbd).trans HCM.out⟩
      refine wp_region_held_drew (S := (fun W : World => Brow W w.heap.size [.bool lf, .slice a1 cs.length c1, .slice (some ⟨bk, fk, none⟩) ks.length c2, .slice (some ⟨bd, fd, none⟩) ds.length c3] 26 ∧ W.cell? ⟨bd, fd + (k + 1), none⟩ = some (.int .i64 (m : Int)))) (by kernel_rfl) HSD.out (fun _ => ?_)
      have HOD := (show Hid (wr.drew.ownsRow (w.heap.size + 1) 5 1 _ U.length (U.map V8)) from own_below HO1.out (Below.refl _ _).drew)
      have HBD : Hid (Below w.heap.size w wr.drew) := HB.out.drew
      have hzD : w.heap.size + 1 ≤ wr.drew.heap.size := hz
      generalize wr.drew = wd at *
      clear HO1 HX HB hz
      refine heldTake 0 (some 24) (u3) rfl rfl (by kernel_rfl) (by kernel_rfl) (by kernel_rfl) (fun _ _ _ h => h) (Or.inl ⟨by rfl, fun w hS => ?_⟩) HSD.out ?_
      · (go_simp)
      simp only [Act.put, List.setIfInBounds_toArray, List.set_cons_zero, List.set_cons_succ]
      refine heldTake 1 (some 25) (.string x) rfl rfl (by kernel_rfl) (by kernel_rfl) (by kernel_rfl) (fun _ _ _ h => h) (Or.inl ⟨by rfl, fun w hS => ?_⟩) HSD.out ?_
      · (go_simp)
      simp only [Act.put, List.setIfInBounds_toArray, List.set_cons_zero, List.set_cons_succ]
      refine heldTake 3 (some 27) (.pointer (some ⟨w.heap.size, 3, none⟩)) rfl rfl (by kernel_rfl) (by kernel_rfl) (by kernel_rfl) (fun _ _ _ h => h) (Or.inl ⟨by rfl, fun w hS => ?_⟩) HSD.out ?_
      · (go_simp)
      simp only [Act.put, List.setIfInBounds_toArray, List.set_cons_zero, List.set_cons_succ]
      refine heldTake 4 (some 28) (.slice (some ⟨bd, fd, none⟩) ds.length c3) rfl rfl (by kernel_rfl) (by kernel_rfl) (by kernel_rfl) (fun _ _ _ h => h) (Or.inl ⟨by rfl, fun w hS => ?_⟩) HSD.out ?_
      · (have q := hS.1.at 3 _ rfl; go_simp)
      simp only [Act.put, List.setIfInBounds_toArray, List.set_cons_zero, List.set_cons_succ]
      refine heldTake 5 (some 29) (.int .i64 (k : Int)) rfl rfl (by kernel_rfl) (by kernel_rfl) (by kernel_rfl) (fun _ _ _ h => h) (Or.inl ⟨by rfl, fun w hS => ?_⟩) HSD.out ?_
      · (go_simp)
      simp only [Act.put, List.setIfInBounds_toArray, List.set_cons_zero, List.set_cons_succ]
      refine heldTake 6 (some 30) (.int .i64 ((k : Int) + 1)) rfl rfl (by kernel_rfl) (by kernel_rfl) (by kernel_rfl) (fun _ _ _ h => h) (Or.inl ⟨by rfl, fun w hS => ?_⟩) HSD.out ?_
      · (go_simp)
      simp only [Act.put, List.setIfInBounds_toArray, List.set_cons_zero, List.set_cons_succ]
      refine heldTake 7 (some 31) (.pointer (some ⟨bd, fd + (k + 1), none⟩)) rfl rfl (by kernel_rfl) (by kernel_rfl) (by kernel_rfl) (fun _ _ _ h => h) (Or.inl ⟨by rfl, fun w hS => ?_⟩) HSD.out ?_
      · (go_simp)
      simp only [Act.put, List.setIfInBounds_toArray, List.set_cons_zero, List.set_cons_succ]
      refine heldTake 8 (some 32) (.int .i64 (m : Int)) rfl rfl (by kernel_rfl) (by kernel_rfl) (by kernel_rfl) (fun _ _ _ h => h) (Or.inl ⟨by rfl, fun w hS => ?_⟩) HSD.out ?_
      · (have q := hS.2; go_simp)
      simp only [Act.put, List.setIfInBounds_toArray, List.set_cons_zero, List.set_cons_succ]
      have HAT := atext_any wd (w.heap.size + 1) u3 U.length U x HOD.out (by omega) (by omega) (by omega)
      have HNE := (show Hid (some w.heap.size ≠ u3.ownBlock) from own_far HOD.out (by omega))
      refine heldOne 2 (by kernel_rfl) rfl (by rfl) (fun KK hK => ?_)
      go_simp
      go_at_call 69
      refine HAT.mono ?_
      rintro e w1 ⟨v1, rfl, hO1, hG1⟩
      have HB1 : Hid (Below w.heap.size w w1) := HBD.out.trans ((hG1.below HOD.out (by omega)).mono (by omega))
      have HS1 : Hid ((fun W : World => Brow W w.heap.size [.bool lf, .slice a1 cs.length c1, .slice (some ⟨bk, fk, none⟩) ks.length c2, .slice (some ⟨bd, fd, none⟩) ds.length c3] 26 ∧ W.cell? ⟨bd, fd + (k + 1), none⟩ = some (.int .i64 (m : Int))) w1) := ⟨HSD.out.1.grew hG1 HNE.out, (HB1.out.cell (p := ⟨bd, fd + (k + 1), none⟩) hbd).trans HCM.out⟩
      have HO1 : Hid (w1.ownsRow (w.heap.size + 1) 5 1 v1 (U.length + (tx x).length) (List.map V8 (U ++ tx x))) := hO1
      have hz1 : w.heap.size + 1 ≤ w1.heap.size := Nat.le_trans hzD hG1.by_.size
      have HAF := afour_any w1 (w.heap.size + 1) v1 (U.length + (tx x).length) (U ++ tx x) m hO1 hz1 (by omega) (by omega)
      have HNE1 := (show Hid (some w.heap.size ≠ v1.ownBlock) from own_far hO1 (by omega))
      clear hO1 hG1 HAT HNE HSD HBD HOD hzD
      refine hK.out _ _ HS1.out ?_
      clear hK KK
      try simp only [Act.put, List.setIfInBounds_toArray, List.set_cons_zero, List.set_cons_succ]
      refine heldOne 9 (by kernel_rfl) rfl (by rfl) (fun KK hK => ?_)
      go_simp
      go_at_call 70
      refine HAF.mono ?_
      rintro e w2 ⟨v2, rfl, hO2, hG2⟩
      have HB2 : Hid (Below w.heap.size w w2) := HB1.out.trans ((hG2.below HO1.out hz1).mono (by omega))
      have HX2 := (show Hid (Brow w2 w.heap.size [.bool lf, .slice a1 cs.length c1, .slice (some ⟨bk, fk, none⟩) ks.length c2, .slice (some ⟨bd, fd, none⟩) ds.length c3] 26) from HS1.out.1.grew hG2 HNE1.out)
      have HS2 : Hid ((fun W : World => Brow W w.heap.size [.bool lf, .slice a1 cs.length c1, .slice (some ⟨bk, fk, none⟩) ks.length c2, .slice (some ⟨bd, fd, none⟩) ds.length c3] 26 ∧ W.cell? ⟨bd, fd + (k + 1), none⟩ = some (.int .i64 (m : Int))) w2) := ⟨HX2.out, (HB2.out.cell (p := ⟨bd, fd + (k + 1), none⟩) hbd).trans HCM.out⟩
      have HO2 : Hid (w2.ownsRow (w.heap.size + 1) 5 1 v2 (U.length + (tx x).length + 4) (List.map V8 (U ++ tx x ++ four m 4))) := hO2
      clear hO2 hG2 HAF HNE1 HS1 HB1 HO1 hz1
      refine hK.out _ _ HS2.out ?_
      clear hK KK
      try simp only [Act.put, List.setIfInBounds_toArray, List.set_cons_zero, List.set_cons_succ]
      refine heldTake 10 (some 3) (v2) rfl rfl (by kernel_rfl) (by kernel_rfl) (by kernel_rfl) (fun _ _ _ h => h) (Or.inl ⟨by rfl, fun w hS => ?_⟩) HS2.out ?_
      · (go_simp)
      simp only [Act.put, List.setIfInBounds_toArray, List.set_cons_zero, List.set_cons_succ]
      refine wpAnyH_done (by kernel_rfl) ?_ _
      have HREL := (show Hid (∃ k' : Nat, k' ≤ ks.length ∧ Value.int .i64 ((k : Int) + 1) = .int .i64 k' ∧ w2.ownsRow (w.heap.size + 1) 5 1 v2 ([2, ks.length] ++ four d0 4 ++ bflat ks ds k').length (([2, ks.length] ++ four d0 4 ++ bflat ks ds k').map V8) ∧ Brow w2 w.heap.size [.bool lf, .slice a1 cs.length c1, .slice (some ⟨bk, fk, none⟩) ks.length c2, .slice (some ⟨bd, fd, none⟩) ds.length c3] 26 ∧ Below w.heap.size w w2) from ⟨k + 1, by omega, by go_num, by rw [← HU'.eq, HLN.eq, HFT.eq]; exact HO2.out, HX2.out, HB2.out⟩)
      clear HS2 HX2 HO2 HB2
      go_wp2_with fail
      go_roundw
      case rel => first | exact HREL.out | ((repeat apply Exists.intro); exact ⟨HREL.out, rfl⟩)
      case measure => (simp [intOf]) <;> omega
    · have hkl : ¬ (k : Int) < (ks.length : Int) := by omega
      have HKE : Is k ks.length := ⟨by omega⟩
      have HFN := (show Hid (wr.ownsRow w.heap.size 5 1 _ (bbytes ks ds).length ((bbytes ks ds).map V8)) from by
        have h5 := owns_base HO1.out (N := w.heap.size) (by omega)
        rw [HKE.eq, ← HBY.eq] at h5
        exact h5)
      go_wp2
      go_ret
      exact ⟨_, rfl, HFN.out, HB.out⟩
/- Encode -/
def nbytes (n : Nod) : List Nat := if n.leaf then lbytes n.cells else bbytes n.keys n.kids
def encE (n : Nod) : Int := if Sl.may n then (if sizeN n ≤ 500 then 0 else 3) else 2
def encS (n : Nod) : ByteArray := if Sl.may n && decide (sizeN n ≤ 500) then tb (nbytes n) else ⟨#[]⟩
theorem may_leaf {n : Nod} (h : Sl.may n = true) (hl : n.leaf = true) : (∀ c ∈ n.cells, celOk c = true) ∧ n.cells.length ≤ 255 ∧ Sl.rise (n.cells.map Cel.key) = true ∧ n.keys = [] ∧ n.kids = [] := by
  unfold Sl.may Sl.keysOf Sl.leafOk at h
  rw [if_pos hl, if_pos hl] at h
  simp only [Bool.and_eq_true, decide_eq_true_eq, List.length_map, List.all_map, List.all_eq_true, Function.comp] at h
  obtain ⟨h1, h2, h3, h4, h5, h6⟩ := h
  refine ⟨fun c hc => ?_, h1, h3, List.length_eq_zero_iff.1 h4, List.length_eq_zero_iff.1 h5⟩
  unfold celOk
  rw [h2 c hc, h6 c hc]; rfl
theorem may_branch {n : Nod} (h : Sl.may n = true) (hl : n.leaf = false) : (∀ k ∈ n.keys, Sl.isKey k = true) ∧ n.keys.length ≤ 255 ∧ Sl.rise n.keys = true ∧ n.cells = [] ∧ n.kids.length = n.keys.length + 1 ∧ ∀ d ∈ n.kids, Sl.isPage d = true := by
  unfold Sl.may Sl.keysOf Sl.branchOk at h
  rw [hl, if_neg (by simp), if_neg (by simp)] at h
  simp only [Bool.and_eq_true, decide_eq_true_eq, List.all_eq_true] at h
  obtain ⟨h1, h2, h3, h4, h5, h6⟩ := h
  exact ⟨h2, h1, h3, List.length_eq_zero_iff.1 h4, h5, h6⟩
theorem lbytes_lt {cs : List Cel} (h : ∀ c ∈ cs, celOk c = true) (hl : cs.length ≤ 255) : ∀ x ∈ lbytes cs, x < 256 := fun x hx => by
  have hfour : ∀ y k, ∀ z ∈ four y k, z < 256 := fun y k => by
    induction k with
    | zero => intro z hz; cases hz
    | succ k ih =>
      intro z hz
      rw [four, List.mem_append, List.mem_singleton] at hz
      rcases hz with hz | rfl
      · exact ih z hz
      · exact Nat.mod_lt _ (by omega)
  have htx : ∀ s : ByteArray, s.size ≤ 255 → ∀ z ∈ tx s, z < 256 := fun s hs z hz => by
    unfold tx at hz
    rcases List.mem_cons.1 hz with rfl | hz
    · omega
    · exact bl_lt s z hz
  unfold lbytes at hx
  rcases List.mem_cons.1 hx with rfl | hx
  · omega
  rcases List.mem_cons.1 hx with rfl | hx
  · omega
  obtain ⟨c, hc, hx⟩ := List.mem_flatMap.1 hx
  unfold cbytes at hx
  split at hx
  · rename_i h0
    have := celOk_plain (h c hc) h0
    rw [List.mem_append, List.mem_cons] at hx
    rcases hx with hx | rfl | hx
    · exact htx _ (by omega) x hx
    · omega
    · exact htx _ (by omega) x hx
  · rename_i h0
    have := celOk_over (h c hc) h0
    rw [List.mem_append, List.mem_cons, List.mem_append] at hx
    rcases hx with hx | rfl | hx | hx
    · exact htx _ (by omega) x hx
    · omega
    · exact hfour _ _ x hx
    · exact hfour _ _ x hx
theorem bbytes_lt {ks : List ByteArray} {ds : List Int} (h : ∀ k ∈ ks, k.size ≤ 140) (hl : ks.length ≤ 255) : ∀ x ∈ bbytes ks ds, x < 256 := fun x hx => by
  have hfour : ∀ y k, ∀ z ∈ four y k, z < 256 := fun y k => by
    induction k with
    | zero => intro z hz; cases hz
    | succ k ih =>
      intro z hz
      rw [four, List.mem_append, List.mem_singleton] at hz
      rcases hz with hz | rfl
      · exact ih z hz
      · exact Nat.mod_lt _ (by omega)
  have hfl : ∀ k, k ≤ ks.length → ∀ z ∈ bflat ks ds k, z < 256 := fun k => by
    induction k with
    | zero => intro _ z hz; cases hz
    | succ k ih =>
      intro hk z hz
      rw [bflat, List.mem_append] at hz
      rcases hz with hz | hz
      · exact ih (by omega) z hz
      · unfold bpart tx at hz
        rw [List.mem_append, List.mem_cons] at hz
        rcases hz with (rfl | hz) | hz
        · have := h _ (Sl.getD_mem ks k ByteArray.empty (by omega)); omega
        · exact bl_lt _ z hz
        · exact hfour _ _ z hz
  unfold bbytes at hx
  rcases List.mem_cons.1 hx with rfl | hx
  · omega
  rcases List.mem_cons.1 hx with rfl | hx
  · omega
  rcases List.mem_append.1 hx with hx | hx
  · exact hfour _ _ x hx
  · exact hfl _ (Nat.le_refl _) x hx
end Go.Proofs.Ytoinaplmgffkpaa
