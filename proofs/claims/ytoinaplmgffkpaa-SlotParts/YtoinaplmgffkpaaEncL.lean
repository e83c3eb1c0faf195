/- Proved: the bytes of a leaf, as slot's leafBytes answers them (stage 11). -/
import Derived.Test.YtoinaplmgffkpaaEnc
namespace Go.Proofs.Ytoinaplmgffkpaa
open Go.RowKit
open Sl (Cel Nod)
def cbytes (c : Cel) : List Nat := if c.over = 0 then tx c.key ++ (0 :: tx c.val) else tx c.key ++ (1 :: (four c.len.toNat 4 ++ four c.over.toNat 4))
def lbytes (cs : List Cel) : List Nat := 1 :: cs.length :: cs.flatMap cbytes
def celOk (c : Cel) : Bool := Sl.isKey c.key && Sl.valOk c
theorem celOk_plain {c : Cel} (h : celOk c = true) (h0 : c.over = 0) : c.key.size ≤ 140 ∧ c.val.size ≤ 157 ∧ 1 ≤ c.key.size ∧ c.key.size + c.val.size ≤ 157 ∧ c.len = 0 := by
  unfold celOk Sl.isKey Sl.valOk at h
  rw [if_pos h0] at h
  simp only [Bool.and_eq_true, decide_eq_true_eq] at h
  omega
theorem celOk_over {c : Cel} (h : celOk c = true) (h0 : ¬ c.over = 0) : c.key.size ≤ 140 ∧ 1 ≤ c.key.size ∧ 1 ≤ c.over ∧ c.over ≤ 2147483647 ∧ 0 ≤ c.len ∧ c.len ≤ 16384 ∧ c.val = ByteArray.empty := by
  unfold celOk Sl.isKey Sl.valOk Sl.isPage at h
  rw [if_neg h0] at h
  simp only [Bool.and_eq_true, decide_eq_true_eq] at h
  exact ⟨h.1.2, h.1.1, h.2.1.1, h.2.1.2, h.2.2.1, h.2.2.2.1, h.2.2.2.2⟩
theorem tx_length (s : ByteArray) : (tx s).length = s.size + 1 := by unfold tx; rw [List.length_cons, bl_length]
theorem cbytes_length (c : Cel) : (cbytes c).length = csize c := by
  unfold cbytes csize
  split
  · rw [List.length_append, List.length_cons, tx_length, tx_length]; omega
  · rw [List.length_append, List.length_cons, List.length_append, tx_length, four_length, four_length]; omega
theorem celOk_size {c : Cel} (h : celOk c = true) : csize c ≤ 160 := by
  unfold csize
  split
  · rename_i h0
    have := celOk_plain h h0
    omega
  · rename_i h0
    have := celOk_over h h0
    omega
theorem flat_take (cs : List Cel) (k : Nat) (h : k < cs.length) : (cs.take (k + 1)).flatMap cbytes = (cs.take k).flatMap cbytes ++ cbytes (cs.getD k Sl.cel0) := by
  rw [Sl.take_more cs k Sl.cel0 h, List.flatMap_append]; simp
theorem flat_len {cs : List Cel} (h : ∀ c ∈ cs, celOk c = true) : (cs.flatMap cbytes).length ≤ cs.length * 160 := by
  induction cs with
  | nil => simp
  | cons c cs ih =>
    have h1 := celOk_size (h c (by simp))
    have h2 := ih (fun x hx => h x (by simp [hx]))
    rw [List.flatMap_cons, List.length_append, cbytes_length, List.length_cons]
    omega
theorem CelAt.alloc {w : World} {b off : Nat} {c : Cel} (h : CelAt w b off c) (hb : b < w.heap.size) (o : Obj) : CelAt (w.alloc o) b off c := h.below (below_alloc w o) hb
theorem CelAt.grew {w w' : World} {v v' : Value} {b off : Nat} {c : Cel} (h : CelAt w b off c) (G : Grew w v w' v') (hne : some b ≠ v.ownBlock) : CelAt w' b off c :=
  ⟨G.cell h.key hne, G.cell h.val hne, G.cell h.over hne, G.cell h.len hne⟩
theorem owns_base {w : World} {N M n : Nat} {v : Value} {vs : List Value} {e : TypeId} {k : Nat} (h : w.ownsRow M e k v n vs) (hN : N ≤ M) : w.ownsRow N e k v n vs := by
  obtain ⟨h0, h1⟩ := h
  refine ⟨h0, ?_⟩
  rcases h1 with h1 | ⟨g, cap', cur, hv, hM, r⟩
  · exact .inl h1
  · exact .inr ⟨g, cap', cur, hv, Nat.le_trans hN hM, r⟩
theorem two_own (w : World) (z1 z2 : Int) (a b : Nat) (h1 : z1 = (a : Int)) (h2 : z2 = (b : Int)) : (w.alloc (.cells #[.int .u8 z1, .int .u8 z2] 5)).ownsRow w.heap.size 5 1 (.slice (some ⟨w.heap.size, 0, none⟩) 2 2) 2 ([a, b].map V8) := by
  subst h1 h2
  exact ⟨rfl, .inr ⟨w.heap.size, 2, _, rfl, Nat.le_refl _, heap_alloc_new w _, Nat.le_refl _, by unfold maxLen; omega, rfl, rfl⟩⟩
set_option maxHeartbeats 4000000 in
theorem lbytes_any (n : Nod) (p : Pt) (w : World) (hN : Lies w n p) (hc : ∀ c ∈ n.cells, celOk c = true) (hl : n.cells.length ≤ 255) :
    Calls Try.prog 45 #[nv n p] w fun e w' => ∃ v, e = .returned v ∧ w'.ownsRow w.heap.size 5 1 v (lbytes n.cells).length ((lbytes n.cells).map V8) ∧ Below w.heap.size w w' := by
  have HL : Hid (Lies w n p) := hN
  have HB0 : Hid (Below w.heap.size w (boxN w n p)) := below_alloc _ _
  have hs0 : (boxN w n p).heap.size = w.heap.size + 1 := size_alloc1 _ _
  obtain ⟨lf, cs, ks, ds⟩ := n
  obtain ⟨a1, c1, a2, c2, a3, c3⟩ := p
  unfold nv
  unfold boxN at HB0 hs0
  simp only at HB0 hs0 hc hl ⊢
  have HC := (show Hid (∀ c ∈ cs, celOk c = true) from hc)
  have HLE := (show Hid (∀ k, ((cs.take k).flatMap cbytes).length ≤ 40800) from fun k => by
    have := flat_len (cs := cs.take k) (fun c h => hc c (List.mem_of_mem_take h))
    rw [List.length_take] at this
    omega)
  clear hN hc
  have i0 : ((cs.length : Nat) : Int) ≤ 255 := by omega
  have i1 : ((cs.length : Nat) : Int) % 256 = (cs.length : Int) := by omega
  have HO0 := (show Hid _ from two_own (w.alloc (.cells #[.bool lf, .slice a1 cs.length c1, .slice a2 ks.length c2, .slice a3 ds.length c3] 26)) 1 (cs.length : Int) 1 cs.length rfl rfl)
  have HB1 : Hid (Below w.heap.size w ((w.alloc (.cells #[.bool lf, .slice a1 cs.length c1, .slice a2 ks.length c2, .slice a3 ds.length c3] 26)).alloc (.cells #[.int .u8 1, .int .u8 (cs.length : Int)] 5))) := HB0.out.alloc (by omega) _
  rw [hs0] at HO0
  go_enter Try.func45, Try.ntmps45
  go_wp2_with fail
  generalize ((w.alloc (.cells #[.bool lf, .slice a1 cs.length c1, .slice a2 ks.length c2, .slice a3 ds.length c3] 26)).alloc (.cells #[.int .u8 1, .int .u8 (cs.length : Int)] 5)) = w0 at *
  clear HB0 hs0
  go_loopw [3, 14] (fun s3 s14 wr => ∃ k : Nat, k ≤ cs.length ∧ s14 = .int .i64 k ∧ wr.ownsRow w.heap.size 5 1 s3 (1 :: cs.length :: (cs.take k).flatMap cbytes).length ((1 :: cs.length :: (cs.take k).flatMap cbytes).map V8) ∧ Below w.heap.size w wr) (fun _ s14 _ => cs.length - (intOf s14).toNat)
  case atStart => exact ⟨0, by omega, rfl, owns_base HO0.out (by omega), HB1.out⟩
  case round =>
    obtain ⟨k, hk, rfl, hO, hB⟩ := hrel
    have HO1 := (show Hid (wr.ownsRow w.heap.size 5 1 _ (1 :: cs.length :: (cs.take k).flatMap cbytes).length ((1 :: cs.length :: (cs.take k).flatMap cbytes).map V8)) from hO)
    have HB := (show Hid (Below w.heap.size w wr) from hB)
    have hz := hB.size
    have hle := HLE.out k
    clear hO hB HO0 HB1
    by_cases hlt : k < cs.length
    · obtain ⟨b, off, ha1, hb, hcl⟩ := HL.out.r1.cell (Nat.lt_of_le_of_lt (Nat.zero_le _) hlt)
      simp only at ha1
      subst ha1
      obtain ⟨q0, q1, q2, q3⟩ := (hcl k hlt).below HB.out hb
      have i2 : decide ((k : Int) < (cs.length : Int)) = true := decide_eq_true (by omega)
      have hok := HC.out _ (Sl.getD_mem cs k Sl.cel0 hlt)
      obtain ⟨U', HU'⟩ : ∃ U', Is U' (1 :: cs.length :: (cs.take (k + 1)).flatMap cbytes) := ⟨_, ⟨rfl⟩⟩
      have HFT : Is U' ((1 :: cs.length :: (cs.take k).flatMap cbytes) ++ cbytes (cs.getD k Sl.cel0)) := ⟨by rw [HU'.eq, flat_take cs k hlt]; rfl⟩
      have hlen : (1 :: cs.length :: (cs.take k).flatMap cbytes).length ≤ 40802 := by simp only [List.length_cons]; omega
      clear hcl hle HL
      generalize cs.getD k Sl.cel0 = x at *
      generalize 1 :: cs.length :: (cs.take k).flatMap cbytes = U at *
      obtain ⟨xk, xx, xo, xl⟩ := x
      simp only at q0 q1 q2 q3
      have hksz : xk.size ≤ 140 := by
        by_cases h0 : xo = 0
        · exact (celOk_plain hok h0).1
        · exact (celOk_over hok h0).1
      have HCA : Hid (CelAt (wr.alloc (.cells #[.string xk, .string xx, .int .i64 xo, .int .i64 xl] 28)) wr.heap.size 0 ⟨xk, xx, xo, xl⟩) := boxC_at wr ⟨xk, xx, xo, xl⟩
      have HNE := (show Hid (some wr.heap.size ≠ _) from own_ne HO1.out (Nat.le_refl _))
      have HAT := atext_any (wr.alloc (.cells #[.string xk, .string xx, .int .i64 xo, .int .i64 xl] 28)) w.heap.size _ U.length U xk (own_alloc8 HO1.out _) (by rw [size_alloc1]; omega) (by omega) (by omega)
      go_wp2_with fail
      refine HAT.mono ?_
      rintro e w1 ⟨v1, rfl, hO1, hG1⟩
      have HO2 := (show Hid (w1.ownsRow w.heap.size 5 1 v1 (U.length + (tx xk).length) ((U ++ tx xk).map V8)) from hO1)
      have HG1 := (show Hid (Grew wr _ w1 v1) from ((Grew.refl wr _).alloc _).trans hG1)
      have HC1 : Hid (CelAt w1 wr.heap.size 0 ⟨xk, xx, xo, xl⟩) := HCA.out.grew hG1 HNE.out
      have HN1 : Hid (some wr.heap.size ≠ v1.ownBlock) := hG1.ne HNE.out (by rw [size_alloc1]; omega)
      have hz1 : wr.heap.size + 1 ≤ w1.heap.size := by have := hG1.by_.size; rw [size_alloc1] at this; exact this
      clear hO1 hG1 HAT HCA HNE q0 q1 q2 q3
      obtain ⟨y0, y1, y2, y3⟩ := HC1.out
      simp only [Nat.zero_add] at y0 y1 y2 y3
      have htl := tx_length xk
      by_cases h0 : xo = 0
      · subst h0
        obtain ⟨_, hxs, _, _, _⟩ := celOk_plain hok rfl
        have HCB : Is (U ++ cbytes ⟨xk, xx, 0, xl⟩) (U ++ tx xk ++ [0] ++ tx xx) := ⟨by unfold cbytes; rw [if_pos rfl]; simp⟩
        have HLN : Is U'.length (U.length + (tx xk).length + 1 + (tx xx).length) := ⟨by rw [HFT.eq, HCB.eq]; simp only [List.length_append, List.length_singleton]⟩
        go_upto_region 7 with fail
        have HSD : Hid ((fun W : World => CelAt W wr.heap.size 0 ⟨xk, xx, 0, xl⟩) w1.drew) := HC1.out.below ((Below.refl w1.heap.size _).drew) (by omega)
        refine wp_region_held_drew (S := (fun W : World => CelAt W wr.heap.size 0 ⟨xk, xx, 0, xl⟩)) (by kernel_rfl) HSD.out (fun _ => ?_)
        have HOD := (show Hid (w1.drew.ownsRow w.heap.size 5 1 v1 (U.length + (tx xk).length) ((U ++ tx xk).map V8)) from own_below HO2.out (Below.refl _ _).drew)
        have HGD := (show Hid (Grew wr _ w1.drew v1) from HG1.out.drew)
        have hzD : wr.heap.size + 1 ≤ w1.drew.heap.size := hz1
        generalize w1.drew = wd at *
        clear HC1 HO2 HG1 y0 y1 y2 y3 hz1
        have HCE := (show Hid (∀ j u, ([0].map V8)[j]? = some u → (wd.alloc (.cells #[.int .u8 0] 5)).cell? ((⟨wd.heap.size, 0, none⟩ : Addr).add j) = some u) from one_cells wd _ 0 rfl)
        have HSA : Hid ((fun W : World => CelAt W wr.heap.size 0 ⟨xk, xx, 0, xl⟩) (wd.alloc (.cells #[.int .u8 0] 5))) := HSD.out.alloc (by omega) _
        refine heldTake 0 (some 25) (v1) rfl rfl (by kernel_rfl) (by kernel_rfl) (by kernel_rfl) (fun _ _ _ h => h) (Or.inl ⟨by rfl, fun w hS => ?_⟩) HSD.out ?_
        · (go_simp)
        simp only [Act.put, List.setIfInBounds_toArray, List.set_cons_zero, List.set_cons_succ]
        refine heldTake 3 (some 28) (.pointer (some ⟨wr.heap.size, 1, none⟩)) rfl rfl (by kernel_rfl) (by kernel_rfl) (by kernel_rfl) (fun _ _ _ h => h) (Or.inl ⟨by rfl, fun w hS => ?_⟩) HSD.out ?_
        · (go_simp)
        simp only [Act.put, List.setIfInBounds_toArray, List.set_cons_zero, List.set_cons_succ]
        refine heldTake 4 (some 29) (.string xx) rfl rfl (by kernel_rfl) (by kernel_rfl) (by kernel_rfl) (fun _ _ _ h => h) (Or.inl ⟨by rfl, fun w hS => ?_⟩) HSD.out ?_
        · (have q := hS.val; simp only [Nat.zero_add] at q; go_simp)
        simp only [Act.put, List.setIfInBounds_toArray, List.set_cons_zero, List.set_cons_succ]
        refine heldOne 1 (by kernel_rfl) rfl (by rfl) (fun KK hK => ?_)
        go_simp
        refine hK.out _ _ HSA.out ?_
        clear hK KK
        try simp only [Act.put, List.setIfInBounds_toArray, List.set_cons_zero, List.set_cons_succ]
        refine heldOne 2 (by kernel_rfl) rfl (by rfl) (fun KK hK => ?_)
        refine step_bytes (some 27) rfl (.tmp 25) (.tmp 26) rfl w.heap.size _ (U.length + (tx xk).length) (U ++ tx xk) rfl (own_alloc8 HOD.out _) ⟨wd.heap.size, 0, none⟩ 1 1 [0] rfl rfl HCE.out (by omega) (by rw [size_alloc1]; omega) ?_
        intro v2 w2 hO2 hG2
        have HO3 : Hid (w2.ownsRow w.heap.size 5 1 v2 (U.length + (tx xk).length + 1) (List.map V8 (U ++ tx xk ++ [0]))) := hO2
        have HG3 := (show Hid (Grew wr _ w2 v2) from HGD.out.trans (((Grew.refl wd _).alloc _).trans hG2))
        have HS3 : Hid ((fun W : World => CelAt W wr.heap.size 0 ⟨xk, xx, 0, xl⟩) w2) := HSA.out.grew hG2 HN1.out
        have hz3 : wd.heap.size + 1 ≤ w2.heap.size := by have := hG2.by_.size; rw [size_alloc1] at this; exact this
        have HAT := atext_any w2 w.heap.size v2 (U.length + (tx xk).length + 1) (U ++ tx xk ++ [0]) xx hO2 (by omega) (by omega) (by omega)
        have HN3 : Hid (some wr.heap.size ≠ v2.ownBlock) := hG2.ne HN1.out (by rw [size_alloc1]; omega)
        clear hO2 hG2 HOD HGD HSA HCE HN1
        refine hK.out _ _ HS3.out ?_
        clear hK KK
        try simp only [Act.put, List.setIfInBounds_toArray, List.set_cons_zero, List.set_cons_succ]
        refine heldOne 5 (by kernel_rfl) rfl (by rfl) (fun KK hK => ?_)
        go_simp
        go_at_call 69
        refine HAT.mono ?_
        rintro e w4 ⟨v4, rfl, hO4, hG4⟩
        have HOZ : Hid (w4.ownsRow w.heap.size 5 1 v4 (U.length + (tx xk).length + 1 + (tx xx).length) (List.map V8 (U ++ tx xk ++ [0] ++ tx xx))) := hO4
        have HGZ := (show Hid (Grew wr _ w4 v4) from HG3.out.trans hG4)
        have HS4 : Hid ((fun W : World => CelAt W wr.heap.size 0 ⟨xk, xx, 0, xl⟩) w4) := HS3.out.grew hG4 HN3.out
        clear hO4 hG4 HO3 HG3 HS3 HAT
        refine hK.out _ _ HS4.out ?_
        clear hK KK
        try simp only [Act.put, List.setIfInBounds_toArray, List.set_cons_zero, List.set_cons_succ]
        refine heldTake 6 (some 3) (v4) rfl rfl (by kernel_rfl) (by kernel_rfl) (by kernel_rfl) (fun _ _ _ h => h) (Or.inl ⟨by rfl, fun w hS => ?_⟩) HS4.out ?_
        · (go_simp)
        simp only [Act.put, List.setIfInBounds_toArray, List.set_cons_zero, List.set_cons_succ]
        refine wpAnyH_done (by kernel_rfl) ?_ _
        have HREL := (show Hid (∃ k' : Nat, k' ≤ cs.length ∧ Value.int .i64 ((k : Int) + 1) = .int .i64 k' ∧ w4.ownsRow w.heap.size 5 1 v4 (1 :: cs.length :: (cs.take k').flatMap cbytes).length ((1 :: cs.length :: (cs.take k').flatMap cbytes).map V8) ∧ Below w.heap.size w w4) from ⟨k + 1, by omega, by go_num, by rw [← HU'.eq, HLN.eq, HFT.eq, HCB.eq]; exact HOZ.out, HB.out.trans ((HGZ.out.below HO1.out hz).mono (Nat.le_refl _))⟩)
        go_wp2_with fail
        go_roundw
        case rel => first | exact HREL.out | ((repeat apply Exists.intro); exact ⟨HREL.out, rfl⟩)
        case measure => (simp [intOf]) <;> omega
      · obtain ⟨_, _, ho1, ho2, hl1, hl2, _⟩ := celOk_over hok h0
        simp only at ho1 ho2 hl1 hl2
        obtain ⟨o, rfl⟩ := Int.eq_ofNat_of_zero_le (show 0 ≤ xo by omega)
        obtain ⟨m, rfl⟩ := Int.eq_ofNat_of_zero_le hl1
        have HCB : Is (U ++ cbytes ⟨xk, xx, (o : Int), (m : Int)⟩) (U ++ tx xk ++ [1] ++ four m 4 ++ four o 4) := ⟨by unfold cbytes; rw [if_neg h0]; simp⟩
        have HLN : Is U'.length (U.length + (tx xk).length + 1 + 4 + 4) := ⟨by rw [HFT.eq, HCB.eq]; simp only [List.length_append, List.length_singleton, four_length]⟩
        have h0' : (((o : Nat) : Int) == 0) = false := by simpa using h0
        go_upto_region 8 with fail
        have HSD : Hid ((fun W : World => CelAt W wr.heap.size 0 ⟨xk, xx, (o : Int), (m : Int)⟩) w1.drew) := HC1.out.below ((Below.refl w1.heap.size _).drew) (by omega)
        refine wp_region_held_drew (S := (fun W : World => CelAt W wr.heap.size 0 ⟨xk, xx, (o : Int), (m : Int)⟩)) (by kernel_rfl) HSD.out (fun _ => ?_)
        have HOD := (show Hid (w1.drew.ownsRow w.heap.size 5 1 v1 (U.length + (tx xk).length) ((U ++ tx xk).map V8)) from own_below HO2.out (Below.refl _ _).drew)
        have HGD := (show Hid (Grew wr _ w1.drew v1) from HG1.out.drew)
        have hzD : wr.heap.size + 1 ≤ w1.drew.heap.size := hz1
        generalize w1.drew = wd at *
        clear HC1 HO2 HG1 y0 y1 y2 y3 hz1
        have HCE := (show Hid (∀ j u, ([1].map V8)[j]? = some u → (wd.alloc (.cells #[.int .u8 1] 5)).cell? ((⟨wd.heap.size, 0, none⟩ : Addr).add j) = some u) from one_cells wd _ 1 rfl)
        have HSA : Hid ((fun W : World => CelAt W wr.heap.size 0 ⟨xk, xx, (o : Int), (m : Int)⟩) (wd.alloc (.cells #[.int .u8 1] 5))) := HSD.out.alloc (by omega) _
        refine heldTake 0 (some 31) (v1) rfl rfl (by kernel_rfl) (by kernel_rfl) (by kernel_rfl) (fun _ _ _ h => h) (Or.inl ⟨by rfl, fun w hS => ?_⟩) HSD.out ?_
        · (go_simp)
        simp only [Act.put, List.setIfInBounds_toArray, List.set_cons_zero, List.set_cons_succ]
        refine heldTake 3 (some 34) (.pointer (some ⟨wr.heap.size, 3, none⟩)) rfl rfl (by kernel_rfl) (by kernel_rfl) (by kernel_rfl) (fun _ _ _ h => h) (Or.inl ⟨by rfl, fun w hS => ?_⟩) HSD.out ?_
        · (go_simp)
        simp only [Act.put, List.setIfInBounds_toArray, List.set_cons_zero, List.set_cons_succ]
        refine heldTake 4 (some 35) (.int .i64 (m : Int)) rfl rfl (by kernel_rfl) (by kernel_rfl) (by kernel_rfl) (fun _ _ _ h => h) (Or.inl ⟨by rfl, fun w hS => ?_⟩) HSD.out ?_
        · (have q := hS.len; simp only [Nat.zero_add] at q; go_simp)
        simp only [Act.put, List.setIfInBounds_toArray, List.set_cons_zero, List.set_cons_succ]
        refine heldTake 6 (some 37) (.pointer (some ⟨wr.heap.size, 2, none⟩)) rfl rfl (by kernel_rfl) (by kernel_rfl) (by kernel_rfl) (fun _ _ _ h => h) (Or.inl ⟨by rfl, fun w hS => ?_⟩) HSD.out ?_
        · (go_simp)
        simp only [Act.put, List.setIfInBounds_toArray, List.set_cons_zero, List.set_cons_succ]
        refine heldTake 7 (some 38) (.int .i64 (o : Int)) rfl rfl (by kernel_rfl) (by kernel_rfl) (by kernel_rfl) (fun _ _ _ h => h) (Or.inl ⟨by rfl, fun w hS => ?_⟩) HSD.out ?_
        · (have q := hS.over; simp only [Nat.zero_add] at q; go_simp)
        simp only [Act.put, List.setIfInBounds_toArray, List.set_cons_zero, List.set_cons_succ]
        refine heldOne 1 (by kernel_rfl) rfl (by rfl) (fun KK hK => ?_)
        go_simp
        refine hK.out _ _ HSA.out ?_
        clear hK KK
        try simp only [Act.put, List.setIfInBounds_toArray, List.set_cons_zero, List.set_cons_succ]
        refine heldOne 2 (by kernel_rfl) rfl (by rfl) (fun KK hK => ?_)
        refine step_bytes (some 33) rfl (.tmp 31) (.tmp 32) rfl w.heap.size _ (U.length + (tx xk).length) (U ++ tx xk) rfl (own_alloc8 HOD.out _) ⟨wd.heap.size, 0, none⟩ 1 1 [1] rfl rfl HCE.out (by omega) (by rw [size_alloc1]; omega) ?_
        intro v2 w2 hO2 hG2
        have HG3 := (show Hid (Grew wr _ w2 v2) from HGD.out.trans (((Grew.refl wd _).alloc _).trans hG2))
        have HS3 : Hid ((fun W : World => CelAt W wr.heap.size 0 ⟨xk, xx, (o : Int), (m : Int)⟩) w2) := HSA.out.grew hG2 HN1.out
        have hz3 : wd.heap.size + 1 ≤ w2.heap.size := by have := hG2.by_.size; rw [size_alloc1] at this; exact this
        have HAF := afour_any w2 w.heap.size v2 (U.length + (tx xk).length + 1) (U ++ tx xk ++ [1]) m hO2 (by omega) (by omega) (by omega)
        have HN3 : Hid (some wr.heap.size ≠ v2.ownBlock) := hG2.ne HN1.out (by rw [size_alloc1]; omega)
        clear hO2 hG2 HOD HGD HSA HCE HN1
        refine hK.out _ _ HS3.out ?_
        clear hK KK
        try simp only [Act.put, List.setIfInBounds_toArray, List.set_cons_zero, List.set_cons_succ]
        refine heldOne 5 (by kernel_rfl) rfl (by rfl) (fun KK hK => ?_)
        go_simp
        go_at_call 70
        refine HAF.mono ?_
        rintro e w4 ⟨v4, rfl, hO4, hG4⟩
        have HG4 := (show Hid (Grew wr _ w4 v4) from HG3.out.trans hG4)
        have HS4 : Hid ((fun W : World => CelAt W wr.heap.size 0 ⟨xk, xx, (o : Int), (m : Int)⟩) w4) := HS3.out.grew hG4 HN3.out
        have HN4 : Hid (some wr.heap.size ≠ v4.ownBlock) := hG4.ne HN3.out (by omega)
        have hz4 : w2.heap.size ≤ w4.heap.size := hG4.by_.size
        have HAF2 := afour_any w4 w.heap.size v4 (U.length + (tx xk).length + 1 + 4) (U ++ tx xk ++ [1] ++ four m 4) o hO4 (by omega) (by omega) (by omega)
        clear hO4 hG4 HG3 HS3 HAF
        refine hK.out _ _ HS4.out ?_
        clear hK KK
        try simp only [Act.put, List.setIfInBounds_toArray, List.set_cons_zero, List.set_cons_succ]
        refine heldOne 8 (by kernel_rfl) rfl (by rfl) (fun KK hK => ?_)
        go_simp
        go_at_call 70
        refine HAF2.mono ?_
        rintro e w5 ⟨v5, rfl, hO5, hG5⟩
        have HOZ : Hid (w5.ownsRow w.heap.size 5 1 v5 (U.length + (tx xk).length + 1 + 4 + 4) (List.map V8 (U ++ tx xk ++ [1] ++ four m 4 ++ four o 4))) := hO5
        have HGZ := (show Hid (Grew wr _ w5 v5) from HG4.out.trans hG5)
        have HS5 : Hid ((fun W : World => CelAt W wr.heap.size 0 ⟨xk, xx, (o : Int), (m : Int)⟩) w5) := HS4.out.grew hG5 HN4.out
        clear hO5 hG5 HG4 HS4 HAF2
        refine hK.out _ _ HS5.out ?_
        clear hK KK
        try simp only [Act.put, List.setIfInBounds_toArray, List.set_cons_zero, List.set_cons_succ]
        refine heldTake 9 (some 3) (v5) rfl rfl (by kernel_rfl) (by kernel_rfl) (by kernel_rfl) (fun _ _ _ h => h) (Or.inl ⟨by rfl, fun w hS => ?_⟩) HS5.out ?_
        · (go_simp)
        simp only [Act.put, List.setIfInBounds_toArray, List.set_cons_zero, List.set_cons_succ]
        refine wpAnyH_done (by kernel_rfl) ?_ _
        have HREL := (show Hid (∃ k' : Nat, k' ≤ cs.length ∧ Value.int .i64 ((k : Int) + 1) = .int .i64 k' ∧ w5.ownsRow w.heap.size 5 1 v5 (1 :: cs.length :: (cs.take k').flatMap cbytes).length ((1 :: cs.length :: (cs.take k').flatMap cbytes).map V8) ∧ Below w.heap.size w w5) from ⟨k + 1, by omega, by go_num, by rw [← HU'.eq, HLN.eq, HFT.eq, HCB.eq]; exact HOZ.out, HB.out.trans ((HGZ.out.below HO1.out hz).mono (Nat.le_refl _))⟩)
        go_wp2_with fail
        go_roundw
        case rel => first | exact HREL.out | ((repeat apply Exists.intro); exact ⟨HREL.out, rfl⟩)
        case measure => (simp [intOf]) <;> omega
    · have hkl : ¬ (k : Int) < (cs.length : Int) := by omega
      have HFN := (show Hid (wr.ownsRow w.heap.size 5 1 _ (lbytes cs).length ((lbytes cs).map V8)) from by
        have h5 := HO1.out
        rw [List.take_of_length_le (by omega)] at h5
        exact h5)
      go_wp2
      go_ret
      exact ⟨_, rfl, HFN.out, HB.out⟩
end Go.Proofs.Ytoinaplmgffkpaa
