/- Proved: FieldCuts' walk: a record's bytes, cut within its last field, are none; two records' bytes are one's just if its tags do not fall there. -/
import Derived.Test.YtpbobmhffdmmmaaMathE
import Derived.Test.YtpbobmhffdmmmaaReg
namespace Go.Proofs.Ytpbobmhffdmmmaa
open Go.RowKit
theorem bl_extract (s : ByteArray) (k : Nat) : bl (s.extract 0 k) = (bl s).take k := by
  unfold bl
  rw [ByteArray.data_extract, Array.toList_extract, List.map_take]
  simp
theorem bl_append (s t : ByteArray) : bl (s ++ t) = bl s ++ bl t := by
  unfold bl
  rw [ByteArray.data_append, Array.toList_append, List.map_append]
theorem FieldsL.take {w : World} {a : Option Addr} {len : Nat} {fs : List Fv} (h : FieldsL w a len fs) (n : Nat) (hn : n ≤ len) : FieldsL w a n (fs.take n) := by
  have hl := h.1
  refine ⟨by rw [List.length_take]; omega, fun f hf => h.2.1 f (List.mem_of_mem_take hf), ?_⟩
  rcases h.2.2 with h0 | ⟨b, off, e, hc⟩
  · exact .inl (by omega)
  · refine .inr ⟨b, off, e, fun i hi => ?_⟩
    have := hc i (by omega)
    rwa [show (fs.take n).getD i fv0 = fs.getD i fv0 by rw [List.getD_eq_getElem?_getD, List.getD_eq_getElem?_getD, List.getElem?_take_of_lt hi]]
/- a record without its last field -/
theorem dec_init {gs : List Fv} {x : Fv} (h : encE (gs ++ [x]) = 0) : encE gs = 0 := by
  have hd := enc_dec h
  refine dec_enc (bs := enc gs) ⟨?_, fun f hf => hd.good f (List.mem_append_left _ hf), ?_, rfl⟩
  · have h1 := hd.len
    rw [enc_app, List.length_append] at h1
    omega
  · have h1 := hd.up
    rw [List.map_append] at h1
    exact up_left _ _ h1
theorem dec_cut {gs : List Fv} {x : Fv} (h : encE (gs ++ [x]) = 0) (k : Nat) (h0 : 0 < k) (hk : k < (Fi.fb (fd x)).length) : ∀ l, ¬ Dec (enc gs ++ (Fi.fb (fd x)).take k) l := fun l hd => by
  have hg := (enc_dec h).good
  refine Fi.cut_none (hg x (List.mem_append_right _ List.mem_cons_self)).ok k h0 hk (gs.map fd) (l.map fd) ?_ ?_ hd.eq
  · intro y hy
    obtain ⟨f, hf, rfl⟩ := List.mem_map.1 hy
    exact (hg f (List.mem_append_left _ hf)).ok
  · intro y hy
    obtain ⟨f, hf, rfl⟩ := List.mem_map.1 hy
    exact (hd.good f hf).ok
theorem dec_two {gs hs : List Fv} {x y : Fv} (h1 : encE (gs ++ [x]) = 0) (h2 : encE (y :: hs) = 0) (hl : (enc (gs ++ [x])).length + (enc (y :: hs)).length ≤ 65536) : (∃ l, Dec (enc (gs ++ [x]) ++ enc (y :: hs)) l) ↔ x.tag ≤ y.tag := by
  have d1 := enc_dec h1
  have d2 := enc_dec h2
  have gx := d1.good x (List.mem_append_right _ List.mem_cons_self)
  have gy := d2.good y List.mem_cons_self
  have hall : ∀ f ∈ (gs ++ [x]) ++ (y :: hs), Good f := fun f hf => (List.mem_append.1 hf).elim (d1.good f) (d2.good f)
  have hu : Fi.Up (((gs ++ [x]) ++ (y :: hs)).map fd) ↔ (fd x).tag ≤ (fd y).tag := by
    have e := Fi.up_append (gs.map fd) (hs.map fd) (fd x) (fd y) (by have := d1.up; rwa [List.map_append] at this) d2.up
    rw [List.map_append, List.map_append]
    exact e
  have ht : (fd x).tag ≤ (fd y).tag ↔ x.tag ≤ y.tag := by
    have := gx.tag1; have := gy.tag1
    show x.tag.toNat ≤ y.tag.toNat ↔ _
    omega
  rw [← ht, ← hu]
  constructor
  · rintro ⟨l, hd⟩
    have e : l = (gs ++ [x]) ++ (y :: hs) := enc_one hd.good hall (by rw [hd.eq, enc_app (gs ++ [x])])
    have := hd.up
    rwa [e] at this
  · intro h
    exact ⟨_, by rw [List.length_append]; exact hl, hall, h, enc_app _ _⟩
set_option maxHeartbeats 2000000 in
set_option maxRecDepth 20000 in
theorem cuts_walk (a : Option Addr) (len cap : Nat) (b : Option Addr) (len2 cap2 : Nat) (z : Int) (w : World) (hF0 : Fields w a len) (hlc : len ≤ cap) (hcm : cap ≤ 9223372036854775807) (hG0 : Fields w b len2) (hlc2 : len2 ≤ cap2) (hcm2 : cap2 ≤ 9223372036854775807) (_hz : In64 z) :
    Calls Try.prog 8 #[.slice a len cap, .slice b len2 cap2, .int .i64 z] w fun e w' => e = .returned (.bool true) ∧ Below w.heap.size w w' := by
  obtain ⟨fs, hF⟩ := hF0.list
  obtain ⟨ks, hK⟩ := hG0.list
  have HF : Hid (FieldsL w a len fs) := hF
  have HK : Hid (FieldsL w b len2 ks) := hK
  clear hF hF0 hK hG0
  go_enter Try.func8, Try.ntmps8
  go_wp2_with fail
  refine (few_any a len cap fs w HF.out (by omega)).mono ?_
  rintro e w1 ⟨v1, n, rfl, hn, hO1, hB1⟩
  obtain ⟨a1, cap1, rfl, hc1, hF1⟩ := own_fields hO1 (few_fits HF.out n)
  have HF1 : Hid (FieldsL w1 a1 n ((fs.take n).map cut)) := hF1
  have HB1 : Hid (Below w.heap.size w w1) := hB1
  have HK1 : Hid (FieldsL w1 b len2 ks) := HK.out.below hB1
  have hs1 := hB1.size
  have hn25 : n ≤ 25 := by omega
  clear hF1 hB1 hO1 HF HK hn
  go_wp2_with fail
  refine (few_any b len2 cap2 ks w1 HK1.out (by omega)).mono ?_
  rintro e w2 ⟨v2, n2, rfl, hn2, hO2, hB2⟩
  obtain ⟨b2, capb, rfl, hc2, hF2⟩ := own_fields hO2 (few_fits HK1.out n2)
  have HFa : Hid (FieldsL w2 a1 n ((fs.take n).map cut)) := HF1.out.below hB2
  have HFb : Hid (FieldsL w2 b2 n2 ((ks.take n2).map cut)) := hF2
  have HB2 : Hid (Below w.heap.size w w2) := HB1.out.trans (hB2.mono hs1)
  have hs2 := HB2.out.size
  have hn225 : n2 ≤ 25 := by omega
  generalize (fs.take n).map cut = gs at *
  generalize (ks.take n2).map cut = hs at *
  clear hF2 hB2 hO2 HF1 HK1 HB1 hs1 hn2 hlc hcm hlc2 hcm2
  go_wp2_with fail
  refine (enc_any a1 n cap1 gs w2 HFa.out (by omega)).mono ?_
  rintro e w3 ⟨rfl, hB3⟩
  have HB3 : Hid (Below w.heap.size w w3) := HB2.out.trans (hB3.mono hs2)
  have hs3 := HB3.out.size
  have HFa3 : Hid (FieldsL w3 a1 n gs) := HFa.out.below hB3
  have HFb3 : Hid (FieldsL w3 b2 n2 hs) := HFb.out.below hB3
  clear hB3 HFa HFb HB2 hs2
  go_wp2_with fail
  refine (enc_any b2 n2 capb hs w3 HFb3.out (by omega)).mono ?_
  rintro e w4 ⟨rfl, hB4⟩
  have HB4 : Hid (Below w.heap.size w w4) := HB3.out.trans (hB4.mono hs3)
  have hs4 := HB4.out.size
  have HFa4 : Hid (FieldsL w4 a1 n gs) := HFa3.out.below hB4
  have HFb4 : Hid (FieldsL w4 b2 n2 hs) := HFb3.out.below hB4
  clear hB4 HFa3 HFb3 HB3 hs3
  by_cases h1 : encE gs = 0
  · by_cases h2 : encE hs = 0
    · have hsz1 := encS_size gs
      have hsz2 := encS_size hs
      by_cases hg0 : gs = []
      · have hn0 : n = 0 := by have := HFa4.out.1; rw [hg0] at this; exact this.symm
        rw [h1, h2]
        subst hn0
        generalize encS gs = t1 at *
        generalize encS hs = t2 at *
        clear hg0
        go_wp2_with fail
        refine (works_any w4).mono ?_
        rintro e w9 ⟨rfl, hB9⟩
        have HB9 : Hid (Below w.heap.size w w9) := HB4.out.trans (hB9.mono hs4)
        clear hB9
        go_wp2_with fail
        go_ret
        exact ⟨rfl, HB9.out⟩
      · by_cases hh0 : hs = []
        · have hn0 : n2 = 0 := by have := HFb4.out.1; rw [hh0] at this; exact this.symm
          have hnn : ¬ (n : Int) = 0 := by
            have := HFa4.out.1
            have := List.length_pos_iff.2 hg0
            omega
          rw [h1, h2]
          subst hn0
          generalize encS gs = t1 at *
          generalize encS hs = t2 at *
          clear hh0
          go_wp2_with fail
          refine (works_any w4).mono ?_
          rintro e w9 ⟨rfl, hB9⟩
          have HB9 : Hid (Below w.heap.size w w9) := HB4.out.trans (hB9.mono hs4)
          clear hB9
          go_wp2_with fail
          go_ret
          exact ⟨rfl, HB9.out⟩
        · have hnn : ¬ (n : Int) = 0 := by
            have := HFa4.out.1
            have := List.length_pos_iff.2 hg0
            omega
          have hnn2 : ¬ (n2 : Int) = 0 := by
            have := HFb4.out.1
            have := List.length_pos_iff.2 hh0
            omega
          by_cases hsum : 65536 < (encS gs).size + (encS hs).size
          · have hsum' : (65536 : Int) < ((encS gs).size : Int) + ((encS hs).size : Int) := by omega
            rw [h1, h2]
            generalize encS gs = t1 at *
            generalize encS hs = t2 at *
            go_wp2_with fail
            refine (works_any w4).mono ?_
            rintro e w9 ⟨rfl, hB9⟩
            have HB9 : Hid (Below w.heap.size w w9) := HB4.out.trans (hB9.mono hs4)
            clear hB9
            go_wp2_with fail
            go_ret
            exact ⟨rfl, HB9.out⟩
          · have hsum' : ¬ (65536 : Int) < ((encS gs).size : Int) + ((encS hs).size : Int) := by omega
            rw [h1, h2]
            obtain ⟨ini, x, rfl⟩ : ∃ ini x, gs = ini ++ [x] := ⟨gs.dropLast, gs.getLast hg0, (List.dropLast_concat_getLast hg0).symm⟩
            obtain ⟨y, ht, rfl⟩ : ∃ y ht, hs = y :: ht := by
              cases hs with
              | nil => exact absurd rfl hh0
              | cons y ht => exact ⟨y, ht, rfl⟩
            have hni : n = ini.length + 1 := by have := HFa4.out.1; simpa using this.symm
            have hIn := dec_init h1
            have HI := enc_any a1 ini.length cap1 ini w4 (by have := HFa4.out.take ini.length (by omega); rwa [List.take_left] at this) (by omega)
            rw [hIn] at HI
            have hU : (encS ini).size = (enc ini).length := by rw [encS_of hIn, tb_size]
            have hS1 : (encS (ini ++ [x])).size = (enc ini).length + (Fi.fb (fd x)).length := by rw [encS_of h1, tb_size, enc_app, List.length_append]; simp [enc, Fi.enc]
            have hb1 : bl (encS (ini ++ [x])) = enc ini ++ Fi.fb (fd x) := by rw [encS_bl h1, enc_app]; simp [enc, Fi.enc]
            have hb12 : bl (encS (ini ++ [x]) ++ encS (y :: ht)) = enc (ini ++ [x]) ++ enc (y :: ht) := by rw [bl_append, encS_bl h1, encS_bl h2]
            have hdt := dec_two h1 h2 (by rw [← encS_bl h1, ← encS_bl h2, bl_length, bl_length]; omega)
            have hdc := fun k h0 hk => dec_cut h1 k h0 hk
            have hf2 := @Fi.fb_two (fd x)
            obtain ⟨m, hm⟩ : ∃ m, (Fi.fb (fd x)).length = m + 1 := ⟨(Fi.fb (fd x)).length - 1, by omega⟩
            have HX : Hid (∀ r, r < m → ∀ l, ¬ Dec (bl ((encS (ini ++ [x])).extract 0 ((enc ini).length + 1 + r))) l) := fun r hr l hd => by
              rw [bl_extract, hb1, Nat.add_assoc, List.take_length_add_append] at hd
              exact hdc (1 + r) (by omega) (by omega) l hd
            have HT : Hid ((∃ l, Dec (bl (encS (ini ++ [x]) ++ encS (y :: ht))) l) ↔ x.tag ≤ y.tag) := by rw [hb12]; exact hdt
            have hm1 : 1 ≤ m := by omega
            rw [hm] at hS1
            clear hb1 hb12 hdt hdc hIn hm
            obtain ⟨U, hUd⟩ : ∃ U, U = (enc ini).length := ⟨_, rfl⟩
            rw [← hUd] at hU hS1 HX
            clear hUd
            generalize encS (ini ++ [x]) = t1 at *
            generalize encS (y :: ht) = t2 at *
            generalize encS ini = u at *
            obtain ⟨q, hq⟩ : ∃ q, q = z.tmod (m : Int) := ⟨_, rfl⟩
            have hq1 : -(m : Int) < q := by rw [hq]; have := Int.lt_tmod_of_pos z (show (0 : Int) < m by omega); omega
            have hq2 : q < (m : Int) := by rw [hq]; exact Int.tmod_lt_of_pos z (by omega)
            have eq1 : z.tmod (m : Int) = q := hq.symm
            clear hq
            obtain ⟨r, hr⟩ : ∃ r : Nat, (q + (m : Int)).tmod (m : Int) = (r : Int) := ⟨((q + (m : Int)).tmod (m : Int)).toNat, by rw [Int.toNat_of_nonneg]; exact Int.tmod_nonneg _ (by omega)⟩
            have hrm : r < m := by
              have := Int.tmod_lt_of_pos (q + (m : Int)) (show (0 : Int) < m by omega)
              omega
            have e1 : (U : Int) + ((m : Int) + 1) - (U : Int) = (m : Int) + 1 := by omega
            have e2 : (m : Int) + 1 - 1 = (m : Int) := by omega
            have hmne : ¬ (m : Int) = 0 := by omega
            have HXr : Hid (∀ l, ¬ Dec (bl (t1.extract 0 (U + 1 + r))) l) := HX.out r hrm
            clear HX h1 h2 hg0 hh0 hf2
            subst hni
            have hnb : ((ini.length : Int) + 1 == 0) = false := by simp; omega
            have hnb2 : ((n2 : Int) == 0) = false := by simpa using hnn2
            go_wp2_with fail
            refine HI.mono ?_
            clear HI
            rintro e w5 ⟨rfl, hB5⟩
            have HB5 : Hid (Below w.heap.size w w5) := HB4.out.trans (hB5.mono hs4)
            have hs5 := HB5.out.size
            have HFa5 : Hid (FieldsL w5 a1 (ini.length + 1) (ini ++ [x])) := HFa4.out.below hB5
            have HFb5 : Hid (FieldsL w5 b2 n2 (y :: ht)) := HFb4.out.below hB5
            clear hB5 HFa4 HFb4 HB4 hs4
            have j1 : (U : Int) + 1 + (r : Int) ≤ (U : Int) + ((m : Int) + 1) := by omega
            have j2 : (0 : Int) ≤ (U : Int) + 1 + (r : Int) := by omega
            go_wp2_with fail
            refine (dec_any (t1.extract 0 (U + 1 + r)) w5 (by rw [ByteArray.size_extract]; omega)).mono ?_
            rintro e w6 (⟨l, _, hd, _⟩ | ⟨_, rfl, hB6⟩)
            · exact absurd hd (HXr.out l)
            have HB6 : Hid (Below w.heap.size w w6) := HB5.out.trans (hB6.mono hs5)
            have hs6 := HB6.out.size
            have HFa6 : Hid (FieldsL w6 a1 (ini.length + 1) (ini ++ [x])) := HFa5.out.below hB6
            have HFb6 : Hid (FieldsL w6 b2 n2 (y :: ht)) := HFb5.out.below hB6
            clear hB6 HFa5 HFb5 HB5 hs5 HXr
            go_wp2_with fail
            refine (dec_any (t1 ++ t2) w6 (by rw [ByteArray.size_append]; omega)).mono ?_
            have fin : ∀ (w7 : World), Below w6.heap.size w6 w7 → ∃ ba oa bb ob, a1 = some ⟨ba, oa, none⟩ ∧ b2 = some ⟨bb, ob, none⟩ ∧ FieldAt w7 ba (oa + ini.length * 4) x ∧ FieldAt w7 bb ob y := fun w7 hB7 => by
              have fa := HFa6.out.below hB7
              have fb := HFb6.out.below hB7
              rcases fa.2.2 with h | ⟨ba, oa, ea, hca⟩
              · omega
              rcases fb.2.2 with h | ⟨bb, ob, eb, hcb⟩
              · omega
              refine ⟨ba, oa, bb, ob, ea, eb, ?_, ?_⟩
              · have := hca ini.length (by omega)
                rwa [show (ini ++ [x]).getD ini.length fv0 = x by simp] at this
              · have := hcb 0 (by omega)
                rwa [Nat.zero_mul, Nat.add_zero] at this
            rintro e w7 (⟨l, v, hd, rfl, _, hB7⟩ | ⟨hXX, rfl, hB7⟩)
            · have htag : x.tag ≤ y.tag := HT.out.1 ⟨l, hd⟩
              obtain ⟨ba, oa, bb, ob, rfl, rfl, fa7, fb7⟩ := fin w7 hB7
              have HB7 : Hid (Below w.heap.size w w7) := HB6.out.trans (hB7.mono hs6)
              have hs7 := HB7.out.size
              have HS : Hid ((fun W : World => W.cell? ⟨ba, oa + ini.length * 4, none⟩ = some (.int .i64 x.tag) ∧ W.cell? ⟨bb, ob, none⟩ = some (.int .i64 y.tag) ∧ Below w.heap.size w W) w7.drew) := ⟨fa7.tag, fb7.tag, HB7.out.drew⟩
              have hdt : decide (x.tag ≤ y.tag) = true := by simpa using htag
              clear hB7 fa7 fb7 fin HFa6 HFb6 HB6 hs6 HT hd
              go_upto_region 12 with fail
              refine wp_region_held_drew (S := fun W => W.cell? ⟨ba, oa + ini.length * 4, none⟩ = some (.int .i64 x.tag) ∧ W.cell? ⟨bb, ob, none⟩ = some (.int .i64 y.tag) ∧ Below w.heap.size w W) (by kernel_rfl) HS.out (fun _ => ?_)
              refine heldTake 0 (some 106) (.int .i64 5) rfl rfl (by kernel_rfl) (by kernel_rfl) (by kernel_rfl) (fun _ _ _ h => h) (Or.inl ⟨by rfl, fun w hS => ?_⟩) HS.out ?_
              · (go_simp)
              simp only [Act.put, List.setIfInBounds_toArray, List.set_cons_zero, List.set_cons_succ]
              refine heldTake 1 (some 107) (.bool true) rfl rfl (by kernel_rfl) (by kernel_rfl) (by kernel_rfl) (fun _ _ _ h => h) (Or.inl ⟨by rfl, fun w hS => ?_⟩) HS.out ?_
              · (go_simp)
              simp only [Act.put, List.setIfInBounds_toArray, List.set_cons_zero, List.set_cons_succ]
              refine heldTake 2 (some 108) (.bool true) rfl rfl (by kernel_rfl) (by kernel_rfl) (by kernel_rfl) (fun _ _ _ h => h) (Or.inl ⟨by rfl, fun w hS => ?_⟩) HS.out ?_
              · (go_simp)
              simp only [Act.put, List.setIfInBounds_toArray, List.set_cons_zero, List.set_cons_succ]
              refine heldTake 3 (some 109) (.int .i64 0) rfl rfl (by kernel_rfl) (by kernel_rfl) (by kernel_rfl) (fun _ _ _ h => h) (Or.inl ⟨by rfl, fun w hS => ?_⟩) HS.out ?_
              · (go_simp)
              simp only [Act.put, List.setIfInBounds_toArray, List.set_cons_zero, List.set_cons_succ]
              refine heldTake 4 (some 110) (.bool true) rfl rfl (by kernel_rfl) (by kernel_rfl) (by kernel_rfl) (fun _ _ _ h => h) (Or.inl ⟨by rfl, fun w hS => ?_⟩) HS.out ?_
              · (go_simp)
              simp only [Act.put, List.setIfInBounds_toArray, List.set_cons_zero, List.set_cons_succ]
              refine heldTake 5 (some 111) (.slice (some ⟨bb, ob, none⟩) n2 capb) rfl rfl (by kernel_rfl) (by kernel_rfl) (by kernel_rfl) (fun _ _ _ h => h) (Or.inl ⟨by rfl, fun w hS => ?_⟩) HS.out ?_
              · (go_simp)
              simp only [Act.put, List.setIfInBounds_toArray, List.set_cons_zero, List.set_cons_succ]
              refine heldTake 6 (some 112) (.pointer (some ⟨bb, ob, none⟩)) rfl rfl (by kernel_rfl) (by kernel_rfl) (by kernel_rfl) (fun _ _ _ h => h) (Or.inl ⟨by rfl, fun w hS => ?_⟩) HS.out ?_
              · (go_simp; intro h; omega)
              simp only [Act.put, List.setIfInBounds_toArray, List.set_cons_zero, List.set_cons_succ]
              refine heldTake 7 (some 113) (.pointer (some ⟨bb, ob, none⟩)) rfl rfl (by kernel_rfl) (by kernel_rfl) (by kernel_rfl) (fun _ _ _ h => h) (Or.inl ⟨by rfl, fun w hS => ?_⟩) HS.out ?_
              · (go_simp)
              simp only [Act.put, List.setIfInBounds_toArray, List.set_cons_zero, List.set_cons_succ]
              refine heldTake 8 (some 114) (.int .i64 y.tag) rfl rfl (by kernel_rfl) (by kernel_rfl) (by kernel_rfl) (fun _ _ _ h => h) (Or.inl ⟨by rfl, fun w hS => ?_⟩) HS.out ?_
              · (have c := hS.2.1; go_simp)
              simp only [Act.put, List.setIfInBounds_toArray, List.set_cons_zero, List.set_cons_succ]
              refine heldTake 9 (some 115) (.slice (some ⟨ba, oa, none⟩) (ini.length + 1) cap1) rfl rfl (by kernel_rfl) (by kernel_rfl) (by kernel_rfl) (fun _ _ _ h => h) (Or.inl ⟨by rfl, fun w hS => ?_⟩) HS.out ?_
              · (go_simp)
              simp only [Act.put, List.setIfInBounds_toArray, List.set_cons_zero, List.set_cons_succ]
              refine heldTake 10 (some 116) (.slice (some ⟨ba, oa, none⟩) (ini.length + 1) cap1) rfl rfl (by kernel_rfl) (by kernel_rfl) (by kernel_rfl) (fun _ _ _ h => h) (Or.inl ⟨by rfl, fun w hS => ?_⟩) HS.out ?_
              · (go_simp)
              simp only [Act.put, List.setIfInBounds_toArray, List.set_cons_zero, List.set_cons_succ]
              refine heldTake 11 (some 117) (.int .i64 ((ini.length : Int) + 1)) rfl rfl (by kernel_rfl) (by kernel_rfl) (by kernel_rfl) (fun _ _ _ h => h) (Or.inl ⟨by rfl, fun w hS => ?_⟩) HS.out ?_
              · (go_simp)
              simp only [Act.put, List.setIfInBounds_toArray, List.set_cons_zero, List.set_cons_succ]
              refine heldTake 12 (some 118) (.int .i64 (ini.length : Int)) rfl rfl (by kernel_rfl) (by kernel_rfl) (by kernel_rfl) (fun _ _ _ h => h) (Or.inl ⟨by rfl, fun w hS => ?_⟩) HS.out ?_
              · (go_simp; rw [IntKind.wrap_i64]; omega)
              simp only [Act.put, List.setIfInBounds_toArray, List.set_cons_zero, List.set_cons_succ]
              refine heldTake 13 (some 119) (.pointer (some ⟨ba, oa + ini.length * 4, none⟩)) rfl rfl (by kernel_rfl) (by kernel_rfl) (by kernel_rfl) (fun _ _ _ h => h) (Or.inl ⟨by rfl, fun w hS => ?_⟩) HS.out ?_
              · ((have h5 : (ini.length : Int) < (ini.length : Int) + 1 := by omega); go_simp)
              simp only [Act.put, List.setIfInBounds_toArray, List.set_cons_zero, List.set_cons_succ]
              refine heldTake 14 (some 120) (.pointer (some ⟨ba, oa + ini.length * 4, none⟩)) rfl rfl (by kernel_rfl) (by kernel_rfl) (by kernel_rfl) (fun _ _ _ h => h) (Or.inl ⟨by rfl, fun w hS => ?_⟩) HS.out ?_
              · (go_simp)
              simp only [Act.put, List.setIfInBounds_toArray, List.set_cons_zero, List.set_cons_succ]
              refine heldTake 15 (some 121) (.int .i64 x.tag) rfl rfl (by kernel_rfl) (by kernel_rfl) (by kernel_rfl) (fun _ _ _ h => h) (Or.inl ⟨by rfl, fun w hS => ?_⟩) HS.out ?_
              · (have c := hS.1; go_simp)
              simp only [Act.put, List.setIfInBounds_toArray, List.set_cons_zero, List.set_cons_succ]
              refine heldTake 16 (some 122) (.bool true) rfl rfl (by kernel_rfl) (by kernel_rfl) (by kernel_rfl) (fun _ _ _ h => h) (Or.inl ⟨by rfl, fun w hS => ?_⟩) HS.out ?_
              · (go_simp)
              simp only [Act.put, List.setIfInBounds_toArray, List.set_cons_zero, List.set_cons_succ]
              refine heldTake 17 (some 123) (.bool true) rfl rfl (by kernel_rfl) (by kernel_rfl) (by kernel_rfl) (fun _ _ _ h => h) (Or.inl ⟨by rfl, fun w hS => ?_⟩) HS.out ?_
              · (go_simp)
              simp only [Act.put, List.setIfInBounds_toArray, List.set_cons_zero, List.set_cons_succ]
              refine heldTake 18 (some 124) (.bool true) rfl rfl (by kernel_rfl) (by kernel_rfl) (by kernel_rfl) (fun _ _ _ h => h) (Or.inl ⟨by rfl, fun w hS => ?_⟩) HS.out ?_
              · (go_simp)
              simp only [Act.put, List.setIfInBounds_toArray, List.set_cons_zero, List.set_cons_succ]
              refine heldTake 19 (some 125) (.bool true) rfl rfl (by kernel_rfl) (by kernel_rfl) (by kernel_rfl) (fun _ _ _ h => h) (Or.inl ⟨by rfl, fun w hS => ?_⟩) HS.out ?_
              · (go_simp)
              simp only [Act.put, List.setIfInBounds_toArray, List.set_cons_zero, List.set_cons_succ]
              refine heldOne 20 (by kernel_rfl) rfl (by rfl) (fun KK hK => ?_)
              go_simp
              go_at_call 12
              refine (works_any _).mono ?_
              rintro e w8 ⟨rfl, hB8⟩
              have HS8 : Hid ((fun W : World => W.cell? ⟨ba, oa + ini.length * 4, none⟩ = some (.int .i64 x.tag) ∧ W.cell? ⟨bb, ob, none⟩ = some (.int .i64 y.tag) ∧ Below w.heap.size w W) w8) := ⟨(hB8.cell (p := ⟨ba, oa + ini.length * 4, none⟩) (block_lt_of_cell HS.out.1)).trans HS.out.1, (hB8.cell (p := ⟨bb, ob, none⟩) (block_lt_of_cell HS.out.2.1)).trans HS.out.2.1, HS.out.2.2.trans (hB8.mono hs7)⟩
              refine hK.out _ _ HS8.out ?_
              clear hK KK
              try simp only [Act.put, List.setIfInBounds_toArray, List.set_cons_zero, List.set_cons_succ]
              refine heldTake 21 (some 127) (.bool true) rfl rfl (by kernel_rfl) (by kernel_rfl) (by kernel_rfl) (fun _ _ _ h => h) (Or.inl ⟨by rfl, fun w hS => ?_⟩) HS8.out ?_
              · (go_simp)
              simp only [Act.put, List.setIfInBounds_toArray, List.set_cons_zero, List.set_cons_succ]
              refine heldTake 22 (some 6) (.bool true) rfl rfl (by kernel_rfl) (by kernel_rfl) (by kernel_rfl) (fun _ _ _ h => h) (Or.inl ⟨by rfl, fun w hS => ?_⟩) HS8.out ?_
              · (go_simp)
              simp only [Act.put, List.setIfInBounds_toArray, List.set_cons_zero, List.set_cons_succ]
              refine wpAnyH_done (by kernel_rfl) ?_ _
              go_wp2_with fail
              go_ret
              exact ⟨rfl, HS8.out.2.2⟩
            · have htag : ¬ x.tag ≤ y.tag := fun h => by obtain ⟨l, hd⟩ := HT.out.2 h; exact hXX l hd
              obtain ⟨ba, oa, bb, ob, rfl, rfl, fa7, fb7⟩ := fin w7 hB7
              have HB7 : Hid (Below w.heap.size w w7) := HB6.out.trans (hB7.mono hs6)
              have hs7 := HB7.out.size
              have HS : Hid ((fun W : World => W.cell? ⟨ba, oa + ini.length * 4, none⟩ = some (.int .i64 x.tag) ∧ W.cell? ⟨bb, ob, none⟩ = some (.int .i64 y.tag) ∧ Below w.heap.size w W) w7.drew) := ⟨fa7.tag, fb7.tag, HB7.out.drew⟩
              have hdt : decide (x.tag ≤ y.tag) = false := by simpa using htag
              clear hB7 fa7 fb7 fin HFa6 HFb6 HB6 hs6 HT hXX
              go_upto_region 12 with fail
              refine wp_region_held_drew (S := fun W => W.cell? ⟨ba, oa + ini.length * 4, none⟩ = some (.int .i64 x.tag) ∧ W.cell? ⟨bb, ob, none⟩ = some (.int .i64 y.tag) ∧ Below w.heap.size w W) (by kernel_rfl) HS.out (fun _ => ?_)
              refine heldTake 0 (some 106) (.int .i64 5) rfl rfl (by kernel_rfl) (by kernel_rfl) (by kernel_rfl) (fun _ _ _ h => h) (Or.inl ⟨by rfl, fun w hS => ?_⟩) HS.out ?_
              · (go_simp)
              simp only [Act.put, List.setIfInBounds_toArray, List.set_cons_zero, List.set_cons_succ]
              refine heldTake 1 (some 107) (.bool true) rfl rfl (by kernel_rfl) (by kernel_rfl) (by kernel_rfl) (fun _ _ _ h => h) (Or.inl ⟨by rfl, fun w hS => ?_⟩) HS.out ?_
              · (go_simp)
              simp only [Act.put, List.setIfInBounds_toArray, List.set_cons_zero, List.set_cons_succ]
              refine heldTake 2 (some 108) (.bool true) rfl rfl (by kernel_rfl) (by kernel_rfl) (by kernel_rfl) (fun _ _ _ h => h) (Or.inl ⟨by rfl, fun w hS => ?_⟩) HS.out ?_
              · (go_simp)
              simp only [Act.put, List.setIfInBounds_toArray, List.set_cons_zero, List.set_cons_succ]
              refine heldTake 3 (some 109) (.int .i64 5) rfl rfl (by kernel_rfl) (by kernel_rfl) (by kernel_rfl) (fun _ _ _ h => h) (Or.inl ⟨by rfl, fun w hS => ?_⟩) HS.out ?_
              · (go_simp)
              simp only [Act.put, List.setIfInBounds_toArray, List.set_cons_zero, List.set_cons_succ]
              refine heldTake 4 (some 110) (.bool false) rfl rfl (by kernel_rfl) (by kernel_rfl) (by kernel_rfl) (fun _ _ _ h => h) (Or.inl ⟨by rfl, fun w hS => ?_⟩) HS.out ?_
              · (go_simp)
              simp only [Act.put, List.setIfInBounds_toArray, List.set_cons_zero, List.set_cons_succ]
              refine heldTake 5 (some 111) (.slice (some ⟨bb, ob, none⟩) n2 capb) rfl rfl (by kernel_rfl) (by kernel_rfl) (by kernel_rfl) (fun _ _ _ h => h) (Or.inl ⟨by rfl, fun w hS => ?_⟩) HS.out ?_
              · (go_simp)
              simp only [Act.put, List.setIfInBounds_toArray, List.set_cons_zero, List.set_cons_succ]
              refine heldTake 6 (some 112) (.pointer (some ⟨bb, ob, none⟩)) rfl rfl (by kernel_rfl) (by kernel_rfl) (by kernel_rfl) (fun _ _ _ h => h) (Or.inl ⟨by rfl, fun w hS => ?_⟩) HS.out ?_
              · (go_simp; intro h; omega)
              simp only [Act.put, List.setIfInBounds_toArray, List.set_cons_zero, List.set_cons_succ]
              refine heldTake 7 (some 113) (.pointer (some ⟨bb, ob, none⟩)) rfl rfl (by kernel_rfl) (by kernel_rfl) (by kernel_rfl) (fun _ _ _ h => h) (Or.inl ⟨by rfl, fun w hS => ?_⟩) HS.out ?_
              · (go_simp)
              simp only [Act.put, List.setIfInBounds_toArray, List.set_cons_zero, List.set_cons_succ]
              refine heldTake 8 (some 114) (.int .i64 y.tag) rfl rfl (by kernel_rfl) (by kernel_rfl) (by kernel_rfl) (fun _ _ _ h => h) (Or.inl ⟨by rfl, fun w hS => ?_⟩) HS.out ?_
              · (have c := hS.2.1; go_simp)
              simp only [Act.put, List.setIfInBounds_toArray, List.set_cons_zero, List.set_cons_succ]
              refine heldTake 9 (some 115) (.slice (some ⟨ba, oa, none⟩) (ini.length + 1) cap1) rfl rfl (by kernel_rfl) (by kernel_rfl) (by kernel_rfl) (fun _ _ _ h => h) (Or.inl ⟨by rfl, fun w hS => ?_⟩) HS.out ?_
              · (go_simp)
              simp only [Act.put, List.setIfInBounds_toArray, List.set_cons_zero, List.set_cons_succ]
              refine heldTake 10 (some 116) (.slice (some ⟨ba, oa, none⟩) (ini.length + 1) cap1) rfl rfl (by kernel_rfl) (by kernel_rfl) (by kernel_rfl) (fun _ _ _ h => h) (Or.inl ⟨by rfl, fun w hS => ?_⟩) HS.out ?_
              · (go_simp)
              simp only [Act.put, List.setIfInBounds_toArray, List.set_cons_zero, List.set_cons_succ]
              refine heldTake 11 (some 117) (.int .i64 ((ini.length : Int) + 1)) rfl rfl (by kernel_rfl) (by kernel_rfl) (by kernel_rfl) (fun _ _ _ h => h) (Or.inl ⟨by rfl, fun w hS => ?_⟩) HS.out ?_
              · (go_simp)
              simp only [Act.put, List.setIfInBounds_toArray, List.set_cons_zero, List.set_cons_succ]
              refine heldTake 12 (some 118) (.int .i64 (ini.length : Int)) rfl rfl (by kernel_rfl) (by kernel_rfl) (by kernel_rfl) (fun _ _ _ h => h) (Or.inl ⟨by rfl, fun w hS => ?_⟩) HS.out ?_
              · (go_simp; rw [IntKind.wrap_i64]; omega)
              simp only [Act.put, List.setIfInBounds_toArray, List.set_cons_zero, List.set_cons_succ]
              refine heldTake 13 (some 119) (.pointer (some ⟨ba, oa + ini.length * 4, none⟩)) rfl rfl (by kernel_rfl) (by kernel_rfl) (by kernel_rfl) (fun _ _ _ h => h) (Or.inl ⟨by rfl, fun w hS => ?_⟩) HS.out ?_
              · ((have h5 : (ini.length : Int) < (ini.length : Int) + 1 := by omega); go_simp)
              simp only [Act.put, List.setIfInBounds_toArray, List.set_cons_zero, List.set_cons_succ]
              refine heldTake 14 (some 120) (.pointer (some ⟨ba, oa + ini.length * 4, none⟩)) rfl rfl (by kernel_rfl) (by kernel_rfl) (by kernel_rfl) (fun _ _ _ h => h) (Or.inl ⟨by rfl, fun w hS => ?_⟩) HS.out ?_
              · (go_simp)
              simp only [Act.put, List.setIfInBounds_toArray, List.set_cons_zero, List.set_cons_succ]
              refine heldTake 15 (some 121) (.int .i64 x.tag) rfl rfl (by kernel_rfl) (by kernel_rfl) (by kernel_rfl) (fun _ _ _ h => h) (Or.inl ⟨by rfl, fun w hS => ?_⟩) HS.out ?_
              · (have c := hS.1; go_simp)
              simp only [Act.put, List.setIfInBounds_toArray, List.set_cons_zero, List.set_cons_succ]
              refine heldTake 16 (some 122) (.bool false) rfl rfl (by kernel_rfl) (by kernel_rfl) (by kernel_rfl) (fun _ _ _ h => h) (Or.inl ⟨by rfl, fun w hS => ?_⟩) HS.out ?_
              · (go_simp)
              simp only [Act.put, List.setIfInBounds_toArray, List.set_cons_zero, List.set_cons_succ]
              refine heldTake 17 (some 123) (.bool true) rfl rfl (by kernel_rfl) (by kernel_rfl) (by kernel_rfl) (fun _ _ _ h => h) (Or.inl ⟨by rfl, fun w hS => ?_⟩) HS.out ?_
              · (go_simp)
              simp only [Act.put, List.setIfInBounds_toArray, List.set_cons_zero, List.set_cons_succ]
              refine heldTake 18 (some 124) (.bool true) rfl rfl (by kernel_rfl) (by kernel_rfl) (by kernel_rfl) (fun _ _ _ h => h) (Or.inl ⟨by rfl, fun w hS => ?_⟩) HS.out ?_
              · (go_simp)
              simp only [Act.put, List.setIfInBounds_toArray, List.set_cons_zero, List.set_cons_succ]
              refine heldTake 19 (some 125) (.bool true) rfl rfl (by kernel_rfl) (by kernel_rfl) (by kernel_rfl) (fun _ _ _ h => h) (Or.inl ⟨by rfl, fun w hS => ?_⟩) HS.out ?_
              · (go_simp)
              simp only [Act.put, List.setIfInBounds_toArray, List.set_cons_zero, List.set_cons_succ]
              refine heldOne 20 (by kernel_rfl) rfl (by rfl) (fun KK hK => ?_)
              go_simp
              go_at_call 12
              refine (works_any _).mono ?_
              rintro e w8 ⟨rfl, hB8⟩
              have HS8 : Hid ((fun W : World => W.cell? ⟨ba, oa + ini.length * 4, none⟩ = some (.int .i64 x.tag) ∧ W.cell? ⟨bb, ob, none⟩ = some (.int .i64 y.tag) ∧ Below w.heap.size w W) w8) := ⟨(hB8.cell (p := ⟨ba, oa + ini.length * 4, none⟩) (block_lt_of_cell HS.out.1)).trans HS.out.1, (hB8.cell (p := ⟨bb, ob, none⟩) (block_lt_of_cell HS.out.2.1)).trans HS.out.2.1, HS.out.2.2.trans (hB8.mono hs7)⟩
              refine hK.out _ _ HS8.out ?_
              clear hK KK
              try simp only [Act.put, List.setIfInBounds_toArray, List.set_cons_zero, List.set_cons_succ]
              refine heldTake 21 (some 127) (.bool true) rfl rfl (by kernel_rfl) (by kernel_rfl) (by kernel_rfl) (fun _ _ _ h => h) (Or.inl ⟨by rfl, fun w hS => ?_⟩) HS8.out ?_
              · (go_simp)
              simp only [Act.put, List.setIfInBounds_toArray, List.set_cons_zero, List.set_cons_succ]
              refine heldTake 22 (some 6) (.bool true) rfl rfl (by kernel_rfl) (by kernel_rfl) (by kernel_rfl) (fun _ _ _ h => h) (Or.inl ⟨by rfl, fun w hS => ?_⟩) HS8.out ?_
              · (go_simp)
              simp only [Act.put, List.setIfInBounds_toArray, List.set_cons_zero, List.set_cons_succ]
              refine wpAnyH_done (by kernel_rfl) ?_ _
              go_wp2_with fail
              go_ret
              exact ⟨rfl, HS8.out.2.2⟩
    · have h2' : ¬ ((encE hs : Nat) : Int) = 0 := by omega
      rw [h1]
      generalize encE hs = c2 at *
      generalize encS gs = t1 at *
      generalize encS hs = t2 at *
      go_wp2_with fail
      refine (works_any w4).mono ?_
      rintro e w9 ⟨rfl, hB9⟩
      have HB9 : Hid (Below w.heap.size w w9) := HB4.out.trans (hB9.mono hs4)
      clear hB9
      go_wp2_with fail
      go_ret
      exact ⟨rfl, HB9.out⟩
  · have h1' : ¬ ((encE gs : Nat) : Int) = 0 := by omega
    generalize encE gs = c1 at *
    generalize encE hs = c2 at *
    generalize encS gs = t1 at *
    generalize encS hs = t2 at *
    go_wp2_with fail
    refine (works_any w4).mono ?_
    rintro e w9 ⟨rfl, hB9⟩
    have HB9 : Hid (Below w.heap.size w w9) := HB4.out.trans (hB9.mono hs4)
    clear hB9
    go_wp2_with fail
    go_ret
    exact ⟨rfl, HB9.out⟩
end Go.Proofs.Ytpbobmhffdmmmaa
