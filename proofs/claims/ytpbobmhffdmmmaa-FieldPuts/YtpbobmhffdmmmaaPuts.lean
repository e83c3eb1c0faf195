/- Proved: FieldPuts answers true. -/
import Derived.Test.YtpbobmhffdmmmaaMathP
import Derived.Test.YtpbobmhffdmmmaaRNumT
import Derived.Test.YtpbobmhffdmmmaaRDec
import Derived.Test.YtpbobmhffdmmmaaCodes
import Derived.Test.YtpbobmhffdmmmaaWorks
namespace Go.Proofs.Ytpbobmhffdmmmaa
open Go.RowKit
theorem size_boxed2 (w : World) (f : Fv) : (boxed (boxed w f) f).heap.size = w.heap.size + 2 := by rw [size_alloc1, size_alloc1]
theorem below_boxed2 (w : World) (f : Fv) : Below w.heap.size w (boxed (boxed w f) f) := (((Below.refl _ w).alloc (Nat.le_refl _) _).alloc (by rw [size_alloc1]; omega) _)
theorem one_fields (w : World) (f : Fv) (hf : f.Fits) : FieldsL (boxed (boxed w f) f) (some ⟨w.heap.size + 1, 0, none⟩) 1 [f] := by
  have h := fieldsL_block (fs := [f]) (heap_alloc_new (boxed w f) (.cells #[.int .i64 f.tag, .int .i64 f.kind, .int .i64 f.n, .string f.s] 38)) rfl (fun x hx => by rw [List.mem_singleton.1 hx]; exact hf)
  rw [size_alloc1] at h
  exact h
/- Encode of one field, from where a round of the law boxes it -/
theorem encode_one (w : World) (f : Fv) (hf : f.Fits) : Calls Try.prog 10 #[.slice (some ⟨w.heap.size + 1, 0, none⟩) 1 1] (boxed (boxed w f) f) fun e w' => e = .returned (.tuple #[.string (encS [f]), .int .i64 (encE [f] : Nat)]) ∧ Below w.heap.size w w' ∧ FieldAt w' w.heap.size 0 f ∧ w.heap.size + 2 ≤ w'.heap.size := by
  refine (enc_any _ 1 1 [f] _ (one_fields w f hf) (by omega)).mono ?_
  rintro e w' ⟨rfl, hB⟩
  have h1 := size_boxed2 w f
  refine ⟨rfl, (below_boxed2 w f).trans (hB.mono (by omega)), ((box_at w f).alloc _).below hB (by omega), ?_⟩
  have := hB.size
  omega
theorem putV_fits' {fs : List Fv} {f : Fv} (h : ∀ g ∈ fs, g.Fits) (hf : f.Fits) : ∀ g ∈ putV fs f, g.Fits := by
  induction fs with
  | nil => intro g hg; rw [show putV [] f = [f] from rfl] at hg; rw [List.mem_singleton.1 hg]; exact hf
  | cons x l ih =>
    intro g hg
    unfold putV at hg
    split at hg
    · rcases List.mem_cons.1 hg with rfl | hg
      · exact hf
      · exact h g hg
    · rcases List.mem_cons.1 hg with rfl | hg
      · exact h _ (by simp)
      · exact ih (fun y hy => h y (by simp [hy])) g hg
theorem putAll_fits {gs : List Fv} (h : ∀ g ∈ gs, g.Fits) (k : Nat) : ∀ g ∈ putAll (gs.take k), g.Fits := by
  induction k with
  | zero => intro g hg; simp [putAll] at hg
  | succ k ih =>
    by_cases hk : k < gs.length
    · rw [putAll_succ gs k hk]
      split
      · exact putV_fits' ih (h _ (by rw [List.getD_eq_getElem?_getD, List.getElem?_eq_getElem hk]; exact List.getElem_mem hk))
      · exact ih
    · rw [show gs.take (k + 1) = gs.take k by rw [List.take_of_length_le (by omega), List.take_of_length_le (by omega)]]
      exact ih
set_option maxHeartbeats 4000000 in
set_option maxRecDepth 20000 in
theorem puts_walk (a : Option Addr) (len cap : Nat) (w : World) (hF0 : Fields w a len) (hlc : len ≤ cap) (hcm : cap ≤ 9223372036854775807) :
    Calls Try.prog 7 #[.slice a len cap] w fun e w' => e = .returned (.bool true) ∧ Below w.heap.size w w' := by
  obtain ⟨fs, hF⟩ := hF0.list
  have HF : Hid (FieldsL w a len fs) := hF
  clear hF hF0
  go_enter Try.func7, Try.ntmps7
  go_wp2_with fail
  refine (few_any a len cap fs w HF.out (by omega)).mono ?_
  rintro e w1 ⟨v1, n, rfl, hn, hO1, hB1⟩
  have HFI := few_fits HF.out n
  obtain ⟨a1, cap1, rfl, hc1, hF1⟩ := own_fields hO1 HFI
  have hn25 : n ≤ 25 := by omega
  have HB1 : Hid (Below w.heap.size w w1) := hB1
  have hs1 := hB1.size
  generalize (fs.take n).map cut = gs at *
  have HF1 : Hid (FieldsL w1 a1 n gs) := hF1
  have HFT : Hid (∀ g ∈ gs, g.Fits) := HFI
  have HLN : Is gs.length n := ⟨hF1.1⟩
  clear HF hn hO1 hB1 hF1 hlc hcm HFI
  go_wp2_with fail
  go_loopw [3, 4, 24] (fun s3 s4 s24 wr => ∃ k : Nat, k ≤ n ∧ s24 = .int .i64 k ∧ s4 = .int .i64 ((putAll (gs.take k)).length : Nat) ∧ wr.ownsRow w1.heap.size 38 4 s3 (putAll (gs.take k)).length ((putAll (gs.take k)).flatMap fcells) ∧ Below w1.heap.size w1 wr) (fun _ _ s24 _ => n - (intOf s24).toNat)
  case atStart => exact ⟨0, by omega, rfl, rfl, ⟨rfl, .inl ⟨rfl, rfl⟩⟩, Below.refl _ _⟩
  case round =>
    obtain ⟨k, hk, rfl, rfl, hO, hB⟩ := hrel
    have HRF : Hid (∀ g ∈ putAll (gs.take k), g.Fits) := putAll_fits HFT.out k
    have hrl : (putAll (gs.take k)).length ≤ 25 := Nat.le_trans (putAll_len gs k (by rw [HLN.eq]; exact hk)) (by omega)
    obtain ⟨a3, cap3, rfl, hc3, hF3⟩ := own_fields hO HRF.out
    have HF3 : Hid (FieldsL wr a3 _ (putAll (gs.take k))) := hF3
    have HOR : Hid (wr.ownsRow w1.heap.size 38 4 _ (putAll (gs.take k)).length ((putAll (gs.take k)).flatMap fcells)) := hO
    have HB : Hid (Below w1.heap.size w1 wr) := hB
    have hsz := hB.size
    clear hO hB hF3
    by_cases hlt : k < n
    · have i0 : decide ((k : Int) < (n : Int)) = true := by simp; omega
      have i5 : (k : Int) < (n : Int) := by omega
      have j0 : (0 : Int) ≤ (k : Int) := Int.natCast_nonneg _
      have hkl : k < gs.length := by rw [HLN.eq]; exact hlt
      obtain ⟨b, off, rfl, hc⟩ : ∃ b off, a1 = some ⟨b, off, none⟩ ∧ ∀ i, i < n → FieldAt w1 b (off + i * 4) (gs.getD i fv0) := by
        rcases HF1.out.2.2 with h | h
        · omega
        · exact h
      have hbl : b < w1.heap.size := block_lt_of_cell (hc k hlt).tag
      obtain ⟨c0, c1, c2, c3⟩ := (hc k hlt).below HB.out hbl
      have HPS := putAll_succ gs k hkl
      have HGF : Hid (gs.getD k fv0).Fits := HFT.out _ (by rw [List.getD_eq_getElem?_getD, List.getElem?_eq_getElem hkl]; exact List.getElem_mem hkl)
      clear hc
      generalize hgd : gs.getD k fv0 = g at *
      clear hgd
      generalize hR : putAll (gs.take k) = R at *
      generalize hm : R.length = m at *
      have HRL : Is R.length m := ⟨hm⟩
      clear hR hm
      have E := encode_one wr g HGF.out
      by_cases hok : okB g = true
      · rw [if_pos hok] at HPS
        have HPS' : Is (putAll (gs.take (k + 1))) (putV R g) := ⟨HPS⟩
        have he0 : encE [g] = 0 := of_decide_eq_true hok
        rw [he0] at E
        clear HPS he0 hok
        generalize encS [g] = eS at *
        go_wp2_with fail
        refine E.mono ?_
        clear E c0 c1 c2 c3
        rintro e w2 ⟨rfl, hB2, hX2, hz2⟩
        have HB2 : Hid (Below wr.heap.size wr w2) := hB2
        obtain ⟨d0, d1, d2, d3⟩ := hX2
        simp only [Nat.zero_add] at d0 d1 d2 d3
        clear hB2
        go_wp2_with fail
        refine (put_any a3 m cap3 g R w2 (HF3.out.below HB2.out) (by omega) hc3).mono ?_
        rintro e w3 ⟨v3, rfl, hO3, hB3⟩
        have HREL : Hid (w3.ownsRow w1.heap.size 38 4 v3 (putAll (gs.take (k + 1))).length ((putAll (gs.take (k + 1))).flatMap fcells)) := by
          show w3.ownsRow w1.heap.size 38 4 v3 _ _
          rw [HPS'.eq, putV_length, HRL.eq]; exact owns_base hO3 (by omega)
        have HBR : Hid (Below w1.heap.size w1 w3) := HB.out.trans ((HB2.out.trans (hB3.mono (by omega))).mono hsz)
        have HLE : Is (putAll (gs.take (k + 1))).length (m + 1) := ⟨by rw [HPS'.eq, putV_length, HRL.eq]⟩
        clear hO3 hB3 d0 d1 d2 d3
        go_wp2_with fail
        go_roundw
        case rel => exact ⟨k + 1, by omega, by go_num, by rw [HLE.eq]; go_num, HREL.out, HBR.out⟩
        case measure => (simp [intOf]) <;> omega
      · rw [if_neg hok] at HPS
        have HPS' : Is (putAll (gs.take (k + 1))) R := ⟨HPS⟩
        have he0 : ¬ encE [g] = 0 := fun h => hok (decide_eq_true h)
        clear HPS hok
        generalize encS [g] = eS at *
        generalize encE [g] = eE at *
        have he1 : decide ((eE : Int) = 0) = false := by simp; omega
        have he2 : (((eE : Nat) : Int) == 0) = false := by simp; omega
        go_wp2_with fail
        refine E.mono ?_
        clear E c0 c1 c2 c3
        rintro e w2 ⟨rfl, hB2, hX2, hz2⟩
        have HO2 : Hid (FieldsL w2 a3 m R) := HF3.out.below hB2
        have HOW : Hid (w2.ownsRow w1.heap.size 38 4 (.slice a3 m cap3) (putAll (gs.take (k + 1))).length ((putAll (gs.take (k + 1))).flatMap fcells)) := by
          show w2.ownsRow w1.heap.size 38 4 _ _ _
          rw [HPS'.eq, HRL.eq]; exact owns_below38 HOR.out hB2
        have HBR : Hid (Below w1.heap.size w1 w2) := HB.out.trans (hB2.mono hsz)
        have HLE : Is (putAll (gs.take (k + 1))).length m := ⟨by rw [HPS'.eq, HRL.eq]⟩
        clear hB2 hX2
        go_wp2_with fail
        go_roundw
        case rel => exact ⟨k + 1, by omega, by go_num, by rw [HLE.eq], HOW.out, HBR.out⟩
        case measure => (simp [intOf]) <;> omega
    · have i0 : decide ((k : Int) < (n : Int)) = false := by simp; omega
      have HT : gs.take k = gs := List.take_of_length_le (by rw [HLN.eq]; omega)
      have HERR : encE (putAll (gs.take k)) = 0 ∨ (encE (putAll (gs.take k)) = 3 ∧ encS (putAll (gs.take k)) = ByteArray.empty) := by rw [HT]; exact putAll_err gs
      have HFL : Hid (∀ tag, (putAll (gs.take k)).filter (hit tag 1) = gs.filter (fun x => okB x && hit tag 1 x)) := fun tag => (putAll_filter tag gs k (by rw [HLN.eq]; omega)).trans (by rw [HT])
      clear HT
      generalize hR : putAll (gs.take k) = R at *
      generalize hm : R.length = m at *
      have HRL : Is R.length m := ⟨hm⟩
      clear hR hm HOR HRF
      have E := enc_any a3 m cap3 R wr HF3.out (by omega)
      have HBW : Hid (Below w.heap.size w wr) := HB1.out.trans (HB.out.mono hs1)
      have hsw : w.heap.size ≤ wr.heap.size := Nat.le_trans hs1 hsz
      rcases HERR with he | ⟨he, hs⟩
      rotate_left
      · rw [he, hs] at E
        clear he hs
        go_wp2_with fail
        refine E.mono ?_
        rintro e w2 ⟨rfl, hB2⟩
        have HB2 : Hid (Below w.heap.size w w2) := HBW.out.trans (hB2.mono hsw)
        have hs2 := HB2.out.size
        clear hB2 E
        go_wp2_with fail
        refine (works_any w2).mono ?_
        rintro e w3 ⟨rfl, hB3⟩
        have HFN : Below w.heap.size w w3 := HB2.out.trans (hB3.mono hs2)
        clear hB3
        go_wp2_with fail
        go_ret
        exact ⟨rfl, HFN⟩
      · rw [he] at E
        clear he
        generalize encS R = eS at *
        go_wp2_with fail
        refine E.mono ?_
        rintro e w2 ⟨rfl, hB2⟩
        have HB2 : Hid (Below w.heap.size w w2) := HBW.out.trans (hB2.mono hsw)
        have HG2 : Hid (FieldsL w2 a1 n gs) := HF1.out.below (HB.out.trans (hB2.mono hsz))
        have HR2 : Hid (FieldsL w2 a3 m R) := HF3.out.below hB2
        have hs2 := HB2.out.size
        clear hB2 E HF3 HB hsz hsw HBW HF1 i0
        go_wp2_with fail
        go_loopw [61] (fun s61 wr2 => ∃ k2 : Nat, k2 ≤ n ∧ s61 = .int .i64 k2 ∧ Below w2.heap.size w2 wr2) (fun s61 _ => n - (intOf s61).toNat)
        case atStart => exact ⟨0, by omega, rfl, Below.refl _ _⟩
        case round =>
          obtain ⟨k2, hk2, rfl, hB⟩ := hrel
          have HB : Hid (Below w2.heap.size w2 wr) := hB
          have hsz := hB.size
          clear hB
          by_cases hlt2 : k2 < n
          · skip
            have i0 : decide ((k2 : Int) < (n : Int)) = true := by simp; omega
            have i5 : (k2 : Int) < (n : Int) := by omega
            have j0 : (0 : Int) ≤ (k2 : Int) := Int.natCast_nonneg _
            have hkl : k2 < gs.length := by rw [HLN.eq]; omega
            obtain ⟨b, off, rfl, hc⟩ : ∃ b off, a1 = some ⟨b, off, none⟩ ∧ ∀ i, i < n → FieldAt w2 b (off + i * 4) (gs.getD i fv0) := by
              rcases HG2.out.2.2 with h | h
              · omega
              · exact h
            have hbl : b < w2.heap.size := block_lt_of_cell (hc k2 hlt2).tag
            obtain ⟨c0, c1, c2, c3⟩ := (hc k2 hlt2).below HB.out hbl
            have HCC : Hid (∀ i, i < n → FieldAt w2 b (off + i * 4) (gs.getD i fv0)) := hc
            have HGF : Hid (gs.getD k2 fv0).Fits := HFT.out _ (by rw [List.getD_eq_getElem?_getD, List.getElem?_eq_getElem hkl]; exact List.getElem_mem hkl)
            clear hc
            generalize hgd : gs.getD k2 fv0 = g at *
            clear hgd
            have E := encode_one wr g HGF.out
            by_cases hok : okB g = true
            · skip
              have he0 : encE [g] = 0 := of_decide_eq_true hok
              rw [he0] at E
              clear he0
              generalize encS [g] = eT at *
              by_cases hkd : g.kind = 1
              · skip
                have qa : decide (g.kind = 1) = true := by simp; omega
                have qb : ((g.kind) == (1)) = true := by simp; omega
                have qc : (g.kind != 1) = false := by rw [hkd]; rfl
                clear hkd hok
                go_wp2_with fail
                refine E.mono ?_
                clear E c0 c1 c2 c3
                rintro e w4 ⟨rfl, hB4, hX4, hz4⟩
                have HB4 : Hid (Below w2.heap.size w2 w4) := HB.out.trans (hB4.mono hsz)
                have HX4 : Hid (FieldAt w4 wr.heap.size 0 g) := hX4
                clear hB4 HB i0 i5 j0 hkl
                generalize wr.heap.size = Bx at *
                obtain ⟨d0, d1, d2, d3⟩ := hX4
                simp only [Nat.zero_add] at d0 d1 d2 d3
                go_wp2_with fail
                clear d0 d1 d2 d3 qa qb
                go_loopw [15, 80] (fun s15 s80 wr3 => ∃ j : Nat, j ≤ n ∧ s80 = .int .i64 j ∧ wr3.ownsRow w4.heap.size 9 1 s15 ((gs.take j).filter (fun x => okB x && hit g.tag 1 x)).length (tcells ((gs.take j).filter (fun x => okB x && hit g.tag 1 x))) ∧ Below w4.heap.size w4 wr3) (fun _ s80 _ => n - (intOf s80).toNat)
                case atStart => exact ⟨0, by omega, rfl, ⟨rfl, .inl ⟨rfl, rfl⟩⟩, Below.refl _ _⟩
                case round =>
                  obtain ⟨j, hj, rfl, hO, hB⟩ := hrel
                  have HB : Hid (Below w4.heap.size w4 wr) := hB
                  have hs3 := hB.size
                  have HO : Hid (wr.ownsRow w4.heap.size 9 1 u15 ((gs.take j).filter (fun x => okB x && hit g.tag 1 x)).length (tcells ((gs.take j).filter (fun x => okB x && hit g.tag 1 x)))) := hO
                  have HBr : Hid (Below w2.heap.size w2 wr) := HB4.out.trans (HB.out.mono HB4.out.size)
                  have hsr := HBr.out.size
                  have HX : Hid (FieldAt wr Bx 0 g) := HX4.out.below HB.out (by omega)
                  have hxl : ((gs.take j).filter (fun x => okB x && hit g.tag 1 x)).length ≤ 25 := Nat.le_trans (List.length_filter_le _ _) (by rw [List.length_take]; omega)
                  clear hO hB
                  by_cases hlt3 : j < n
                  · skip
                    have i0 : decide ((j : Int) < (n : Int)) = true := by simp; omega
                    have i5 : (j : Int) < (n : Int) := by omega
                    have j0 : (0 : Int) ≤ (j : Int) := Int.natCast_nonneg _
                    have hkl : j < gs.length := by rw [HLN.eq]; omega
                    obtain ⟨c0, c1, c2, c3⟩ := (HCC.out j hlt3).below HBr.out hbl
                    have HXF : Hid (gs.getD j fv0).Fits := HFT.out _ (by rw [List.getD_eq_getElem?_getD, List.getElem?_eq_getElem hkl]; exact List.getElem_mem hkl)
                    have HTS := filter_take_succ (fun x => okB x && hit g.tag 1 x) gs j hkl
                    generalize hgd : gs.getD j fv0 = x at *
                    clear hgd
                    generalize hxs : (gs.take j).filter (fun x => okB x && hit g.tag 1 x) = xs at *
                    clear hxs
                    have E := encode_one wr x HXF.out
                    by_cases hok3 : okB x = true
                    · by_cases ht : x.tag = g.tag
                      · by_cases hk3 : x.kind = 1
                        · rw [if_pos (by simp [hok3, hit, ht, hk3])] at HTS
                          have HTS' : Is ((gs.take (j + 1)).filter (fun x => okB x && hit g.tag 1 x)) (xs ++ [x]) := ⟨HTS⟩
                          have he0 : encE [x] = 0 := of_decide_eq_true hok3
                          rw [he0] at E
                          clear he0
                          generalize encS [x] = eU at *
                          have ta : decide (x.tag = g.tag) = true := by simp; omega
                          have tb : ((x.tag) == (g.tag)) = true := by simp; omega
                          have ra : decide (x.kind = 1) = true := by simp; omega
                          have rb : ((x.kind) == (1)) = true := by simp; omega
                          clear HTS hok3 ht hk3
                          go_wp2_with fail
                          refine E.mono ?_
                          clear E c0 c1 c2 c3
                          rintro e w5 ⟨rfl, hB5, hX5, hz5⟩
                          have HO5 : Hid (w5.ownsRow w4.heap.size 9 1 u15 xs.length (tcells xs)) := owns_below38 HO.out hB5
                          obtain ⟨d0, d1, d2, d3⟩ := hX5
                          obtain ⟨e0, e1, e2, e3⟩ := HX.out.below hB5 (by omega)
                          simp only [Nat.zero_add] at d0 d1 d2 d3 e0 e1 e2 e3
                          have HB5 : Hid (Below w4.heap.size w4 w5) := HB.out.trans (hB5.mono hs3)
                          have hs5 : w4.heap.size ≤ w5.heap.size := HB5.out.size
                          clear hB5
                          go_wp2_with (first | (refine append_str rfl (.tmp 104) (.tmp 107) rfl _ w4.heap.size _ xs.length (tcells xs) rfl (own_alloc1 HO5.out _) ⟨w5.heap.size, 0, none⟩ 1 x.s rfl (str_new w5 x.s) (by omega) (by simp; omega) ?_; intro v' w6 hO6 hG6; have HO6 := (show Hid (w6.ownsRow w4.heap.size 9 1 v' (xs.length + 1) (tcells xs ++ [.string x.s])) from hO6); have HB6 : Hid (Below w4.heap.size w4 w6) := HB5.out.trans ((((Below.refl _ w5).alloc (Nat.le_refl _) _).mono hs5).trans (hG6.below (own_alloc1 HO5.out _) (by simp; omega))); clear hO6 hG6))
                          have HREL : ∃ j' : Nat, j' ≤ n ∧ Value.int .i64 ((j : Int) + 1) = .int .i64 j' ∧ w6.ownsRow w4.heap.size 9 1 v' ((gs.take j').filter (fun x => okB x && hit g.tag 1 x)).length (tcells ((gs.take j').filter (fun x => okB x && hit g.tag 1 x))) ∧ Below w4.heap.size w4 w6 := ⟨j + 1, by omega, by go_num, by rw [HTS'.eq, List.length_append, tcells, List.map_append]; exact HO6.out, HB6.out⟩
                          go_roundw
                          case rel => first | exact HREL | ((repeat apply Exists.intro); exact ⟨HREL, rfl⟩)
                          case measure => (simp [intOf]) <;> omega
                        · rw [if_neg (by simp [hok3, hit, ht, hk3]), List.append_nil] at HTS
                          have HTS' : Is ((gs.take (j + 1)).filter (fun x => okB x && hit g.tag 1 x)) xs := ⟨HTS⟩
                          have he0 : encE [x] = 0 := of_decide_eq_true hok3
                          rw [he0] at E
                          clear he0
                          generalize encS [x] = eU at *
                          have ta : decide (x.tag = g.tag) = true := by simp; omega
                          have tb : ((x.tag) == (g.tag)) = true := by simp; omega
                          have ra : decide (x.kind = 1) = false := by simp; omega
                          have rb : ((x.kind) == (1)) = false := by simp; omega
                          clear HTS hok3 ht hk3
                          go_wp2_with fail
                          refine E.mono ?_
                          clear E c0 c1 c2 c3
                          rintro e w5 ⟨rfl, hB5, hX5, hz5⟩
                          have HO5 : Hid (w5.ownsRow w4.heap.size 9 1 u15 xs.length (tcells xs)) := owns_below38 HO.out hB5
                          obtain ⟨d0, d1, d2, d3⟩ := hX5
                          obtain ⟨e0, e1, e2, e3⟩ := HX.out.below hB5 (by omega)
                          simp only [Nat.zero_add] at d0 d1 d2 d3 e0 e1 e2 e3
                          have HB5 : Hid (Below w4.heap.size w4 w5) := HB.out.trans (hB5.mono hs3)
                          have hs5 : w4.heap.size ≤ w5.heap.size := HB5.out.size
                          clear hB5
                          go_wp2_with fail
                          have HREL : ∃ j' : Nat, j' ≤ n ∧ Value.int .i64 ((j : Int) + 1) = .int .i64 j' ∧ w5.ownsRow w4.heap.size 9 1 u15 ((gs.take j').filter (fun x => okB x && hit g.tag 1 x)).length (tcells ((gs.take j').filter (fun x => okB x && hit g.tag 1 x))) ∧ Below w4.heap.size w4 w5 := ⟨j + 1, by omega, by go_num, by rw [HTS'.eq]; exact HO5.out, HB5.out⟩
                          go_roundw
                          case rel => first | exact HREL | ((repeat apply Exists.intro); exact ⟨HREL, rfl⟩)
                          case measure => (simp [intOf]) <;> omega
                      · rw [if_neg (by simp [hok3, hit, ht]), List.append_nil] at HTS
                        have HTS' : Is ((gs.take (j + 1)).filter (fun x => okB x && hit g.tag 1 x)) xs := ⟨HTS⟩
                        have he0 : encE [x] = 0 := of_decide_eq_true hok3
                        rw [he0] at E
                        clear he0
                        generalize encS [x] = eU at *
                        have ta : decide (x.tag = g.tag) = false := by simp; omega
                        have tb : ((x.tag) == (g.tag)) = false := by simp; omega
                        clear HTS hok3 ht
                        go_wp2_with fail
                        refine E.mono ?_
                        clear E c0 c1 c2 c3
                        rintro e w5 ⟨rfl, hB5, hX5, hz5⟩
                        have HO5 : Hid (w5.ownsRow w4.heap.size 9 1 u15 xs.length (tcells xs)) := owns_below38 HO.out hB5
                        obtain ⟨d0, d1, d2, d3⟩ := hX5
                        obtain ⟨e0, e1, e2, e3⟩ := HX.out.below hB5 (by omega)
                        simp only [Nat.zero_add] at d0 d1 d2 d3 e0 e1 e2 e3
                        have HB5 : Hid (Below w4.heap.size w4 w5) := HB.out.trans (hB5.mono hs3)
                        have hs5 : w4.heap.size ≤ w5.heap.size := HB5.out.size
                        clear hB5
                        go_wp2_with fail
                        have HREL : ∃ j' : Nat, j' ≤ n ∧ Value.int .i64 ((j : Int) + 1) = .int .i64 j' ∧ w5.ownsRow w4.heap.size 9 1 u15 ((gs.take j').filter (fun x => okB x && hit g.tag 1 x)).length (tcells ((gs.take j').filter (fun x => okB x && hit g.tag 1 x))) ∧ Below w4.heap.size w4 w5 := ⟨j + 1, by omega, by go_num, by rw [HTS'.eq]; exact HO5.out, HB5.out⟩
                        go_roundw
                        case rel => first | exact HREL | ((repeat apply Exists.intro); exact ⟨HREL, rfl⟩)
                        case measure => (simp [intOf]) <;> omega
                    · rw [if_neg (by simp [hok3]), List.append_nil] at HTS
                      have HTS' : Is ((gs.take (j + 1)).filter (fun x => okB x && hit g.tag 1 x)) xs := ⟨HTS⟩
                      have he0 : ¬ encE [x] = 0 := fun h => hok3 (decide_eq_true h)
                      generalize encS [x] = eU at *
                      generalize encE [x] = eE at *
                      have he1 : decide ((eE : Int) = 0) = false := by simp; omega
                      have he2 : (((eE : Nat) : Int) == 0) = false := by simp; omega
                      clear HTS hok3 he0
                      go_wp2_with fail
                      refine E.mono ?_
                      clear E c0 c1 c2 c3
                      rintro e w5 ⟨rfl, hB5, hX5, hz5⟩
                      have HO5 : Hid (w5.ownsRow w4.heap.size 9 1 u15 xs.length (tcells xs)) := owns_below38 HO.out hB5
                      obtain ⟨d0, d1, d2, d3⟩ := hX5
                      obtain ⟨e0, e1, e2, e3⟩ := HX.out.below hB5 (by omega)
                      simp only [Nat.zero_add] at d0 d1 d2 d3 e0 e1 e2 e3
                      have HB5 : Hid (Below w4.heap.size w4 w5) := HB.out.trans (hB5.mono hs3)
                      have hs5 : w4.heap.size ≤ w5.heap.size := HB5.out.size
                      clear hB5
                      go_wp2_with fail
                      have HREL : ∃ j' : Nat, j' ≤ n ∧ Value.int .i64 ((j : Int) + 1) = .int .i64 j' ∧ w5.ownsRow w4.heap.size 9 1 u15 ((gs.take j').filter (fun x => okB x && hit g.tag 1 x)).length (tcells ((gs.take j').filter (fun x => okB x && hit g.tag 1 x))) ∧ Below w4.heap.size w4 w5 := ⟨j + 1, by omega, by go_num, by rw [HTS'.eq]; exact HO5.out, HB5.out⟩
                      go_roundw
                      case rel => first | exact HREL | ((repeat apply Exists.intro); exact ⟨HREL, rfl⟩)
                      case measure => (simp [intOf]) <;> omega
                  · have i0 : decide ((j : Int) < (n : Int)) = false := by simp; omega
                    have HEQ : (gs.take j).filter (fun x => okB x && hit g.tag 1 x) = R.filter (hit g.tag 1) := by rw [HFL.out, List.take_of_length_le (by rw [HLN.eq]; omega)]
                    rw [HEQ] at HO hxl
                    clear HEQ
                    have HRr : Hid (FieldsL wr a3 m R) := HR2.out.below HBr.out
                    obtain ⟨e0, e1, e2, e3⟩ := HX.out
                    simp only [Nat.zero_add] at e0 e1 e2 e3
                    go_wp2_with fail
                    refine (texts_any a3 m cap3 g.tag R wr HRr.out (by omega)).mono ?_
                    rintro e w5 ⟨v5, rfl, hO5, hB5⟩
                    obtain ⟨a5, c5, rfl, hS5⟩ := own_strs hO5
                    obtain ⟨a6, c6, rfl, hS6⟩ := own_strs (owns_below38 HO.out hB5)
                    have HB5 : Hid (Below w2.heap.size w2 w5) := HBr.out.trans (hB5.mono hsr)
                    have hs5 := HB5.out.size
                    have HS5 : Hid (StrL w5 a5 _ (R.filter (hit g.tag 1))) := hS5
                    have HS6 : Hid (StrL w5 a6 _ (R.filter (hit g.tag 1))) := hS6
                    clear hO5 hB5 hS5 hS6 HO e0 e1 e2 e3
                    generalize R.filter (hit g.tag 1) = ts at *
                    generalize hmt : ts.length = mt at *
                    clear hmt
                    go_wp2_with fail
                    refine (sametexts_yes a5 mt c5 a6 c6 ts ts rfl w5 HS5.out HS6.out (by omega)).mono ?_
                    rintro e w6 ⟨rfl, hB6⟩
                    have HB6 : Hid (Below w2.heap.size w2 w6) := HB5.out.trans (hB6.mono hs5)
                    clear hB6
                    go_wp2_with fail
                    go_roundw
                    case rel => exact ⟨k2 + 1, by omega, by go_num, HB6.out⟩
                    case measure => (simp [intOf]) <;> omega
              · skip
                have qa : decide (g.kind = 1) = false := by simp; omega
                have qb : ((g.kind) == (1)) = false := by simp; omega
                clear hkd hok
                go_wp2_with fail
                refine E.mono ?_
                clear E c0 c1 c2 c3
                rintro e w4 ⟨rfl, hB4, hX4, hz4⟩
                have HB4 : Hid (Below w2.heap.size w2 w4) := HB.out.trans (hB4.mono hsz)
                obtain ⟨d0, d1, d2, d3⟩ := hX4
                simp only [Nat.zero_add] at d0 d1 d2 d3
                clear hB4
                go_wp2_with fail
                go_roundw
                case rel => exact ⟨k2 + 1, by omega, by go_num, HB4.out⟩
                case measure => (simp [intOf]) <;> omega
            · skip
              have he0 : ¬ encE [g] = 0 := fun h => hok (decide_eq_true h)
              generalize encS [g] = eT at *
              generalize encE [g] = eE at *
              have he1 : decide ((eE : Int) = 0) = false := by simp; omega
              have he2 : (((eE : Nat) : Int) == 0) = false := by simp; omega
              clear hok he0
              go_wp2_with fail
              refine E.mono ?_
              clear E c0 c1 c2 c3
              rintro e w4 ⟨rfl, hB4, hX4, hz4⟩
              have HB4 : Hid (Below w2.heap.size w2 w4) := HB.out.trans (hB4.mono hsz)
              obtain ⟨d0, d1, d2, d3⟩ := hX4
              simp only [Nat.zero_add] at d0 d1 d2 d3
              clear hB4
              go_wp2_with fail
              go_roundw
              case rel => exact ⟨k2 + 1, by omega, by go_num, HB4.out⟩
              case measure => (simp [intOf]) <;> omega
          · have i0 : decide ((k2 : Int) < (n : Int)) = false := by simp; omega
            have HBW : Hid (Below w.heap.size w wr) := HB2.out.trans (HB.out.mono hs2)
            have hsw : w.heap.size ≤ wr.heap.size := HBW.out.size
            go_wp2_with fail
            refine (works_any wr).mono ?_
            rintro e w3 ⟨rfl, hB3⟩
            have HFN : Below w.heap.size w w3 := HBW.out.trans (hB3.mono hsw)
            clear hB3
            go_wp2_with fail
            go_ret
            exact ⟨rfl, HFN⟩
end Go.Proofs.Ytpbobmhffdmmmaa
