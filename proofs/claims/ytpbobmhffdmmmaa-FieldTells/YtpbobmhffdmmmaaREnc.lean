/- Proved: the document's Encode answers the bytes of fields, or their first fault. -/
import Derived.Test.YtpbobmhffdmmmaaRBytes
import Derived.Test.YtpbobmhffdmmmaaEnc
namespace Go.Proofs.Ytpbobmhffdmmmaa
open Go.RowKit
theorem rbytes_any (f : Fv) (hg : Good f) (w : World) : Calls Try.prog 27 #[fv f] w fun e w' => ∃ v, e = .returned v ∧ w'.ownsRow w.heap.size 5 1 v (Fi.fb (fd f)).length ((Fi.fb (fd f)).map V8) ∧ Below w.heap.size w w' := by
  obtain ⟨h1, h2, h3, h4⟩ := hg
  obtain ⟨ft, fk, fn, fx⟩ := f
  simp only at h1 h2 h3 h4
  obtain ⟨t, rfl⟩ := Int.eq_ofNat_of_zero_le (show (0 : Int) ≤ ft by omega)
  rcases h4 with ⟨rfl, hn0, hn1, rfl⟩ | ⟨rfl, rfl⟩
  · obtain ⟨m, rfl⟩ := Int.eq_ofNat_of_zero_le hn0
    refine (rbytes_num w t m _ (by omega) (by omega)).mono ?_
    rintro e w' ⟨v', rfl, ho, hB⟩
    refine ⟨v', rfl, ?_, hB⟩
    rw [fb_num, List.length_cons, Nat.add_comm]
    exact ho
  · refine (rbytes_text w t 0 fx (by omega) (by omega)).mono ?_
    rintro e w' ⟨v', rfl, ho, hB⟩
    refine ⟨v', rfl, ?_, hB⟩
    rw [fb_text, List.length_cons, List.length_append, bl_length, show (Fi.varint fx.size).length + fx.size + 1 = 1 + (Fi.varint fx.size).length + fx.size by omega]
    exact ho
theorem own_slice {w : World} {N n : Nat} {v : Value} {vs : List Value} {e : TypeId} {k : Nat} (h : w.ownsRow N e k v n vs) : ∃ a cap, v = .slice a n cap := by
  rcases h.2 with ⟨hv, hn⟩ | ⟨g', cap', cur, hv, _⟩
  · exact ⟨none, 0, by rw [hn]; exact hv⟩
  · exact ⟨_, _, hv⟩
theorem FieldAt.dr {w : World} {b off : Nat} {f : Fv} (h : FieldAt w b off f) : FieldAt w.drew b off f := ⟨h.tag, h.kind, h.n, h.s⟩
/- the tag ahead of place k -/
def aheadTag (fs : List Fv) (k : Nat) : Int := if k = 0 then 0 else (fs.getD (k - 1) fv0).tag
theorem ahead_succ (fs : List Fv) (k : Nat) : aheadTag fs (k + 1) = (fs.getD k fv0).tag := by simp [aheadTag]
theorem not_lt_of_len {f : Fv} (h : Good f) : ¬ 4096 < f.s.size := by have := h.len; omega
theorem take_good {fs : List Fv} {k : Nat} (hk : k < fs.length) (h : ∀ f ∈ fs.take k, Good f) (hg : Good (fs.getD k fv0)) : ∀ f ∈ fs.take (k + 1), Good f := fun f hf => by
  rw [List.take_succ_eq_append_getElem hk] at hf
  rcases List.mem_append.1 hf with hf | hf
  · exact h f hf
  · rw [List.getD_eq_getElem?_getD, List.getElem?_eq_getElem hk] at hg
    rw [List.mem_singleton.1 hf]; exact hg
set_option maxHeartbeats 4000000 in
set_option maxRecDepth 20000 in
theorem renc_any (a : Option Addr) (len cap : Nat) (fs : List Fv) (w : World) (hF : FieldsL w a len fs) (hlen : len ≤ 9223372036854775807) (hbd : (enc fs).length ≤ 300000) :
    Calls Try.prog 11 #[.slice a len cap] w fun e w' => e = .returned (.tuple #[.string (encS fs), .int .i64 (encE fs : Nat)]) ∧ Below w.heap.size w w' := by
  have HF : Hid (FieldsL w a len fs) := hF
  clear hF
  go_enter Try.func11, Try.ntmps11
  go_wp2_with fail
  go_loopw [4, 5] (fun s4 s5 wr => ∃ k : Nat, k ≤ len ∧ s5 = .int .i64 k ∧ (∀ f ∈ fs.take k, Good f) ∧ fault 0 fs = fault (aheadTag fs k) (fs.drop k) ∧ wr.ownsRow w.heap.size 5 1 s4 (enc (fs.take k)).length ((enc (fs.take k)).map V8) ∧ Below w.heap.size w wr) (fun _ s5 _ => len - (intOf s5).toNat)
  case atStart => exact ⟨0, by omega, rfl, by simp, rfl, ⟨rfl, .inl ⟨rfl, rfl⟩⟩, Below.refl _ _⟩
  case round =>
    obtain ⟨k, hk, rfl, hgd, hfa, hO, hB⟩ := hrel
    have HB : Hid (Below w.heap.size w wr) := hB
    have HO : Hid (wr.ownsRow w.heap.size 5 1 _ (enc (fs.take k)).length ((enc (fs.take k)).map V8)) := hO
    have HGD : Hid (∀ f ∈ fs.take k, Good f) := hgd
    have HFA : Is (fault 0 fs) (fault (aheadTag fs k) (fs.drop k)) := ⟨hfa⟩
    have hsz := hB.size
    clear hB hO hgd hfa
    by_cases hlt : k < len
    · obtain ⟨b, off, rfl, hc⟩ : ∃ b off, a = some ⟨b, off, none⟩ ∧ ∀ i, i < len → FieldAt w b (off + i * 4) (fs.getD i fv0) := by
        rcases HF.out.2.2 with h | h
        · omega
        · exact h
      have hkl : k < fs.length := by rw [HF.out.1]; exact hlt
      have hbl : b < w.heap.size := block_lt_of_cell (hc k hlt).tag
      obtain ⟨c0, c1, c2, c3⟩ := (hc k hlt).below HB.out hbl
      have HPV : Hid (0 < k → FieldAt wr b (off + (k - 1) * 4) (fs.getD (k - 1) fv0)) := fun h0 => (hc (k - 1) (by omega)).below HB.out hbl
      have HNX : Is (fs.drop k) (fs.getD k fv0 :: fs.drop (k + 1)) := ⟨drop_getD fs k hkl⟩
      rw [HNX.eq] at HFA
      have HES : Is (enc (fs.take (k + 1))) (enc (fs.take k) ++ Fi.fb (fd (fs.getD k fv0))) := ⟨enc_take_succ fs k hkl⟩
      have hel := enc_take_le fs (k + 1)
      have HGS : Hid (Good (fs.getD k fv0) → ∀ f ∈ fs.take (k + 1), Good f) := take_good hkl HGD.out
      have HAS : Is (aheadTag fs (k + 1)) (fs.getD k fv0).tag := ⟨ahead_succ fs k⟩
      have HAH : Hid (0 < k → aheadTag fs k = (fs.getD (k - 1) fv0).tag) := fun h0 => by unfold aheadTag; rw [if_neg (by omega)]
      have HAZ : Hid (k = 0 → aheadTag fs k = 0) := fun h0 => by rw [h0]; rfl
      clear hc HNX hkl HF
      obtain ⟨f, hfd⟩ : ∃ f, f = fs.getD k fv0 := ⟨_, rfl⟩
      obtain ⟨pf, hpf⟩ : ∃ pf, pf = fs.getD (k - 1) fv0 := ⟨_, rfl⟩
      rw [← hfd] at c0 c1 c2 c3 HFA HES HGS HAS
      rw [← hpf] at HPV HAH
      clear hfd hpf
      have i0 : (k : Int) < (len : Int) := by omega
      have j0 : (0 : Int) ≤ (k : Int) := Int.natCast_nonneg _
      have HBX : Hid (Below w.heap.size w (boxed wr f)) := HB.out.trans (((Below.refl _ wr).alloc (Nat.le_refl _) _).mono hsz)
      by_cases hm : May f
      · obtain ⟨m1, m2, m3⟩ := id hm
        have d1 : decide (f.tag < 1) = false := by simp; omega
        have d2 : decide (63 < f.tag) = false := by simp; omega
        have d3 : decide (f.kind < 0) = false := by simp; omega
        have d4 : decide (1 < f.kind) = false := by simp; omega
        have d5 : decide (f.n < 0) = false := by simp; omega
        have d6 : decide (4611686018427387904 < f.n) = false := by simp; omega
        rcases m3 with ⟨k0, n0, n1, s0⟩ | ⟨k1, n0⟩
        · have b1 : (f.kind == 0) = true := by simp [k0]
          have b2 : f.s.toList.isEmpty = true := by rw [s0, ByteArray.toList_eq]; rfl
          have b3 : (f.kind == 1) = false := by rw [k0]; rfl
          clear k0 n0 n1 s0
          by_cases h2 : 4096 < f.s.size
          · have h2' : (4096 : Int) < (f.s.size : Int) := by omega
            rw [fault_long hm h2] at HFA
            have HE : Is (encE fs) 3 := ⟨by unfold encE; rw [HFA.eq]; rfl⟩
            have HS : Is (encS fs) ByteArray.empty := ⟨by unfold encS; rw [HE.eq]; rfl⟩
            clear HFA HES HGS HAS HAH HAZ HPV HGD HO
            go_wp2_with fail
            go_ret2
            exact ⟨by rw [HE.eq, HS.eq]; rfl, HBX.out⟩
          · have h2' : ¬ (4096 : Int) < (f.s.size : Int) := by omega
            have hgf : Good f := good_of hm h2
            by_cases hk0 : k = 0
            · have hkp : decide ((0 : Int) < (k : Int)) = false := by simp; omega
              rw [HAZ.out hk0, fault_next hm h2 (by omega)] at HFA
              have HK0 : Hid (k = 0) := hk0
              clear hk0
              have HS : Hid ((fun W : World => FieldAt W wr.heap.size 0 f ∧ (0 < k → FieldAt W b (off + (k - 1) * 4) pf)) (boxed wr f).drew) := ⟨(box_at wr f).dr, fun h0 => ((HPV.out h0).alloc _).dr⟩
              go_upto_region 10 with fail
              refine wp_region_held_drew (S := (fun W : World => FieldAt W wr.heap.size 0 f ∧ (0 < k → FieldAt W b (off + (k - 1) * 4) pf))) (by kernel_rfl) HS.out (fun _ => ?_)
              refine heldTake 0 (some 69) (.int .i64 (k : Int)) rfl rfl (by kernel_rfl) (by kernel_rfl) (by kernel_rfl) (fun _ _ _ h => h) (Or.inl ⟨by rfl, fun w hS => ?_⟩) HS.out ?_
              · (go_simp)
              simp only [Act.put, List.setIfInBounds_toArray, List.set_cons_zero, List.set_cons_succ]
              refine heldTake 1 (some 70) (.bool false) rfl rfl (by kernel_rfl) (by kernel_rfl) (by kernel_rfl) (fun _ _ _ h => h) (Or.inl ⟨by rfl, fun w hS => ?_⟩) HS.out ?_
              · (go_simp; exact HK0.out)
              simp only [Act.put, List.setIfInBounds_toArray, List.set_cons_zero, List.set_cons_succ]
              refine heldTake 2 (some 71) (.bool false) rfl rfl (by kernel_rfl) (by kernel_rfl) (by kernel_rfl) (fun _ _ _ h => h) (Or.inl ⟨by rfl, fun w hS => ?_⟩) HS.out ?_
              · (go_simp)
              simp only [Act.put, List.setIfInBounds_toArray, List.set_cons_zero, List.set_cons_succ]
              refine heldTake 3 (some 72) (undef) rfl rfl (by kernel_rfl) (by kernel_rfl) (by kernel_rfl) (fun _ _ _ h => h) (Or.inr ⟨by rfl, rfl⟩) HS.out ?_
              simp only [Act.put, List.setIfInBounds_toArray, List.set_cons_zero, List.set_cons_succ]
              refine heldTake 4 (some 73) (undef) rfl rfl (by kernel_rfl) (by kernel_rfl) (by kernel_rfl) (fun _ _ _ h => h) (Or.inr ⟨by rfl, rfl⟩) HS.out ?_
              simp only [Act.put, List.setIfInBounds_toArray, List.set_cons_zero, List.set_cons_succ]
              refine heldTake 5 (some 74) (undef) rfl rfl (by kernel_rfl) (by kernel_rfl) (by kernel_rfl) (fun _ _ _ h => h) (Or.inr ⟨by rfl, rfl⟩) HS.out ?_
              simp only [Act.put, List.setIfInBounds_toArray, List.set_cons_zero, List.set_cons_succ]
              refine heldTake 6 (some 75) (undef) rfl rfl (by kernel_rfl) (by kernel_rfl) (by kernel_rfl) (fun _ _ _ h => h) (Or.inr ⟨by rfl, rfl⟩) HS.out ?_
              simp only [Act.put, List.setIfInBounds_toArray, List.set_cons_zero, List.set_cons_succ]
              refine heldTake 7 (some 76) (undef) rfl rfl (by kernel_rfl) (by kernel_rfl) (by kernel_rfl) (fun _ _ _ h => h) (Or.inr ⟨by rfl, rfl⟩) HS.out ?_
              simp only [Act.put, List.setIfInBounds_toArray, List.set_cons_zero, List.set_cons_succ]
              refine heldTake 8 (some 77) (undef) rfl rfl (by kernel_rfl) (by kernel_rfl) (by kernel_rfl) (fun _ _ _ h => h) (Or.inr ⟨by rfl, rfl⟩) HS.out ?_
              simp only [Act.put, List.setIfInBounds_toArray, List.set_cons_zero, List.set_cons_succ]
              refine heldTake 9 (some 78) (undef) rfl rfl (by kernel_rfl) (by kernel_rfl) (by kernel_rfl) (fun _ _ _ h => h) (Or.inr ⟨by rfl, rfl⟩) HS.out ?_
              simp only [Act.put, List.setIfInBounds_toArray, List.set_cons_zero, List.set_cons_succ]
              refine heldTake 10 (some 79) (undef) rfl rfl (by kernel_rfl) (by kernel_rfl) (by kernel_rfl) (fun _ _ _ h => h) (Or.inr ⟨by rfl, rfl⟩) HS.out ?_
              simp only [Act.put, List.setIfInBounds_toArray, List.set_cons_zero, List.set_cons_succ]
              refine heldTake 11 (some 80) (undef) rfl rfl (by kernel_rfl) (by kernel_rfl) (by kernel_rfl) (fun _ _ _ h => h) (Or.inr ⟨by rfl, rfl⟩) HS.out ?_
              simp only [Act.put, List.setIfInBounds_toArray, List.set_cons_zero, List.set_cons_succ]
              refine heldTake 12 (some 81) (.bool false) rfl rfl (by kernel_rfl) (by kernel_rfl) (by kernel_rfl) (fun _ _ _ h => h) (Or.inl ⟨by rfl, fun w hS => ?_⟩) HS.out ?_
              · (go_simp)
              simp only [Act.put, List.setIfInBounds_toArray, List.set_cons_zero, List.set_cons_succ]
              refine wpAnyH_done (by kernel_rfl) ?_ _
              have HB0 : Hid (Below w.heap.size w (boxed wr f).drew) := HBX.out.drew
              have hs0 := HB0.out.size
              have HO0 : Hid ((boxed wr f).drew.ownsRow w.heap.size 5 1 _ (enc (fs.take k)).length ((enc (fs.take k)).map V8)) := owns8_below (own_alloc8 HO.out _) (Below.refl _ _).drew rfl
              have HF0 : Hid (FieldAt (boxed wr f).drew wr.heap.size 0 f) := HS.out.1
              obtain ⟨e0, e1, e2, e3⟩ := HF0.out
              simp only [Nat.zero_add] at e0 e1 e2 e3
              generalize (boxed wr f).drew = w5 at *
              clear HS HPV HAZ HAH
              go_wp2_with fail
              refine (rbytes_any f hgf w5).mono ?_
              rintro e w6 ⟨v6, rfl, hO6, hB6⟩
              obtain ⟨g6, cap6, rfl, _, _, hl6, hn6⟩ := own_at hO6 (by have := @Fi.fb_two (fd f); omega)
              have HN6 : Hid (∀ j u, ((Fi.fb (fd f)).map V8)[j]? = some u → w6.cell? ((⟨g6, 0, none⟩ : Addr).add j) = some u) := hn6
              have HO7 : Hid (w6.ownsRow w.heap.size 5 1 _ (enc (fs.take k)).length ((enc (fs.take k)).map V8)) := owns8_below HO0.out hB6 rfl
              have HB6 : Hid (Below w.heap.size w w6) := HB0.out.trans (hB6.mono hs0)
              have hs6 := HB6.out.size
              have HLS : Is (enc (fs.take (k + 1))).length ((enc (fs.take k)).length + (Fi.fb (fd f)).length) := ⟨by rw [HES.eq, List.length_append]⟩
              have hle6 : (enc (fs.take k)).length + (Fi.fb (fd f)).length ≤ 300000 := by have := HLS.eq; omega
              clear hO6 hB6 hl6 hn6 HO HO0 HB0 hs0
              obtain ⟨es, hes⟩ : ∃ es, es = enc (fs.take k) := ⟨_, rfl⟩
              obtain ⟨fbs, hfbs⟩ : ∃ fbs, fbs = Fi.fb (fd f) := ⟨_, rfl⟩
              rw [← hes] at HO7 HLS hle6 HES
              rw [← hfbs] at HN6 HLS hle6 HES ⊢
              clear hes hfbs
              go_wp2_with (first | (refine app_bytes rfl (.tmp 82) (.tmp 84) rfl w6 w.heap.size _ es.length es rfl HO7.out ⟨g6, 0, none⟩ fbs.length cap6 fbs rfl rfl HN6.out (by omega) hs6 ?_; intro v8 w8 hO8 hG8; have HO8 := (show Hid (w8.ownsRow w.heap.size 5 1 v8 (es.length + fbs.length) ((es ++ fbs).map V8)) from hO8); have HB8 : Hid (Below w.heap.size w w8) := HB6.out.trans (hG8.below HO7.out hs6); clear hO8 hG8))
              go_roundw
              case rel => exact ⟨k + 1, by omega, by go_num, HGS.out hgf, by rw [HAS.eq]; exact HFA.eq, by rw [HLS.eq, HES.eq]; exact HO8.out, HB8.out⟩
              case measure => (simp [intOf]) <;> omega
            · have hkp : 0 < k := by omega
              have hkp' : decide ((0 : Int) < (k : Int)) = true := by simp; omega
              by_cases h3 : f.tag < pf.tag
              · rw [HAH.out hkp, fault_state hm h2 h3] at HFA
                have h3' : decide (f.tag < pf.tag) = true := by simpa using h3
                have HE : Is (encE fs) 9 := ⟨by unfold encE; rw [HFA.eq]; rfl⟩
                have HSE : Is (encS fs) ByteArray.empty := ⟨by unfold encS; rw [HE.eq]; rfl⟩
                clear HFA HES HGS HAS HAH HAZ HGD HO
                have HS : Hid ((fun W : World => FieldAt W wr.heap.size 0 f ∧ (0 < k → FieldAt W b (off + (k - 1) * 4) pf)) (boxed wr f).drew) := ⟨(box_at wr f).dr, fun h0 => ((HPV.out h0).alloc _).dr⟩
                go_upto_region 10 with fail
                refine wp_region_held_drew (S := (fun W : World => FieldAt W wr.heap.size 0 f ∧ (0 < k → FieldAt W b (off + (k - 1) * 4) pf))) (by kernel_rfl) HS.out (fun _ => ?_)
                refine heldTake 0 (some 69) (.int .i64 (k : Int)) rfl rfl (by kernel_rfl) (by kernel_rfl) (by kernel_rfl) (fun _ _ _ h => h) (Or.inl ⟨by rfl, fun w hS => ?_⟩) HS.out ?_
                · (go_simp)
                simp only [Act.put, List.setIfInBounds_toArray, List.set_cons_zero, List.set_cons_succ]
                refine heldTake 1 (some 70) (.bool true) rfl rfl (by kernel_rfl) (by kernel_rfl) (by kernel_rfl) (fun _ _ _ h => h) (Or.inl ⟨by rfl, fun w hS => ?_⟩) HS.out ?_
                · (go_simp)
                simp only [Act.put, List.setIfInBounds_toArray, List.set_cons_zero, List.set_cons_succ]
                refine heldTake 2 (some 71) (.bool true) rfl rfl (by kernel_rfl) (by kernel_rfl) (by kernel_rfl) (fun _ _ _ h => h) (Or.inl ⟨by rfl, fun w hS => ?_⟩) HS.out ?_
                · (go_simp)
                simp only [Act.put, List.setIfInBounds_toArray, List.set_cons_zero, List.set_cons_succ]
                refine heldTake 3 (some 72) (.pointer (some ⟨wr.heap.size, 0, none⟩)) rfl rfl (by kernel_rfl) (by kernel_rfl) (by kernel_rfl) (fun _ _ _ h => h) (Or.inl ⟨by rfl, fun w hS => ?_⟩) HS.out ?_
                · (go_simp)
                simp only [Act.put, List.setIfInBounds_toArray, List.set_cons_zero, List.set_cons_succ]
                refine heldTake 4 (some 73) (.int .i64 f.tag) rfl rfl (by kernel_rfl) (by kernel_rfl) (by kernel_rfl) (fun _ _ _ h => h) (Or.inl ⟨by rfl, fun w hS => ?_⟩) HS.out ?_
                · (have c := hS.1.tag; go_simp)
                simp only [Act.put, List.setIfInBounds_toArray, List.set_cons_zero, List.set_cons_succ]
                refine heldTake 5 (some 74) (.slice (some ⟨b, off, none⟩) len cap) rfl rfl (by kernel_rfl) (by kernel_rfl) (by kernel_rfl) (fun _ _ _ h => h) (Or.inl ⟨by rfl, fun w hS => ?_⟩) HS.out ?_
                · (go_simp)
                simp only [Act.put, List.setIfInBounds_toArray, List.set_cons_zero, List.set_cons_succ]
                refine heldTake 6 (some 75) (.int .i64 (k : Int)) rfl rfl (by kernel_rfl) (by kernel_rfl) (by kernel_rfl) (fun _ _ _ h => h) (Or.inl ⟨by rfl, fun w hS => ?_⟩) HS.out ?_
                · (go_simp)
                simp only [Act.put, List.setIfInBounds_toArray, List.set_cons_zero, List.set_cons_succ]
                refine heldTake 7 (some 76) (.int .i64 ((k - 1 : Nat) : Int)) rfl rfl (by kernel_rfl) (by kernel_rfl) (by kernel_rfl) (fun _ _ _ h => h) (Or.inl ⟨by rfl, fun w hS => ?_⟩) HS.out ?_
                · ((go_simp); rw [IntKind.wrap_i64]; omega)
                simp only [Act.put, List.setIfInBounds_toArray, List.set_cons_zero, List.set_cons_succ]
                refine heldTake 8 (some 77) (.pointer (some ⟨b, off + (k - 1) * 4, none⟩)) rfl rfl (by kernel_rfl) (by kernel_rfl) (by kernel_rfl) (fun _ _ _ h => h) (Or.inl ⟨by rfl, fun w hS => ?_⟩) HS.out ?_
                · ((have h5 : ((k - 1 : Nat) : Int) < (len : Int) := by omega); (have h6 : (0 : Int) ≤ ((k - 1 : Nat) : Int) := by omega); go_simp)
                simp only [Act.put, List.setIfInBounds_toArray, List.set_cons_zero, List.set_cons_succ]
                refine heldTake 9 (some 78) (.pointer (some ⟨b, off + (k - 1) * 4, none⟩)) rfl rfl (by kernel_rfl) (by kernel_rfl) (by kernel_rfl) (fun _ _ _ h => h) (Or.inl ⟨by rfl, fun w hS => ?_⟩) HS.out ?_
                · (go_simp)
                simp only [Act.put, List.setIfInBounds_toArray, List.set_cons_zero, List.set_cons_succ]
                refine heldTake 10 (some 79) (.int .i64 pf.tag) rfl rfl (by kernel_rfl) (by kernel_rfl) (by kernel_rfl) (fun _ _ _ h => h) (Or.inl ⟨by rfl, fun w hS => ?_⟩) HS.out ?_
                · (have c := (hS.2 hkp).tag; go_simp)
                simp only [Act.put, List.setIfInBounds_toArray, List.set_cons_zero, List.set_cons_succ]
                refine heldTake 11 (some 80) (.bool true) rfl rfl (by kernel_rfl) (by kernel_rfl) (by kernel_rfl) (fun _ _ _ h => h) (Or.inl ⟨by rfl, fun w hS => ?_⟩) HS.out ?_
                · (go_simp)
                simp only [Act.put, List.setIfInBounds_toArray, List.set_cons_zero, List.set_cons_succ]
                refine heldTake 12 (some 81) (.bool true) rfl rfl (by kernel_rfl) (by kernel_rfl) (by kernel_rfl) (fun _ _ _ h => h) (Or.inl ⟨by rfl, fun w hS => ?_⟩) HS.out ?_
                · (go_simp)
                simp only [Act.put, List.setIfInBounds_toArray, List.set_cons_zero, List.set_cons_succ]
                refine wpAnyH_done (by kernel_rfl) ?_ _
                go_wp2_with fail
                go_ret2
                exact ⟨by rw [HE.eq, HSE.eq]; rfl, HBX.out.drew⟩
              · rw [HAH.out hkp, fault_next hm h2 h3] at HFA
                have h3' : decide (f.tag < pf.tag) = false := by simpa using h3
                have HS : Hid ((fun W : World => FieldAt W wr.heap.size 0 f ∧ (0 < k → FieldAt W b (off + (k - 1) * 4) pf)) (boxed wr f).drew) := ⟨(box_at wr f).dr, fun h0 => ((HPV.out h0).alloc _).dr⟩
                go_upto_region 10 with fail
                refine wp_region_held_drew (S := (fun W : World => FieldAt W wr.heap.size 0 f ∧ (0 < k → FieldAt W b (off + (k - 1) * 4) pf))) (by kernel_rfl) HS.out (fun _ => ?_)
                refine heldTake 0 (some 69) (.int .i64 (k : Int)) rfl rfl (by kernel_rfl) (by kernel_rfl) (by kernel_rfl) (fun _ _ _ h => h) (Or.inl ⟨by rfl, fun w hS => ?_⟩) HS.out ?_
                · (go_simp)
                simp only [Act.put, List.setIfInBounds_toArray, List.set_cons_zero, List.set_cons_succ]
                refine heldTake 1 (some 70) (.bool true) rfl rfl (by kernel_rfl) (by kernel_rfl) (by kernel_rfl) (fun _ _ _ h => h) (Or.inl ⟨by rfl, fun w hS => ?_⟩) HS.out ?_
                · (go_simp)
                simp only [Act.put, List.setIfInBounds_toArray, List.set_cons_zero, List.set_cons_succ]
                refine heldTake 2 (some 71) (.bool true) rfl rfl (by kernel_rfl) (by kernel_rfl) (by kernel_rfl) (fun _ _ _ h => h) (Or.inl ⟨by rfl, fun w hS => ?_⟩) HS.out ?_
                · (go_simp)
                simp only [Act.put, List.setIfInBounds_toArray, List.set_cons_zero, List.set_cons_succ]
                refine heldTake 3 (some 72) (.pointer (some ⟨wr.heap.size, 0, none⟩)) rfl rfl (by kernel_rfl) (by kernel_rfl) (by kernel_rfl) (fun _ _ _ h => h) (Or.inl ⟨by rfl, fun w hS => ?_⟩) HS.out ?_
                · (go_simp)
                simp only [Act.put, List.setIfInBounds_toArray, List.set_cons_zero, List.set_cons_succ]
                refine heldTake 4 (some 73) (.int .i64 f.tag) rfl rfl (by kernel_rfl) (by kernel_rfl) (by kernel_rfl) (fun _ _ _ h => h) (Or.inl ⟨by rfl, fun w hS => ?_⟩) HS.out ?_
                · (have c := hS.1.tag; go_simp)
                simp only [Act.put, List.setIfInBounds_toArray, List.set_cons_zero, List.set_cons_succ]
                refine heldTake 5 (some 74) (.slice (some ⟨b, off, none⟩) len cap) rfl rfl (by kernel_rfl) (by kernel_rfl) (by kernel_rfl) (fun _ _ _ h => h) (Or.inl ⟨by rfl, fun w hS => ?_⟩) HS.out ?_
                · (go_simp)
                simp only [Act.put, List.setIfInBounds_toArray, List.set_cons_zero, List.set_cons_succ]
                refine heldTake 6 (some 75) (.int .i64 (k : Int)) rfl rfl (by kernel_rfl) (by kernel_rfl) (by kernel_rfl) (fun _ _ _ h => h) (Or.inl ⟨by rfl, fun w hS => ?_⟩) HS.out ?_
                · (go_simp)
                simp only [Act.put, List.setIfInBounds_toArray, List.set_cons_zero, List.set_cons_succ]
                refine heldTake 7 (some 76) (.int .i64 ((k - 1 : Nat) : Int)) rfl rfl (by kernel_rfl) (by kernel_rfl) (by kernel_rfl) (fun _ _ _ h => h) (Or.inl ⟨by rfl, fun w hS => ?_⟩) HS.out ?_
                · ((go_simp); rw [IntKind.wrap_i64]; omega)
                simp only [Act.put, List.setIfInBounds_toArray, List.set_cons_zero, List.set_cons_succ]
                refine heldTake 8 (some 77) (.pointer (some ⟨b, off + (k - 1) * 4, none⟩)) rfl rfl (by kernel_rfl) (by kernel_rfl) (by kernel_rfl) (fun _ _ _ h => h) (Or.inl ⟨by rfl, fun w hS => ?_⟩) HS.out ?_
                · ((have h5 : ((k - 1 : Nat) : Int) < (len : Int) := by omega); (have h6 : (0 : Int) ≤ ((k - 1 : Nat) : Int) := by omega); go_simp)
                simp only [Act.put, List.setIfInBounds_toArray, List.set_cons_zero, List.set_cons_succ]
                refine heldTake 9 (some 78) (.pointer (some ⟨b, off + (k - 1) * 4, none⟩)) rfl rfl (by kernel_rfl) (by kernel_rfl) (by kernel_rfl) (fun _ _ _ h => h) (Or.inl ⟨by rfl, fun w hS => ?_⟩) HS.out ?_
                · (go_simp)
                simp only [Act.put, List.setIfInBounds_toArray, List.set_cons_zero, List.set_cons_succ]
                refine heldTake 10 (some 79) (.int .i64 pf.tag) rfl rfl (by kernel_rfl) (by kernel_rfl) (by kernel_rfl) (fun _ _ _ h => h) (Or.inl ⟨by rfl, fun w hS => ?_⟩) HS.out ?_
                · (have c := (hS.2 hkp).tag; go_simp)
                simp only [Act.put, List.setIfInBounds_toArray, List.set_cons_zero, List.set_cons_succ]
                refine heldTake 11 (some 80) (.bool false) rfl rfl (by kernel_rfl) (by kernel_rfl) (by kernel_rfl) (fun _ _ _ h => h) (Or.inl ⟨by rfl, fun w hS => ?_⟩) HS.out ?_
                · (go_simp)
                simp only [Act.put, List.setIfInBounds_toArray, List.set_cons_zero, List.set_cons_succ]
                refine heldTake 12 (some 81) (.bool false) rfl rfl (by kernel_rfl) (by kernel_rfl) (by kernel_rfl) (fun _ _ _ h => h) (Or.inl ⟨by rfl, fun w hS => ?_⟩) HS.out ?_
                · (go_simp)
                simp only [Act.put, List.setIfInBounds_toArray, List.set_cons_zero, List.set_cons_succ]
                refine wpAnyH_done (by kernel_rfl) ?_ _
                have HB0 : Hid (Below w.heap.size w (boxed wr f).drew) := HBX.out.drew
                have hs0 := HB0.out.size
                have HO0 : Hid ((boxed wr f).drew.ownsRow w.heap.size 5 1 _ (enc (fs.take k)).length ((enc (fs.take k)).map V8)) := owns8_below (own_alloc8 HO.out _) (Below.refl _ _).drew rfl
                have HF0 : Hid (FieldAt (boxed wr f).drew wr.heap.size 0 f) := HS.out.1
                obtain ⟨e0, e1, e2, e3⟩ := HF0.out
                simp only [Nat.zero_add] at e0 e1 e2 e3
                generalize (boxed wr f).drew = w5 at *
                clear HS HPV HAZ HAH
                go_wp2_with fail
                refine (rbytes_any f hgf w5).mono ?_
                rintro e w6 ⟨v6, rfl, hO6, hB6⟩
                obtain ⟨g6, cap6, rfl, _, _, hl6, hn6⟩ := own_at hO6 (by have := @Fi.fb_two (fd f); omega)
                have HN6 : Hid (∀ j u, ((Fi.fb (fd f)).map V8)[j]? = some u → w6.cell? ((⟨g6, 0, none⟩ : Addr).add j) = some u) := hn6
                have HO7 : Hid (w6.ownsRow w.heap.size 5 1 _ (enc (fs.take k)).length ((enc (fs.take k)).map V8)) := owns8_below HO0.out hB6 rfl
                have HB6 : Hid (Below w.heap.size w w6) := HB0.out.trans (hB6.mono hs0)
                have hs6 := HB6.out.size
                have HLS : Is (enc (fs.take (k + 1))).length ((enc (fs.take k)).length + (Fi.fb (fd f)).length) := ⟨by rw [HES.eq, List.length_append]⟩
                have hle6 : (enc (fs.take k)).length + (Fi.fb (fd f)).length ≤ 300000 := by have := HLS.eq; omega
                clear hO6 hB6 hl6 hn6 HO HO0 HB0 hs0
                obtain ⟨es, hes⟩ : ∃ es, es = enc (fs.take k) := ⟨_, rfl⟩
                obtain ⟨fbs, hfbs⟩ : ∃ fbs, fbs = Fi.fb (fd f) := ⟨_, rfl⟩
                rw [← hes] at HO7 HLS hle6 HES
                rw [← hfbs] at HN6 HLS hle6 HES ⊢
                clear hes hfbs
                go_wp2_with (first | (refine app_bytes rfl (.tmp 82) (.tmp 84) rfl w6 w.heap.size _ es.length es rfl HO7.out ⟨g6, 0, none⟩ fbs.length cap6 fbs rfl rfl HN6.out (by omega) hs6 ?_; intro v8 w8 hO8 hG8; have HO8 := (show Hid (w8.ownsRow w.heap.size 5 1 v8 (es.length + fbs.length) ((es ++ fbs).map V8)) from hO8); have HB8 : Hid (Below w.heap.size w w8) := HB6.out.trans (hG8.below HO7.out hs6); clear hO8 hG8))
                go_roundw
                case rel => exact ⟨k + 1, by omega, by go_num, HGS.out hgf, by rw [HAS.eq]; exact HFA.eq, by rw [HLS.eq, HES.eq]; exact HO8.out, HB8.out⟩
                case measure => (simp [intOf]) <;> omega
        · have b1 : (f.kind == 0) = false := by rw [k1]; rfl
          have b3 : (f.kind == 1) = true := by simp [k1]
          have b4 : (f.n != 0) = false := by simp [n0]
          clear k1 n0
          by_cases h2 : 4096 < f.s.size
          · have h2' : (4096 : Int) < (f.s.size : Int) := by omega
            rw [fault_long hm h2] at HFA
            have HE : Is (encE fs) 3 := ⟨by unfold encE; rw [HFA.eq]; rfl⟩
            have HS : Is (encS fs) ByteArray.empty := ⟨by unfold encS; rw [HE.eq]; rfl⟩
            clear HFA HES HGS HAS HAH HAZ HPV HGD HO
            go_wp2_with fail
            go_ret2
            exact ⟨by rw [HE.eq, HS.eq]; rfl, HBX.out⟩
          · have h2' : ¬ (4096 : Int) < (f.s.size : Int) := by omega
            have hgf : Good f := good_of hm h2
            by_cases hk0 : k = 0
            · have hkp : decide ((0 : Int) < (k : Int)) = false := by simp; omega
              rw [HAZ.out hk0, fault_next hm h2 (by omega)] at HFA
              have HK0 : Hid (k = 0) := hk0
              clear hk0
              have HS : Hid ((fun W : World => FieldAt W wr.heap.size 0 f ∧ (0 < k → FieldAt W b (off + (k - 1) * 4) pf)) (boxed wr f).drew) := ⟨(box_at wr f).dr, fun h0 => ((HPV.out h0).alloc _).dr⟩
              go_upto_region 10 with fail
              refine wp_region_held_drew (S := (fun W : World => FieldAt W wr.heap.size 0 f ∧ (0 < k → FieldAt W b (off + (k - 1) * 4) pf))) (by kernel_rfl) HS.out (fun _ => ?_)
              refine heldTake 0 (some 69) (.int .i64 (k : Int)) rfl rfl (by kernel_rfl) (by kernel_rfl) (by kernel_rfl) (fun _ _ _ h => h) (Or.inl ⟨by rfl, fun w hS => ?_⟩) HS.out ?_
              · (go_simp)
              simp only [Act.put, List.setIfInBounds_toArray, List.set_cons_zero, List.set_cons_succ]
              refine heldTake 1 (some 70) (.bool false) rfl rfl (by kernel_rfl) (by kernel_rfl) (by kernel_rfl) (fun _ _ _ h => h) (Or.inl ⟨by rfl, fun w hS => ?_⟩) HS.out ?_
              · (go_simp; exact HK0.out)
              simp only [Act.put, List.setIfInBounds_toArray, List.set_cons_zero, List.set_cons_succ]
              refine heldTake 2 (some 71) (.bool false) rfl rfl (by kernel_rfl) (by kernel_rfl) (by kernel_rfl) (fun _ _ _ h => h) (Or.inl ⟨by rfl, fun w hS => ?_⟩) HS.out ?_
              · (go_simp)
              simp only [Act.put, List.setIfInBounds_toArray, List.set_cons_zero, List.set_cons_succ]
              refine heldTake 3 (some 72) (undef) rfl rfl (by kernel_rfl) (by kernel_rfl) (by kernel_rfl) (fun _ _ _ h => h) (Or.inr ⟨by rfl, rfl⟩) HS.out ?_
              simp only [Act.put, List.setIfInBounds_toArray, List.set_cons_zero, List.set_cons_succ]
              refine heldTake 4 (some 73) (undef) rfl rfl (by kernel_rfl) (by kernel_rfl) (by kernel_rfl) (fun _ _ _ h => h) (Or.inr ⟨by rfl, rfl⟩) HS.out ?_
              simp only [Act.put, List.setIfInBounds_toArray, List.set_cons_zero, List.set_cons_succ]
              refine heldTake 5 (some 74) (undef) rfl rfl (by kernel_rfl) (by kernel_rfl) (by kernel_rfl) (fun _ _ _ h => h) (Or.inr ⟨by rfl, rfl⟩) HS.out ?_
              simp only [Act.put, List.setIfInBounds_toArray, List.set_cons_zero, List.set_cons_succ]
              refine heldTake 6 (some 75) (undef) rfl rfl (by kernel_rfl) (by kernel_rfl) (by kernel_rfl) (fun _ _ _ h => h) (Or.inr ⟨by rfl, rfl⟩) HS.out ?_
              simp only [Act.put, List.setIfInBounds_toArray, List.set_cons_zero, List.set_cons_succ]
              refine heldTake 7 (some 76) (undef) rfl rfl (by kernel_rfl) (by kernel_rfl) (by kernel_rfl) (fun _ _ _ h => h) (Or.inr ⟨by rfl, rfl⟩) HS.out ?_
              simp only [Act.put, List.setIfInBounds_toArray, List.set_cons_zero, List.set_cons_succ]
              refine heldTake 8 (some 77) (undef) rfl rfl (by kernel_rfl) (by kernel_rfl) (by kernel_rfl) (fun _ _ _ h => h) (Or.inr ⟨by rfl, rfl⟩) HS.out ?_
              simp only [Act.put, List.setIfInBounds_toArray, List.set_cons_zero, List.set_cons_succ]
              refine heldTake 9 (some 78) (undef) rfl rfl (by kernel_rfl) (by kernel_rfl) (by kernel_rfl) (fun _ _ _ h => h) (Or.inr ⟨by rfl, rfl⟩) HS.out ?_
              simp only [Act.put, List.setIfInBounds_toArray, List.set_cons_zero, List.set_cons_succ]
              refine heldTake 10 (some 79) (undef) rfl rfl (by kernel_rfl) (by kernel_rfl) (by kernel_rfl) (fun _ _ _ h => h) (Or.inr ⟨by rfl, rfl⟩) HS.out ?_
              simp only [Act.put, List.setIfInBounds_toArray, List.set_cons_zero, List.set_cons_succ]
              refine heldTake 11 (some 80) (undef) rfl rfl (by kernel_rfl) (by kernel_rfl) (by kernel_rfl) (fun _ _ _ h => h) (Or.inr ⟨by rfl, rfl⟩) HS.out ?_
              simp only [Act.put, List.setIfInBounds_toArray, List.set_cons_zero, List.set_cons_succ]
              refine heldTake 12 (some 81) (.bool false) rfl rfl (by kernel_rfl) (by kernel_rfl) (by kernel_rfl) (fun _ _ _ h => h) (Or.inl ⟨by rfl, fun w hS => ?_⟩) HS.out ?_
              · (go_simp)
              simp only [Act.put, List.setIfInBounds_toArray, List.set_cons_zero, List.set_cons_succ]
              refine wpAnyH_done (by kernel_rfl) ?_ _
              have HB0 : Hid (Below w.heap.size w (boxed wr f).drew) := HBX.out.drew
              have hs0 := HB0.out.size
              have HO0 : Hid ((boxed wr f).drew.ownsRow w.heap.size 5 1 _ (enc (fs.take k)).length ((enc (fs.take k)).map V8)) := owns8_below (own_alloc8 HO.out _) (Below.refl _ _).drew rfl
              have HF0 : Hid (FieldAt (boxed wr f).drew wr.heap.size 0 f) := HS.out.1
              obtain ⟨e0, e1, e2, e3⟩ := HF0.out
              simp only [Nat.zero_add] at e0 e1 e2 e3
              generalize (boxed wr f).drew = w5 at *
              clear HS HPV HAZ HAH
              go_wp2_with fail
              refine (rbytes_any f hgf w5).mono ?_
              rintro e w6 ⟨v6, rfl, hO6, hB6⟩
              obtain ⟨g6, cap6, rfl, _, _, hl6, hn6⟩ := own_at hO6 (by have := @Fi.fb_two (fd f); omega)
              have HN6 : Hid (∀ j u, ((Fi.fb (fd f)).map V8)[j]? = some u → w6.cell? ((⟨g6, 0, none⟩ : Addr).add j) = some u) := hn6
              have HO7 : Hid (w6.ownsRow w.heap.size 5 1 _ (enc (fs.take k)).length ((enc (fs.take k)).map V8)) := owns8_below HO0.out hB6 rfl
              have HB6 : Hid (Below w.heap.size w w6) := HB0.out.trans (hB6.mono hs0)
              have hs6 := HB6.out.size
              have HLS : Is (enc (fs.take (k + 1))).length ((enc (fs.take k)).length + (Fi.fb (fd f)).length) := ⟨by rw [HES.eq, List.length_append]⟩
              have hle6 : (enc (fs.take k)).length + (Fi.fb (fd f)).length ≤ 300000 := by have := HLS.eq; omega
              clear hO6 hB6 hl6 hn6 HO HO0 HB0 hs0
              obtain ⟨es, hes⟩ : ∃ es, es = enc (fs.take k) := ⟨_, rfl⟩
              obtain ⟨fbs, hfbs⟩ : ∃ fbs, fbs = Fi.fb (fd f) := ⟨_, rfl⟩
              rw [← hes] at HO7 HLS hle6 HES
              rw [← hfbs] at HN6 HLS hle6 HES ⊢
              clear hes hfbs
              go_wp2_with (first | (refine app_bytes rfl (.tmp 82) (.tmp 84) rfl w6 w.heap.size _ es.length es rfl HO7.out ⟨g6, 0, none⟩ fbs.length cap6 fbs rfl rfl HN6.out (by omega) hs6 ?_; intro v8 w8 hO8 hG8; have HO8 := (show Hid (w8.ownsRow w.heap.size 5 1 v8 (es.length + fbs.length) ((es ++ fbs).map V8)) from hO8); have HB8 : Hid (Below w.heap.size w w8) := HB6.out.trans (hG8.below HO7.out hs6); clear hO8 hG8))
              go_roundw
              case rel => exact ⟨k + 1, by omega, by go_num, HGS.out hgf, by rw [HAS.eq]; exact HFA.eq, by rw [HLS.eq, HES.eq]; exact HO8.out, HB8.out⟩
              case measure => (simp [intOf]) <;> omega
            · have hkp : 0 < k := by omega
              have hkp' : decide ((0 : Int) < (k : Int)) = true := by simp; omega
              by_cases h3 : f.tag < pf.tag
              · rw [HAH.out hkp, fault_state hm h2 h3] at HFA
                have h3' : decide (f.tag < pf.tag) = true := by simpa using h3
                have HE : Is (encE fs) 9 := ⟨by unfold encE; rw [HFA.eq]; rfl⟩
                have HSE : Is (encS fs) ByteArray.empty := ⟨by unfold encS; rw [HE.eq]; rfl⟩
                clear HFA HES HGS HAS HAH HAZ HGD HO
                have HS : Hid ((fun W : World => FieldAt W wr.heap.size 0 f ∧ (0 < k → FieldAt W b (off + (k - 1) * 4) pf)) (boxed wr f).drew) := ⟨(box_at wr f).dr, fun h0 => ((HPV.out h0).alloc _).dr⟩
                go_upto_region 10 with fail
                refine wp_region_held_drew (S := (fun W : World => FieldAt W wr.heap.size 0 f ∧ (0 < k → FieldAt W b (off + (k - 1) * 4) pf))) (by kernel_rfl) HS.out (fun _ => ?_)
                refine heldTake 0 (some 69) (.int .i64 (k : Int)) rfl rfl (by kernel_rfl) (by kernel_rfl) (by kernel_rfl) (fun _ _ _ h => h) (Or.inl ⟨by rfl, fun w hS => ?_⟩) HS.out ?_
                · (go_simp)
                simp only [Act.put, List.setIfInBounds_toArray, List.set_cons_zero, List.set_cons_succ]
                refine heldTake 1 (some 70) (.bool true) rfl rfl (by kernel_rfl) (by kernel_rfl) (by kernel_rfl) (fun _ _ _ h => h) (Or.inl ⟨by rfl, fun w hS => ?_⟩) HS.out ?_
                · (go_simp)
                simp only [Act.put, List.setIfInBounds_toArray, List.set_cons_zero, List.set_cons_succ]
                refine heldTake 2 (some 71) (.bool true) rfl rfl (by kernel_rfl) (by kernel_rfl) (by kernel_rfl) (fun _ _ _ h => h) (Or.inl ⟨by rfl, fun w hS => ?_⟩) HS.out ?_
                · (go_simp)
                simp only [Act.put, List.setIfInBounds_toArray, List.set_cons_zero, List.set_cons_succ]
                refine heldTake 3 (some 72) (.pointer (some ⟨wr.heap.size, 0, none⟩)) rfl rfl (by kernel_rfl) (by kernel_rfl) (by kernel_rfl) (fun _ _ _ h => h) (Or.inl ⟨by rfl, fun w hS => ?_⟩) HS.out ?_
                · (go_simp)
                simp only [Act.put, List.setIfInBounds_toArray, List.set_cons_zero, List.set_cons_succ]
                refine heldTake 4 (some 73) (.int .i64 f.tag) rfl rfl (by kernel_rfl) (by kernel_rfl) (by kernel_rfl) (fun _ _ _ h => h) (Or.inl ⟨by rfl, fun w hS => ?_⟩) HS.out ?_
                · (have c := hS.1.tag; go_simp)
                simp only [Act.put, List.setIfInBounds_toArray, List.set_cons_zero, List.set_cons_succ]
                refine heldTake 5 (some 74) (.slice (some ⟨b, off, none⟩) len cap) rfl rfl (by kernel_rfl) (by kernel_rfl) (by kernel_rfl) (fun _ _ _ h => h) (Or.inl ⟨by rfl, fun w hS => ?_⟩) HS.out ?_
                · (go_simp)
                simp only [Act.put, List.setIfInBounds_toArray, List.set_cons_zero, List.set_cons_succ]
                refine heldTake 6 (some 75) (.int .i64 (k : Int)) rfl rfl (by kernel_rfl) (by kernel_rfl) (by kernel_rfl) (fun _ _ _ h => h) (Or.inl ⟨by rfl, fun w hS => ?_⟩) HS.out ?_
                · (go_simp)
                simp only [Act.put, List.setIfInBounds_toArray, List.set_cons_zero, List.set_cons_succ]
                refine heldTake 7 (some 76) (.int .i64 ((k - 1 : Nat) : Int)) rfl rfl (by kernel_rfl) (by kernel_rfl) (by kernel_rfl) (fun _ _ _ h => h) (Or.inl ⟨by rfl, fun w hS => ?_⟩) HS.out ?_
                · ((go_simp); rw [IntKind.wrap_i64]; omega)
                simp only [Act.put, List.setIfInBounds_toArray, List.set_cons_zero, List.set_cons_succ]
                refine heldTake 8 (some 77) (.pointer (some ⟨b, off + (k - 1) * 4, none⟩)) rfl rfl (by kernel_rfl) (by kernel_rfl) (by kernel_rfl) (fun _ _ _ h => h) (Or.inl ⟨by rfl, fun w hS => ?_⟩) HS.out ?_
                · ((have h5 : ((k - 1 : Nat) : Int) < (len : Int) := by omega); (have h6 : (0 : Int) ≤ ((k - 1 : Nat) : Int) := by omega); go_simp)
                simp only [Act.put, List.setIfInBounds_toArray, List.set_cons_zero, List.set_cons_succ]
                refine heldTake 9 (some 78) (.pointer (some ⟨b, off + (k - 1) * 4, none⟩)) rfl rfl (by kernel_rfl) (by kernel_rfl) (by kernel_rfl) (fun _ _ _ h => h) (Or.inl ⟨by rfl, fun w hS => ?_⟩) HS.out ?_
                · (go_simp)
                simp only [Act.put, List.setIfInBounds_toArray, List.set_cons_zero, List.set_cons_succ]
                refine heldTake 10 (some 79) (.int .i64 pf.tag) rfl rfl (by kernel_rfl) (by kernel_rfl) (by kernel_rfl) (fun _ _ _ h => h) (Or.inl ⟨by rfl, fun w hS => ?_⟩) HS.out ?_
                · (have c := (hS.2 hkp).tag; go_simp)
                simp only [Act.put, List.setIfInBounds_toArray, List.set_cons_zero, List.set_cons_succ]
                refine heldTake 11 (some 80) (.bool true) rfl rfl (by kernel_rfl) (by kernel_rfl) (by kernel_rfl) (fun _ _ _ h => h) (Or.inl ⟨by rfl, fun w hS => ?_⟩) HS.out ?_
                · (go_simp)
                simp only [Act.put, List.setIfInBounds_toArray, List.set_cons_zero, List.set_cons_succ]
                refine heldTake 12 (some 81) (.bool true) rfl rfl (by kernel_rfl) (by kernel_rfl) (by kernel_rfl) (fun _ _ _ h => h) (Or.inl ⟨by rfl, fun w hS => ?_⟩) HS.out ?_
                · (go_simp)
                simp only [Act.put, List.setIfInBounds_toArray, List.set_cons_zero, List.set_cons_succ]
                refine wpAnyH_done (by kernel_rfl) ?_ _
                go_wp2_with fail
                go_ret2
                exact ⟨by rw [HE.eq, HSE.eq]; rfl, HBX.out.drew⟩
              · rw [HAH.out hkp, fault_next hm h2 h3] at HFA
                have h3' : decide (f.tag < pf.tag) = false := by simpa using h3
                have HS : Hid ((fun W : World => FieldAt W wr.heap.size 0 f ∧ (0 < k → FieldAt W b (off + (k - 1) * 4) pf)) (boxed wr f).drew) := ⟨(box_at wr f).dr, fun h0 => ((HPV.out h0).alloc _).dr⟩
                go_upto_region 10 with fail
                refine wp_region_held_drew (S := (fun W : World => FieldAt W wr.heap.size 0 f ∧ (0 < k → FieldAt W b (off + (k - 1) * 4) pf))) (by kernel_rfl) HS.out (fun _ => ?_)
                refine heldTake 0 (some 69) (.int .i64 (k : Int)) rfl rfl (by kernel_rfl) (by kernel_rfl) (by kernel_rfl) (fun _ _ _ h => h) (Or.inl ⟨by rfl, fun w hS => ?_⟩) HS.out ?_
                · (go_simp)
                simp only [Act.put, List.setIfInBounds_toArray, List.set_cons_zero, List.set_cons_succ]
                refine heldTake 1 (some 70) (.bool true) rfl rfl (by kernel_rfl) (by kernel_rfl) (by kernel_rfl) (fun _ _ _ h => h) (Or.inl ⟨by rfl, fun w hS => ?_⟩) HS.out ?_
                · (go_simp)
                simp only [Act.put, List.setIfInBounds_toArray, List.set_cons_zero, List.set_cons_succ]
                refine heldTake 2 (some 71) (.bool true) rfl rfl (by kernel_rfl) (by kernel_rfl) (by kernel_rfl) (fun _ _ _ h => h) (Or.inl ⟨by rfl, fun w hS => ?_⟩) HS.out ?_
                · (go_simp)
                simp only [Act.put, List.setIfInBounds_toArray, List.set_cons_zero, List.set_cons_succ]
                refine heldTake 3 (some 72) (.pointer (some ⟨wr.heap.size, 0, none⟩)) rfl rfl (by kernel_rfl) (by kernel_rfl) (by kernel_rfl) (fun _ _ _ h => h) (Or.inl ⟨by rfl, fun w hS => ?_⟩) HS.out ?_
                · (go_simp)
                simp only [Act.put, List.setIfInBounds_toArray, List.set_cons_zero, List.set_cons_succ]
                refine heldTake 4 (some 73) (.int .i64 f.tag) rfl rfl (by kernel_rfl) (by kernel_rfl) (by kernel_rfl) (fun _ _ _ h => h) (Or.inl ⟨by rfl, fun w hS => ?_⟩) HS.out ?_
                · (have c := hS.1.tag; go_simp)
                simp only [Act.put, List.setIfInBounds_toArray, List.set_cons_zero, List.set_cons_succ]
                refine heldTake 5 (some 74) (.slice (some ⟨b, off, none⟩) len cap) rfl rfl (by kernel_rfl) (by kernel_rfl) (by kernel_rfl) (fun _ _ _ h => h) (Or.inl ⟨by rfl, fun w hS => ?_⟩) HS.out ?_
                · (go_simp)
                simp only [Act.put, List.setIfInBounds_toArray, List.set_cons_zero, List.set_cons_succ]
                refine heldTake 6 (some 75) (.int .i64 (k : Int)) rfl rfl (by kernel_rfl) (by kernel_rfl) (by kernel_rfl) (fun _ _ _ h => h) (Or.inl ⟨by rfl, fun w hS => ?_⟩) HS.out ?_
                · (go_simp)
                simp only [Act.put, List.setIfInBounds_toArray, List.set_cons_zero, List.set_cons_succ]
                refine heldTake 7 (some 76) (.int .i64 ((k - 1 : Nat) : Int)) rfl rfl (by kernel_rfl) (by kernel_rfl) (by kernel_rfl) (fun _ _ _ h => h) (Or.inl ⟨by rfl, fun w hS => ?_⟩) HS.out ?_
                · ((go_simp); rw [IntKind.wrap_i64]; omega)
                simp only [Act.put, List.setIfInBounds_toArray, List.set_cons_zero, List.set_cons_succ]
                refine heldTake 8 (some 77) (.pointer (some ⟨b, off + (k - 1) * 4, none⟩)) rfl rfl (by kernel_rfl) (by kernel_rfl) (by kernel_rfl) (fun _ _ _ h => h) (Or.inl ⟨by rfl, fun w hS => ?_⟩) HS.out ?_
                · ((have h5 : ((k - 1 : Nat) : Int) < (len : Int) := by omega); (have h6 : (0 : Int) ≤ ((k - 1 : Nat) : Int) := by omega); go_simp)
                simp only [Act.put, List.setIfInBounds_toArray, List.set_cons_zero, List.set_cons_succ]
                refine heldTake 9 (some 78) (.pointer (some ⟨b, off + (k - 1) * 4, none⟩)) rfl rfl (by kernel_rfl) (by kernel_rfl) (by kernel_rfl) (fun _ _ _ h => h) (Or.inl ⟨by rfl, fun w hS => ?_⟩) HS.out ?_
                · (go_simp)
                simp only [Act.put, List.setIfInBounds_toArray, List.set_cons_zero, List.set_cons_succ]
                refine heldTake 10 (some 79) (.int .i64 pf.tag) rfl rfl (by kernel_rfl) (by kernel_rfl) (by kernel_rfl) (fun _ _ _ h => h) (Or.inl ⟨by rfl, fun w hS => ?_⟩) HS.out ?_
                · (have c := (hS.2 hkp).tag; go_simp)
                simp only [Act.put, List.setIfInBounds_toArray, List.set_cons_zero, List.set_cons_succ]
                refine heldTake 11 (some 80) (.bool false) rfl rfl (by kernel_rfl) (by kernel_rfl) (by kernel_rfl) (fun _ _ _ h => h) (Or.inl ⟨by rfl, fun w hS => ?_⟩) HS.out ?_
                · (go_simp)
                simp only [Act.put, List.setIfInBounds_toArray, List.set_cons_zero, List.set_cons_succ]
                refine heldTake 12 (some 81) (.bool false) rfl rfl (by kernel_rfl) (by kernel_rfl) (by kernel_rfl) (fun _ _ _ h => h) (Or.inl ⟨by rfl, fun w hS => ?_⟩) HS.out ?_
                · (go_simp)
                simp only [Act.put, List.setIfInBounds_toArray, List.set_cons_zero, List.set_cons_succ]
                refine wpAnyH_done (by kernel_rfl) ?_ _
                have HB0 : Hid (Below w.heap.size w (boxed wr f).drew) := HBX.out.drew
                have hs0 := HB0.out.size
                have HO0 : Hid ((boxed wr f).drew.ownsRow w.heap.size 5 1 _ (enc (fs.take k)).length ((enc (fs.take k)).map V8)) := owns8_below (own_alloc8 HO.out _) (Below.refl _ _).drew rfl
                have HF0 : Hid (FieldAt (boxed wr f).drew wr.heap.size 0 f) := HS.out.1
                obtain ⟨e0, e1, e2, e3⟩ := HF0.out
                simp only [Nat.zero_add] at e0 e1 e2 e3
                generalize (boxed wr f).drew = w5 at *
                clear HS HPV HAZ HAH
                go_wp2_with fail
                refine (rbytes_any f hgf w5).mono ?_
                rintro e w6 ⟨v6, rfl, hO6, hB6⟩
                obtain ⟨g6, cap6, rfl, _, _, hl6, hn6⟩ := own_at hO6 (by have := @Fi.fb_two (fd f); omega)
                have HN6 : Hid (∀ j u, ((Fi.fb (fd f)).map V8)[j]? = some u → w6.cell? ((⟨g6, 0, none⟩ : Addr).add j) = some u) := hn6
                have HO7 : Hid (w6.ownsRow w.heap.size 5 1 _ (enc (fs.take k)).length ((enc (fs.take k)).map V8)) := owns8_below HO0.out hB6 rfl
                have HB6 : Hid (Below w.heap.size w w6) := HB0.out.trans (hB6.mono hs0)
                have hs6 := HB6.out.size
                have HLS : Is (enc (fs.take (k + 1))).length ((enc (fs.take k)).length + (Fi.fb (fd f)).length) := ⟨by rw [HES.eq, List.length_append]⟩
                have hle6 : (enc (fs.take k)).length + (Fi.fb (fd f)).length ≤ 300000 := by have := HLS.eq; omega
                clear hO6 hB6 hl6 hn6 HO HO0 HB0 hs0
                obtain ⟨es, hes⟩ : ∃ es, es = enc (fs.take k) := ⟨_, rfl⟩
                obtain ⟨fbs, hfbs⟩ : ∃ fbs, fbs = Fi.fb (fd f) := ⟨_, rfl⟩
                rw [← hes] at HO7 HLS hle6 HES
                rw [← hfbs] at HN6 HLS hle6 HES ⊢
                clear hes hfbs
                go_wp2_with (first | (refine app_bytes rfl (.tmp 82) (.tmp 84) rfl w6 w.heap.size _ es.length es rfl HO7.out ⟨g6, 0, none⟩ fbs.length cap6 fbs rfl rfl HN6.out (by omega) hs6 ?_; intro v8 w8 hO8 hG8; have HO8 := (show Hid (w8.ownsRow w.heap.size 5 1 v8 (es.length + fbs.length) ((es ++ fbs).map V8)) from hO8); have HB8 : Hid (Below w.heap.size w w8) := HB6.out.trans (hG8.below HO7.out hs6); clear hO8 hG8))
                go_roundw
                case rel => exact ⟨k + 1, by omega, by go_num, HGS.out hgf, by rw [HAS.eq]; exact HFA.eq, by rw [HLS.eq, HES.eq]; exact HO8.out, HB8.out⟩
                case measure => (simp [intOf]) <;> omega
      · rw [fault_arg hm] at HFA
        have HE : Is (encE fs) 2 := ⟨by unfold encE; rw [HFA.eq]; rfl⟩
        have HS : Is (encS fs) ByteArray.empty := ⟨by unfold encS; rw [HE.eq]; rfl⟩
        clear HFA HES HGS HAS HAH HAZ HPV HGD HO
        by_cases d1' : f.tag < 1
        · have d1 : decide (f.tag < 1) = true := by simp; omega
          go_wp2_with fail
          go_ret2
          exact ⟨by rw [HE.eq, HS.eq]; rfl, HBX.out⟩
        · have d1 : decide (f.tag < 1) = false := by simp; omega
          by_cases d2' : 63 < f.tag
          · have d2 : decide (63 < f.tag) = true := by simp; omega
            go_wp2_with fail
            go_ret2
            exact ⟨by rw [HE.eq, HS.eq]; rfl, HBX.out⟩
          · have d2 : decide (63 < f.tag) = false := by simp; omega
            by_cases d3' : f.kind < 0
            · have d3 : decide (f.kind < 0) = true := by simp; omega
              go_wp2_with fail
              go_ret2
              exact ⟨by rw [HE.eq, HS.eq]; rfl, HBX.out⟩
            · have d3 : decide (f.kind < 0) = false := by simp; omega
              by_cases d4' : 1 < f.kind
              · have d4 : decide (1 < f.kind) = true := by simp; omega
                go_wp2_with fail
                go_ret2
                exact ⟨by rw [HE.eq, HS.eq]; rfl, HBX.out⟩
              · have d4 : decide (1 < f.kind) = false := by simp; omega
                by_cases d5' : f.n < 0
                · have d5 : decide (f.n < 0) = true := by simp; omega
                  go_wp2_with fail
                  go_ret2
                  exact ⟨by rw [HE.eq, HS.eq]; rfl, HBX.out⟩
                · have d5 : decide (f.n < 0) = false := by simp; omega
                  by_cases d6' : 4611686018427387904 < f.n
                  · have d6 : decide (4611686018427387904 < f.n) = true := by simp; omega
                    go_wp2_with fail
                    go_ret2
                    exact ⟨by rw [HE.eq, HS.eq]; rfl, HBX.out⟩
                  · have d6 : decide (4611686018427387904 < f.n) = false := by simp; omega
                    by_cases hk0 : f.kind = 0
                    · have hne : f.s.toList.isEmpty = false := nonempty_text (fun e => hm ⟨by omega, by omega, .inl ⟨hk0, by omega, by omega, e⟩⟩)
                      have hne2 : ¬ f.s = ByteArray.empty := fun e => hm ⟨by omega, by omega, .inl ⟨hk0, by omega, by omega, e⟩⟩
                      have hne3 : ¬ f.s = ⟨#[]⟩ := hne2
                      have b1 : (f.kind == 0) = true := by simpa using hk0
                      clear hk0
                      go_wp2_with fail
                      go_ret2
                      exact ⟨by rw [HE.eq, HS.eq]; rfl, HBX.out⟩
                    · have hk1 : f.kind = 1 := by omega
                      have hn0 : ¬ f.n = 0 := fun e => hm ⟨by omega, by omega, .inr ⟨hk1, e⟩⟩
                      have hn0' : (f.n == 0) = false := by simpa using hn0
                      have b1 : (f.kind == 0) = false := by simpa using hk0
                      have b3 : (f.kind == 1) = true := by simpa using hk1
                      have b4 : (f.n != 0) = true := by simpa using hn0
                      clear hk0 hk1
                      go_wp2_with fail
                      go_ret2
                      exact ⟨by rw [HE.eq, HS.eq]; rfl, HBX.out⟩
    · have hkl : k = len := by omega
      have i0 : ¬ (k : Int) < (len : Int) := by omega
      have HT : Is (fs.take k) fs := ⟨List.take_of_length_le (by rw [HF.out.1]; omega)⟩
      have HDR : Is (fs.drop k) [] := ⟨List.drop_eq_nil_of_le (by rw [HF.out.1]; omega)⟩
      rw [HT.eq] at HO HGD
      rw [HDR.eq] at HFA
      have hf0 : fault 0 fs = 0 := HFA.eq.trans rfl
      clear HFA hkl HT HDR
      obtain ⟨sa, sc, hsv⟩ := own_slice HO.out
      subst hsv
      by_cases hbig : 65536 < (enc fs).length
      · have hbig' : (65536 : Int) < ((enc fs).length : Int) := by omega
        have HE : Is (encE fs) 3 := ⟨by unfold encE; rw [if_neg (by simp [hf0]), if_pos hbig]⟩
        have HS : Is (encS fs) ByteArray.empty := ⟨by unfold encS; rw [HE.eq]; rfl⟩
        clear hf0
        generalize (enc fs).length = el at *
        go_wp2_with fail
        go_ret2
        exact ⟨by rw [HE.eq, HS.eq]; rfl, HB.out⟩
      · have hbig' : ¬ (65536 : Int) < ((enc fs).length : Int) := by omega
        have HE : Is (encE fs) 0 := ⟨by unfold encE; rw [if_neg (by simp [hf0]), if_neg hbig]⟩
        have HS : Is (encS fs) (tb (enc fs)) := ⟨by unfold encS; rw [if_pos HE.eq]⟩
        have HST := str_of_own HO.out (enc_lt HGD.out)
        clear hf0
        go_wp2_with fail
        go_ret2
        exact ⟨by rw [HE.eq, HS.eq]; rfl, HB.out⟩
end Go.Proofs.Ytpbobmhffdmmmaa
