/- Proved: Encode answers the bytes of fields, or their first fault. -/
import Derived.Test.YtpbobmhffdmmmaaFault
namespace Go.Proofs.Ytpbobmhffdmmmaa
open Go.RowKit
abbrev enc (fs : List Fv) : List Nat := Fi.enc (fs.map fd)
def encE (fs : List Fv) : Nat := if fault 0 fs ≠ 0 then fault 0 fs else if 65536 < (enc fs).length then 3 else 0
def encS (fs : List Fv) : ByteArray := if encE fs = 0 then tb (enc fs) else ByteArray.empty
theorem Good.may {f : Fv} (h : Good f) : May f := ⟨h.tag1, h.tag63, h.kind⟩
theorem good_of {f : Fv} (h : May f) (h2 : ¬ 4096 < f.s.size) : Good f := ⟨h.1, h.2.1, by omega, h.2.2⟩
theorem fault_good : ∀ (p : Int) (fs : List Fv), fault p fs = 0 → ∀ f ∈ fs, Good f
  | _, [], _, f, hf => by cases hf
  | p, g :: l, h, f, hf => by
    by_cases h1 : May g
    · by_cases h2 : 4096 < g.s.size
      · rw [fault_long h1 h2] at h; omega
      · by_cases h3 : g.tag < p
        · rw [fault_state h1 h2 h3] at h; omega
        · rw [fault_next h1 h2 h3] at h
          rcases List.mem_cons.1 hf with rfl | hf
          · exact good_of h1 h2
          · exact fault_good _ l h f hf
    · rw [fault_arg h1] at h; omega
theorem enc_take_succ (fs : List Fv) (k : Nat) (hk : k < fs.length) : enc (fs.take (k + 1)) = enc (fs.take k) ++ Fi.fb (fd (fs.getD k fv0)) := by
  rw [enc, List.take_succ_eq_append_getElem hk, List.getD_eq_getElem?_getD, List.getElem?_eq_getElem hk, Option.getD_some, List.map_append, Fi.enc_append]
  simp [Fi.enc]
theorem enc_take_le (fs : List Fv) (k : Nat) : (enc (fs.take k)).length ≤ (enc fs).length := by
  conv => rhs; rw [← List.take_append_drop k fs]
  unfold enc
  rw [List.map_append, Fi.enc_append, List.length_append]
  omega
theorem enc_lt {fs : List Fv} (h : ∀ f ∈ fs, Good f) : ∀ x ∈ enc fs, x < 256 := fun x hx => by
  obtain ⟨g, hg, hx⟩ := List.mem_flatMap.1 hx
  obtain ⟨f, hf, rfl⟩ := List.mem_map.1 hg
  exact Fi.fb_lt (h f hf).ok x hx
theorem getD_mem (fs : List Fv) (k : Nat) (hk : k < fs.length) : fs.getD k fv0 ∈ fs := by
  rw [List.getD_eq_getElem?_getD, List.getElem?_eq_getElem hk]; exact List.getElem_mem hk
set_option maxHeartbeats 1000000 in
set_option maxRecDepth 20000 in
theorem enc_any (a : Option Addr) (len cap : Nat) (fs : List Fv) (w : World) (hF : FieldsL w a len fs) (hlen : len ≤ 9223372036854775807) :
    Calls Try.prog 10 #[.slice a len cap] w fun e w' => e = .returned (.tuple #[.string (encS fs), .int .i64 (encE fs : Nat)]) ∧ Below w.heap.size w w' := by
  have HF : Hid (FieldsL w a len fs) := hF
  clear hF
  by_cases hf0 : fault 0 fs = 0
  · have HE : Is (encE fs) (if 65536 < (enc fs).length then 3 else 0) := ⟨by simp [encE, hf0]⟩
    have HG : Hid (∀ f ∈ fs, Good f) := fault_good 0 fs hf0
    have FF := ffault_any a len cap fs w HF.out hlen
    rw [hf0] at FF
    go_enter Try.func10, Try.ntmps10
    go_wp2_with fail
    refine FF.mono ?_
    rintro e w1 ⟨rfl, hB1⟩
    have HB1 : Hid (Below w.heap.size w w1) := hB1
    have hs1 := hB1.size
    clear hB1 FF
    go_wp2_with fail
    go_loopw [5, 15] (fun s5 s15 wr => ∃ k : Nat, k ≤ len ∧ s15 = .int .i64 k ∧ (enc (fs.take k)).length ≤ 65536 ∧ wr.ownsRow w.heap.size 5 1 s5 (enc (fs.take k)).length ((enc (fs.take k)).map V8) ∧ Below w.heap.size w wr) (fun _ s15 _ => len - (intOf s15).toNat)
    case atStart => exact ⟨0, by omega, rfl, by simp [enc, Fi.enc], ⟨by simp [enc, Fi.enc], .inl ⟨rfl, by simp [enc, Fi.enc]⟩⟩, HB1.out⟩
    case round =>
      obtain ⟨k, hk, rfl, hle, hO, hB⟩ := hrel
      have HB : Hid (Below w.heap.size w wr) := hB
      have HO : Hid (wr.ownsRow w.heap.size 5 1 _ (enc (fs.take k)).length ((enc (fs.take k)).map V8)) := hO
      have hsz := hB.size
      clear hB hO
      by_cases hlt : k < len
      · obtain ⟨b, off, rfl, hc⟩ : ∃ b off, a = some ⟨b, off, none⟩ ∧ ∀ i, i < len → FieldAt w b (off + i * 4) (fs.getD i fv0) := by
          rcases HF.out.2.2 with h | h
          · omega
          · exact h
        have hbl : b < w.heap.size := block_lt_of_cell (hc k hlt).tag
        obtain ⟨c0, c1, c2, c3⟩ := (hc k hlt).below HB.out hbl
        have HNX : Is (enc (fs.take (k + 1))) (enc (fs.take k) ++ Fi.fb (fd (fs.getD k fv0))) := ⟨enc_take_succ fs k (by rw [HF.out.1]; exact hlt)⟩
        have hgd := HG.out _ (getD_mem fs k (by rw [HF.out.1]; exact hlt))
        have HTL : Hid ((enc (fs.take (k + 1))).length ≤ (enc fs).length) := enc_take_le fs (k + 1)
        generalize fs.getD k fv0 = f at *
        generalize enc (fs.take k) = es at *
        obtain ⟨es1, hes1⟩ : ∃ es1, es1 = enc (fs.take (k + 1)) := ⟨_, rfl⟩
        have HES : Is es1 (enc (fs.take (k + 1))) := ⟨hes1⟩
        rw [← hes1] at HNX HTL
        clear hes1
        have HLE : Is es1.length (es.length + (Fi.fb (fd f)).length) := ⟨by rw [HNX.eq, List.length_append]⟩
        clear hc
        have i0 : (k : Int) < (len : Int) := by omega
        have j0 : (0 : Int) ≤ (k : Int) := Int.natCast_nonneg _
        go_wp2_with fail
        refine (afield_any f hgd _ w.heap.size _ es.length es (own_alloc8 HO.out _) (by simp; omega) (by omega)).mono ?_
        rintro e w2 ⟨v2, rfl, hO2, hG2⟩
        have HB2 : Hid (Below w.heap.size w w2) := HB.out.trans (((Below.refl _ wr).alloc (Nat.le_refl _) _).mono hsz |>.trans (hG2.below (own_alloc8 HO.out _) (by simp; omega)))
        clear hG2 HO HB
        rw [← HLE.eq, ← HNX.eq] at hO2
        have hpos : 0 < es1.length := by
          have h2 := @Fi.fb_two (fd f)
          have := HLE.eq
          omega
        have HO2 : Hid (w2.ownsRow w.heap.size 5 1 v2 es1.length (es1.map V8)) := hO2
        obtain ⟨g2, cap2, rfl, _⟩ := own_at hO2 hpos
        clear hO2
        by_cases hbig : 65536 < es1.length
        · have hbig' : (65536 : Int) < (es1.length : Int) := by omega
          have HE3 : Is (encE fs) 3 := ⟨by rw [HE.eq, if_pos (Nat.lt_of_lt_of_le hbig HTL.out)]⟩
          go_wp2_with fail
          go_ret2
          exact ⟨by rw [encS, HE3.eq]; rfl, HB2.out⟩
        · have hbig' : ¬ (65536 : Int) < (es1.length : Int) := by omega
          have HFN : Hid (es1.length ≤ 65536) := Nat.le_of_not_lt hbig
          go_wp2_with fail
          go_roundw
          case rel =>
            refine ⟨k + 1, by omega, by go_num, ?_, ?_, HB2.out⟩
            · rw [← HES.eq]; exact HFN.out
            · rw [← HES.eq]; exact HO2.out
          case measure => (simp [intOf]) <;> omega
      · have hkl : k = len := by omega
        have i0 : ¬ (k : Int) < (len : Int) := by omega
        have HT : Is (enc (fs.take k)) (enc fs) := ⟨by rw [List.take_of_length_le (by rw [HF.out.1]; omega)]⟩
        rw [HT.eq] at HO hle
        have HE0 : Is (encE fs) 0 := ⟨by rw [HE.eq, if_neg (by omega)]⟩
        have HST := str_of_own HO.out (enc_lt HG.out)
        have HS : Is (encS fs) (tb (enc fs)) := ⟨by rw [encS, if_pos HE0.eq]⟩
        clear hkl HT
        go_wp2_with fail
        go_ret2
        exact ⟨by rw [HS.eq, HE0.eq]; rfl, HB.out⟩
  · have HE : Is (encE fs) (fault 0 fs) := ⟨by simp [encE, hf0]⟩
    have HS : Is (encS fs) ByteArray.empty := ⟨by rw [encS, if_neg (by rw [HE.eq]; exact hf0)]⟩
    have h0 : ¬ ((fault 0 fs : Nat) : Int) = 0 := by omega
    have FF := ffault_any a len cap fs w HF.out hlen
    go_enter Try.func10, Try.ntmps10
    go_wp2_with fail
    refine FF.mono ?_
    rintro e w1 ⟨rfl, hB1⟩
    have HB1 : Hid (Below w.heap.size w w1) := hB1
    clear hB1 FF
    generalize fault 0 fs = ft at *
    go_wp2
    go_ret2
    exact ⟨by rw [HE.eq, HS.eq]; rfl, HB1.out⟩
end Go.Proofs.Ytpbobmhffdmmmaa
