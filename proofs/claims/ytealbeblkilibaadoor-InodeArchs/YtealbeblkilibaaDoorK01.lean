/- Proved: the laws' own copy of at most twelve fields. -/
import Derived.Test.YtealbeblkilibaaDoorJ04
import Derived.Test.YtealbeblkilibaaDoorJ02
import Derived.Test.YtealbeblkilibaaDoorJ10
import Derived.Test.YtealbeblkilibaaDoorJ12
import Derived.Test.YtealbeblkilibaaDoorJ09
import Derived.Lib.SlBytesConst
import Derived.Test.YtealbeblkilibaaDoorJ13
namespace Go.Proofs.YtealbeblkilibaaDoor
open Go.RowKit
open FI (Fv fv0 FieldsL FieldAt fcells append_field field_new)
def cutF (f : Fv) : Fv := ⟨f.tag, f.kind, f.n, f.s.extract 0 (min (f.s.size : Int) 100).toNat⟩
def cutFs (fs : List Fv) : List Fv := (fs.take 12).map cutF
theorem cutF_fits {f : Fv} (h : f.Fits) : (cutF f).Fits := ⟨h.tag, h.kind, h.n, by
  show (f.s.extract 0 (min (f.s.size : Int) 100).toNat).size ≤ _
  rw [ByteArray.size_extract]; omega⟩
theorem cutFs_fits {fs : List Fv} (h : ∀ f ∈ fs, f.Fits) : ∀ f ∈ cutFs fs, f.Fits := fun x hx => by
  obtain ⟨y, hy, rfl⟩ := List.mem_map.1 hx
  exact cutF_fits (h y (List.mem_of_mem_take hy))
theorem cutFs_length (fs : List Fv) : (cutFs fs).length ≤ 12 := by
  unfold cutFs; rw [List.length_map, List.length_take]; omega
theorem cutF_step (fs : List Fv) (k : Nat) (hk : k < fs.length) : (fs.take (k + 1)).map cutF = (fs.take k).map cutF ++ [cutF (fs.getD k fv0)] := by
  rw [List.take_succ_eq_append_getElem hk, List.getD_eq_getElem?_getD, List.getElem?_eq_getElem hk, List.map_append]; rfl
theorem own_nilF (w : World) (N : Nat) : w.ownsRow N 79 4 (.slice none 0 0) 0 (([] : List Fv).flatMap fcells) := ⟨rfl, .inl ⟨rfl, rfl⟩⟩
set_option maxHeartbeats 2000000 in
set_option maxRecDepth 20000 in
theorem few_any (a : Option Addr) (len cap : Nat) (fs : List Fv) (w : World) (hF : FieldsL w a len fs) (hlen : len ≤ 9223372036854775807) :
    Calls Tryd.prog 15 #[.slice a len cap] w fun e w' => ∃ v, e = .returned v ∧ w'.ownsRow w.heap.size 79 4 v (cutFs fs).length ((cutFs fs).flatMap fcells) ∧ Below w.heap.size w w' := by
  have HF : Hid (FieldsL w a len fs) := hF
  clear hF
  go_enter Tryd.func15, Tryd.ntmps15
  go_wp2_with fail
  go_loopw [3, 4] (fun v3 i wr => ∃ (k : Nat) (V : Value), k ≤ len ∧ k ≤ 12 ∧ i = .int .i64 k ∧ V = v3 ∧ wr.ownsRow w.heap.size 79 4 V k (((fs.take k).map cutF).flatMap fcells) ∧ Below w.heap.size w wr) (fun _ i _ => 12 - (intOf i).toNat)
  case atStart => exact ⟨0, _, by omega, by omega, rfl, rfl, own_nilF _ _, Below.refl _ _⟩
  case round =>
    obtain ⟨k, V, hk, hk12, rfl, rfl, hO, hB⟩ := hrel
    have HO : Hid (wr.ownsRow w.heap.size 79 4 V k (((fs.take k).map cutF).flatMap fcells)) := hO
    have HB : Hid (Below w.heap.size w wr) := hB
    have hsw := hB.size
    clear hO hB
    by_cases hlt : k < len
    · have i0 : (k : Int) < (len : Int) := by omega
      by_cases h12 : k < 12
      · have i1 : (k : Int) < 12 := by omega
        have j0 : (0 : Int) ≤ (k : Int) := Int.natCast_nonneg _
        obtain ⟨b, off, rfl, hc⟩ : ∃ b off, a = some ⟨b, off, none⟩ ∧ ∀ i, i < len → FieldAt w b (off + i * 4) (fs.getD i fv0) := by
          rcases HF.out.2.2 with h | h
          · omega
          · exact h
        obtain ⟨d0, d1, d2, d3⟩ := (hc k hlt).below HB.out (block_lt_of_cell (hc k hlt).tag)
        have hkl : k < fs.length := by rw [HF.out.1]; exact hlt
        have HE : Is ((fs.take (k + 1)).map cutF) ((fs.take k).map cutF ++ [cutF (fs.getD k fv0)]) := ⟨cutF_step fs k hkl⟩
        clear hc
        generalize fs.getD k fv0 = x at *
        obtain ⟨x0, x1, x2, xs⟩ := x
        have HX : Is (cutF ⟨x0, x1, x2, xs⟩) ⟨x0, x1, x2, xs.extract 0 (min (xs.size : Int) 100).toNat⟩ := ⟨rfl⟩
        rw [HX.eq] at HE
        clear HX
        simp only at d0 d1 d2 d3
        have q0 : (0 : Int) ≤ min (xs.size : Int) 100 := by omega
        have q1 : min (xs.size : Int) 100 ≤ (xs.size : Int) := by omega
        go_upto_region 7 with fail
        have HB5 : Hid (Below w.heap.size w (wr.alloc (.cells #[.int .i64 x0, .int .i64 x1, .int .i64 x2, .string (xs.extract 0 (min (xs.size : Int) 100).toNat)] 79))) := HB.out.trans (((Below.refl _ wr).alloc (Nat.le_refl _) _).mono hsw)
        have HP5 : Hid (FieldAt (wr.alloc (.cells #[.int .i64 x0, .int .i64 x1, .int .i64 x2, .string (xs.extract 0 (min (xs.size : Int) 100).toNat)] 79)) wr.heap.size 0 ⟨x0, x1, x2, xs.extract 0 (min (xs.size : Int) 100).toNat⟩) := by
          have h := field_new wr ⟨x0, x1, x2, xs.extract 0 (min (xs.size : Int) 100).toNat⟩
          exact ⟨h 0 _ rfl, h 1 _ rfl, h 2 _ rfl, h 3 _ rfl⟩
        have HO5 : Hid ((wr.alloc (.cells #[.int .i64 x0, .int .i64 x1, .int .i64 x2, .string (xs.extract 0 (min (xs.size : Int) 100).toNat)] 79)).ownsRow w.heap.size 79 4 V k (((fs.take k).map cutF).flatMap fcells)) := own_alloc1 HO.out _
        clear d0 d1 d2 d3 q0 q1 HO HB
        generalize xs.extract 0 (min (xs.size : Int) 100).toNat = y at *
        generalize wr.alloc (.cells #[.int .i64 x0, .int .i64 x1, .int .i64 x2, .string y] 79) = w5 at *
        generalize wr.heap.size = g at *
        obtain ⟨p0, p1, p2, p3⟩ := HP5.out
        simp only [Nat.zero_add] at p0 p1 p2 p3
        have hz5 := HB5.out.size
        go_wp2_with (first | (at_builtin; refine append_field rfl (.tmp 28) (.tmp 30) rfl _ w.heap.size _ k _ rfl (own_alloc1 HO5.out _) ⟨w5.heap.size, 0, none⟩ 1 ⟨x0, x1, x2, y⟩ rfl (field_new w5 ⟨x0, x1, x2, y⟩) (by omega) (by simp; omega) ?_; intro v8 w8 hO8 hB8; rw [← HE.eq] at hO8; have HF8 : Hid (w8.ownsRow w.heap.size 79 4 v8 (k + 1) (((fs.take (k + 1)).map cutF).flatMap fcells)) := hO8; have HBF : Hid (Below w.heap.size w w8) := HB5.out.trans ((((Below.refl _ w5).alloc (Nat.le_refl _) _).mono hz5).trans hB8); clear hO8 hB8 p0 p1 p2 p3))
        go_roundw
        case rel => exact ⟨k + 1, _, by omega, by omega, by go_num, rfl, HF8.out, HBF.out⟩
        case measure => (simp [intOf]) <;> omega
      · have hk2 : k = 12 := by omega
        have i1 : ¬ (k : Int) < 12 := by omega
        have hlen2 : k ≤ fs.length := by rw [HF.out.1]; exact hk
        have HK : Is ((fs.take k).map cutF) (cutFs fs) := ⟨by rw [hk2]; rfl⟩
        have HKl : Is k (cutFs fs).length := ⟨by rw [← HK.eq, List.length_map, List.length_take]; omega⟩
        have HO2 : Hid (wr.ownsRow w.heap.size 79 4 V (cutFs fs).length ((cutFs fs).flatMap fcells)) := by
          have h := HO.out
          rw [HK.eq, HKl.eq] at h; exact h
        clear hk2 HO HK HKl
        go_wp2_with fail
        go_ret
        exact ⟨_, rfl, HO2.out, HB.out⟩
    · have i0 : ¬ (k : Int) < (len : Int) := by omega
      have hk2 : fs.length ≤ k := by rw [HF.out.1]; omega
      have hlen2 : k ≤ fs.length := by rw [HF.out.1]; exact hk
      have HK : Is ((fs.take k).map cutF) (cutFs fs) := ⟨by unfold cutFs; rw [List.take_of_length_le hk2, List.take_of_length_le (by omega)]⟩
      have HKl : Is k (cutFs fs).length := ⟨by rw [← HK.eq, List.length_map, List.length_take]; omega⟩
      have HO2 : Hid (wr.ownsRow w.heap.size 79 4 V (cutFs fs).length ((cutFs fs).flatMap fcells)) := by
        have h := HO.out
        rw [HK.eq, HKl.eq] at h; exact h
      clear hk2 HO HK HKl hlen2
      go_wp2_with fail
      go_ret
      exact ⟨_, rfl, HO2.out, HB.out⟩
end Go.Proofs.YtealbeblkilibaaDoor
/- Proved: the document's Same answers true for two slices with the same fields. -/
namespace Go.Proofs.YtealbeblkilibaaDoor.FI
open Go.RowKit
set_option maxHeartbeats 1000000 in
set_option maxRecDepth 20000 in
theorem same_yes (a : Option Addr) (len cap : Nat) (a2 : Option Addr) (cap2 : Nat) (fs : List Fv) (w : World) (hF : FieldsL w a len fs) (hG : FieldsL w a2 len fs) (hlen : len ≤ 9223372036854775807) :
    Calls Tryd.prog 22 #[.slice a len cap, .slice a2 len cap2] w fun e w' => e = .returned (.bool true) ∧ Below w.heap.size w w' := by
  have HF : Hid (FieldsL w a len fs) := hF
  have HG : Hid (FieldsL w a2 len fs) := hG
  clear hF hG
  go_enter Tryd.func22, Tryd.ntmps22
  go_wp2_with fail
  go_loopw [5] (fun s3 wr => ∃ k : Nat, k ≤ len ∧ s3 = .int .i64 k ∧ Below w.heap.size w wr) (fun s3 _ => len - (intOf s3).toNat)
  case atStart => exact ⟨0, by omega, rfl, Below.refl _ _⟩
  case round =>
    obtain ⟨k, hk, rfl, hB⟩ := hrel
    have HB : Hid (Below w.heap.size w wr) := hB
    by_cases hlt : k < len
    · obtain ⟨b, off, rfl, hc⟩ : ∃ b off, a = some ⟨b, off, none⟩ ∧ ∀ i, i < len → FieldAt w b (off + i * 4) (fs.getD i fv0) := by
        rcases HF.out.2.2 with h | h
        · omega
        · exact h
      obtain ⟨b2, off2, rfl, hc2⟩ : ∃ b off, a2 = some ⟨b, off, none⟩ ∧ ∀ i, i < len → FieldAt w b (off + i * 4) (fs.getD i fv0) := by
        rcases HG.out.2.2 with h | h
        · omega
        · exact h
      have hbl : b < w.heap.size := block_lt_of_cell (hc k hlt).tag
      have hbl2 : b2 < w.heap.size := block_lt_of_cell (hc2 k hlt).tag
      obtain ⟨c0, c1, c2, c3⟩ := (hc k hlt).below HB.out hbl
      obtain ⟨d0, d1, d2, d3⟩ := (hc2 k hlt).below HB.out hbl2
      generalize fs.getD k fv0 = f at *
      clear hc hc2 hB
      obtain ⟨ft, fk, fn, fx⟩ := f
      simp only at c0 c1 c2 c3 d0 d1 d2 d3
      have i0 : (k : Int) < (len : Int) := by omega
      have j0 : (0 : Int) ≤ (k : Int) := Int.natCast_nonneg _
      go_wp2_with fail
      go_region
      go_wp2_with fail
      go_roundw
      case rel => exact ⟨k + 1, by omega, by go_num, HB.out.drew⟩
      case measure => (simp [intOf]) <;> omega
    · have hkl : ¬ (k : Int) < (len : Int) := by omega
      go_wp2
      go_ret
      exact ⟨rfl, HB.out⟩
end Go.Proofs.YtealbeblkilibaaDoor.FI
/- Proved: slices.Equal of fields, and the document's Same, tell whether two records are alike. -/
namespace Go.Proofs.YtealbeblkilibaaDoor
open Go.RowKit
open FI (Fv fv0 FieldsL FieldAt)
set_option maxHeartbeats 1000000 in
set_option maxRecDepth 20000 in
theorem equal_any (a : Option Addr) (len cap : Nat) (a2 : Option Addr) (len2 cap2 : Nat) (fs gs : List Fv) (w : World) (hF : FieldsL w a len fs) (hG : FieldsL w a2 len2 gs) (hlen : len ≤ 30000) (hlen2 : len2 ≤ 30000) :
    Calls Tryd.prog 47 #[.slice a len cap, .slice a2 len2 cap2] w fun e w' => e = .returned (.bool (Ino.leq fs gs)) ∧ Below w.heap.size w w' := by
  have HF : Hid (FieldsL w a len fs) := hF
  have HG : Hid (FieldsL w a2 len2 gs) := hG
  clear hF hG
  by_cases hl : len = len2
  · subst hl
    go_enter Tryd.func47, Tryd.ntmps47
    go_wp2_with fail
    go_loopw [5, 13] (fun _ i wr => ∃ k : Nat, k ≤ len ∧ i = .int .i64 k ∧ (∀ m, m < k → fs.getD m fv0 = gs.getD m fv0) ∧ Below w.heap.size w wr) (fun _ i _ => len - (intOf i).toNat)
    case atStart => exact ⟨0, by omega, rfl, fun m hm => by omega, Below.refl _ _⟩
    case round =>
      obtain ⟨k, hk, rfl, hal, hB⟩ := hrel
      have HAL : Hid (∀ m, m < k → fs.getD m fv0 = gs.getD m fv0) := hal
      have HB : Hid (Below w.heap.size w wr) := hB
      clear hal hB
      by_cases hlt : k < len
      · have i0 : (k : Int) < (len : Int) := by omega
        have j0 : (0 : Int) ≤ (k : Int) := Int.natCast_nonneg _
        obtain ⟨b, off, rfl, hc⟩ : ∃ b off, a = some ⟨b, off, none⟩ ∧ ∀ i, i < len → FieldAt w b (off + i * 4) (fs.getD i fv0) := by
          rcases HF.out.2.2 with h | h
          · omega
          · exact h
        obtain ⟨b2, off2, rfl, hc2⟩ : ∃ b off, a2 = some ⟨b, off, none⟩ ∧ ∀ i, i < len → FieldAt w b (off + i * 4) (gs.getD i fv0) := by
          rcases HG.out.2.2 with h | h
          · omega
          · exact h
        obtain ⟨c0, c1, c2, c3⟩ := (hc k hlt).below HB.out (block_lt_of_cell (hc k hlt).tag)
        obtain ⟨d0, d1, d2, d3⟩ := (hc2 k hlt).below HB.out (block_lt_of_cell (hc2 k hlt).tag)
        by_cases hxy : fs.getD k fv0 = gs.getD k fv0
        · rw [hxy] at c0 c1 c2 c3
          have HA2 : Hid (∀ m, m < k + 1 → fs.getD m fv0 = gs.getD m fv0) := fun m hm => by
            by_cases h : m = k
            · subst h; exact hxy
            · exact HAL.out m (by omega)
          clear hc hc2 hxy HAL
          generalize gs.getD k fv0 = f at *
          obtain ⟨f0, f1, f2, fx⟩ := f
          simp only at c0 c1 c2 c3 d0 d1 d2 d3
          go_wp2_with fail
          go_region
          go_wp2_with fail
          go_roundw
          case rel => exact ⟨k + 1, by omega, by go_num, HA2.out, HB.out.drew⟩
          case measure => (simp [intOf]) <;> omega
        · have HL : Is (Ino.leq fs gs) false := ⟨by
            rw [Bool.eq_false_iff]
            intro h
            exact hxy (by rw [(Ino.leq_iff _ _).1 h])⟩
          have HS : Hid (¬ Ino.feq (fs.getD k fv0) (gs.getD k fv0) = true) := fun h => hxy ((Ino.feq_iff _ _).1 h)
          clear hc hc2 HAL hxy
          generalize fs.getD k fv0 = x at *
          generalize gs.getD k fv0 = f at *
          obtain ⟨f0, f1, f2, fx⟩ := f
          obtain ⟨x0, x1, x2, xx⟩ := x
          simp only at c0 c1 c2 c3 d0 d1 d2 d3
          have HS2 : Hid (x0 = f0 → x1 = f1 → x2 = f2 → (xx.toList == fx.toList) = false) := fun h1 h2 h3 => by
            have h := HS.out
            subst h1 h2 h3
            simp only [Ino.feq, beq_self_eq_true, Bool.true_and, Bool.not_eq_true] at h
            exact h
          clear HS
          by_cases h1 : x0 = f0
          · subst h1
            by_cases h2 : x1 = f1
            · subst h2
              by_cases h3 : x2 = f2
              · subst h3
                have h4 := HS2.out rfl rfl rfl
                clear HS2
                go_wp2_with fail
                go_region
                go_wp2_with fail
                go_ret
                exact ⟨by rw [HL.eq]; rfl, HB.out.drew⟩
              · have h3' : (x2 == f2) = false := by simpa using h3
                clear HS2
                go_wp2_with fail
                go_region
                go_wp2_with fail
                go_ret
                exact ⟨by rw [HL.eq]; rfl, HB.out.drew⟩
            · have h2' : (x1 == f1) = false := by simpa using h2
              clear HS2
              go_wp2_with fail
              go_region
              go_wp2_with fail
              go_ret
              exact ⟨by rw [HL.eq]; rfl, HB.out.drew⟩
          · have h1' : (x0 == f0) = false := by simpa using h1
            clear HS2
            go_wp2_with fail
            go_region
            go_wp2_with fail
            go_ret
            exact ⟨by rw [HL.eq]; rfl, HB.out.drew⟩
      · obtain rfl : k = len := by omega
        have HL : Is (Ino.leq fs gs) true := ⟨by
          rw [Ino.leq_iff]
          refine List.ext_getElem (by rw [HF.out.1, HG.out.1]) fun i h1 h2 => ?_
          have := HAL.out i (by rw [← HF.out.1]; exact h1)
          rwa [List.getD_eq_getElem?_getD, List.getD_eq_getElem?_getD, List.getElem?_eq_getElem h1, List.getElem?_eq_getElem h2] at this⟩
        have i1 : ¬ (k : Int) < (k : Int) := by omega
        clear HAL
        go_wp2_with fail
        go_ret
        exact ⟨by rw [HL.eq]; rfl, HB.out⟩
  · have HL : Is (Ino.leq fs gs) false := ⟨by
      rw [Bool.eq_false_iff]
      intro h
      exact hl (by rw [← HF.out.1, ← HG.out.1, (Ino.leq_iff _ _).1 h])⟩
    have k1 : ¬ (len : Int) = (len2 : Int) := by omega
    have k2 : ((len : Int) == (len2 : Int)) = false := by simp only [beq_eq_false_iff_ne, ne_eq]; exact k1
    have k3 : ((len : Int) != (len2 : Int)) = true := by simp only [bne_iff_ne, ne_eq]; exact k1
    clear hl
    go_enter Tryd.func47, Tryd.ntmps47
    go_wp2_with fail
    go_ret
    exact ⟨by rw [HL.eq]; rfl, Below.refl _ _⟩
set_option maxHeartbeats 1000000 in
set_option maxRecDepth 20000 in
theorem rsamef_any (a : Option Addr) (len cap : Nat) (a2 : Option Addr) (len2 cap2 : Nat) (fs gs : List Fv) (w : World) (hF : FieldsL w a len fs) (hG : FieldsL w a2 len2 gs) (hlen : len ≤ 30000) (hlen2 : len2 ≤ 30000) :
    Calls Tryd.prog 22 #[.slice a len cap, .slice a2 len2 cap2] w fun e w' => e = .returned (.bool (Ino.leq fs gs)) ∧ Below w.heap.size w w' := by
  have HF : Hid (FieldsL w a len fs) := hF
  have HG : Hid (FieldsL w a2 len2 gs) := hG
  clear hF hG
  by_cases hl : len = len2
  · subst hl
    go_enter Tryd.func22, Tryd.ntmps22
    go_wp2_with fail
    go_loopw [5] (fun i wr => ∃ k : Nat, k ≤ len ∧ i = .int .i64 k ∧ (∀ m, m < k → fs.getD m fv0 = gs.getD m fv0) ∧ Below w.heap.size w wr) (fun i _ => len - (intOf i).toNat)
    case atStart => exact ⟨0, by omega, rfl, fun m hm => by omega, Below.refl _ _⟩
    case round =>
      obtain ⟨k, hk, rfl, hal, hB⟩ := hrel
      have HAL : Hid (∀ m, m < k → fs.getD m fv0 = gs.getD m fv0) := hal
      have HB : Hid (Below w.heap.size w wr) := hB
      clear hal hB
      by_cases hlt : k < len
      · have i0 : (k : Int) < (len : Int) := by omega
        have j0 : (0 : Int) ≤ (k : Int) := Int.natCast_nonneg _
        obtain ⟨b, off, rfl, hc⟩ : ∃ b off, a = some ⟨b, off, none⟩ ∧ ∀ i, i < len → FieldAt w b (off + i * 4) (fs.getD i fv0) := by
          rcases HF.out.2.2 with h | h
          · omega
          · exact h
        obtain ⟨b2, off2, rfl, hc2⟩ : ∃ b off, a2 = some ⟨b, off, none⟩ ∧ ∀ i, i < len → FieldAt w b (off + i * 4) (gs.getD i fv0) := by
          rcases HG.out.2.2 with h | h
          · omega
          · exact h
        obtain ⟨c0, c1, c2, c3⟩ := (hc k hlt).below HB.out (block_lt_of_cell (hc k hlt).tag)
        obtain ⟨d0, d1, d2, d3⟩ := (hc2 k hlt).below HB.out (block_lt_of_cell (hc2 k hlt).tag)
        by_cases hxy : fs.getD k fv0 = gs.getD k fv0
        · rw [hxy] at c0 c1 c2 c3
          have HA2 : Hid (∀ m, m < k + 1 → fs.getD m fv0 = gs.getD m fv0) := fun m hm => by
            by_cases h : m = k
            · subst h; exact hxy
            · exact HAL.out m (by omega)
          clear hc hc2 hxy HAL
          generalize gs.getD k fv0 = f at *
          obtain ⟨f0, f1, f2, fx⟩ := f
          simp only at c0 c1 c2 c3 d0 d1 d2 d3
          go_wp2_with fail
          go_region
          go_wp2_with fail
          go_roundw
          case rel => exact ⟨k + 1, by omega, by go_num, HA2.out, HB.out.drew⟩
          case measure => (simp [intOf]) <;> omega
        · have HL : Is (Ino.leq fs gs) false := ⟨by
            rw [Bool.eq_false_iff]
            intro h
            exact hxy (by rw [(Ino.leq_iff _ _).1 h])⟩
          have HS : Hid (¬ Ino.feq (fs.getD k fv0) (gs.getD k fv0) = true) := fun h => hxy ((Ino.feq_iff _ _).1 h)
          clear hc hc2 HAL hxy
          generalize fs.getD k fv0 = x at *
          generalize gs.getD k fv0 = f at *
          obtain ⟨f0, f1, f2, fx⟩ := f
          obtain ⟨x0, x1, x2, xx⟩ := x
          simp only at c0 c1 c2 c3 d0 d1 d2 d3
          have HS2 : Hid (x0 = f0 → x1 = f1 → x2 = f2 → (xx.toList == fx.toList) = false) := fun h1 h2 h3 => by
            have h := HS.out
            subst h1 h2 h3
            simp only [Ino.feq, beq_self_eq_true, Bool.true_and, Bool.not_eq_true] at h
            exact h
          clear HS
          by_cases h1 : x0 = f0
          · subst h1
            by_cases h2 : x1 = f1
            · subst h2
              by_cases h3 : x2 = f2
              · subst h3
                have h4 := HS2.out rfl rfl rfl
                clear HS2
                go_wp2_with fail
                go_region
                go_wp2_with fail
                go_ret
                exact ⟨by rw [HL.eq]; rfl, HB.out.drew⟩
              · have h3' : (x2 == f2) = false := by simpa using h3
                clear HS2
                go_wp2_with fail
                go_region
                go_wp2_with fail
                go_ret
                exact ⟨by rw [HL.eq]; rfl, HB.out.drew⟩
            · have h2' : (x1 == f1) = false := by simpa using h2
              clear HS2
              go_wp2_with fail
              go_region
              go_wp2_with fail
              go_ret
              exact ⟨by rw [HL.eq]; rfl, HB.out.drew⟩
          · have h1' : (x0 == f0) = false := by simpa using h1
            clear HS2
            go_wp2_with fail
            go_region
            go_wp2_with fail
            go_ret
            exact ⟨by rw [HL.eq]; rfl, HB.out.drew⟩
      · obtain rfl : k = len := by omega
        have HL : Is (Ino.leq fs gs) true := ⟨by
          rw [Ino.leq_iff]
          refine List.ext_getElem (by rw [HF.out.1, HG.out.1]) fun i h1 h2 => ?_
          have := HAL.out i (by rw [← HF.out.1]; exact h1)
          rwa [List.getD_eq_getElem?_getD, List.getD_eq_getElem?_getD, List.getElem?_eq_getElem h1, List.getElem?_eq_getElem h2] at this⟩
        have i1 : ¬ (k : Int) < (k : Int) := by omega
        clear HAL
        go_wp2_with fail
        go_ret
        exact ⟨by rw [HL.eq]; rfl, HB.out⟩
  · have HL : Is (Ino.leq fs gs) false := ⟨by
      rw [Bool.eq_false_iff]
      intro h
      exact hl (by rw [← HF.out.1, ← HG.out.1, (Ino.leq_iff _ _).1 h])⟩
    have k1 : ¬ (len : Int) = (len2 : Int) := by omega
    have k2 : ((len : Int) == (len2 : Int)) = false := by simp only [beq_eq_false_iff_ne, ne_eq]; exact k1
    have k3 : ((len : Int) != (len2 : Int)) = true := by simp only [bne_iff_ne, ne_eq]; exact k1
    clear hl
    go_enter Tryd.func22, Tryd.ntmps22
    go_wp2_with fail
    go_ret
    exact ⟨by rw [HL.eq]; rfl, Below.refl _ _⟩
end Go.Proofs.YtealbeblkilibaaDoor
/- Proved: how a record is built in a variable: a number, and a digest, put into it. -/
namespace Go.Proofs.YtealbeblkilibaaDoor
open Go.RowKit
open FI (Fv fv0 FieldsL FieldAt fcells putV put_any own_fields heldTake heldOne)
/- a record in a variable: the block r holds a slice of the call's own, whose row lies behind r -/
def RecAt (W : World) (r : Nat) (fs : List Fv) : Prop := ∃ v, W.heap[r]? = some (.cells #[v] 80 (0, 0)) ∧ W.ownsRow (r + 1) 79 4 v fs.length (fs.flatMap fcells)
theorem RecAt.lt {W : World} {r : Nat} {fs : List Fv} (h : RecAt W r fs) : r < W.heap.size := by
  obtain ⟨v, h1, _⟩ := h
  exact (Array.getElem?_eq_some_iff.1 h1).1
theorem RecAt.below {W W' : World} {r : Nat} {fs : List Fv} (h : RecAt W r fs) (hb : Below W.heap.size W W') : RecAt W' r fs := by
  have hl := h.lt
  obtain ⟨v, h1, h2⟩ := h
  exact ⟨v, (hb.block r hl).trans h1, own_below h2 hb⟩
theorem rec_new (w : World) : RecAt (w.alloc (.cells #[.slice none 0 0] 80)) w.heap.size [] := ⟨_, heap_alloc_new w _, ⟨rfl, .inl ⟨rfl, rfl⟩⟩⟩
theorem putV_mem {l : List Fv} {f x : Fv} (h : x ∈ putV l f) : x = f ∨ x ∈ l := by
  induction l with
  | nil => rw [putV, List.mem_singleton] at h; exact .inl h
  | cons g l ih =>
    unfold putV at h
    split at h
    · rcases List.mem_cons.1 h with h | h
      · exact .inl h
      · exact .inr h
    · rcases List.mem_cons.1 h with h | h
      · exact .inr (by rw [h]; simp)
      · rcases ih h with h | h
        · exact .inl h
        · exact .inr (by simp [h])
def Fit (fs : List Fv) : Prop := ∀ f ∈ fs, f.Fits
theorem Fit.put {l : List Fv} {f : Fv} (h : Fit l) (hf : f.Fits) : Fit (putV l f) := fun x hx => by
  rcases putV_mem hx with rfl | hx
  · exact hf
  · exact h x hx
theorem num_fits {tag n : Int} (ht : FI.In64 tag) (hn : FI.In64 n) : (⟨tag, 0, n, ⟨#[]⟩⟩ : Fv).Fits := ⟨ht, by unfold FI.In64; simp only; omega, hn, by show (0 : Nat) ≤ _; omega⟩
theorem own_slc {w : World} {N n : Nat} {v : Value} {vs : List Value} {e : TypeId} {k : Nat} (h : w.ownsRow N e k v n vs) : ∃ a c, v = .slice a n c := by
  rcases h.2 with ⟨hv, hn⟩ | ⟨g, cap, cur, hv, _⟩
  · exact ⟨none, 0, by rw [hv, hn]⟩
  · exact ⟨_, _, hv⟩
theorem sum_fits {d : List UInt8} (h : d.length = 32) : (⟨3, 1, 0, mk d⟩ : Fv).Fits := ⟨by unfold FI.In64; simp only; omega, by unfold FI.In64; simp only; omega, by unfold FI.In64; simp only; omega, by rw [mk_size]; omega⟩
theorem Fit.num {l : List Fv} {tag n : Int} (h : Fit l) (ht : FI.In64 tag) (hn : FI.In64 n) : Fit (Ino.putN l tag n) := by
  unfold Ino.putN
  split
  · exact h
  · exact h.put (num_fits ht hn)
theorem putN_length (l : List Fv) (tag n : Int) : (Ino.putN l tag n).length ≤ l.length + 1 := by
  unfold Ino.putN
  split
  · omega
  · rw [FI.putV_length]; omega
set_option maxHeartbeats 1000000 in
set_option maxRecDepth 20000 in
theorem putNum_any (r : Nat) (tag n : Int) (fs : List Fv) (w : World) (hR : RecAt w r fs) (hf : Fit fs) (hl : fs.length ≤ 100) :
    Calls Tryd.prog 41 #[.pointer (some ⟨r, 0, none⟩), .int .i64 tag, .int .i64 n] w fun e w' => e = .returned (.tuple #[]) ∧ RecAt w' r (Ino.putN fs tag n) ∧ Below r w w' := by
  by_cases h0 : n = 0
  · subst h0
    have HR : Hid (RecAt w r fs) := hR
    have HP : Is (Ino.putN fs tag 0) fs := ⟨by unfold Ino.putN; rw [if_pos rfl]⟩
    clear hR
    go_enter Tryd.func41, Tryd.ntmps41
    go_wp2_with fail
    go_end0
    exact ⟨rfl, by rw [HP.eq]; exact HR.out, Below.refl _ _⟩
  · have h0' : (n == 0) = false := by simpa using h0
    have HP : Is (Ino.putN fs tag n) (putV fs ⟨tag, 0, n, ⟨#[]⟩⟩) := ⟨by unfold Ino.putN; rw [if_neg h0]⟩
    have hrl := hR.lt
    obtain ⟨v, hr, ho⟩ := hR
    obtain ⟨a, cap, rfl, hcap, hFL⟩ := own_fields ho hf
    have PU : Hid (Calls Tryd.prog 65 #[.slice a fs.length cap, .agg #[.int .i64 tag, .int .i64 0, .int .i64 n, .string ⟨#[]⟩]] w fun e w' => ∃ v, e = .returned v ∧ w'.ownsRow w.heap.size 79 4 v (fs.length + 1) ((putV fs ⟨tag, 0, n, ⟨#[]⟩⟩).flatMap fcells) ∧ Below w.heap.size w w') := put_any a fs.length cap ⟨tag, 0, n, ⟨#[]⟩⟩ fs w hFL (by omega) hcap
    have hc : w.cell? ⟨r, 0, none⟩ = some (.slice a fs.length cap) := by rw [cell_of_row w r 0 _ 80 (0, 0) hr]; rfl
    have HRW : Hid (w.heap[r]? = some (.cells #[.slice a fs.length cap] 80 (0, 0))) := hr
    have HLN : Is (putV fs ⟨tag, 0, n, ⟨#[]⟩⟩).length (fs.length + 1) := ⟨FI.putV_length _ _⟩
    clear ho hFL hr hf
    generalize putV fs ⟨tag, 0, n, ⟨#[]⟩⟩ = gs at *
    generalize fs.length = m at *
    go_enter Tryd.func41, Tryd.ntmps41
    go_wp2_with fail
    refine (show Calls _ _ _ _ _ from PU.out).mono ?_
    rintro e w1 ⟨v1, rfl, ho1, hB1⟩
    obtain ⟨a1, k1, rfl⟩ := own_slc ho1
    have HO1 : Hid (w1.ownsRow w.heap.size 79 4 (.slice a1 (m + 1) k1) (m + 1) (gs.flatMap fcells)) := ho1
    have HB1 : Hid (Below w.heap.size w w1) := hB1
    have HR1 : Hid (w1.heap[r]? = some (.cells #[.slice a m cap] 80 (0, 0))) := (hB1.block r hrl).trans HRW.out
    have c1 : w1.cell? ⟨r, 0, none⟩ = some (.slice a m cap) := (hB1.cell (p := ⟨r, 0, none⟩) hrl).trans hc
    have f1 : w1.frozen? ⟨r, 0, none⟩ = false := frozen_of_row w1 r 0 _ _ HR1.out
    clear ho1 hB1 PU hc HRW
    go_wp2_with fail
    go_end0
    refine ⟨rfl, ?_, (HB1.out.mono (Nat.le_of_lt hrl)).setCell (p := ⟨r, 0, none⟩) (Nat.le_refl _) _⟩
    rw [HP.eq]
    refine ⟨.slice a1 (m + 1) k1, heap_setCell_same w1 r 0 _ _ _ HR1.out, ?_⟩
    rw [HLN.eq]
    exact ownsRow_setCell_below (own_mono HO1.out hrl) (by show r < r + 1; omega) _
theorem conv_sum {g k : Nat} {d : List UInt8} (hd : d.length = 32) (cap : Nat) {W : World} (h : W.rangeAt g k (d.map c8)) : (convert 92 9 (.slice (some ⟨g, k, none⟩) 32 cap)).run Tryd.prog W = .ok (.string (mk d)) W := by
  have e := run_convert_bytes_back (P := Tryd.prog) W 92 9 5 ⟨g, k, none⟩ cap d Tryd.underlying92 Tryd.underlying5 Tryd.underlying9 (fun j hj => by
    rw [Go.WideShapes.add_plain]
    exact h j _ (by rw [List.getElem?_map, List.getElem?_eq_getElem hj]; rfl))
  rw [hd] at e
  exact e
set_option maxHeartbeats 2000000 in
set_option maxRecDepth 20000 in
theorem putSum_any (r : Nat) (d : List UInt8) (fs : List Fv) (w : World) (hR : RecAt w r fs) (hf : Fit fs) (hl : fs.length ≤ 100) (hd : d.length = 32) :
    Calls Tryd.prog 42 #[.pointer (some ⟨r, 0, none⟩), .agg (smc d)] w fun e w' => e = .returned (.tuple #[]) ∧ RecAt w' r (putV fs ⟨3, 1, 0, mk d⟩) ∧ Below r w w' := by
  have hrl := hR.lt
  obtain ⟨v, hr, ho⟩ := hR
  obtain ⟨a, cap, rfl, hcap, hFL⟩ := own_fields ho hf
  have PU : Hid (∀ W : World, FieldsL W a fs.length fs → Calls Tryd.prog 65 #[.slice a fs.length cap, .agg #[.int .i64 3, .int .i64 1, .int .i64 0, .string (mk d)]] W fun e w' => ∃ v, e = .returned v ∧ w'.ownsRow W.heap.size 79 4 v (fs.length + 1) ((putV fs ⟨3, 1, 0, mk d⟩).flatMap fcells) ∧ Below W.heap.size W w') := fun W h => put_any a fs.length cap ⟨3, 1, 0, mk d⟩ fs W h (by omega) hcap
  have HFL : Hid (FieldsL w a fs.length fs) := hFL
  have HRW : Hid (w.heap[r]? = some (.cells #[.slice a fs.length cap] 80 (0, 0))) := hr
  have HLN : Is (putV fs ⟨3, 1, 0, mk d⟩).length (fs.length + 1) := ⟨FI.putV_length _ _⟩
  have HZ : Is (smc d).size 32 := ⟨smc_size hd⟩
  have hr2 : (w.alloc (.cells (smc d) 37)).heap[w.heap.size]? = some (.cells (smc d) 37 (0, 0)) := heap_alloc_new w _
  have hg2 : (w.alloc (.cells (smc d) 37)).rangeAt w.heap.size 0 (d.map c8) := range_row hr2
  have HB1 : Hid (Below w.heap.size w (w.alloc (.cells (smc d) 37))) := (Below.refl _ w).alloc (Nat.le_refl _) _
  have hl1 : w.heap.size < (w.alloc (.cells (smc d) 37)).heap.size := by simp
  have CV : Hid (∀ (W : World), W.rangeAt w.heap.size 0 (d.map c8) → (convert 92 9 (.slice (some ⟨w.heap.size, 0, none⟩) 32 32)).run Tryd.prog W = .ok (.string (mk d)) W) := fun W h => conv_sum hd 32 h
  clear ho hFL hr hf hr2
  go_enter Tryd.func42, Tryd.ntmps42
  go_upto_region 1 with fail
  have HR1 : Hid ((w.alloc (.cells (smc d) 37)).heap[r]? = some (.cells #[.slice a fs.length cap] 80 (0, 0))) := (HB1.out.block r hrl).trans HRW.out
  have HF1 : Hid (FieldsL (w.alloc (.cells (smc d) 37)) a fs.length fs) := HFL.out.below HB1.out
  obtain ⟨gs, hgs⟩ : ∃ gs, putV fs ⟨3, 1, 0, mk d⟩ = gs := ⟨_, rfl⟩
  have HGS : Is (putV fs ⟨3, 1, 0, mk d⟩) gs := ⟨hgs⟩
  rw [hgs] at PU HLN
  clear hgs
  generalize smc d = D at *
  generalize w.alloc (.cells D 37) = w1 at *
  obtain ⟨sd, hsd⟩ : ∃ sd, mk d = sd := ⟨_, rfl⟩
  rw [hsd] at PU CV
  clear hsd
  generalize d.map c8 = dc at *
  generalize hm : fs.length = m at *
  clear hm hd HRW HFL
  have HG : Is w.heap.size w.heap.size := ⟨rfl⟩
  obtain ⟨g, hg⟩ : ∃ g, g = w.heap.size := ⟨_, rfl⟩
  rw [← hg] at hg2 hl1 CV hrl
  have HGw : Is w.heap.size g := ⟨hg.symm⟩
  rw [← hg]
  clear hg HG
  have HS : Hid ((fun W : World => W.rangeAt g 0 dc) w1.drew) := fun j v hv => hg2 j v hv
  have c3 : w1.drew.cell? ⟨r, 0, none⟩ = some (.slice a m cap) := by rw [cell_of_row w1.drew r 0 _ 80 (0, 0) HR1.out]; rfl
  have HFd : Hid (FieldsL w1.drew a m fs) := HF1.out.below (Below.refl _ _).drew
  have HRd : Hid (w1.drew.heap[r]? = some (.cells #[.slice a m cap] 80 (0, 0))) := HR1.out
  have HBd : Hid (Below w.heap.size w w1.drew) := HB1.out.drew
  have hld : g < w1.drew.heap.size := hl1
  clear hg2 hl1 HF1 HR1 HB1
  refine wp_region_held_drew (S := fun W => W.rangeAt g 0 dc) (by kernel_rfl) HS.out (fun _ => ?_)
  generalize w1.drew = w2 at *
  refine heldTake 0 (some 4) (.pointer (some ⟨r, 0, none⟩)) rfl rfl (by kernel_rfl) (by kernel_rfl) (by kernel_rfl) (fun _ _ _ h => h) (Or.inl ⟨by rfl, fun w hS => ?_⟩) HS.out ?_
  · (go_simp)
  simp only [Act.put, List.setIfInBounds_toArray, List.set_cons_zero, List.set_cons_succ]
  refine heldTake 1 (some 5) (.pointer (some ⟨r, 0, none⟩)) rfl rfl (by kernel_rfl) (by kernel_rfl) (by kernel_rfl) (fun _ _ _ h => h) (Or.inl ⟨by rfl, fun w hS => ?_⟩) HS.out ?_
  · (go_simp)
  simp only [Act.put, List.setIfInBounds_toArray, List.set_cons_zero, List.set_cons_succ]
  refine heldTake 2 (some 6) (.pointer (some ⟨r, 0, none⟩)) rfl rfl (by kernel_rfl) (by kernel_rfl) (by kernel_rfl) (fun _ _ _ h => h) (Or.inl ⟨by rfl, fun w hS => ?_⟩) HS.out ?_
  · (go_simp)
  simp only [Act.put, List.setIfInBounds_toArray, List.set_cons_zero, List.set_cons_succ]
  refine heldTake 4 (some 8) (.slice (some ⟨g, 0, none⟩) 32 32) rfl rfl (by kernel_rfl) (by kernel_rfl) (by kernel_rfl) (fun _ _ _ h => h) (Or.inl ⟨by rfl, fun w hS => ?_⟩) HS.out ?_
  · (go_simp)
  simp only [Act.put, List.setIfInBounds_toArray, List.set_cons_zero, List.set_cons_succ]
  refine heldTake 5 (some 9) (.string sd) rfl rfl (by kernel_rfl) (by kernel_rfl) (by kernel_rfl) (fun _ _ _ h => h) (Or.inl ⟨by rfl, fun w hS => ?_⟩) HS.out ?_
  · (have hcv := CV.out w hS; go_simp)
  simp only [Act.put, List.setIfInBounds_toArray, List.set_cons_zero, List.set_cons_succ]
  refine heldTake 6 (some 10) (.agg #[.int .i64 3, .int .i64 1, .int .i64 0, .string sd]) rfl rfl (by kernel_rfl) (by kernel_rfl) (by kernel_rfl) (fun _ _ _ h => h) (Or.inl ⟨by rfl, fun w hS => ?_⟩) HS.out ?_
  · (go_simp)
  simp only [Act.put, List.setIfInBounds_toArray, List.set_cons_zero, List.set_cons_succ]
  refine heldOne 3 (by kernel_rfl) rfl (by rfl) (fun KK hK => ?_)
  go_simp
  refine hK.out _ _ HS.out ?_
  clear hK KK
  try simp only [Act.put, List.setIfInBounds_toArray, List.set_cons_zero, List.set_cons_succ]
  refine heldOne 7 (by kernel_rfl) rfl (by rfl) (fun KK hK => ?_)
  go_simp
  go_at_call 65
  refine (PU.out _ HFd.out).mono ?_
  rintro e w3 ⟨v3, rfl, ho3, hB3⟩
  obtain ⟨a3, k3, rfl⟩ := own_slc ho3
  have HO3 : Hid (w3.ownsRow w2.heap.size 79 4 (.slice a3 (m + 1) k3) (m + 1) (gs.flatMap fcells)) := ho3
  have hrl2 : r < w2.heap.size := by omega
  have HR3 : Hid (w3.heap[r]? = some (.cells #[.slice a m cap] 80 (0, 0))) := (hB3.block r hrl2).trans HRd.out
  have HS3 : Hid ((fun W : World => W.rangeAt g 0 dc) w3) := fun j v hv => (hB3.cell (p := ⟨g, 0 + j, none⟩) hld).trans (HS.out j v hv)
  have HB3 : Hid (Below g w w3) := (HGw.eq ▸ HBd.out).trans (hB3.mono (by omega))
  have c4 : w3.cell? ⟨r, 0, none⟩ = some (.slice a m cap) := by rw [cell_of_row w3 r 0 _ 80 (0, 0) HR3.out]; rfl
  have f4 : w3.frozen? ⟨r, 0, none⟩ = false := frozen_of_row w3 r 0 _ _ HR3.out
  clear ho3 hB3 c3
  refine hK.out _ _ HS3.out ?_
  clear hK KK
  try simp only [Act.put, List.setIfInBounds_toArray, List.set_cons_zero, List.set_cons_succ]
  refine heldTake 8 (some 12) (.pointer (some ⟨r, 0, none⟩)) rfl rfl (by kernel_rfl) (by kernel_rfl) (by kernel_rfl) (fun _ _ _ h => h) (Or.inl ⟨by rfl, fun w hS => ?_⟩) HS3.out ?_
  · (go_simp)
  simp only [Act.put, List.setIfInBounds_toArray, List.set_cons_zero, List.set_cons_succ]
  refine heldOne 9 (by kernel_rfl) rfl (by rfl) (fun KK hK => ?_)
  go_simp
  refine hK.out _ _ ?_ ?_
  · intro j v hv
    have h := HS3.out j v hv
    rw [← h]
    unfold World.cell?
    rw [Below.heap_setCell _ _ _ _ (show g ≠ r by omega)]
  clear hK KK
  try simp only [Act.put, List.setIfInBounds_toArray, List.set_cons_zero, List.set_cons_succ]
  refine wpAnyH_done (by kernel_rfl) ?_ _
  go_wp2_with fail
  go_end0
  refine ⟨rfl, ?_, (HB3.out.mono (Nat.le_of_lt hrl)).setCell (p := ⟨r, 0, none⟩) (Nat.le_refl _) _⟩
  rw [HGS.eq]
  refine ⟨.slice a3 (m + 1) k3, heap_setCell_same w3 r 0 _ _ _ HR3.out, ?_⟩
  rw [HLN.eq]
  exact ownsRow_setCell_below (own_mono HO3.out hrl2) (by show r < r + 1; omega) _
end Go.Proofs.YtealbeblkilibaaDoor
/- Proved: Encode and EncodeArch answer the record, or refuse. -/
namespace Go.Proofs.YtealbeblkilibaaDoor
open Go.RowKit
open Ino (Nd Ar)
open FI (Fv fv0 fcells putV In64)
theorem fit_nil : Fit [] := fun f hf => by cases hf
theorem in64_small {z : Int} (h0 : 0 ≤ z) (h1 : z ≤ 100) : In64 z := by unfold In64; omega
def encL (n : Nd) : List Fv := if Ino.chk n = 0 then Ino.recN n else []
def encA (a : Ar) : List Fv := if Ino.chkA a = 0 then Ino.recA a else []
structure RecGood (l : List Fv) (k : Nat) : Prop where
  fit : Fit l
  len : l.length ≤ k
theorem RecGood.nil : RecGood [] 0 := ⟨fit_nil, Nat.le_refl _⟩
theorem RecGood.num {l : List Fv} {k : Nat} (h : RecGood l k) (tag n : Int) (h0 : 0 ≤ tag) (h1 : tag ≤ 100) (hn : In64 n) : RecGood (Ino.putN l tag n) (k + 1) :=
  ⟨h.fit.num (in64_small h0 h1) hn, Nat.le_trans (putN_length _ _ _) (Nat.succ_le_succ h.len)⟩
theorem RecGood.sum {l : List Fv} {k : Nat} (h : RecGood l k) {d : List UInt8} (hd : d.length = 32) : RecGood (putV l ⟨3, 1, 0, Go.Proofs.YtealbeblkilibaaDoor.mk d⟩) (k + 1) :=
  ⟨h.fit.put (sum_fits hd), by rw [FI.putV_length]; exact Nat.succ_le_succ h.len⟩
theorem recN_good {n : Nd} (h : NdIn n) : RecGood (Ino.recN n) 6 := by
  rw [← Ino.rec_put n]
  by_cases hk : n.kind = 2
  · rw [if_pos hk]
    exact (((((RecGood.nil.num 1 n.kind (by omega) (by omega) h.kind).num 2 n.size (by omega) (by omega) h.size).sum h.sum).num 4 n.content (by omega) (by omega) h.content).num 5 n.version (by omega) (by omega) h.version).num 6 n.opened (by omega) (by omega) h.opened
  · rw [if_neg hk]
    have g := ((((RecGood.nil.num 1 n.kind (by omega) (by omega) h.kind).num 2 n.size (by omega) (by omega) h.size).num 4 n.content (by omega) (by omega) h.content).num 5 n.version (by omega) (by omega) h.version).num 6 n.opened (by omega) (by omega) h.opened
    exact ⟨g.fit, Nat.le_trans g.len (by omega)⟩
theorem recA_good {a : Ar} (h : ArIn a) : RecGood (Ino.recA a) 3 := by
  rw [← Ino.recA_put a]
  exact ((RecGood.nil.num 2 a.size (by omega) (by omega) h.size).sum h.sum).num 5 a.version (by omega) (by omega) h.version
theorem encL_good {n : Nd} (h : NdIn n) : RecGood (encL n) 6 := by
  unfold encL
  split
  · exact recN_good h
  · exact ⟨fit_nil, by simp⟩
theorem encA_good {a : Ar} (h : ArIn a) : RecGood (encA a) 3 := by
  unfold encA
  split
  · exact recA_good h
  · exact ⟨fit_nil, by simp⟩
theorem rec_slice {W : World} {r : Nat} {fs : List Fv} (h : RecAt W r fs) : ∃ a c, W.cell? ⟨r, 0, none⟩ = some (.slice a fs.length c) ∧ W.ownsRow (r + 1) 79 4 (.slice a fs.length c) fs.length (fs.flatMap fcells) := by
  obtain ⟨v, hr, ho⟩ := h
  obtain ⟨a, c, rfl⟩ := own_slc ho
  exact ⟨a, c, by rw [cell_of_row W r 0 _ 80 (0, 0) hr]; rfl, ho⟩
theorem own_noF (w : World) (N : Nat) : w.ownsRow N 79 4 (.slice none 0 0) 0 (([] : List Fv).flatMap fcells) := ⟨rfl, .inl ⟨rfl, rfl⟩⟩
set_option maxHeartbeats 2000000 in
set_option maxRecDepth 20000 in
theorem encode_any (n : Nd) (w : World) (hn : NdIn n) : Calls Tryd.prog 16 #[.agg (ndc n)] w fun e w' => ∃ v, e = .returned (.tuple #[v, .int .i64 (Ino.chk n : Nat)]) ∧ w'.ownsRow w.heap.size 79 4 v (encL n).length ((encL n).flatMap fcells) ∧ Below w.heap.size w w' := by
  have HI : Is (encL n) (if Ino.chk n = 0 then Ino.recN n else []) := ⟨rfl⟩
  have hr0 : (w.alloc (.cells (ndc n) 39)).heap[w.heap.size]? = some (.cells (ndc n) 39 (0, 0)) := heap_alloc_new w _
  have hA := nd_at hn.sum hr0
  have HB1 : Hid (Below w.heap.size w (w.alloc (.cells (ndc n) 39))) := (Below.refl _ w).alloc (Nat.le_refl _) _
  have HC : Hid (∀ W : World, Calls Tryd.prog 20 #[.agg (ndc n)] W fun e w' => e = .returned (.int .i64 (Ino.chk n : Nat)) ∧ Below W.heap.size W w') := fun W => check_any n W hn.sum
  have HZ : Is (ndc n).size 37 := ⟨ndc_size hn.sum⟩
  have HLn : Is (n.sum.map c8).length 32 := ⟨by rw [List.length_map, hn.sum]⟩
  have HR : Is ((w.alloc (.cells (ndc n) 39)).heap[w.heap.size]?) (some (.cells (ndc n) 39 (0, 0))) := ⟨hr0⟩
  have HRP : Is _ _ := ⟨Ino.rec_put n⟩
  go_enter Tryd.func16, Tryd.ntmps16
  go_upto_region 1 with fail
  have hz1 : w.heap.size + 1 ≤ (w.alloc (.cells (ndc n) 39)).heap.size := by simp
  generalize hw1 : w.alloc (.cells (ndc n) 39) = w1 at *
  obtain ⟨g, hg⟩ : ∃ g, w.heap.size = g := ⟨_, rfl⟩
  have HGg : Is w.heap.size g := ⟨hg⟩
  rw [hg] at hA HR hz1
  have HNd : Hid (∀ W : World, Below (g + 1) w1 W → NdAt W g n) := fun W h => hA.below h (by omega)
  have HBb : Hid (∀ W : World, Below (g + 1) w1 W → Below w.heap.size w W) := fun W h => HB1.out.trans (h.mono (by omega))
  have HK0 : Hid (∀ W : World, Below (g + 1) w1 W → W.cell? ⟨g, 0, none⟩ = some (.int .i64 n.kind)) := fun W h => (HNd.out W h).kind
  have HK1 : Hid (∀ W : World, Below (g + 1) w1 W → W.cell? ⟨g, 1, none⟩ = some (.int .i64 n.size)) := fun W h => (HNd.out W h).size
  have HK3 : Hid (∀ W : World, Below (g + 1) w1 W → W.cell? ⟨g, 34, none⟩ = some (.int .i64 n.content)) := fun W h => (HNd.out W h).content
  have HK4 : Hid (∀ W : World, Below (g + 1) w1 W → W.cell? ⟨g, 35, none⟩ = some (.int .i64 n.version)) := fun W h => (HNd.out W h).version
  have HK5 : Hid (∀ W : World, Below (g + 1) w1 W → W.cell? ⟨g, 36, none⟩ = some (.int .i64 n.opened)) := fun W h => (HNd.out W h).opened
  have HCS : Hid (∀ W : World, Below (g + 1) w1 W → W.rangeAt g 2 (n.sum.map c8)) := fun W h => (HNd.out W h).sum
  rw [hg]
  clear hr0 hA HB1 hw1 hg HNd
  have PS : Hid (∀ (r : Nat) (fs : List Fv) (W : World), RecAt W r fs → Fit fs → fs.length ≤ 100 → Calls Tryd.prog 42 #[.pointer (some ⟨r, 0, none⟩), .agg (n.sum.map c8).toArray] W fun e w' => e = .returned (.tuple #[]) ∧ RecAt w' r (putV fs ⟨3, 1, 0, mk n.sum⟩) ∧ Below r W w') := fun r fs W h1 h2 h3 => putSum_any r n.sum fs W h1 h2 h3 hn.sum
  generalize ndc n = C at *
  generalize n.sum.map c8 = cs at *
  go_wp2_with (first | (refine load_met (by rfl) 39 _ rfl _ rfl 39 C (0, 0) _ HR.eq Tryd.underlying39 rfl (by rw [size39, HZ.eq]) ?_))
  refine (HC.out _).mono ?_
  rintro e w2 ⟨rfl, hB2⟩
  have HS2 : Hid (Below (g + 1) w1 w2) := hB2.mono hz1
  have hz2 : g + 1 ≤ w2.heap.size := Nat.le_trans hz1 hB2.size
  clear hB2 HR HC
  rcases Ino.chk_le n with h0 | h0
  · rw [h0, if_pos rfl] at HI
    have HCh : Is (Ino.chk n) 0 := ⟨h0⟩
    rw [h0]
    clear h0
    have HR3 : Hid (RecAt (w2.alloc (.cells #[.slice none 0 0] 80)) w2.heap.size []) := rec_new w2
    have HS3 : Hid (Below (g + 1) w1 (w2.alloc (.cells #[.slice none 0 0] 80))) := HS2.out.trans ((Below.refl _ w2).alloc hz2 _)
    have HG3 : Hid (RecGood [] 0) := RecGood.nil
    go_upto_region 5 with fail
    generalize w2.alloc (.cells #[.slice none 0 0] 80) = w3 at *
    generalize w2.heap.size = r at *
    have hgr : g + 1 ≤ r := hz2
    by_cases hk : n.kind = 2
    · rw [if_pos hk] at HRP
      have HKn : Is n.kind 2 := ⟨hk⟩
      rw [hk] at HK0 HRP
      clear hk
      have k4 := HK0.out _ HS3.out
      go_wp2_with fail
      refine (putNum_any r 1 2 _ w3 HR3.out HG3.out.fit (Nat.le_trans HG3.out.len (by omega))).mono ?_
      rintro e w4 ⟨rfl, hR4, hB4⟩
      have HR4 : Hid (RecAt w4 r (Ino.putN (([] : List Fv)) 1 2)) := hR4
      have HS4 : Hid (Below (g + 1) w1 w4) := HS3.out.trans (hB4.mono hgr)
      have HG4 : Hid (RecGood (Ino.putN (([] : List Fv)) 1 2) 1) := HG3.out.num 1 2 (by omega) (by omega) (in64_small (by omega) (by omega))
      clear hR4 hB4 HR3 k4
      have k5 := HK1.out _ HS4.out
      go_wp2_with fail
      refine (putNum_any r 2 n.size _ w4 HR4.out HG4.out.fit (Nat.le_trans HG4.out.len (by omega))).mono ?_
      rintro e w5 ⟨rfl, hR5, hB5⟩
      have HR5 : Hid (RecAt w5 r (Ino.putN (Ino.putN (([] : List Fv)) 1 2) 2 n.size)) := hR5
      have HS5 : Hid (Below (g + 1) w1 w5) := HS4.out.trans (hB5.mono hgr)
      have HG5 : Hid (RecGood (Ino.putN (Ino.putN (([] : List Fv)) 1 2) 2 n.size) 2) := HG4.out.num 2 n.size (by omega) (by omega) hn.size
      clear hR5 hB5 HR4 k5
      have kk5 := HK0.out _ HS5.out
      have HSr : w5.rangeAt g 2 cs := HCS.out _ HS5.out
      go_wp2_with (first | (refine load_met_mid (by rfl) 37 _ rfl _ 2 rfl cs _ HSr Tryd.underlying37 rfl (by rw [size37, HLn.eq]) ?_))
      refine (PS.out r _ w5 HR5.out HG5.out.fit (Nat.le_trans HG5.out.len (by omega))).mono ?_
      rintro e w6 ⟨rfl, hR6, hB6⟩
      have HR6 : Hid (RecAt w6 r (putV (Ino.putN (Ino.putN (([] : List Fv)) 1 2) 2 n.size) ⟨3, 1, 0, mk n.sum⟩)) := hR6
      have HS6 : Hid (Below (g + 1) w1 w6) := HS5.out.trans (hB6.mono hgr)
      have HG6 : Hid (RecGood (putV (Ino.putN (Ino.putN (([] : List Fv)) 1 2) 2 n.size) ⟨3, 1, 0, mk n.sum⟩) 3) := HG5.out.sum hn.sum
      clear hR6 hB6 HR5 HSr
      have k7 := HK3.out _ HS6.out
      go_wp2_with fail
      refine (putNum_any r 4 n.content _ w6 HR6.out HG6.out.fit (Nat.le_trans HG6.out.len (by omega))).mono ?_
      rintro e w7 ⟨rfl, hR7, hB7⟩
      have HR7 : Hid (RecAt w7 r (Ino.putN (putV (Ino.putN (Ino.putN (([] : List Fv)) 1 2) 2 n.size) ⟨3, 1, 0, mk n.sum⟩) 4 n.content)) := hR7
      have HS7 : Hid (Below (g + 1) w1 w7) := HS6.out.trans (hB7.mono hgr)
      have HG7 : Hid (RecGood (Ino.putN (putV (Ino.putN (Ino.putN (([] : List Fv)) 1 2) 2 n.size) ⟨3, 1, 0, mk n.sum⟩) 4 n.content) 4) := HG6.out.num 4 n.content (by omega) (by omega) hn.content
      clear hR7 hB7 HR6 k7
      have k8 := HK4.out _ HS7.out
      go_wp2_with fail
      refine (putNum_any r 5 n.version _ w7 HR7.out HG7.out.fit (Nat.le_trans HG7.out.len (by omega))).mono ?_
      rintro e w8 ⟨rfl, hR8, hB8⟩
      have HR8 : Hid (RecAt w8 r (Ino.putN (Ino.putN (putV (Ino.putN (Ino.putN (([] : List Fv)) 1 2) 2 n.size) ⟨3, 1, 0, mk n.sum⟩) 4 n.content) 5 n.version)) := hR8
      have HS8 : Hid (Below (g + 1) w1 w8) := HS7.out.trans (hB8.mono hgr)
      have HG8 : Hid (RecGood (Ino.putN (Ino.putN (putV (Ino.putN (Ino.putN (([] : List Fv)) 1 2) 2 n.size) ⟨3, 1, 0, mk n.sum⟩) 4 n.content) 5 n.version) 5) := HG7.out.num 5 n.version (by omega) (by omega) hn.version
      clear hR8 hB8 HR7 k8
      have k9 := HK5.out _ HS8.out
      go_wp2_with fail
      refine (putNum_any r 6 n.opened _ w8 HR8.out HG8.out.fit (Nat.le_trans HG8.out.len (by omega))).mono ?_
      rintro e w9 ⟨rfl, hR9, hB9⟩
      have HR9 : Hid (RecAt w9 r (Ino.putN (Ino.putN (Ino.putN (putV (Ino.putN (Ino.putN (([] : List Fv)) 1 2) 2 n.size) ⟨3, 1, 0, mk n.sum⟩) 4 n.content) 5 n.version) 6 n.opened)) := hR9
      have HS9 : Hid (Below (g + 1) w1 w9) := HS8.out.trans (hB9.mono hgr)
      have HG9 : Hid (RecGood (Ino.putN (Ino.putN (Ino.putN (putV (Ino.putN (Ino.putN (([] : List Fv)) 1 2) 2 n.size) ⟨3, 1, 0, mk n.sum⟩) 4 n.content) 5 n.version) 6 n.opened) 6) := HG8.out.num 6 n.opened (by omega) (by omega) hn.opened
      clear hR9 hB9 HR8 k9
      have HE : Is (Ino.putN (Ino.putN (Ino.putN (putV (Ino.putN (Ino.putN (([] : List Fv)) 1 2) 2 n.size) ⟨3, 1, 0, mk n.sum⟩) 4 n.content) 5 n.version) 6 n.opened) (Ino.recN n) := ⟨HRP.eq⟩
      rw [HE.eq] at HR9
      obtain ⟨ad, cp, hcl, how⟩ := rec_slice HR9.out
      have HO : Hid (w9.ownsRow w.heap.size 79 4 (.slice ad (Ino.recN n).length cp) (Ino.recN n).length ((Ino.recN n).flatMap fcells)) := own_mono how (by rw [HGg.eq]; omega)
      have HBf : Hid (Below w.heap.size w w9) := HBb.out _ HS9.out
      clear how HE HR9
      go_wp2_with fail
      go_ret2
      exact ⟨_, by rw [HCh.eq]; rfl, by rw [HI.eq]; exact HO.out, HBf.out⟩
    · rw [if_neg hk] at HRP
      have hk' : (n.kind == 2) = false := by simpa using hk
      have k4 := HK0.out _ HS3.out
      go_wp2_with fail
      refine (putNum_any r 1 n.kind _ w3 HR3.out HG3.out.fit (Nat.le_trans HG3.out.len (by omega))).mono ?_
      rintro e w4 ⟨rfl, hR4, hB4⟩
      have HR4 : Hid (RecAt w4 r (Ino.putN (([] : List Fv)) 1 n.kind)) := hR4
      have HS4 : Hid (Below (g + 1) w1 w4) := HS3.out.trans (hB4.mono hgr)
      have HG4 : Hid (RecGood (Ino.putN (([] : List Fv)) 1 n.kind) 1) := HG3.out.num 1 n.kind (by omega) (by omega) hn.kind
      clear hR4 hB4 HR3 k4
      have k5 := HK1.out _ HS4.out
      go_wp2_with fail
      refine (putNum_any r 2 n.size _ w4 HR4.out HG4.out.fit (Nat.le_trans HG4.out.len (by omega))).mono ?_
      rintro e w5 ⟨rfl, hR5, hB5⟩
      have HR5 : Hid (RecAt w5 r (Ino.putN (Ino.putN (([] : List Fv)) 1 n.kind) 2 n.size)) := hR5
      have HS5 : Hid (Below (g + 1) w1 w5) := HS4.out.trans (hB5.mono hgr)
      have HG5 : Hid (RecGood (Ino.putN (Ino.putN (([] : List Fv)) 1 n.kind) 2 n.size) 2) := HG4.out.num 2 n.size (by omega) (by omega) hn.size
      clear hR5 hB5 HR4 k5
      have kk5 := HK0.out _ HS5.out
      have k6 := HK3.out _ HS5.out
      go_wp2_with fail
      refine (putNum_any r 4 n.content _ w5 HR5.out HG5.out.fit (Nat.le_trans HG5.out.len (by omega))).mono ?_
      rintro e w6 ⟨rfl, hR6, hB6⟩
      have HR6 : Hid (RecAt w6 r (Ino.putN (Ino.putN (Ino.putN (([] : List Fv)) 1 n.kind) 2 n.size) 4 n.content)) := hR6
      have HS6 : Hid (Below (g + 1) w1 w6) := HS5.out.trans (hB6.mono hgr)
      have HG6 : Hid (RecGood (Ino.putN (Ino.putN (Ino.putN (([] : List Fv)) 1 n.kind) 2 n.size) 4 n.content) 3) := HG5.out.num 4 n.content (by omega) (by omega) hn.content
      clear hR6 hB6 HR5 k6
      have k7 := HK4.out _ HS6.out
      go_wp2_with fail
      refine (putNum_any r 5 n.version _ w6 HR6.out HG6.out.fit (Nat.le_trans HG6.out.len (by omega))).mono ?_
      rintro e w7 ⟨rfl, hR7, hB7⟩
      have HR7 : Hid (RecAt w7 r (Ino.putN (Ino.putN (Ino.putN (Ino.putN (([] : List Fv)) 1 n.kind) 2 n.size) 4 n.content) 5 n.version)) := hR7
      have HS7 : Hid (Below (g + 1) w1 w7) := HS6.out.trans (hB7.mono hgr)
      have HG7 : Hid (RecGood (Ino.putN (Ino.putN (Ino.putN (Ino.putN (([] : List Fv)) 1 n.kind) 2 n.size) 4 n.content) 5 n.version) 4) := HG6.out.num 5 n.version (by omega) (by omega) hn.version
      clear hR7 hB7 HR6 k7
      have k8 := HK5.out _ HS7.out
      go_wp2_with fail
      refine (putNum_any r 6 n.opened _ w7 HR7.out HG7.out.fit (Nat.le_trans HG7.out.len (by omega))).mono ?_
      rintro e w8 ⟨rfl, hR8, hB8⟩
      have HR8 : Hid (RecAt w8 r (Ino.putN (Ino.putN (Ino.putN (Ino.putN (Ino.putN (([] : List Fv)) 1 n.kind) 2 n.size) 4 n.content) 5 n.version) 6 n.opened)) := hR8
      have HS8 : Hid (Below (g + 1) w1 w8) := HS7.out.trans (hB8.mono hgr)
      have HG8 : Hid (RecGood (Ino.putN (Ino.putN (Ino.putN (Ino.putN (Ino.putN (([] : List Fv)) 1 n.kind) 2 n.size) 4 n.content) 5 n.version) 6 n.opened) 5) := HG7.out.num 6 n.opened (by omega) (by omega) hn.opened
      clear hR8 hB8 HR7 k8
      have HE : Is (Ino.putN (Ino.putN (Ino.putN (Ino.putN (Ino.putN (([] : List Fv)) 1 n.kind) 2 n.size) 4 n.content) 5 n.version) 6 n.opened) (Ino.recN n) := ⟨HRP.eq⟩
      rw [HE.eq] at HR8
      obtain ⟨ad, cp, hcl, how⟩ := rec_slice HR8.out
      have HO : Hid (w8.ownsRow w.heap.size 79 4 (.slice ad (Ino.recN n).length cp) (Ino.recN n).length ((Ino.recN n).flatMap fcells)) := own_mono how (by rw [HGg.eq]; omega)
      have HBf : Hid (Below w.heap.size w w8) := HBb.out _ HS8.out
      clear how HE HR8
      go_wp2_with fail
      go_ret2
      exact ⟨_, by rw [HCh.eq]; rfl, by rw [HI.eq]; exact HO.out, HBf.out⟩
  · rw [h0, if_neg (by omega)] at HI
    have HCh : Is (Ino.chk n) 2 := ⟨h0⟩
    rw [h0]
    clear h0
    go_wp2_with fail
    go_ret2
    exact ⟨_, by rw [HCh.eq]; rfl, by rw [HI.eq]; exact own_noF _ _, HBb.out _ HS2.out⟩
end Go.Proofs.YtealbeblkilibaaDoor
/- Proved: the document's number and digest; one slice of fields of the call's own behind another. -/
namespace Go.Proofs.YtealbeblkilibaaDoor
open Go.RowKit
open Ino (Nd Ar)
open FI (Fv fv0 fcells fcells_length fcells_one In64)
theorem run_app_none {P : Program} {w : World} (base : Nat) (t ty e : TypeId) (i : TypeInfo) (size : Nat) (ht : P.underlying t = some (.slice e)) (hi : P.info? e = some i)
    (v : Value) (n c : Nat) (xs : List Value) (hown : w.ownsRow base e size v n xs) :
    (Builtin.append_ #[t, t] ty #[v, .slice none 0 c]).run P w = .ok v w := by
  rcases hown.2 with ⟨rfl, rfl⟩ | ⟨g, cap, cur, rfl, _, _, hnc, _⟩
  · simp [Builtin.append_, run_underlying ht, sizeOf, typeInfo, hi, Builtin.lenOf, Builtin.firstCells]
  · simp [Builtin.append_, run_underlying ht, sizeOf, typeInfo, hi, Builtin.lenOf, Builtin.firstCells, hnc, storeCells]
theorem run_app_f {W : World} {B B2 : Nat} {v y : Value} {fs gs : List Fv} (ty : TypeId) (hown : W.ownsRow B 79 4 v fs.length (fs.flatMap fcells)) (hy : W.ownsRow B2 79 4 y gs.length (gs.flatMap fcells)) (hb : fs.length + gs.length ≤ 1000) (hB : B ≤ W.heap.size) :
    ∃ v' w', (Builtin.append_ #[40, 40] ty #[v, y]).run Tryd.prog W = .ok v' w' ∧ w'.ownsRow B 79 4 v' (fs ++ gs).length ((fs ++ gs).flatMap fcells) ∧ Below B W w' := by
  rw [List.length_append]
  rcases hy.2 with ⟨hv, hn⟩ | ⟨g, cap, cur, hv, _, hh, hc, _, _, ht⟩
  · have hg : gs = [] := List.eq_nil_of_length_eq_zero hn
    subst hg
    refine ⟨v, W, ?_, by simpa using hown, Below.refl _ _⟩
    rw [hv]
    exact run_app_none B _ ty _ _ 4 Tryd.underlying40 FI.info38 v _ 0 _ hown
  · subst hv
    obtain ⟨v', w', hr, h2, h3, h4, h5⟩ := run_append_own_at (P := Tryd.prog) W B 40 ty 79 Tryd.t79 (.agg #[.int .i64 0, .int .i64 0, .int .i64 0, .string ByteArray.empty]) 4 40 Tryd.underlying40 FI.info38 rfl rfl rfl rfl (by omega) v fs.length (fs.flatMap fcells) hown ⟨g, 0, none⟩ gs.length cap (gs.flatMap fcells) (by rw [fcells_length])
      (fun j u hj => by
        have hjl : j < gs.length * 4 := by
          have := (List.getElem?_eq_some_iff.1 hj).1
          rwa [fcells_length] at this
        rw [Go.WideShapes.add_plain, cell_of_row _ _ (0 + j) _ 79 (0, 0) hh, Nat.zero_add, ← Array.getElem?_toList, ← hj, ← ht, List.getElem?_take_of_lt hjl])
      (fcells_one gs) (by unfold maxLen; omega) (by omega) hB
    refine ⟨v', w', hr, by rw [List.flatMap_append]; exact h2, (Below.refl _ _).grown h3 hB (fun k hk => ?_)⟩
    rcases hown.2 with ⟨hv, _⟩ | ⟨g', cap', cur', hv, hNg, _⟩
    · subst hv; cases hk
    · subst hv
      have : g' = k := Option.some.inj hk
      omega
theorem append_two {ops : Array Oper} {rest : List Oper} {o : Oper} {a : Act} {Q : Exit → Act → World → Prop} (hgd : o.guard = none) (s x : Operand)
    (ho : o.op = .call { callee := .builtin .append, args := #[s, x], argTypes := #[40, 40] }) (W : World) (B B2 : Nat) (v y : Value) (fs gs : List Fv) (hs : a.eval s = v) (hx : a.eval x = y)
    (hown : W.ownsRow B 79 4 v fs.length (fs.flatMap fcells)) (hy : W.ownsRow B2 79 4 y gs.length (gs.flatMap fcells)) (hb : fs.length + gs.length ≤ 1000) (hB : B ≤ W.heap.size)
    (h : ∀ v' w', w'.ownsRow B 79 4 v' (fs ++ gs).length ((fs ++ gs).flatMap fcells) → Below B W w' → wpList Tryd.prog ops Q rest (a.put o.dst v') w') : wpList Tryd.prog ops Q (o :: rest) a W := by
  obtain ⟨v', w', hr, h2, h3⟩ := run_app_f o.type hown hy hb hB
  refine wpList_plain hgd fun K hK => ?_
  unfold Oper.wp execOp
  simp only [ho, resolve, invoke, builtin, Sem.run_bind, Sem.run_pure, Result.andThen_ok, List.map_toArray, List.map_cons, List.map_nil, hs, hx, hr]
  exact hK _ _ (h v' w' h2 h3)
theorem op_append (k : Nat) {o : Oper} {a : Act} {W : World} {K : Act → World → Prop} {Q : Exit → Act → World → Prop} {s x : Operand}
    (ho : o.op = .call { callee := .builtin .append, args := #[s, x], argTypes := #[40, 40] }) {v y v' : Value} {w' : World} (hs : a.eval s = v) (hx : a.eval x = y)
    (hr : (Builtin.append_ #[40, 40] o.type #[v, y]).run Tryd.prog W = .ok v' w') (hd : o.dst = some k) (h : K (a.put (some k) v') w') : Oper.wp Tryd.prog o a W K Q := by
  rw [← hd] at h
  unfold Oper.wp execOp
  simp only [ho, resolve, invoke, builtin, Sem.run_bind, Sem.run_pure, Result.andThen_ok, List.map_toArray, List.map_cons, List.map_nil, hs, hx, hr]
  exact h
theorem own_litF (w : World) (N : Nat) (f : Fv) (hN : N ≤ w.heap.size) : (w.alloc (.cells #[.int .i64 f.tag, .int .i64 f.kind, .int .i64 f.n, .string f.s] 79)).ownsRow N 79 4 (.slice (some ⟨w.heap.size, 0, none⟩) 1 1) 1 (([f] : List Fv).flatMap fcells) :=
  World.ownsRow_lit w #[.int .i64 f.tag, .int .i64 f.kind, .int .i64 f.n, .string f.s] 1 hN (by unfold maxLen; omega) rfl
set_option maxHeartbeats 1000000 in
theorem number_any (tag n : Int) (w : World) : Calls Tryd.prog 43 #[.int .i64 tag, .int .i64 n] w fun e w' => ∃ v, e = .returned v ∧ w'.ownsRow w.heap.size 79 4 v (Ino.numF tag n).length ((Ino.numF tag n).flatMap fcells) ∧ Below w.heap.size w w' := by
  by_cases h0 : n = 0
  · subst h0
    have HP : Is (Ino.numF tag 0) [] := ⟨by unfold Ino.numF; rw [if_pos rfl]⟩
    go_enter Tryd.func43, Tryd.ntmps43
    go_wp2
    go_ret
    exact ⟨_, rfl, by rw [HP.eq]; exact own_noF _ _, Below.refl _ _⟩
  · have h0' : (n == 0) = false := by simpa using h0
    have HP : Is (Ino.numF tag n) [⟨tag, 0, n, ⟨#[]⟩⟩] := ⟨by unfold Ino.numF; rw [if_neg h0]⟩
    go_enter Tryd.func43, Tryd.ntmps43
    go_wp2
    go_ret
    exact ⟨_, rfl, by rw [HP.eq]; exact own_litF w _ ⟨tag, 0, n, ⟨#[]⟩⟩ (Nat.le_refl _), (Below.refl _ w).alloc (Nat.le_refl _) _⟩
set_option maxHeartbeats 1000000 in
set_option maxRecDepth 20000 in
theorem digest_any (d : List UInt8) (w : World) (hd : d.length = 32) : Calls Tryd.prog 44 #[.agg (smc d)] w fun e w' => ∃ v, e = .returned v ∧ w'.ownsRow w.heap.size 79 4 v (Ino.sumF d).length ((Ino.sumF d).flatMap fcells) ∧ Below w.heap.size w w' := by
  have HP : Is (Ino.sumF d) [⟨3, 1, 0, mk d⟩] := ⟨rfl⟩
  have hr2 : (w.alloc (.cells (smc d) 37)).heap[w.heap.size]? = some (.cells (smc d) 37 (0, 0)) := heap_alloc_new w _
  have hcv := conv_sum hd 32 (W := w.alloc (.cells (smc d) 37)) (g := w.heap.size) (k := 0) (range_row hr2)
  have HB1 : Hid (Below w.heap.size w (w.alloc (.cells (smc d) 37))) := (Below.refl _ w).alloc (Nat.le_refl _) _
  have hz := HB1.out.size
  clear hr2
  go_enter Tryd.func44, Tryd.ntmps44
  go_upto_region 1 with fail
  generalize smc d = D at *
  generalize w.alloc (.cells D 37) = w1 at *
  obtain ⟨sd, hsd⟩ : ∃ sd, mk d = sd := ⟨_, rfl⟩
  rw [hsd] at HP hcv
  clear hsd
  go_wp2_with fail
  go_ret
  exact ⟨_, rfl, by rw [HP.eq]; exact own_litF w1 _ ⟨3, 1, 0, sd⟩ hz, HB1.out.trans (((Below.refl _ w1).alloc (Nat.le_refl _) _).mono hz)⟩
end Go.Proofs.YtealbeblkilibaaDoor
