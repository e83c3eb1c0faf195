/- Proved: what the document's key, page and cell answer (stage 11). -/
import Derived.Test.YtoinaplmgffkpaaEncL
namespace Go.Proofs.Ytoinaplmgffkpaa
open Go.RowKit
open Sl (Cel Nod)
theorem rkey_any (s : ByteArray) (w : World) (hs : s.size ≤ 9223372036854775807) :
    Calls Try.prog 63 #[.string s] w fun e w' => e = .returned (.bool (Sl.isKey s)) ∧ w' = w := by
  unfold Sl.isKey
  by_cases h1 : 1 ≤ s.size
  · have d1 : decide ((0 : Int) < (s.size : Int)) = true := by simp; omega
    have d3 : 0 < s.size := by omega
    by_cases h2 : s.size ≤ 140
    · have d2 : decide ((s.size : Int) < 141) = true := by simp; omega
      have d4 : s.size < 141 := by omega
      go_enter Try.func63, Try.ntmps63
      go_wp2
      go_ret
      exact ⟨by simp [h1, h2], rfl⟩
    · have d2 : decide ((s.size : Int) < 141) = false := by simp; omega
      have d4 : ¬ s.size < 141 := by omega
      go_enter Try.func63, Try.ntmps63
      go_wp2
      go_ret
      exact ⟨by simp [h1, h2], rfl⟩
  · have d1 : decide ((0 : Int) < (s.size : Int)) = false := decide_eq_false (by omega)
    have d3 : ¬ 0 < s.size := by omega
    go_enter Try.func63, Try.ntmps63
    go_wp2
    go_ret
    exact ⟨by simp [h1], rfl⟩
theorem rpage_any (i : Int) (w : World) :
    Calls Try.prog 64 #[.int .i64 i] w fun e w' => e = .returned (.bool (Sl.isPage i)) ∧ w' = w := by
  unfold Sl.isPage
  by_cases h1 : 1 ≤ i
  · have d1 : 0 < i := by omega
    have e1 : decide (1 ≤ i) = true := decide_eq_true h1
    by_cases h2 : i ≤ 2147483647
    · have d2 : i < 2147483648 := by omega
      have HV : Is (decide (1 ≤ i) && decide (i ≤ 2147483647)) true := ⟨by simp [h1, h2]⟩
      clear h1 h2 e1
      go_enter Try.func64, Try.ntmps64
      go_wp2
      go_ret
      exact ⟨by rw [HV.eq]; rfl, rfl⟩
    · have d2 : ¬ i < 2147483648 := by omega
      have HV : Is (decide (1 ≤ i) && decide (i ≤ 2147483647)) false := ⟨by simp [h2]⟩
      clear h1 h2 e1
      go_enter Try.func64, Try.ntmps64
      go_wp2
      go_ret
      exact ⟨by rw [HV.eq]; rfl, rfl⟩
  · have d1 : ¬ 0 < i := by omega
    have d2 : decide (0 < i) = false := decide_eq_false d1
    have HV : Is (decide (1 ≤ i) && decide (i ≤ 2147483647)) false := ⟨by simp [h1]⟩
    clear h1
    go_enter Try.func64, Try.ntmps64
    go_wp2
    go_ret
    exact ⟨by rw [HV.eq]; rfl, rfl⟩
set_option maxHeartbeats 2000000 in
theorem rcell_any (c : Cel) (w : World) (hf : CelFit c) :
    Calls Try.prog 62 #[cv c] w fun e w' => e = .returned (.bool (celOk c)) ∧ Below w.heap.size w w' := by
  have hk := hf.key
  have hv := hf.val
  obtain ⟨ck, cx, co, cl⟩ := c
  simp only at hk hv
  have HK := fun W => rkey_any ck W (by omega)
  have HP := fun W => rpage_any co W
  have HV : Is (celOk ⟨ck, cx, co, cl⟩) (Sl.isKey ck && (if co = 0 then decide (cl = 0) && decide (ck.size + cx.size ≤ 157) else Sl.isPage co && (decide (0 ≤ cl) && (decide (cl ≤ 16384) && decide (cx = ByteArray.empty))))) := ⟨rfl⟩
  generalize celOk ⟨ck, cx, co, cl⟩ = V at *
  generalize Sl.isKey ck = KB at *
  generalize Sl.isPage co = PB at *
  unfold cv
  clear hf
  cases KB with
  | false =>
    rw [Bool.false_and] at HV
    go_enter Try.func62, Try.ntmps62
    go_wp2_with fail
    refine (HK (w.alloc (.cells #[.string ck, .string cx, .int .i64 co, .int .i64 cl] 28))).mono ?_
    rintro e wS ⟨rfl, hwS⟩
    rw [hwS]
    clear hwS wS
    go_wp2
    go_ret
    exact ⟨by rw [HV.eq]; rfl, below_alloc _ _⟩
  | true =>
    rw [Bool.true_and] at HV
    by_cases ho : co = 0
    · subst ho
      rw [if_pos rfl] at HV
      clear HP
      by_cases hl : cl = 0
      · subst hl
        by_cases hs : ck.size + cx.size ≤ 157
        · have d1 : decide ((ck.size : Int) + (cx.size : Int) ≤ 157) = true := decide_eq_true (by omega)
          have d2 : (ck.size : Int) + (cx.size : Int) ≤ 157 := by omega
          have d3 : ck.size + cx.size ≤ 157 := hs
          have HV2 : Is V true := ⟨by rw [HV.eq, decide_eq_true hs]; rfl⟩
          clear HV
          go_enter Try.func62, Try.ntmps62
          go_wp2_with fail
          refine (HK (w.alloc (.cells #[.string ck, .string cx, .int .i64 0, .int .i64 0] 28))).mono ?_
          rintro e wS ⟨rfl, hwS⟩
          rw [hwS]
          clear hwS wS
          go_wp2
          go_ret
          exact ⟨by rw [HV2.eq]; rfl, below_alloc _ _⟩
        · have d1 : decide ((ck.size : Int) + (cx.size : Int) ≤ 157) = false := decide_eq_false (by omega)
          have d2 : ¬ (ck.size : Int) + (cx.size : Int) ≤ 157 := by omega
          have d3 : ¬ ck.size + cx.size ≤ 157 := hs
          have HV2 : Is V false := ⟨by rw [HV.eq, decide_eq_false hs, Bool.and_false]⟩
          clear HV
          go_enter Try.func62, Try.ntmps62
          go_wp2_with fail
          refine (HK (w.alloc (.cells #[.string ck, .string cx, .int .i64 0, .int .i64 0] 28))).mono ?_
          rintro e wS ⟨rfl, hwS⟩
          rw [hwS]
          clear hwS wS
          go_wp2
          go_ret
          exact ⟨by rw [HV2.eq]; rfl, below_alloc _ _⟩
      · have d1 : (cl == 0) = false := by simpa using hl
        have HV2 : Is V false := ⟨by rw [HV.eq, decide_eq_false hl, Bool.false_and]⟩
        clear HV
        go_enter Try.func62, Try.ntmps62
        go_wp2_with fail
        refine (HK (w.alloc (.cells #[.string ck, .string cx, .int .i64 0, .int .i64 cl] 28))).mono ?_
        rintro e wS ⟨rfl, hwS⟩
        rw [hwS]
        clear hwS wS
        go_wp2
        go_ret
        exact ⟨by rw [HV2.eq]; rfl, below_alloc _ _⟩
    · have o1 : (co == 0) = false := by simpa using ho
      rw [if_neg ho] at HV
      cases PB with
      | false =>
        have HV2 : Is V false := ⟨HV.eq⟩
        clear HV
        go_enter Try.func62, Try.ntmps62
        go_wp2_with fail
        refine (HK (w.alloc (.cells #[.string ck, .string cx, .int .i64 co, .int .i64 cl] 28))).mono ?_
        rintro e wS ⟨rfl, hwS⟩
        rw [hwS]
        clear hwS wS
        go_wp2_with fail
        refine (HP (w.alloc (.cells #[.string ck, .string cx, .int .i64 co, .int .i64 cl] 28))).mono ?_
        rintro e wS ⟨rfl, hwS⟩
        rw [hwS]
        clear hwS wS
        go_wp2
        go_ret
        exact ⟨by rw [HV2.eq]; rfl, below_alloc _ _⟩
      | true =>
        rw [Bool.true_and] at HV
        by_cases h1 : 0 ≤ cl
        · have e1 : decide (0 ≤ cl) = true := decide_eq_true h1
          by_cases h2 : cl ≤ 16384
          · have e2 : decide (cl ≤ 16384) = true := decide_eq_true h2
            by_cases h3 : cx = ByteArray.empty
            · have HV2 : Is V true := ⟨by rw [HV.eq, e1, e2, decide_eq_true h3]; rfl⟩
              have h4 : cx = ⟨#[]⟩ := h3
              subst h4
              clear HV h3
              go_enter Try.func62, Try.ntmps62
              go_wp2_with fail
              refine (HK (w.alloc (.cells #[.string ck, .string ⟨#[]⟩, .int .i64 co, .int .i64 cl] 28))).mono ?_
              rintro e wS ⟨rfl, hwS⟩
              rw [hwS]
              clear hwS wS
              go_wp2_with fail
              refine (HP (w.alloc (.cells #[.string ck, .string ⟨#[]⟩, .int .i64 co, .int .i64 cl] 28))).mono ?_
              rintro e wS ⟨rfl, hwS⟩
              rw [hwS]
              clear hwS wS
              go_wp2
              go_ret
              exact ⟨by rw [HV2.eq]; rfl, below_alloc _ _⟩
            · have HV2 : Is V false := ⟨by rw [HV.eq, decide_eq_false h3, Bool.and_false, Bool.and_false]⟩
              have h4 : ¬ cx.toList = [] := fun e => h3 (Sl.ba_ext (by rw [← ByteArray.toList_eq]; exact e))
              have h5 : cx.toList.isEmpty = false := by
                cases hh : cx.toList with
                | nil => exact absurd hh h4
                | cons _ _ => rfl
              clear HV h3
              go_enter Try.func62, Try.ntmps62
              go_wp2_with fail
              refine (HK (w.alloc (.cells #[.string ck, .string cx, .int .i64 co, .int .i64 cl] 28))).mono ?_
              rintro e wS ⟨rfl, hwS⟩
              rw [hwS]
              clear hwS wS
              go_wp2_with fail
              refine (HP (w.alloc (.cells #[.string ck, .string cx, .int .i64 co, .int .i64 cl] 28))).mono ?_
              rintro e wS ⟨rfl, hwS⟩
              rw [hwS]
              clear hwS wS
              go_wp2
              go_ret
              exact ⟨by rw [HV2.eq]; rfl, below_alloc _ _⟩
          · have e2 : decide (cl ≤ 16384) = false := decide_eq_false h2
            have HV2 : Is V false := ⟨by rw [HV.eq, e2, Bool.false_and, Bool.and_false]⟩
            clear HV
            go_enter Try.func62, Try.ntmps62
            go_wp2_with fail
            refine (HK (w.alloc (.cells #[.string ck, .string cx, .int .i64 co, .int .i64 cl] 28))).mono ?_
            rintro e wS ⟨rfl, hwS⟩
            rw [hwS]
            clear hwS wS
            go_wp2_with fail
            refine (HP (w.alloc (.cells #[.string ck, .string cx, .int .i64 co, .int .i64 cl] 28))).mono ?_
            rintro e wS ⟨rfl, hwS⟩
            rw [hwS]
            clear hwS wS
            go_wp2
            go_ret
            exact ⟨by rw [HV2.eq]; rfl, below_alloc _ _⟩
        · have e1 : decide (0 ≤ cl) = false := decide_eq_false h1
          have HV2 : Is V false := ⟨by rw [HV.eq, e1, Bool.false_and]⟩
          clear HV
          go_enter Try.func62, Try.ntmps62
          go_wp2_with fail
          refine (HK (w.alloc (.cells #[.string ck, .string cx, .int .i64 co, .int .i64 cl] 28))).mono ?_
          rintro e wS ⟨rfl, hwS⟩
          rw [hwS]
          clear hwS wS
          go_wp2_with fail
          refine (HP (w.alloc (.cells #[.string ck, .string cx, .int .i64 co, .int .i64 cl] 28))).mono ?_
          rintro e wS ⟨rfl, hwS⟩
          rw [hwS]
          clear hwS wS
          go_wp2
          go_ret
          exact ⟨by rw [HV2.eq]; rfl, below_alloc _ _⟩
end Go.Proofs.Ytoinaplmgffkpaa
