/- Proved: the chapter's example comes out as it should; what page's Blank answers. -/
import Derived.Test.YtlcbkockmhfllaaDoorOpen
namespace Go.Proofs.YtlcbkockmhfllaaDoor
open Go.RowKit
def ab : ByteArray := ⟨#[97, 98]⟩
theorem ab_bad : Pg.bad 7 1 = false := by decide
theorem ab_page : Pg.sealS 7 1 ab = Pg.page 7 1 ab := by
  unfold Pg.sealS
  rw [ab_bad]
  simp only [Bool.false_eq_true, if_false]
  rw [if_neg (by decide), show (7 : Int).toNat = 7 from rfl, show (1 : Int).toNat = 1 from rfl]
theorem ab_err : Pg.sealE 7 1 ab = 0 := by decide
theorem ab_open : Pg.openE 7 (Pg.page 7 1 ab) = 0 ∧ Pg.openK 7 (Pg.page 7 1 ab) = 1 ∧ Pg.openB 7 (Pg.page 7 1 ab) = ab := by
  have h := Pg.open_same (id := 7) (kind := 1) (b := ab) ab_bad (by decide)
  rw [show (7 : Int).toNat = 7 from rfl, show (1 : Int).toNat = 1 from rfl] at h
  exact h
theorem ab_other : Pg.openE 8 (Pg.page 7 1 ab) = 5 := by
  have := Pg.open_page (id := 7) (kind := 1) (b := ab) ab_bad (by decide) 8 ⟨by decide, by decide⟩
  rw [show (7 : Int).toNat = 7 from rfl, show (1 : Int).toNat = 1 from rfl] at this
  rwa [if_neg (by decide)] at this
theorem ab_head : (Pg.page 7 1 ab).extract 0 11 = ⟨#[7, 0, 0, 0, 1, 0, 2, 0, 97, 98, 0]⟩ := by
  apply Wl.ext_list
  rw [Wl.ext_ext, List.drop_zero, Pg.page_list, List.take_append_of_le_length (by rw [Pg.frontL_length (by decide)]; decide)]
  decide
set_option maxHeartbeats 1000000 in
theorem works_any (w : World) (hT : Tab w) : Calls Tryd.prog 11 #[] w fun e w' => e = .returned (.bool true) ∧ Below w.heap.size w w' := by
  have hpos := hT.pos
  have HT : Hid (Tab w) := hT
  have H1 := seal_any 7 1 ab w hT
  rw [ab_page, ab_err] at H1
  have hsz := Pg.page_size (id := 7) (kind := 1) (b := ab) (by decide)
  have H2 : Hid (∀ W, Tab W → Calls Tryd.prog 12 #[.int .i64 7, .string (Pg.page 7 1 ab)] W fun e w' => e = .returned (.tuple #[.int .i64 1, .string ab, .int .i64 0]) ∧ Below W.heap.size W w') := fun W hW => by
    have := open_any 7 (Pg.page 7 1 ab) W hW
    rw [ab_open.1, ab_open.2.1, ab_open.2.2] at this
    exact this
  have H3 : Hid (∀ W, Tab W → Calls Tryd.prog 12 #[.int .i64 8, .string (Pg.page 7 1 ab)] W fun e w' => e = .returned (.tuple #[.int .i64 (Pg.openK 8 (Pg.page 7 1 ab)), .string (Pg.openB 8 (Pg.page 7 1 ab)), .int .i64 5]) ∧ Below W.heap.size W w') := fun W hW => by
    have := open_any 8 (Pg.page 7 1 ab) W hW
    rw [ab_other] at this
    exact this
  have hh := ab_head
  generalize Pg.openK 8 (Pg.page 7 1 ab) = ko at *
  generalize Pg.openB 8 (Pg.page 7 1 ab) = bo at *
  generalize Pg.page 7 1 ab = pg at *
  unfold ab at H1 H2
  clear hT
  go_enter Tryd.func11, Tryd.ntmps11
  go_wp2_with fail
  refine H1.mono ?_
  rintro e w1 ⟨rfl, hB1⟩
  have HB1 : Hid (Below w.heap.size w w1) := hB1
  clear hB1 H1
  go_wp2_with fail
  refine (H2.out w1 (HT.out.below HB1.out hpos)).mono ?_
  rintro e w2 ⟨rfl, hB2⟩
  have HB2 : Hid (Below w.heap.size w w2) := below_next HB1.out hB2 HB1.out.size
  clear hB2 HB1 H2
  go_wp2_with fail
  refine (H3.out w2 (HT.out.below HB2.out hpos)).mono ?_
  rintro e w3 ⟨rfl, hB3⟩
  have HB3 : Hid (Below w.heap.size w w3) := below_next HB2.out hB3 HB2.out.size
  clear hB3 HB2 H3
  have e5 : ((pg.size : Int) == 512) = true := by rw [hsz]; rfl
  have e6 : (11 : Int) ≤ (pg.size : Int) := by rw [hsz]; decide
  clear hsz
  go_wp2
  go_ret
  exact ⟨rfl, HB3.out⟩
set_option maxHeartbeats 1000000 in
theorem blank_any (s : ByteArray) (w : World) : Calls Tryd.prog 17 #[.string s] w fun e w' => e = .returned (.bool (decide (s = Pg.blank))) ∧ Below w.heap.size w w' := by
  have hz := zeroPg
  have HR0 : Hid ((w.alloc (.cells zpg 43)).heap[w.heap.size]? = some (.cells (bc Pg.blank).toArray 43 (0, 0))) := heap_alloc_new w _
  have HB0 : Hid (Below w.heap.size w (w.alloc (.cells zpg 43))) := (Below.refl _ _).alloc (Nat.le_refl _) _
  have hcv := str_of (x := Pg.blank) (range_all HR0.out) 512
  rw [Pg.blank_size] at hcv
  have he : (s.toList == Pg.blank.toList) = decide (s = Pg.blank) := by
    by_cases h : s = Pg.blank
    · rw [toList_beq h, decide_eq_true h]
    · rw [toList_ne h, decide_eq_false h]
  generalize decide (s = Pg.blank) = r at *
  generalize Pg.blank = bl at *
  go_enter Tryd.func17, Tryd.ntmps17
  go_wp2
  go_ret
  exact ⟨rfl, HB0.out⟩
end Go.Proofs.YtlcbkockmhfllaaDoor
