/- Proved: what slot's 'all' answers, for keys, cells and kids (stage 11). -/
import Derived.Test.YtoinaplmgffkpaaLeaf
namespace Go.Proofs.Ytoinaplmgffkpaa
open Go.RowKit
open Sl (Cel Nod)
theorem Lies.r {w : World} {n : Nod} {p : Pt} (h : Lies w n p) : RowAt w p.a1 (cvals n.cells) ∧ RowAt w p.a2 (kcells n.keys) ∧ RowAt w p.a3 (icells n.kids) := ⟨h.r1, h.r2, h.r3⟩
structure IffN (r : Int) (q : Bool) : Prop where
  iff : (0 : Int) ≤ r ↔ q = false
def maySF : Value := .func (.func 38) #[] #[]
def allSF (bx : Nat) : Value := .func (.func 72) #[] #[.pointer (some ⟨bx, 0, none⟩)]
theorem allS1_any (x : ByteArray) (bx : Nat) (w : World) (hx : x.size ≤ 140737488355328) (hbx : w.cell? ⟨bx, 0, none⟩ = some maySF) :
    Calls Try.prog 72 #[.string x, .pointer (some ⟨bx, 0, none⟩)] w fun e w' => e = .returned (.bool (!Sl.isKey x)) ∧ Below w.heap.size w w' := by
  unfold maySF at hbx
  have HC := isKey_any x w (by omega)
  go_enter Try.func72, Try.ntmps72
  go_wp2_with fail
  refine HC.mono ?_
  rintro e w' ⟨rfl, rfl⟩
  go_wp2
  go_ret
  exact ⟨rfl, Below.refl _ _⟩
set_option maxHeartbeats 1000000 in
theorem ifS_any (ad : Option Addr) (c : Nat) (l : List ByteArray) (bx : Nat) (w : World) (hA : RowAt w ad (kcells l)) (hbl : bx < w.heap.size) (hbx : w.cell? ⟨bx, 0, none⟩ = some maySF) (hl : l.length ≤ 1000) (hf : ∀ x ∈ l, x.size ≤ 140737488355328) :
    Calls Try.prog 80 #[.slice ad l.length c, allSF bx] w fun e w' => ∃ r : Int, e = .returned (.int .i64 r) ∧ IffN r (l.all Sl.isKey) ∧ Below w.heap.size w w' := by
  have HA : Hid (RowAt w ad (kcells l)) := hA
  clear hA
  unfold allSF
  go_enter Try.func80, Try.ntmps80
  go_wp2_with fail
  go_loopw [8] (fun s8 wr => ∃ k : Nat, k ≤ l.length ∧ s8 = .int .i64 k ∧ (l.take k).all Sl.isKey = true ∧ Below w.heap.size w wr) (fun s8 _ => l.length - (intOf s8).toNat)
  case atStart => exact ⟨0, by omega, rfl, by simp, Below.refl _ _⟩
  case round =>
    obtain ⟨k, hk, rfl, hall, hB⟩ := hrel
    have HB : Hid (Below w.heap.size w wr) := hB
    have HALL : Hid ((l.take k).all Sl.isKey = true) := hall
    have hbx' : wr.cell? ⟨bx, 0, none⟩ = some maySF := (hB.cell (p := ⟨bx, 0, none⟩) hbl).trans hbx
    clear hall hB hbx
    by_cases hlt : k < l.length
    · obtain ⟨b, off, rfl, hb, hc⟩ := HA.out.keyAt (by omega)
      have hc0 := (HB.out.cell (p := ⟨b, off + k, none⟩) hb).trans (hc k hlt)
      clear hc
      have i0 : decide ((k : Int) < (l.length : Int)) = true := by simp; omega
      have hmem := hf (l.getD k ByteArray.empty) (Sl.getD_mem l k ByteArray.empty hlt)
      have HTK : Is ((l.take (k + 1)).all Sl.isKey) ((l.take k).all Sl.isKey && Sl.isKey (l.getD k ByteArray.empty)) := ⟨Sl.take_all _ l k _ hlt⟩
      have HNO : Hid (Sl.isKey (l.getD k ByteArray.empty) = false → l.all Sl.isKey = false) := fun h => Sl.all_no _ l k _ hlt h
      clear hf HA
      generalize l.getD k ByteArray.empty = x at *
      have HC := allS1_any x bx wr hmem hbx'
      unfold maySF at *
      go_wp2_with fail
      refine HC.mono ?_
      rintro e w' ⟨rfl, hB2⟩
      have HB2 : Hid (Below w.heap.size w w') := HB.out.trans (hB2.mono HB.out.size)
      clear hB2 HC hbx'
      generalize hp : Sl.isKey x = q at *
      cases q with
      | true =>
        go_wp2_with fail
        go_roundw
        case rel => exact ⟨k + 1, by omega, by go_num, by rw [HTK.eq, HALL.out]; rfl, HB2.out⟩
        case measure => (simp [intOf]) <;> omega
      | false =>
        have HFN := (show Hid _ from HNO.out rfl)
        go_wp2
        go_ret
        exact ⟨_, rfl, ⟨⟨fun _ => HFN.out, fun _ => Int.natCast_nonneg _⟩⟩, HB2.out⟩
    · have hkl : ¬ (k : Int) < (l.length : Int) := by omega
      have HFN : Hid (l.all Sl.isKey = true) := by
        have h1 := HALL.out
        rwa [List.take_of_length_le (by omega)] at h1
      go_wp2
      go_ret
      exact ⟨_, rfl, ⟨⟨fun h => absurd h (by decide), fun h => absurd (HFN.out.symm.trans h) (by simp)⟩⟩, HB.out⟩
theorem cfS_any (ad : Option Addr) (c : Nat) (l : List ByteArray) (bx : Nat) (w : World) (hA : RowAt w ad (kcells l)) (hbl : bx < w.heap.size) (hbx : w.cell? ⟨bx, 0, none⟩ = some maySF) (hl : l.length ≤ 1000) (hf : ∀ x ∈ l, x.size ≤ 140737488355328) :
    Calls Try.prog 71 #[.slice ad l.length c, allSF bx] w fun e w' => e = .returned (.bool (!l.all Sl.isKey)) ∧ Below w.heap.size w w' := by
  have HC := ifS_any ad c l bx w hA hbl hbx hl hf
  clear hA hbx hf
  unfold allSF at *
  generalize l.all Sl.isKey = q at *
  go_enter Try.func71, Try.ntmps71
  go_wp2_with fail
  refine HC.mono ?_
  rintro e w' ⟨r, rfl, hr, hB⟩
  have HB := (show Hid (Below w.heap.size w w') from hB)
  clear hB HC
  cases q with
  | true =>
    have h0 : decide ((0 : Int) ≤ r) = false := decide_eq_false_iff_not.2 (fun h => absurd (hr.iff.1 h) (by simp))
    clear hr
    go_wp2
    go_ret
    exact ⟨rfl, HB.out⟩
  | false =>
    have h0 : decide ((0 : Int) ≤ r) = true := decide_eq_true (hr.iff.2 rfl)
    clear hr
    go_wp2
    go_ret
    exact ⟨rfl, HB.out⟩
theorem allS_any (ad : Option Addr) (c : Nat) (l : List ByteArray) (w : World) (hA : RowAt w ad (kcells l)) (hl : l.length ≤ 1000) (hf : ∀ x ∈ l, x.size ≤ 140737488355328) :
    Calls Try.prog 47 #[.slice ad l.length c, maySF] w fun e w' => e = .returned (.bool (l.all Sl.isKey)) ∧ Below w.heap.size w w' := by
  have HB0 : Hid (Below w.heap.size w (w.alloc (.cells #[maySF] 64))) := below_alloc _ _
  have HC := cfS_any ad c l w.heap.size _ (hA.below HB0.out) (by rw [size_alloc1]; omega) (cell_of_row _ _ 0 _ 64 (0, 0) (heap_alloc_new w (.cells #[maySF] 64))) hl hf
  clear hA hf
  unfold allSF maySF at *
  generalize l.all Sl.isKey = q at *
  go_enter Try.func47, Try.ntmps47
  go_wp2_with fail
  refine HC.mono ?_
  rintro e w' ⟨rfl, hB⟩
  have HB := (show Hid (Below w.heap.size w w') from HB0.out.trans (hB.mono (by rw [size_alloc1]; omega)))
  clear hB HC
  cases q <;> (go_wp2; go_ret; exact ⟨rfl, HB.out⟩)
def mayCF : Value := .func (.func 74) #[] #[]
def allCF (bx : Nat) : Value := .func (.func 82) #[] #[.pointer (some ⟨bx, 0, none⟩)]
theorem allC1_any (x : Cel) (bx : Nat) (w : World) (hx : CelFit x) (hbl : bx < w.heap.size) (hbx : w.cell? ⟨bx, 0, none⟩ = some mayCF) :
    Calls Try.prog 82 #[cv x, .pointer (some ⟨bx, 0, none⟩)] w fun e w' => e = .returned (.bool (!Sl.valOk x)) ∧ Below w.heap.size w w' := by
  unfold mayCF at hbx
  have HC := fun W => value_any x W hx
  have HB0 : Hid (Below w.heap.size w (boxC w x)) := below_alloc _ _
  have hbx' : (boxC w x).cell? ⟨bx, 0, none⟩ = some (.func (.func 74) #[] #[]) := (HB0.out.cell (p := ⟨bx, 0, none⟩) hbl).trans hbx
  clear hbx hx
  obtain ⟨ck, cx, co, cl⟩ := x
  unfold boxC at hbx'
  unfold cv at *
  simp only at hbx' ⊢
  go_enter Try.func82, Try.ntmps82
  go_wp2_with fail
  refine (HC _).mono ?_
  rintro e w' ⟨rfl, hB⟩
  go_wp2
  go_ret
  exact ⟨rfl, HB0.out.trans (hB.mono (by rw [size_alloc1]; omega))⟩
set_option maxHeartbeats 1000000 in
theorem ifC_any (ad : Option Addr) (c : Nat) (l : List Cel) (bx : Nat) (w : World) (hA : RowAt w ad (cvals l)) (hbl : bx < w.heap.size) (hbx : w.cell? ⟨bx, 0, none⟩ = some mayCF) (hl : l.length ≤ 1000) (hf : ∀ x ∈ l, CelFit x) :
    Calls Try.prog 88 #[.slice ad l.length c, allCF bx] w fun e w' => ∃ r : Int, e = .returned (.int .i64 r) ∧ IffN r (l.all Sl.valOk) ∧ Below w.heap.size w w' := by
  have HA : Hid (RowAt w ad (cvals l)) := hA
  clear hA
  unfold allCF
  go_enter Try.func88, Try.ntmps88
  go_wp2_with fail
  go_loopw [8] (fun s8 wr => ∃ k : Nat, k ≤ l.length ∧ s8 = .int .i64 k ∧ (l.take k).all Sl.valOk = true ∧ Below w.heap.size w wr) (fun s8 _ => l.length - (intOf s8).toNat)
  case atStart => exact ⟨0, by omega, rfl, by simp, Below.refl _ _⟩
  case round =>
    obtain ⟨k, hk, rfl, hall, hB⟩ := hrel
    have HB : Hid (Below w.heap.size w wr) := hB
    have HALL : Hid ((l.take k).all Sl.valOk = true) := hall
    have hbx' : wr.cell? ⟨bx, 0, none⟩ = some mayCF := (hB.cell (p := ⟨bx, 0, none⟩) hbl).trans hbx
    clear hall hB hbx
    by_cases hlt : k < l.length
    · obtain ⟨b, off, rfl, hb, hc⟩ := HA.out.cell (by omega)
      obtain ⟨q0, q1, q2, q3⟩ := (hc k hlt).below HB.out hb
      clear hc
      have i0 : decide ((k : Int) < (l.length : Int)) = true := by simp; omega
      have hmem := hf (l.getD k Sl.cel0) (Sl.getD_mem l k Sl.cel0 hlt)
      have HTK : Is ((l.take (k + 1)).all Sl.valOk) ((l.take k).all Sl.valOk && Sl.valOk (l.getD k Sl.cel0)) := ⟨Sl.take_all _ l k _ hlt⟩
      have HNO : Hid (Sl.valOk (l.getD k Sl.cel0) = false → l.all Sl.valOk = false) := fun h => Sl.all_no _ l k _ hlt h
      clear hf HA
      generalize l.getD k Sl.cel0 = x at *
      have HC := allC1_any x bx wr hmem (Nat.lt_of_lt_of_le hbl HB.out.size) hbx'
      obtain ⟨xk, xx, xo, xl⟩ := x
      unfold cv mayCF at *
      simp only at q0 q1 q2 q3
      go_wp2_with fail
      refine HC.mono ?_
      rintro e w' ⟨rfl, hB2⟩
      have HB2 : Hid (Below w.heap.size w w') := HB.out.trans (hB2.mono HB.out.size)
      clear hB2 HC hbx'
      generalize hp : Sl.valOk ⟨xk, xx, xo, xl⟩ = q at *
      cases q with
      | true =>
        go_wp2_with fail
        go_roundw
        case rel => exact ⟨k + 1, by omega, by go_num, by rw [HTK.eq, HALL.out]; rfl, HB2.out⟩
        case measure => (simp [intOf]) <;> omega
      | false =>
        have HFN := (show Hid _ from HNO.out rfl)
        go_wp2
        go_ret
        exact ⟨_, rfl, ⟨⟨fun _ => HFN.out, fun _ => Int.natCast_nonneg _⟩⟩, HB2.out⟩
    · have hkl : ¬ (k : Int) < (l.length : Int) := by omega
      have HFN : Hid (l.all Sl.valOk = true) := by
        have h1 := HALL.out
        rwa [List.take_of_length_le (by omega)] at h1
      go_wp2
      go_ret
      exact ⟨_, rfl, ⟨⟨fun h => absurd h (by decide), fun h => absurd (HFN.out.symm.trans h) (by simp)⟩⟩, HB.out⟩
theorem cfC_any (ad : Option Addr) (c : Nat) (l : List Cel) (bx : Nat) (w : World) (hA : RowAt w ad (cvals l)) (hbl : bx < w.heap.size) (hbx : w.cell? ⟨bx, 0, none⟩ = some mayCF) (hl : l.length ≤ 1000) (hf : ∀ x ∈ l, CelFit x) :
    Calls Try.prog 81 #[.slice ad l.length c, allCF bx] w fun e w' => e = .returned (.bool (!l.all Sl.valOk)) ∧ Below w.heap.size w w' := by
  have HC := ifC_any ad c l bx w hA hbl hbx hl hf
  clear hA hbx hf
  unfold allCF at *
  generalize l.all Sl.valOk = q at *
  go_enter Try.func81, Try.ntmps81
  go_wp2_with fail
  refine HC.mono ?_
  rintro e w' ⟨r, rfl, hr, hB⟩
  have HB := (show Hid (Below w.heap.size w w') from hB)
  clear hB HC
  cases q with
  | true =>
    have h0 : decide ((0 : Int) ≤ r) = false := decide_eq_false_iff_not.2 (fun h => absurd (hr.iff.1 h) (by simp))
    clear hr
    go_wp2
    go_ret
    exact ⟨rfl, HB.out⟩
  | false =>
    have h0 : decide ((0 : Int) ≤ r) = true := decide_eq_true (hr.iff.2 rfl)
    clear hr
    go_wp2
    go_ret
    exact ⟨rfl, HB.out⟩
theorem allC_any (ad : Option Addr) (c : Nat) (l : List Cel) (w : World) (hA : RowAt w ad (cvals l)) (hl : l.length ≤ 1000) (hf : ∀ x ∈ l, CelFit x) :
    Calls Try.prog 73 #[.slice ad l.length c, mayCF] w fun e w' => e = .returned (.bool (l.all Sl.valOk)) ∧ Below w.heap.size w w' := by
  have HB0 : Hid (Below w.heap.size w (w.alloc (.cells #[mayCF] 87))) := below_alloc _ _
  have HC := cfC_any ad c l w.heap.size _ (hA.below HB0.out) (by rw [size_alloc1]; omega) (cell_of_row _ _ 0 _ 87 (0, 0) (heap_alloc_new w (.cells #[mayCF] 87))) hl hf
  clear hA hf
  unfold allCF mayCF at *
  generalize l.all Sl.valOk = q at *
  go_enter Try.func73, Try.ntmps73
  go_wp2_with fail
  refine HC.mono ?_
  rintro e w' ⟨rfl, hB⟩
  have HB := (show Hid (Below w.heap.size w w') from HB0.out.trans (hB.mono (by rw [size_alloc1]; omega)))
  clear hB HC
  cases q <;> (go_wp2; go_ret; exact ⟨rfl, HB.out⟩)
def mayIF : Value := .func (.func 76) #[] #[]
def allIF (bx : Nat) : Value := .func (.func 84) #[] #[.pointer (some ⟨bx, 0, none⟩)]
theorem allI1_any (x : Int) (bx : Nat) (w : World) (hbx : w.cell? ⟨bx, 0, none⟩ = some mayIF) :
    Calls Try.prog 84 #[.int .i64 x, .pointer (some ⟨bx, 0, none⟩)] w fun e w' => e = .returned (.bool (!Sl.isPage x)) ∧ Below w.heap.size w w' := by
  unfold mayIF at hbx
  have HC := isPage_any x w
  go_enter Try.func84, Try.ntmps84
  go_wp2_with fail
  refine HC.mono ?_
  rintro e w' ⟨rfl, rfl⟩
  go_wp2
  go_ret
  exact ⟨rfl, Below.refl _ _⟩
set_option maxHeartbeats 1000000 in
theorem ifI_any (ad : Option Addr) (c : Nat) (l : List Int) (bx : Nat) (w : World) (hA : RowAt w ad (icells l)) (hbl : bx < w.heap.size) (hbx : w.cell? ⟨bx, 0, none⟩ = some mayIF) (hl : l.length ≤ 1000) :
    Calls Try.prog 89 #[.slice ad l.length c, allIF bx] w fun e w' => ∃ r : Int, e = .returned (.int .i64 r) ∧ IffN r (l.all Sl.isPage) ∧ Below w.heap.size w w' := by
  have HA : Hid (RowAt w ad (icells l)) := hA
  clear hA
  unfold allIF
  go_enter Try.func89, Try.ntmps89
  go_wp2_with fail
  go_loopw [8] (fun s8 wr => ∃ k : Nat, k ≤ l.length ∧ s8 = .int .i64 k ∧ (l.take k).all Sl.isPage = true ∧ Below w.heap.size w wr) (fun s8 _ => l.length - (intOf s8).toNat)
  case atStart => exact ⟨0, by omega, rfl, by simp, Below.refl _ _⟩
  case round =>
    obtain ⟨k, hk, rfl, hall, hB⟩ := hrel
    have HB : Hid (Below w.heap.size w wr) := hB
    have HALL : Hid ((l.take k).all Sl.isPage = true) := hall
    have hbx' : wr.cell? ⟨bx, 0, none⟩ = some mayIF := (hB.cell (p := ⟨bx, 0, none⟩) hbl).trans hbx
    clear hall hB hbx
    by_cases hlt : k < l.length
    · obtain ⟨b, off, rfl, hb, hc⟩ := HA.out.intAt (by omega)
      have hc0 := (HB.out.cell (p := ⟨b, off + k, none⟩) hb).trans (hc k hlt)
      clear hc
      have i0 : decide ((k : Int) < (l.length : Int)) = true := by simp; omega
      have HTK : Is ((l.take (k + 1)).all Sl.isPage) ((l.take k).all Sl.isPage && Sl.isPage (l.getD k 0)) := ⟨Sl.take_all _ l k _ hlt⟩
      have HNO : Hid (Sl.isPage (l.getD k 0) = false → l.all Sl.isPage = false) := fun h => Sl.all_no _ l k _ hlt h
      clear HA
      generalize l.getD k 0 = x at *
      have HC := allI1_any x bx wr hbx'
      unfold mayIF at *
      go_wp2_with fail
      refine HC.mono ?_
      rintro e w' ⟨rfl, hB2⟩
      have HB2 : Hid (Below w.heap.size w w') := HB.out.trans (hB2.mono HB.out.size)
      clear hB2 HC hbx'
      generalize hp : Sl.isPage x = q at *
      cases q with
      | true =>
        go_wp2_with fail
        go_roundw
        case rel => exact ⟨k + 1, by omega, by go_num, by rw [HTK.eq, HALL.out]; rfl, HB2.out⟩
        case measure => (simp [intOf]) <;> omega
      | false =>
        have HFN := (show Hid _ from HNO.out rfl)
        go_wp2
        go_ret
        exact ⟨_, rfl, ⟨⟨fun _ => HFN.out, fun _ => Int.natCast_nonneg _⟩⟩, HB2.out⟩
    · have hkl : ¬ (k : Int) < (l.length : Int) := by omega
      have HFN : Hid (l.all Sl.isPage = true) := by
        have h1 := HALL.out
        rwa [List.take_of_length_le (by omega)] at h1
      go_wp2
      go_ret
      exact ⟨_, rfl, ⟨⟨fun h => absurd h (by decide), fun h => absurd (HFN.out.symm.trans h) (by simp)⟩⟩, HB.out⟩
theorem cfI_any (ad : Option Addr) (c : Nat) (l : List Int) (bx : Nat) (w : World) (hA : RowAt w ad (icells l)) (hbl : bx < w.heap.size) (hbx : w.cell? ⟨bx, 0, none⟩ = some mayIF) (hl : l.length ≤ 1000) :
    Calls Try.prog 83 #[.slice ad l.length c, allIF bx] w fun e w' => e = .returned (.bool (!l.all Sl.isPage)) ∧ Below w.heap.size w w' := by
  have HC := ifI_any ad c l bx w hA hbl hbx hl
  clear hA hbx
  unfold allIF at *
  generalize l.all Sl.isPage = q at *
  go_enter Try.func83, Try.ntmps83
  go_wp2_with fail
  refine HC.mono ?_
  rintro e w' ⟨r, rfl, hr, hB⟩
  have HB := (show Hid (Below w.heap.size w w') from hB)
  clear hB HC
  cases q with
  | true =>
    have h0 : decide ((0 : Int) ≤ r) = false := decide_eq_false_iff_not.2 (fun h => absurd (hr.iff.1 h) (by simp))
    clear hr
    go_wp2
    go_ret
    exact ⟨rfl, HB.out⟩
  | false =>
    have h0 : decide ((0 : Int) ≤ r) = true := decide_eq_true (hr.iff.2 rfl)
    clear hr
    go_wp2
    go_ret
    exact ⟨rfl, HB.out⟩
theorem allI_any (ad : Option Addr) (c : Nat) (l : List Int) (w : World) (hA : RowAt w ad (icells l)) (hl : l.length ≤ 1000) :
    Calls Try.prog 75 #[.slice ad l.length c, mayIF] w fun e w' => e = .returned (.bool (l.all Sl.isPage)) ∧ Below w.heap.size w w' := by
  have HB0 : Hid (Below w.heap.size w (w.alloc (.cells #[mayIF] 88))) := below_alloc _ _
  have HC := cfI_any ad c l w.heap.size _ (hA.below HB0.out) (by rw [size_alloc1]; omega) (cell_of_row _ _ 0 _ 88 (0, 0) (heap_alloc_new w (.cells #[mayIF] 88))) hl
  clear hA
  unfold allIF mayIF at *
  generalize l.all Sl.isPage = q at *
  go_enter Try.func75, Try.ntmps75
  go_wp2_with fail
  refine HC.mono ?_
  rintro e w' ⟨rfl, hB⟩
  have HB := (show Hid (Below w.heap.size w w') from HB0.out.trans (hB.mono (by rw [size_alloc1]; omega)))
  clear hB HC
  cases q <;> (go_wp2; go_ret; exact ⟨rfl, HB.out⟩)
end Go.Proofs.Ytoinaplmgffkpaa
