/- Proved: what slot's Split answers (stage 11). -/
import Derived.Test.YtoinaplmgffkpaaEven
import Derived.Test.YtoinaplmgffkpaaPut
import Derived.Test.YtoinaplmgffkpaaSize
import Derived.Test.YtoinaplmgffkpaaLate
namespace Go.Proofs.Ytoinaplmgffkpaa
open Go.RowKit
open Sl (Cel Nod)
def spB (n : Nod) : Nat := if n.leaf then 0 else 1
def spP (n : Nod) : Nat := best (gr (sizes n) (spB n)) ((sizes n).length - 1 - spB n)
def spOk (n : Nod) : Bool := Sl.may n && decide (0 < spP n)
def spL (n : Nod) : Nod := if spOk n then (if n.leaf then ⟨true, n.cells.take (spP n), [], []⟩ else ⟨false, [], n.keys.take (spP n), n.kids.take (spP n + 1)⟩) else Sl.nod0
def spR (n : Nod) : Nod := if spOk n then (if n.leaf then ⟨true, n.cells.drop (spP n), [], []⟩ else ⟨false, [], n.keys.drop (spP n + 1), n.kids.drop (spP n + 1)⟩) else Sl.nod0
def spK (n : Nod) : ByteArray := if spOk n then (if n.leaf then (n.cells.getD (spP n) Sl.cel0).key else n.keys.getD (spP n) ByteArray.empty) else ⟨#[]⟩
def spE (n : Nod) : Int := if spOk n then 0 else 2
structure SpPost (w : World) (n : Nod) (e : Ending) (w' : World) : Prop where
  ex : ∃ p1 p2, e = .returned (.tuple #[nv (spL n) p1, nv (spR n) p2, .string (spK n), .int .i64 (spE n)]) ∧ LiesF w' w.heap.size (spL n) p1 ∧ LiesF w' w.heap.size (spR n) p2 ∧ Below w.heap.size w w'
theorem sp_lt (n : Nod) (h : 0 < spP n) : spP n + spB n < (sizes n).length := by
  have h1 : 0 < (sizes n).length - 1 - spB n := by
    rcases Nat.eq_zero_or_pos ((sizes n).length - 1 - spB n) with e | e
    · unfold spP at h; rw [e] at h; exact absurd h (by unfold best; omega)
    · exact e
  have := (best_pos (gr (sizes n) (spB n)) _ h1).2
  unfold spP
  omega
theorem lies0 (w : World) (N : Nat) : LiesF w N Sl.nod0 ⟨none, 0, none, 0, none, 0⟩ := ⟨.inl rfl, .inl rfl, .inl rfl, Nat.le_refl _, Nat.le_refl _, Nat.le_refl _, by show 0 ≤ 9223372036854775807; omega, by show 0 ≤ 9223372036854775807; omega, by show 0 ≤ 9223372036854775807; omega⟩
theorem setN_liesF {w : World} {N b : Nat} {n : Nod} {p : Pt} (h : LiesF w N n p) (hb : b < N) (v0 v1 v2 v3 : Value) : LiesF (setN w b v0 v1 v2 v3) N n p := setN_lies h hb v0 v1 v2 v3
theorem size_setN (w : World) (b : Nat) (v0 v1 v2 v3 : Value) : (setN w b v0 v1 v2 v3).heap.size = w.heap.size := by
  unfold setN; rw [size_setCell, size_setCell, size_setCell, size_setCell]
theorem fit_sub {n : Nod} (hF : Fit n) {lf : Bool} {cs : List Cel} {ks : List ByteArray} {ds : List Int} (h1 : ∀ c ∈ cs, c ∈ n.cells) (h2 : ∀ k ∈ ks, k ∈ n.keys) (h3 : ∀ i ∈ ds, i ∈ n.kids) (l1 : cs.length ≤ 1000) (l2 : ks.length ≤ 1000) (l3 : ds.length ≤ 1000) : Fit ⟨lf, cs, ks, ds⟩ :=
  ⟨fun c hc => hF.cells c (h1 c hc), fun k hk => hF.keys k (h2 k hk), fun i hi => hF.kids i (h3 i hi), l1, l2, l3⟩
set_option maxHeartbeats 4000000 in
theorem split_any (n : Nod) (p : Pt) (w : World) (hN : Lies w n p) (hF : Fit n) :
    Calls Try.prog 19 #[nv n p] w (SpPost w n) := by
  obtain ⟨hzl, hzs⟩ := sizes_fit hF
  have HF : Hid (Fit n) := hF
  have HL : Hid (Lies w n p) := hN
  have HCH := fun (W : World) (h : Below w.heap.size w W) => check_any n p W (hN.below h) hF
  have HSZ := fun (W : World) (h : Below w.heap.size w W) => sizesOf_any n p W (hN.below h) hF
  have HBT := fun (W : World) => between_any n p W
  have HEV := fun (W : World) (ad : Option Addr) (cap : Nat) (h : RowAt W ad (icells (ints (sizes n)))) (h1 : (sizes n).length ≤ cap) (h2 : cap ≤ 9223372036854775807) => even_any ad cap (sizes n) (spB n) (sizes n).length W h rfl (by unfold spB; split <;> omega) hzl h1 h2 hzs
  have HB_ : Is ((if n.leaf then 0 else 1 : Int)) (spB n : Int) := ⟨by unfold spB; split <;> rfl⟩
  rw [HB_.eq] at HBT
  have HLT := (show Hid (0 < spP n → spP n + spB n < (sizes n).length) from sp_lt n)
  have HZL := (show Hid ((n.leaf = true → (sizes n).length = n.cells.length ∧ spB n = 0) ∧ (n.leaf = false → (sizes n).length = n.keys.length ∧ spB n = 1)) from ⟨fun h => by unfold sizes spB; rw [if_pos h, if_pos h, List.length_map]; exact ⟨rfl, rfl⟩, fun h => by unfold sizes spB; rw [h, if_neg (by simp), if_neg (by simp), List.length_map]; exact ⟨rfl, rfl⟩⟩)
  have HNO := (show Hid (∀ (e : Ending) (w' : World), spOk n = false → e = .returned (.tuple #[nv Sl.nod0 ⟨none, 0, none, 0, none, 0⟩, nv Sl.nod0 ⟨none, 0, none, 0, none, 0⟩, .string ⟨#[]⟩, .int .i64 2]) → Below w.heap.size w w' → SpPost w n e w') from fun e w' h he hB => ⟨⟨⟨none, 0, none, 0, none, 0⟩, ⟨none, 0, none, 0, none, 0⟩, by unfold spL spR spK spE; rw [h]; exact he, by unfold spL; rw [h]; exact lies0 _ _, by unfold spR; rw [h]; exact lies0 _ _, hB⟩⟩)
  have HYL := (show Hid (∀ (e : Ending) (w' : World) (p1 p2 : Pt) (k : ByteArray), spOk n = true → n.leaf = true → k = (n.cells.getD (spP n) Sl.cel0).key → e = .returned (.tuple #[nv ⟨true, n.cells.take (spP n), [], []⟩ p1, nv ⟨true, n.cells.drop (spP n), [], []⟩ p2, .string k, .int .i64 0]) → LiesF w' w.heap.size ⟨true, n.cells.take (spP n), [], []⟩ p1 → LiesF w' w.heap.size ⟨true, n.cells.drop (spP n), [], []⟩ p2 → Below w.heap.size w w' → SpPost w n e w') from fun e w' p1 p2 k h hl hk he h1 h2 hB => ⟨⟨p1, p2, by unfold spL spR spK spE; rw [h, hl]; subst hk; exact he, by unfold spL; rw [h, hl]; exact h1, by unfold spR; rw [h, hl]; exact h2, hB⟩⟩)
  have HYB := (show Hid (∀ (e : Ending) (w' : World) (p1 p2 : Pt) (k : ByteArray), spOk n = true → n.leaf = false → k = n.keys.getD (spP n) ByteArray.empty → e = .returned (.tuple #[nv ⟨false, [], n.keys.take (spP n), n.kids.take (spP n + 1)⟩ p1, nv ⟨false, [], n.keys.drop (spP n + 1), n.kids.drop (spP n + 1)⟩ p2, .string k, .int .i64 0]) → LiesF w' w.heap.size ⟨false, [], n.keys.take (spP n), n.kids.take (spP n + 1)⟩ p1 → LiesF w' w.heap.size ⟨false, [], n.keys.drop (spP n + 1), n.kids.drop (spP n + 1)⟩ p2 → Below w.heap.size w w' → SpPost w n e w') from fun e w' p1 p2 k h hl hk he h1 h2 hB => ⟨⟨p1, p2, by unfold spL spR spK spE; rw [h, hl]; subst hk; exact he, by unfold spL; rw [h, hl]; exact h1, by unfold spR; rw [h, hl]; exact h2, hB⟩⟩)
  have HOK : Is (spOk n) (Sl.may n && decide (0 < spP n)) := ⟨rfl⟩
  have HKD := (show Hid (Sl.may n = true → n.leaf = false → n.kids.length = n.keys.length + 1) from fun h hl => by
    unfold Sl.may at h
    rw [hl] at h
    simp only [Bool.and_eq_true] at h
    have h2 := h.2.2.2
    unfold Sl.branchOk at h2
    simp at h2
    exact h2.2.1)
  have HSP : Is (spP n) (best (gr (sizes n) (spB n)) ((sizes n).length - 1 - spB n)) := ⟨rfl⟩
  rw [← HSP.eq] at HEV
  unfold checkE at HCH
  clear hN hF HSP
  generalize spP n = P at *
  generalize sizes n = l at *
  generalize spB n = bt at *
  generalize spOk n = ok at *
  generalize Sl.may n = q at *
  generalize SpPost w n = QQ at *
  clear HB_
  obtain ⟨lf, cs, ks, ds⟩ := n
  obtain ⟨a1, c1, a2, c2, a3, c3⟩ := p
  unfold nv at *
  simp only at HCH HSZ HBT HZL HYL HYB HKD ⊢
  have HB0 : Hid (Below w.heap.size w (((w.alloc (.cells #[.bool lf, .slice a1 cs.length c1, .slice a2 ks.length c2, .slice a3 ds.length c3] 26)).alloc (.cells #[.bool false, .slice none 0 0, .slice none 0 0, .slice none 0 0] 26)).alloc (.cells #[.bool false, .slice none 0 0, .slice none 0 0, .slice none 0 0] 26))) := ((below_alloc _ _).alloc (by rw [size_alloc1]; omega) _).alloc (by rw [size_alloc1, size_alloc1]; omega) _
  have HN0 : Hid (Brow (((w.alloc (.cells #[.bool lf, .slice a1 cs.length c1, .slice a2 ks.length c2, .slice a3 ds.length c3] 26)).alloc (.cells #[.bool false, .slice none 0 0, .slice none 0 0, .slice none 0 0] 26)).alloc (.cells #[.bool false, .slice none 0 0, .slice none 0 0, .slice none 0 0] 26)) w.heap.size [.bool lf, .slice a1 cs.length c1, .slice a2 ks.length c2, .slice a3 ds.length c3] 26) := ((Brow.new w [.bool lf, .slice a1 cs.length c1, .slice a2 ks.length c2, .slice a3 ds.length c3] 26).alloc _).alloc _
  have HX0 : Hid (Brow (((w.alloc (.cells #[.bool lf, .slice a1 cs.length c1, .slice a2 ks.length c2, .slice a3 ds.length c3] 26)).alloc (.cells #[.bool false, .slice none 0 0, .slice none 0 0, .slice none 0 0] 26)).alloc (.cells #[.bool false, .slice none 0 0, .slice none 0 0, .slice none 0 0] 26)) (w.heap.size + 1) [.bool false, .slice none 0 0, .slice none 0 0, .slice none 0 0] 26) := by
    have := (Brow.new (w.alloc (.cells #[.bool lf, .slice a1 cs.length c1, .slice a2 ks.length c2, .slice a3 ds.length c3] 26)) [.bool false, .slice none 0 0, .slice none 0 0, .slice none 0 0] 26).alloc (.cells #[.bool false, .slice none 0 0, .slice none 0 0, .slice none 0 0] 26)
    rwa [size_alloc1] at this
  have HY0 : Hid (Brow (((w.alloc (.cells #[.bool lf, .slice a1 cs.length c1, .slice a2 ks.length c2, .slice a3 ds.length c3] 26)).alloc (.cells #[.bool false, .slice none 0 0, .slice none 0 0, .slice none 0 0] 26)).alloc (.cells #[.bool false, .slice none 0 0, .slice none 0 0, .slice none 0 0] 26)) (w.heap.size + 2) [.bool false, .slice none 0 0, .slice none 0 0, .slice none 0 0] 26) := by
    have := Brow.new ((w.alloc (.cells #[.bool lf, .slice a1 cs.length c1, .slice a2 ks.length c2, .slice a3 ds.length c3] 26)).alloc (.cells #[.bool false, .slice none 0 0, .slice none 0 0, .slice none 0 0] 26)) [.bool false, .slice none 0 0, .slice none 0 0, .slice none 0 0] 26
    rwa [size_alloc1, size_alloc1] at this
  have hs0 : (((w.alloc (.cells #[.bool lf, .slice a1 cs.length c1, .slice a2 ks.length c2, .slice a3 ds.length c3] 26)).alloc (.cells #[.bool false, .slice none 0 0, .slice none 0 0, .slice none 0 0] 26)).alloc (.cells #[.bool false, .slice none 0 0, .slice none 0 0, .slice none 0 0] 26)).heap.size = w.heap.size + 3 := by rw [size_alloc1, size_alloc1, size_alloc1]
  go_enter Try.func19, Try.ntmps19
  go_wp2_with fail
  refine (HCH _ HB0.out).mono ?_
  rintro e w1 ⟨rfl, hB1⟩
  have HB1 : Hid (Below w.heap.size w w1) := HB0.out.trans (hB1.mono (by omega))
  have hs1 : w.heap.size + 3 ≤ w1.heap.size := by have := hB1.size; omega
  have HN1 : Hid (Brow w1 w.heap.size [.bool lf, .slice a1 cs.length c1, .slice a2 ks.length c2, .slice a3 ds.length c3] 26) := HN0.out.below hB1 (by omega)
  have HX1 : Hid (Brow w1 (w.heap.size + 1) [.bool false, .slice none 0 0, .slice none 0 0, .slice none 0 0] 26) := HX0.out.below hB1 (by omega)
  have HY1 : Hid (Brow w1 (w.heap.size + 2) [.bool false, .slice none 0 0, .slice none 0 0, .slice none 0 0] 26) := HY0.out.below hB1 (by omega)
  clear hB1 HB0 HN0 HX0 HY0 hs0 HCH
  cases q with
  | false =>
    have HO2 : Hid (ok = false) := by show _ = _; rw [HOK.eq]; rfl
    rw [if_neg (by simp)]
    clear HSZ HBT HEV HYL HYB HKD HOK
    have HR1 := (show Hid (Brow (setN (setN w1 (w.heap.size + 1) (.bool false) (.slice none 0 0) (.slice none 0 0) (.slice none 0 0)) (w.heap.size + 2) (.bool false) (.slice none 0 0) (.slice none 0 0) (.slice none 0 0)) (w.heap.size + 1) [.bool false, .slice none 0 0, .slice none 0 0, .slice none 0 0] 26) from setN_far (setN_row HX1.out _ _ _ _) (by omega) _ _ _ _)
    have HR2 := (show Hid (Brow (setN (setN w1 (w.heap.size + 1) (.bool false) (.slice none 0 0) (.slice none 0 0) (.slice none 0 0)) (w.heap.size + 2) (.bool false) (.slice none 0 0) (.slice none 0 0) (.slice none 0 0)) (w.heap.size + 2) [.bool false, .slice none 0 0, .slice none 0 0, .slice none 0 0] 26) from setN_row (setN_far HY1.out (by omega) _ _ _ _) _ _ _ _)
    have HRB := (show Hid (Below w.heap.size w (setN (setN w1 (w.heap.size + 1) (.bool false) (.slice none 0 0) (.slice none 0 0) (.slice none 0 0)) (w.heap.size + 2) (.bool false) (.slice none 0 0) (.slice none 0 0) (.slice none 0 0))) from setN_below (setN_below HB1.out (by omega) _ _ _ _) (by omega) _ _ _ _)
    have HY' := (show Hid (Brow (setN w1 (w.heap.size + 1) (.bool false) (.slice none 0 0) (.slice none 0 0) (.slice none 0 0)) (w.heap.size + 2) [.bool false, .slice none 0 0, .slice none 0 0, .slice none 0 0] 26) from setN_far HY1.out (by omega) _ _ _ _)
    have x0 := HX1.out.at 0 _ rfl
    have xz0 := HX1.out.fz 0
    have y0 := HY'.out.at 0 _ rfl
    have yz0 := HY'.out.fz 0
    have x1 := HX1.out.at 1 _ rfl
    have xz1 := HX1.out.fz 1
    have y1 := HY'.out.at 1 _ rfl
    have yz1 := HY'.out.fz 1
    have x2 := HX1.out.at 2 _ rfl
    have xz2 := HX1.out.fz 2
    have y2 := HY'.out.at 2 _ rfl
    have yz2 := HY'.out.fz 2
    have x3 := HX1.out.at 3 _ rfl
    have xz3 := HX1.out.fz 3
    have y3 := HY'.out.at 3 _ rfl
    have yz3 := HY'.out.fz 3
    unfold setN at *
    go_wp2
    refine bodyPost_ret (res_cctt rfl _ _ (w.heap.size + 1) (w.heap.size + 2) 26 _ _ _ rfl HR1.out rfl HR2.out Try.underlying26 rfl (by kernel_rfl) (by kernel_rfl)) rfl ?_
    exact HNO.out _ _ HO2.out rfl HRB.out
  | true =>
    rw [if_pos rfl]
    go_upto_region 3 with fail
    have HSD : Hid ((fun W : World => Brow W w.heap.size [.bool lf, .slice a1 cs.length c1, .slice a2 ks.length c2, .slice a3 ds.length c3] 26) w1.drew) := HN1.out.drew
    refine wp_region_held_drew (S := (fun W : World => Brow W w.heap.size [.bool lf, .slice a1 cs.length c1, .slice a2 ks.length c2, .slice a3 ds.length c3] 26)) (by kernel_rfl) HSD.out (fun _ => ?_)
    have HXD : Hid (Brow w1.drew (w.heap.size + 1) [.bool false, .slice none 0 0, .slice none 0 0, .slice none 0 0] 26) := HX1.out.drew
    have HYD : Hid (Brow w1.drew (w.heap.size + 2) [.bool false, .slice none 0 0, .slice none 0 0, .slice none 0 0] 26) := HY1.out.drew
    have HBD : Hid (Below w.heap.size w w1.drew) := HB1.out.drew
    have hsD : w.heap.size + 3 ≤ w1.drew.heap.size := hs1
    generalize w1.drew = w2 at *
    clear HB1 HN1 HX1 HY1 hs1
    refine heldTake 0 (some 14) (.agg #[.bool lf, .slice a1 cs.length c1, .slice a2 ks.length c2, .slice a3 ds.length c3]) rfl rfl (by kernel_rfl) (by kernel_rfl) (by kernel_rfl) (fun _ _ _ h => h) (Or.inl ⟨by rfl, fun w hS => ?_⟩) HSD.out ?_
    · (have q0 := hS.at 0 _ rfl; have q1 := hS.at 1 _ rfl; have q2 := hS.at 2 _ rfl; have q3 := hS.at 3 _ rfl; go_simp)
    simp only [Act.put, List.setIfInBounds_toArray, List.set_cons_zero, List.set_cons_succ]
    refine heldTake 2 (some 16) (.agg #[.bool lf, .slice a1 cs.length c1, .slice a2 ks.length c2, .slice a3 ds.length c3]) rfl rfl (by kernel_rfl) (by kernel_rfl) (by kernel_rfl) (fun _ _ _ h => h) (Or.inl ⟨by rfl, fun w hS => ?_⟩) HSD.out ?_
    · (have q0 := hS.at 0 _ rfl; have q1 := hS.at 1 _ rfl; have q2 := hS.at 2 _ rfl; have q3 := hS.at 3 _ rfl; go_simp)
    simp only [Act.put, List.setIfInBounds_toArray, List.set_cons_zero, List.set_cons_succ]
    refine heldOne 1 (by kernel_rfl) rfl (by rfl) (fun KK hK => ?_)
    go_simp
    go_at_call 32
    refine (HSZ _ HBD.out).mono ?_
    rintro e w3 ⟨ad, cap, rfl, hr, hc1, hc2, hB3⟩
    have HS3 : Hid ((fun W : World => Brow W w.heap.size [.bool lf, .slice a1 cs.length c1, .slice a2 ks.length c2, .slice a3 ds.length c3] 26) w3) := HSD.out.below hB3 (by omega)
    have HX3 : Hid (Brow w3 (w.heap.size + 1) [.bool false, .slice none 0 0, .slice none 0 0, .slice none 0 0] 26) := HXD.out.below hB3 (by omega)
    have HY3 : Hid (Brow w3 (w.heap.size + 2) [.bool false, .slice none 0 0, .slice none 0 0, .slice none 0 0] 26) := HYD.out.below hB3 (by omega)
    have HB3 : Hid (Below w.heap.size w w3) := HBD.out.trans (hB3.mono (by omega))
    have hs3 : w.heap.size + 3 ≤ w3.heap.size := Nat.le_trans hsD hB3.size
    have HR3 : Hid (RowAt w3 ad (icells (ints l))) := hr
    clear hr hB3 HSD HXD HYD HBD HSZ hsD
    refine hK.out _ _ HS3.out ?_
    clear hK KK
    try simp only [Act.put, List.setIfInBounds_toArray, List.set_cons_zero, List.set_cons_succ]
    refine heldOne 3 (by kernel_rfl) rfl (by rfl) (fun KK hK => ?_)
    go_simp
    go_at_call 33
    refine (HBT _).mono ?_
    rintro e w4 ⟨rfl, hB4⟩
    have HS4 : Hid ((fun W : World => Brow W w.heap.size [.bool lf, .slice a1 cs.length c1, .slice a2 ks.length c2, .slice a3 ds.length c3] 26) w4) := HS3.out.below hB4 (by omega)
    have HX4 : Hid (Brow w4 (w.heap.size + 1) [.bool false, .slice none 0 0, .slice none 0 0, .slice none 0 0] 26) := HX3.out.below hB4 (by omega)
    have HY4 : Hid (Brow w4 (w.heap.size + 2) [.bool false, .slice none 0 0, .slice none 0 0, .slice none 0 0] 26) := HY3.out.below hB4 (by omega)
    have HB4 : Hid (Below w.heap.size w w4) := HB3.out.trans (hB4.mono (by omega))
    have hs4 : w.heap.size + 3 ≤ w4.heap.size := Nat.le_trans hs3 hB4.size
    have HEV2 := HEV w4 ad cap (HR3.out.below hB4) hc1 hc2
    clear hB4 HS3 HX3 HY3 HB3 HBT HEV HR3 hs3
    refine hK.out _ _ HS4.out ?_
    clear hK KK
    try simp only [Act.put, List.setIfInBounds_toArray, List.set_cons_zero, List.set_cons_succ]
    refine heldOne 4 (by kernel_rfl) rfl (by rfl) (fun KK hK => ?_)
    go_simp
    go_at_call 31
    refine HEV2.mono ?_
    rintro e wS ⟨rfl, hwS⟩
    rw [hwS]
    clear hwS wS HEV2
    refine hK.out _ _ HS4.out ?_
    clear hK KK
    try simp only [Act.put, List.setIfInBounds_toArray, List.set_cons_zero, List.set_cons_succ]
    refine heldTake 5 (some 13) (.tuple #[.int .i64 (P : Int), .bool (decide (0 < P))]) rfl rfl (by kernel_rfl) (by kernel_rfl) (by kernel_rfl) (fun _ _ _ h => h) (Or.inl ⟨by rfl, fun w hS => ?_⟩) HS4.out ?_
    · (go_simp)
    simp only [Act.put, List.setIfInBounds_toArray, List.set_cons_zero, List.set_cons_succ]
    refine heldTake 6 (some 19) (.int .i64 (P : Int)) rfl rfl (by kernel_rfl) (by kernel_rfl) (by kernel_rfl) (fun _ _ _ h => h) (Or.inl ⟨by rfl, fun w hS => ?_⟩) HS4.out ?_
    · (go_simp)
    simp only [Act.put, List.setIfInBounds_toArray, List.set_cons_zero, List.set_cons_succ]
    refine heldTake 8 (some 6) (.int .i64 (P : Int)) rfl rfl (by kernel_rfl) (by kernel_rfl) (by kernel_rfl) (fun _ _ _ h => h) (Or.inl ⟨by rfl, fun w hS => ?_⟩) HS4.out ?_
    · (go_simp)
    simp only [Act.put, List.setIfInBounds_toArray, List.set_cons_zero, List.set_cons_succ]
    refine heldTake 7 (some 20) (.bool (decide (0 < P))) rfl rfl (by kernel_rfl) (by kernel_rfl) (by kernel_rfl) (fun _ _ _ h => h) (Or.inl ⟨by rfl, fun w hS => ?_⟩) HS4.out ?_
    · (go_simp)
    simp only [Act.put, List.setIfInBounds_toArray, List.set_cons_zero, List.set_cons_succ]
    refine heldTake 9 (some 7) (.bool (decide (0 < P))) rfl rfl (by kernel_rfl) (by kernel_rfl) (by kernel_rfl) (fun _ _ _ h => h) (Or.inl ⟨by rfl, fun w hS => ?_⟩) HS4.out ?_
    · (go_simp)
    simp only [Act.put, List.setIfInBounds_toArray, List.set_cons_zero, List.set_cons_succ]
    refine wpAnyH_done (by kernel_rfl) ?_ _
    by_cases hP : 0 < P
    · have hlt := HLT.out hP
      have HO2 : Hid (ok = true) := by show _ = _; rw [HOK.eq, decide_eq_true hP]; rfl
      rw [decide_eq_true hP]
      clear HLT HOK HNO hc1 hc2
      cases lf with
      | true =>
        obtain ⟨hll, hbt⟩ := HZL.out.1 rfl
        rw [hll, hbt, Nat.add_zero] at hlt
        clear hll hbt HZL HYB HKD
        have hl1 : cs.length ≤ 1000 := HF.out.l1
        have hlc : cs.length ≤ c1 := HL.out.l1
        have hcm : c1 ≤ 9223372036854775807 := HL.out.m1
        have HFL := (show Hid (Fit ⟨true, cs.take P, [], []⟩) from fit_sub HF.out (fun c hc => List.mem_of_mem_take hc) (fun k hk => by cases hk) (fun i hi => by cases hi) (by rw [List.length_take]; omega) (by simp) (by simp))
        have HFR := (show Hid (Fit ⟨true, cs.drop P, [], []⟩) from fit_sub HF.out (fun c hc => List.mem_of_mem_drop hc) (fun k hk => by cases hk) (fun i hi => by cases hi) (by rw [List.length_drop]; omega) (by simp) (by simp))
        obtain ⟨b, off, ha1, hb, hc⟩ := HL.out.r1.cell (Nat.lt_of_le_of_lt (Nat.zero_le _) hlt)
        simp only at ha1
        subst ha1
        have HRW := (show Hid (RowAt w (some ⟨b, off, none⟩) (cvals cs)) from HL.out.r1)
        have HKS := (show Hid ((cs.getD P Sl.cel0).key.size ≤ 281474976710656) from Nat.le_trans (HF.out.cells _ (Sl.getD_mem cs P Sl.cel0 hlt)).key (by omega))
        have HCA := (show Hid (CelAt w b (off + P * 4) (cs.getD P Sl.cel0)) from hc P hlt)
        have HYL2 := (show Hid _ from HYL.out)
        clear hc HYL HF HL
        generalize cs.getD P Sl.cel0 = x at *
        obtain ⟨xk, xx, xo, xl⟩ := x
        simp only at HKS HYL2
        have i0 : (0 : Int) ≤ (P : Int) := by omega
        have i1 : (P : Int) ≤ (c1 : Int) := by omega
        have i2 : (P : Int) ≤ (cs.length : Int) := by omega
        have i3 : ¬ c1 = P := by omega
        have i4 : (0 : Int) < ((cs.length - P : Nat) : Int) := by omega
        have f1 : sliced (some ⟨b, off, none⟩) 0 P P 4 = .slice (some ⟨b, off, none⟩) P P := by rw [sliced_sub, subA_zero]; rfl
        have i5 : (0 : Nat) < cs.length - P := by omega
        have HBA := (show Hid (Below w.heap.size w (setN w4 (w.heap.size + 1) (.bool true) (.slice (some ⟨b, off, none⟩) P P) (.slice none 0 0) (.slice none 0 0))) from setN_below HB4.out (by omega) _ _ _ _)
        have HXA := (show Hid (Brow (setN w4 (w.heap.size + 1) (.bool true) (.slice (some ⟨b, off, none⟩) P P) (.slice none 0 0) (.slice none 0 0)) (w.heap.size + 1) [.bool true, .slice (some ⟨b, off, none⟩) P P, .slice none 0 0, .slice none 0 0] 26) from setN_row HX4.out _ _ _ _)
        have HYA := (show Hid (Brow (setN w4 (w.heap.size + 1) (.bool true) (.slice (some ⟨b, off, none⟩) P P) (.slice none 0 0) (.slice none 0 0)) (w.heap.size + 2) [.bool false, .slice none 0 0, .slice none 0 0, .slice none 0 0] 26) from setN_far HY4.out (by omega) _ _ _ _)
        have HNA := (show Hid (Brow (setN w4 (w.heap.size + 1) (.bool true) (.slice (some ⟨b, off, none⟩) P P) (.slice none 0 0) (.slice none 0 0)) w.heap.size [.bool true, .slice (some ⟨b, off, none⟩) cs.length c1, .slice a2 ks.length c2, .slice a3 ds.length c3] 26) from setN_far HS4.out (by omega) _ _ _ _)
        have hsA : w.heap.size + 3 ≤ (setN w4 (w.heap.size + 1) (.bool true) (.slice (some ⟨b, off, none⟩) P P) (.slice none 0 0) (.slice none 0 0)).heap.size := by rw [size_setN]; exact hs4
        have q0 := HS4.out.at 0 _ rfl
        have q1 := HS4.out.at 1 _ rfl
        have q2 := HS4.out.at 2 _ rfl
        have q3 := HS4.out.at 3 _ rfl
        have x0 := HX4.out.at 0 _ rfl
        have x1 := HX4.out.at 1 _ rfl
        have x2 := HX4.out.at 2 _ rfl
        have x3 := HX4.out.at 3 _ rfl
        have xz0 := HX4.out.fz 0
        have xz1 := HX4.out.fz 1
        have xz2 := HX4.out.fz 2
        have xz3 := HX4.out.fz 3
        unfold setN at HBA HXA HYA HNA hsA
        go_upto_region 11 with fail
        clear q0 q1 q2 q3 x0 x1 x2 x3 xz0 xz1 xz2 xz3 HS4 HX4 HY4 HB4 hs4
        generalize ((((w4.setCell ⟨w.heap.size + 1, 0, none⟩ (.bool true)).setCell ⟨w.heap.size + 1, 1, none⟩ (.slice (some ⟨b, off, none⟩) P P)).setCell ⟨w.heap.size + 1, 2, none⟩ (.slice none 0 0)).setCell ⟨w.heap.size + 1, 3, none⟩ (.slice none 0 0)) = wA at *
        have HBB := (show Hid (Below w.heap.size w (setN wA (w.heap.size + 2) (.bool true) (.slice (some ⟨b, off + P * 4, none⟩) (cs.length - P) (c1 - P)) (.slice none 0 0) (.slice none 0 0))) from setN_below HBA.out (by omega) _ _ _ _)
        have HXB := (show Hid (Brow (setN wA (w.heap.size + 2) (.bool true) (.slice (some ⟨b, off + P * 4, none⟩) (cs.length - P) (c1 - P)) (.slice none 0 0) (.slice none 0 0)) (w.heap.size + 1) [.bool true, .slice (some ⟨b, off, none⟩) P P, .slice none 0 0, .slice none 0 0] 26) from setN_far HXA.out (by omega) _ _ _ _)
        have HYB := (show Hid (Brow (setN wA (w.heap.size + 2) (.bool true) (.slice (some ⟨b, off + P * 4, none⟩) (cs.length - P) (c1 - P)) (.slice none 0 0) (.slice none 0 0)) (w.heap.size + 2) [.bool true, .slice (some ⟨b, off + P * 4, none⟩) (cs.length - P) (c1 - P), .slice none 0 0, .slice none 0 0] 26) from setN_row HYA.out _ _ _ _)
        have hsB : w.heap.size + 3 ≤ (setN wA (w.heap.size + 2) (.bool true) (.slice (some ⟨b, off + P * 4, none⟩) (cs.length - P) (c1 - P)) (.slice none 0 0) (.slice none 0 0)).heap.size := by rw [size_setN]; exact hsA
        have q0 := HNA.out.at 0 _ rfl
        have q1 := HNA.out.at 1 _ rfl
        have q2 := HNA.out.at 2 _ rfl
        have q3 := HNA.out.at 3 _ rfl
        have y0 := HYA.out.at 0 _ rfl
        have y1 := HYA.out.at 1 _ rfl
        have y2 := HYA.out.at 2 _ rfl
        have y3 := HYA.out.at 3 _ rfl
        have yz0 := HYA.out.fz 0
        have yz1 := HYA.out.fz 1
        have yz2 := HYA.out.fz 2
        have yz3 := HYA.out.fz 3
        unfold setN at HBB HXB HYB hsB
        go_upto_region 12 with fail
        clear q0 q1 q2 q3 y0 y1 y2 y3 yz0 yz1 yz2 yz3 HNA HXA HYA HBA hsA
        generalize ((((wA.setCell ⟨w.heap.size + 2, 0, none⟩ (.bool true)).setCell ⟨w.heap.size + 2, 1, none⟩ (.slice (some ⟨b, off + P * 4, none⟩) (cs.length - P) (c1 - P))).setCell ⟨w.heap.size + 2, 2, none⟩ (.slice none 0 0)).setCell ⟨w.heap.size + 2, 3, none⟩ (.slice none 0 0)) = wB at *
        have s1 := HYB.out.at 1 _ rfl
        obtain ⟨g0, g1, g2, g3⟩ := HCA.out.below HBB.out hb
        simp only at g0 g1 g2 g3
        have HLi := (show Hid (Lies wB ⟨true, cs.take P, [], []⟩ ⟨some ⟨b, off, none⟩, P, none, 0, none, 0⟩) from ⟨by rw [cvals_take]; exact (HRW.out.below HBB.out).take _, .inl rfl, .inl rfl, by rw [List.length_take]; exact Nat.min_le_left _ _, Nat.le_refl _, Nat.le_refl _, by show P ≤ 9223372036854775807; omega, by show 0 ≤ 9223372036854775807; omega, by show 0 ≤ 9223372036854775807; omega⟩)
        have HRi := (show Hid (Lies wB ⟨true, cs.drop P, [], []⟩ ⟨some ⟨b, off + P * 4, none⟩, c1 - P, none, 0, none, 0⟩) from ⟨by rw [cvals_drop]; exact (HRW.out.below HBB.out).drop _, .inl rfl, .inl rfl, by rw [List.length_drop]; exact Nat.sub_le_sub_right hlc _, Nat.le_refl _, Nat.le_refl _, by show c1 - P ≤ 9223372036854775807; omega, by show 0 ≤ 9223372036854775807; omega, by show 0 ≤ 9223372036854775807; omega⟩)
        clear HRW HCA
        go_upto_region 13 with fail
        have HSD : Hid ((fun W : World => Brow W (w.heap.size + 1) [.bool true, .slice (some ⟨b, off, none⟩) P P, .slice none 0 0, .slice none 0 0] 26 ∧ Brow W (w.heap.size + 2) [.bool true, .slice (some ⟨b, off + P * 4, none⟩) (cs.length - P) (c1 - P), .slice none 0 0, .slice none 0 0] 26) wB.drew) := ⟨HXB.out.drew, HYB.out.drew⟩
        have HBD : Hid (Below w.heap.size w wB.drew) := HBB.out.drew
        have hsD : w.heap.size + 3 ≤ wB.drew.heap.size := hsB
        have HLD : Hid (Lies wB.drew ⟨true, cs.take P, [], []⟩ ⟨some ⟨b, off, none⟩, P, none, 0, none, 0⟩) := HLi.out.below (Below.refl _ _).drew
        have HRD : Hid (Lies wB.drew ⟨true, cs.drop P, [], []⟩ ⟨some ⟨b, off + P * 4, none⟩, c1 - P, none, 0, none, 0⟩) := HRi.out.below (Below.refl _ _).drew
        refine AnyL.begin (S := (fun W : World => Brow W (w.heap.size + 1) [.bool true, .slice (some ⟨b, off, none⟩) P P, .slice none 0 0, .slice none 0 0] 26 ∧ Brow W (w.heap.size + 2) [.bool true, .slice (some ⟨b, off + P * 4, none⟩) (cs.length - P) (c1 - P), .slice none 0 0, .slice none 0 0] 26)) (zs := [6, 7, 8, 9]) (by kernel_rfl) ?_
        generalize wB.drew = wd at *
        clear HXB HYB HBB HLi HRi
        have HO1 := own_any ⟨true, cs.take P, [], []⟩ ⟨some ⟨b, off, none⟩, P, none, 0, none, 0⟩ wd HLD.out HFL.out
        have HO3 := fun (W : World) (h : Below wd.heap.size wd W) => own_any ⟨true, cs.drop P, [], []⟩ ⟨some ⟨b, off + P * 4, none⟩, c1 - P, none, 0, none, 0⟩ W (HRD.out.below h) HFR.out
        have HCL := fun (W : World) => sclone_any xk W HKS.out
        unfold nv at HO1 HO3
        simp only [List.length_nil] at HO1 HO3
        clear HLD HRD
        have HE1 : Is (cs.take P).length P := ⟨by rw [List.length_take]; omega⟩
        have HE2 : Is (cs.drop P).length (cs.length - P) := ⟨by rw [List.length_drop]⟩
        rw [HE1.eq] at HO1
        simp only [HE2.eq] at HO3
        clear s1 g0 g1 g2 g3 i0 i1 i2 i3 i4 i5 f1
        refine AnyL.take 0 (some 74) (v := (.agg #[.bool true, .slice (some ⟨b, off, none⟩) P P, .slice none 0 0, .slice none 0 0])) rfl rfl (by kernel_rfl) (by kernel_rfl) (by kernel_rfl) (by kernel_rfl) (by kernel_rfl) (fun _ _ _ h => h) (Or.inl ⟨by rfl, fun w hS => ?_⟩) HSD.out ?_
        · (have q0 := hS.1.at 0 _ rfl; have q1 := hS.1.at 1 _ rfl; have q2 := hS.1.at 2 _ rfl; have q3 := hS.1.at 3 _ rfl; go_simp)
        simp only [Act.put, List.setIfInBounds_toArray, List.set_cons_zero, List.set_cons_succ]
        refine AnyL.take 2 (some 76) (v := (.agg #[.bool true, .slice (some ⟨b, off + P * 4, none⟩) (cs.length - P) (c1 - P), .slice none 0 0, .slice none 0 0])) rfl rfl (by kernel_rfl) (by kernel_rfl) (by kernel_rfl) (by kernel_rfl) (by kernel_rfl) (fun _ _ _ h => h) (Or.inl ⟨by rfl, fun w hS => ?_⟩) HSD.out ?_
        · (have q0 := hS.2.at 0 _ rfl; have q1 := hS.2.at 1 _ rfl; have q2 := hS.2.at 2 _ rfl; have q3 := hS.2.at 3 _ rfl; go_simp)
        simp only [Act.put, List.setIfInBounds_toArray, List.set_cons_zero, List.set_cons_succ]
        refine AnyL.take 4 (some 78) (v := (.string xk)) rfl rfl (by kernel_rfl) (by kernel_rfl) (by kernel_rfl) (by kernel_rfl) (by kernel_rfl) (fun _ _ _ h => h) (Or.inl ⟨by rfl, fun w hS => ?_⟩) HSD.out ?_
        · (go_simp)
        simp only [Act.put, List.setIfInBounds_toArray, List.set_cons_zero, List.set_cons_succ]
        refine AnyL.one 1 (by kernel_rfl) rfl (by rfl) (fun KK hK => ?_)
        go_simp
        go_at_call 30
        refine HO1.mono ?_
        rintro e w5 ⟨⟨b1, k1, b2, k2, b3, k3⟩, rfl, hL5, hB5⟩
        have HS5 : Hid ((fun W : World => Brow W (w.heap.size + 1) [.bool true, .slice (some ⟨b, off, none⟩) P P, .slice none 0 0, .slice none 0 0] 26 ∧ Brow W (w.heap.size + 2) [.bool true, .slice (some ⟨b, off + P * 4, none⟩) (cs.length - P) (c1 - P), .slice none 0 0, .slice none 0 0] 26) w5) := ⟨HSD.out.1.below hB5 (by omega), HSD.out.2.below hB5 (by omega)⟩
        have HB5 : Hid (Below w.heap.size w w5) := HBD.out.trans (hB5.mono (by omega))
        have hs5 : w.heap.size + 3 ≤ w5.heap.size := Nat.le_trans hsD hB5.size
        have HL5 : Hid (LiesF w5 (w.heap.size + 3) ⟨true, cs.take P, [], []⟩ ⟨b1, k1, b2, k2, b3, k3⟩) := hL5.mono hsD
        have HO4 := HO3 w5 hB5
        clear hL5 hB5 HSD HBD HO1 HO3
        refine hK.out _ _ (fun _ => HS5.out) ?_
        clear hK KK
        try simp only
        refine AnyL.one 3 (by kernel_rfl) rfl (by rfl) (fun KK hK => ?_)
        go_simp
        go_at_call 30
        refine HO4.mono ?_
        rintro e w6 ⟨⟨d1, m1, d2, m2, d3, m3⟩, rfl, hL6, hB6⟩
        have HS6 : Hid ((fun W : World => Brow W (w.heap.size + 1) [.bool true, .slice (some ⟨b, off, none⟩) P P, .slice none 0 0, .slice none 0 0] 26 ∧ Brow W (w.heap.size + 2) [.bool true, .slice (some ⟨b, off + P * 4, none⟩) (cs.length - P) (c1 - P), .slice none 0 0, .slice none 0 0] 26) w6) := ⟨HS5.out.1.below hB6 (by omega), HS5.out.2.below hB6 (by omega)⟩
        have HB6 : Hid (Below w.heap.size w w6) := HB5.out.trans (hB6.mono (by omega))
        have hs6 : w.heap.size + 3 ≤ w6.heap.size := Nat.le_trans hs5 hB6.size
        have HL6 : Hid (LiesF w6 (w.heap.size + 3) ⟨true, cs.take P, [], []⟩ ⟨b1, k1, b2, k2, b3, k3⟩ ∧ LiesF w6 (w.heap.size + 3) ⟨true, cs.drop P, [], []⟩ ⟨d1, m1, d2, m2, d3, m3⟩) := ⟨HL5.out.below hB6, hL6.mono hs5⟩
        clear hL6 hB6 HS5 HB5 HO4 HL5
        refine hK.out _ _ (fun _ => HS6.out) ?_
        clear hK KK
        try simp only
        refine AnyL.one 5 (by kernel_rfl) rfl (by rfl) (fun KK hK => ?_)
        go_simp
        go_at_call 34
        refine (HCL _).mono ?_
        rintro e w7 ⟨rfl, hB7⟩
        have HS7 : Hid ((fun W : World => Brow W (w.heap.size + 1) [.bool true, .slice (some ⟨b, off, none⟩) P P, .slice none 0 0, .slice none 0 0] 26 ∧ Brow W (w.heap.size + 2) [.bool true, .slice (some ⟨b, off + P * 4, none⟩) (cs.length - P) (c1 - P), .slice none 0 0, .slice none 0 0] 26) w7) := ⟨HS6.out.1.below hB7 (by omega), HS6.out.2.below hB7 (by omega)⟩
        have HB7 : Hid (Below w.heap.size w w7) := HB6.out.trans (hB7.mono (by omega))
        have HL7 : Hid (LiesF w7 (w.heap.size + 3) ⟨true, cs.take P, [], []⟩ ⟨b1, k1, b2, k2, b3, k3⟩ ∧ LiesF w7 (w.heap.size + 3) ⟨true, cs.drop P, [], []⟩ ⟨d1, m1, d2, m2, d3, m3⟩) := ⟨HL6.out.1.below hB7, HL6.out.2.below hB7⟩
        clear hB7 HS6 HB6 HCL HL6
        refine hK.out _ _ (fun _ => HS7.out) ?_
        clear hK KK
        try simp only [Act.put, List.setIfInBounds_toArray, List.set_cons_zero, List.set_cons_succ]
        have HA1 := (show Hid (Brow (setN w7 (w.heap.size + 1) (.bool true) (.slice b1 P k1) (.slice b2 0 k2) (.slice b3 0 k3)) (w.heap.size + 1) [.bool true, .slice b1 P k1, .slice b2 0 k2, .slice b3 0 k3] 26) from setN_row HS7.out.1 _ _ _ _)
        have HA2 := (show Hid (Brow (setN w7 (w.heap.size + 1) (.bool true) (.slice b1 P k1) (.slice b2 0 k2) (.slice b3 0 k3)) (w.heap.size + 2) [.bool true, .slice (some ⟨b, off + P * 4, none⟩) (cs.length - P) (c1 - P), .slice none 0 0, .slice none 0 0] 26) from setN_far HS7.out.2 (by omega) _ _ _ _)
        have HAB := (show Hid (Below w.heap.size w (setN w7 (w.heap.size + 1) (.bool true) (.slice b1 P k1) (.slice b2 0 k2) (.slice b3 0 k3))) from setN_below HB7.out (by omega) _ _ _ _)
        have HAL := (show Hid (LiesF (setN w7 (w.heap.size + 1) (.bool true) (.slice b1 P k1) (.slice b2 0 k2) (.slice b3 0 k3)) (w.heap.size + 3) ⟨true, cs.take P, [], []⟩ ⟨b1, k1, b2, k2, b3, k3⟩ ∧ LiesF (setN w7 (w.heap.size + 1) (.bool true) (.slice b1 P k1) (.slice b2 0 k2) (.slice b3 0 k3)) (w.heap.size + 3) ⟨true, cs.drop P, [], []⟩ ⟨d1, m1, d2, m2, d3, m3⟩) from ⟨setN_lies HL7.out.1 (by omega) _ _ _ _, setN_lies HL7.out.2 (by omega) _ _ _ _⟩)
        have x0 := HS7.out.1.at 0 _ rfl
        have xz0 := HS7.out.1.fz 0
        have x1 := HS7.out.1.at 1 _ rfl
        have xz1 := HS7.out.1.fz 1
        have x2 := HS7.out.1.at 2 _ rfl
        have xz2 := HS7.out.1.fz 2
        have x3 := HS7.out.1.at 3 _ rfl
        have xz3 := HS7.out.1.fz 3
        unfold setN at HA1 HA2 HAB HAL
        refine AnyL.one 6 (by kernel_rfl) rfl (by rfl) (fun KK hK => ?_)
        go_simp
        refine hK.out _ _ (fun h => absurd h (by decide)) ?_
        clear hK KK
        try simp only [Act.put, List.setIfInBounds_toArray, List.set_cons_zero, List.set_cons_succ]
        clear x0 x1 x2 x3 xz0 xz1 xz2 xz3 HS7 HB7 HL7
        generalize ((((w7.setCell ⟨w.heap.size + 1, 0, none⟩ (.bool true)).setCell ⟨w.heap.size + 1, 1, none⟩ (.slice b1 P k1)).setCell ⟨w.heap.size + 1, 2, none⟩ (.slice b2 0 k2)).setCell ⟨w.heap.size + 1, 3, none⟩ (.slice b3 0 k3)) = w8 at *
        have HR1 := (show Hid (Brow (setN w8 (w.heap.size + 2) (.bool true) (.slice d1 (cs.length - P) m1) (.slice d2 0 m2) (.slice d3 0 m3)) (w.heap.size + 1) [.bool true, .slice b1 P k1, .slice b2 0 k2, .slice b3 0 k3] 26) from setN_far HA1.out (by omega) _ _ _ _)
        have HR2 := (show Hid (Brow (setN w8 (w.heap.size + 2) (.bool true) (.slice d1 (cs.length - P) m1) (.slice d2 0 m2) (.slice d3 0 m3)) (w.heap.size + 2) [.bool true, .slice d1 (cs.length - P) m1, .slice d2 0 m2, .slice d3 0 m3] 26) from setN_row HA2.out _ _ _ _)
        have HRB := (show Hid (Below w.heap.size w (setN w8 (w.heap.size + 2) (.bool true) (.slice d1 (cs.length - P) m1) (.slice d2 0 m2) (.slice d3 0 m3))) from setN_below HAB.out (by omega) _ _ _ _)
        have HRL := (show Hid (LiesF (setN w8 (w.heap.size + 2) (.bool true) (.slice d1 (cs.length - P) m1) (.slice d2 0 m2) (.slice d3 0 m3)) w.heap.size ⟨true, cs.take P, [], []⟩ ⟨b1, k1, b2, k2, b3, k3⟩ ∧ LiesF (setN w8 (w.heap.size + 2) (.bool true) (.slice d1 (cs.length - P) m1) (.slice d2 0 m2) (.slice d3 0 m3)) w.heap.size ⟨true, cs.drop P, [], []⟩ ⟨d1, m1, d2, m2, d3, m3⟩) from ⟨(setN_lies HAL.out.1 (by omega) _ _ _ _).mono (by omega), (setN_lies HAL.out.2 (by omega) _ _ _ _).mono (by omega)⟩)
        have y0 := HA2.out.at 0 _ rfl
        have yz0 := HA2.out.fz 0
        have y1 := HA2.out.at 1 _ rfl
        have yz1 := HA2.out.fz 1
        have y2 := HA2.out.at 2 _ rfl
        have yz2 := HA2.out.fz 2
        have y3 := HA2.out.at 3 _ rfl
        have yz3 := HA2.out.fz 3
        unfold setN at HR1 HR2 HRB HRL
        refine AnyL.one 7 (by kernel_rfl) rfl (by rfl) (fun KK hK => ?_)
        go_simp
        refine hK.out _ _ (fun h => absurd h (by decide)) ?_
        clear hK KK
        try simp only [Act.put, List.setIfInBounds_toArray, List.set_cons_zero, List.set_cons_succ]
        clear y0 y1 y2 y3 yz0 yz1 yz2 yz3 HA1 HA2 HAB HAL
        generalize ((((w8.setCell ⟨w.heap.size + 2, 0, none⟩ (.bool true)).setCell ⟨w.heap.size + 2, 1, none⟩ (.slice d1 (cs.length - P) m1)).setCell ⟨w.heap.size + 2, 2, none⟩ (.slice d2 0 m2)).setCell ⟨w.heap.size + 2, 3, none⟩ (.slice d3 0 m3)) = w9 at *
        refine AnyL.one 8 (by kernel_rfl) rfl (by rfl) (fun KK hK => ?_)
        go_simp
        refine hK.out _ _ (fun h => absurd h (by decide)) ?_
        clear hK KK
        try simp only [Act.put, List.setIfInBounds_toArray, List.set_cons_zero, List.set_cons_succ]
        refine AnyL.one 9 (by kernel_rfl) rfl (by rfl) (fun KK hK => ?_)
        go_simp
        refine hK.out _ _ (fun h => absurd h (by decide)) ?_
        clear hK KK
        try simp only [Act.put, List.setIfInBounds_toArray, List.set_cons_zero, List.set_cons_succ]
        refine AnyL.done (by kernel_rfl) ?_
        go_wp2
        refine bodyPost_ret (res_cctt rfl _ _ (w.heap.size + 1) (w.heap.size + 2) 26 _ _ _ rfl HR1.out rfl HR2.out Try.underlying26 rfl (by kernel_rfl) (by kernel_rfl)) rfl ?_
        exact HYL2.out _ _ ⟨b1, k1, b2, k2, b3, k3⟩ ⟨d1, m1, d2, m2, d3, m3⟩ xk HO2.out trivial rfl (by simp only [HE1.eq, HE2.eq, List.length_nil]; try rfl) HRL.out.1 HRL.out.2 HRB.out
      | false =>
        obtain ⟨hll, hbt⟩ := HZL.out.2 rfl
        rw [hll, hbt] at hlt
        have hkd : ds.length = ks.length + 1 := HKD.out (by first | rfl | trivial) (by first | rfl | trivial)
        clear hll hbt HZL HYL HKD
        have hl2 : ks.length ≤ 1000 := HF.out.l2
        have hl3 : ds.length ≤ 1000 := HF.out.l3
        have hlc2 : ks.length ≤ c2 := HL.out.l2
        have hcm2 : c2 ≤ 9223372036854775807 := HL.out.m2
        have hlc3 : ds.length ≤ c3 := HL.out.l3
        have hcm3 : c3 ≤ 9223372036854775807 := HL.out.m3
        obtain ⟨M, HM⟩ : ∃ M, Is M (P + 1) := ⟨_, ⟨rfl⟩⟩
        have hMk : M < ks.length := by rw [HM.eq]; exact hlt
        have hMd : M < ds.length := by omega
        rw [← HM.eq] at HYB
        have HFL := (show Hid (Fit ⟨false, [], ks.take P, ds.take M⟩) from fit_sub HF.out (fun c hc => by cases hc) (fun k hk => List.mem_of_mem_take hk) (fun i hi => List.mem_of_mem_take hi) (by simp) (by rw [List.length_take]; omega) (by rw [List.length_take]; omega))
        have HFR := (show Hid (Fit ⟨false, [], ks.drop M, ds.drop M⟩) from fit_sub HF.out (fun c hc => by cases hc) (fun k hk => List.mem_of_mem_drop hk) (fun i hi => List.mem_of_mem_drop hi) (by simp) (by rw [List.length_drop]; omega) (by rw [List.length_drop]; omega))
        obtain ⟨bk, fk, ha2, hbk, hck⟩ := HL.out.r2.keyAt (Nat.lt_of_le_of_lt (Nat.zero_le _) hMk)
        obtain ⟨bd, fd, ha3, hbd, hcd⟩ := HL.out.r3.intAt (Nat.lt_of_le_of_lt (Nat.zero_le _) hMd)
        simp only at ha2 ha3
        subst ha2 ha3
        have HRW := (show Hid (RowAt w (some ⟨bk, fk, none⟩) (kcells ks) ∧ RowAt w (some ⟨bd, fd, none⟩) (icells ds)) from ⟨HL.out.r2, HL.out.r3⟩)
        have hPk : P < ks.length := by have := HM.eq; omega
        have HKS := (show Hid ((ks.getD P ByteArray.empty).size ≤ 281474976710656) from Nat.le_trans (HF.out.keys _ (Sl.getD_mem ks P ByteArray.empty hPk)) (by omega))
        have HCA := (show Hid (w.cell? ⟨bk, fk + P, none⟩ = some (.string (ks.getD P ByteArray.empty))) from hck P hPk)
        have HYL2 := (show Hid _ from HYB.out)
        clear hck hcd HYB HF HL
        generalize ks.getD P ByteArray.empty = xk at *
        simp only at HYL2
        have i0 : (0 : Int) ≤ (P : Int) := by omega
        have i1 : (P : Int) ≤ (c2 : Int) := by omega
        have iM : (P : Int) + 1 = (M : Int) := by have := HM.eq; omega
        have hMP : M ≤ 1001 := by omega
        have i2 : (M : Int) ≤ (c3 : Int) := by omega
        have i3 : (0 : Int) ≤ (M : Int) := by omega
        have i4 : (M : Int) ≤ (ks.length : Int) := by omega
        have i5 : (M : Int) ≤ (ds.length : Int) := by omega
        have i6 : ¬ c2 = M := by omega
        have i7 : ¬ c3 = M := by omega
        have i8 : (P : Int) < (ks.length : Int) := by omega
        have iW : IntKind.i64.wrap (M : Int) = (M : Int) := by rw [IntKind.wrap_i64]; omega
        have f1 : sliced (some ⟨bk, fk, none⟩) 0 P P 1 = .slice (some ⟨bk, fk, none⟩) P P := by rw [sliced_sub, subA_zero]; rfl
        have f2 : sliced (some ⟨bd, fd, none⟩) 0 M M 1 = .slice (some ⟨bd, fd, none⟩) M M := by rw [sliced_sub, subA_zero]; rfl
        clear hkd hlt hMP
        have q0 := HS4.out.at 0 _ rfl
        go_upto_region 4 with fail
        clear q0
        have HSD : Hid ((fun W : World => Brow W w.heap.size [.bool false, .slice a1 cs.length c1, .slice (some ⟨bk, fk, none⟩) ks.length c2, .slice (some ⟨bd, fd, none⟩) ds.length c3] 26) w4.drew) := HS4.out.drew
        refine wp_region_held_drew (S := (fun W : World => Brow W w.heap.size [.bool false, .slice a1 cs.length c1, .slice (some ⟨bk, fk, none⟩) ks.length c2, .slice (some ⟨bd, fd, none⟩) ds.length c3] 26)) (by kernel_rfl) HSD.out (fun _ => ?_)
        have HXD : Hid (Brow w4.drew (w.heap.size + 1) [.bool false, .slice none 0 0, .slice none 0 0, .slice none 0 0] 26) := HX4.out.drew
        have HYD : Hid (Brow w4.drew (w.heap.size + 2) [.bool false, .slice none 0 0, .slice none 0 0, .slice none 0 0] 26) := HY4.out.drew
        have HBD : Hid (Below w.heap.size w w4.drew) := HB4.out.drew
        have hsD : w.heap.size + 3 ≤ w4.drew.heap.size := hs4
        generalize w4.drew = w5 at *
        clear HS4 HX4 HY4 HB4 hs4
        refine heldTake 0 (some 21) (.pointer (some ⟨w.heap.size, 2, none⟩)) rfl rfl (by kernel_rfl) (by kernel_rfl) (by kernel_rfl) (fun _ _ _ h => h) (Or.inl ⟨by rfl, fun w hS => ?_⟩) HSD.out ?_
        · (go_simp)
        simp only [Act.put, List.setIfInBounds_toArray, List.set_cons_zero, List.set_cons_succ]
        refine heldTake 1 (some 22) (.slice (some ⟨bk, fk, none⟩) ks.length c2) rfl rfl (by kernel_rfl) (by kernel_rfl) (by kernel_rfl) (fun _ _ _ h => h) (Or.inl ⟨by rfl, fun w hS => ?_⟩) HSD.out ?_
        · (have q := hS.at 2 _ rfl; go_simp)
        simp only [Act.put, List.setIfInBounds_toArray, List.set_cons_zero, List.set_cons_succ]
        refine heldTake 2 (some 23) (.int .i64 (P : Int)) rfl rfl (by kernel_rfl) (by kernel_rfl) (by kernel_rfl) (fun _ _ _ h => h) (Or.inl ⟨by rfl, fun w hS => ?_⟩) HSD.out ?_
        · (go_simp)
        simp only [Act.put, List.setIfInBounds_toArray, List.set_cons_zero, List.set_cons_succ]
        refine heldTake 3 (some 24) (.int .i64 (P : Int)) rfl rfl (by kernel_rfl) (by kernel_rfl) (by kernel_rfl) (fun _ _ _ h => h) (Or.inl ⟨by rfl, fun w hS => ?_⟩) HSD.out ?_
        · (go_simp)
        simp only [Act.put, List.setIfInBounds_toArray, List.set_cons_zero, List.set_cons_succ]
        refine heldTake 4 (some 25) (.slice (some ⟨bk, fk, none⟩) P P) rfl rfl (by kernel_rfl) (by kernel_rfl) (by kernel_rfl) (fun _ _ _ h => h) (Or.inl ⟨by rfl, fun w hS => ?_⟩) HSD.out ?_
        · (go_simp)
        simp only [Act.put, List.setIfInBounds_toArray, List.set_cons_zero, List.set_cons_succ]
        refine heldTake 5 (some 26) (.pointer (some ⟨w.heap.size, 3, none⟩)) rfl rfl (by kernel_rfl) (by kernel_rfl) (by kernel_rfl) (fun _ _ _ h => h) (Or.inl ⟨by rfl, fun w hS => ?_⟩) HSD.out ?_
        · (go_simp)
        simp only [Act.put, List.setIfInBounds_toArray, List.set_cons_zero, List.set_cons_succ]
        refine heldTake 6 (some 27) (.slice (some ⟨bd, fd, none⟩) ds.length c3) rfl rfl (by kernel_rfl) (by kernel_rfl) (by kernel_rfl) (fun _ _ _ h => h) (Or.inl ⟨by rfl, fun w hS => ?_⟩) HSD.out ?_
        · (have q := hS.at 3 _ rfl; go_simp)
        simp only [Act.put, List.setIfInBounds_toArray, List.set_cons_zero, List.set_cons_succ]
        refine heldTake 7 (some 28) (.int .i64 (P : Int)) rfl rfl (by kernel_rfl) (by kernel_rfl) (by kernel_rfl) (fun _ _ _ h => h) (Or.inl ⟨by rfl, fun w hS => ?_⟩) HSD.out ?_
        · (go_simp)
        simp only [Act.put, List.setIfInBounds_toArray, List.set_cons_zero, List.set_cons_succ]
        refine heldTake 8 (some 29) (.int .i64 (M : Int)) rfl rfl (by kernel_rfl) (by kernel_rfl) (by kernel_rfl) (fun _ _ _ h => h) (Or.inl ⟨by rfl, fun w hS => ?_⟩) HSD.out ?_
        · (go_simp)
        simp only [Act.put, List.setIfInBounds_toArray, List.set_cons_zero, List.set_cons_succ]
        refine heldTake 9 (some 30) (.int .i64 (P : Int)) rfl rfl (by kernel_rfl) (by kernel_rfl) (by kernel_rfl) (fun _ _ _ h => h) (Or.inl ⟨by rfl, fun w hS => ?_⟩) HSD.out ?_
        · (go_simp)
        simp only [Act.put, List.setIfInBounds_toArray, List.set_cons_zero, List.set_cons_succ]
        refine heldTake 10 (some 31) (.int .i64 (M : Int)) rfl rfl (by kernel_rfl) (by kernel_rfl) (by kernel_rfl) (fun _ _ _ h => h) (Or.inl ⟨by rfl, fun w hS => ?_⟩) HSD.out ?_
        · (go_simp)
        simp only [Act.put, List.setIfInBounds_toArray, List.set_cons_zero, List.set_cons_succ]
        refine heldTake 11 (some 32) (.slice (some ⟨bd, fd, none⟩) M M) rfl rfl (by kernel_rfl) (by kernel_rfl) (by kernel_rfl) (fun _ _ _ h => h) (Or.inl ⟨by rfl, fun w hS => ?_⟩) HSD.out ?_
        · (go_simp)
        simp only [Act.put, List.setIfInBounds_toArray, List.set_cons_zero, List.set_cons_succ]
        refine heldTake 12 (some 33) (.agg #[.bool false, .slice none 0 0, .slice (some ⟨bk, fk, none⟩) P P, .slice (some ⟨bd, fd, none⟩) M M]) rfl rfl (by kernel_rfl) (by kernel_rfl) (by kernel_rfl) (fun _ _ _ h => h) (Or.inl ⟨by rfl, fun w hS => ?_⟩) HSD.out ?_
        · (go_simp)
        simp only [Act.put, List.setIfInBounds_toArray, List.set_cons_zero, List.set_cons_succ]
        have HBA := (show Hid (Below w.heap.size w (setN w5 (w.heap.size + 1) (.bool false) (.slice none 0 0) (.slice (some ⟨bk, fk, none⟩) P P) (.slice (some ⟨bd, fd, none⟩) M M))) from setN_below HBD.out (by omega) _ _ _ _)
        have HXA := (show Hid (Brow (setN w5 (w.heap.size + 1) (.bool false) (.slice none 0 0) (.slice (some ⟨bk, fk, none⟩) P P) (.slice (some ⟨bd, fd, none⟩) M M)) (w.heap.size + 1) [.bool false, .slice none 0 0, .slice (some ⟨bk, fk, none⟩) P P, .slice (some ⟨bd, fd, none⟩) M M] 26) from setN_row HXD.out _ _ _ _)
        have HYA := (show Hid (Brow (setN w5 (w.heap.size + 1) (.bool false) (.slice none 0 0) (.slice (some ⟨bk, fk, none⟩) P P) (.slice (some ⟨bd, fd, none⟩) M M)) (w.heap.size + 2) [.bool false, .slice none 0 0, .slice none 0 0, .slice none 0 0] 26) from setN_far HYD.out (by omega) _ _ _ _)
        have HNA := (show Hid ((fun W : World => Brow W w.heap.size [.bool false, .slice a1 cs.length c1, .slice (some ⟨bk, fk, none⟩) ks.length c2, .slice (some ⟨bd, fd, none⟩) ds.length c3] 26) (setN w5 (w.heap.size + 1) (.bool false) (.slice none 0 0) (.slice (some ⟨bk, fk, none⟩) P P) (.slice (some ⟨bd, fd, none⟩) M M))) from setN_far HSD.out (by omega) _ _ _ _)
        have hsA : w.heap.size + 3 ≤ (setN w5 (w.heap.size + 1) (.bool false) (.slice none 0 0) (.slice (some ⟨bk, fk, none⟩) P P) (.slice (some ⟨bd, fd, none⟩) M M)).heap.size := by rw [size_setN]; exact hsD
        have x0 := HXD.out.at 0 _ rfl
        have x1 := HXD.out.at 1 _ rfl
        have x2 := HXD.out.at 2 _ rfl
        have x3 := HXD.out.at 3 _ rfl
        have xz0 := HXD.out.fz 0
        have xz1 := HXD.out.fz 1
        have xz2 := HXD.out.fz 2
        have xz3 := HXD.out.fz 3
        unfold setN at HBA HXA HYA HNA hsA
        refine heldOne 13 (by kernel_rfl) rfl (by rfl) (fun KK hK => ?_)
        go_simp
        refine hK.out _ _ HNA.out ?_
        clear hK KK
        try simp only [Act.put, List.setIfInBounds_toArray, List.set_cons_zero, List.set_cons_succ]
        refine wpAnyH_done (by kernel_rfl) ?_ _
        clear x0 x1 x2 x3 xz0 xz1 xz2 xz3 HSD HXD HYD HBD hsD
        generalize ((((w5.setCell ⟨w.heap.size + 1, 0, none⟩ (.bool false)).setCell ⟨w.heap.size + 1, 1, none⟩ (.slice none 0 0)).setCell ⟨w.heap.size + 1, 2, none⟩ (.slice (some ⟨bk, fk, none⟩) P P)).setCell ⟨w.heap.size + 1, 3, none⟩ (.slice (some ⟨bd, fd, none⟩) M M)) = wA at *
        go_upto_region 5 with fail
        have HSD : Hid ((fun W : World => Brow W w.heap.size [.bool false, .slice a1 cs.length c1, .slice (some ⟨bk, fk, none⟩) ks.length c2, .slice (some ⟨bd, fd, none⟩) ds.length c3] 26) wA.drew) := HNA.out.drew
        refine wp_region_held_drew (S := (fun W : World => Brow W w.heap.size [.bool false, .slice a1 cs.length c1, .slice (some ⟨bk, fk, none⟩) ks.length c2, .slice (some ⟨bd, fd, none⟩) ds.length c3] 26)) (by kernel_rfl) HSD.out (fun _ => ?_)
        have HXD : Hid (Brow wA.drew (w.heap.size + 1) [.bool false, .slice none 0 0, .slice (some ⟨bk, fk, none⟩) P P, .slice (some ⟨bd, fd, none⟩) M M] 26) := HXA.out.drew
        have HYD : Hid (Brow wA.drew (w.heap.size + 2) [.bool false, .slice none 0 0, .slice none 0 0, .slice none 0 0] 26) := HYA.out.drew
        have HBD : Hid (Below w.heap.size w wA.drew) := HBA.out.drew
        have hsD : w.heap.size + 3 ≤ wA.drew.heap.size := hsA
        generalize wA.drew = w6 at *
        clear HNA HXA HYA HBA hsA
        refine heldTake 0 (some 34) (.pointer (some ⟨w.heap.size, 2, none⟩)) rfl rfl (by kernel_rfl) (by kernel_rfl) (by kernel_rfl) (fun _ _ _ h => h) (Or.inl ⟨by rfl, fun w hS => ?_⟩) HSD.out ?_
        · (go_simp)
        simp only [Act.put, List.setIfInBounds_toArray, List.set_cons_zero, List.set_cons_succ]
        refine heldTake 1 (some 35) (.slice (some ⟨bk, fk, none⟩) ks.length c2) rfl rfl (by kernel_rfl) (by kernel_rfl) (by kernel_rfl) (fun _ _ _ h => h) (Or.inl ⟨by rfl, fun w hS => ?_⟩) HSD.out ?_
        · (have q := hS.at 2 _ rfl; go_simp)
        simp only [Act.put, List.setIfInBounds_toArray, List.set_cons_zero, List.set_cons_succ]
        refine heldTake 2 (some 36) (.int .i64 (P : Int)) rfl rfl (by kernel_rfl) (by kernel_rfl) (by kernel_rfl) (fun _ _ _ h => h) (Or.inl ⟨by rfl, fun w hS => ?_⟩) HSD.out ?_
        · (go_simp)
        simp only [Act.put, List.setIfInBounds_toArray, List.set_cons_zero, List.set_cons_succ]
        refine heldTake 3 (some 37) (.int .i64 (M : Int)) rfl rfl (by kernel_rfl) (by kernel_rfl) (by kernel_rfl) (fun _ _ _ h => h) (Or.inl ⟨by rfl, fun w hS => ?_⟩) HSD.out ?_
        · (go_simp)
        simp only [Act.put, List.setIfInBounds_toArray, List.set_cons_zero, List.set_cons_succ]
        refine heldTake 4 (some 38) (.slice (some ⟨bk, fk + M, none⟩) (ks.length - M) (c2 - M)) rfl rfl (by kernel_rfl) (by kernel_rfl) (by kernel_rfl) (fun _ _ _ h => h) (Or.inl ⟨by rfl, fun w hS => ?_⟩) HSD.out ?_
        · (go_simp)
        simp only [Act.put, List.setIfInBounds_toArray, List.set_cons_zero, List.set_cons_succ]
        refine heldTake 5 (some 39) (.pointer (some ⟨w.heap.size, 3, none⟩)) rfl rfl (by kernel_rfl) (by kernel_rfl) (by kernel_rfl) (fun _ _ _ h => h) (Or.inl ⟨by rfl, fun w hS => ?_⟩) HSD.out ?_
        · (go_simp)
        simp only [Act.put, List.setIfInBounds_toArray, List.set_cons_zero, List.set_cons_succ]
        refine heldTake 6 (some 40) (.slice (some ⟨bd, fd, none⟩) ds.length c3) rfl rfl (by kernel_rfl) (by kernel_rfl) (by kernel_rfl) (fun _ _ _ h => h) (Or.inl ⟨by rfl, fun w hS => ?_⟩) HSD.out ?_
        · (have q := hS.at 3 _ rfl; go_simp)
        simp only [Act.put, List.setIfInBounds_toArray, List.set_cons_zero, List.set_cons_succ]
        refine heldTake 7 (some 41) (.int .i64 (P : Int)) rfl rfl (by kernel_rfl) (by kernel_rfl) (by kernel_rfl) (fun _ _ _ h => h) (Or.inl ⟨by rfl, fun w hS => ?_⟩) HSD.out ?_
        · (go_simp)
        simp only [Act.put, List.setIfInBounds_toArray, List.set_cons_zero, List.set_cons_succ]
        refine heldTake 8 (some 42) (.int .i64 (M : Int)) rfl rfl (by kernel_rfl) (by kernel_rfl) (by kernel_rfl) (fun _ _ _ h => h) (Or.inl ⟨by rfl, fun w hS => ?_⟩) HSD.out ?_
        · (go_simp)
        simp only [Act.put, List.setIfInBounds_toArray, List.set_cons_zero, List.set_cons_succ]
        refine heldTake 9 (some 43) (.slice (some ⟨bd, fd + M, none⟩) (ds.length - M) (c3 - M)) rfl rfl (by kernel_rfl) (by kernel_rfl) (by kernel_rfl) (fun _ _ _ h => h) (Or.inl ⟨by rfl, fun w hS => ?_⟩) HSD.out ?_
        · (go_simp)
        simp only [Act.put, List.setIfInBounds_toArray, List.set_cons_zero, List.set_cons_succ]
        refine heldTake 10 (some 44) (.agg #[.bool false, .slice none 0 0, .slice (some ⟨bk, fk + M, none⟩) (ks.length - M) (c2 - M), .slice (some ⟨bd, fd + M, none⟩) (ds.length - M) (c3 - M)]) rfl rfl (by kernel_rfl) (by kernel_rfl) (by kernel_rfl) (fun _ _ _ h => h) (Or.inl ⟨by rfl, fun w hS => ?_⟩) HSD.out ?_
        · (go_simp)
        simp only [Act.put, List.setIfInBounds_toArray, List.set_cons_zero, List.set_cons_succ]
        have HBB := (show Hid (Below w.heap.size w (setN w6 (w.heap.size + 2) (.bool false) (.slice none 0 0) (.slice (some ⟨bk, fk + M, none⟩) (ks.length - M) (c2 - M)) (.slice (some ⟨bd, fd + M, none⟩) (ds.length - M) (c3 - M)))) from setN_below HBD.out (by omega) _ _ _ _)
        have HXB := (show Hid (Brow (setN w6 (w.heap.size + 2) (.bool false) (.slice none 0 0) (.slice (some ⟨bk, fk + M, none⟩) (ks.length - M) (c2 - M)) (.slice (some ⟨bd, fd + M, none⟩) (ds.length - M) (c3 - M))) (w.heap.size + 1) [.bool false, .slice none 0 0, .slice (some ⟨bk, fk, none⟩) P P, .slice (some ⟨bd, fd, none⟩) M M] 26) from setN_far HXD.out (by omega) _ _ _ _)
        have HYB := (show Hid (Brow (setN w6 (w.heap.size + 2) (.bool false) (.slice none 0 0) (.slice (some ⟨bk, fk + M, none⟩) (ks.length - M) (c2 - M)) (.slice (some ⟨bd, fd + M, none⟩) (ds.length - M) (c3 - M))) (w.heap.size + 2) [.bool false, .slice none 0 0, .slice (some ⟨bk, fk + M, none⟩) (ks.length - M) (c2 - M), .slice (some ⟨bd, fd + M, none⟩) (ds.length - M) (c3 - M)] 26) from setN_row HYD.out _ _ _ _)
        have HNB := (show Hid ((fun W : World => Brow W w.heap.size [.bool false, .slice a1 cs.length c1, .slice (some ⟨bk, fk, none⟩) ks.length c2, .slice (some ⟨bd, fd, none⟩) ds.length c3] 26) (setN w6 (w.heap.size + 2) (.bool false) (.slice none 0 0) (.slice (some ⟨bk, fk + M, none⟩) (ks.length - M) (c2 - M)) (.slice (some ⟨bd, fd + M, none⟩) (ds.length - M) (c3 - M)))) from setN_far HSD.out (by omega) _ _ _ _)
        have hsB : w.heap.size + 3 ≤ (setN w6 (w.heap.size + 2) (.bool false) (.slice none 0 0) (.slice (some ⟨bk, fk + M, none⟩) (ks.length - M) (c2 - M)) (.slice (some ⟨bd, fd + M, none⟩) (ds.length - M) (c3 - M))).heap.size := by rw [size_setN]; exact hsD
        have y0 := HYD.out.at 0 _ rfl
        have y1 := HYD.out.at 1 _ rfl
        have y2 := HYD.out.at 2 _ rfl
        have y3 := HYD.out.at 3 _ rfl
        have yz0 := HYD.out.fz 0
        have yz1 := HYD.out.fz 1
        have yz2 := HYD.out.fz 2
        have yz3 := HYD.out.fz 3
        unfold setN at HBB HXB HYB HNB hsB
        refine heldOne 11 (by kernel_rfl) rfl (by rfl) (fun KK hK => ?_)
        go_simp
        refine hK.out _ _ HNB.out ?_
        clear hK KK
        try simp only [Act.put, List.setIfInBounds_toArray, List.set_cons_zero, List.set_cons_succ]
        refine wpAnyH_done (by kernel_rfl) ?_ _
        clear y0 y1 y2 y3 yz0 yz1 yz2 yz3 HSD HXD HYD HBD hsD
        generalize ((((w6.setCell ⟨w.heap.size + 2, 0, none⟩ (.bool false)).setCell ⟨w.heap.size + 2, 1, none⟩ (.slice none 0 0)).setCell ⟨w.heap.size + 2, 2, none⟩ (.slice (some ⟨bk, fk + M, none⟩) (ks.length - M) (c2 - M))).setCell ⟨w.heap.size + 2, 3, none⟩ (.slice (some ⟨bd, fd + M, none⟩) (ds.length - M) (c3 - M))) = wB at *
        have s2 := HNB.out.at 2 _ rfl
        have g0 := (HBB.out.cell (p := ⟨bk, fk + P, none⟩) hbk).trans HCA.out
        have HLi := (show Hid (Lies wB ⟨false, [], ks.take P, ds.take M⟩ ⟨none, 0, some ⟨bk, fk, none⟩, P, some ⟨bd, fd, none⟩, M⟩) from ⟨.inl rfl, by rw [kcells_take]; exact (HRW.out.1.below HBB.out).take _, by rw [icells_take]; exact (HRW.out.2.below HBB.out).take _, Nat.le_refl _, by rw [List.length_take]; exact Nat.min_le_left _ _, by rw [List.length_take]; exact Nat.min_le_left _ _, by show 0 ≤ 9223372036854775807; omega, by show P ≤ 9223372036854775807; omega, by show M ≤ 9223372036854775807; omega⟩)
        have HRi := (show Hid (Lies wB ⟨false, [], ks.drop M, ds.drop M⟩ ⟨none, 0, some ⟨bk, fk + M, none⟩, c2 - M, some ⟨bd, fd + M, none⟩, c3 - M⟩) from ⟨.inl rfl, by rw [kcells_drop]; exact (HRW.out.1.below HBB.out).drop _, by rw [icells_drop]; exact (HRW.out.2.below HBB.out).drop _, Nat.le_refl _, by rw [List.length_drop]; exact Nat.sub_le_sub_right hlc2 _, by rw [List.length_drop]; exact Nat.sub_le_sub_right hlc3 _, by show 0 ≤ 9223372036854775807; omega, by show c2 - M ≤ 9223372036854775807; omega, by show c3 - M ≤ 9223372036854775807; omega⟩)
        clear HRW HCA
        go_upto_region 13 with fail
        have HSD : Hid ((fun W : World => Brow W (w.heap.size + 1) [.bool false, .slice none 0 0, .slice (some ⟨bk, fk, none⟩) P P, .slice (some ⟨bd, fd, none⟩) M M] 26 ∧ Brow W (w.heap.size + 2) [.bool false, .slice none 0 0, .slice (some ⟨bk, fk + M, none⟩) (ks.length - M) (c2 - M), .slice (some ⟨bd, fd + M, none⟩) (ds.length - M) (c3 - M)] 26) wB.drew) := ⟨HXB.out.drew, HYB.out.drew⟩
        have HBD : Hid (Below w.heap.size w wB.drew) := HBB.out.drew
        have hsD : w.heap.size + 3 ≤ wB.drew.heap.size := hsB
        have HLD : Hid (Lies wB.drew ⟨false, [], ks.take P, ds.take M⟩ ⟨none, 0, some ⟨bk, fk, none⟩, P, some ⟨bd, fd, none⟩, M⟩) := HLi.out.below (Below.refl _ _).drew
        have HRD : Hid (Lies wB.drew ⟨false, [], ks.drop M, ds.drop M⟩ ⟨none, 0, some ⟨bk, fk + M, none⟩, c2 - M, some ⟨bd, fd + M, none⟩, c3 - M⟩) := HRi.out.below (Below.refl _ _).drew
        refine AnyL.begin (S := (fun W : World => Brow W (w.heap.size + 1) [.bool false, .slice none 0 0, .slice (some ⟨bk, fk, none⟩) P P, .slice (some ⟨bd, fd, none⟩) M M] 26 ∧ Brow W (w.heap.size + 2) [.bool false, .slice none 0 0, .slice (some ⟨bk, fk + M, none⟩) (ks.length - M) (c2 - M), .slice (some ⟨bd, fd + M, none⟩) (ds.length - M) (c3 - M)] 26)) (zs := [6, 7, 8, 9]) (by kernel_rfl) ?_
        generalize wB.drew = wd at *
        clear HXB HYB HBB HLi HRi
        have HO1 := own_any ⟨false, [], ks.take P, ds.take M⟩ ⟨none, 0, some ⟨bk, fk, none⟩, P, some ⟨bd, fd, none⟩, M⟩ wd HLD.out HFL.out
        have HO3 := fun (W : World) (h : Below wd.heap.size wd W) => own_any ⟨false, [], ks.drop M, ds.drop M⟩ ⟨none, 0, some ⟨bk, fk + M, none⟩, c2 - M, some ⟨bd, fd + M, none⟩, c3 - M⟩ W (HRD.out.below h) HFR.out
        have HCL := fun (W : World) => sclone_any xk W HKS.out
        unfold nv at HO1 HO3
        simp only [List.length_nil] at HO1 HO3
        clear HLD HRD
        have HE1 : Is (ks.take P).length P := ⟨by rw [List.length_take]; omega⟩
        have HE2 : Is (ks.drop M).length (ks.length - M) := ⟨by rw [List.length_drop]⟩
        have HE3 : Is (ds.take M).length M := ⟨by rw [List.length_take]; omega⟩
        have HE4 : Is (ds.drop M).length (ds.length - M) := ⟨by rw [List.length_drop]⟩
        rw [HE1.eq, HE3.eq] at HO1
        simp only [HE2.eq, HE4.eq] at HO3
        clear s2 g0 i0 i1 i2 i3 i4 i5 i6 i7 i8 iM iW f1 f2 HNB
        refine AnyL.take 0 (some 74) (v := (.agg #[.bool false, .slice none 0 0, .slice (some ⟨bk, fk, none⟩) P P, .slice (some ⟨bd, fd, none⟩) M M])) rfl rfl (by kernel_rfl) (by kernel_rfl) (by kernel_rfl) (by kernel_rfl) (by kernel_rfl) (fun _ _ _ h => h) (Or.inl ⟨by rfl, fun w hS => ?_⟩) HSD.out ?_
        · (have q0 := hS.1.at 0 _ rfl; have q1 := hS.1.at 1 _ rfl; have q2 := hS.1.at 2 _ rfl; have q3 := hS.1.at 3 _ rfl; go_simp)
        simp only [Act.put, List.setIfInBounds_toArray, List.set_cons_zero, List.set_cons_succ]
        refine AnyL.take 2 (some 76) (v := (.agg #[.bool false, .slice none 0 0, .slice (some ⟨bk, fk + M, none⟩) (ks.length - M) (c2 - M), .slice (some ⟨bd, fd + M, none⟩) (ds.length - M) (c3 - M)])) rfl rfl (by kernel_rfl) (by kernel_rfl) (by kernel_rfl) (by kernel_rfl) (by kernel_rfl) (fun _ _ _ h => h) (Or.inl ⟨by rfl, fun w hS => ?_⟩) HSD.out ?_
        · (have q0 := hS.2.at 0 _ rfl; have q1 := hS.2.at 1 _ rfl; have q2 := hS.2.at 2 _ rfl; have q3 := hS.2.at 3 _ rfl; go_simp)
        simp only [Act.put, List.setIfInBounds_toArray, List.set_cons_zero, List.set_cons_succ]
        refine AnyL.take 4 (some 78) (v := (.string xk)) rfl rfl (by kernel_rfl) (by kernel_rfl) (by kernel_rfl) (by kernel_rfl) (by kernel_rfl) (fun _ _ _ h => h) (Or.inl ⟨by rfl, fun w hS => ?_⟩) HSD.out ?_
        · (go_simp)
        simp only [Act.put, List.setIfInBounds_toArray, List.set_cons_zero, List.set_cons_succ]
        refine AnyL.one 1 (by kernel_rfl) rfl (by rfl) (fun KK hK => ?_)
        go_simp
        go_at_call 30
        refine HO1.mono ?_
        rintro e w5 ⟨⟨b1, k1, b2, k2, b3, k3⟩, rfl, hL5, hB5⟩
        have HS5 : Hid ((fun W : World => Brow W (w.heap.size + 1) [.bool false, .slice none 0 0, .slice (some ⟨bk, fk, none⟩) P P, .slice (some ⟨bd, fd, none⟩) M M] 26 ∧ Brow W (w.heap.size + 2) [.bool false, .slice none 0 0, .slice (some ⟨bk, fk + M, none⟩) (ks.length - M) (c2 - M), .slice (some ⟨bd, fd + M, none⟩) (ds.length - M) (c3 - M)] 26) w5) := ⟨HSD.out.1.below hB5 (by omega), HSD.out.2.below hB5 (by omega)⟩
        have HB5 : Hid (Below w.heap.size w w5) := HBD.out.trans (hB5.mono (by omega))
        have hs5 : w.heap.size + 3 ≤ w5.heap.size := Nat.le_trans hsD hB5.size
        have HL5 : Hid (LiesF w5 (w.heap.size + 3) ⟨false, [], ks.take P, ds.take M⟩ ⟨b1, k1, b2, k2, b3, k3⟩) := hL5.mono hsD
        have HO4 := HO3 w5 hB5
        clear hL5 hB5 HSD HBD HO1 HO3
        refine hK.out _ _ (fun _ => HS5.out) ?_
        clear hK KK
        try simp only
        refine AnyL.one 3 (by kernel_rfl) rfl (by rfl) (fun KK hK => ?_)
        go_simp
        go_at_call 30
        refine HO4.mono ?_
        rintro e w6 ⟨⟨d1, m1, d2, m2, d3, m3⟩, rfl, hL6, hB6⟩
        have HS6 : Hid ((fun W : World => Brow W (w.heap.size + 1) [.bool false, .slice none 0 0, .slice (some ⟨bk, fk, none⟩) P P, .slice (some ⟨bd, fd, none⟩) M M] 26 ∧ Brow W (w.heap.size + 2) [.bool false, .slice none 0 0, .slice (some ⟨bk, fk + M, none⟩) (ks.length - M) (c2 - M), .slice (some ⟨bd, fd + M, none⟩) (ds.length - M) (c3 - M)] 26) w6) := ⟨HS5.out.1.below hB6 (by omega), HS5.out.2.below hB6 (by omega)⟩
        have HB6 : Hid (Below w.heap.size w w6) := HB5.out.trans (hB6.mono (by omega))
        have hs6 : w.heap.size + 3 ≤ w6.heap.size := Nat.le_trans hs5 hB6.size
        have HL6 : Hid (LiesF w6 (w.heap.size + 3) ⟨false, [], ks.take P, ds.take M⟩ ⟨b1, k1, b2, k2, b3, k3⟩ ∧ LiesF w6 (w.heap.size + 3) ⟨false, [], ks.drop M, ds.drop M⟩ ⟨d1, m1, d2, m2, d3, m3⟩) := ⟨HL5.out.below hB6, hL6.mono hs5⟩
        clear hL6 hB6 HS5 HB5 HO4 HL5
        refine hK.out _ _ (fun _ => HS6.out) ?_
        clear hK KK
        try simp only
        refine AnyL.one 5 (by kernel_rfl) rfl (by rfl) (fun KK hK => ?_)
        go_simp
        go_at_call 34
        refine (HCL _).mono ?_
        rintro e w7 ⟨rfl, hB7⟩
        have HS7 : Hid ((fun W : World => Brow W (w.heap.size + 1) [.bool false, .slice none 0 0, .slice (some ⟨bk, fk, none⟩) P P, .slice (some ⟨bd, fd, none⟩) M M] 26 ∧ Brow W (w.heap.size + 2) [.bool false, .slice none 0 0, .slice (some ⟨bk, fk + M, none⟩) (ks.length - M) (c2 - M), .slice (some ⟨bd, fd + M, none⟩) (ds.length - M) (c3 - M)] 26) w7) := ⟨HS6.out.1.below hB7 (by omega), HS6.out.2.below hB7 (by omega)⟩
        have HB7 : Hid (Below w.heap.size w w7) := HB6.out.trans (hB7.mono (by omega))
        have HL7 : Hid (LiesF w7 (w.heap.size + 3) ⟨false, [], ks.take P, ds.take M⟩ ⟨b1, k1, b2, k2, b3, k3⟩ ∧ LiesF w7 (w.heap.size + 3) ⟨false, [], ks.drop M, ds.drop M⟩ ⟨d1, m1, d2, m2, d3, m3⟩) := ⟨HL6.out.1.below hB7, HL6.out.2.below hB7⟩
        clear hB7 HS6 HB6 HCL HL6
        refine hK.out _ _ (fun _ => HS7.out) ?_
        clear hK KK
        try simp only [Act.put, List.setIfInBounds_toArray, List.set_cons_zero, List.set_cons_succ]
        have HA1 := (show Hid (Brow (setN w7 (w.heap.size + 1) (.bool false) (.slice b1 0 k1) (.slice b2 P k2) (.slice b3 M k3)) (w.heap.size + 1) [.bool false, .slice b1 0 k1, .slice b2 P k2, .slice b3 M k3] 26) from setN_row HS7.out.1 _ _ _ _)
        have HA2 := (show Hid (Brow (setN w7 (w.heap.size + 1) (.bool false) (.slice b1 0 k1) (.slice b2 P k2) (.slice b3 M k3)) (w.heap.size + 2) [.bool false, .slice none 0 0, .slice (some ⟨bk, fk + M, none⟩) (ks.length - M) (c2 - M), .slice (some ⟨bd, fd + M, none⟩) (ds.length - M) (c3 - M)] 26) from setN_far HS7.out.2 (by omega) _ _ _ _)
        have HAB := (show Hid (Below w.heap.size w (setN w7 (w.heap.size + 1) (.bool false) (.slice b1 0 k1) (.slice b2 P k2) (.slice b3 M k3))) from setN_below HB7.out (by omega) _ _ _ _)
        have HAL := (show Hid (LiesF (setN w7 (w.heap.size + 1) (.bool false) (.slice b1 0 k1) (.slice b2 P k2) (.slice b3 M k3)) (w.heap.size + 3) ⟨false, [], ks.take P, ds.take M⟩ ⟨b1, k1, b2, k2, b3, k3⟩ ∧ LiesF (setN w7 (w.heap.size + 1) (.bool false) (.slice b1 0 k1) (.slice b2 P k2) (.slice b3 M k3)) (w.heap.size + 3) ⟨false, [], ks.drop M, ds.drop M⟩ ⟨d1, m1, d2, m2, d3, m3⟩) from ⟨setN_lies HL7.out.1 (by omega) _ _ _ _, setN_lies HL7.out.2 (by omega) _ _ _ _⟩)
        have x0 := HS7.out.1.at 0 _ rfl
        have xz0 := HS7.out.1.fz 0
        have x1 := HS7.out.1.at 1 _ rfl
        have xz1 := HS7.out.1.fz 1
        have x2 := HS7.out.1.at 2 _ rfl
        have xz2 := HS7.out.1.fz 2
        have x3 := HS7.out.1.at 3 _ rfl
        have xz3 := HS7.out.1.fz 3
        unfold setN at HA1 HA2 HAB HAL
        refine AnyL.one 6 (by kernel_rfl) rfl (by rfl) (fun KK hK => ?_)
        go_simp
        refine hK.out _ _ (fun h => absurd h (by decide)) ?_
        clear hK KK
        try simp only [Act.put, List.setIfInBounds_toArray, List.set_cons_zero, List.set_cons_succ]
        clear x0 x1 x2 x3 xz0 xz1 xz2 xz3 HS7 HB7 HL7
        generalize ((((w7.setCell ⟨w.heap.size + 1, 0, none⟩ (.bool false)).setCell ⟨w.heap.size + 1, 1, none⟩ (.slice b1 0 k1)).setCell ⟨w.heap.size + 1, 2, none⟩ (.slice b2 P k2)).setCell ⟨w.heap.size + 1, 3, none⟩ (.slice b3 M k3)) = w8 at *
        have HR1 := (show Hid (Brow (setN w8 (w.heap.size + 2) (.bool false) (.slice d1 0 m1) (.slice d2 (ks.length - M) m2) (.slice d3 (ds.length - M) m3)) (w.heap.size + 1) [.bool false, .slice b1 0 k1, .slice b2 P k2, .slice b3 M k3] 26) from setN_far HA1.out (by omega) _ _ _ _)
        have HR2 := (show Hid (Brow (setN w8 (w.heap.size + 2) (.bool false) (.slice d1 0 m1) (.slice d2 (ks.length - M) m2) (.slice d3 (ds.length - M) m3)) (w.heap.size + 2) [.bool false, .slice d1 0 m1, .slice d2 (ks.length - M) m2, .slice d3 (ds.length - M) m3] 26) from setN_row HA2.out _ _ _ _)
        have HRB := (show Hid (Below w.heap.size w (setN w8 (w.heap.size + 2) (.bool false) (.slice d1 0 m1) (.slice d2 (ks.length - M) m2) (.slice d3 (ds.length - M) m3))) from setN_below HAB.out (by omega) _ _ _ _)
        have HRL := (show Hid (LiesF (setN w8 (w.heap.size + 2) (.bool false) (.slice d1 0 m1) (.slice d2 (ks.length - M) m2) (.slice d3 (ds.length - M) m3)) w.heap.size ⟨false, [], ks.take P, ds.take M⟩ ⟨b1, k1, b2, k2, b3, k3⟩ ∧ LiesF (setN w8 (w.heap.size + 2) (.bool false) (.slice d1 0 m1) (.slice d2 (ks.length - M) m2) (.slice d3 (ds.length - M) m3)) w.heap.size ⟨false, [], ks.drop M, ds.drop M⟩ ⟨d1, m1, d2, m2, d3, m3⟩) from ⟨(setN_lies HAL.out.1 (by omega) _ _ _ _).mono (by omega), (setN_lies HAL.out.2 (by omega) _ _ _ _).mono (by omega)⟩)
        have y0 := HA2.out.at 0 _ rfl
        have yz0 := HA2.out.fz 0
        have y1 := HA2.out.at 1 _ rfl
        have yz1 := HA2.out.fz 1
        have y2 := HA2.out.at 2 _ rfl
        have yz2 := HA2.out.fz 2
        have y3 := HA2.out.at 3 _ rfl
        have yz3 := HA2.out.fz 3
        unfold setN at HR1 HR2 HRB HRL
        refine AnyL.one 7 (by kernel_rfl) rfl (by rfl) (fun KK hK => ?_)
        go_simp
        refine hK.out _ _ (fun h => absurd h (by decide)) ?_
        clear hK KK
        try simp only [Act.put, List.setIfInBounds_toArray, List.set_cons_zero, List.set_cons_succ]
        clear y0 y1 y2 y3 yz0 yz1 yz2 yz3 HA1 HA2 HAB HAL
        generalize ((((w8.setCell ⟨w.heap.size + 2, 0, none⟩ (.bool false)).setCell ⟨w.heap.size + 2, 1, none⟩ (.slice d1 0 m1)).setCell ⟨w.heap.size + 2, 2, none⟩ (.slice d2 (ks.length - M) m2)).setCell ⟨w.heap.size + 2, 3, none⟩ (.slice d3 (ds.length - M) m3)) = w9 at *
        refine AnyL.one 8 (by kernel_rfl) rfl (by rfl) (fun KK hK => ?_)
        go_simp
        refine hK.out _ _ (fun h => absurd h (by decide)) ?_
        clear hK KK
        try simp only [Act.put, List.setIfInBounds_toArray, List.set_cons_zero, List.set_cons_succ]
        refine AnyL.one 9 (by kernel_rfl) rfl (by rfl) (fun KK hK => ?_)
        go_simp
        refine hK.out _ _ (fun h => absurd h (by decide)) ?_
        clear hK KK
        try simp only [Act.put, List.setIfInBounds_toArray, List.set_cons_zero, List.set_cons_succ]
        refine AnyL.done (by kernel_rfl) ?_
        go_wp2
        refine bodyPost_ret (res_cctt rfl _ _ (w.heap.size + 1) (w.heap.size + 2) 26 _ _ _ rfl HR1.out rfl HR2.out Try.underlying26 rfl (by kernel_rfl) (by kernel_rfl)) rfl ?_
        exact HYL2.out _ _ ⟨b1, k1, b2, k2, b3, k3⟩ ⟨d1, m1, d2, m2, d3, m3⟩ xk HO2.out trivial rfl (by simp only [HE1.eq, HE2.eq, HE3.eq, HE4.eq, List.length_nil]; try rfl) HRL.out.1 HRL.out.2 HRB.out
    · have HO2 : Hid (ok = false) := by show _ = _; rw [HOK.eq, decide_eq_false hP]; rfl
      rw [decide_eq_false hP]
      clear HYL HYB HKD HOK hP HLT HZL hc1 hc2
      have HR1 := (show Hid (Brow (setN (setN w4 (w.heap.size + 1) (.bool false) (.slice none 0 0) (.slice none 0 0) (.slice none 0 0)) (w.heap.size + 2) (.bool false) (.slice none 0 0) (.slice none 0 0) (.slice none 0 0)) (w.heap.size + 1) [.bool false, .slice none 0 0, .slice none 0 0, .slice none 0 0] 26) from setN_far (setN_row HX4.out _ _ _ _) (by omega) _ _ _ _)
      have HR2 := (show Hid (Brow (setN (setN w4 (w.heap.size + 1) (.bool false) (.slice none 0 0) (.slice none 0 0) (.slice none 0 0)) (w.heap.size + 2) (.bool false) (.slice none 0 0) (.slice none 0 0) (.slice none 0 0)) (w.heap.size + 2) [.bool false, .slice none 0 0, .slice none 0 0, .slice none 0 0] 26) from setN_row (setN_far HY4.out (by omega) _ _ _ _) _ _ _ _)
      have HRB := (show Hid (Below w.heap.size w (setN (setN w4 (w.heap.size + 1) (.bool false) (.slice none 0 0) (.slice none 0 0) (.slice none 0 0)) (w.heap.size + 2) (.bool false) (.slice none 0 0) (.slice none 0 0) (.slice none 0 0))) from setN_below (setN_below HB4.out (by omega) _ _ _ _) (by omega) _ _ _ _)
      have HY' := (show Hid (Brow (setN w4 (w.heap.size + 1) (.bool false) (.slice none 0 0) (.slice none 0 0) (.slice none 0 0)) (w.heap.size + 2) [.bool false, .slice none 0 0, .slice none 0 0, .slice none 0 0] 26) from setN_far HY4.out (by omega) _ _ _ _)
      have x0 := HX4.out.at 0 _ rfl
      have xz0 := HX4.out.fz 0
      have y0 := HY'.out.at 0 _ rfl
      have yz0 := HY'.out.fz 0
      have x1 := HX4.out.at 1 _ rfl
      have xz1 := HX4.out.fz 1
      have y1 := HY'.out.at 1 _ rfl
      have yz1 := HY'.out.fz 1
      have x2 := HX4.out.at 2 _ rfl
      have xz2 := HX4.out.fz 2
      have y2 := HY'.out.at 2 _ rfl
      have yz2 := HY'.out.fz 2
      have x3 := HX4.out.at 3 _ rfl
      have xz3 := HX4.out.fz 3
      have y3 := HY'.out.at 3 _ rfl
      have yz3 := HY'.out.fz 3
      unfold setN at *
      go_wp2
      refine bodyPost_ret (res_cctt rfl _ _ (w.heap.size + 1) (w.heap.size + 2) 26 _ _ _ rfl HR1.out rfl HR2.out Try.underlying26 rfl (by kernel_rfl) (by kernel_rfl)) rfl ?_
      exact HNO.out _ _ HO2.out rfl HRB.out
end Go.Proofs.Ytoinaplmgffkpaa
