/- Proved: the document's reading of a text of a digest is the program's. -/
import Derived.Test.YtaeeibllmpaebaaDoorUnhex
import Derived.Test.YtaeeibllmpaebaaDoorPlays
namespace Go.Proofs.YtaeeibllmpaebaaDoor
open Go.RowKit
theorem dig_dval : ∀ x : Nat, x < 256 → ∀ k : Nat, k < 16 → (Bl.dig k = x ↔ dval x = k) := by decide +kernel
/- the digit that was found among the first k, or -1 -/
def found (x k : Nat) : Int := if dval x < k then (dval x : Int) else -1
theorem found_zero (x : Nat) : found x 0 = -1 := by unfold found; rw [if_neg (by omega)]
theorem found_hit (x k : Nat) (h : dval x = k) : found x (k + 1) = (k : Int) := by unfold found; rw [if_pos (by omega), h]
theorem found_miss (x k : Nat) (h : dval x ≠ k) : found x (k + 1) = found x k := by
  unfold found
  by_cases h1 : dval x < k
  · rw [if_pos h1, if_pos (by omega)]
  · rw [if_neg h1, if_neg (by omega)]
theorem found_yes (x : Nat) (h : dval x < 16) : found x 16 = (dval x : Int) := by unfold found; rw [if_pos h]
theorem found_no (x : Nat) (h : ¬ dval x < 16) : found x 16 = -1 := by unfold found; rw [if_neg h]
theorem dig_hit {x k : Nat} (hx : x < 256) (hk : k < 16) (h : dval x = k) : ((Bl.dig k : Int) == (x : Int)) = true := by
  have := (dig_dval x hx k hk).2 h
  simp [this]
theorem dig_miss {x k : Nat} (hx : x < 256) (hk : k < 16) (h : dval x ≠ k) : ((Bl.dig k : Int) == (x : Int)) = false := by
  have h1 : Bl.dig k ≠ x := fun e => h ((dig_dval x hx k hk).1 e)
  rw [beq_eq_false_iff_ne]
  omega
theorem unhex_take (l : List Nat) (t : Nat) (ht : t < 32) : (unhex l).take (t + 1) = (unhex l).take t ++ [pair l t] := by
  rw [List.take_succ_eq_append_getElem (by rw [unhex_length]; exact ht)]
  congr 2
  have e := unhex_at l t ht
  rw [List.getD_eq_getElem?_getD, List.getElem?_eq_getElem (by rw [unhex_length]; exact ht), Option.getD_some] at e
  exact e
theorem one_new8' (w : World) {z : Int} {n : Nat} (hz : z = (n : Int)) : ∀ j u, ([n].map V8)[j]? = some u → (w.alloc (.cells #[.int .u8 z] 5)).cell? ((⟨w.heap.size, 0, none⟩ : Addr).add j) = some u := by
  subst hz
  intro j u hj
  rw [Addr.add_mid, cell_of_row _ _ (0 + j) _ 5 (0, 0) (heap_alloc_new w _), Nat.zero_add]
  show ([n].map V8).toArray[j]? = some u
  rw [List.getElem?_toArray]; exact hj
theorem runhex_short (l : List Nat) (w : World) (hl : l.length ≠ 64) :
    Calls Tryd.prog 21 #[.string (Bl.toBytes l)] w fun e w' => e = .returned (.tuple #[.slice none 0 0, .int .i64 5]) ∧ Below w.heap.size w w' := by
  have hsz : (Bl.toBytes l).size = l.length := bytes_size l
  have hne : ¬ ((l.length : Int) = 64) := by omega
  generalize Bl.toBytes l = s at *
  generalize l.length = n at *
  go_enter Tryd.func21, Tryd.ntmps21
  go_wp2
  go_ret2
  exact ⟨rfl, Below.refl _ _⟩
set_option maxHeartbeats 2000000 in
set_option maxRecDepth 20000 in
theorem runhex_any (l : List Nat) (w : World) (h8 : ∀ x ∈ l, x < 256) (hl : l.length = 64) :
    Calls Tryd.prog 21 #[.string (Bl.toBytes l)] w fun e w' => Below w.heap.size w w' ∧ ((∃ g cap, e = .returned (.tuple #[.slice (some ⟨g, 0, none⟩) 32 cap, .int .i64 0]) ∧ Mine w' w.heap.size (some ⟨g, 0, none⟩) 32 cap (unhex l) ∧ Good l) ∨ (e = .returned (.tuple #[.slice none 0 0, .int .i64 5]) ∧ ∃ j, j < 64 ∧ dval (l.getD j 0) = 16)) := by
  have hsz : (Bl.toBytes l).size = 64 := by rw [bytes_size, hl]
  have H8 : Hid (∀ x ∈ l, x < 256) := h8
  have HLN : Hid (l.length = 64) := hl
  have HGET : Hid (∀ i (h : i < (Bl.toBytes l).size), ((Bl.toBytes l)[i]'h).toNat = l.getD i 0) := bytes_get l h8
  clear h8 hl
  generalize Bl.toBytes l = s at *
  go_enter Tryd.func21, Tryd.ntmps21
  go_wp2_with fail
  go_loopw [4, 5] (fun s4 s5 wr => ∃ t i : Nat, i = 2 * t ∧ t ≤ 32 ∧ s5 = .int .i64 i ∧ (∀ j, j < i → dval (l.getD j 0) < 16) ∧ wr.ownsRow w.heap.size 5 1 s4 t (((unhex l).take t).map V8) ∧ Below w.heap.size w wr) (fun _ s5 _ => 64 - (intOf s5).toNat)
  case atStart => exact ⟨0, 0, rfl, by omega, rfl, fun j hj => by omega, ⟨rfl, .inl ⟨rfl, rfl⟩⟩, Below.refl _ _⟩
  case round =>
    obtain ⟨t, i, hit, ht, rfl, hgd, hO, hB⟩ := hrel
    have HIT : Is i (2 * t) := ⟨hit⟩
    have HGD : Hid (∀ j, j < i → dval (l.getD j 0) < 16) := hgd
    have hO' := (show Hid (wr.ownsRow w.heap.size 5 1 _ t (((unhex l).take t).map V8)) from hO)
    have HB : Hid (Below w.heap.size w wr) := hB
    have hszw := hB.size
    by_cases hlt : t < 32
    · have i64 : (i : Int) < 64 := by omega
      have j64 : (0 : Int) ≤ (i : Int) := Int.natCast_nonneg _
      obtain ⟨i3, hi3⟩ : ∃ i3, i3 = i + 1 := ⟨_, rfl⟩
      have e3 : (i : Int) + 1 = (i3 : Int) := by omega
      have w3 := wrap64 i3 (by omega)
      have i3' : (i3 : Int) < 64 := by omega
      have j3' : (0 : Int) ≤ (i3 : Int) := Int.natCast_nonneg _
      have n2 : i < s.size := by omega
      have n3 : i3 < s.size := by omega
      have g2 := HGET.out i n2
      have g3 := HGET.out i3 n3
      have x8 : l.getD i 0 < 256 := by rw [List.getD_eq_getElem?_getD, List.getElem?_eq_getElem (by rw [HLN.out]; omega)]; exact H8.out _ (List.getElem_mem _)
      have y8 : l.getD i3 0 < 256 := by rw [List.getD_eq_getElem?_getD, List.getElem?_eq_getElem (by rw [HLN.out]; omega)]; exact H8.out _ (List.getElem_mem _)
      have HPR : Is (pair l t) (dval (l.getD i 0) * 16 + dval (l.getD i3 0)) := ⟨by rw [hi3, hit]; rfl⟩
      have HX : Is (l.getD i 0) (l.getD i 0) := ⟨rfl⟩
      have HBADX : Hid (¬ dval (l.getD i 0) < 16 → ∃ j, j < 64 ∧ dval (l.getD j 0) = 16) := fun h => ⟨i, by omega, by have := dval_le (l.getD i 0); omega⟩
      have HBADY : Hid (¬ dval (l.getD i3 0) < 16 → ∃ j, j < 64 ∧ dval (l.getD j 0) = 16) := fun h => ⟨i3, by omega, by have := dval_le (l.getD i3 0); omega⟩
      have HNX : Hid (dval (l.getD i 0) < 16 → dval (l.getD i3 0) < 16 → ∀ j, j < i + 2 → dval (l.getD j 0) < 16) := fun h1 h2 j hj => by
        by_cases c1 : j = i
        · rw [c1]; exact h1
        · by_cases c2 : j = i3
          · rw [c2]; exact h2
          · exact HGD.out j (by omega)
      clear hit hi3 hgd hO hB HX
      generalize l.getD i 0 = x at *
      generalize l.getD i3 0 = y at *
      rename World => w1
      go_wp2_with fail
      go_loopw [6, 7, 8] (fun s6 s7 s8 wq => ∃ k : Nat, k ≤ 16 ∧ s8 = .int .i64 k ∧ s6 = .int .i64 (found x k) ∧ s7 = .int .i64 (found y k) ∧ Below w1.heap.size w1 wq) (fun _ _ s8 _ => 16 - (intOf s8).toNat)
      case atStart => exact ⟨0, by omega, rfl, by rw [found_zero], by rw [found_zero], Below.refl _ _⟩
      case round =>
        obtain ⟨k, hk, rfl, rfl, rfl, hBq⟩ := hrel
        by_cases hlt16 : k < 16
        · have gd := digs_at k hlt16 (by exact hlt16)
          have k16 : (k : Int) < 16 := by omega
          have k0 : (0 : Int) ≤ (k : Int) := Int.natCast_nonneg _
          have HBq : Hid (Below w1.heap.size w1 wr) := hBq
          clear hBq
          by_cases hx : dval x = k
          · by_cases hy : dval y = k
            · have bx := dig_hit x8 hlt16 hx
              have byy := dig_hit y8 hlt16 hy
              have FX : Is (found x (k + 1)) (k : Int) := ⟨found_hit x k hx⟩
              have FY : Is (found y (k + 1)) (k : Int) := ⟨found_hit y k hy⟩
              clear hx hy
              generalize found x k = fx at *
              generalize found y k = fy at *
              go_wp2_with fail
              go_region
              go_wp2_with fail
              go_region
              go_wp2_with fail
              go_roundw
              case rel => exact ⟨k + 1, by omega, by go_num, by rw [FX.eq], by rw [FY.eq], HBq.out.drew.drew⟩
              case measure => (simp [intOf]) <;> omega
            · have bx := dig_hit x8 hlt16 hx
              have byy := dig_miss y8 hlt16 hy
              have FX : Is (found x (k + 1)) (k : Int) := ⟨found_hit x k hx⟩
              have FY : Is (found y (k + 1)) (found y k) := ⟨found_miss y k hy⟩
              clear hx hy
              generalize found x k = fx at *
              generalize found y k = fy at *
              go_wp2_with fail
              go_region
              go_wp2_with fail
              go_region
              go_wp2_with fail
              go_roundw
              case rel => exact ⟨k + 1, by omega, by go_num, by rw [FX.eq], by rw [FY.eq], HBq.out.drew.drew⟩
              case measure => (simp [intOf]) <;> omega
          · by_cases hy : dval y = k
            · have bx := dig_miss x8 hlt16 hx
              have byy := dig_hit y8 hlt16 hy
              have FX : Is (found x (k + 1)) (found x k) := ⟨found_miss x k hx⟩
              have FY : Is (found y (k + 1)) (k : Int) := ⟨found_hit y k hy⟩
              clear hx hy
              generalize found x k = fx at *
              generalize found y k = fy at *
              go_wp2_with fail
              go_region
              go_wp2_with fail
              go_region
              go_wp2_with fail
              go_roundw
              case rel => exact ⟨k + 1, by omega, by go_num, by rw [FX.eq], by rw [FY.eq], HBq.out.drew.drew⟩
              case measure => (simp [intOf]) <;> omega
            · have bx := dig_miss x8 hlt16 hx
              have byy := dig_miss y8 hlt16 hy
              have FX : Is (found x (k + 1)) (found x k) := ⟨found_miss x k hx⟩
              have FY : Is (found y (k + 1)) (found y k) := ⟨found_miss y k hy⟩
              clear hx hy
              generalize found x k = fx at *
              generalize found y k = fy at *
              go_wp2_with fail
              go_region
              go_wp2_with fail
              go_region
              go_wp2_with fail
              go_roundw
              case rel => exact ⟨k + 1, by omega, by go_num, by rw [FX.eq], by rw [FY.eq], HBq.out.drew.drew⟩
              case measure => (simp [intOf]) <;> omega
        · have hk16 : k = 16 := by omega
          subst hk16
          clear hlt16
          have hszq := hBq.size
          by_cases hx : dval x < 16
          · have fx := found_yes x hx
            by_cases hy : dval y < 16
            · have fy := found_yes y hy
              rw [fx, fy]
              have HNXT : Hid (∀ j, j < i + 2 → dval (l.getD j 0) < 16) := HNX.out hx hy
              have HOq := (show Hid (wr.ownsRow w.heap.size 5 1 _ t (((unhex l).take t).map V8)) from owns8_below hO'.out hBq rfl)
              have HBq : Hid (Below w1.heap.size w1 wr) := hBq
              have hnx : ¬ ((dval x : Int) < 0) := by omega
              have hny : ¬ ((dval y : Int) < 0) := by omega
              have hpl : pair l t < 256 := by rw [HPR.eq]; omega
              have HPZ : Is (16 * (dval x : Int) + (dval y : Int)) ((pair l t : Nat) : Int) := ⟨by rw [HPR.eq]; omega⟩
              clear HBADX HBADY HNX fx fy hBq
              generalize dval x = p at *
              generalize dval y = q at *
              go_wp2_with (first | (refine append_bytes rfl (.tmp 41) (.tmp 47) rfl _ w.heap.size _ t _ rfl (owns8_alloc HOq.out _) ⟨wr.heap.size, 0, none⟩ 1 1 [pair l t] rfl rfl (one_new8' wr HPZ.eq) (by omega) (by rw [World.size_alloc']; omega) ?_; intro v' w' hO2 hB2))
              rw [← unhex_take l t hlt] at hO2
              have HF : ∃ t' i' : Nat, i' = 2 * t' ∧ t' ≤ 32 ∧ Value.int .i64 ((i : Int) + 2) = .int .i64 i' ∧ (∀ j, j < i' → dval (l.getD j 0) < 16) ∧ w'.ownsRow w.heap.size 5 1 v' t' (((unhex l).take t').map V8) ∧ Below w.heap.size w w' := ⟨t + 1, i + 2, by have := HIT.eq; omega, by omega, by go_num, HNXT.out, hO2, HB.out.trans ((HBq.out.mono hszw).trans ((((Below.refl _ wr).alloc (Nat.le_refl _) _).mono (by omega)).trans hB2))⟩
              go_wp2_with fail
              go_roundw
              case rel => first | exact HF | ((repeat apply Exists.intro); exact ⟨HF, rfl⟩)
              case measure => (simp [intOf]) <;> omega
            · have fy := found_no y hy
              rw [fx, fy]
              have HE := HBADY.out hy
              have HE' : Hid (∃ j, j < 64 ∧ dval (l.getD j 0) = 16) := HE
              have HBq : Hid (Below w1.heap.size w1 wr) := hBq
              have hnx : ¬ ((dval x : Int) < 0) := by omega
              clear HE HBADX HBADY HNX fx fy hBq HPR hx
              generalize dval x = p at *
              go_wp2
              go_ret2
              exact ⟨HB.out.trans (HBq.out.mono hszw), .inr ⟨rfl, HE'.out⟩⟩
          · have fx := found_no x hx
            rw [fx]
            have HE' : Hid (∃ j, j < 64 ∧ dval (l.getD j 0) = 16) := HBADX.out hx
            have HBq : Hid (Below w1.heap.size w1 wr) := hBq
            clear HBADX HBADY HNX fx hBq HPR
            generalize found y 16 = fy at *
            go_wp2
            go_ret2
            exact ⟨HB.out.trans (HBq.out.mono hszw), .inr ⟨rfl, HE'.out⟩⟩
    · have ht32 : t = 32 := by omega
      have hi64 : i = 64 := by omega
      subst hi64
      subst ht32
      rw [List.take_of_length_le (by rw [unhex_length]; omega)] at hO'
      obtain ⟨go, capo, rfl, hMo⟩ := own_bytes hO'.out (fun x hx => by
        obtain ⟨k, hk, rfl⟩ := List.mem_map.1 hx
        have h1 := HGD.out (2 * k) (by have := List.mem_range.1 hk; omega)
        have h2 := HGD.out (2 * k + 1) (by have := List.mem_range.1 hk; omega)
        unfold pair; omega) (by omega)
      have HM : Hid (Mine wr w.heap.size (some ⟨go, 0, none⟩) 32 capo (unhex l)) := hMo
      clear hMo hO hO' hgd hB
      go_wp2
      go_ret2
      exact ⟨HB.out, .inl ⟨go, capo, rfl, HM.out, ⟨HLN.out, fun j hj => HGD.out j hj⟩⟩⟩
end Go.Proofs.YtaeeibllmpaebaaDoor
