/- Proved: the document's name and Kind answer as the program's own. -/
import Derived.Test.YtbcmgcallidneaaGreatDoorRName
namespace Go.Proofs.YtbcmgcallidneaaGreatDoor
open Go.RowKit
/- what has been seen of a name without a fault -/
structure FineTo (l : Pm.T) (k : Nat) : Prop where
  each : ∀ c ∈ l.take k, Pm.sign c = true ∨ c = 46
  first : 0 < k → ∀ t, l ≠ 46 :: t
  last : k = l.length → ∀ t, l ≠ t ++ [46]
theorem fine_all {l : Pm.T} (h : FineTo l l.length) : Fine l := by
  refine ⟨fun c hc => h.each c (by rw [List.take_length]; exact hc), fun t e => ?_, h.last rfl⟩
  have : 0 < l.length := by rw [e]; simp
  exact h.first this t e
theorem fine_next {l : Pm.T} {k : Nat} {c : UInt8} (h : FineTo l k) (hc : l[k]? = some c) (hs : Pm.sign c = true ∨ (c = 46 ∧ k ≠ 0 ∧ k ≠ l.length - 1)) : FineTo l (k + 1) := by
  have hk : k < l.length := (List.getElem?_eq_some_iff.1 hc).1
  refine ⟨fun d hd => ?_, fun _ t e => ?_, fun hk1 t e => ?_⟩
  · rw [List.take_add_one, hc] at hd
    rcases List.mem_append.1 hd with hd | hd
    · exact h.each d hd
    · rw [show d = c by simpa using hd]
      rcases hs with hs | hs
      · exact .inl hs
      · exact .inr hs.1
  · by_cases h0 : k = 0
    · subst h0
      rw [e] at hc
      have : (46 : UInt8) = c := by simpa using hc
      subst this
      rcases hs with hs | hs
      · rw [Pm.sign_dot] at hs; cases hs
      · exact hs.2.1 rfl
    · exact h.first (by omega) t e
  · have hl : k = t.length := by rw [e] at hk1; simp at hk1; omega
    rw [e, hl, List.getElem?_append_right (Nat.le_refl _), Nat.sub_self] at hc
    have : (46 : UInt8) = c := by simpa using hc
    subst this
    rcases hs with hs | hs
    · rw [Pm.sign_dot] at hs; cases hs
    · exact hs.2.2 (by omega)
theorem count_next {l : Pm.T} {k : Nat} {c : UInt8} (hc : l[k]? = some c) : (l.take (k + 1)).count 46 = (l.take k).count 46 + if c = 46 then 1 else 0 := by
  rw [List.take_add_one, hc, List.count_append]
  congr 1
  by_cases h : c = 46
  · subst h; rfl
  · rw [if_neg h]; simp [h]
theorem dot_at_end {l : Pm.T} {k : Nat} (hc : l[k]? = some 46) (h : k = 0 ∨ k = l.length - 1) : Pm.nk l = 0 := by
  have hk : k < l.length := (List.getElem?_eq_some_iff.1 hc).1
  rcases h with rfl | h
  · cases l with
    | nil => simp at hk
    | cons d l =>
      have : d = 46 := by simpa using hc
      rw [this]; exact nk_first l
  · have hne : l ≠ [] := by rintro rfl; simp at hk
    have e : l.getLast hne = 46 := by
      rw [List.getLast_eq_getElem]
      rw [h, List.getElem?_eq_getElem (by omega)] at hc
      exact Option.some.inj hc
    rw [← List.dropLast_concat_getLast hne, e]
    exact nk_end _
set_option maxHeartbeats 2000000 in
set_option maxRecDepth 20000 in
theorem rname_any (s : ByteArray) (w : World) (hs : s.size < 4294967281) :
    Calls Tryz.prog 60 #[.string s] w fun e w' => e = .returned (.int .i64 (Pm.nk (bl s) : Nat)) ∧ w' = w := by
  go_enter Tryz.func60, Tryz.ntmps60
  go_wp2_with fail
  go_loopw [3, 4] (fun s3 s4 wr => ∃ k : Nat, k ≤ s.size ∧ s4 = .int .i64 k ∧ s3 = .int .i64 (((bl s).take k).count 46 : Nat) ∧ FineTo (bl s) k ∧ wr = w) (fun _ s4 _ => s.size - (intOf s4).toNat)
  case atStart => exact ⟨0, by omega, rfl, rfl, ⟨by simp, fun h => by omega, fun h t e => by rw [e] at h; simp at h⟩, rfl⟩
  case round =>
    obtain ⟨k, hk, rfl, rfl, hf, rfl⟩ := hrel
    have HF : Hid (FineTo (bl s) k) := hf
    have hcl : ((bl s).take k).count 46 ≤ k := by
      have := List.count_le_length (a := (46 : UInt8)) (l := (bl s).take k)
      rw [List.length_take] at this; omega
    have hbl := bl_length s
    clear hf
    by_cases hlt : k < s.size
    · have i0 : (k : Int) < (s.size : Int) := by omega
      have j0 : (0 : Int) ≤ (k : Int) := Int.natCast_nonneg _
      have HG : Is ((bl s)[k]?) (some (s[k]'hlt)) := ⟨bl_get s k hlt⟩
      obtain ⟨b, hb⟩ : ∃ b, s[k]'hlt = b := ⟨_, rfl⟩
      have gb : (s[k]'hlt).toNat = b.toNat := by rw [hb]
      rw [hb] at HG
      have HCN := (show Is _ _ from ⟨count_next (l := bl s) HG.eq⟩)
      have RS : Hid (∀ W : World, Calls Tryz.prog 91 #[.int .u8 (b.toNat : Int)] W fun e w' => e = .returned (.bool (Pm.sign b)) ∧ w' = W) := fun W => rsign_any b W
      clear hb
      by_cases h46 : b = 46
      · rw [if_pos h46] at HCN
        subst h46
        have gb' : (s[k]'hlt).toNat = 46 := gb
        have w1 : IntKind.i64.wrap ((((bl s).take k).count 46 : Nat) + 1 : Int) = ((((bl s).take k).count 46 : Nat) : Int) + 1 := by rw [IntKind.wrap_i64]; omega
        have w2 : IntKind.i64.wrap ((s.size : Int) - 1) = (s.size : Int) - 1 := by rw [IntKind.wrap_i64]; omega
        clear gb
        by_cases he : k = 0 ∨ k = s.size - 1
        · have HN : Is (Pm.nk (bl s)) 0 := ⟨dot_at_end HG.eq (by rw [hbl]; exact he)⟩
          clear HG HCN hbl HF RS
          generalize ((bl s).take k).count 46 = cn at *
          by_cases hk0 : k = 0
          · have k1 : ((k : Int) == 0) = true := by simp only [beq_iff_eq]; omega
            clear he hk0 hcl
            go_wp2_with fail
            go_ret
            exact ⟨by rw [HN.eq]; rfl, rfl⟩
          · have k1 : ((k : Int) == 0) = false := by simp only [beq_eq_false_iff_ne, ne_eq]; omega
            have k2 : ((k : Int) == (s.size : Int) - 1) = true := by simp only [beq_iff_eq]; omega
            clear he hk0 hcl
            go_wp2_with fail
            go_ret
            exact ⟨by rw [HN.eq]; rfl, rfl⟩
        · have k0 : ¬ k = 0 := fun e => he (.inl e)
          have k9 : ¬ k = s.size - 1 := fun e => he (.inr e)
          have HF' : Hid (FineTo (bl s) (k + 1)) := fine_next HF.out HG.eq (.inr ⟨rfl, k0, by rw [hbl]; exact k9⟩)
          have k1 : ((k : Int) == 0) = false := by simp only [beq_eq_false_iff_ne, ne_eq]; omega
          have k2 : ((k : Int) == (s.size : Int) - 1) = false := by simp only [beq_eq_false_iff_ne, ne_eq]; omega
          clear HG he k0 k9 hbl HF RS
          go_wp2_with fail
          go_roundw
          case rel => exact ⟨k + 1, by omega, by go_num, by rw [HCN.eq]; rfl, HF'.out, by first | rfl | trivial⟩
          case measure => (simp [intOf]) <;> omega
      · rw [if_neg h46] at HCN
        have n46 : ¬ ((b.toNat : Int) = 46) := fun e => h46 (UInt8.toNat.inj (by show b.toNat = 46; omega))
        have n46' : ((b.toNat : Int) == 46) = false := by simp only [beq_eq_false_iff_ne, ne_eq]; exact n46
        cases hsg : Pm.sign b with
        | true =>
          have HF' : Hid (FineTo (bl s) (k + 1)) := fine_next HF.out HG.eq (.inl hsg)
          rw [hsg] at RS
          clear HG hbl h46 n46 hsg
          generalize b.toNat = nb at *
          go_wp2_with fail
          refine (RS.out _).mono ?_
          rintro e wS ⟨rfl, hwS⟩
          rw [hwS]
          clear hwS wS
          go_wp2_with fail
          go_roundw
          case rel => exact ⟨k + 1, by omega, by go_num, by rw [HCN.eq]; rfl, HF'.out, by first | rfl | trivial⟩
          case measure => (simp [intOf]) <;> omega
        | false =>
          have HN : Is (Pm.nk (bl s)) 0 := ⟨nk_bad (List.mem_of_getElem? HG.eq) hsg h46⟩
          rw [hsg] at RS
          clear HG hbl h46 n46 hsg HCN
          generalize b.toNat = nb at *
          go_wp2_with fail
          refine (RS.out _).mono ?_
          rintro e wS ⟨rfl, hwS⟩
          rw [hwS]
          clear hwS wS
          go_wp2_with fail
          go_ret
          exact ⟨by rw [HN.eq]; rfl, rfl⟩
    · obtain rfl : k = s.size := by omega
      have i0 : ¬ (s.size : Int) < (s.size : Int) := by omega
      have HTA : Is ((bl s).take s.size) (bl s) := ⟨List.take_of_length_le (by rw [bl_length]; omega)⟩
      rw [HTA.eq] at hcl
      rw [HTA.eq]
      have hfine : Fine (bl s) := fine_all (by rw [hbl]; exact HF.out)
      by_cases h0 : s.size = 0
      · have HN : Is (Pm.nk (bl s)) 0 := ⟨by have : bl s = [] := List.eq_nil_of_length_eq_zero (by rw [hbl, h0]); rw [this]; decide⟩
        have i1 : ((s.size : Int) == 0) = true := by simp only [beq_iff_eq]; omega
        clear hfine hbl
        generalize (bl s).count 46 = cn at *
        go_wp2_with fail
        go_ret
        exact ⟨by rw [HN.eq]; rfl, rfl⟩
      · have i1 : ((s.size : Int) == 0) = false := by simp only [beq_eq_false_iff_ne, ne_eq]; omega
        by_cases h24 : 24 < s.size
        · have HN : Is (Pm.nk (bl s)) 0 := ⟨nk_long (by rw [hbl]; exact h24)⟩
          have i2 : (24 : Int) < (s.size : Int) := by omega
          clear hfine hbl h0
          generalize (bl s).count 46 = cn at *
          go_wp2_with fail
          go_ret
          exact ⟨by rw [HN.eq]; rfl, rfl⟩
        · have i2 : ¬ (24 : Int) < (s.size : Int) := by omega
          have i2' : decide ((24 : Int) < (s.size : Int)) = false := decide_eq_false i2
          by_cases h1 : 1 < (bl s).count 46
          · have HN : Is (Pm.nk (bl s)) 0 := ⟨nk_many h1⟩
            have i3 : (1 : Int) < ((((bl s).count 46 : Nat)) : Int) := by omega
            clear hfine hbl h0
            generalize (bl s).count 46 = cn at *
            go_wp2_with fail
            go_ret
            exact ⟨by rw [HN.eq]; rfl, rfl⟩
          · have HN : Is (Pm.nk (bl s)) (1 + (bl s).count 46) := ⟨nk_fine hfine (by intro e; rw [e] at hbl; simp at hbl; omega) (by omega) (by omega)⟩
            have i3 : ¬ (1 : Int) < ((((bl s).count 46 : Nat)) : Int) := by omega
            have w1 : IntKind.i64.wrap (1 + (((bl s).count 46 : Nat) : Int)) = 1 + (((bl s).count 46 : Nat) : Int) := by rw [IntKind.wrap_i64]; omega
            clear hfine hbl h0
            generalize (bl s).count 46 = cn at *
            go_wp2_with fail
            go_ret
            exact ⟨by rw [HN.eq]; rfl, rfl⟩
end Go.Proofs.YtbcmgcallidneaaGreatDoor
