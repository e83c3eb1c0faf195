/- Proved: isPlain and nameKind answer what the names' words ask. -/
import Derived.Test.YtbcmgcallidneaaGreatDoorBase
namespace Go.Proofs.YtbcmgcallidneaaGreatDoor
open Go.RowKit
abbrev bl (s : ByteArray) : List UInt8 := s.data.toList
def mk (l : List UInt8) : ByteArray := ⟨l.toArray⟩
theorem bl_mk (l : List UInt8) : bl (mk l) = l := rfl
theorem mk_bl (s : ByteArray) : mk (bl s) = s := rfl
theorem bl_length (s : ByteArray) : (bl s).length = s.size := Array.length_toList ..
theorem bl_get (s : ByteArray) (k : Nat) (h : k < s.size) : (bl s)[k]? = some (s[k]'h) := by
  have h' : k < (bl s).length := by rw [bl_length]; exact h
  rw [List.getElem?_eq_getElem h']; rfl
theorem bl_inj {s t : ByteArray} (h : bl s = bl t) : s = t := by rw [← mk_bl s, h, mk_bl]
theorem mk_size (l : List UInt8) : (mk l).size = l.length := rfl
theorem te_no {s : ByteArray} (h : s ≠ ⟨#[]⟩) : s.toList.isEmpty = false := by
  rw [ByteArray.toList_eq]
  cases h' : s.data.toList with
  | nil => exact absurd (bl_inj (t := ⟨#[]⟩) h') h
  | cons a l => rfl
theorem te_bl {s : ByteArray} (h : bl s ≠ []) : s.toList.isEmpty = false := te_no fun e => h (by rw [e])
theorem ne_mk {s : ByteArray} {l : List UInt8} (h : bl s ≠ l) : s ≠ ⟨l.toArray⟩ := fun e => h (by rw [e])
set_option maxHeartbeats 1000000 in
set_option maxRecDepth 20000 in
theorem isPlain_any (s : ByteArray) (w : World) (hs : s.size < 4294967281) (hT : Tab w) :
    Calls Tryz.prog 50 #[.string s] w fun e w' => e = .returned (.bool (Pm.plain (bl s))) ∧ Below w.heap.size w w' := by
  have HT : Hid (Tab w) := hT
  clear hT
  go_enter Tryz.func50, Tryz.ntmps50
  go_wp2_with fail
  go_loopw [3, 6] (fun _ i wr => ∃ k : Nat, k ≤ s.size ∧ i = .int .i64 k ∧ ((bl s).take k).all Pm.sign = true ∧ Below w.heap.size w wr) (fun _ i _ => s.size - (intOf i).toNat)
  case atStart => exact ⟨0, by omega, rfl, rfl, Below.refl _ _⟩
  case round =>
    obtain ⟨k, hk, rfl, ha, hB⟩ := hrel
    have HB : Hid (Below w.heap.size w wr) := hB
    have HA : Hid (((bl s).take k).all Pm.sign = true) := ha
    have hsz := hB.size
    clear hB ha
    by_cases hlt : k < s.size
    · have HG : Is ((bl s)[k]?) (some (s[k]'hlt)) := ⟨bl_get s k hlt⟩
      have HX : Is ((bl s).take (k + 1)) ((bl s).take k ++ [s[k]'hlt]) := ⟨by rw [List.take_add_one, HG.eq]; rfl⟩
      have HM : Hid (s[k]'hlt ∈ bl s) := List.mem_of_getElem? HG.eq
      have i0 : (k : Int) < (s.size : Int) := by omega
      have j0 : (0 : Int) ≤ (k : Int) := Int.natCast_nonneg _
      clear HG
      obtain ⟨b, hb⟩ : ∃ b, s[k]'hlt = b := ⟨_, rfl⟩
      have g : (s[k]'hlt).toNat = b.toNat := by rw [hb]
      rw [hb] at HX HM
      clear hb
      have HTw : Hid (Tab wr) := HT.out.below HB.out
      cases hsg : Pm.sign b with
      | true =>
        go_wp2_with (first | (go_at_call 69; refine (isSign_any b _ HTw.out).mono ?_; rintro e w1 ⟨rfl, hB1⟩))
        go_roundw
        case rel => exact ⟨k + 1, by omega, by go_num, by rw [HX.eq, List.all_append, HA.out]; simp [hsg], HB.out.trans (hB1.mono hsz)⟩
        case measure => (simp [intOf]) <;> omega
      | false =>
        go_wp2_with (first | (go_at_call 69; refine (isSign_any b _ HTw.out).mono ?_; rintro e w1 ⟨rfl, hB1⟩))
        go_ret
        refine ⟨?_, HB.out.trans (hB1.mono hsz)⟩
        have : Pm.plain (bl s) = false := by
          unfold Pm.plain
          rw [Bool.and_eq_false_iff]
          refine .inl ?_
          rw [List.all_eq_false]
          exact ⟨b, HM.out, by simp [hsg]⟩
        rw [this]; rfl
    · have hks : k = s.size := by omega
      subst hks
      have HA' : (bl s).all Pm.sign = true := by have := HA.out; rw [List.take_of_length_le (by rw [bl_length]; omega)] at this; exact this
      by_cases he : s = ⟨#[]⟩
      · subst he
        go_wp2
        go_ret
        exact ⟨rfl, HB.out⟩
      · have hP : Hid (Pm.plain (bl s) = true) := by
          show Pm.plain (bl s) = true
          unfold Pm.plain
          rw [HA']
          have : (bl s).isEmpty = false := by
            cases h : (bl s) with
            | nil => exact absurd (bl_inj (t := ⟨#[]⟩) h) he
            | cons a l => rfl
          rw [this]; rfl
        have hte : s.toList.isEmpty = false := te_no he
        clear HA HA'
        go_wp2
        go_ret
        refine ⟨?_, HB.out⟩
        rw [hP.out]; rfl
set_option maxHeartbeats 1000000 in
set_option maxRecDepth 20000 in
theorem nameKind_any (s : ByteArray) (w : World) (hs : s.size < 4294967281) (hT : Tab w) :
    Calls Tryz.prog 36 #[.string s] w fun e w' => e = .returned (.int .i64 (Pm.nk (bl s) : Nat)) ∧ Below w.heap.size w w' := by
  have HT : Hid (Tab w) := hT
  obtain ⟨m, hm⟩ := hT.max
  have HM : Hid (w.cell? ⟨1, 0, none⟩ = some (.int .i64 m)) := hm
  clear hT hm
  have hh : (mk (Pm.head (bl s))).size < 4294967281 ∧ (mk (Pm.tail (bl s))).size < 4294967281 := by
    rw [mk_size, mk_size]
    have := bl_length s
    rcases Pm.cut_cases (bl s) with ⟨_, e1, e2, _⟩ | ⟨a, b, e, _, e1, e2, _⟩
    · rw [e1, e2]; simp; omega
    · rw [e1, e2]; rw [e] at this; simp at this; omega
  have H1 : Is (bl (mk (Pm.head (bl s)))) (Pm.head (bl s)) := ⟨rfl⟩
  have H2 : Is (bl (mk (Pm.tail (bl s)))) (Pm.tail (bl s)) := ⟨rfl⟩
  have HC : Hid (∀ W : World, W.cell? ⟨1, 0, none⟩ = some (.int .i64 m) → Calls Tryz.prog 49 #[.string s, .string ⟨#[46]⟩] W fun e w' => e = .returned (.tuple #[.string (mk (Pm.head (bl s))), .string (mk (Pm.tail (bl s))), .bool (Pm.parted (bl s))]) ∧ ∃ n, w' = W.drewN n) := fun W hW => Tryz.strings_Cut s ⟨#[46]⟩ m W hs hW
  generalize mk (Pm.head (bl s)) = h at *
  generalize mk (Pm.tail (bl s)) = t at *
  go_enter Tryz.func36, Tryz.ntmps36
  go_wp2_with fail
  refine (HC.out _ HM.out).mono ?_
  rintro e w1 ⟨rfl, nd, rfl⟩
  have hBd : Below w.heap.size w (w.drewN nd) := ⟨rfl, rfl, rfl, Nat.le_refl _, fun _ _ => rfl⟩
  have HTd : Hid (Tab (w.drewN nd)) := HT.out.below hBd
  have HPh : Hid (∀ W : World, Tab W → Calls Tryz.prog 50 #[.string h] W fun e w' => e = .returned (.bool (Pm.plain (Pm.head (bl s)))) ∧ Below W.heap.size W w') := fun W hW => by rw [← H1.eq]; exact isPlain_any h W hh.1 hW
  have HPt : Hid (∀ W : World, Tab W → Calls Tryz.prog 50 #[.string t] W fun e w' => e = .returned (.bool (Pm.plain (Pm.tail (bl s)))) ∧ Below W.heap.size W w') := fun W hW => by rw [← H2.eq]; exact isPlain_any t W hh.2 hW
  clear H1 H2 HC HM
  have HN : Is (Pm.nk (bl s)) (if 24 < s.size then 0 else if Pm.plain (Pm.head (bl s)) = false then 0 else if Pm.parted (bl s) = false then 1 else if Pm.plain (Pm.tail (bl s)) = false then 0 else 2) := ⟨by rw [← bl_length s]; rfl⟩
  generalize Pm.plain (Pm.head (bl s)) = ph at *
  generalize Pm.plain (Pm.tail (bl s)) = pt at *
  generalize Pm.parted (bl s) = pd at *
  generalize w.drewN nd = w2 at *
  have HBd : Hid (Below w.heap.size w w2) := hBd
  have hsz := hBd.size
  clear hBd
  by_cases h24 : 24 < s.size
  · have h24' : (24 : Int) < (s.size : Int) := by omega
    rw [if_pos h24] at HN
    go_wp2
    go_ret
    exact ⟨by rw [HN.eq]; rfl, HBd.out⟩
  · have h24' : ¬ (24 : Int) < (s.size : Int) := by omega
    rw [if_neg h24] at HN
    cases ph with
    | false =>
      go_wp2_with (first | (go_at_call 50; refine (HPh.out _ HTd.out).mono ?_; rintro e w3 ⟨rfl, hB3⟩))
      go_ret
      exact ⟨by rw [HN.eq]; rfl, HBd.out.trans (hB3.mono hsz)⟩
    | true =>
      cases pd with
      | false =>
        go_wp2_with (first | (go_at_call 50; refine (HPh.out _ HTd.out).mono ?_; rintro e w3 ⟨rfl, hB3⟩))
        go_ret
        exact ⟨by rw [HN.eq]; rfl, HBd.out.trans (hB3.mono hsz)⟩
      | true =>
        go_wp2_with fail
        refine (HPh.out _ HTd.out).mono ?_
        rintro e w3 ⟨rfl, hB3⟩
        have HB3 : Hid (Below w.heap.size w w3) := HBd.out.trans (hB3.mono hsz)
        have HT3 : Hid (Tab w3) := HTd.out.below hB3
        have hsz3 := HB3.out.size
        clear hB3
        cases pt with
        | false =>
          go_wp2_with (first | (go_at_call 50; refine (HPt.out _ HT3.out).mono ?_; rintro e w4 ⟨rfl, hB4⟩))
          go_ret
          exact ⟨by rw [HN.eq]; rfl, HB3.out.trans (hB4.mono hsz3)⟩
        | true =>
          go_wp2_with (first | (go_at_call 50; refine (HPt.out _ HT3.out).mono ?_; rintro e w4 ⟨rfl, hB4⟩))
          go_ret
          exact ⟨by rw [HN.eq]; rfl, HB3.out.trans (hB4.mono hsz3)⟩
end Go.Proofs.YtbcmgcallidneaaGreatDoor
