/- Proved: Text and Parse. -/
import Derived.Test.YtbcmgcallidneaaGreatDoorMayF
import Derived.Test.YtbcmgcallidneaaGreatDoorBld
namespace Go.Proofs.YtbcmgcallidneaaGreatDoor
open Go.RowKit
theorem text_len : ∀ (l : List Pm.T) (m : Nat), (∀ x ∈ l, x.length ≤ m) → (Sm.text l).length ≤ l.length * (m + 1)
  | [], _, _ => by simp [Sm.text]
  | x :: l, m, h => by
    have h1 := text_len l m fun y hy => h y (List.mem_cons_of_mem _ hy)
    have h2 := h x (List.mem_cons_self ..)
    have e : Sm.text (x :: l) = x ++ 10 :: Sm.text l := by simp [Sm.text]
    rw [e, List.length_append, List.length_cons, List.length_cons, Nat.add_mul]
    omega
theorem text_snoc {l : List Pm.T} {k : Nat} (hk : k < l.length) : Sm.text (l.take (k + 1)) = Sm.text (l.take k) ++ l.getD k [] ++ [10] := by
  rw [List.take_add_one, getD_some hk]
  simp [Sm.text]
theorem byteCells_append (a b : List UInt8) : Lib.byteCells (a ++ b) = Lib.byteCells a ++ Lib.byteCells b := by rw [Lib.byteCells, List.map_append]; rfl
set_option maxHeartbeats 4000000 in
set_option maxRecDepth 20000 in
theorem text_any (ad : Option Addr) (c : Nat) (l : List Pm.T) (w : World) (hA : TxtA w ad l) (hl : l.length ≤ 500) (hx : ∀ x ∈ l, x.length ≤ 1000000) (hT : Tab w) :
    Calls Tryz.prog 17 #[.slice ad l.length c] w fun e w' => e = .returned (.tuple #[.string (mk (Sm.texts l).1), .int .i64 ((Sm.texts l).2 : Nat)]) ∧ Below w.heap.size w w' := by
  have HM := (show Hid (Calls Tryz.prog 10 #[.slice ad l.length c] w fun e w' => e = .returned (.bool (Sm.may l)) ∧ Below w.heap.size w w') from may_any ad c l w hA (by omega) hx hT)
  have HA : Hid (TxtA w ad l) := hA
  have HL : Hid (∀ k, (Sm.text (l.take k)).length ≤ 600000000) := fun k => by
    have h1 := text_len (l.take k) 1000000 fun y hy => hx y (List.mem_of_mem_take hy)
    have h2 : (l.take k).length ≤ 500 := by rw [List.length_take]; omega
    have h3 : (l.take k).length * (1000000 + 1) ≤ 500 * (1000000 + 1) := Nat.mul_le_mul_right _ h2
    omega
  have HXk : Hid (∀ k, k < l.length → (l.getD k []).length ≤ 1000000) := fun k hk => hx _ (getD_mem hk)
  have HR : Is (Sm.texts l) (if Sm.may l = false then ([], 2) else (Sm.text l, 0)) := ⟨rfl⟩
  obtain ⟨n, hn⟩ : ∃ n, l.length = n := ⟨_, rfl⟩
  have HN : Is l.length n := ⟨hn⟩
  rw [hn] at hl HM HXk
  rw [hn]
  clear hA hT hn hx
  cases hm : Sm.may l with
  | false =>
    rw [hm] at HM HR
    rw [if_pos rfl] at HR
    go_enter Tryz.func17, Tryz.ntmps17
    go_wp2_with fail
    refine (show Calls _ _ _ _ _ from HM.out).mono ?_
    rintro e w1 ⟨rfl, hB1⟩
    go_wp2_with fail
    go_ret2
    exact ⟨by rw [HR.eq]; rfl, hB1⟩
  | true =>
    rw [hm] at HM HR
    rw [if_neg (by simp)] at HR
    go_enter Tryz.func17, Tryz.ntmps17
    go_wp2_with fail
    refine (show Calls _ _ _ _ _ from HM.out).mono ?_
    rintro e w1 ⟨rfl, hB1⟩
    have HB1 : Hid (Below w.heap.size w w1) := hB1
    have hz1 := hB1.size
    have HI := (show Hid (IsB w1.heap.size w1.heap.size (Lib.byteCells (Sm.text (l.take 0))) (w1.alloc (.cells #[.pointer none, .slice none 0 0] 49))) from Lib.fresh_isBuilder 49 5 w1)
    have HB2 : Hid (Below w1.heap.size w1 (w1.alloc (.cells #[.pointer none, .slice none 0 0] 49))) := (Below.refl _ w1).alloc (Nat.le_refl _) _
    clear hB1 HM hm
    go_wp2_with fail
    go_loopw [6, 12] (fun _ i wr => ∃ k : Nat, k ≤ n ∧ i = .int .i64 k ∧ IsB w1.heap.size w1.heap.size (Lib.byteCells (Sm.text (l.take k))) wr ∧ Below w1.heap.size w1 wr) (fun _ i _ => n - (intOf i).toNat)
    case atStart => exact ⟨0, by omega, rfl, HI.out, HB2.out⟩
    case round =>
      obtain ⟨k, hk, rfl, hI, hB⟩ := hrel
      have HIk := (show Hid _ from hI)
      have HB : Hid (Below w1.heap.size w1 wr) := hB
      have HBw : Hid (Below w.heap.size w wr) := HB1.out.trans (hB.mono hz1)
      have hsz := hB.size
      have hlk := HL.out k
      by_cases hlt : k < n
      · have i0 : (k : Int) < (n : Int) := by omega
        have j0 : (0 : Int) ≤ (k : Int) := Int.natCast_nonneg _
        obtain ⟨g, he, hg, ht⟩ := HA.out (by rw [HN.eq]; omega)
        subst he
        have c0 := (HBw.out.cell (p := ⟨g, k, none⟩) hg).trans (ht.get k (by rw [HN.eq]; exact hlt))
        have hxk := HXk.out k hlt
        have HW := (show Hid (Calls Tryz.prog 31 #[.pointer (some ⟨w1.heap.size, 0, none⟩), .string (mk (l.getD k []))] wr fun e w' => e = .returned (.tuple #[.int .i64 (mk (l.getD k [])).size, .nilIface]) ∧ BAt w1.heap.size w1.heap.size (Lib.byteCells (Sm.text (l.take k)) ++ Lib.strCells (mk (l.getD k []))) w' ∧ Below w1.heap.size wr w') from wstr_any _ _ _ _ wr hI (by rw [Lib.byteCells, List.length_map, mk_size]; omega) hsz)
        have HWb := (show Hid (∀ W : World, BAt w1.heap.size w1.heap.size (Lib.byteCells (Sm.text (l.take k)) ++ Lib.strCells (mk (l.getD k []))) W → w1.heap.size ≤ W.heap.size → Calls Tryz.prog 32 #[.pointer (some ⟨w1.heap.size, 0, none⟩), .int .u8 10] W fun e w' => e = .returned .nilIface ∧ BAt w1.heap.size w1.heap.size (Lib.byteCells (Sm.text (l.take k)) ++ Lib.strCells (mk (l.getD k [])) ++ [.int .u8 10]) w' ∧ Below w1.heap.size W w') from fun W h hs => wbyte_any _ _ _ 10 W (.inr h) (by rw [List.length_append, Lib.strCells_length, Lib.byteCells, List.length_map, mk_size]; omega) hs)
        have HNx : Is (Lib.byteCells (Sm.text (l.take (k + 1)))) (Lib.byteCells (Sm.text (l.take k)) ++ Lib.strCells (mk (l.getD k [])) ++ [.int .u8 10]) := ⟨by rw [text_snoc (by rw [HN.eq]; exact hlt), byteCells_append, byteCells_append]; rfl⟩
        clear hI hB ht hxk hlk
        generalize Lib.byteCells (Sm.text (l.take k)) ++ Lib.strCells (mk (l.getD k [])) ++ [.int .u8 10] = bs2 at *
        generalize Lib.byteCells (Sm.text (l.take k)) ++ Lib.strCells (mk (l.getD k [])) = bs1 at *
        generalize mk (l.getD k []) = sx at *
        go_wp2_with (first
          | (go_at_call 31; refine (show Calls _ _ _ _ _ from HW.out).mono ?_; rintro e w2 ⟨rfl, hI2, hB2⟩; have hs2 : w1.heap.size ≤ w2.heap.size := Nat.le_trans hsz hB2.size)
          | (go_at_call 32; refine (HWb.out w2 hI2 hs2).mono ?_; rintro e w3 ⟨rfl, hI3, hB3⟩))
        go_roundw
        case rel => exact ⟨k + 1, by omega, by go_num, by rw [HNx.eq]; exact .inr hI3, HB.out.trans (hB2.trans hB3)⟩
        case measure => (simp [intOf]) <;> omega
      · obtain rfl : k = n := by omega
        have i0 : ¬ (k : Int) < (k : Int) := by omega
        have HS := (show Hid (Calls Tryz.prog 33 #[.pointer (some ⟨w1.heap.size, 0, none⟩)] wr fun e w' => e = .returned (.string ⟨(Sm.text (l.take k)).toArray⟩) ∧ Below w1.heap.size wr w') from Tryz.Builder_String_any _ _ _ wr hI hsz)
        rw [List.take_of_length_le (by rw [HN.eq]; exact Nat.le_refl _)] at HS
        clear hI hB hlk
        go_wp2_with (first | (go_at_call 33; refine (show Calls _ _ _ _ _ from HS.out).mono ?_; rintro e w2 ⟨rfl, hB2⟩))
        go_ret2
        exact ⟨by rw [HR.eq]; rfl, HBw.out.trans (hB2.mono hz1)⟩
end Go.Proofs.YtbcmgcallidneaaGreatDoor
