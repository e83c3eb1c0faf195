/- Proved: number reads a number off the front of the bytes that are still to be read. -/
import Derived.Test.YtpbobmhffdmmmaaMathR
import Derived.Test.YtpbobmhffdmmmaaAField
import Derived.RangeFuncBox
import Derived.Deep.Cut
import Derived.Deep.RegionHeld
namespace Go.Proofs.Ytpbobmhffdmmmaa
open Go.RowKit
variable {G : Nat}
/- bytes behind an address -/
def At (G : Nat) (w : World) (B : Nat) (a : Option Addr) (bs : List Nat) : Prop :=
  ∃ g off, a = some ⟨g, off, none⟩ ∧ (g < B ∧ g = G) ∧ ∀ i, i < bs.length → w.cell? ⟨g, off + i, none⟩ = some (V8 (bs.getD i 0))
/- what is still to be read, in the box B -/
structure Inp (G : Nat) (w : World) (B : Nat) (v : Value) (bs : List Nat) : Prop where
  box : Boxed w B 57 v
  val : ∃ a cap, v = .slice a bs.length cap ∧ bs.length ≤ cap ∧ cap ≤ 9223372036854775807 ∧ At G w B a bs
  byte : ∀ x ∈ bs, x < 256
theorem val_take_succ (bs : List Nat) (k : Nat) (hk : k < bs.length) : Fi.val (bs.take (k + 1)) = Fi.val (bs.take k) + 128 ^ k * (bs.getD k 0 % 128) := by
  rw [List.take_succ_eq_append_getElem hk, Fi.val_append, List.length_take, Nat.min_eq_left (by omega), List.getD_eq_getElem?_getD, List.getElem?_eq_getElem hk]
  simp [Fi.val]
theorem shl_fact (k r n : Nat) (hk : k ≤ 8) (hr : r < 128) (hn : n < 128 ^ k) : ∃ q n1 : Nat, wrap64 ((r : Int) * 2 ^ (7 * k)) = (q : Int) ∧ wrap64 ((n : Int) + (q : Int)) = (n1 : Int) ∧ n1 < 9223372036854775808 ∧ n + 128 ^ k * r = n1 := by
  have e : (2 : Nat) ^ (7 * k) = 128 ^ k := by rw [Nat.pow_mul]
  have hle : (128 : Nat) ^ k ≤ 128 ^ 8 := Nat.pow_le_pow_right (by omega) hk
  have hm : 128 ^ k * r ≤ 128 ^ k * 127 := Nat.mul_le_mul_left _ (by omega)
  have h8 : (128 : Nat) ^ 8 = 72057594037927936 := by decide
  have e2 : (r : Int) * 2 ^ (7 * k) = ((128 ^ k * r : Nat) : Int) := by
    rw [← e, Int.natCast_mul, Int.natCast_pow, Int.mul_comm]; rfl
  rw [e2]
  generalize 128 ^ k * r = q at *
  generalize 128 ^ k = c at *
  refine ⟨q, n + q, ?_, ?_, by omega, rfl⟩
  · unfold wrap64; omega
  · unfold wrap64; omega
theorem Inp.adv {w : World} {B g off L cap : Nat} {bs : List Nat} (h : Inp G w B (.slice (some ⟨g, off, none⟩) L cap) bs) (hL : bs.length = L) (hgB : g < B ∧ g = G) (hc : ∀ i, i < bs.length → w.cell? ⟨g, off + i, none⟩ = some (V8 (bs.getD i 0))) (j : Nat) (hj : j ≤ L) (hlc : L ≤ cap) (hcm : cap ≤ 9223372036854775807) (off' : Nat) (ho : off' = off + j ∨ j = cap) :
    Inp G (w.setCell ⟨B, 0, none⟩ (.slice (some ⟨g, off', none⟩) (L - j) (cap - j))) B (.slice (some ⟨g, off', none⟩) (L - j) (cap - j)) (bs.drop j) := by
  have hd : (bs.drop j).length = L - j := by rw [List.length_drop, hL]
  refine ⟨h.box.set _, ⟨_, cap - j, by rw [hd], by omega, by omega, ?_⟩, fun x hx => h.byte x (List.mem_of_mem_drop hx)⟩
  refine ⟨g, off', rfl, hgB, fun i hi => ?_⟩
  have ho' : off' = off + j := by omega
  subst ho'
  rw [World.cell?_setCell_far _ _ _ _ (by show B ≠ g; omega), Nat.add_assoc, hc (j + i) (by omega)]
  simp
theorem split_at (bs : List Nat) (k : Nat) (hk : k < bs.length) : bs = bs.take k ++ bs.getD k 0 :: bs.drop (k + 1) := by
  rw [List.getD_eq_getElem?_getD, List.getElem?_eq_getElem hk, Option.getD_some, List.getElem_cons_drop, List.take_append_drop]
/- what number answers -/
def NumPost (G : Nat) (B : Nat) (bs : List Nat) (w : World) (e : Ending) (w' : World) : Prop :=
  (∃ n rest v', Fi.Num bs n rest ∧ e = .returned (.tuple #[.int .i64 (n : Nat), .bool true]) ∧ w' = w.setCell ⟨B, 0, none⟩ v' ∧ Inp G w' B v' rest) ∨
  ((∀ n rest, ¬ Fi.Num bs n rest) ∧ ∃ z, e = .returned (.tuple #[.int .i64 z, .bool false]) ∧ (w' = w ∨ ∃ v', w' = w.setCell ⟨B, 0, none⟩ v'))
set_option maxHeartbeats 1000000 in
set_option maxRecDepth 20000 in
theorem rnum_any (B : Nat) (v : Value) (bs : List Nat) (w : World) (hI : Inp G w B v bs) :
    Calls Try.prog 39 #[.pointer (some ⟨B, 0, none⟩)] w (NumPost G B bs w) := by
  have HI : Hid (Inp G w B v bs) := hI
  obtain ⟨a, cap, rfl, hlc, hcm, hat⟩ := hI.val
  have hcell := hI.box.cell
  have hfr := hI.box.frozen
  have HA : Hid (At G w B a bs) := hat
  have HBY : Hid (∀ x ∈ bs, x < 256) := hI.byte
  clear hat hI
  obtain ⟨L, hL⟩ : ∃ L, L = bs.length := ⟨_, rfl⟩
  obtain ⟨m, hm⟩ : ∃ m, m = min L 9 := ⟨_, rfl⟩
  have HM : Is m (min L 9) := ⟨hm⟩
  have HL : Is L bs.length := ⟨hL⟩
  rw [← hL] at hcell hlc
  have hmin : (if (9 : Int) < (L : Int) then (9 : Int) else (L : Int)) = (m : Int) := by split <;> omega
  have hmin2 : (if 9 < L then (9 : Int) else (L : Int)) = (m : Int) := by split <;> omega
  have hmL : m ≤ L := by omega
  have hm9 : m ≤ 9 := by omega
  clear hm hL
  go_enter Try.func39, Try.ntmps39
  go_wp2_with fail
  go_loopw [4, 13] (fun s4 s13 wr => ∃ k : Nat, k ≤ m ∧ s13 = .int .i64 k ∧ s4 = .int .i64 (Fi.val (bs.take k) : Nat) ∧ (∀ x ∈ bs.take k, 128 ≤ x) ∧ wr = w) (fun _ s13 _ => m - (intOf s13).toNat)
  case atStart => exact ⟨0, by omega, rfl, rfl, by simp, rfl⟩
  case round =>
    obtain ⟨k, hk, rfl, rfl, hge, rfl⟩ := hrel
    have HG : Hid (∀ x ∈ bs.take k, 128 ≤ x) := hge
    clear hge
    by_cases hlt : k < m
    · obtain ⟨g, off, rfl, hgB, hc⟩ : ∃ g off, a = some ⟨g, off, none⟩ ∧ (g < B ∧ g = G) ∧ ∀ i, i < bs.length → wr.cell? ⟨g, off + i, none⟩ = some (V8 (bs.getD i 0)) := HA.out
      obtain ⟨hgB, rfl⟩ := hgB
      have ck := hc k (by rw [← HL.eq]; omega)
      have HVS := val_take_succ bs k (by rw [← HL.eq]; omega)
      have hvl := Fi.val_lt (bs.take k)
      have HLT : Is (bs.take k).length k := ⟨by rw [List.length_take, ← HL.eq]; omega⟩
      rw [HLT.eq] at hvl
      have hb8 : bs.getD k 0 < 256 := HBY.out _ (by rw [List.getD_eq_getElem?_getD, List.getElem?_eq_getElem (by rw [← HL.eq]; omega)]; exact List.getElem_mem _)
      obtain ⟨b, hb⟩ : ∃ b, b = bs.getD k 0 := ⟨_, rfl⟩
      have HBK : Is (bs.getD k 0) b := ⟨hb.symm⟩
      rw [← hb] at ck HVS hb8
      unfold V8 at ck
      have HC : Hid (∀ i, i < bs.length → wr.cell? ⟨g, off + i, none⟩ = some (V8 (bs.getD i 0))) := hc
      clear hb hc
      obtain ⟨n, hn⟩ : ∃ n, n = Fi.val (bs.take k) := ⟨_, rfl⟩
      have HN : Is (Fi.val (bs.take k)) n := ⟨hn.symm⟩
      rw [← hn] at HVS hvl
      rw [← hn]
      clear hn
      have HV1 : Is (Fi.val (bs.take (k + 1))) (n + 128 ^ k * (b % 128)) := ⟨HVS⟩
      clear HVS
      have i0 : (k : Int) < (m : Int) := by omega
      have i1 : (k : Int) < (L : Int) := by omega
      have j0 : (0 : Int) ≤ (k : Int) := Int.natCast_nonneg _
      obtain ⟨r, hr⟩ : ∃ r, r = b % 128 := ⟨_, rfl⟩
      have er1 : (b : Int) % 128 = (r : Int) := by omega
      have er2 : (b : Int).tmod 128 = (r : Int) := by rw [Int.tmod_eq_emod_of_nonneg (by omega)]; omega
      have hr128 : r < 128 := by omega
      rw [← hr] at HV1
      have HR : Is r (b % 128) := ⟨hr⟩
      have HVL : Hid (n < 128 ^ k) := hvl
      clear hr hvl
      have hk8 : k ≤ 8 := by omega
      obtain ⟨q, n1, hsh, hadd, hn63, hn1⟩ := shl_fact k r n hk8 hr128 HVL.out
      rw [hn1] at HV1
      clear hn1
      by_cases hb128 : b < 128
      · have i2 : (b : Int) < 128 := by omega
        have HSP : Is bs (bs.take k ++ b :: bs.drop (k + 1)) := ⟨by have := split_at bs k (by rw [← HL.eq]; omega); rwa [HBK.eq] at this⟩
        have HTK : Is (bs.take (k + 1)) (bs.take k ++ [b]) := ⟨by rw [List.take_succ_eq_append_getElem (by rw [← HL.eq]; omega)]; congr 1; have := HBK.eq; rw [List.getD_eq_getElem?_getD, List.getElem?_eq_getElem (by rw [← HL.eq]; omega)] at this; rw [← this]; rfl⟩
        have HP : Hid (∀ x ∈ bs.take k, 128 ≤ x ∧ x < 256) := fun x hx => ⟨HG.out x hx, HBY.out x (List.mem_of_mem_take hx)⟩
        rw [HTK.eq] at HV1
        have HADV : Hid (∀ off', (off' = off + (k + 1) ∨ k + 1 = cap) → Inp g (wr.setCell ⟨B, 0, none⟩ (.slice (some ⟨g, off', none⟩) (L - (k + 1)) (cap - (k + 1)))) B (.slice (some ⟨g, off', none⟩) (L - (k + 1)) (cap - (k + 1))) (bs.drop (k + 1))) := fun off' ho => Inp.adv (by have := HI.out; rwa [← HL.eq] at this) HL.eq.symm ⟨hgB, rfl⟩ HC.out (k + 1) (by omega) hlc hcm off' ho
        have i3 : (k : Int) + 1 ≤ (L : Int) := by omega
        have i4 : (k : Int) + 1 ≤ (cap : Int) := by omega
        clear HI HA HBY
        by_cases hb0 : b = 0
        · subst hb0
          by_cases hk0 : k = 0
          · subst hk0
            obtain rfl : n = 0 := by rw [← HN.eq]; rfl
            obtain rfl : n1 = 0 := by rw [← HV1.eq]; rfl
            have HNM : Hid (Fi.Num bs 0 (bs.drop (0 + 1))) := by
              have h := Fi.num_yes (r := bs.drop (0 + 1)) HP.out hb128 (.inl rfl) (by simp [Fi.val])
              rw [HV1.eq, ← HSP.eq] at h
              exact h
            have ck' : wr.cell? ⟨g, off, none⟩ = some (.int .u8 0) := ck
            clear hadd hsh
            by_cases hcap : cap = 1
            · subst hcap
              have hL1 : L = 1 := by omega
              go_wp2_with fail
              go_ret2
              exact .inl ⟨0, _, _, HNM.out, rfl, rfl, by have h := HADV.out off (.inr trivial); rw [hL1] at h; exact h⟩
            · have hcap' : ¬ (1 : Int) = (cap : Int) := by omega
              go_wp2_with fail
              go_ret2
              exact .inl ⟨0, _, _, HNM.out, rfl, rfl, HADV.out _ (.inl rfl)⟩
          · have i6 : decide ((0 : Int) < (k : Int)) = true := by simp; omega
            have HX : Hid (∀ n t, ¬ Fi.Num bs n t) := by
              have h := Fi.num_needless (p := bs.take k) (r := bs.drop (k + 1)) (fun x hx => (HP.out x hx).1) (fun e => by have := congrArg List.length e; rw [HLT.eq] at this; exact hk0 this)
              rw [← HSP.eq] at h
              exact h
            by_cases hcap : k + 1 = cap
            · have hcap' : (k : Int) + 1 = (cap : Int) := by omega
              go_wp2_with fail
              go_ret2
              exact .inr ⟨HX.out, _, rfl, .inr ⟨_, rfl⟩⟩
            · have hcap' : ¬ (k : Int) + 1 = (cap : Int) := by omega
              go_wp2_with fail
              go_ret2
              exact .inr ⟨HX.out, _, rfl, .inr ⟨_, rfl⟩⟩
        · have e0 : ((b : Int) == 0) = false := by simp; omega
          have e1 : ¬ (b : Int) = 0 := by omega
          by_cases hmx : n1 ≤ 4611686018427387904
          · have i5 : decide ((n1 : Int) ≤ 4611686018427387904) = true := by simp; omega
            have HNM : Hid (Fi.Num bs n1 (bs.drop (k + 1))) := by
              have h := Fi.num_yes (r := bs.drop (k + 1)) HP.out hb128 (.inr hb0) (by rw [HV1.eq]; exact hmx)
              rw [HV1.eq, ← HSP.eq] at h
              exact h
            by_cases hcap : k + 1 = cap
            · have hcap' : (k : Int) + 1 = (cap : Int) := by omega
              go_wp2_with fail
              go_ret2
              exact .inl ⟨n1, _, _, HNM.out, by show Ending.returned (.tuple #[.int .i64 (wrap64 (↑n + ↑q)), .bool true]) = _; rw [hadd], rfl, by have h := HADV.out off (.inr hcap); rw [show L - (k + 1) = 0 by omega, show cap - (k + 1) = 0 by omega] at h; exact h⟩
            · have hcap' : ¬ (k : Int) + 1 = (cap : Int) := by omega
              go_wp2_with fail
              go_ret2
              exact .inl ⟨n1, _, _, HNM.out, by show Ending.returned (.tuple #[.int .i64 (wrap64 (↑n + ↑q)), .bool true]) = _; rw [hadd], rfl, HADV.out _ (.inl rfl)⟩
          · have i5 : decide ((n1 : Int) ≤ 4611686018427387904) = false := by simp; omega
            have HX : Hid (∀ n t, ¬ Fi.Num bs n t) := by
              have h := Fi.num_big (r := bs.drop (k + 1)) HP.out hb128 (.inr hb0) (by rw [HV1.eq]; exact hmx)
              rw [← HSP.eq] at h
              exact h
            by_cases hcap : k + 1 = cap
            · have hcap' : (k : Int) + 1 = (cap : Int) := by omega
              go_wp2_with fail
              go_ret2
              exact .inr ⟨HX.out, _, rfl, .inr ⟨_, rfl⟩⟩
            · have hcap' : ¬ (k : Int) + 1 = (cap : Int) := by omega
              go_wp2_with fail
              go_ret2
              exact .inr ⟨HX.out, _, rfl, .inr ⟨_, rfl⟩⟩
      · have i2 : ¬ (b : Int) < 128 := by omega
        have HG1 : Hid (∀ x ∈ bs.take (k + 1), 128 ≤ x) := fun x hx => by
          rw [List.take_succ_eq_append_getElem (by rw [← HL.eq]; omega)] at hx
          rcases List.mem_append.1 hx with hx | hx
          · exact HG.out x hx
          · have := HBK.eq
            rw [List.getD_eq_getElem?_getD, List.getElem?_eq_getElem (by rw [← HL.eq]; omega), Option.getD_some] at this
            have := List.mem_singleton.1 hx
            omega
        go_wp2_with fail
        go_roundw
        case rel => exact ⟨k + 1, by omega, by go_num, by rw [HV1.eq, hadd], HG1.out, trivial⟩
        case measure => (simp [intOf]) <;> omega
    · have i0 : ¬ (k : Int) < (m : Int) := by omega
      have hkm : k = m := by omega
      have HX : Hid (∀ n t, ¬ Fi.Num bs n t) := Fi.num_none k (by rw [hkm, HM.eq, HL.eq]) HG.out
      clear hkm
      go_wp2_with fail
      go_ret2
      exact .inr ⟨HX.out, _, rfl, .inl rfl⟩
end Go.Proofs.Ytpbobmhffdmmmaa
