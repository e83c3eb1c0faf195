/- Proved: textField reads a text's length, and the text, as a field. -/
import Derived.Test.YtpbobmhffdmmmaaNumF
namespace Go.Proofs.Ytpbobmhffdmmmaa
open Go.RowKit
variable {G : Nat}
def TextR (bs : List Nat) (f : Fv) (rest : List Nat) : Prop := ∃ (n : Nat) (r : List Nat), Fi.Num bs n r ∧ n ≤ 4096 ∧ n ≤ r.length ∧ rest = r.drop n ∧ f = ⟨0, 1, 0, tb (r.take n)⟩
/- 'string(b)' of bytes behind an address -/
theorem str_at {w : World} {g off : Nat} {bs : List Nat} (hc : ∀ i, i < bs.length → w.cell? ⟨g, off + i, none⟩ = some (V8 (bs.getD i 0))) (h8 : ∀ x ∈ bs, x < 256) (n cap : Nat) (hn : n ≤ bs.length) : (convert 57 9 (.slice (some ⟨g, off, none⟩) n cap)).run Try.prog w = .ok (.string (tb (bs.take n))) w := by
  have hl : ((bs.take n).map UInt8.ofNat).length = n := by simp; omega
  have e := run_convert_bytes_back (P := Try.prog) w 57 9 5 ⟨g, off, none⟩ cap ((bs.take n).map UInt8.ofNat) Try.underlying57 Try.underlying5 Try.underlying9 (fun j hj => by
    have hj' : j < n := by omega
    have hb := hc j (by omega)
    rw [Go.WideShapes.add_plain, hb, List.getElem_map, List.getElem_take, List.getD_eq_getElem?_getD, List.getElem?_eq_getElem (by omega), Option.getD_some]
    have h1 : bs[j] < 256 := h8 _ (List.getElem_mem _)
    rw [V8, UInt8.toNat_ofNat', Nat.mod_eq_of_lt h1])
  rw [hl] at e
  exact e
theorem Inp.alloc {w : World} {B : Nat} {v : Value} {bs : List Nat} (h : Inp G w B v bs) (o : Obj) : Inp G (w.alloc o) B v bs :=
  h.below (((Below.refl w.heap.size w).alloc (Nat.le_refl _) o).mono h.lt)
theorem grown_set_set (w : World) (B : Nat) (v u : Value) (o o' : Obj) : w.grownBy ((((w.setCell ⟨B, 0, none⟩ v).setCell ⟨B, 0, none⟩ u).alloc o).alloc o') (some B) :=
  ⟨rfl, rfl, rfl, by simp [World.setCell]; omega, fun k hk hne => by
    have hk' : k < ((w.setCell ⟨B, 0, none⟩ v).setCell ⟨B, 0, none⟩ u).heap.size := by rw [size_set, size_set]; exact hk
    rw [Below.heap_alloc _ _ _ (by rw [size_alloc1]; omega), Below.heap_alloc _ _ _ hk', Below.heap_setCell _ _ _ _ (fun e => hne (by rw [e]))]
    exact Below.heap_setCell _ _ _ _ (fun e => hne (by rw [e]))⟩
set_option maxHeartbeats 1000000 in
set_option maxRecDepth 20000 in
theorem textf_any (B : Nat) (v : Value) (bs : List Nat) (w : World) (hI : Inp G w B v bs) :
    Calls Try.prog 38 #[.pointer (some ⟨B, 0, none⟩)] w (FieldPost G (TextR bs) B w) := by
  have HI : Hid (Inp G w B v bs) := hI
  have hB := hI.lt
  have hcB := hI.box.cell
  have hfB := hI.box.frozen
  clear hI
  have hne : ¬ w.heap.size = B := by omega
  go_enter Try.func38, Try.ntmps38
  go_wp2_with fail
  refine (rnum_any B v bs _ (HI.out.below (((Below.refl _ w).alloc (Nat.le_refl _) _).mono (by omega)))).mono ?_
  rintro e w1 (⟨n, r, v', hN, rfl, rfl, hI'⟩ | ⟨hX, z, rfl, (rfl | ⟨v', rfl⟩)⟩)
  · rw [World.setCell_alloc_past _ _ _ _ hB] at hI'
    have HI' : Hid (Inp G _ B v' r) := hI'
    obtain ⟨a, cap, rfl, hlc, hcm, hat⟩ := hI'.val
    obtain ⟨g, off, rfl, ⟨hgB, rfl⟩, hc⟩ := hat
    have HC : Hid (∀ i, i < r.length → _) := hc
    have HN : Hid (Fi.Num bs n r) := hN
    have H8 : Hid (∀ x ∈ r, x < 256) := hI'.byte
    have hn62 := hN.2
    clear hI' hc hN
    obtain ⟨L, hL⟩ : ∃ L, L = r.length := ⟨_, rfl⟩
    have HL : Is L r.length := ⟨hL⟩
    rw [← hL] at hlc
    rw [← hL] at HI' HC ⊢
    clear hL
    obtain ⟨m, hm⟩ : ∃ m, m = min 4096 L := ⟨_, rfl⟩
    have hmin : (if (L : Int) < 4096 then (L : Int) else 4096) = (m : Int) := by split <;> omega
    have hmin2 : (if L < 4096 then (L : Int) else 4096) = (m : Int) := by split <;> omega
    have HM : Is m (min 4096 L) := ⟨hm⟩
    by_cases hbig : m < n
    · have i1 : decide ((m : Int) < (n : Int)) = true := by simp; omega
      have HX : Hid (∀ f rest, ¬ TextR bs f rest) := fun f rest ⟨n', r', hN', h1, h2, _⟩ => by
        have e := Fi.varint_inj n n' r r' (HN.out.1.symm.trans hN'.1)
        have e1 := e.1
        have e2 := congrArg List.length e.2
        have := HL.eq
        omega
      clear hm
      go_wp2_with fail
      refine bodyPost_ret (results38 rfl _ _ w.heap.size ⟨0, 0, 0, ByteArray.empty⟩ _ rfl rfl (box_at' _ ⟨0, 0, 0, ByteArray.empty⟩ _ (size_set _ _ _))) rfl ?_
      exact .inr ⟨HX.out, _, rfl, grown_set_alloc _ _ _ _⟩
    · have i1 : decide ((m : Int) < (n : Int)) = false := by simp; omega
      have hnL : n ≤ L := by omega
      have hn4 : n ≤ 4096 := by omega
      clear hm
      have HTR : Hid (TextR bs ⟨0, 1, 0, tb (r.take n)⟩ (r.drop n)) := ⟨n, r, HN.out, hn4, by rw [← HL.eq]; exact hnL, rfl, rfl⟩
      have HCV := str_at (fun i hi => HC.out i (by rw [HL.eq]; exact hi)) H8.out n cap (by rw [← HL.eq]; exact hnL)
      generalize tb (r.take n) = x at *
      have HADV : Hid (∀ off', (off' = off + n ∨ n = cap) → Inp g (((w.setCell ⟨B, 0, none⟩ (.slice (some ⟨g, off, none⟩) L cap)).setCell ⟨B, 0, none⟩ (.slice (some ⟨g, off', none⟩) (L - n) (cap - n))).alloc (.cells #[.int .i64 0, .int .i64 0, .int .i64 0, .string ByteArray.empty] 38)) B (.slice (some ⟨g, off', none⟩) (L - n) (cap - n)) (r.drop n)) := fun off' ho => by
        have h := Inp.adv HI'.out HL.eq.symm ⟨hgB, rfl⟩ (fun i hi => HC.out i (by rw [HL.eq]; exact hi)) n hnL hlc hcm off' ho
        rw [World.setCell_alloc_past _ _ _ _ (by rw [size_set]; exact hB)] at h
        exact h
      by_cases hcap : n = cap
      · subst hcap
        obtain rfl : L = n := by omega
        have HA2 := HADV.out off (.inr rfl)
        rw [Nat.sub_self] at HA2
        have HA3 : Hid (Inp g _ B _ (r.drop L)) := HA2
        clear HA2
        go_wp2_with fail
        refine bodyPost_ret (results38 rfl _ _ w.heap.size ⟨0, 1, 0, x⟩ _ rfl rfl ((box_at' _ ⟨0, 1, 0, x⟩ _ (by rw [size_set, size_set])).alloc _)) rfl ?_
        exact .inl ⟨_, _, _, HTR.out, rfl, grown_set_set _ _ _ _ _ _, (HA3.out.realloc (by rw [size_set, size_set]; exact hB)).alloc _⟩
      · have hcap' : ¬ (n : Int) = (cap : Int) := by omega
        go_wp2_with fail
        refine bodyPost_ret (results38 rfl _ _ w.heap.size ⟨0, 1, 0, x⟩ _ rfl rfl ((box_at' _ ⟨0, 1, 0, x⟩ _ (by rw [size_set, size_set])).alloc _)) rfl ?_
        exact .inl ⟨_, _, _, HTR.out, rfl, grown_set_set _ _ _ _ _ _, ((HADV.out _ (.inl rfl)).realloc (by rw [size_set, size_set]; exact hB)).alloc _⟩
  · go_wp2_with fail
    refine bodyPost_ret (results38 rfl _ _ w.heap.size ⟨0, 0, 0, ByteArray.empty⟩ _ rfl rfl (box_at' _ ⟨0, 0, 0, ByteArray.empty⟩ _ rfl)) rfl ?_
    exact .inr ⟨fun f rest ⟨n, r, h, _⟩ => hX n r h, _, rfl, World.grownBy_alloc w _ _⟩
  · go_wp2_with fail
    refine bodyPost_ret (results38 rfl _ _ w.heap.size ⟨0, 0, 0, ByteArray.empty⟩ _ rfl rfl (box_at' _ ⟨0, 0, 0, ByteArray.empty⟩ _ (size_set _ _ _))) rfl ?_
    exact .inr ⟨fun f rest ⟨n, r, h, _⟩ => hX n r h, _, rfl, grown_set_alloc _ _ _ _⟩
end Go.Proofs.Ytpbobmhffdmmmaa
