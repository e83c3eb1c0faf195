/- Proved: fieldsOf's function goes through the fields of the tag that are of the kind. -/
import Derived.Test.YtpbobmhffdmmmaaRng
import Derived.Test.YtpbobmhffdmmmaaOwn
import Derived.Test.YtpbobmhffdmmmaaFault
namespace Go.Proofs.Ytpbobmhffdmmmaa
open Go.RowKit Go.Shelf
attribute [local go_sem] Oper.semAt_some
def hit (tag kind : Int) (f : Fv) : Bool := f.tag == tag && f.kind == kind
theorem filter_take_succ (p : Fv → Bool) (fs : List Fv) (k : Nat) (hk : k < fs.length) : (fs.take (k + 1)).filter p = (fs.take k).filter p ++ (if p (fs.getD k fv0) then [fs.getD k fv0] else []) := by
  rw [List.take_succ_eq_append_getElem hk, List.filter_append, List.getD_eq_getElem?_getD, List.getElem?_eq_getElem hk, Option.getD_some]
  by_cases h : p fs[k] = true
  · simp [h]
  · simp [h]
def PreO (fs : List Fv) (tag kind : Int) (xs : List Fv) (x : Fv) : Prop := ∃ k, k < fs.length ∧ x = fs.getD k fv0 ∧ hit tag kind x = true ∧ xs = (fs.take k).filter (hit tag kind)
def StopO (fs : List Fv) (tag kind : Int) (xs : List Fv) : Prop := ∃ pre x, xs = pre ++ [x] ∧ PreO fs tag kind pre x
theorem FieldsL.keptAt {w w' : World} {a : Option Addr} {len : Nat} {fs : List Fv} (h : FieldsL w a len fs) (hb : ∀ b off, a = some ⟨b, off, none⟩ → 0 < len → w'.heap[b]? = w.heap[b]?) : FieldsL w' a len fs := by
  refine ⟨h.1, h.2.1, ?_⟩
  rcases h.2.2 with h0 | ⟨b, off, e, hc⟩
  · exact .inl h0
  · by_cases hl : len = 0
    · exact .inl hl
    · have hbb := hb b off e (by omega)
      refine .inr ⟨b, off, e, fun i hi => ?_⟩
      have c := hc i hi
      have ee : ∀ j, w'.cell? ⟨b, j, none⟩ = w.cell? ⟨b, j, none⟩ := fun j => World.cell?_of_block (w := w) hbb
      exact ⟨(ee _).trans c.tag, (ee _).trans c.kind, (ee _).trans c.n, (ee _).trans c.s⟩
theorem FieldsL.block {w : World} {a : Option Addr} {len : Nat} {fs : List Fv} (h : FieldsL w a len fs) {b off : Nat} (e : a = some ⟨b, off, none⟩) (hl : 0 < len) : b < w.heap.size := by
  rcases h.2.2 with h0 | ⟨b', off', e', hc⟩
  · omega
  · rw [e] at e'
    cases e'
    exact block_lt_of_cell (hc 0 hl).tag
set_option maxHeartbeats 2000000 in
set_option maxRecDepth 20000 in
theorem of_yields (n : Nat) (w : World) (Bl Bt Bk : Nat) (a : Option Addr) (len cap : Nat) (fs : List Fv) (tag kind : Int) (hl : Boxed w Bl 22 (.slice a len cap)) (ht : Boxed w Bt 3 (.int .i64 tag)) (hk : Boxed w Bk 3 (.int .i64 kind)) (hF : FieldsL w a len fs) (hlen : len ≤ 9223372036854775807)
    (K : Nat → Prop) (hKt : K Bt) (hKk : K Bk) (hKb : ∀ b off, a = some ⟨b, off, none⟩ → 0 < len → K b) :
    Yields n 35 #[.pointer (some ⟨Bl, 0, none⟩), .pointer (some ⟨Bt, 0, none⟩), .pointer (some ⟨Bk, 0, none⟩)] (fun f : Fv => #[fv f]) K (PreO fs tag kind) (fun xs => xs = fs.filter (hit tag kind)) (StopO fs tag kind) w := by
  intro J Jx W hz hb hJ hJx hY h0
  obtain ⟨X, hX⟩ : ∃ X, X = w.heap.size + 2 := ⟨_, rfl⟩
  have HJ : Hid (∀ s A B, J s A → A.grownBy B (some X) → J s B) := by rw [hX]; exact hJ
  have HY : Hid (∀ pre x A, J pre A → X < A.heap.size → PreO fs tag kind pre x → YieldAt Fence.wide (n - 1) Try.prog (w.heap.size + 1) #[fv x] A fun e B =>
      (e = .returned (.bool true) ∧ J (pre ++ [x]) B ∧ Kept K A B) ∨ (e = .returned (.bool false) ∧ Jx (pre ++ [x]) B)) := by rw [hX]; exact hY
  have hlW : W.cell? ⟨Bl, 0, none⟩ = some (.slice a len cap) := (hb.cell (p := ⟨Bl, 0, none⟩) hl.lt).trans hl.cell
  have HT0 : Hid (W.cell? ⟨Bt, 0, none⟩ = some (.int .i64 tag)) := (hb.cell (p := ⟨Bt, 0, none⟩) ht.lt).trans ht.cell
  have HK0 : Hid (W.cell? ⟨Bk, 0, none⟩ = some (.int .i64 kind)) := (hb.cell (p := ⟨Bk, 0, none⟩) hk.lt).trans hk.cell
  have HF0 : Hid (FieldsL W a len fs) := hF.below hb
  have HH0 : Hid (J [] W) := h0
  have hXW : X ≤ W.heap.size := by omega
  have HKB : Hid (∀ b off, a = some ⟨b, off, none⟩ → 0 < len → K b) := hKb
  clear hY hJ hJx h0 hz hb hl ht hk hF hX hKb
  generalize w.heap.size + 1 = l at *
  refine callsIn_of_wp Try.func35 rfl trivial ?_ rfl
  simp only [Try.ntmps35, List.size_toArray, List.length_cons, List.length_nil, Nat.reduceAdd, Nat.reduceSub, Array.replicate_succ, Array.replicate_zero, List.push_toArray, List.append_toArray, List.nil_append, List.cons_append]
  gi_wp2_with fail
  gi_loopw [9] (fun s9 wr => ∃ k : Nat, k ≤ len ∧ s9 = .int .i64 k ∧ J ((fs.take k).filter (hit tag kind)) wr ∧ wr.cell? ⟨Bt, 0, none⟩ = some (.int .i64 tag) ∧ wr.cell? ⟨Bk, 0, none⟩ = some (.int .i64 kind) ∧ FieldsL wr a len fs ∧ X ≤ wr.heap.size) (fun s9 _ => len - (intOf s9).toNat)
  case atStart => exact ⟨0, by omega, rfl, HH0.out, HT0.out, HK0.out, HF0.out, hXW⟩
  case round =>
    obtain ⟨k, hk, rfl, hj, ct, ck, hf, hx⟩ := hrel
    have HJr : Hid (J ((fs.take k).filter (hit tag kind)) wr) := hj
    have HF : Hid (FieldsL wr a len fs) := hf
    clear hj hf HH0 HT0 HK0 HF0
    by_cases hlt : k < len
    · have i0 : (k : Int) < (len : Int) := by omega
      have j0 : (0 : Int) ≤ (k : Int) := Int.natCast_nonneg _
      have hkl : k < fs.length := by rw [HF.out.1]; exact hlt
      obtain ⟨b, off, rfl, hc⟩ : ∃ b off, a = some ⟨b, off, none⟩ ∧ ∀ i, i < len → FieldAt wr b (off + i * 4) (fs.getD i fv0) := by
        rcases HF.out.2.2 with h | h
        · omega
        · exact h
      obtain ⟨c0, c1, c2, c3⟩ := hc k hlt
      have HTS := filter_take_succ (hit tag kind) fs k hkl
      obtain ⟨f, hfd⟩ : ∃ f, f = fs.getD k fv0 := ⟨_, rfl⟩
      rw [← hfd] at c0 c1 c2 c3 HTS
      have HTS' : Is ((fs.take (k + 1)).filter (hit tag kind)) ((fs.take k).filter (hit tag kind) ++ (if hit tag kind f then [f] else [])) := ⟨HTS⟩
      have HP : Hid (hit tag kind f = true → PreO fs tag kind ((fs.take k).filter (hit tag kind)) f) := fun hh => ⟨k, hkl, hfd, hh, rfl⟩
      have hbk : K b := HKB.out b off rfl (by omega)
      have hbl : b < wr.heap.size := block_lt_of_cell (hc k hlt).tag
      have htl : Bt < wr.heap.size := block_lt_of_cell ct
      have hkl2 : Bk < wr.heap.size := block_lt_of_cell ck
      clear hc HTS hfd hkl
      by_cases hh : hit tag kind f = true
      · have h12 : f.tag = tag ∧ f.kind = kind := by unfold hit at hh; simpa using hh
        have b1 : (f.tag == tag) = true := by simpa using h12.1
        have b2 : (f.kind == kind) = true := by simpa using h12.2
        rw [if_pos hh] at HTS'
        have HJ2 : Hid (J ((fs.take k).filter (hit tag kind)) (boxed wr f)) := HJ.out _ _ _ HJr.out (World.grownBy_alloc wr _ _)
        have hlx : X < (boxed wr f).heap.size := by rw [size_alloc1]; omega
        obtain ⟨fn, tmps, assign, body, hy, hRR⟩ := HY.out _ f (boxed wr f) HJ2.out hlx (HP.out hh)
        have HPh : Hid (PreO fs tag kind ((fs.take k).filter (hit tag kind)) f) := HP.out hh
        clear h12 hh HP
        gi_wp2_with fail
        refine ⟨fun h => by simp [Fence.wide] at h, ?_⟩
        refine hRR.mono ?_
        clear hRR
        rintro e W3 (⟨rfl, hJ3, hk3⟩ | ⟨rfl, hJx3⟩)
        · have HJ3 : Hid (J ((fs.take (k + 1)).filter (hit tag kind)) W3) := by rw [HTS'.eq]; exact hJ3
          have hbx : ∀ j, j < wr.heap.size → (boxed wr f).heap[j]? = wr.heap[j]? := fun j hj => Below.heap_alloc _ _ _ hj
          have hsame : ∀ j, K j → j < wr.heap.size → W3.heap[j]? = wr.heap[j]? := fun j hj hl => (hk3.same j hj (by rw [size_alloc1]; omega)).trans (hbx j hl)
          have ct3 : W3.cell? ⟨Bt, 0, none⟩ = some (.int .i64 tag) := (World.cell?_of_block (w := wr) (hsame Bt hKt htl)).trans ct
          have ck3 : W3.cell? ⟨Bk, 0, none⟩ = some (.int .i64 kind) := (World.cell?_of_block (w := wr) (hsame Bk hKk hkl2)).trans ck
          have HF3 : Hid (FieldsL W3 (some ⟨b, off, none⟩) len fs) := HF.out.keptAt (fun b' off' e' _ => by cases e'; exact hsame b hbk hbl)
          have hx3 : X ≤ W3.heap.size := by have := hk3.size; rw [size_alloc1] at this; omega
          have HCT : Hid (W3.cell? ⟨Bt, 0, none⟩ = some (.int .i64 tag)) := ct3
          have HCK : Hid (W3.cell? ⟨Bk, 0, none⟩ = some (.int .i64 kind)) := ck3
          clear hJ3 hk3 hsame hbx ct3 ck3
          gi_wp2_with fail
          go_roundw
          case rel => exact ⟨k + 1, by omega, by go_num, HJ3.out, HCT.out, HCK.out, HF3.out, hx3⟩
          case measure => (simp [intOf]) <;> omega
        · have HJX : Hid (Jx ((fs.take k).filter (hit tag kind) ++ [f]) W3) := hJx3
          clear hJx3
          gi_wp2_with fail
          refine bodyPost_ret (results_none rfl _ _ _) rfl ?_
          exact ⟨⟨_, rfl⟩, .inr ⟨_, ⟨_, f, rfl, HPh.out⟩, HJX.out⟩⟩
      · rw [if_neg hh, List.append_nil] at HTS'
        have HJ3 : Hid (J ((fs.take (k + 1)).filter (hit tag kind)) (boxed wr f)) := by rw [HTS'.eq]; exact HJ.out _ _ _ HJr.out (World.grownBy_alloc wr _ _)
        have HCT : Hid ((boxed wr f).cell? ⟨Bt, 0, none⟩ = some (.int .i64 tag)) := (World.cell?_of_block (w := wr) (Below.heap_alloc _ _ _ htl)).trans ct
        have HCK : Hid ((boxed wr f).cell? ⟨Bk, 0, none⟩ = some (.int .i64 kind)) := (World.cell?_of_block (w := wr) (Below.heap_alloc _ _ _ hkl2)).trans ck
        have HF3 : Hid (FieldsL (boxed wr f) (some ⟨b, off, none⟩) len fs) := HF.out.below ((Below.refl _ _).alloc (Nat.le_refl _) _)
        have hx3 : X ≤ (boxed wr f).heap.size := by rw [size_alloc1]; omega
        by_cases b1' : f.tag = tag
        · have b1 : (f.tag == tag) = true := by simpa using b1'
          have b2 : (f.kind == kind) = false := by
            cases hb2 : (f.kind == kind) with
            | false => rfl
            | true => exact absurd (show hit tag kind f = true by unfold hit; rw [b1, hb2]; rfl) hh
          clear b1' hh
          gi_wp2_with fail
          refine ⟨fun _ h => (by cases h), ?_⟩
          gi_wp2_with fail
          go_roundw
          case rel => exact ⟨k + 1, by omega, by go_num, HJ3.out, HCT.out, HCK.out, HF3.out, hx3⟩
          case measure => (simp [intOf]) <;> omega
        · have b1 : (f.tag == tag) = false := by simpa using b1'
          clear b1' hh
          gi_wp2_with fail
          refine ⟨fun _ h => (by cases h), ?_⟩
          gi_wp2_with fail
          go_roundw
          case rel => exact ⟨k + 1, by omega, by go_num, HJ3.out, HCT.out, HCK.out, HF3.out, hx3⟩
          case measure => (simp [intOf]) <;> omega
    · have i0 : ¬ (k : Int) < (len : Int) := by omega
      have HT : Is (fs.take k) fs := ⟨List.take_of_length_le (by rw [HF.out.1]; omega)⟩
      rw [HT.eq] at HJr
      gi_wp2_with fail
      go_end0
      exact ⟨⟨_, rfl⟩, .inl HJr.out⟩
end Go.Proofs.Ytpbobmhffdmmmaa
