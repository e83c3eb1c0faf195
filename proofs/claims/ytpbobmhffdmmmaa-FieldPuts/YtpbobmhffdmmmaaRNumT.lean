/- Proved: the document's Num, Texts, Text; SameTexts of like texts. -/
import Derived.Test.YtpbobmhffdmmmaaTexts
namespace Go.Proofs.Ytpbobmhffdmmmaa
open Go.RowKit
theorem head_of_take {fs : List Fv} {p : Fv → Bool} {k : Nat} (hk : k < fs.length) (h0 : (fs.take k).filter p = []) (hh : p (fs.getD k fv0) = true) : (fs.filter p).head? = some (fs.getD k fv0) := by
  have e2 : fs.filter p = (fs.take k).filter p ++ (fs.drop k).filter p := by rw [← List.filter_append, List.take_append_drop]
  rw [e2, h0, List.nil_append, drop_getD fs k hk, List.filter_cons, if_pos hh]
  rfl
set_option maxHeartbeats 1000000 in
set_option maxRecDepth 20000 in
theorem rnumt_any (a : Option Addr) (len cap : Nat) (tag : Int) (fs : List Fv) (w : World) (hF : FieldsL w a len fs) (hlen : len ≤ 9223372036854775807) : Calls Try.prog 17 #[.slice a len cap, .int .i64 tag] w (numPost fs tag w) := by
  have HF : Hid (FieldsL w a len fs) := hF
  clear hF
  go_enter Try.func17, Try.ntmps17
  go_wp2_with fail
  go_loopw [6] (fun s6 wr => ∃ k : Nat, k ≤ len ∧ s6 = .int .i64 k ∧ (fs.take k).filter (hit tag 0) = [] ∧ wr = w) (fun s6 _ => len - (intOf s6).toNat)
  case atStart => exact ⟨0, by omega, rfl, rfl, rfl⟩
  case round =>
    obtain ⟨k, hk, rfl, hft, hw⟩ := hrel
    have hw := hw.symm
    subst hw
    have HFT : Is ((fs.take k).filter (hit tag 0)) [] := ⟨hft⟩
    clear hft
    by_cases hlt : k < len
    · have i0 : (k : Int) < (len : Int) := by omega
      have j0 : (0 : Int) ≤ (k : Int) := Int.natCast_nonneg _
      have hkl : k < fs.length := by rw [HF.out.1]; exact hlt
      obtain ⟨b, off, rfl, hc⟩ : ∃ b off, a = some ⟨b, off, none⟩ ∧ ∀ i, i < len → FieldAt w b (off + i * 4) (fs.getD i fv0) := by
        rcases HF.out.2.2 with h | h
        · omega
        · exact h
      obtain ⟨c0, c1, c2, c3⟩ := hc k hlt
      have HTS : Is ((fs.take (k + 1)).filter (hit tag 0)) ((fs.take k).filter (hit tag 0) ++ (if hit tag 0 (fs.getD k fv0) then [fs.getD k fv0] else [])) := ⟨filter_take_succ (hit tag 0) fs k hkl⟩
      rw [HFT.eq, List.nil_append] at HTS
      have HHD : Hid (hit tag 0 (fs.getD k fv0) = true → (fs.filter (hit tag 0)).head? = some (fs.getD k fv0)) := fun hh => head_of_take hkl HFT.eq hh
      clear hc hkl
      generalize fs.getD k fv0 = f at *
      by_cases hh : hit tag 0 f = true
      · have h12 : f.tag = tag ∧ f.kind = 0 := by unfold hit at hh; simpa using hh
        have b1 : (f.tag == tag) = true := by simpa using h12.1
        have b2 : (f.kind == 0) = true := by simpa using h12.2
        have HX := HHD.out hh
        clear h12 hh HHD
        go_wp2_with fail
        go_ret2
        exact ⟨.inl ⟨f, HX, rfl⟩, Below.refl _ _⟩
      · rw [if_neg hh] at HTS
        by_cases b1' : f.tag = tag
        · have b1 : (f.tag == tag) = true := by simpa using b1'
          have b2 : (f.kind == 0) = false := by
            cases hb2 : (f.kind == 0) with
            | false => rfl
            | true => exact absurd (show hit tag 0 f = true by unfold hit; rw [b1, hb2]; rfl) hh
          clear b1' hh
          go_wp2_with fail
          go_roundw
          case rel => exact ⟨k + 1, by omega, by go_num, HTS.eq, trivial⟩
          case measure => (simp [intOf]) <;> omega
        · have b1 : (f.tag == tag) = false := by simpa using b1'
          clear b1' hh
          go_wp2_with fail
          go_roundw
          case rel => exact ⟨k + 1, by omega, by go_num, HTS.eq, trivial⟩
          case measure => (simp [intOf]) <;> omega
    · have i0 : ¬ (k : Int) < (len : Int) := by omega
      have HT : Is (fs.take k) fs := ⟨List.take_of_length_le (by rw [HF.out.1]; omega)⟩
      rw [HT.eq] at HFT
      go_wp2_with fail
      go_ret2
      exact ⟨.inr ⟨by rw [HFT.eq]; rfl, rfl⟩, Below.refl _ _⟩
/- 'append(x, s)' of one text behind a slice of the call's own -/
theorem append_str {ops : Array Oper} {rest : List Oper} {o : Oper} {a : Act} {Q : Exit → Act → World → Prop} (hgd : o.guard = none) (s x : Operand)
    (ho : o.op = .call { callee := .builtin .append, args := #[s, x], argTypes := #[44, 44] }) (W : World) (N : Nat) (v : Value) (n : Nat) (vs : List Value) (hs : a.eval s = v) (hown : W.ownsRow N 9 1 v n vs)
    (ad : Addr) (c : Nat) (t : ByteArray) (hx : a.eval x = .slice (some ad) 1 c) (hnews : ∀ j u, [Value.string t][j]? = some u → W.cell? (ad.add j) = some u) (hb : n + 1 ≤ 50000) (hN : N ≤ W.heap.size)
    (h : ∀ v' w', w'.ownsRow N 9 1 v' (n + 1) (vs ++ [.string t]) → Grew W v w' v' → wpList Try.prog ops Q rest (a.put o.dst v') w') : wpList Try.prog ops Q (o :: rest) a W := by
  obtain ⟨v', w', hr, h2, h3, h4, h5⟩ := run_append_own_at (P := Try.prog) W N 44 o.type 9 Try.t9 (.string ByteArray.empty) 1 16 Try.underlying44 info9 rfl rfl rfl rfl (by omega) v n vs hown ad 1 c [.string t] rfl hnews (fun u hu => by rw [List.mem_singleton.1 hu]; rfl) (by unfold maxLen; omega) (by omega) hN
  refine wpList_plain hgd fun K hK => ?_
  unfold Oper.wp execOp
  simp only [ho, resolve, invoke, builtin, Sem.run_bind, Sem.run_pure, Result.andThen_ok, List.map_toArray, List.map_cons, List.map_nil, hs, hx, hr]
  exact hK _ _ (h v' w' h2 ⟨h3, h5.imp id (fun h => ⟨_, h, Nat.le_refl _⟩)⟩)
set_option maxHeartbeats 1000000 in
set_option maxRecDepth 20000 in
theorem rtexts_any (a : Option Addr) (len cap : Nat) (tag : Int) (fs : List Fv) (w : World) (hF : FieldsL w a len fs) (hlen : len ≤ 40000) : Calls Try.prog 22 #[.slice a len cap, .int .i64 tag] w fun e w' => ∃ v, e = .returned v ∧ w'.ownsRow w.heap.size 9 1 v (fs.filter (hit tag 1)).length (tcells (fs.filter (hit tag 1))) ∧ Below w.heap.size w w' := by
  have HF : Hid (FieldsL w a len fs) := hF
  clear hF
  go_enter Try.func22, Try.ntmps22
  go_wp2_with fail
  go_loopw [5, 6] (fun s5 s6 wr => ∃ k : Nat, k ≤ len ∧ s6 = .int .i64 k ∧ wr.ownsRow w.heap.size 9 1 s5 ((fs.take k).filter (hit tag 1)).length (tcells ((fs.take k).filter (hit tag 1))) ∧ Below w.heap.size w wr) (fun _ s6 _ => len - (intOf s6).toNat)
  case atStart => exact ⟨0, by omega, rfl, ⟨rfl, .inl ⟨rfl, rfl⟩⟩, Below.refl _ _⟩
  case round =>
    obtain ⟨k, hk, rfl, hO, hB⟩ := hrel
    have HB : Hid (Below w.heap.size w wr) := hB
    have HO : Hid (wr.ownsRow w.heap.size 9 1 _ ((fs.take k).filter (hit tag 1)).length (tcells ((fs.take k).filter (hit tag 1)))) := hO
    have hsz := hB.size
    clear hB hO
    by_cases hlt : k < len
    · have i0 : (k : Int) < (len : Int) := by omega
      have j0 : (0 : Int) ≤ (k : Int) := Int.natCast_nonneg _
      have hkl : k < fs.length := by rw [HF.out.1]; exact hlt
      obtain ⟨b, off, rfl, hc⟩ : ∃ b off, a = some ⟨b, off, none⟩ ∧ ∀ i, i < len → FieldAt w b (off + i * 4) (fs.getD i fv0) := by
        rcases HF.out.2.2 with h | h
        · omega
        · exact h
      have hbl : b < w.heap.size := block_lt_of_cell (hc k hlt).tag
      obtain ⟨c0, c1, c2, c3⟩ := (hc k hlt).below HB.out hbl
      have HTS : Is ((fs.take (k + 1)).filter (hit tag 1)) ((fs.take k).filter (hit tag 1) ++ (if hit tag 1 (fs.getD k fv0) then [fs.getD k fv0] else [])) := ⟨filter_take_succ (hit tag 1) fs k hkl⟩
      have hfl : ((fs.take k).filter (hit tag 1)).length ≤ k := Nat.le_trans (List.length_filter_le _ _) (by rw [List.length_take]; omega)
      clear hc hkl
      generalize fs.getD k fv0 = f at *
      obtain ⟨xs, hxs⟩ : ∃ xs, xs = (fs.take k).filter (hit tag 1) := ⟨_, rfl⟩
      rw [← hxs] at HTS hfl HO
      clear hxs
      by_cases hh : hit tag 1 f = true
      · have h12 : f.tag = tag ∧ f.kind = 1 := by unfold hit at hh; simpa using hh
        have b1 : (f.tag == tag) = true := by simpa using h12.1
        have b2 : (f.kind == 1) = true := by simpa using h12.2
        rw [if_pos hh] at HTS
        clear h12 hh
        go_wp2_with (first | (refine append_str rfl (.tmp 28) (.tmp 34) rfl _ w.heap.size _ xs.length (tcells xs) rfl (own_alloc1 HO.out _) ⟨wr.heap.size, 0, none⟩ 1 f.s rfl (str_new wr f.s) (by omega) (by simp; omega) ?_; intro v' w' hO2 hG2; have HO2 := (show Hid (w'.ownsRow w.heap.size 9 1 v' (xs.length + 1) (tcells xs ++ [.string f.s])) from hO2); have HB2 : Hid (Below w.heap.size w w') := HB.out.trans ((((Below.refl _ wr).alloc (Nat.le_refl _) _).mono hsz).trans (hG2.below (own_alloc1 HO.out _) (by simp; omega))); clear hO2 hG2))
        go_roundw
        case rel => exact ⟨k + 1, by omega, by go_num, by rw [HTS.eq, List.length_append, tcells, List.map_append]; exact HO2.out, HB2.out⟩
        case measure => (simp [intOf]) <;> omega
      · rw [if_neg hh, List.append_nil] at HTS
        by_cases b1' : f.tag = tag
        · have b1 : (f.tag == tag) = true := by simpa using b1'
          have b2 : (f.kind == 1) = false := by
            cases hb2 : (f.kind == 1) with
            | false => rfl
            | true => exact absurd (show hit tag 1 f = true by unfold hit; rw [b1, hb2]; rfl) hh
          clear b1' hh
          go_wp2_with fail
          go_roundw
          case rel => exact ⟨k + 1, by omega, by go_num, by rw [HTS.eq]; exact HO.out, HB.out⟩
          case measure => (simp [intOf]) <;> omega
        · have b1 : (f.tag == tag) = false := by simpa using b1'
          clear b1' hh
          go_wp2_with fail
          go_roundw
          case rel => exact ⟨k + 1, by omega, by go_num, by rw [HTS.eq]; exact HO.out, HB.out⟩
          case measure => (simp [intOf]) <;> omega
    · have i0 : ¬ (k : Int) < (len : Int) := by omega
      have HT : Is (fs.take k) fs := ⟨List.take_of_length_le (by rw [HF.out.1]; omega)⟩
      rw [HT.eq] at HO
      go_wp2_with fail
      go_ret
      exact ⟨_, rfl, HO.out, HB.out⟩
/- a slice of texts -/
def StrL (w : World) (a : Option Addr) (n : Nat) (xs : List Fv) : Prop := xs.length = n ∧ (n = 0 ∨ ∃ b off, a = some ⟨b, off, none⟩ ∧ ∀ i, i < n → w.cell? ⟨b, off + i, none⟩ = some (.string (xs.getD i fv0).s))
theorem own_strs {w : World} {N n : Nat} {v : Value} {xs : List Fv} (h : w.ownsRow N 9 1 v n (tcells xs)) : ∃ a cap, v = .slice a n cap ∧ StrL w a n xs := by
  have hl : xs.length = n := by have := h.1; simpa [tcells] using this
  rcases h.2 with ⟨hv, hn⟩ | ⟨g, cap, cur, hv, _, hh, hc, _, _, ht⟩
  · exact ⟨none, 0, by rw [hn]; exact hv, hl, .inl hn⟩
  · refine ⟨_, cap, hv, hl, .inr ⟨g, 0, rfl, fun i hi => ?_⟩⟩
    rw [cell_of_row w g _ cur 9 (0, 0) hh, Nat.zero_add, ← Array.getElem?_toList]
    have e : (cur.toList.take (n * 1))[i]? = (tcells xs)[i]? := by rw [ht]
    rw [Nat.mul_one, List.getElem?_take_of_lt hi] at e
    rw [e, tcells, List.getElem?_map, List.getElem?_eq_getElem (by omega), List.getD_eq_getElem?_getD, List.getElem?_eq_getElem (by omega)]
    rfl
theorem StrL.below {w w' : World} {a : Option Addr} {n : Nat} {xs : List Fv} (h : StrL w a n xs) (hb : Below w.heap.size w w') : StrL w' a n xs := by
  refine ⟨h.1, ?_⟩
  rcases h.2 with h0 | ⟨b, off, e, hc⟩
  · exact .inl h0
  · exact .inr ⟨b, off, e, fun i hi => (hb.cell (p := ⟨b, off + i, none⟩) (block_lt_of_cell (hc i hi))).trans (hc i hi)⟩
set_option maxHeartbeats 1000000 in
set_option maxRecDepth 20000 in
theorem rtextt_any (a : Option Addr) (len cap : Nat) (tag : Int) (fs : List Fv) (w : World) (hF : FieldsL w a len fs) (hlen : len ≤ 40000) : Calls Try.prog 19 #[.slice a len cap, .int .i64 tag] w (textPost fs tag w) := by
  have T := rtexts_any a len cap tag fs w hF hlen
  have hfl : (fs.filter (hit tag 1)).length ≤ 40000 := Nat.le_trans (List.length_filter_le _ _) (by rw [hF.1]; exact hlen)
  go_enter Try.func19, Try.ntmps19
  go_wp2_with fail
  refine T.mono ?_
  clear T
  rintro e w1 ⟨v, rfl, hO, hB⟩
  obtain ⟨a1, c1, rfl, hS⟩ := own_strs hO
  have HB : Hid (Below w.heap.size w w1) := hB
  clear hO hB hF
  cases hc : fs.filter (hit tag 1) with
  | nil =>
    rw [List.length_nil]
    go_wp2_with fail
    go_ret2
    exact ⟨.inr ⟨by rw [hc]; rfl, rfl⟩, HB.out⟩
  | cons f l =>
    rw [hc] at hS hfl
    have hne : ¬ (((f :: l).length : Nat) : Int) = 0 := by simp; omega
    rcases hS.2 with h0 | ⟨b, off, rfl, hcl⟩
    · simp at h0
    have c0 : w1.cell? ⟨b, off, none⟩ = some (.string f.s) := hcl 0 (by simp)
    have i0 : (0 : Int) < (((f :: l).length : Nat) : Int) := by simp
    have HH : Hid ((fs.filter (hit tag 1)).head? = some f) := by rw [hc]; rfl
    clear hcl hS hc
    generalize (f :: l).length = n at *
    go_wp2_with fail
    go_ret2
    exact ⟨.inl ⟨f, HH.out, rfl⟩, HB.out⟩
set_option maxHeartbeats 1000000 in
set_option maxRecDepth 20000 in
theorem sametexts_yes (a : Option Addr) (n cap : Nat) (a2 : Option Addr) (cap2 : Nat) (xs : List Fv) (ys : List Fv) (hxy : xs.map (·.s) = ys.map (·.s)) (w : World) (hF : StrL w a n xs) (hG : StrL w a2 n ys) (hn : n ≤ 9223372036854775807) :
    Calls Try.prog 20 #[.slice a n cap, .slice a2 n cap2] w fun e w' => e = .returned (.bool true) ∧ Below w.heap.size w w' := by
  have HF : Hid (StrL w a n xs) := hF
  have HG : Hid (StrL w a2 n ys) := hG
  have HXY : Hid (∀ i, i < n → (ys.getD i fv0).s = (xs.getD i fv0).s) := fun i hi => by
    have h1 := hF.1; have h2 := hG.1
    have e := congrArg (fun l : List ByteArray => l[i]?) hxy
    simp only [List.getElem?_map] at e
    rw [List.getElem?_eq_getElem (by omega), List.getElem?_eq_getElem (by omega)] at e
    rw [List.getD_eq_getElem?_getD, List.getD_eq_getElem?_getD, List.getElem?_eq_getElem (by omega), List.getElem?_eq_getElem (by omega)]
    exact (Option.some.inj e).symm
  clear hF hG hxy
  go_enter Try.func20, Try.ntmps20
  go_wp2_with fail
  go_loopw [5] (fun s3 wr => ∃ k : Nat, k ≤ n ∧ s3 = .int .i64 k ∧ Below w.heap.size w wr) (fun s3 _ => n - (intOf s3).toNat)
  case atStart => exact ⟨0, by omega, rfl, Below.refl _ _⟩
  case round =>
    obtain ⟨k, hk, rfl, hB⟩ := hrel
    have HB : Hid (Below w.heap.size w wr) := hB
    by_cases hlt : k < n
    · obtain ⟨b, off, rfl, hc⟩ : ∃ b off, a = some ⟨b, off, none⟩ ∧ ∀ i, i < n → w.cell? ⟨b, off + i, none⟩ = some (.string (xs.getD i fv0).s) := by
        rcases HF.out.2 with h | h
        · omega
        · exact h
      obtain ⟨b2, off2, rfl, hc2⟩ : ∃ b off, a2 = some ⟨b, off, none⟩ ∧ ∀ i, i < n → w.cell? ⟨b, off + i, none⟩ = some (.string (ys.getD i fv0).s) := by
        rcases HG.out.2 with h | h
        · omega
        · exact h
      have c0 : wr.cell? ⟨b, off + k, none⟩ = some (.string (xs.getD k fv0).s) := (HB.out.cell (p := ⟨b, off + k, none⟩) (block_lt_of_cell (hc k hlt))).trans (hc k hlt)
      have d0 : wr.cell? ⟨b2, off2 + k, none⟩ = some (.string (xs.getD k fv0).s) := by
        rw [← HXY.out k hlt]
        exact (HB.out.cell (p := ⟨b2, off2 + k, none⟩) (block_lt_of_cell (hc2 k hlt))).trans (hc2 k hlt)
      generalize (xs.getD k fv0).s = t at *
      clear hc hc2 hB
      have i0 : (k : Int) < (n : Int) := by omega
      have j0 : (0 : Int) ≤ (k : Int) := Int.natCast_nonneg _
      go_wp2_with fail
      go_region
      go_wp2_with fail
      go_roundw
      case rel => exact ⟨k + 1, by omega, by go_num, HB.out.drew⟩
      case measure => (simp [intOf]) <;> omega
    · have hkl : ¬ (k : Int) < (n : Int) := by omega
      go_wp2
      go_ret
      exact ⟨rfl, HB.out⟩
end Go.Proofs.Ytpbobmhffdmmmaa
