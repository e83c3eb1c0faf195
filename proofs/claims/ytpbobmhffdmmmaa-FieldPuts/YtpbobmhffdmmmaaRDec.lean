/- Proved: the document's Decode answers the record that has the bytes, or none. -/
import Derived.Test.YtpbobmhffdmmmaaMathF
import Derived.Test.YtpbobmhffdmmmaaREnc
import Derived.Test.YtpbobmhffdmmmaaDec
import Derived.Deep.Cut
namespace Go.Proofs.Ytpbobmhffdmmmaa
open Go.RowKit
theorem bl_get (s : ByteArray) (i : Nat) (h : i < s.size) : (s[i]'h).toNat = (bl s).getD i 0 := by
  have hi : i < (bl s).length := by rw [bl_length]; exact h
  rw [List.getD_eq_getElem?_getD, List.getElem?_eq_getElem hi, Option.getD_some]
  exact (List.getElem_map (h := hi) UInt8.toNat).symm
theorem getD_lt {bs : List Nat} (h8 : ∀ x ∈ bs, x < 256) (i : Nat) : bs.getD i 0 < 256 := by
  by_cases hi : i < bs.length
  · rw [List.getD_eq_getElem?_getD, List.getElem?_eq_getElem hi]; exact h8 _ (List.getElem_mem hi)
  · rw [List.getD_eq_getElem?_getD, List.getElem?_eq_none (by omega)]; decide
theorem pow8 (j : Nat) (h : j ≤ 8) : (128 : Nat) ^ j ≤ 72057594037927936 := by
  have e : (128 : Nat) ^ 8 = 72057594037927936 := by decide
  rw [← e]
  exact Nat.pow_le_pow_right (by omega) h
theorem pow7 (j : Nat) (h : j ≤ 7) : (128 : Nat) ^ j ≤ 562949953421312 := by
  have e : (128 : Nat) ^ 7 = 562949953421312 := by decide
  rw [← e]
  exact Nat.pow_le_pow_right (by omega) h
theorem wstep (P r n : Nat) (hr : r < 128) (hn : n < P) (hP : P ≤ 72057594037927936) : ∃ q n1 : Nat, wrap64 ((r : Int) * (P : Int)) = (q : Int) ∧ wrap64 ((n : Int) + (q : Int)) = (n1 : Int) ∧ n + P * r = n1 := by
  have hm : P * r ≤ P * 127 := Nat.mul_le_mul_left _ (by omega)
  have e : (r : Int) * (P : Int) = ((P * r : Nat) : Int) := by rw [Int.natCast_mul, Int.mul_comm]
  rw [e]
  generalize P * r = q at *
  refine ⟨q, n + q, ?_, ?_, rfl⟩
  · unfold wrap64; omega
  · unfold wrap64; omega
theorem wmul (P : Nat) (hP : P ≤ 562949953421312) : wrap64 ((P : Int) * 128) = ((P * 128 : Nat) : Int) := by
  unfold wrap64; omega
theorem drop_nat (bs : List Nat) (k : Nat) (hk : k < bs.length) : bs.drop k = bs.getD k 0 :: bs.drop (k + 1) := by
  rw [List.getD_eq_getElem?_getD, List.getElem?_eq_getElem hk, Option.getD_some, List.getElem_cons_drop]
theorem owns_below38 {w w' : World} {N n : Nat} {v : Value} {vs : List Value} {e : TypeId} {k : Nat} (h : w.ownsRow N e k v n vs) (hb : Below w.heap.size w w') : w'.ownsRow N e k v n vs := by
  obtain ⟨h0, h1⟩ := h
  refine ⟨h0, ?_⟩
  rcases h1 with h1 | ⟨g, cap', cur, hv, hN, hh, r⟩
  · exact .inl h1
  · exact .inr ⟨g, cap', cur, hv, hN, (hb.block g (Array.getElem?_eq_some_iff.1 hh).1).trans hh, r⟩
theorem bt_inj {x y : ByteArray} (h : x.toList = y.toList) : x = y := by
  rw [ByteArray.toList_eq, ByteArray.toList_eq] at h
  obtain ⟨x⟩ := x
  obtain ⟨y⟩ := y
  congr
  exact Array.ext' h
theorem big_sum (n P q : Nat) (h1 : n < P) (h2 : q ≤ P * 127) (h3 : P ≤ 72057594037927936) : n + q < 9223372036854775808 := by omega
theorem owns_ne {A B : World} {X N n : Nat} {v : Value} {vs : List Value} {e : TypeId} {k : Nat} (h : A.ownsRow N e k v n vs) (hg : A.grownBy B (some X)) (hne : some X ≠ v.ownBlock) : B.ownsRow N e k v n vs := by
  obtain ⟨h0, h1⟩ := h
  refine ⟨h0, ?_⟩
  rcases h1 with h1 | ⟨g, cap', cur, hv, hN, hh, r⟩
  · exact .inl h1
  · refine .inr ⟨g, cap', cur, hv, hN, (hg.block g (Array.getElem?_eq_some_iff.1 hh).1 (fun e => hne ?_)).trans hh, r⟩
    rw [← e, hv]; rfl
theorem grown_set (w : World) (a : Addr) (v : Value) : w.grownBy (w.setCell a v) (some a.block) :=
  ⟨rfl, rfl, rfl, by rw [size_set]; exact Nat.le_refl _, fun k _ hne => Below.heap_setCell _ _ _ _ (fun e => hne (by rw [e]))⟩
theorem bl_extract2 (s : ByteArray) (i j : Nat) : bl (s.extract i j) = ((bl s).drop i).take (j - i) := by
  unfold bl
  rw [ByteArray.data_extract, Array.toList_extract, List.map_take, List.map_drop]
/- 'string(b)' as one step of a statement whose order is drawn -/
theorem step_str {o : Oper} {a : Act} {w : World} {K : Act → World → Prop} {Q : Exit → Act → World → Prop} (d : Option Tmp) (hd : o.dst = d) (x : Operand) (ho : o.op = .convert 51 9 x) (N n : Nat) (v : Value) (vs : List Nat) (hx : a.eval x = v) (hown : w.ownsRow N 5 1 v n (vs.map V8)) (h8 : ∀ y ∈ vs, y < 256)
    (h : K (a.put d (.string (tb vs))) w) : Oper.wp Try.prog o a w K Q := by
  subst hd
  have e := str_of_own hown h8
  unfold Oper.wp execOp
  simp only [ho, hx, Sem.run_bind, Sem.run_pure, e, Result.andThen_ok]
  exact h
theorem RRead.next {bs : List Nat} {pre : List Fv} {k k' : Nat} {f : Fv} {rest : List Nat} (h : RRead bs pre k) (hf : Raw f) (hd : bs.drop k = Fi.fb (fd f) ++ rest) (hk : k' = k + (Fi.fb (fd f)).length) (hk' : k' ≤ bs.length) : RRead bs (pre ++ [f]) k' := by
  refine ⟨hk', fun x hx => ?_, ?_⟩
  · rcases List.mem_append.1 hx with hx | hx
    · exact h.raw x hx
    · rw [List.mem_singleton.1 hx]; exact hf
  · rw [enc_app, h.eq, hk, List.take_add, hd, List.take_left]
    simp [enc, Fi.enc]
set_option maxHeartbeats 4000000 in
set_option maxRecDepth 20000 in
theorem rdec_any (s : ByteArray) (w : World) (hs : s.size ≤ 65536) : Calls Try.prog 14 #[.string s] w (DecPost (bl s) w) := by
  have HGET : Hid (∀ i (h : i < s.size), (s[i]'h).toNat = (bl s).getD i 0) := bl_get s
  have H8 : Hid (∀ x ∈ bl s, x < 256) := bl_lt s
  obtain ⟨L, hL⟩ : ∃ L, L = s.size := ⟨_, rfl⟩
  have HL : Is (bl s).length L := ⟨by rw [bl_length, hL]⟩
  have hsz : s.size = L := hL.symm
  clear hL
  have hL6 : L ≤ 65536 := by omega
  have hbig' : ¬ (65536 : Int) < (L : Int) := by omega
  go_enter Try.func14, Try.ntmps14
  go_wp2_with fail
  go_loopw [4, 5] (fun s4 s5 wr => ∃ (pre : List Fv) (k : Nat), k ≤ L ∧ s5 = .int .i64 k ∧ RRead (bl s) pre k ∧ wr.ownsRow w.heap.size 38 4 s4 pre.length (pre.flatMap fcells) ∧ Below w.heap.size w wr) (fun _ s5 _ => L - (intOf s5).toNat)
  case atStart => exact ⟨[], 0, by omega, rfl, ⟨by omega, (fun f hf => by cases hf), rfl⟩, ⟨rfl, .inl ⟨rfl, rfl⟩⟩, Below.refl _ _⟩
  case round =>
    obtain ⟨pre, k, hk, rfl, hrd, hO, hB⟩ := hrel
    have HB : Hid (Below w.heap.size w wr) := hB
    have HO : Hid (wr.ownsRow w.heap.size 38 4 _ pre.length (pre.flatMap fcells)) := hO
    have HRD : Hid (RRead (bl s) pre k) := hrd
    obtain ⟨uo, huo⟩ : ∃ uo, uo = u4 := ⟨_, rfl⟩
    subst huo
    have hzr := hB.size
    clear hB hO hrd
    by_cases hlt : k < L
    · have i0 : (k : Int) < (L : Int) := by omega
      have j0 : (0 : Int) ≤ (k : Int) := Int.natCast_nonneg _
      obtain ⟨h, hh⟩ : ∃ h, h = (bl s).getD k 0 := ⟨_, rfl⟩
      have hh8 : h < 256 := by rw [hh]; exact getD_lt H8.out k
      have HH : Is ((bl s).getD k 0) h := ⟨hh.symm⟩
      have hgk : ∀ hx : k < s.size, (s[k]'hx).toNat = h := fun hx => by rw [HGET.out k hx]; exact hh.symm
      have hgi : ∀ hx : k < s.size, (((s[k]'hx).toNat : Nat) : Int) = (h : Int) := fun hx => by rw [hgk hx]
      clear hh
      obtain ⟨tg, htg⟩ : ∃ tg, tg = h / 2 := ⟨_, rfl⟩
      obtain ⟨kd, hkd⟩ : ∃ kd, kd = h % 2 := ⟨_, rfl⟩
      have e1 : (h : Int).tdiv 2 = (tg : Int) := by rw [Int.tdiv_eq_ediv_of_nonneg (by omega)]; omega
      have e2 : (h : Int).tmod 2 = (kd : Int) := by rw [Int.tmod_eq_emod_of_nonneg (by omega)]; omega
      have e1' : (h : Int) / 2 = (tg : Int) := by omega
      have e2' : (h : Int) % 2 = (kd : Int) := by omega
      have HTG : Is (h / 2) tg := ⟨htg.symm⟩
      have HKD : Is (h % 2) kd := ⟨hkd.symm⟩
      have htg7 : tg ≤ 127 := by omega
      have hkd1 : kd ≤ 1 := by omega
      clear htg hkd
      go_upto_region 6 with fail
      have HS : Hid ((fun _ : World => True) wr.drew) := trivial
      refine wp_region_held_drew (S := fun _ => True) (by kernel_rfl) HS.out (fun _ => ?_)
      refine heldTake 0 (some 19) (.string s) rfl rfl (by kernel_rfl) (by kernel_rfl) (by kernel_rfl) (fun _ _ _ h => h) (Or.inl ⟨by rfl, fun w hS => ?_⟩) HS.out ?_
      · (go_simp)
      simp only [Act.put, List.setIfInBounds_toArray, List.set_cons_zero, List.set_cons_succ]
      refine heldTake 1 (some 20) (.int .i64 (k : Int)) rfl rfl (by kernel_rfl) (by kernel_rfl) (by kernel_rfl) (fun _ _ _ h => h) (Or.inl ⟨by rfl, fun w hS => ?_⟩) HS.out ?_
      · (go_simp)
      simp only [Act.put, List.setIfInBounds_toArray, List.set_cons_zero, List.set_cons_succ]
      refine heldTake 2 (some 21) (.int .u8 (h : Int)) rfl rfl (by kernel_rfl) (by kernel_rfl) (by kernel_rfl) (fun _ _ _ h => h) (Or.inl ⟨by rfl, fun w hS => ?_⟩) HS.out ?_
      · (go_simp)
      simp only [Act.put, List.setIfInBounds_toArray, List.set_cons_zero, List.set_cons_succ]
      refine heldTake 3 (some 22) (.int .i64 (h : Int)) rfl rfl (by kernel_rfl) (by kernel_rfl) (by kernel_rfl) (fun _ _ _ h => h) (Or.inl ⟨by rfl, fun w hS => ?_⟩) HS.out ?_
      · (go_simp; rw [IntKind.wrap_i64]; omega)
      simp only [Act.put, List.setIfInBounds_toArray, List.set_cons_zero, List.set_cons_succ]
      refine heldTake 4 (some 23) (.int .i64 (tg : Int)) rfl rfl (by kernel_rfl) (by kernel_rfl) (by kernel_rfl) (fun _ _ _ h => h) (Or.inl ⟨by rfl, fun w hS => ?_⟩) HS.out ?_
      · (go_simp; rw [IntKind.wrap_i64]; omega)
      simp only [Act.put, List.setIfInBounds_toArray, List.set_cons_zero, List.set_cons_succ]
      refine heldTake 5 (some 24) (.string s) rfl rfl (by kernel_rfl) (by kernel_rfl) (by kernel_rfl) (fun _ _ _ h => h) (Or.inl ⟨by rfl, fun w hS => ?_⟩) HS.out ?_
      · (go_simp)
      simp only [Act.put, List.setIfInBounds_toArray, List.set_cons_zero, List.set_cons_succ]
      refine heldTake 6 (some 25) (.int .i64 (k : Int)) rfl rfl (by kernel_rfl) (by kernel_rfl) (by kernel_rfl) (fun _ _ _ h => h) (Or.inl ⟨by rfl, fun w hS => ?_⟩) HS.out ?_
      · (go_simp)
      simp only [Act.put, List.setIfInBounds_toArray, List.set_cons_zero, List.set_cons_succ]
      refine heldTake 7 (some 26) (.int .u8 (h : Int)) rfl rfl (by kernel_rfl) (by kernel_rfl) (by kernel_rfl) (fun _ _ _ h => h) (Or.inl ⟨by rfl, fun w hS => ?_⟩) HS.out ?_
      · (go_simp)
      simp only [Act.put, List.setIfInBounds_toArray, List.set_cons_zero, List.set_cons_succ]
      refine heldTake 8 (some 27) (.int .i64 (h : Int)) rfl rfl (by kernel_rfl) (by kernel_rfl) (by kernel_rfl) (fun _ _ _ h => h) (Or.inl ⟨by rfl, fun w hS => ?_⟩) HS.out ?_
      · (go_simp; rw [IntKind.wrap_i64]; omega)
      simp only [Act.put, List.setIfInBounds_toArray, List.set_cons_zero, List.set_cons_succ]
      refine heldTake 9 (some 28) (.int .i64 (kd : Int)) rfl rfl (by kernel_rfl) (by kernel_rfl) (by kernel_rfl) (fun _ _ _ h => h) (Or.inl ⟨by rfl, fun w hS => ?_⟩) HS.out ?_
      · ((go_simp) <;> (rw [IntKind.wrap_i64]; omega))
      simp only [Act.put, List.setIfInBounds_toArray, List.set_cons_zero, List.set_cons_succ]
      refine heldTake 10 (some 29) (fv ⟨(tg : Int), (kd : Int), 0, ByteArray.empty⟩) rfl rfl (by kernel_rfl) (by kernel_rfl) (by kernel_rfl) (fun _ _ _ h => h) (Or.inl ⟨by rfl, fun w hS => ?_⟩) HS.out ?_
      · (go_simp; rfl)
      simp only [Act.put, List.setIfInBounds_toArray, List.set_cons_zero, List.set_cons_succ]
      refine heldOne 11 (by kernel_rfl) rfl (by rfl) (fun KK hK => ?_)
      go_simp
      refine hK.out _ _ trivial ?_
      clear hK KK
      try simp only [Act.put, List.setIfInBounds_toArray, List.set_cons_zero, List.set_cons_succ]
      refine heldOne 12 (by kernel_rfl) rfl (by rfl) (fun KK hK => ?_)
      refine step_store38 rfl (.tmp 6) (.tmp 29) rfl wr.heap.size ⟨(tg : Int), (kd : Int), 0, ByteArray.empty⟩ rfl rfl (Result4.of (heap_alloc_new wr.drew _)) ?_
      refine hK.out _ _ trivial ?_
      clear hK KK
      refine wpAnyH_done (by kernel_rfl) ?_ _
      generalize hW2 : World.setRow _ wr.heap.size _ = W2
      have hbk : W2.heap[wr.heap.size]? = some (.cells #[.int .i64 (tg : Int), .int .i64 (kd : Int), .int .i64 0, .string ByteArray.empty] 38 (0, 0)) := by
        rw [← hW2]
        exact setRow_heap _ _ _ _ 38 (0, 0) (heap_alloc_new wr _)
      have hb2 : Below wr.heap.size wr W2 := by
        rw [← hW2]
        exact ⟨rfl, rfl, rfl, by rw [size_row]; show wr.heap.size ≤ (wr.alloc _).heap.size; simp, fun j hj => by rw [setRow_other _ _ _ _ (by omega)]; exact Below.heap_alloc wr _ j hj⟩
      have HBK : Hid (W2.heap[wr.heap.size]? = some (.cells #[.int .i64 (tg : Int), .int .i64 (kd : Int), .int .i64 0, .string ByteArray.empty] 38 (0, 0))) := hbk
      have HB2 : Hid (Below w.heap.size w W2) := HB.out.trans (hb2.mono hzr)
      have HO2 : Hid (W2.ownsRow w.heap.size 38 4 _ pre.length (pre.flatMap fcells)) := owns_below38 HO.out hb2
      have hz2 : wr.heap.size < W2.heap.size := (Array.getElem?_eq_some_iff.1 hbk).1
      have c1 : W2.cell? ⟨wr.heap.size, 1, none⟩ = some (.int .i64 (kd : Int)) := cell_of_row _ _ 1 _ _ _ hbk
      have c2 : W2.cell? ⟨wr.heap.size, 2, none⟩ = some (.int .i64 0) := cell_of_row _ _ 2 _ _ _ hbk
      have c3 : W2.cell? ⟨wr.heap.size, 3, none⟩ = some (.string ByteArray.empty) := cell_of_row _ _ 3 _ _ _ hbk
      have f2 : W2.frozen? ⟨wr.heap.size, 2, none⟩ = false := by simp [World.frozen?, hbk]
      have f3 : W2.frozen? ⟨wr.heap.size, 3, none⟩ = false := by simp [World.frozen?, hbk]
      have hNB : w.heap.size ≤ wr.heap.size := hzr
      have HGB : Hid (∀ g, uo.ownBlock = some g → g < wr.heap.size) := fun g hg => (own_row HO.out hg).2
      clear hW2 hbk hb2 HO HB hzr hgk hgi HS
      generalize wr.heap.size = B at *
      obtain ⟨t, htd⟩ : ∃ t, t = (bl s).drop (k + 1) := ⟨_, rfl⟩
      have HTD : Is t ((bl s).drop (k + 1)) := ⟨htd⟩
      have HTL : Is t.length (L - (k + 1)) := ⟨by rw [htd, List.length_drop, HL.eq]⟩
      have HTG : Hid (∀ j, (bl s).getD (k + 1 + j) 0 = t.getD j 0) := fun j => by rw [htd, List.getD_eq_getElem?_getD, List.getD_eq_getElem?_getD, List.getElem?_drop]
      have HT8 : Hid (∀ x ∈ t, x < 256) := fun x hx => H8.out x (List.mem_of_mem_drop (by rw [← htd]; exact hx))
      have HHT : Is ((bl s).drop k) (h :: t) := ⟨by rw [htd, ← HH.eq]; exact drop_nat (bl s) k (by rw [HL.eq]; exact hlt)⟩
      clear htd
      go_wp2_with fail
      go_loopw [7, 8, 9] (fun s7 s8 s9 wi => ∃ (j : Nat) (z : Int), j ≤ 9 ∧ k + 1 + j ≤ L ∧ s9 = .int .i64 ((k + 1 + j : Nat) : Int) ∧ s7 = .int .i64 ((Fi.val (t.take j) : Nat) : Int) ∧ s8 = .int .i64 z ∧ (j ≤ 8 → z = ((128 ^ j : Nat) : Int)) ∧ (∀ x ∈ t.take j, 128 ≤ x) ∧ wi = W2) (fun _ _ s9 _ => L - (intOf s9).toNat)
      case atStart => exact ⟨0, 1, by omega, by omega, by go_num, rfl, rfl, fun _ => rfl, by simp, rfl⟩
      case round =>
        obtain ⟨j, z, hj, hkj, rfl, rfl, rfl, hz, hge, hwi⟩ := hrel
        have hwi := hwi.symm
        subst hwi
        have HGE : Hid (∀ x ∈ t.take j, 128 ≤ x) := hge
        have HZ : Hid (j ≤ 8 → z = ((128 ^ j : Nat) : Int)) := hz
        clear hge hz
        obtain ⟨kk, hkk⟩ : ∃ kk, kk = k + 1 + j := ⟨_, rfl⟩
        rw [← hkk]
        have HKK : Is kk (k + 1 + j) := ⟨hkk⟩
        have j1 : (0 : Int) ≤ (kk : Int) := Int.natCast_nonneg _
        obtain ⟨j1n, hj1⟩ : ∃ j1n, j1n = j + 1 := ⟨_, rfl⟩
        have ekk : (kk : Int) - (k : Int) = (j1n : Int) := by omega
        have HJ1 : Is j1n (j + 1) := ⟨hj1⟩
        by_cases g1 : kk < L
        · have i1 : (kk : Int) < (L : Int) := by omega
          have d1 : decide ((kk : Int) < (L : Int)) = true := by simp; omega
          by_cases g2 : j ≤ 8
          · have d2 : decide ((j1n : Int) < 10) = true := by simp; omega
            have i2 : ¬ (10 : Int) ≤ (j1n : Int) := by omega
            have d4 : decide ((10 : Int) ≤ (j1n : Int)) = false := by simp; omega
            have d3 : decide ((L : Int) ≤ (kk : Int)) = false := by simp; omega
            obtain ⟨b, hb⟩ : ∃ b, b = t.getD j 0 := ⟨_, rfl⟩
            have hb8 : b < 256 := by rw [hb]; exact getD_lt HT8.out j
            have hjl : j < t.length := by rw [HTL.eq]; omega
            have HB1 : Is (t.getD j 0) b := ⟨hb.symm⟩
            have hgk : ∀ hx : kk < s.size, (s[kk]'hx).toNat = b := fun hx => by rw [HGET.out kk hx, HKK.eq, HTG.out j]; exact hb.symm
            have hgi : ∀ hx : kk < s.size, (((s[kk]'hx).toNat : Nat) : Int) = (b : Int) := fun hx => by rw [hgk hx]
            have HVS : Is (Fi.val (t.take (j + 1))) (Fi.val (t.take j) + 128 ^ j * (b % 128)) := ⟨by rw [hb]; exact val_take_succ t j hjl⟩
            have hvl := Fi.val_lt (t.take j)
            rw [show (t.take j).length = j by rw [List.length_take]; omega] at hvl
            have hz' := HZ.out g2
            obtain ⟨P, hP⟩ : ∃ P, P = 128 ^ j := ⟨_, rfl⟩
            have hP8 : P ≤ 72057594037927936 := by rw [hP]; exact pow8 j g2
            rw [← hP] at hz' HVS hvl
            subst hz'
            have HP : Is P (128 ^ j) := ⟨hP⟩
            obtain ⟨n, hn⟩ : ∃ n, n = Fi.val (t.take j) := ⟨_, rfl⟩
            rw [← hn] at HVS hvl ⊢
            have HN : Is n (Fi.val (t.take j)) := ⟨hn⟩
            clear hb hn hP hj1 hkk
            by_cases g3 : 128 ≤ b
            · have i3 : (128 : Int) ≤ (b : Int) := by omega
              have d5 : decide ((128 : Int) ≤ (b : Int)) = true := by simp; omega
              obtain ⟨r, hr⟩ : ∃ r, r = b - 128 := ⟨_, rfl⟩
              have er : (b : Int) - 128 = (r : Int) := by omega
              have hr128 : r < 128 := by omega
              have HR : Is (b % 128) r := ⟨by omega⟩
              clear hr
              rw [HR.eq] at HVS
              obtain ⟨q, n1, hmul, hadd, hn1⟩ := wstep P r n hr128 hvl hP8
              rw [hn1] at HVS
              clear hn1
              have HGE1 : Hid (∀ x ∈ t.take (j + 1), 128 ≤ x) := fun x hx => by
                rw [List.take_succ_eq_append_getElem hjl] at hx
                rcases List.mem_append.1 hx with hx | hx
                · exact HGE.out x hx
                · have := HB1.eq
                  rw [List.getD_eq_getElem?_getD, List.getElem?_eq_getElem hjl, Option.getD_some] at this
                  have := List.mem_singleton.1 hx
                  omega
              have HZ1 : Hid (j + 1 ≤ 8 → wrap64 ((P : Int) * 128) = ((128 ^ (j + 1) : Nat) : Int)) := fun h8 => by
                have hp7 : P ≤ 562949953421312 := by rw [HP.eq]; exact pow7 j (by omega)
                rw [Nat.pow_succ, ← HP.eq]
                exact wmul P hp7
              go_wp2_with fail
              go_roundw
              case rel => exact ⟨j + 1, _, by omega, by have := HKK.eq; omega, by have := HKK.eq; go_num, by rw [HVS.eq, hadd], rfl, HZ1.out, HGE1.out, trivial⟩
              case measure => (simp [intOf]) <;> omega
            · have i3 : ¬ (128 : Int) ≤ (b : Int) := by omega
              have d5 : decide ((128 : Int) ≤ (b : Int)) = false := by simp; omega
              have hb128 : b < 128 := by omega
              obtain ⟨q, n1, hmul, hadd, hn1⟩ := wstep P b n hb128 hvl hP8
              have HVS2 : Is (Fi.val (t.take j ++ [b])) n1 := ⟨by
                have e1 : t.take (j + 1) = t.take j ++ [b] := by
                  rw [List.take_succ_eq_append_getElem hjl]
                  have := HB1.eq
                  rw [List.getD_eq_getElem?_getD, List.getElem?_eq_getElem hjl, Option.getD_some] at this
                  rw [this]
                have e2 := HVS.eq
                rw [e1, Nat.mod_eq_of_lt hb128, hn1] at e2
                exact e2⟩
              have hn163 : n1 < 9223372036854775808 := by
                rw [← hn1]
                have hm : P * b ≤ P * 127 := Nat.mul_le_mul_left _ (by omega)
                exact big_sum n P (P * b) hvl hm hP8
              have HSP : Is t (t.take j ++ b :: t.drop (j + 1)) := ⟨by have := split_at t j hjl; rwa [HB1.eq] at this⟩
              have hrl : (t.drop (j + 1)).length = L - (kk + 1) := by rw [List.length_drop, HTL.eq, HKK.eq]; omega
              have HHT2 : Is ((bl s).drop k) (h :: (t.take j ++ b :: t.drop (j + 1))) := ⟨by rw [← HSP.eq]; exact HHT.eq⟩
              have hpl : (t.take j).length = j := by rw [List.length_take]; omega
              have HPL : Is (t.take j).length j := ⟨hpl⟩
              have HRL : Is (t.drop (j + 1)).length (L - (kk + 1)) := ⟨hrl⟩
              have hprel : pre.length + 1 ≤ 40000 := by
                have h1 := enc_len pre
                rw [HRD.out.eq, List.length_take] at h1
                have := HL.eq
                omega
              generalize t.take j = pp at *
              generalize t.drop (j + 1) = rr at *
              have n0 : decide ((n1 : Int) < 0) = false := by simp
              have n0' : ¬ (n1 : Int) < 0 := by omega
              clear hn1 hrl hpl HVS HSP HTL HTG HZ
              obtain ⟨k2, hk2⟩ : ∃ k2, k2 = kk + 1 := ⟨_, rfl⟩
              have ek2 : (kk : Int) + 1 = (k2 : Int) := by omega
              have HK2 : Is k2 (k + 2 + j) := ⟨by have := HKK.eq; omega⟩
              rw [← hk2] at HRL
              have hk2L : k2 ≤ L := by omega
              clear hk2
              rcases (show kd = 0 ∨ kd = 1 by omega) with hkd0 | hkd0
              · subst hkd0
                have hh2 : h = 2 * tg := by have := HTG.eq; have := HKD.eq; omega
                have HSEG : Is (bl (s.extract k k2)) (h :: (pp ++ [b])) := ⟨by rw [bl_extract2, HHT2.eq, show k2 - k = (h :: (pp ++ [b])).length by rw [HK2.eq]; (simp [HPL.eq]) <;> omega]; rw [show h :: (pp ++ b :: rr) = (h :: (pp ++ [b])) ++ rr by simp]; exact List.take_left⟩
                have HY8 : Hid (∀ y ∈ (2 * tg :: Fi.varint n1), y < 256) := fun y hy => by
                  rcases List.mem_cons.1 hy with rfl | hy
                  · omega
                  · exact Fi.varint_lt _ _ hy
                obtain ⟨W3, hW3⟩ : ∃ W3, W2.setCell ⟨B, 2, none⟩ (.int .i64 (n1 : Int)) = W3 := ⟨_, rfl⟩
                have HF3 : Hid (FieldAt W3 B 0 ⟨(tg : Int), 0, (n1 : Int), ByteArray.empty⟩) := by
                  rw [← hW3]
                  have cc : ∀ i, W2.cell? ⟨B, i, none⟩ = #[Value.int .i64 (tg : Int), .int .i64 0, .int .i64 0, .string ByteArray.empty][i]? := fun i => cell_of_row _ _ i _ _ _ HBK.out
                  exact ⟨(World.cell?_setCell_other _ _ _ _ (by simp)).trans (cc 0), (World.cell?_setCell_other _ _ _ _ (by simp)).trans (cc 1), World.cell?_setCell_same' _ _ _ (by rw [cc 2]; rfl), (World.cell?_setCell_other _ _ _ _ (by simp)).trans (cc 3)⟩
                have HO3 : Hid (W3.ownsRow w.heap.size 38 4 uo pre.length (pre.flatMap fcells)) := by rw [← hW3]; exact owns_ne HO2.out (grown_set _ _ _) (fun e => by have := HGB.out B e.symm; omega)
                have HB3 : Hid (Below w.heap.size w W3) := by rw [← hW3]; exact HB2.out.setCell (p := ⟨B, 2, none⟩) hNB _
                by_cases hsame : Fi.varint n1 = pp ++ [b]
                · have HSG : Is (tb (2 * tg :: Fi.varint n1)) (s.extract k k2) := ⟨by rw [hsame, ← hh2, ← HSEG.eq, tb_bl]⟩
                  have HFB : Is (Fi.fb (fd ⟨(tg : Int), 0, (n1 : Int), ByteArray.empty⟩)) (h :: (pp ++ [b])) := ⟨by rw [fb_num, hsame, hh2]⟩
                  have HRN : Hid (RRead (bl s) (pre ++ [⟨(tg : Int), 0, (n1 : Int), ByteArray.empty⟩]) k2) := HRD.out.next ⟨by show (0 : Int) ≤ (tg : Int); omega, by show (tg : Int) ≤ 127; omega, by show (0 : Nat) ≤ 65536; omega, .inl ⟨rfl, by show (0 : Int) ≤ (n1 : Int); omega, by show (n1 : Int) ≤ _; omega, rfl⟩⟩ (rest := rr) (by rw [HFB.eq, HHT2.eq]; simp) (by rw [HFB.eq, HK2.eq]; (simp [HPL.eq]) <;> omega) (by rw [HL.eq]; exact hk2L)
                  clear hsame hh2 HSEG HFB HHT2 HRD
                  have HS : Hid ((fun W : World => FieldAt W B 0 ⟨(tg : Int), 0, (n1 : Int), ByteArray.empty⟩ ∧ W.ownsRow w.heap.size 38 4 uo pre.length (pre.flatMap fcells) ∧ Below w.heap.size w W ∧ w.heap.size ≤ W.heap.size) W3.drew) := ⟨HF3.out.drew, owns_below38 HO3.out (Below.refl _ _).drew, HB3.out.drew, HB3.out.size⟩
                  go_upto_region 24 with fail
                  refine wp_region_held_drew (S := (fun W : World => FieldAt W B 0 ⟨(tg : Int), 0, (n1 : Int), ByteArray.empty⟩ ∧ W.ownsRow w.heap.size 38 4 uo pre.length (pre.flatMap fcells) ∧ Below w.heap.size w W ∧ w.heap.size ≤ W.heap.size)) (by kernel_rfl) HS.out (fun _ => ?_)
                  refine heldTake 0 (some 111) (fv ⟨(tg : Int), 0, (n1 : Int), ByteArray.empty⟩) rfl rfl (by kernel_rfl) (by kernel_rfl) (by kernel_rfl) (fun _ _ _ h => h) ((yieldsIf_load_mid (by rfl) _ _ rfl _ _ rfl (fcells ⟨(tg : Int), 0, (n1 : Int), ByteArray.empty⟩) _ (fun w hS => hS.1.range) Try.underlying38 rfl size38)) HS.out ?_
                  simp only [Act.put, List.setIfInBounds_toArray, List.set_cons_zero, List.set_cons_succ]
                  refine heldTake 3 (some 114) (.string s) rfl rfl (by kernel_rfl) (by kernel_rfl) (by kernel_rfl) (fun _ _ _ h => h) (Or.inl ⟨by rfl, fun w hS => ?_⟩) HS.out ?_
                  · (go_simp)
                  simp only [Act.put, List.setIfInBounds_toArray, List.set_cons_zero, List.set_cons_succ]
                  refine heldTake 4 (some 115) (.int .i64 (k : Int)) rfl rfl (by kernel_rfl) (by kernel_rfl) (by kernel_rfl) (fun _ _ _ h => h) (Or.inl ⟨by rfl, fun w hS => ?_⟩) HS.out ?_
                  · (go_simp)
                  simp only [Act.put, List.setIfInBounds_toArray, List.set_cons_zero, List.set_cons_succ]
                  refine heldTake 5 (some 116) (.int .i64 (k2 : Int)) rfl rfl (by kernel_rfl) (by kernel_rfl) (by kernel_rfl) (fun _ _ _ h => h) (Or.inl ⟨by rfl, fun w hS => ?_⟩) HS.out ?_
                  · (go_simp)
                  simp only [Act.put, List.setIfInBounds_toArray, List.set_cons_zero, List.set_cons_succ]
                  refine heldTake 6 (some 117) (.string (s.extract k k2)) rfl rfl (by kernel_rfl) (by kernel_rfl) (by kernel_rfl) (fun _ _ _ h => h) (Or.inl ⟨by rfl, fun w hS => ?_⟩) HS.out ?_
                  · ((have h5 : (k : Int) ≤ (k2 : Int) := by have := HK2.eq; omega); (have h6 : (k2 : Int) ≤ (L : Int) := by omega); go_simp)
                  simp only [Act.put, List.setIfInBounds_toArray, List.set_cons_zero, List.set_cons_succ]
                  refine heldOne 1 (by kernel_rfl) rfl (by rfl) (fun KK hK => ?_)
                  go_simp
                  go_at_call 27
                  refine (rbytes_num _ tg n1 _ (by omega) (by omega)).mono ?_
                  rintro e w5 ⟨v5, rfl, hO5, hB5⟩
                  have HS5 : Hid ((fun W : World => FieldAt W B 0 ⟨(tg : Int), 0, (n1 : Int), ByteArray.empty⟩ ∧ W.ownsRow w.heap.size 38 4 uo pre.length (pre.flatMap fcells) ∧ Below w.heap.size w W ∧ w.heap.size ≤ W.heap.size) w5) := ⟨HS.out.1.below hB5 (block_lt_of_cell HS.out.1.tag), owns_below38 HS.out.2.1 hB5, HS.out.2.2.1.trans (hB5.mono HS.out.2.2.2), Nat.le_trans HS.out.2.2.2 hB5.size⟩
                  refine hK.out _ _ HS5.out ?_
                  clear hK KK
                  try simp only [Act.put, List.setIfInBounds_toArray, List.set_cons_zero, List.set_cons_succ]
                  refine heldOne 2 (by kernel_rfl) rfl (by rfl) (fun KK hK => ?_)
                  refine step_str (some 113) rfl (.tmp 112) rfl _ _ v5 (2 * tg :: Fi.varint n1) rfl hO5 HY8.out ?_
                  refine hK.out _ _ HS5.out ?_
                  clear hK KK
                  try simp only [Act.put, List.setIfInBounds_toArray, List.set_cons_zero, List.set_cons_succ]
                  refine heldTake 7 (some 118) (.bool false) rfl rfl (by kernel_rfl) (by kernel_rfl) (by kernel_rfl) (fun _ _ _ h => h) (Or.inl ⟨by rfl, fun w hS => ?_⟩) HS5.out ?_
                  · (rw [HSG.eq]; go_simp)
                  simp only [Act.put, List.setIfInBounds_toArray, List.set_cons_zero, List.set_cons_succ]
                  refine wpAnyH_done (by kernel_rfl) ?_ _
                  obtain ⟨e0, e1, e2, e3⟩ := HS5.out.1
                  simp only [Nat.zero_add] at e0 e1 e2 e3
                  have HO6 := (show Hid (w5.ownsRow w.heap.size 38 4 uo pre.length (pre.flatMap fcells)) from HS5.out.2.1)
                  have HB6 := (show Hid (Below w.heap.size w w5) from HS5.out.2.2.1)
                  have hs5 := HB6.out.size
                  clear HS5 hO5 hB5 HS HF3 HO3 HB3
                  go_wp2_with (first | (refine append_field rfl (.tmp 119) (.tmp 121) rfl _ w.heap.size _ pre.length pre rfl (owns_alloc HO6.out _) ⟨w5.heap.size, 0, none⟩ 1 ⟨(tg : Int), 0, (n1 : Int), ByteArray.empty⟩ rfl (field_new w5 ⟨(tg : Int), 0, (n1 : Int), ByteArray.empty⟩) (by omega) (by simp; omega) ?_; intro v8 w8 hO8 hB8; have HO8 := (show Hid (w8.ownsRow w.heap.size 38 4 v8 (pre.length + 1) _) from hO8); have HB8 : Hid (Below w.heap.size w w8) := HB6.out.trans ((((Below.refl _ w5).alloc (Nat.le_refl _) _).mono hs5).trans hB8); clear hO8 hB8))
                  go_roundw
                  case rel => exact ⟨pre ++ [⟨(tg : Int), 0, (n1 : Int), ByteArray.empty⟩], k2, by omega, rfl, HRN.out, by rw [List.length_append]; exact HO8.out, HB8.out⟩
                  case measure => (simp [intOf]) <;> (have := HK2.eq; omega)
                · have HSG : Hid (¬ tb (2 * tg :: Fi.varint n1) = s.extract k k2) := fun e => hsame (by
                    have e2 := congrArg bl e
                    rw [bl_tb HY8.out, HSEG.eq] at e2
                    exact (List.cons.inj e2).2)
                  have HX : Hid (∀ l, ¬ Dec (bl s) l) := HRD.out.stuck (by rw [HL.eq]; exact hlt) (by rw [HHT2.eq]; exact front_needless HGE.out hb128 (by rw [HVS2.eq]; exact hsame))
                  clear hsame hh2 HSEG HHT2 HRD
                  have HS : Hid ((fun W : World => FieldAt W B 0 ⟨(tg : Int), 0, (n1 : Int), ByteArray.empty⟩ ∧ W.ownsRow w.heap.size 38 4 uo pre.length (pre.flatMap fcells) ∧ Below w.heap.size w W ∧ w.heap.size ≤ W.heap.size) W3.drew) := ⟨HF3.out.drew, owns_below38 HO3.out (Below.refl _ _).drew, HB3.out.drew, HB3.out.size⟩
                  go_upto_region 24 with fail
                  refine wp_region_held_drew (S := (fun W : World => FieldAt W B 0 ⟨(tg : Int), 0, (n1 : Int), ByteArray.empty⟩ ∧ W.ownsRow w.heap.size 38 4 uo pre.length (pre.flatMap fcells) ∧ Below w.heap.size w W ∧ w.heap.size ≤ W.heap.size)) (by kernel_rfl) HS.out (fun _ => ?_)
                  refine heldTake 0 (some 111) (fv ⟨(tg : Int), 0, (n1 : Int), ByteArray.empty⟩) rfl rfl (by kernel_rfl) (by kernel_rfl) (by kernel_rfl) (fun _ _ _ h => h) ((yieldsIf_load_mid (by rfl) _ _ rfl _ _ rfl (fcells ⟨(tg : Int), 0, (n1 : Int), ByteArray.empty⟩) _ (fun w hS => hS.1.range) Try.underlying38 rfl size38)) HS.out ?_
                  simp only [Act.put, List.setIfInBounds_toArray, List.set_cons_zero, List.set_cons_succ]
                  refine heldTake 3 (some 114) (.string s) rfl rfl (by kernel_rfl) (by kernel_rfl) (by kernel_rfl) (fun _ _ _ h => h) (Or.inl ⟨by rfl, fun w hS => ?_⟩) HS.out ?_
                  · (go_simp)
                  simp only [Act.put, List.setIfInBounds_toArray, List.set_cons_zero, List.set_cons_succ]
                  refine heldTake 4 (some 115) (.int .i64 (k : Int)) rfl rfl (by kernel_rfl) (by kernel_rfl) (by kernel_rfl) (fun _ _ _ h => h) (Or.inl ⟨by rfl, fun w hS => ?_⟩) HS.out ?_
                  · (go_simp)
                  simp only [Act.put, List.setIfInBounds_toArray, List.set_cons_zero, List.set_cons_succ]
                  refine heldTake 5 (some 116) (.int .i64 (k2 : Int)) rfl rfl (by kernel_rfl) (by kernel_rfl) (by kernel_rfl) (fun _ _ _ h => h) (Or.inl ⟨by rfl, fun w hS => ?_⟩) HS.out ?_
                  · (go_simp)
                  simp only [Act.put, List.setIfInBounds_toArray, List.set_cons_zero, List.set_cons_succ]
                  refine heldTake 6 (some 117) (.string (s.extract k k2)) rfl rfl (by kernel_rfl) (by kernel_rfl) (by kernel_rfl) (fun _ _ _ h => h) (Or.inl ⟨by rfl, fun w hS => ?_⟩) HS.out ?_
                  · ((have h5 : (k : Int) ≤ (k2 : Int) := by have := HK2.eq; omega); (have h6 : (k2 : Int) ≤ (L : Int) := by omega); go_simp)
                  simp only [Act.put, List.setIfInBounds_toArray, List.set_cons_zero, List.set_cons_succ]
                  refine heldOne 1 (by kernel_rfl) rfl (by rfl) (fun KK hK => ?_)
                  go_simp
                  go_at_call 27
                  refine (rbytes_num _ tg n1 _ (by omega) (by omega)).mono ?_
                  rintro e w5 ⟨v5, rfl, hO5, hB5⟩
                  have HS5 : Hid ((fun W : World => FieldAt W B 0 ⟨(tg : Int), 0, (n1 : Int), ByteArray.empty⟩ ∧ W.ownsRow w.heap.size 38 4 uo pre.length (pre.flatMap fcells) ∧ Below w.heap.size w W ∧ w.heap.size ≤ W.heap.size) w5) := ⟨HS.out.1.below hB5 (block_lt_of_cell HS.out.1.tag), owns_below38 HS.out.2.1 hB5, HS.out.2.2.1.trans (hB5.mono HS.out.2.2.2), Nat.le_trans HS.out.2.2.2 hB5.size⟩
                  refine hK.out _ _ HS5.out ?_
                  clear hK KK
                  try simp only [Act.put, List.setIfInBounds_toArray, List.set_cons_zero, List.set_cons_succ]
                  refine heldOne 2 (by kernel_rfl) rfl (by rfl) (fun KK hK => ?_)
                  refine step_str (some 113) rfl (.tmp 112) rfl _ _ v5 (2 * tg :: Fi.varint n1) rfl hO5 HY8.out ?_
                  refine hK.out _ _ HS5.out ?_
                  clear hK KK
                  try simp only [Act.put, List.setIfInBounds_toArray, List.set_cons_zero, List.set_cons_succ]
                  refine heldTake 7 (some 118) (.bool true) rfl rfl (by kernel_rfl) (by kernel_rfl) (by kernel_rfl) (fun _ _ _ h => h) (Or.inl ⟨by rfl, fun w hS => ?_⟩) HS5.out ?_
                  · (go_simp; exact fun e => HSG.out (bt_inj e))
                  simp only [Act.put, List.setIfInBounds_toArray, List.set_cons_zero, List.set_cons_succ]
                  refine wpAnyH_done (by kernel_rfl) ?_ _
                  go_wp2_with fail
                  go_ret2
                  exact .inr ⟨HX.out, rfl, HS5.out.2.2.1⟩
              · subst hkd0
                have hh2 : h = 2 * tg + 1 := by have := HTG.eq; have := HKD.eq; omega
                have elen : (L : Int) - (k2 : Int) = ((L - k2 : Nat) : Int) := by omega
                obtain ⟨lr, hlr⟩ : ∃ lr, lr = L - k2 := ⟨_, rfl⟩
                rw [← hlr] at elen HRL
                have hlr2 : k2 + lr = L := by omega
                clear hlr
                by_cases hsh : lr < n1
                · have d6 : decide ((lr : Int) < (n1 : Int)) = true := by simp; omega
                  have HX : Hid (∀ l, ¬ Dec (bl s) l) := HRD.out.stuck (by rw [HL.eq]; exact hlt) (by rw [HHT2.eq]; exact front_short HGE.out hb128 (by omega) (by rw [HVS2.eq, HRL.eq]; exact hsh))
                  clear hh2 HHT2 HRD
                  go_wp2_with fail
                  go_ret2
                  exact .inr ⟨HX.out, rfl, HB2.out⟩
                · have d6 : decide ((lr : Int) < (n1 : Int)) = false := by simp; omega
                  obtain ⟨k3, hk3⟩ : ∃ k3, k3 = k2 + n1 := ⟨_, rfl⟩
                  have ek3 : (k2 : Int) + (n1 : Int) = (k3 : Int) := by omega
                  have HK3 : Is k3 (k2 + n1) := ⟨hk3⟩
                  have hk3L : k3 ≤ L := by omega
                  have hk23 : k2 ≤ k3 := by omega
                  have i7 : (k2 : Int) ≤ (k3 : Int) := by omega
                  have i8 : (k3 : Int) ≤ (L : Int) := by omega
                  have i9 : (0 : Int) ≤ (k2 : Int) := by omega
                  clear hk3
                  have hdk2 : (bl s).drop k2 = rr := by
                    have e1 : (bl s).drop k2 = ((bl s).drop k).drop (k2 - k) := by rw [List.drop_drop]; congr 1; have := HK2.eq; omega
                    rw [e1, HHT2.eq, show h :: (pp ++ b :: rr) = (h :: (pp ++ [b])) ++ rr by simp, show k2 - k = (h :: (pp ++ [b])).length by rw [HK2.eq]; simp only [List.length_cons, List.length_append, List.length_nil, HPL.eq]; omega]
                    exact List.drop_left
                  have hby : bl (s.extract k2 k3) = rr.take n1 := by rw [bl_extract2, hdk2]; congr 1; have := HK3.eq; omega
                  have hysz : (s.extract k2 k3).size = n1 := by rw [← bl_length, hby, List.length_take, HRL.eq]; omega
                  have hbk : bl (s.extract k k3) = h :: (pp ++ [b] ++ rr.take n1) := by
                    rw [bl_extract2, HHT2.eq, show h :: (pp ++ b :: rr) = (h :: (pp ++ [b])) ++ rr by simp, show k3 - k = (h :: (pp ++ [b])).length + n1 by rw [HK3.eq, HK2.eq]; simp only [List.length_cons, List.length_append, List.length_nil, HPL.eq]; omega]
                    rw [List.take_length_add_append]
                    rfl
                  obtain ⟨y, hy⟩ : ∃ y, y = s.extract k2 k3 := ⟨_, rfl⟩
                  rw [← hy] at hby hysz
                  have HYD : Is (s.extract k2 k3) y := ⟨hy.symm⟩
                  have eext : s.extract k2 k3 = y := hy.symm
                  clear hy
                  have HY8 : Hid (∀ x ∈ ((2 * tg + 1) :: (Fi.varint y.size ++ bl y)), x < 256) := fun x hx => by
                    rcases List.mem_cons.1 hx with rfl | hx
                    · omega
                    · rcases List.mem_append.1 hx with hx | hx
                      · exact Fi.varint_lt _ _ hx
                      · exact bl_lt _ _ hx
                  obtain ⟨W3, hW3⟩ : ∃ W3, W2.setCell ⟨B, 3, none⟩ (.string y) = W3 := ⟨_, rfl⟩
                  have HF3 : Hid (FieldAt W3 B 0 ⟨(tg : Int), 1, 0, y⟩) := by
                    rw [← hW3]
                    have cc : ∀ i, W2.cell? ⟨B, i, none⟩ = #[Value.int .i64 (tg : Int), .int .i64 1, .int .i64 0, .string ByteArray.empty][i]? := fun i => cell_of_row _ _ i _ _ _ HBK.out
                    exact ⟨(World.cell?_setCell_other _ _ _ _ (by simp)).trans (cc 0), (World.cell?_setCell_other _ _ _ _ (by simp)).trans (cc 1), (World.cell?_setCell_other _ _ _ _ (by simp)).trans (cc 2), World.cell?_setCell_same' _ _ _ (by rw [cc 3]; rfl)⟩
                  have HO3 : Hid (W3.ownsRow w.heap.size 38 4 uo pre.length (pre.flatMap fcells)) := by rw [← hW3]; exact owns_ne HO2.out (grown_set _ _ _) (fun e => by have := HGB.out B e.symm; omega)
                  have HB3 : Hid (Below w.heap.size w W3) := by rw [← hW3]; exact HB2.out.setCell (p := ⟨B, 3, none⟩) hNB _
                  have hy65 : y.size ≤ 65536 := by omega
                  by_cases hsame : Fi.varint n1 = pp ++ [b]
                  · have HSG : Is (tb ((2 * tg + 1) :: (Fi.varint y.size ++ bl y))) (s.extract k k3) := ⟨by rw [hysz, hsame, ← hh2, hby, ← hbk, tb_bl]⟩
                    have HFB : Is (Fi.fb (fd ⟨(tg : Int), 1, 0, y⟩)) (h :: (pp ++ [b] ++ rr.take n1)) := ⟨by rw [fb_text, hysz, hsame, hh2, hby]⟩
                    have HRN : Hid (RRead (bl s) (pre ++ [⟨(tg : Int), 1, 0, y⟩]) k3) := HRD.out.next ⟨by show (0 : Int) ≤ (tg : Int); omega, by show (tg : Int) ≤ 127; omega, hy65, .inr ⟨rfl, rfl⟩⟩ (rest := rr.drop n1) (by rw [HFB.eq, HHT2.eq]; simp) (by rw [HFB.eq, HK3.eq, HK2.eq]; simp only [List.length_cons, List.length_append, List.length_nil, HPL.eq, List.length_take, HRL.eq]; omega) (by rw [HL.eq]; exact hk3L)
                    clear hsame hh2 HFB HHT2 HRD hbk hby hdk2 hysz
                    have HS : Hid ((fun W : World => FieldAt W B 0 ⟨(tg : Int), 1, 0, y⟩ ∧ W.ownsRow w.heap.size 38 4 uo pre.length (pre.flatMap fcells) ∧ Below w.heap.size w W ∧ w.heap.size ≤ W.heap.size) W3.drew) := ⟨HF3.out.drew, owns_below38 HO3.out (Below.refl _ _).drew, HB3.out.drew, HB3.out.size⟩
                    go_upto_region 24 with fail
                    refine wp_region_held_drew (S := (fun W : World => FieldAt W B 0 ⟨(tg : Int), 1, 0, y⟩ ∧ W.ownsRow w.heap.size 38 4 uo pre.length (pre.flatMap fcells) ∧ Below w.heap.size w W ∧ w.heap.size ≤ W.heap.size)) (by kernel_rfl) HS.out (fun _ => ?_)
                    refine heldTake 0 (some 111) (fv ⟨(tg : Int), 1, 0, y⟩) rfl rfl (by kernel_rfl) (by kernel_rfl) (by kernel_rfl) (fun _ _ _ h => h) ((yieldsIf_load_mid (by rfl) _ _ rfl _ _ rfl (fcells ⟨(tg : Int), 1, 0, y⟩) _ (fun w hS => hS.1.range) Try.underlying38 rfl size38)) HS.out ?_
                    simp only [Act.put, List.setIfInBounds_toArray, List.set_cons_zero, List.set_cons_succ]
                    refine heldTake 3 (some 114) (.string s) rfl rfl (by kernel_rfl) (by kernel_rfl) (by kernel_rfl) (fun _ _ _ h => h) (Or.inl ⟨by rfl, fun w hS => ?_⟩) HS.out ?_
                    · (go_simp)
                    simp only [Act.put, List.setIfInBounds_toArray, List.set_cons_zero, List.set_cons_succ]
                    refine heldTake 4 (some 115) (.int .i64 (k : Int)) rfl rfl (by kernel_rfl) (by kernel_rfl) (by kernel_rfl) (fun _ _ _ h => h) (Or.inl ⟨by rfl, fun w hS => ?_⟩) HS.out ?_
                    · (go_simp)
                    simp only [Act.put, List.setIfInBounds_toArray, List.set_cons_zero, List.set_cons_succ]
                    refine heldTake 5 (some 116) (.int .i64 (k3 : Int)) rfl rfl (by kernel_rfl) (by kernel_rfl) (by kernel_rfl) (fun _ _ _ h => h) (Or.inl ⟨by rfl, fun w hS => ?_⟩) HS.out ?_
                    · (go_simp)
                    simp only [Act.put, List.setIfInBounds_toArray, List.set_cons_zero, List.set_cons_succ]
                    refine heldTake 6 (some 117) (.string (s.extract k k3)) rfl rfl (by kernel_rfl) (by kernel_rfl) (by kernel_rfl) (fun _ _ _ h => h) (Or.inl ⟨by rfl, fun w hS => ?_⟩) HS.out ?_
                    · ((have h5 : (k : Int) ≤ (k3 : Int) := by have := HK2.eq; omega); (have h6 : (k3 : Int) ≤ (L : Int) := by omega); go_simp)
                    simp only [Act.put, List.setIfInBounds_toArray, List.set_cons_zero, List.set_cons_succ]
                    refine heldOne 1 (by kernel_rfl) rfl (by rfl) (fun KK hK => ?_)
                    go_simp
                    go_at_call 27
                    refine (rbytes_text _ tg 0 y (by omega) (by omega)).mono ?_
                    rintro e w5 ⟨v5, rfl, hO5, hB5⟩
                    have HS5 : Hid ((fun W : World => FieldAt W B 0 ⟨(tg : Int), 1, 0, y⟩ ∧ W.ownsRow w.heap.size 38 4 uo pre.length (pre.flatMap fcells) ∧ Below w.heap.size w W ∧ w.heap.size ≤ W.heap.size) w5) := ⟨HS.out.1.below hB5 (block_lt_of_cell HS.out.1.tag), owns_below38 HS.out.2.1 hB5, HS.out.2.2.1.trans (hB5.mono HS.out.2.2.2), Nat.le_trans HS.out.2.2.2 hB5.size⟩
                    refine hK.out _ _ HS5.out ?_
                    clear hK KK
                    try simp only [Act.put, List.setIfInBounds_toArray, List.set_cons_zero, List.set_cons_succ]
                    refine heldOne 2 (by kernel_rfl) rfl (by rfl) (fun KK hK => ?_)
                    refine step_str (some 113) rfl (.tmp 112) rfl _ _ v5 ((2 * tg + 1) :: (Fi.varint y.size ++ bl y)) rfl hO5 HY8.out ?_
                    refine hK.out _ _ HS5.out ?_
                    clear hK KK
                    try simp only [Act.put, List.setIfInBounds_toArray, List.set_cons_zero, List.set_cons_succ]
                    refine heldTake 7 (some 118) (.bool false) rfl rfl (by kernel_rfl) (by kernel_rfl) (by kernel_rfl) (fun _ _ _ h => h) (Or.inl ⟨by rfl, fun w hS => ?_⟩) HS5.out ?_
                    · (rw [HSG.eq]; go_simp)
                    simp only [Act.put, List.setIfInBounds_toArray, List.set_cons_zero, List.set_cons_succ]
                    refine wpAnyH_done (by kernel_rfl) ?_ _
                    obtain ⟨e0, e1, e2, e3⟩ := HS5.out.1
                    simp only [Nat.zero_add] at e0 e1 e2 e3
                    have HO6 := (show Hid (w5.ownsRow w.heap.size 38 4 uo pre.length (pre.flatMap fcells)) from HS5.out.2.1)
                    have HB6 := (show Hid (Below w.heap.size w w5) from HS5.out.2.2.1)
                    have hs5 := HB6.out.size
                    clear HS5 hO5 hB5 HS HF3 HO3 HB3
                    go_wp2_with (first | (refine append_field rfl (.tmp 119) (.tmp 121) rfl _ w.heap.size _ pre.length pre rfl (owns_alloc HO6.out _) ⟨w5.heap.size, 0, none⟩ 1 ⟨(tg : Int), 1, 0, y⟩ rfl (field_new w5 ⟨(tg : Int), 1, 0, y⟩) (by omega) (by simp; omega) ?_; intro v8 w8 hO8 hB8; have HO8 := (show Hid (w8.ownsRow w.heap.size 38 4 v8 (pre.length + 1) _) from hO8); have HB8 : Hid (Below w.heap.size w w8) := HB6.out.trans ((((Below.refl _ w5).alloc (Nat.le_refl _) _).mono hs5).trans hB8); clear hO8 hB8))
                    go_roundw
                    case rel => exact ⟨pre ++ [⟨(tg : Int), 1, 0, y⟩], k3, by omega, rfl, HRN.out, by rw [List.length_append]; exact HO8.out, HB8.out⟩
                    case measure => (simp [intOf]) <;> (have := HK2.eq; omega)
                  · have HSG : Hid (¬ tb ((2 * tg + 1) :: (Fi.varint y.size ++ bl y)) = s.extract k k3) := fun e => hsame (by
                      have e2 := congrArg bl e
                      rw [bl_tb HY8.out, hbk, hysz, hby] at e2
                      exact List.append_cancel_right (List.cons.inj e2).2)
                    have HX : Hid (∀ l, ¬ Dec (bl s) l) := HRD.out.stuck (by rw [HL.eq]; exact hlt) (by rw [HHT2.eq]; exact front_needless HGE.out hb128 (by rw [HVS2.eq]; exact hsame))
                    clear hsame hh2 HHT2 HRD hbk hby hdk2 hysz
                    have HS : Hid ((fun W : World => FieldAt W B 0 ⟨(tg : Int), 1, 0, y⟩ ∧ W.ownsRow w.heap.size 38 4 uo pre.length (pre.flatMap fcells) ∧ Below w.heap.size w W ∧ w.heap.size ≤ W.heap.size) W3.drew) := ⟨HF3.out.drew, owns_below38 HO3.out (Below.refl _ _).drew, HB3.out.drew, HB3.out.size⟩
                    go_upto_region 24 with fail
                    refine wp_region_held_drew (S := (fun W : World => FieldAt W B 0 ⟨(tg : Int), 1, 0, y⟩ ∧ W.ownsRow w.heap.size 38 4 uo pre.length (pre.flatMap fcells) ∧ Below w.heap.size w W ∧ w.heap.size ≤ W.heap.size)) (by kernel_rfl) HS.out (fun _ => ?_)
                    refine heldTake 0 (some 111) (fv ⟨(tg : Int), 1, 0, y⟩) rfl rfl (by kernel_rfl) (by kernel_rfl) (by kernel_rfl) (fun _ _ _ h => h) ((yieldsIf_load_mid (by rfl) _ _ rfl _ _ rfl (fcells ⟨(tg : Int), 1, 0, y⟩) _ (fun w hS => hS.1.range) Try.underlying38 rfl size38)) HS.out ?_
                    simp only [Act.put, List.setIfInBounds_toArray, List.set_cons_zero, List.set_cons_succ]
                    refine heldTake 3 (some 114) (.string s) rfl rfl (by kernel_rfl) (by kernel_rfl) (by kernel_rfl) (fun _ _ _ h => h) (Or.inl ⟨by rfl, fun w hS => ?_⟩) HS.out ?_
                    · (go_simp)
                    simp only [Act.put, List.setIfInBounds_toArray, List.set_cons_zero, List.set_cons_succ]
                    refine heldTake 4 (some 115) (.int .i64 (k : Int)) rfl rfl (by kernel_rfl) (by kernel_rfl) (by kernel_rfl) (fun _ _ _ h => h) (Or.inl ⟨by rfl, fun w hS => ?_⟩) HS.out ?_
                    · (go_simp)
                    simp only [Act.put, List.setIfInBounds_toArray, List.set_cons_zero, List.set_cons_succ]
                    refine heldTake 5 (some 116) (.int .i64 (k3 : Int)) rfl rfl (by kernel_rfl) (by kernel_rfl) (by kernel_rfl) (fun _ _ _ h => h) (Or.inl ⟨by rfl, fun w hS => ?_⟩) HS.out ?_
                    · (go_simp)
                    simp only [Act.put, List.setIfInBounds_toArray, List.set_cons_zero, List.set_cons_succ]
                    refine heldTake 6 (some 117) (.string (s.extract k k3)) rfl rfl (by kernel_rfl) (by kernel_rfl) (by kernel_rfl) (fun _ _ _ h => h) (Or.inl ⟨by rfl, fun w hS => ?_⟩) HS.out ?_
                    · ((have h5 : (k : Int) ≤ (k3 : Int) := by have := HK2.eq; omega); (have h6 : (k3 : Int) ≤ (L : Int) := by omega); go_simp)
                    simp only [Act.put, List.setIfInBounds_toArray, List.set_cons_zero, List.set_cons_succ]
                    refine heldOne 1 (by kernel_rfl) rfl (by rfl) (fun KK hK => ?_)
                    go_simp
                    go_at_call 27
                    refine (rbytes_text _ tg 0 y (by omega) (by omega)).mono ?_
                    rintro e w5 ⟨v5, rfl, hO5, hB5⟩
                    have HS5 : Hid ((fun W : World => FieldAt W B 0 ⟨(tg : Int), 1, 0, y⟩ ∧ W.ownsRow w.heap.size 38 4 uo pre.length (pre.flatMap fcells) ∧ Below w.heap.size w W ∧ w.heap.size ≤ W.heap.size) w5) := ⟨HS.out.1.below hB5 (block_lt_of_cell HS.out.1.tag), owns_below38 HS.out.2.1 hB5, HS.out.2.2.1.trans (hB5.mono HS.out.2.2.2), Nat.le_trans HS.out.2.2.2 hB5.size⟩
                    refine hK.out _ _ HS5.out ?_
                    clear hK KK
                    try simp only [Act.put, List.setIfInBounds_toArray, List.set_cons_zero, List.set_cons_succ]
                    refine heldOne 2 (by kernel_rfl) rfl (by rfl) (fun KK hK => ?_)
                    refine step_str (some 113) rfl (.tmp 112) rfl _ _ v5 ((2 * tg + 1) :: (Fi.varint y.size ++ bl y)) rfl hO5 HY8.out ?_
                    refine hK.out _ _ HS5.out ?_
                    clear hK KK
                    try simp only [Act.put, List.setIfInBounds_toArray, List.set_cons_zero, List.set_cons_succ]
                    refine heldTake 7 (some 118) (.bool true) rfl rfl (by kernel_rfl) (by kernel_rfl) (by kernel_rfl) (fun _ _ _ h => h) (Or.inl ⟨by rfl, fun w hS => ?_⟩) HS5.out ?_
                    · (go_simp; exact fun e => HSG.out (bt_inj e))
                    simp only [Act.put, List.setIfInBounds_toArray, List.set_cons_zero, List.set_cons_succ]
                    refine wpAnyH_done (by kernel_rfl) ?_ _
                    go_wp2_with fail
                    go_ret2
                    exact .inr ⟨HX.out, rfl, HS5.out.2.2.1⟩
          · have hj9 : j = 9 := by omega
            have d2 : decide ((j1n : Int) < 10) = false := by simp; omega
            have d4 : decide ((10 : Int) ≤ (j1n : Int)) = true := by simp; omega
            have d3 : decide ((L : Int) ≤ (kk : Int)) = false := by simp; omega
            have HX : Hid (∀ l, ¬ Dec (bl s) l) := HRD.out.stuck (by rw [HL.eq]; exact hlt) (by rw [HHT.eq]; exact front_none (k := j) (by rw [HTL.eq]; omega) HGE.out)
            clear hj9 hkk hj1
            generalize Fi.val (t.take j) = n at *
            go_wp2_with fail
            go_ret2
            exact .inr ⟨HX.out, rfl, HB2.out⟩
        · have hkl : kk = L := by omega
          have d1 : decide ((kk : Int) < (L : Int)) = false := by simp; omega
          have d3 : decide ((L : Int) ≤ (kk : Int)) = true := by simp; omega
          have HX : Hid (∀ l, ¬ Dec (bl s) l) := HRD.out.stuck (by rw [HL.eq]; exact hlt) (by rw [HHT.eq]; exact front_none (k := j) (by rw [HTL.eq]; omega) HGE.out)
          clear hkl hkk hj1
          generalize Fi.val (t.take j) = n at *
          go_wp2_with fail
          go_ret2
          exact .inr ⟨HX.out, rfl, HB2.out⟩
    · have hkl : k = L := by omega
      have i0 : ¬ (k : Int) < (L : Int) := by omega
      obtain ⟨a1, cap1, hv1, hc1, hF1⟩ := own_fields HO.out (fun f hf => (HRD.out.raw f hf).fits)
      have HW : Hid (RRead (bl s) pre (bl s).length) := by rw [HL.eq, ← hkl]; exact HRD.out
      have hen : enc pre = bl s := by rw [HW.out.eq, List.take_of_length_le (Nat.le_refl _)]
      have hpl : pre.length ≤ 65536 := by have h1 := enc_len pre; rw [hen, HL.eq] at h1; omega
      have HR := renc_any a1 pre.length cap1 pre wr hF1 (by omega) (by rw [hen, HL.eq]; omega)
      by_cases he : encE pre = 0
      · have HD : Hid (Dec (bl s) pre) := by have := enc_dec he; rwa [hen] at this
        rw [he, encS_back HD.out] at HR
        clear hkl hen he
        subst hv1
        go_wp2_with fail
        refine HR.mono ?_
        clear HR
        rintro e w2 ⟨rfl, hB2⟩
        have HO9 := (show Hid (w2.ownsRow w.heap.size 38 4 _ pre.length (pre.flatMap fcells)) from owns_below38 HO.out hB2)
        have HB9 : Hid (Below w.heap.size w w2) := HB.out.trans (hB2.mono hzr)
        clear hB2
        go_wp2_with fail
        go_ret2
        exact .inl ⟨pre, _, HD.out, rfl, HO9.out, HB9.out⟩
      · have HX := HW.out.whole he
        have he' : ¬ ((encE pre : Nat) : Int) = 0 := by omega
        have he2 : (((encE pre : Nat) : Int) != 0) = true := by simpa using he
        clear hkl hen he
        generalize encE pre = c at *
        generalize encS pre = x at *
        subst hv1
        generalize pre.length = n at *
        go_wp2_with fail
        refine HR.mono ?_
        clear HR
        rintro e w2 ⟨rfl, hB2⟩
        have HB9 : Hid (Below w.heap.size w w2) := HB.out.trans (hB2.mono hzr)
        clear hB2
        go_wp2_with fail
        go_ret2
        exact .inr ⟨HX, rfl, HB9.out⟩
end Go.Proofs.Ytpbobmhffdmmmaa
