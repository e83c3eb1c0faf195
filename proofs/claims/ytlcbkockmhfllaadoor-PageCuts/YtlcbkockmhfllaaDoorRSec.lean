/- Proved: what page's Sectors, the document's Sectors and Blank, and the comparison of two lists of texts answer. -/
import Derived.Test.YtlcbkockmhfllaaDoorWorks
namespace Go.Proofs.YtlcbkockmhfllaaDoor
open Go.RowKit
set_option maxHeartbeats 2000000 in
set_option maxRecDepth 20000 in
theorem same_any (u v : Value) (xs ys : List ByteArray) (w : World) (hx : OwnS w 0 u xs) (hy : OwnS w 0 v ys) :
    Calls Tryd.prog 15 #[u, v] w fun e w' => e = .returned (.bool (decide (xs = ys))) ∧ Below w.heap.size w w' ∧ w'.heap.size = w.heap.size := by
  obtain ⟨ua, uc, hu, hu1, hu2, hu3⟩ := own_strs hx
  obtain ⟨va, vc, hv, hv1, hv2, hv3⟩ := own_strs hy
  have HU : Hid (0 < xs.length → ∃ g, ua = some ⟨g, 0, none⟩ ∧ u.ownBlock = some g ∧ ∀ i r, xs[i]? = some r → w.cell? ⟨g, i, none⟩ = some (.string r)) := hu3
  have HV : Hid (0 < ys.length → ∃ g, va = some ⟨g, 0, none⟩ ∧ v.ownBlock = some g ∧ ∀ i r, ys[i]? = some r → w.cell? ⟨g, i, none⟩ = some (.string r)) := hv3
  clear hx hy hu3 hv3
  subst hu
  subst hv
  by_cases hl : xs.length = ys.length
  · have hb : ((xs.length : Int) != (ys.length : Int)) = false := by simp [hl]
    go_enter Tryd.func15, Tryd.ntmps15
    go_wp2_with fail
    go_loopw [5] (fun s5 wr => ∃ k : Nat, k ≤ xs.length ∧ s5 = .int .i64 (k : Int) ∧ xs.take k = ys.take k ∧ ∃ n, wr = w.drewN n) (fun s5 _ => xs.length - (intOf s5).toNat)
    case atStart => exact ⟨0, by omega, rfl, by simp, 0, rfl⟩
    case round =>
      obtain ⟨k, hk, rfl, htk, m, hwr⟩ := hrel
      have HTK : Hid (xs.take k = ys.take k) := htk
      clear htk hb
      by_cases hkl : k < xs.length
      · have dk : decide ((k : Int) < (xs.length : Int)) = true := decide_eq_true (by omega)
        obtain ⟨g1, rfl, _, hc1⟩ := HU.out (by omega)
        obtain ⟨g2, rfl, _, hc2⟩ := HV.out (by omega)
        obtain ⟨r, hr⟩ : ∃ r, xs[k]? = some r := ⟨_, List.getElem?_eq_getElem hkl⟩
        obtain ⟨r', hr'⟩ : ∃ r', ys[k]? = some r' := ⟨_, List.getElem?_eq_getElem (by omega)⟩
        have q1 : wr.cell? ⟨g1, k, none⟩ = some (.string r) := by rw [hwr]; exact hc1 k r hr
        have q2 : wr.cell? ⟨g2, k, none⟩ = some (.string r') := by rw [hwr]; exact hc2 k r' hr'
        have k0 : (0 : Int) ≤ (k : Int) := by omega
        have k1 : (k : Int) < (xs.length : Int) := by omega
        have k2 : (k : Int) < (ys.length : Int) := by omega
        have HR : Hid (xs[k]? = some r ∧ ys[k]? = some r') := ⟨hr, hr'⟩
        have HW : Hid (wr = w.drewN m) := hwr
        clear hr hr' hc1 hc2 hwr
        by_cases he : r = r'
        · subst he
          have HFN : Hid (∀ W, (∃ n, W = wr.drewN n) → ∃ k' : Nat, k' ≤ xs.length ∧ Value.int .i64 ((k : Int) + 1) = .int .i64 (k' : Int) ∧ xs.take k' = ys.take k' ∧ ∃ n, W = w.drewN n) := fun W ⟨n, hW⟩ => ⟨k + 1, by omega, by go_num, by
            have h1 := HR.out.1
            have h2 := HR.out.2
            obtain ⟨a1, b1⟩ := List.getElem?_eq_some_iff.1 h1
            obtain ⟨a2, b2⟩ := List.getElem?_eq_some_iff.1 h2
            rw [List.take_succ_eq_append_getElem a1, List.take_succ_eq_append_getElem a2, HTK.out, b1, b2], by rw [hW, HW.out]; exact ⟨m + n, by simp [World.drewN, Nat.add_assoc]⟩⟩
          go_wp2_with fail
          go_quiet (fail)
          go_wp2
          go_roundw
          case rel => first | exact HFN.out _ ⟨_, rfl⟩ | ((repeat apply Exists.intro); exact ⟨HFN.out _ ⟨_, rfl⟩, rfl⟩)
          case measure => (simp [intOf]) <;> omega
        · have hne := toList_ne he
          have HFN : Hid (∀ W, (∃ n, W = wr.drewN n) → Value.bool false = .bool (decide (xs = ys)) ∧ Below w.heap.size w W ∧ W.heap.size = w.heap.size) := fun W ⟨n, hW⟩ => ⟨by
            rw [decide_eq_false]
            intro e
            have h1 := HR.out.1
            rw [e, HR.out.2] at h1
            exact he (Option.some.inj h1).symm, by rw [hW, HW.out]; exact ⟨rfl, rfl, rfl, Nat.le_refl _, fun _ _ => rfl⟩, by rw [hW, HW.out]; rfl⟩
          go_wp2_with fail
          go_quiet (fail)
          go_wp2
          go_ret
          obtain ⟨h1, h2⟩ := HFN.out _ ⟨nq, rfl⟩
          exact ⟨congrArg Ending.returned h1, h2⟩
      · have dk : decide ((k : Int) < (xs.length : Int)) = false := decide_eq_false (by omega)
        have HFN : Hid (decide (xs = ys) = true ∧ Below w.heap.size w wr ∧ wr.heap.size = w.heap.size) := by
          have := HTK.out
          rw [List.take_of_length_le (by omega), List.take_of_length_le (by omega)] at this
          exact ⟨decide_eq_true this, by rw [hwr]; exact ⟨rfl, rfl, rfl, Nat.le_refl _, fun _ _ => rfl⟩, by rw [hwr]; rfl⟩
        clear hwr
        go_wp2
        go_ret
        exact ⟨by rw [HFN.out.1]; rfl, HFN.out.2⟩
  · have hb : ((xs.length : Int) != (ys.length : Int)) = true := by simp; omega
    have HE : Hid (decide (xs = ys) = false) := decide_eq_false (fun e => hl (by rw [e]))
    clear hl
    go_enter Tryd.func15, Tryd.ntmps15
    go_wp2
    go_ret
    exact ⟨by rw [HE.out]; rfl, Below.refl _ _, rfl⟩
set_option maxHeartbeats 1000000 in
theorem sectors_any (s : ByteArray) (w : World) (hs : s.size ≤ 100000) :
    Calls Tryd.prog 14 #[.string s] w fun e w' => ∃ v, e = .returned v ∧ OwnS w' w.heap.size v (Pg.cut s 64 []) ∧ Below w.heap.size w w' := by
  have H := cut_any s 64 [] none 0 w hs (by omega) (by omega) (by simp) (by simp) (.inl rfl) (by simp) (by omega)
  go_enter Tryd.func14, Tryd.ntmps14
  go_wp2_with fail
  refine H.mono ?_
  rintro e w1 ⟨v, rfl, hO, hB⟩
  have HO : Hid (OwnS w1 w.heap.size v (Pg.cut s 64 []) ∧ Below w.heap.size w w1) := ⟨hO, hB⟩
  clear hO hB H
  go_wp2
  go_ret
  exact ⟨_, rfl, HO.out⟩
theorem secs_all0 (s : ByteArray) : Pg.cut s 64 [] = Pg.secs s 0 := by
  unfold Pg.secs
  have e2 : s.extract 0 s.size = s := by
    apply Wl.ext_list
    rw [Wl.ext_ext, List.drop_zero, Sc.size_eq, List.take_length]
  rw [e2]
structure SecR (w : World) (s : ByteArray) (s3 s4 : Value) (wr : World) (j : Nat) (rs : List ByteArray) : Prop where
  e4 : s4 = .int .i64 (j : Int)
  own : OwnS wr w.heap.size s3 rs
  bel : Below w.heap.size w wr
  cut : Pg.cut s 64 [] = rs ++ Pg.secs s j
  size : rs.length ≤ j
  most : j ≤ s.size + 64
set_option maxHeartbeats 2000000 in
set_option maxRecDepth 20000 in
theorem rsectors_any (s : ByteArray) (w : World) (hs : s.size ≤ 100000) :
    Calls Tryd.prog 16 #[.string s] w fun e w' => ∃ v, e = .returned v ∧ OwnS w' w.heap.size v (Pg.cut s 64 []) ∧ Below w.heap.size w w' := by
  go_enter Tryd.func16, Tryd.ntmps16
  go_wp2_with fail
  go_loopw [3, 4, 5] (fun s3 s4 _ wr => ∃ j rs, SecR w s s3 s4 wr j rs) (fun _ s4 _ _ => s.size + 64 - (intOf s4).toNat)
  case atStart => exact ⟨0, [], ⟨rfl, World.ownsRow_nil _ _ _ _, Below.refl _ _, secs_all0 s, by simp, by omega⟩⟩
  case round =>
    obtain ⟨j, rs, rfl, hO, hB, hcut, hsz, hmost⟩ := hrel
    have HO : Hid (OwnS wr w.heap.size u3 rs) := hO
    have HB : Hid (Below w.heap.size w wr) := hB
    have HC : Hid (Pg.cut s 64 [] = rs ++ Pg.secs s j) := hcut
    have hwq := hB.size
    clear hO hB hcut
    by_cases hlt : j < s.size
    · have d1 : decide ((j : Int) < (s.size : Int)) = true := decide_eq_true (by omega)
      have HCC : Hid (Pg.cut s 64 [] = (rs ++ [s.extract j (min (j + 64) s.size)]) ++ Pg.secs s (j + 64)) := by
        rw [HC.out, Pg.secs_next hlt, List.append_assoc]
        by_cases h64 : j + 64 ≤ s.size
        · rw [Nat.min_eq_left h64]; rfl
        · rw [Nat.min_eq_right (by omega), Pg.secs_end (Nat.le_refl _), Pg.secs_end (i := j + 64) (by omega)]; rfl
      have q2 : ∀ o, w.heap.size ≤ (wr.alloc o).heap.size := fun o => by simp; omega
      have j0 : (0 : Int) ≤ (j : Int) := by omega
      by_cases h64 : s.size < j + 64
      · have d2 : decide ((s.size : Int) < (j : Int) + 64) = true := decide_eq_true (by omega)
        rw [Nat.min_eq_right (by omega)] at HCC
        have j1 : (j : Int) ≤ (s.size : Int) := by omega
        have j2 : (s.size : Int) ≤ (s.size : Int) := by omega
        generalize hpc : s.extract j s.size = pc at *
        have q1 : rs.length + [pc].length ≤ 10000000 := by simp; omega
        go_wp2_with (refine app_many rfl (.tmp 20) (.tmp 25) rfl _ w.heap.size _ _ rs [pc] rfl (own_alloc HO.out _) rfl (own_new wr pc) q1 (q2 _) ?_; intro v3 w3 hO3 hG3 _; have HB3 : Hid (Below w.heap.size w w3) := HB.out.trans (((Below.refl _ _).alloc hwq _).trans (below_grown hG3 (own_alloc HO.out _) (q2 _))); have HO3 : Hid (OwnS w3 w.heap.size v3 (rs ++ [pc])) := hO3; clear hO3 hG3)
        go_roundw
        case rel => exact ⟨j + 64, rs ++ [pc], ⟨by go_num, HO3.out, HB3.out, HCC.out, by rw [List.length_append]; simp; omega, by omega⟩⟩
        case measure => (simp [intOf]) <;> omega
      · have d2 : decide ((s.size : Int) < (j : Int) + 64) = false := decide_eq_false (by omega)
        rw [Nat.min_eq_left (by omega)] at HCC
        have j1 : (j : Int) ≤ (j : Int) + 64 := by omega
        have j2 : (j : Int) + 64 ≤ (s.size : Int) := by omega
        have htn : ((j : Int) + 64).toNat = j + 64 := by omega
        generalize hpc : s.extract j (j + 64) = pc at *
        have q1 : rs.length + [pc].length ≤ 10000000 := by simp; omega
        go_wp2_with (refine app_many rfl (.tmp 20) (.tmp 25) rfl _ w.heap.size _ _ rs [pc] rfl (own_alloc HO.out _) rfl (own_new wr pc) q1 (q2 _) ?_; intro v3 w3 hO3 hG3 _; have HB3 : Hid (Below w.heap.size w w3) := HB.out.trans (((Below.refl _ _).alloc hwq _).trans (below_grown hG3 (own_alloc HO.out _) (q2 _))); have HO3 : Hid (OwnS w3 w.heap.size v3 (rs ++ [pc])) := hO3; clear hO3 hG3)
        go_roundw
        case rel => exact ⟨j + 64, rs ++ [pc], ⟨by go_num, HO3.out, HB3.out, HCC.out, by rw [List.length_append]; simp; omega, by omega⟩⟩
        case measure => (simp [intOf]) <;> omega
    · have d1 : decide ((j : Int) < (s.size : Int)) = false := decide_eq_false (by omega)
      have HFN : Hid (OwnS wr w.heap.size u3 (Pg.cut s 64 [])) := by
        rw [HC.out, Pg.secs_end (by omega), List.append_nil]; exact HO.out
      go_wp2
      go_ret
      exact ⟨_, rfl, HFN.out, HB.out⟩
theorem blank_iff {s : ByteArray} (h : s.data.toList = List.replicate s.size 0) : decide (s = Pg.blank) = ((s.size : Int) == 512) := by
  by_cases h5 : s.size = 512
  · have e : s = Pg.blank := by
      apply Wl.ext_list
      rw [h, h5]
      unfold Pg.blank
      rw [Wl.ob_list]
      rfl
    rw [decide_eq_true e, h5]
    rfl
  · have e : ¬ s = Pg.blank := fun e => h5 (by rw [e, Pg.blank_size])
    rw [decide_eq_false e]
    symm
    rw [beq_eq_false_iff_ne]
    omega
theorem blank_at {i : Nat} {c : UInt8} (h : Pg.blank.data.toList[i]? = some c) : c = 0 := by
  unfold Pg.blank at h
  rw [Wl.ob_list] at h
  exact (List.mem_replicate.1 (List.mem_of_getElem? h)).2
set_option maxHeartbeats 1000000 in
theorem rblank_any (s : ByteArray) (w : World) (hs : s.size ≤ 100000) :
    Calls Tryd.prog 18 #[.string s] w fun e w' => e = .returned (.bool (decide (s = Pg.blank))) ∧ w' = w := by
  have HZ : Hid (s.size = s.data.toList.length) := Sc.size_eq s
  go_enter Tryd.func18, Tryd.ntmps18
  go_wp2_with fail
  go_loopw [3] (fun s3 wr => ∃ j : Nat, j ≤ s.size ∧ s3 = .int .i64 (j : Int) ∧ s.data.toList.take j = List.replicate j 0 ∧ wr = w) (fun s3 _ => s.size - (intOf s3).toNat)
  case atStart => exact ⟨0, by omega, rfl, rfl, rfl⟩
  case round =>
    obtain ⟨j, hj, rfl, htk, hwr⟩ := hrel
    subst hwr
    have HTK : Hid (s.data.toList.take j = List.replicate j 0) := htk
    clear htk
    have hsz := HZ.out
    by_cases hjk : j < s.size
    · obtain ⟨c, hc⟩ : ∃ c, s.data.toList[j]? = some c := ⟨_, List.getElem?_eq_getElem (by omega)⟩
      have hb : ∀ h, (s[j]'h) = c := fun h => byte_at s j c hc h
      have dj : decide ((j : Int) < (s.size : Int)) = true := decide_eq_true (by omega)
      have j0 : (0 : Int) ≤ (j : Int) := by omega
      have j1 : (j : Int) < (s.size : Int) := by omega
      by_cases h0 : c = 0
      · subst h0
        have HFN : Hid (∃ j' : Nat, j' ≤ s.size ∧ Value.int .i64 ((j : Int) + 1) = .int .i64 (j' : Int) ∧ s.data.toList.take j' = List.replicate j' 0) := ⟨j + 1, by omega, by go_num, by
          have hjl : j < s.data.toList.length := by omega
          have hc2 := (List.getElem?_eq_some_iff.1 hc).2
          rw [List.take_succ_eq_append_getElem hjl, HTK.out, hc2, List.replicate_succ']⟩
        clear hc hsz
        go_wp2
        go_roundw
        case rel =>
          obtain ⟨j', h1, h2, h3⟩ := HFN.out
          exact ⟨j', h1, h2, h3, trivial⟩
        case measure => (simp [intOf]) <;> omega
      · have hne : ((c.toNat : Int) != 0) = true := by
          rw [bne_iff_ne]
          intro e
          exact h0 (UInt8.toNat_inj.1 (by show c.toNat = 0; omega))
        have HFN : Hid (decide (s = Pg.blank) = false) := decide_eq_false (fun e => h0 (blank_at (i := j) (by rw [← e]; exact hc)))
        clear hc hsz h0
        go_wp2
        go_ret
        exact ⟨by rw [HFN.out]; rfl, rfl⟩
    · obtain rfl : j = s.size := by omega
      have dj : decide ((s.size : Int) < (s.size : Int)) = false := decide_eq_false (by omega)
      have HE : Hid (decide (s = Pg.blank) = ((s.size : Int) == 512)) := blank_iff (by
        have := HTK.out
        rw [List.take_of_length_le (by omega)] at this
        exact this)
      clear hsz
      go_wp2
      go_ret
      exact ⟨by rw [HE.out]; rfl, rfl⟩
end Go.Proofs.YtlcbkockmhfllaaDoor
