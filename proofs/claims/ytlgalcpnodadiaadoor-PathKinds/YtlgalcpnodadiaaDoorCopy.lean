/- Proved: Copy answers a copy's path, or refuses. -/
import Derived.Test.YtlgalcpnodadiaaDoorClean
namespace Go.Proofs.YtlgalcpnodadiaaDoor
open Go.RowKit
theorem mem_join {b : UInt8} {n : Pm.T} (hb : b ∈ n) : ∀ {l : List Pm.T}, n ∈ l → b ∈ Pm.join l
  | [], h => by cases h
  | [m], h => by rw [List.mem_singleton] at h; subst h; exact hb
  | m :: k :: r, h => by
    rw [Pm.join, List.mem_append, List.mem_cons]
    rcases List.mem_cons.1 h with rfl | h
    · exact .inl hb
    · exact .inr (.inr (mem_join hb h))
theorem kind_two {p : Pm.T} (h : (Pm.kind p).1 = 2) : Pm.Path p ∧ Pm.nk ((Pm.names p).getLastD []) = 2 := by
  rcases Pm.cases_isP p with rfl | h' | h'
  · rw [Pm.kind_root] at h; cases h
  · rw [(Pm.not_isP h').1] at h; cases h
  · rw [Pm.kind_of_path h'] at h; exact ⟨h', h⟩
theorem last_mem {l : List Pm.T} (h : l ≠ []) : l.getLastD [] ∈ l := by
  rw [List.getLastD_eq_getLast?, List.getLast?_eq_some_getLast h]; exact List.getLast_mem h
theorem two_dot {p : Pm.T} (h : (Pm.kind p).1 = 2) : ∃ a b, p = a ++ 46 :: b ∧ 46 ∉ a ∧ Pm.head p = a ∧ Pm.tail p = b := by
  obtain ⟨_, h2⟩ := kind_two h
  obtain ⟨_, x, y, e, _, _⟩ := Pm.nk_two h2
  have hm : (46 : UInt8) ∈ p := by
    rw [← Pm.join_names p]
    refine mem_join (n := (Pm.names p).getLastD []) ?_ (last_mem (Pm.names_ne p))
    rw [e]; simp
  rcases Pm.cut_cases p with ⟨hn, _⟩ | ⟨a, b, e, hn, h1, h2, _⟩
  · exact absurd hm hn
  · exact ⟨a, b, e, hn, h1, h2⟩
theorem digits_length (n : Nat) (h : n ≤ 999) : (Lib.decDigits n).length ≤ 3 := by
  have h' : n < 10 ∨ (10 ≤ n ∧ n < 100) ∨ 100 ≤ n := by omega
  rcases h' with h' | h' | h'
  · rw [Lib.decDigits, dif_pos h']; simp
  · rw [Lib.decDigits, dif_neg (by omega), Lib.decDigits, dif_pos (by omega)]; simp
  · rw [Lib.decDigits, dif_neg (by omega), Lib.decDigits, dif_neg (by omega), Lib.decDigits, dif_pos (by omega)]; simp
theorem bl_append (a b : ByteArray) : bl (a ++ b) = bl a ++ bl b := by
  rw [bl, ByteArray.data_append, Array.toList_append]
theorem copy_text (s : ByteArray) (n : Nat) (a b : Pm.T) (e : bl s = a ++ 46 :: b) (h1 : Pm.head (bl s) = a) (h2 : Pm.tail (bl s) = b) :
    s.extract 0 a.length ++ ⟨#[126]⟩ ++ ⟨(Lib.decDigits n).toArray⟩ ++ s.extract a.length s.size = mk (Pm.copyOf (bl s) n) := bl_inj (by
  rw [bl_append, bl_append, bl_append, bl_mk, Pm.copyOf, h1, h2]
  have e1 : bl (s.extract 0 a.length) = a := by rw [bl, Lib.extract_from_zero]; show (bl s).take _ = a; rw [e]; simp
  have e2 : bl (s.extract a.length s.size) = 46 :: b := by rw [bl, Lib.extract_to_end]; show (bl s).drop _ = _; rw [e]; simp
  rw [e1, e2]
  show a ++ [126] ++ Lib.decDigits n ++ 46 :: b = a ++ 126 :: Lib.decDigits n ++ 46 :: b
  simp)
set_option maxHeartbeats 2000000 in
set_option maxRecDepth 20000 in
theorem copy_any (s : ByteArray) (n : Int) (w : World) (hs : s.size < 4294967281) (hT : Tab w) :
    Calls Tryd.prog 30 #[.string s, .int .i64 n] w fun e w' => e = .returned (.tuple #[.string (mk (Pm.copy (bl s) n).1), .int .i64 ((Pm.copy (bl s) n).2 : Nat)]) ∧ Below w.heap.size w w' := by
  have HT : Hid (Tab w) := hT
  have HK : Is (Pm.copy (bl s) n) (if (Pm.kind (bl s)).1 = 2 ∧ 1 ≤ n ∧ n ≤ 999 then Pm.checked (Pm.copyOf (bl s) n.toNat) else ([], 2)) := ⟨rfl⟩
  have HKN : Hid (∀ W : World, Tab W → Calls Tryd.prog 10 #[.string s] W fun e w' => e = .returned (.tuple #[.int .i64 ((Pm.kind (bl s)).1 : Nat), .int .i64 ((Pm.kind (bl s)).2 : Nat)]) ∧ Below W.heap.size W w') := fun W hW => kind_any s W hs hW
  clear hT
  by_cases hk : (Pm.kind (bl s)).1 = 2
  · obtain ⟨a, b, he, hn, e1, e2⟩ := two_dot hk
    have h96 := (kind_two hk).1.len
    rw [hk] at HKN HK
    clear hk
    generalize (Pm.kind (bl s)).2 = k2 at *
    go_enter Tryd.func30, Tryd.ntmps30
    go_wp2_with fail
    refine (HKN.out _ HT.out).mono ?_
    rintro e w1 ⟨rfl, hB1⟩
    have HB1 : Hid (Below w.heap.size w w1) := hB1
    have HT1 : Hid (Tab w1) := HT.out.below hB1
    have hsz1 := hB1.size
    clear hB1 HKN
    by_cases hn1 : n < 1
    · rw [if_neg (by omega)] at HK
      go_wp2_with fail
      go_ret2
      exact ⟨by rw [HK.eq]; rfl, HB1.out⟩
    · by_cases hn2 : 999 < n
      · rw [if_neg (by omega)] at HK
        go_wp2_with fail
        go_ret2
        exact ⟨by rw [HK.eq]; rfl, HB1.out⟩
      · rw [if_pos ⟨trivial, by omega, by omega⟩] at HK
        obtain ⟨m, rfl⟩ : ∃ m : Nat, n = (m : Int) := ⟨n.toNat, by omega⟩
        rw [Int.toNat_natCast] at HK
        have hidx : Lib.indexByte (bl s) 46 = (a.length : Int) := by
          rcases Pm.indexByte_one (bl s) 46 with ⟨_, h⟩ | ⟨a', b', h, h', hn'⟩
          · exact absurd (by rw [he]; simp) h
          · have c1 : Pm.head (bl s) = a' := by rw [Pm.head, h', Pm.cut_at hn']
            rw [h, ← c1, e1]
        have HI : Hid (∀ W : World, Calls Tryd.prog 49 #[.string s, .int .u8 46] W fun e w' => e = .returned (.int .i64 (a.length : Nat)) ∧ w' = W) := fun W => by
          have h := Tryd.strings_IndexByte s 46 W
          rw [show Lib.indexByte s.data.toList (46 : Int).toNat.toUInt8 = (a.length : Int) from hidx] at h
          exact h
        have HIT : Hid (∀ W : World, Tab W → Calls Tryd.prog 50 #[.int .i64 (m : Int)] W fun e w' => e = .returned (.string ⟨(Lib.decDigits m).toArray⟩) ∧ Below W.heap.size W w') := fun W hW => by
          refine (Tryd.strconv_Itoa m (by omega) (by omega) W hW.pow).mono fun e w' ⟨h1, k, os, h2⟩ => ⟨?_, ?_⟩
          · rw [h1, Lib.itoa, if_neg (by omega), Int.toNat_natCast]
          · rw [h2]; exact Lib.below_grow _ W (Nat.le_refl _) k os
        have HTX := (show Is _ _ from ⟨copy_text s m a b he e1 e2⟩)
        have hal : a.length ≤ s.size := by rw [← bl_length s, he]; simp
        have hdl := digits_length m (by omega)
        have HCH : Hid (∀ W : World, Tab W → Calls Tryd.prog 36 #[.string (mk (Pm.copyOf (bl s) m))] W fun e w' => e = .returned (.tuple #[.string (mk (Pm.checked (Pm.copyOf (bl s) m)).1), .int .i64 ((Pm.checked (Pm.copyOf (bl s) m)).2 : Nat)]) ∧ Below W.heap.size W w') := fun W hW => checked_any (mk (Pm.copyOf (bl s) m)) W (by
          rw [mk_size, Pm.copyOf, e1, e2]
          rw [he] at h96
          simp only [List.length_append, List.length_cons] at h96 ⊢
          omega) hW
        rw [← HTX.eq] at HCH
        have z1 : (s.extract 0 a.length).size ≤ 96 := by rw [ByteArray.size_extract]; rw [bl_length] at h96; omega
        have z2 : (s.extract a.length s.size).size ≤ 96 := by rw [ByteArray.size_extract]; rw [bl_length] at h96; omega
        have z3 : (⟨(Lib.decDigits m).toArray⟩ : ByteArray).size ≤ 3 := hdl
        have A1 : ∀ W : World, (Op.stringOp .add (s.extract 0 a.length) ⟨#[126]⟩).run Tryd.prog W = .ok (.string (s.extract 0 a.length ++ ⟨#[126]⟩)) W := fun W => run_string_add_sum W _ _ (by show _ + 1 ≤ _; omega)
        have A2 : ∀ W : World, (Op.stringOp .add (s.extract 0 a.length ++ ⟨#[126]⟩) ⟨(Lib.decDigits m).toArray⟩).run Tryd.prog W = .ok (.string (s.extract 0 a.length ++ ⟨#[126]⟩ ++ ⟨(Lib.decDigits m).toArray⟩)) W := fun W => run_string_add_sum W _ _ (by rw [ByteArray.size_append]; show _ + 1 + _ ≤ _; omega)
        have A3 : ∀ W : World, (Op.stringOp .add (s.extract 0 a.length ++ ⟨#[126]⟩ ++ ⟨(Lib.decDigits m).toArray⟩) (s.extract a.length s.size)).run Tryd.prog W = .ok (.string (s.extract 0 a.length ++ ⟨#[126]⟩ ++ ⟨(Lib.decDigits m).toArray⟩ ++ s.extract a.length s.size)) W := fun W => run_string_add_sum W _ _ (by rw [ByteArray.size_append, ByteArray.size_append]; show _ + 1 + _ + _ ≤ _; omega)
        clear z1 z2 z3
        clear HTX hidx he hn e1 e2 h96
        have i1 : ((a.length : Nat) : Int) ≤ (s.size : Int) := by omega
        have i2 : (0 : Int) ≤ ((a.length : Nat) : Int) := by omega
        generalize a.length = d at *
        generalize Pm.checked (Pm.copyOf (bl s) m) = C at *
        generalize (⟨(Lib.decDigits m).toArray⟩ : ByteArray) = X at *
        go_wp2_with fail
        refine (HI.out _).mono ?_
        rintro e w2 ⟨rfl, rfl⟩
        go_wp2_with fail
        go_region_held3 (fun w' => Below w2.heap.size w2 w') (first | exact (Below.refl _ _).drew | assumption)
          (first
            | (go_at_call 50; refine (HIT.out _ ?_).mono ?_; exact HT1.out.below (by assumption); rintro e w3 ⟨rfl, hb3⟩; have hb4 : Below w2.heap.size w2 w3 := Below.trans (by assumption) (hb3.mono (Below.size (by assumption))))
            | (go_at_call 36; refine (HCH.out _ ?_).mono ?_; exact HT1.out.below (by assumption); rintro e w5 ⟨rfl, hb5⟩; have hb6 : Below w2.heap.size w2 w5 := Below.trans (by assumption) (hb5.mono (Below.size (by assumption)))))
        all_goals go_wp2
        all_goals go_ret2
        all_goals exact ⟨by rw [HK.eq]; rfl, HB1.out.trans (hb6.mono hsz1)⟩
  · rw [if_neg (fun h => hk h.1)] at HK
    have hk' : ¬ (((Pm.kind (bl s)).1 : Nat) : Int) = 2 := by omega
    have hk'' : ((((Pm.kind (bl s)).1 : Nat) : Int) == 2) = false := by simp only [beq_eq_false_iff_ne, ne_eq]; exact hk'
    clear hk
    generalize (Pm.kind (bl s)).1 = k1 at *
    generalize (Pm.kind (bl s)).2 = k2 at *
    go_enter Tryd.func30, Tryd.ntmps30
    go_wp2_with (first | (go_at_call 10; refine (HKN.out _ HT.out).mono ?_; rintro e w1 ⟨rfl, hB1⟩))
    go_ret2
    exact ⟨by rw [HK.eq]; rfl, hB1⟩
end Go.Proofs.YtlgalcpnodadiaaDoor
