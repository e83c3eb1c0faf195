/- Proved: the document's dir and reduce. -/
import Derived.Test.YtbcmgcallidneaaGreatDoorRHas
import Derived.Test.YtbcmgcallidneaaGreatDoorRCmp
namespace Go.Proofs.YtbcmgcallidneaaGreatDoor
open Go.RowKit
set_option maxHeartbeats 1000000 in
set_option maxRecDepth 20000 in
theorem rdir_any (s : ByteArray) (w : World) (hs : s.size ≤ 4000) :
    Calls Tryz.prog 24 #[.string s] w fun e w' => e = .returned (.int .i64 (Sm.dirErr (bl s) : Nat)) ∧ Below w.heap.size w w' := by
  have HK := (show Hid (Calls Tryz.prog 41 #[.string s] w fun e w' => e = .returned (.tuple #[.int .i64 ((Pm.kind (bl s)).1 : Nat), .int .i64 ((Pm.kind (bl s)).2 : Nat)]) ∧ Below w.heap.size w w') from rkind_any s w (by omega))
  have HD : Is (Sm.dirErr (bl s)) (if (Pm.kind (bl s)).2 ≠ 0 then (Pm.kind (bl s)).2 else if (Pm.kind (bl s)).1 = 2 then 13 else 0) := ⟨rfl⟩
  generalize (Pm.kind (bl s)).1 = k1 at *
  generalize (Pm.kind (bl s)).2 = k2 at *
  by_cases h2 : k2 = 0
  · subst h2
    rw [if_neg (by simp)] at HD
    by_cases h1 : k1 = 2
    · subst h1
      rw [if_pos rfl] at HD
      go_enter Tryz.func24, Tryz.ntmps24
      go_wp2_with fail
      refine (show Calls _ _ _ _ _ from HK.out).mono ?_
      rintro e w1 ⟨rfl, hB1⟩
      go_wp2_with fail
      go_ret
      exact ⟨by rw [HD.eq]; rfl, hB1⟩
    · rw [if_neg h1] at HD
      have h1' : ¬ ((k1 : Nat) : Int) = 2 := by omega
      have h1b : (((k1 : Nat) : Int) == 2) = false := by simp only [beq_eq_false_iff_ne, ne_eq]; exact h1'
      go_enter Tryz.func24, Tryz.ntmps24
      go_wp2_with fail
      refine (show Calls _ _ _ _ _ from HK.out).mono ?_
      rintro e w1 ⟨rfl, hB1⟩
      go_wp2_with fail
      go_ret
      exact ⟨by rw [HD.eq]; rfl, hB1⟩
  · rw [if_pos h2] at HD
    have h2' : ¬ ((k2 : Nat) : Int) = 0 := by omega
    have h2b : (((k2 : Nat) : Int) == 0) = false := by simp only [beq_eq_false_iff_ne, ne_eq]; exact h2'
    go_enter Tryz.func24, Tryz.ntmps24
    go_wp2_with fail
    refine (show Calls _ _ _ _ _ from HK.out).mono ?_
    rintro e w1 ⟨rfl, hB1⟩
    go_wp2_with fail
    go_ret
    exact ⟨by rw [HD.eq]; rfl, hB1⟩
theorem own_txtA {w : World} {N n c : Nat} {ad : Option Addr} {l : List Pm.T} (h : w.ownsRow N 9 1 (.slice ad n c) l.length (scells l)) : TxtA w ad l := by
  obtain ⟨a', c', hv, _, _, hA⟩ := own_txt h
  cases hv
  exact hA
def PSt (o : Option Pm.T) (f b : Value) : Prop := (o = none ∧ f = .bool false ∧ b = .string ⟨#[]⟩) ∨ ∃ y, o = some y ∧ f = .bool true ∧ b = .string (mk y)
def lenV : Value → Nat
  | .slice _ n _ => n
  | _ => 0
def picked (out l : List Pm.T) (i : Nat) : Option Pm.T := (l.take i).foldl (Sm.pickStep out) none
theorem picked_succ {out l : List Pm.T} {i : Nat} (h : i < l.length) : picked out l (i + 1) = Sm.pickStep out (picked out l i) (l.getD i []) := by
  unfold picked
  rw [List.take_add_one, getD_some h, List.foldl_append]; rfl
theorem picked_all {out l : List Pm.T} {i : Nat} (h : l.length ≤ i) : picked out l i = Sm.pick out l := by
  unfold picked Sm.pick
  rw [List.take_of_length_le h]
theorem picked_mem {out l : List Pm.T} {i : Nat} {y : Pm.T} (h : picked out l i = some y) : y ∈ l := List.mem_of_mem_take (((Sm.pick_spec out (l.take i)).2 y h).1)
set_option maxHeartbeats 8000000 in
set_option maxRecDepth 20000 in
theorem reduce_any (ad : Option Addr) (c : Nat) (l : List Pm.T) (w : World) (hA : TxtA w ad l) (hl : l.length ≤ 1000) (hx : ∀ x ∈ l, x.length ≤ 4000) (hP : ∀ x ∈ l, Pm.isP x = true) :
    Calls Tryz.prog 25 #[.slice ad l.length c] w fun e w' => ∃ v, e = .returned v ∧ w'.ownsRow w.heap.size 9 1 v (Sm.outer l).length (scells (Sm.outer l)) ∧ Below w.heap.size w w' := by
  have HA : Hid (TxtA w ad l) := hA
  have HX : Hid (∀ x ∈ l, x.length ≤ 4000) := hx
  have HPk : Hid (∀ k, Sm.pick ((Sm.outer l).take k) l = (Sm.outer l)[k]?) := Sm.pick_outer hP
  have HOx : Hid (∀ k, ∀ x ∈ (Sm.outer l).take k, x.length ≤ 4000) := fun k x h => hx x (Sm.mem_outer.1 (List.mem_of_mem_take h)).1
  have hol : (Sm.outer l).length ≤ 1000 := by
    have h : ∀ k : List Pm.T, (k.foldr Sm.ins []).length ≤ k.length := fun k => by
      have hi : ∀ (x : Pm.T) (m : List Pm.T), (Sm.ins x m).length ≤ m.length + 1 := fun x m => by
        induction m with
        | nil => simp [Sm.ins]
        | cons y r ih =>
          unfold Sm.ins
          split
          · simp
          · split
            · simp
            · simp only [List.length_cons]; omega
      induction k with
      | nil => simp
      | cons x k ih => have := hi x (k.foldr Sm.ins []); simp only [List.foldr_cons, List.length_cons]; omega
    have h1 : (Sm.outer l).length ≤ l.length := Nat.le_trans (h _) (List.length_filter_le _ _)
    omega
  generalize hO : Sm.outer l = O at *
  obtain ⟨n, hn⟩ : ∃ n, l.length = n := ⟨_, rfl⟩
  have HN : Is l.length n := ⟨hn⟩
  rw [hn] at hl
  rw [hn]
  clear hA hn hx hP hO
  go_enter Tryz.func25, Tryz.ntmps25
  go_wp2_with fail
  go_loopw [3, 4, 5, 6] (fun v _ _ _ wr => ∃ k : Nat, k ≤ O.length ∧ wr.ownsRow w.heap.size 9 1 v (O.take k).length (scells (O.take k)) ∧ Below w.heap.size w wr) (fun v _ _ _ _ => O.length + 1 - lenV v)
  case atStart => exact ⟨0, Nat.zero_le _, own_nil _ _, Below.refl _ _⟩
  case round =>
    obtain ⟨k, hk, ho, hB⟩ := hrel
    have HO : Hid (wr.ownsRow w.heap.size 9 1 u3 (O.take k).length (scells (O.take k))) := ho
    have HB0 : Hid (Below w.heap.size w wr) := hB
    obtain ⟨ad3, c3, hv3, _⟩ := own_txt ho
    subst hv3
    have HTk : Is (O.take k).length k := ⟨by rw [List.length_take]; omega⟩
    have HPk' := (show Hid _ from HPk.out k)
    have HOk := (show Hid _ from HOx.out k)
    have HTx : Hid (k < O.length → O.take (k + 1) = O.take k ++ [O.getD k []]) := fun h => by rw [List.take_add_one, getD_some h]; rfl
    have HAll : Hid (O.length ≤ k → O.take k = O) := fun h => List.take_of_length_le h
    have hkO : (O.take k).length ≤ 1000 := by rw [HTk.eq]; omega
    have HHas : Hid (∀ (j : Nat) (W : World), j < n → W.ownsRow w.heap.size 9 1 (.slice ad3 (O.take k).length c3) (O.take k).length (scells (O.take k)) → Calls Tryz.prog 30 #[.slice ad3 (O.take k).length c3, .string (mk (l.getD j []))] W fun e w' => e = .returned (.bool (Sm.has (O.take k) (l.getD j []))) ∧ Below W.heap.size W w') :=
      fun j W hj h => rhas_any ad3 c3 (O.take k) (mk (l.getD j [])) W (own_txtA h) (by omega) (HOk.out) (by rw [mk_size]; exact HX.out _ (getD_mem (by rw [HN.eq]; exact hj)))
    have HCmp : Hid (∀ (j : Nat) (y : Pm.T) (W : World), j < n → y.length ≤ 4000 → Calls Tryz.prog 42 #[.string (mk (l.getD j [])), .string (mk y)] W fun e w' => e = .returned (.int .i64 (Pm.cmp (l.getD j []) y)) ∧ Below W.heap.size W w') :=
      fun j y W hj hy => rcompare_any (mk (l.getD j [])) (mk y) W (by rw [mk_size]; exact HX.out _ (getD_mem (by rw [HN.eq]; exact hj))) (by rw [mk_size]; exact hy)
    have HSt : Hid (∀ j, j < n → picked (O.take k) l (j + 1) = Sm.pickStep (O.take k) (picked (O.take k) l j) (l.getD j [])) := fun j hj => picked_succ (by rw [HN.eq]; exact hj)
    have HEnd : Hid (picked (O.take k) l n = O[k]?) := by rw [show picked (O.take k) l n = _ from picked_all (by rw [HN.eq]; exact Nat.le_refl _)]; exact HPk'.out
    have HPm : Hid (∀ j y, picked (O.take k) l j = some y → y.length ≤ 4000) := fun j y h => HX.out y (picked_mem h)
    generalize hst : O.take k = st at *
    clear hst ho hB hkO
    go_wp2_with fail
    go_loopw [4, 5, 6] (fun f b i wr => ∃ j : Nat, j ≤ n ∧ i = .int .i64 j ∧ PSt (picked st l j) f b ∧ wr.ownsRow w.heap.size 9 1 (.slice ad3 st.length c3) st.length (scells st) ∧ Below w.heap.size w wr) (fun _ _ i _ => n - (intOf i).toNat)
    case atStart => exact ⟨0, Nat.zero_le _, rfl, .inl ⟨rfl, rfl, rfl⟩, HO.out, HB0.out⟩
    case round =>
      obtain ⟨j, hj, rfl, hps, ho, hB⟩ := hrel
      have HOj := (show Hid _ from ho)
      have HB : Hid (Below w.heap.size w wr) := hB
      have hsz := hB.size
      by_cases hlt : j < n
      · have i0 : (j : Int) < (n : Int) := by omega
        have j0 : (0 : Int) ≤ (j : Int) := Int.natCast_nonneg _
        obtain ⟨g, he, hg, ht⟩ := HA.out (by rw [HN.eq]; omega)
        subst he
        have c0 := (hB.cell (p := ⟨g, j, none⟩) hg).trans (ht.get j (by rw [HN.eq]; exact hlt))
        have HC := (show Hid _ from HHas.out j wr hlt ho)
        have HSj := (show Hid _ from HSt.out j hlt)
        have HCj := (show Hid _ from fun (y : Pm.T) (W : World) => HCmp.out j y W hlt)
        have HPj := (show Hid _ from HPm.out j)
        have HCell : Hid (∀ W : World, Below wr.heap.size wr W → W.cell? ⟨g, j, none⟩ = some (.string (mk (l.getD j [])))) := fun W hb => (hb.cell (p := ⟨g, j, none⟩) (block_lt_of_cell c0)).trans c0
        clear ht ho hB
        generalize picked st l j = o at *
        generalize hxj : l.getD j [] = x at *
        clear hxj
        cases hr : Sm.has st x with
        | true =>
          rw [hr] at HC
          have HNx : Is (picked st l (j + 1)) o := ⟨by rw [HSj.out]; unfold Sm.pickStep; rw [if_pos hr]⟩
          rcases hps with ⟨rfl, rfl, rfl⟩ | ⟨y, rfl, rfl, rfl⟩
          · clear hr
            generalize mk x = sx at *
            go_wp2_with (first | (go_at_call 30; refine (show Calls _ _ _ _ _ from HC.out).mono ?_; rintro e w1 ⟨rfl, hB1⟩))
            go_roundw
            case rel => exact ⟨j + 1, by omega, by go_num, by rw [HNx.eq]; exact .inl ⟨rfl, rfl, rfl⟩, own_below HOj.out hB1, HB.out.trans (hB1.mono hsz)⟩
            case measure => (simp [intOf]) <;> omega
          · clear hr
            generalize mk x = sx at *
            go_wp2_with (first | (go_at_call 30; refine (show Calls _ _ _ _ _ from HC.out).mono ?_; rintro e w1 ⟨rfl, hB1⟩))
            go_roundw
            case rel => exact ⟨j + 1, by omega, by go_num, by rw [HNx.eq]; exact .inr ⟨y, rfl, rfl, rfl⟩, own_below HOj.out hB1, HB.out.trans (hB1.mono hsz)⟩
            case measure => (simp [intOf]) <;> omega
        | false =>
          rw [hr] at HC
          have hr' : ¬ Sm.has st x = true := by rw [hr]; simp
          rcases hps with ⟨rfl, rfl, rfl⟩ | ⟨y, rfl, rfl, rfl⟩
          · have HNx : Is (picked st l (j + 1)) (some x) := ⟨by rw [HSj.out, Sm.pickStep, if_neg hr']⟩
            clear hr hr'
            generalize hsx : mk x = sx at *
            have HSx : Is (mk x) sx := ⟨hsx⟩
            clear hsx
            go_wp2_with (first | (go_at_call 30; refine (show Calls _ _ _ _ _ from HC.out).mono ?_; rintro e w1 ⟨rfl, hB1⟩; have c1 := HCell.out w1 hB1))
            go_roundw
            case rel => exact ⟨j + 1, by omega, by go_num, by rw [HNx.eq]; exact .inr ⟨x, rfl, rfl, by rw [HSx.eq]⟩, own_below HOj.out hB1, HB.out.trans (hB1.mono hsz)⟩
            case measure => (simp [intOf]) <;> omega
          · have HCy := (show Hid _ from fun W => HCj.out y W (HPj.out y rfl))
            by_cases hc : Pm.cmp x y < 0
            · have HNx : Is (picked st l (j + 1)) (some x) := ⟨by rw [HSj.out, Sm.pickStep, if_neg hr']; show (if Pm.cmp x y < 0 then some x else some y) = _; rw [if_pos hc]⟩
              clear hr hr' HSj
              generalize hsx : mk x = sx at *
              have HSx : Is (mk x) sx := ⟨hsx⟩
              generalize mk y = sy at *
              generalize Pm.cmp x y = r at *
              clear hsx
              go_wp2_with (first
                | (go_at_call 30; refine (show Calls _ _ _ _ _ from HC.out).mono ?_; rintro e w1 ⟨rfl, hB1⟩; have c1 := HCell.out w1 hB1)
                | (go_at_call 42; refine (HCy.out w1).mono ?_; rintro e w2 ⟨rfl, hB2⟩; have c2 := HCell.out w2 (hB1.trans (hB2.mono hB1.size))))
              go_roundw
              case rel => exact ⟨j + 1, by omega, by go_num, by rw [HNx.eq]; exact .inr ⟨x, rfl, rfl, by rw [HSx.eq]⟩, own_below (own_below HOj.out hB1) hB2, HB.out.trans ((hB1.trans (hB2.mono hB1.size)).mono hsz)⟩
              case measure => (simp [intOf]) <;> omega
            · have HNx : Is (picked st l (j + 1)) (some y) := ⟨by rw [HSj.out, Sm.pickStep, if_neg hr']; show (if Pm.cmp x y < 0 then some x else some y) = _; rw [if_neg hc]⟩
              clear hr hr' HSj
              generalize mk x = sx at *
              generalize hsy : mk y = sy at *
              have HSy : Is (mk y) sy := ⟨hsy⟩
              clear hsy
              generalize Pm.cmp x y = r at *
              go_wp2_with (first
                | (go_at_call 30; refine (show Calls _ _ _ _ _ from HC.out).mono ?_; rintro e w1 ⟨rfl, hB1⟩; have c1 := HCell.out w1 hB1)
                | (go_at_call 42; refine (HCy.out w1).mono ?_; rintro e w2 ⟨rfl, hB2⟩))
              go_roundw
              case rel => exact ⟨j + 1, by omega, by go_num, by rw [HNx.eq]; exact .inr ⟨y, rfl, rfl, by rw [HSy.eq]⟩, own_below (own_below HOj.out hB1) hB2, HB.out.trans ((hB1.trans (hB2.mono hB1.size)).mono hsz)⟩
              case measure => (simp [intOf]) <;> omega
      · obtain rfl : j = n := by omega
        have i0 : ¬ (j : Int) < (j : Int) := by omega
        clear ho hB
        rcases hps with ⟨ho, rfl, rfl⟩ | ⟨y, ho, rfl, rfl⟩
        · have HDone : Is st O := ⟨HAll.out (by have h := HEnd.out; rw [ho] at h; exact List.getElem?_eq_none_iff.1 h.symm)⟩
          clear ho
          go_wp2_with fail
          go_ret
          exact ⟨_, rfl, by rw [← HDone.eq]; exact HOj.out, HB.out⟩
        · have hE : O[k]? = some y := by rw [← HEnd.out]; exact ho
          have hkl : k < O.length := (List.getElem?_eq_some_iff.1 hE).1
          have HNx : Is (O.take (k + 1)) (st ++ [y]) := ⟨by rw [HTx.out hkl]; congr 2; rw [List.getD_eq_getElem?_getD, hE]; rfl⟩
          have HSC : Is (scells (st ++ [y])) (scells st ++ [.string (mk y)]) := ⟨by rw [scells, scells, List.map_append]; rfl⟩
          clear ho hE
          generalize mk y = sy at *
          have hst1 : st.length ≤ 1000 := by rw [HTk.eq]; omega
          go_wp2_with (first | (refine append_str rfl (.tmp 40) (.tmp 42) rfl _ w.heap.size _ st.length (scells st) rfl (own_alloc1 HOj.out _) ⟨wr.heap.size, 0, none⟩ 1 sy rfl (str_new wr sy) (by omega) (by simp; omega) ?_; intro v' w' hO2 hG2; have HO2 := (show Hid (w'.ownsRow w.heap.size 9 1 v' (st.length + 1) (scells st ++ [.string sy])) from hO2); have HB2 : Hid (Below w.heap.size w w') := (HB.out.alloc (by omega) _).trans (hG2.below (own_alloc1 HOj.out _) (by simp; omega)); clear hO2 hG2))
          obtain ⟨ad5, c5, hv5, _⟩ : ∃ a c, v' = .slice a (st.length + 1) c ∧ True := by
            have h := HO2.out
            rcases h.2 with ⟨_, h0⟩ | ⟨g, cap, cur, hv, _⟩
            · omega
            · exact ⟨_, _, hv, trivial⟩
          subst hv5
          go_roundw
          case rel => exact ⟨k + 1, by omega, by rw [HNx.eq, HSC.eq, List.length_append]; exact HO2.out, HB2.out⟩
          case measure => (have h9 := HTk.eq; simp [lenV]; omega)
end Go.Proofs.YtbcmgcallidneaaGreatDoor
