/- Proved: the document's Path answers as the program's; two slices with the same parts are the same. -/
import Derived.Test.YtealbeblkilibaaDoorJ12
import Derived.Test.YtealbeblkilibaaDoorRows
import Derived.Test.YtealbeblkilibaaDoorJ01
import Derived.ProofKit
import Derived.OpenShut
import Derived.ShutString
import Derived.ChangeOld
import Derived.Below
import Derived.LaidMore
import Derived.Lay
import Derived.HandedShaped
import Derived.Stop.Joined
import Derived.Lib.LaidTab
import Derived.Lib.LaidU8
import Derived.Lib.SmallJoins
import Derived.Shelf.Vars
import Derived.ChangeMaps5
import Derived.Test.YtealbeblkilibaaDoorJ02
import Derived.Test.YtealbeblkilibaaDoorJ11
import Derived.Deep.Slices
import Derived.Deep.Strs
namespace Go.Proofs.YtealbeblkilibaaDoor
open Go.RowKit
open Ino (Pt)
theorem names_take (ps : List Pt) (k : Nat) (hk : k < ps.length) : Pm.join (Ino.names (ps.take (k + 1))) = (if k = 0 then [] else Pm.join (Ino.names (ps.take k)) ++ [47]) ++ bl (ps.getD k pt0).s := by
  have e : Ino.names (ps.take (k + 1)) = Ino.names (ps.take k) ++ [bl (ps.getD k pt0).s] := by rw [take_getD ps k hk]; simp [Ino.names]
  rw [e]
  by_cases h : k = 0
  · subst h; rfl
  · rw [if_neg h, Pm.join_append _ _ (by
      intro hh
      have := congrArg List.length hh
      simp only [Ino.names, List.length_map, List.length_take, List.length_nil] at this
      omega) (by simp)]
    simp [Pm.join]
theorem path_yes {ps : List Pt} (h1 : (Pm.kind (Pm.join (Ino.names ps))).2 = 0) (h2 : Ino.keyL (Pm.join (Ino.names ps)) = ps) : Ino.pathS ps = Pm.join (Ino.names ps) ∧ Ino.pathE ps = 0 :=
  path_some (Ino.walk_yes _ ((Ino.ok_key _).2 ⟨h1, h2⟩))
theorem path_no {ps : List Pt} (h : ¬ ((Pm.kind (Pm.join (Ino.names ps))).2 = 0 ∧ Ino.keyL (Pm.join (Ino.names ps)) = ps)) : Ino.pathS ps = [] ∧ Ino.pathE ps = 5 :=
  path_none (Ino.walk_no _ fun hh => h ((Ino.ok_key _).1 hh))
theorem parts_ext {a b : List Pt} (hl : a.length = b.length) (h : ∀ j, j < a.length → a.getD j pt0 = b.getD j pt0) : a = b := by
  refine List.ext_getElem hl fun i h1 h2 => ?_
  have := h i h1
  rwa [List.getD_eq_getElem?_getD, List.getD_eq_getElem?_getD, List.getElem?_eq_getElem h1, List.getElem?_eq_getElem h2] at this
set_option maxHeartbeats 1000000 in
set_option maxRecDepth 20000 in
theorem samep_yes (a : Option Addr) (len cap : Nat) (a2 : Option Addr) (cap2 : Nat) (ps : List Pt) (w : World) (hF : PartsL w a len ps) (hG : PartsL w a2 len ps) (hlen : len ≤ 30000) :
    Calls Tryd.prog 13 #[.slice a len cap, .slice a2 len cap2] w fun e w' => e = .returned (.bool true) ∧ Below w.heap.size w w' := by
  have HF : Hid (PartsL w a len ps) := hF
  have HG : Hid (PartsL w a2 len ps) := hG
  clear hF hG
  go_enter Tryd.func13, Tryd.ntmps13
  go_wp2_with fail
  go_loopw [5] (fun s3 wr => ∃ k : Nat, k ≤ len ∧ s3 = .int .i64 k ∧ Below w.heap.size w wr) (fun s3 _ => len - (intOf s3).toNat)
  case atStart => exact ⟨0, by omega, rfl, Below.refl _ _⟩
  case round =>
    obtain ⟨k, hk, rfl, hB⟩ := hrel
    have HB : Hid (Below w.heap.size w wr) := hB
    by_cases hlt : k < len
    · obtain ⟨b, off, rfl, hc⟩ : ∃ b off, a = some ⟨b, off, none⟩ ∧ ∀ i, i < len → PartAt w b (off + i * 3) (ps.getD i pt0) := by
        rcases HF.out.2 with h | h
        · omega
        · exact h
      obtain ⟨b2, off2, rfl, hc2⟩ : ∃ b off, a2 = some ⟨b, off, none⟩ ∧ ∀ i, i < len → PartAt w b (off + i * 3) (ps.getD i pt0) := by
        rcases HG.out.2 with h | h
        · omega
        · exact h
      have hbl : b < w.heap.size := block_lt_of_cell (hc k hlt).kind
      have hbl2 : b2 < w.heap.size := block_lt_of_cell (hc2 k hlt).kind
      obtain ⟨c0, c1, c2⟩ := (hc k hlt).below HB.out hbl
      obtain ⟨d0, d1, d2⟩ := (hc2 k hlt).below HB.out hbl2
      generalize ps.getD k pt0 = f at *
      clear hc hc2 hB
      obtain ⟨fk, fn, fx⟩ := f
      simp only at c0 c1 c2 d0 d1 d2
      have i0 : (k : Int) < (len : Int) := by omega
      have j0 : (0 : Int) ≤ (k : Int) := Int.natCast_nonneg _
      go_wp2_with fail
      go_region
      go_wp2_with fail
      go_roundw
      case rel => exact ⟨k + 1, by omega, by go_num, HB.out.drew⟩
      case measure => (simp [intOf]) <;> omega
    · have hkl : ¬ (k : Int) < (len : Int) := by omega
      go_wp2
      go_ret
      exact ⟨rfl, HB.out⟩
set_option maxHeartbeats 2000000 in
set_option maxRecDepth 20000 in
theorem rpath_any (a : Option Addr) (len cap : Nat) (ps : List Pt) (w : World) (hF : PartsL w a len ps) (hlen : len ≤ 20) (hsz : ∀ x ∈ ps, x.s.size ≤ 1000) :
    Calls Tryd.prog 12 #[.slice a len cap] w fun e w' => e = .returned (.tuple #[.string (mk (Ino.pathS ps)), .int .i64 (Ino.pathE ps : Nat)]) ∧ Below w.heap.size w w' := by
  have HF : Hid (PartsL w a len ps) := hF
  have HSZ : Hid (∀ x ∈ ps, x.s.size ≤ 1000) := hsz
  clear hF hsz
  go_enter Tryd.func12, Tryd.ntmps12
  go_wp2_with fail
  go_loopw [4, 5] (fun v4 i wr => ∃ (k : Nat) (q : Pm.T), k ≤ len ∧ i = .int .i64 k ∧ v4 = .string (mk q) ∧ q = Pm.join (Ino.names (ps.take k)) ∧ q.length ≤ k * 1001 ∧ w = wr) (fun _ i _ => len - (intOf i).toNat)
  case atStart => exact ⟨0, [], by omega, rfl, rfl, rfl, by simp, rfl⟩
  case round =>
    obtain ⟨k, q, hk, rfl, rfl, hq, hql, rfl⟩ := hrel
    have HQ : Is q (Pm.join (Ino.names (ps.take k))) := ⟨hq⟩
    clear hq
    have hqm : (mk q).size = q.length := mk_size q
    by_cases hlt : k < len
    · have i0 : (k : Int) < (len : Int) := by omega
      have j0 : (0 : Int) ≤ (k : Int) := Int.natCast_nonneg _
      obtain ⟨b, off, rfl, hc⟩ : ∃ b off, a = some ⟨b, off, none⟩ ∧ ∀ i, i < len → PartAt w b (off + i * 3) (ps.getD i pt0) := by
        rcases HF.out.2 with h | h
        · omega
        · exact h
      obtain ⟨d0, d1, d2⟩ := hc k hlt
      have hkl : k < ps.length := by rw [HF.out.1]; exact hlt
      have hxm : ps.getD k pt0 ∈ ps := by rw [List.getD_eq_getElem?_getD, List.getElem?_eq_getElem hkl]; exact List.getElem_mem hkl
      have hX : (ps.getD k pt0).s.size ≤ 1000 := HSZ.out _ hxm
      have HN := (⟨names_take ps k hkl⟩ : Is _ _)
      rw [← HQ.eq] at HN
      clear hc hxm
      generalize ps.getD k pt0 = x at *
      obtain ⟨kk, nn, s⟩ := x
      simp only at d0 d1 d2 hX HN
      have hsl := bl_length s
      by_cases hk0 : k = 0
      · subst hk0
        rw [if_pos rfl, List.nil_append] at HN
        have hq0 : q = [] := by simpa using hql
        subst hq0
        have A1 : ∀ W : World, (Op.stringOp .add (mk []) s).run Tryd.prog W = .ok (.string (mk [] ++ s)) W := fun W => run_string_add_sum W _ _ (by rw [hqm]; simp; omega)
        have hE : mk [] ++ s = mk (bl s) := bl_inj (by rw [bl_append]; rfl)
        rw [hE] at A1
        clear hE hqm
        generalize mk ([] : Pm.T) = q0 at *
        generalize hbs : bl s = bs at *
        have HLs : Is bs.length s.size := ⟨hsl⟩
        clear hsl hbs
        go_wp2_with fail
        go_roundw
        case rel => exact ⟨0 + 1, bs, by omega, by go_num, rfl, HN.eq.symm, by rw [HLs.eq]; omega, by first | rfl | trivial⟩
        case measure => (simp [intOf]) <;> omega
      · rw [if_neg hk0] at HN
        have i1 : (0 : Int) < (k : Int) := by omega
        have A1 : ∀ W : World, (Op.stringOp .add (mk q) ⟨#[47]⟩).run Tryd.prog W = .ok (.string (mk q ++ ⟨#[47]⟩)) W := fun W => run_string_add_sum W _ _ (by rw [hqm]; show _ + 1 ≤ _; omega)
        have A2 : ∀ W : World, (Op.stringOp .add (mk q ++ ⟨#[47]⟩) s).run Tryd.prog W = .ok (.string (mk (q ++ [47] ++ bl s))) W := fun W => by
          rw [run_string_add_sum W _ _ (by rw [ByteArray.size_append, hqm]; show _ + 1 + _ ≤ _; omega)]
          have hE : mk q ++ ⟨#[47]⟩ ++ s = mk (q ++ [47] ++ bl s) := bl_inj (by rw [bl_append, bl_append]; rfl)
          rw [hE]
        have HL2 : Hid ((q ++ [47] ++ bl s).length ≤ (k + 1) * 1001) := by
          show _ ≤ _
          simp only [List.length_append, List.length_cons, List.length_nil]
          omega
        clear hqm hsl hql
        generalize mk q ++ ⟨#[47]⟩ = q2 at *
        generalize q ++ [47] ++ bl s = q3 at *
        generalize mk q = q1 at *
        go_wp2_with fail
        go_roundw
        case rel => exact ⟨k + 1, q3, by omega, by go_num, rfl, HN.eq.symm, HL2.out, by first | rfl | trivial⟩
        case measure => (simp [intOf]) <;> omega
    · obtain rfl : k = len := by omega
      have hks : ps.take k = ps := List.take_of_length_le (by rw [HF.out.1]; omega)
      rw [hks] at HQ
      have i0 : ¬ (k : Int) < (k : Int) := by omega
      have hq3 : q.length ≤ 30000 := by omega
      clear hks hql
      have RK : Hid (∀ W : World, Calls Tryd.prog 10 #[.string (mk q)] W fun e w' => ∃ v, e = .returned (.tuple #[v, .int .i64 ((Pm.kind q).2 : Nat)]) ∧ w'.ownsRow W.heap.size 24 3 v (Ino.keyL q).length ((Ino.keyL q).flatMap pcells) ∧ Below W.heap.size W w') := fun W => rkey_any (mk q) W (by rw [hqm]; exact hq3)
      have HY : Hid ((Pm.kind q).2 = 0 → Ino.keyL q = ps → Ino.pathS ps = q ∧ Ino.pathE ps = 0) := fun h1 h2 => by
        have h := path_yes (ps := ps) (by rw [← HQ.eq]; exact h1) (by rw [← HQ.eq]; exact h2)
        rwa [← HQ.eq] at h
      have HNn : Hid (¬ ((Pm.kind q).2 = 0 ∧ Ino.keyL q = ps) → Ino.pathS ps = [] ∧ Ino.pathE ps = 5) := fun h => path_no (by rw [← HQ.eq]; exact h)
      have hKl := split_small q
      rw [← keyL_length] at hKl
      clear HQ hqm hq3
      generalize Ino.keyL q = K at *
      generalize hq1 : mk q = q1 at *
      have HQ1 : Is (mk q) q1 := ⟨hq1⟩
      clear hq1
      go_wp2_with fail
      refine (RK.out _).mono ?_
      rintro e w2 ⟨v, rfl, ho, hB2⟩
      obtain ⟨ak, ck, rfl, hck, hPK⟩ := own_parts ho
      have HPK : Hid (PartsL w2 ak K.length K) := hPK
      have HB2 : Hid (Below w.heap.size w w2) := hB2
      have HF2 : Hid (PartsL w2 a k ps) := HF.out.below hB2
      have HPL : Hid (ps.length = k) := HF.out.1
      have hz2 := hB2.size
      clear ho hPK hB2 RK
      by_cases he : (Pm.kind q).2 = 0
      · rw [he] at HY HNn ⊢
        clear he
        by_cases hkl : K.length = k
        · rw [hkl] at HPK ⊢
          have HKk : Hid (K.length = k) := hkl
          clear hkl hKl hck
          go_wp2_with fail
          go_loopw [8] (fun i wr => ∃ j : Nat, j ≤ k ∧ i = .int .i64 j ∧ (∀ m, m < j → K.getD m pt0 = ps.getD m pt0) ∧ Below w2.heap.size w2 wr) (fun i _ => k - (intOf i).toNat)
          case atStart => exact ⟨0, by omega, rfl, fun m hm => by omega, Below.refl _ _⟩
          case round =>
            obtain ⟨j, hj, rfl, hal, hB⟩ := hrel
            have HAL : Hid (∀ m, m < j → K.getD m pt0 = ps.getD m pt0) := hal
            have HB : Hid (Below w2.heap.size w2 wr) := hB
            clear hal hB
            by_cases hlt2 : j < k
            · have i1 : (j : Int) < (k : Int) := by omega
              have j1 : (0 : Int) ≤ (j : Int) := Int.natCast_nonneg _
              obtain ⟨b, off, rfl, hc⟩ : ∃ b off, ak = some ⟨b, off, none⟩ ∧ ∀ i, i < k → PartAt w2 b (off + i * 3) (K.getD i pt0) := by
                rcases HPK.out.2 with h | h
                · omega
                · exact h
              obtain ⟨b2, off2, rfl, hc2⟩ : ∃ b off, a = some ⟨b, off, none⟩ ∧ ∀ i, i < k → PartAt w2 b (off + i * 3) (ps.getD i pt0) := by
                rcases HF2.out.2 with h | h
                · omega
                · exact h
              obtain ⟨c0, c1, c2⟩ := (hc j hlt2).below HB.out (block_lt_of_cell (hc j hlt2).kind)
              obtain ⟨d0, d1, d2⟩ := (hc2 j hlt2).below HB.out (block_lt_of_cell (hc2 j hlt2).kind)
              by_cases hxy : K.getD j pt0 = ps.getD j pt0
              · rw [hxy] at c0 c1 c2
                have HA2 : Hid (∀ m, m < j + 1 → K.getD m pt0 = ps.getD m pt0) := fun m hm => by
                  by_cases h : m = j
                  · subst h; exact hxy
                  · exact HAL.out m (by omega)
                clear hc hc2 hxy HAL
                generalize ps.getD j pt0 = f at *
                obtain ⟨fk, fn, fx⟩ := f
                simp only at c0 c1 c2 d0 d1 d2
                go_wp2_with fail
                go_region
                go_wp2_with fail
                go_roundw
                case rel => exact ⟨j + 1, by omega, by go_num, HA2.out, HB.out.drew⟩
                case measure => (simp [intOf]) <;> omega
              · obtain ⟨e1, e2⟩ := HNn.out (fun h => hxy (by rw [h.2]))
                have E1 : Is (Ino.pathS ps) [] := ⟨e1⟩
                have E2 : Is (Ino.pathE ps) 5 := ⟨e2⟩
                clear hc hc2 HAL e1 e2
                have HS : Hid (¬ Ino.sam (K.getD j pt0) (ps.getD j pt0) = true) := fun h => hxy ((Ino.sam_iff _ _).1 h)
                clear hxy
                generalize K.getD j pt0 = x at *
                generalize ps.getD j pt0 = f at *
                obtain ⟨fk, fn, fx⟩ := f
                obtain ⟨xk, xn, xx⟩ := x
                simp only at c0 c1 c2 d0 d1 d2
                have HS2 : Hid (xk = fk → xn = fn → (xx.toList == fx.toList) = false) := fun h1 h2 => by
                  have h := HS.out
                  subst h1 h2
                  simp only [Ino.sam, beq_self_eq_true, Bool.true_and, Bool.not_eq_true] at h
                  exact h
                clear HS
                by_cases h1 : xk = fk
                · subst h1
                  by_cases h2 : xn = fn
                  · subst h2
                    have h3 := HS2.out rfl rfl
                    clear HS2
                    go_wp2_with fail
                    go_region
                    go_wp2_with fail
                    go_ret2
                    exact ⟨by rw [E1.eq, E2.eq]; rfl, HB2.out.trans (HB.out.drew.mono hz2)⟩
                  · have h2' : (xn == fn) = false := by simpa using h2
                    clear HS2
                    go_wp2_with fail
                    go_region
                    go_wp2_with fail
                    go_ret2
                    exact ⟨by rw [E1.eq, E2.eq]; rfl, HB2.out.trans (HB.out.drew.mono hz2)⟩
                · have h1' : (xk == fk) = false := by simpa using h1
                  clear HS2
                  go_wp2_with fail
                  go_region
                  go_wp2_with fail
                  go_ret2
                  exact ⟨by rw [E1.eq, E2.eq]; rfl, HB2.out.trans (HB.out.drew.mono hz2)⟩
            · obtain rfl : j = k := by omega
              have hKP : K = ps := parts_ext (by rw [HKk.out, HPL.out]) (fun m hm => HAL.out m (by rw [← HKk.out]; exact hm))
              obtain ⟨e1, e2⟩ := HY.out (by first | rfl | trivial) hKP
              have E1 : Is (mk (Ino.pathS ps)) q1 := ⟨by rw [e1]; exact HQ1.eq⟩
              have E2 : Is (Ino.pathE ps) 0 := ⟨e2⟩
              have i1 : ¬ (j : Int) < (j : Int) := by omega
              clear e1 e2 hKP HAL
              go_wp2_with fail
              go_ret2
              exact ⟨by rw [E1.eq, E2.eq]; rfl, HB2.out.trans (HB.out.mono hz2)⟩
        · obtain ⟨e1, e2⟩ := HNn.out (fun h => hkl (by rw [h.2]; exact HPL.out))
          have E1 : Is (Ino.pathS ps) [] := ⟨e1⟩
          have E2 : Is (Ino.pathE ps) 5 := ⟨e2⟩
          have k1 : ¬ ((K.length : Nat) : Int) = (k : Int) := by omega
          have k2 : (((K.length : Nat) : Int) == (k : Int)) = false := by simp only [beq_eq_false_iff_ne, ne_eq]; exact k1
          have k3 : (((K.length : Nat) : Int) != (k : Int)) = true := by simp only [bne_iff_ne, ne_eq]; exact k1
          clear e1 e2 hkl HNn HY HPK
          generalize K.length = kl at *
          go_wp2_with fail
          go_ret2
          exact ⟨by rw [E1.eq, E2.eq]; rfl, HB2.out⟩
      · obtain ⟨e1, e2⟩ := HNn.out (fun h => he h.1)
        have E1 : Is (Ino.pathS ps) [] := ⟨e1⟩
        have E2 : Is (Ino.pathE ps) 5 := ⟨e2⟩
        have k1 : ¬ (((Pm.kind q).2 : Nat) : Int) = 0 := by omega
        have k2 : ((((Pm.kind q).2 : Nat) : Int) == 0) = false := by simp only [beq_eq_false_iff_ne, ne_eq]; exact k1
        have k3 : ((((Pm.kind q).2 : Nat) : Int) != 0) = true := by simp only [bne_iff_ne, ne_eq]; exact k1
        clear e1 e2 he HNn HY HPK
        generalize (Pm.kind q).2 = ke at *
        generalize K.length = kl at *
        go_wp2_with fail
        go_ret2
        exact ⟨by rw [E1.eq, E2.eq]; rfl, HB2.out⟩
end Go.Proofs.YtealbeblkilibaaDoor
/- Proved: the program's start lays the tables, and a text that comes in is what it is read as. What every law's proof of this seat shares; conditions: the row's own. -/
namespace Go.Proofs.YtealbeblkilibaaDoor
open Go.ChangeShapes Go.WideShapes Go.ChangeAt Go.RowKit
theorem own : ownKnob Tryd.prog.godebug = none := by kernel_rfl
theorem laidOut : laidOutB Tryd.prog = true := by kernel_rfl
def laid1 : List (String × DataW Unit) := [("unicode/utf8.acceptRanges", Rows.laid_unicode_utf8_acceptRanges), ("aquifer/path.signs", Rows.laid_aquifer_path_signs), ("unicode/utf8.first", Rows.laid_unicode_utf8_first)]
theorem gSig : Tryd.prog.globalNamed "aquifer/path.signs" = some 0 := by kernel_rfl
theorem gSigType : (Tryd.prog.globals[0]?).map (·.type) = some 133 := by kernel_rfl
/- the wrap that hands on both the listed tables and the world's shape -/
theorem wrap_both {H : Type} {enc : TypeId × Value → H} {a : Assume} {C : Checked} {os : Os} {f : FuncId} {fn : Func} {s : ChangeSpec} {conds : List PathCond} {apart fresh handsOn again : Bool} {X : World → Array Value → Prop}
    (hX : ∀ (w w' : World) (args : Array Value), w.heap = w'.heap → X w args → X w' args)
    (own : ownKnob C.prog.godebug = none) (started : os.Started) (noInit : C.prog.inits.idxOf? f = none) (hfn : C.prog.funcs[f]? = some fn)
    (witness : ∃ (w : World) (tape : Tape) (i : Input), w.os = os ∧ (w.forCall tape i).Shaped C.prog ∧ i.vars = [] ∧ Input.okWide C.prog (w.forCall tape i) .any w.heap.size f i ∧
      ((s.pre enc C.prog fn conds apart (w.forCall tape i).memory i.args ∧ X (w.forCall tape i).memory i.args) ∧ sizedMet enc C.prog fn (OpenSpec.ofChange s) apart (w.forCall tape i).memory i.args) ∧ a.holds C.prog (lone (Frame.enter C.prog f i.args .normal) [] (w.forCall tape i)))
    (contract : ∀ (W : World) (base : Nat) (args : Array Value) (ds gs : List (DataW H)) (before : List MemPlace),
      (∀ (j : Nat) t v, fn.params[j]? = some t → args[j]? = some v → Value.okWide C.prog W .any base t v) →
      DataW.Whole enc C.prog fn.params.toList s.vars apart W args.toList ds gs before → X W args → W.ShapedOpen C.prog →
      Calls C.prog f args W fun e W' => ∃ v, e = .returned v ∧ s.post enc C.prog fn apart fresh handsOn again W args v W') :
    ReturnsInHanded a C os f .any (fun w args => (s.pre enc C.prog fn conds apart w args ∧ X w args) ∧ sizedMet enc C.prog fn (OpenSpec.ofChange s) apart w args) (s.post enc C.prog fn apart fresh handsOn again) := by
  refine returnsInHanded_of_calls own started noInit witness ?_
  intro w tape i _ hsh _ hok hpre _
  obtain ⟨_, _, _, fn', hfn', _, _, _, _, hval⟩ := hok
  have e : fn' = fn := Option.some.inj (hfn'.symm.trans hfn)
  subst e
  obtain ⟨⟨⟨ds, gs, before, hw, _⟩, hx⟩, _⟩ := hpre
  have hw' := DataW.Whole.of_heap (w' := w.forCall tape i) (by rfl) hw
  refine (contract (w.forCall tape i) w.heap.size i.args ds gs before hval hw' (hX _ _ _ (by rfl) hx) hsh).mono fun e W' ⟨v, he, hp⟩ => ?_
  subst he
  exact ChangeSpec.post_blind hp
theorem pair_of {l : List Value} {x y : Value} (h : l.length = 2) (f0 : (l.drop 0).take 1 = [x]) (f1 : (l.drop 1).take 1 = [y]) : l = [x, y] := by
  match l, h, f0, f1 with
  | [q0, q1], _, f0, f1 =>
    simp at f0 f1
    rw [f0, f1]
theorem ten_of : ∀ (cs : List Value), cs.length = 10 → ∀ (x0 x1 x2 x3 x4 x5 x6 x7 x8 x9 : Value), (cs.drop (0 * 2)).take 2 = [x0, x1] → (cs.drop (1 * 2)).take 2 = [x2, x3] → (cs.drop (2 * 2)).take 2 = [x4, x5] → (cs.drop (3 * 2)).take 2 = [x6, x7] → (cs.drop (4 * 2)).take 2 = [x8, x9] → cs = [x0, x1, x2, x3, x4, x5, x6, x7, x8, x9]
  | [q0, q1, q2, q3, q4, q5, q6, q7, q8, q9], _, x0, x1, x2, x3, x4, x5, x6, x7, x8, x9, a0, a1, a2, a3, a4 => by
    simp at a0 a1 a2 a3 a4
    simp [a0, a1, a2, a3, a4]
/- a row of pairs of bytes, cell for cell -/
theorem pairs_cells {w : World} {fuel : Nat} {cs : List Value} {p : List MemPlace} (h : DataW.trod (fun _ => ()) Tryd.prog w 0 (fun _ => true) false fuel 133 cs = some (Rows.laid_aquifer_path_signs, p)) : cs = sg.map V8 := by
  have c80 : Tryd.prog.cellsOf 132 = 2 := by kernel_rfl
  have c81 : Tryd.prog.cellsOf 133 = 10 := by kernel_rfl
  have c5 : Tryd.prog.cellsOf 5 = 1 := by kernel_rfl
  obtain ⟨xs, m, _, ex, hl, hx, hel⟩ := DataW.trod_array Tryd.underlying133 h
  rw [c81] at hl
  rw [c80] at hel
  have e1 : xs.map (·.1) = [.agg [.lit (.int .u8 97), .lit (.int .u8 122)], .agg [.lit (.int .u8 48), .lit (.int .u8 57)], .agg [.lit (.int .u8 95), .lit (.int .u8 95)], .agg [.lit (.int .u8 45), .lit (.int .u8 45)], .agg [.lit (.int .u8 126), .lit (.int .u8 126)]] := (DataW.agg.inj (Prod.mk.inj ex).1).symm
  have each : ∀ (i : Nat) (a b : Int), i < 5 → (xs.map (·.1))[i]? = some (.agg [.lit (.int .u8 a), .lit (.int .u8 b)]) → (cs.drop (i * 2)).take 2 = [.int .u8 a, .int .u8 b] := by
    intro i a b hi hd
    have hE := hel i hi
    rw [List.getElem?_map] at hd
    obtain ⟨x, hx1, hx2⟩ := Option.map_eq_some_iff.1 hd
    rw [hx1] at hE
    obtain ⟨y0, y1, k, e2, hlen, h0, h1⟩ := trod_struct2 Tryd.underlying132 hE
    obtain ⟨z0, f0, g0, _⟩ := DataW.trod_int Tryd.underlying5 h0
    obtain ⟨z1, f1, g1, _⟩ := DataW.trod_int Tryd.underlying5 h1
    rw [e2, g0, g1] at hx2
    simp only [DataW.agg.injEq, List.cons.injEq, DataW.lit.injEq, Lit.int.injEq, true_and, and_true] at hx2
    obtain ⟨rfl, rfl⟩ := hx2
    rw [c80] at hlen
    have f0' : List.take (Tryd.prog.cellsOf 5) (List.drop 0 ((cs.drop (i * 2)).take 2)) = _ := f0
    have f1' : List.take (Tryd.prog.cellsOf 5) (List.drop 1 ((cs.drop (i * 2)).take 2)) = _ := f1
    rw [c5] at f0' f1'
    exact pair_of hlen f0' f1'
  have a0 := each 0 97 122 (by omega) (by rw [e1]; rfl)
  have a1 := each 1 48 57 (by omega) (by rw [e1]; rfl)
  have a2 := each 2 95 95 (by omega) (by rw [e1]; rfl)
  have a3 := each 3 45 45 (by omega) (by rw [e1]; rfl)
  have a4 := each 4 126 126 (by omega) (by rw [e1]; rfl)
  exact ten_of cs hl _ _ _ _ _ _ _ _ _ _ a0 a1 a2 a3 a4
/- What the condition gives the walks. -/
theorem tab_of_laid {W : World} (h : laidMetH Tryd.prog laid1 W) (hsh : W.ShapedOpen Tryd.prog) : Tab W := by
  rw [MakeChecks.laidMetH_plain _ _ _ (by kernel_rfl)] at h
  refine ⟨?_, ?_⟩
  · exact Go.Proofs.cell_of_shapedOpen_int (zero := #[.int .i64 0]) hsh (of_decide_eq_true (by kernel_rfl)) (by kernel_rfl) rfl (by kernel_rfl) (by kernel_rfl) Tryd.underlying3
  · obtain ⟨g, t, cs, fuel, p, hg, ht, hv, hd⟩ := Lib.laidMet.reads h (n := "aquifer/path.signs") (d := Rows.laid_aquifer_path_signs) (by simp [laid1])
    obtain rfl := Option.some.inj (gSig.symm.trans hg)
    obtain rfl := Option.some.inj (gSigType.symm.trans ht)
    have hc := pairs_cells hd
    intro j v hj
    rw [Nat.zero_add, World.var?_cell gSig hv j, ← Array.getElem?_toList, hc, hj]
set_option maxRecDepth 100000 in
theorem text_of {H : Type} {enc : TypeId × Value → H} {W : World} {base : Nat} {v : Value} {d : DataW H} {p : List MemPlace} (hval : Value.okWide Tryd.prog W .any base 9 v) (h : DataW.Trod enc Tryd.prog W 0 (fun _ => true) true 9 v d p) :
    ∃ s : ByteArray, v = .string s ∧ s.size ≤ 9223372036854775807 := by
  obtain ⟨s, rfl, _, _, hw⟩ := Go.ChangeMaps.open_string Tryd.underlying9 hval h
  unfold maxLen at hw
  exact ⟨s, rfl, by omega⟩
end Go.Proofs.YtealbeblkilibaaDoor
/- Proved: an inode, what is archived, and a slice of parts that come in are what they are read as. Conditions: the row's own. -/
namespace Go.Proofs.YtealbeblkilibaaDoor
open Go.ChangeShapes Go.WideShapes Go.ChangeAt Go.RowKit
open Ino (Nd Ar Pt)
section
variable {H : Type} {enc : TypeId × Value → H} {P : Program} {w : World} {base : Nat} {spare : Nat → Bool} {held : Bool}
theorem trod_struct6 {t : TypeId} {f0 f1 f2 f3 f4 f5 : Field} {fuel : Nat} {cs : List Value} {x : DataW H × List MemPlace} (ht : P.underlying t = some (.struct #[f0, f1, f2, f3, f4, f5])) (h : DataW.trod enc P w base spare held fuel t cs = some x) :
    ∃ y0 y1 y2 y3 y4 y5 n, cs.length = P.cellsOf t ∧ DataW.trod enc P w base spare held n f0.type ((cs.drop f0.offset).take (P.cellsOf f0.type)) = some y0 ∧
      DataW.trod enc P w base spare held n f1.type ((cs.drop f1.offset).take (P.cellsOf f1.type)) = some y1 ∧ DataW.trod enc P w base spare held n f2.type ((cs.drop f2.offset).take (P.cellsOf f2.type)) = some y2 ∧
      DataW.trod enc P w base spare held n f3.type ((cs.drop f3.offset).take (P.cellsOf f3.type)) = some y3 ∧ DataW.trod enc P w base spare held n f4.type ((cs.drop f4.offset).take (P.cellsOf f4.type)) = some y4 ∧
      DataW.trod enc P w base spare held n f5.type ((cs.drop f5.offset).take (P.cellsOf f5.type)) = some y5 := by
  obtain ⟨xs, n, _, rfl, hl, hlen, hf⟩ := DataW.trod_struct ht h
  match xs, hlen with
  | [y0, y1, y2, y3, y4, y5], _ => exact ⟨y0, y1, y2, y3, y4, y5, n, hl, by simpa using hf 0 f0 rfl, by simpa using hf 1 f1 rfl, by simpa using hf 2 f2 rfl, by simpa using hf 3 f3 rfl, by simpa using hf 4 f4 rfl, by simpa using hf 5 f5 rfl⟩
end
theorem cells_six {α : Type} (cs : List α) (h : cs.length = 37) : cs = (cs.drop 0).take 1 ++ ((cs.drop 1).take 1 ++ ((cs.drop 2).take 32 ++ ((cs.drop 34).take 1 ++ ((cs.drop 35).take 1 ++ (cs.drop 36).take 1)))) := by
  have step : ∀ (a b : Nat), cs.drop a = (cs.drop a).take b ++ cs.drop (a + b) := fun a b => by
    rw [← List.drop_drop, List.take_append_drop]
  have e0 : cs = cs.drop 0 := rfl
  have e6 : (cs.drop 36).take 1 = cs.drop 36 := List.take_of_length_le (by rw [List.length_drop]; omega)
  rw [e6]
  conv => lhs; rw [e0, step 0 1, step 1 1, step 2 32, step 34 1, step 35 1]
theorem cells_three {α : Type} (cs : List α) (h : cs.length = 34) : cs = (cs.drop 0).take 1 ++ ((cs.drop 1).take 1 ++ (cs.drop 2).take 32) := by
  have step : ∀ (a b : Nat), cs.drop a = (cs.drop a).take b ++ cs.drop (a + b) := fun a b => by
    rw [← List.drop_drop, List.take_append_drop]
  have e0 : cs = cs.drop 0 := rfl
  have e6 : (cs.drop 2).take 32 = cs.drop 2 := List.take_of_length_le (by rw [List.length_drop]; omega)
  rw [e6]
  conv => lhs; rw [e0, step 0 1, step 1 1]
theorem u8_of {n : Int} (h : (Lit.int IntKind.u8 n).wf = true) : ∃ b : UInt8, Value.int .u8 n = c8 b := by
  have hb : 0 ≤ n ∧ n < 256 := by have := bounds_u8 h; omega
  refine ⟨UInt8.ofNat n.toNat, ?_⟩
  unfold c8
  have : (UInt8.ofNat n.toNat).toNat = n.toNat := by
    rw [UInt8.toNat_ofNat']
    exact Nat.mod_eq_of_lt (by omega)
  rw [this, Int.toNat_of_nonneg hb.1]
theorem sum_of {H : Type} {enc : TypeId × Value → H} {W : World} {fuel : Nat} {cs : List Value} {x : DataW H × List MemPlace} (h : DataW.trod enc Tryd.prog W 0 (fun _ => true) true fuel 37 cs = some x) : ∃ d : List UInt8, d.length = 32 ∧ cs = d.map c8 := by
  have c5 : Tryd.prog.cellsOf 5 = 1 := by kernel_rfl
  have c37 : Tryd.prog.cellsOf 37 = 32 := by kernel_rfl
  obtain ⟨xs, m, _, _, hl, hx, hel⟩ := DataW.trod_array Tryd.underlying37 h
  rw [c37] at hl
  have each : ∀ i, i < cs.length → ∃ b : UInt8, cs[i]? = some (c8 b) := fun i hi => by
    have hE := hel i (by omega)
    rw [c5, Nat.mul_one] at hE
    rw [List.getElem?_eq_getElem (by omega)] at hE
    obtain ⟨z, e, _, hw⟩ := DataW.trod_int Tryd.underlying5 hE
    obtain ⟨b, hb⟩ := u8_of hw
    refine ⟨b, ?_⟩
    have e2 : (cs.drop i)[0]? = some (.int .u8 z) := by
      have := congrArg (fun l : List Value => l[0]?) e
      simpa using this
    rw [List.getElem?_drop, Nat.add_zero] at e2
    rw [e2, hb]
  haveI : Inhabited UInt8 := ⟨0⟩
  obtain ⟨F, hF⟩ := Go.Deep.choose_lt each
  refine ⟨(List.range cs.length).map F, by simp [hl], ?_⟩
  refine List.ext_getElem? fun i => ?_
  rw [List.getElem?_map, List.getElem?_map]
  by_cases hi : i < cs.length
  · rw [List.getElem?_range hi, hF i hi]; rfl
  · rw [List.getElem?_eq_none (by omega), List.getElem?_eq_none (by simpa using hi)]; rfl
structure NdIn (n : Nd) : Prop where
  sum : n.sum.length = 32
  kind : FI.In64 n.kind
  size : FI.In64 n.size
  content : FI.In64 n.content
  version : FI.In64 n.version
  opened : FI.In64 n.opened
structure ArIn (a : Ar) : Prop where
  sum : a.sum.length = 32
  version : FI.In64 a.version
  size : FI.In64 a.size
set_option maxRecDepth 100000 in
theorem nd_of {H : Type} {enc : TypeId × Value → H} {W : World} {base : Nat} {v : Value} {d : DataW H} {p : List MemPlace} (hval : Value.okWide Tryd.prog W .any base 39 v) (h : DataW.Trod enc Tryd.prog W 0 (fun _ => true) true 39 v d p) :
    ∃ n : Nd, v = .agg (ndc n) ∧ NdIn n := by
  have c39 : Tryd.prog.cellsOf 39 = 37 := by kernel_rfl
  have c3 : Tryd.prog.cellsOf 3 = 1 := by kernel_rfl
  have c37 : Tryd.prog.cellsOf 37 = 32 := by kernel_rfl
  obtain ⟨cs, rfl, hsz, _⟩ : ∃ cs, v = .agg cs ∧ cs.size = Tryd.prog.cellsOf 39 ∧ Row.okWide Tryd.prog W .any base 39 cs := by
    simpa [Value.okWide, Tryd.underlying39] using hval
  obtain ⟨fuel, ht⟩ := h
  obtain ⟨y0, y1, y2, y3, y4, y5, k, hl, h0, h1, h2, h3, h4, h5⟩ := trod_struct6 Tryd.underlying39 ht
  obtain ⟨z0, e0, _, w0⟩ := DataW.trod_int Tryd.underlying3 h0
  obtain ⟨z1, e1, _, w1⟩ := DataW.trod_int Tryd.underlying3 h1
  obtain ⟨dd, hd, e2⟩ := sum_of h2
  obtain ⟨z3, e3, _, w3⟩ := DataW.trod_int Tryd.underlying3 h3
  obtain ⟨z4, e4, _, w4⟩ := DataW.trod_int Tryd.underlying3 h4
  obtain ⟨z5, e5, _, w5⟩ := DataW.trod_int Tryd.underlying3 h5
  obtain ⟨l⟩ := cs
  have hl37 : l.length = 37 := by rw [← c39, ← hsz]; rfl
  change List.take (Tryd.prog.cellsOf 3) (List.drop 0 l) = _ at e0
  change List.take (Tryd.prog.cellsOf 3) (List.drop 1 l) = _ at e1
  change List.take (Tryd.prog.cellsOf 37) (List.drop 2 l) = _ at e2
  change List.take (Tryd.prog.cellsOf 3) (List.drop 34 l) = _ at e3
  change List.take (Tryd.prog.cellsOf 3) (List.drop 35 l) = _ at e4
  change List.take (Tryd.prog.cellsOf 3) (List.drop 36 l) = _ at e5
  rw [c3] at e0 e1 e3 e4 e5
  rw [c37] at e2
  have he := cells_six l hl37
  rw [e0, e1, e2, e3, e4, e5] at he
  exact ⟨⟨z0, z1, dd, z3, z4, z5⟩, by rw [he]; rfl, ⟨hd, bounds_i64 w0, bounds_i64 w1, bounds_i64 w3, bounds_i64 w4, bounds_i64 w5⟩⟩
set_option maxRecDepth 100000 in
theorem ar_of {H : Type} {enc : TypeId × Value → H} {W : World} {base : Nat} {v : Value} {d : DataW H} {p : List MemPlace} (hval : Value.okWide Tryd.prog W .any base 55 v) (h : DataW.Trod enc Tryd.prog W 0 (fun _ => true) true 55 v d p) :
    ∃ a : Ar, v = .agg (arc a) ∧ ArIn a := by
  have c55 : Tryd.prog.cellsOf 55 = 34 := by kernel_rfl
  have c3 : Tryd.prog.cellsOf 3 = 1 := by kernel_rfl
  have c37 : Tryd.prog.cellsOf 37 = 32 := by kernel_rfl
  obtain ⟨cs, rfl, hsz, _⟩ : ∃ cs, v = .agg cs ∧ cs.size = Tryd.prog.cellsOf 55 ∧ Row.okWide Tryd.prog W .any base 55 cs := by
    simpa [Value.okWide, Tryd.underlying55] using hval
  obtain ⟨fuel, ht⟩ := h
  obtain ⟨y0, y1, y2, k, _, hl, h0, h1, h2⟩ := Go.Deep.trod_struct3 Tryd.underlying55 ht
  obtain ⟨z0, e0, _, w0⟩ := DataW.trod_int Tryd.underlying3 h0
  obtain ⟨z1, e1, _, w1⟩ := DataW.trod_int Tryd.underlying3 h1
  obtain ⟨dd, hd, e2⟩ := sum_of h2
  obtain ⟨l⟩ := cs
  have hl34 : l.length = 34 := by rw [← c55, ← hsz]; rfl
  change List.take (Tryd.prog.cellsOf 3) (List.drop 0 l) = _ at e0
  change List.take (Tryd.prog.cellsOf 3) (List.drop 1 l) = _ at e1
  change List.take (Tryd.prog.cellsOf 37) (List.drop 2 l) = _ at e2
  rw [c3] at e0 e1
  rw [c37] at e2
  have he := cells_three l hl34
  rw [e0, e1, e2] at he
  exact ⟨⟨z0, z1, dd⟩, by rw [he]; rfl, ⟨hd, bounds_i64 w0, bounds_i64 w1⟩⟩
/- a slice of parts that comes in -/
set_option maxRecDepth 100000 in
theorem parts_of {H : Type} {enc : TypeId × Value → H} {W : World} {a : Option Addr} {len cap : Nat} {d : DataW H} {p : List MemPlace} (h : DataW.Trod enc Tryd.prog W 0 (fun _ => true) true 22 (.slice a len cap) d p) :
    (∃ ps, PartsL W a len ps ∧ ∀ x ∈ ps, x.s.size ≤ 9223372036854775807) ∧ len ≤ cap ∧ cap ≤ 9223372036854775807 := by
  have c24 : Tryd.prog.cellsOf 24 = 3 := by kernel_rfl
  have c3 : Tryd.prog.cellsOf 3 = 1 := by kernel_rfl
  have c9 : Tryd.prog.cellsOf 9 = 1 := by kernel_rfl
  obtain ⟨fuel, hf⟩ := h
  rcases Go.Deep.open_slice Tryd.underlying22 hf with ⟨hcs, _⟩ | ⟨x, l, c, m, n, D, Pl, hcs, _, hl, hm, hmm, _, hel⟩
  · simp [Value.cells] at hcs
    obtain ⟨rfl, rfl, rfl⟩ := hcs
    exact ⟨⟨[], ⟨rfl, .inl rfl⟩, fun x hx => by cases hx⟩, Nat.le_refl _, by omega⟩
  · simp [Value.cells] at hcs
    obtain ⟨rfl, rfl, rfl⟩ := hcs
    unfold maxLen at hm
    refine ⟨?_, hl, by omega⟩
    simp only [if_true] at hmm
    subst hmm
    rw [c24] at hel
    have each : ∀ i, i < m → ∃ f : Pt, f.s.size ≤ 9223372036854775807 ∧ W.cell? (x.add (i * 3)) = some (.int .i64 f.kind) ∧ W.cell? (x.add (i * 3 + 1)) = some (.int .i64 f.n) ∧ W.cell? (x.add (i * 3 + 2)) = some (.string f.s) := fun i hi => by
      obtain ⟨cs, hc, ht⟩ := hel i hi
      obtain ⟨_, hlen, hcell⟩ := World.cells?_some hc
      obtain ⟨y0, y1, y2, k, _, _, h0, h1, h2⟩ := Go.Deep.trod_struct3 Tryd.underlying24 ht
      obtain ⟨z0, e0, _, w0⟩ := DataW.trod_int Tryd.underlying3 h0
      obtain ⟨z1, e1, _, w1⟩ := DataW.trod_int Tryd.underlying3 h1
      obtain ⟨s2, e2, _, w2⟩ := DataW.trod_string Tryd.underlying9 h2
      unfold maxLen at w2
      match cs, hlen with
      | [q0, q1, q2], _ =>
        change List.take (Tryd.prog.cellsOf 3) (List.drop 0 [q0, q1, q2]) = _ at e0
        change List.take (Tryd.prog.cellsOf 3) (List.drop 1 [q0, q1, q2]) = _ at e1
        change List.take (Tryd.prog.cellsOf 9) (List.drop 2 [q0, q1, q2]) = _ at e2
        rw [c3] at e0 e1
        rw [c9] at e2
        simp at e0 e1 e2
        subst e0
        subst e1
        subst e2
        have a0 := hcell 0 (by omega)
        have a1 := hcell 1 (by omega)
        have a2 := hcell 2 (by omega)
        rw [Go.Deep.add_add] at a0 a1 a2
        exact ⟨⟨z0, z1, s2⟩, by simp only; omega, a0, a1, a2⟩
    by_cases h0 : len = 0
    · exact ⟨[], ⟨by rw [h0]; rfl, .inl h0⟩, fun x hx => by cases hx⟩
    · obtain ⟨b, off, spot⟩ := x
      have hspot : spot = none := by
        obtain ⟨f, _, h1, _⟩ := each 0 (by omega)
        simpa [Addr.add] using World.cell?_spot h1
      subst hspot
      haveI : Inhabited Pt := ⟨pt0⟩
      have each2 : ∀ i, i < len → ∃ f : Pt, f.s.size ≤ 9223372036854775807 ∧ PartAt W b (off + i * 3) f := fun i hi => by
        obtain ⟨f, hf, h1, h2, h3⟩ := each i (by omega)
        rw [add_plain] at h1 h2 h3
        exact ⟨f, hf, ⟨h1, by rw [Nat.add_assoc]; exact h2, by rw [Nat.add_assoc]; exact h3⟩⟩
      obtain ⟨F, hF⟩ := Go.Deep.choose_lt each2
      refine ⟨(List.range len).map F, ⟨by simp, .inr ⟨b, off, rfl, fun i hi => ?_⟩⟩, fun f hf => ?_⟩
      · rw [List.getD_eq_getElem?_getD, List.getElem?_map, List.getElem?_range hi]
        exact (hF i hi).2
      · obtain ⟨i, hi, rfl⟩ := List.mem_map.1 hf
        exact (hF i (List.mem_range.1 hi)).1
end Go.Proofs.YtealbeblkilibaaDoor
