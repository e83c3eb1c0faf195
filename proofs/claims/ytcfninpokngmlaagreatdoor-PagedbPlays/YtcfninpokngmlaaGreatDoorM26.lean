/- Proved: the law's helper begin: both databases, new (stage 10). -/
import Derived.Test.YtcfninpokngmlaaGreatDoorM20
import Derived.Test.YtcfninpokngmlaaGreatDoorM25
namespace Go.Proofs.YtcfninpokngmlaaGreatDoor
open Go.RowKit
set_option maxHeartbeats 4000000 in
set_option maxRecDepth 20000 in
theorem begin_two (w : World) (cnt n : Nat) (hc4 : 4 ≤ cnt) (hcn : cnt ≤ 1000) (hn2 : 2 ≤ n) (hn : n ≤ 1000) (hT : Tab w) : Calls Tryz.prog 9 #[.int .i64 (n : Int), .int .i64 (cnt : Int)] w fun e w' => ∃ q h A v d, e = .returned (ptr q) ∧ PC w w' q h A nilP v (8 * cnt + 4) d Pd.Ab.init false false cnt n [] := by
  obtain ⟨N, hN⟩ : ∃ N, N = n + 8 * cnt := ⟨_, rfl⟩
  have hq : (n : Int) + 8 * (cnt : Int) = (N : Int) := by omega
  have hNb : N ≤ 9000 := by omega
  have HT : Hid (Tab w) := hT
  have HN : Hid (N = n + 8 * cnt) := hN
  have hpw := hT.pos
  clear hT hN
  go_enter Tryz.func9, Tryz.ntmps9
  go_wp2_with fail
  refine (new_any N w (by have := HN.out; omega) (by omega)).mono ?_
  rintro e w0 ⟨g, kg, rfl, hD0, hB0, hg, hkg⟩
  have G0 : Hid (GK w w0 g kg nil0 (Sc.made N) n cnt 0 Pd.Ab.init) := made_gk g kg N n cnt hD0 HT.out hB0 hg hkg hn2 (by have := HN.out; omega) (by have := HN.out; omega) hc4 hcn
  clear hD0 hB0 hg hkg
  have HOP := gopen1 g kg nil0 (Sc.made N) n cnt G0.out (by omega) rfl
  go_wp2_with fail
  refine HOP.mono ?_
  rintro e w1 ⟨A, d, rfl, hAg, hAk, hG1, hdn, hdc, hdl, hlf, _⟩
  have hml : (Sc.made N).kept.length = N := by show (List.replicate N Sc.zero64).length = N; rw [List.length_replicate]
  have HG1 : Hid (GD w w1 A (8 * cnt + 4) d Pd.Ab.init ∧ Geo d cnt n ∧ A.g = g) := ⟨by rw [Nat.zero_add] at hG1; exact hG1, ⟨hdc, hdn, by rw [hdc, hdl, hdn, hml]; have := HN.out; omega, hlf rfl⟩, hAg⟩
  have HRN := rnew_any w1 cnt n
  clear hG1 hdn hdc hdl hlf hAg hAk G0 HOP hml
  go_wp2_with fail
  refine HRN.mono ?_
  rintro e w2 ⟨h, v, rfl, hR2, hB2, hn2'⟩
  have HF : Hid (PC w (w2.alloc (.cells #[ptr g, ptr A.x, nilP, ptr h] 34)) w2.heap.size h A nilP v (8 * cnt + 4) d Pd.Ab.init false false cnt n []) := by
    have hG := HG1.out.1
    have hs : (w2.alloc (.cells #[ptr g, ptr A.x, nilP, ptr h] 34)).heap.size = w2.heap.size + 1 := by simp
    have hBa : Below w2.heap.size w2 (w2.alloc (.cells #[ptr g, ptr A.x, nilP, ptr h] 34)) := (Below.refl _ _).alloc (Nat.le_refl _) _
    have hG2 := (hG.below hB2).below hBa
    have hw := hG.bel.size
    have hs2 := hB2.size
    have hlt := hG.db.lt
    refine ⟨hG2, ?_, hR2.below hBa, ⟨fun hm => ?_, fun hm => ?_, (by simp), fun k hk hm => ?_, (by simp), (by simp), by omega, fun k hk => ?_, fun k hk => ?_, (by simp), by omega, hG.new, fun k hk => ?_⟩, .inl rfl, HG1.out.2.1⟩
    · rw [heap_alloc_new]
      unfold twA
      rw [HG1.out.2.2]
    · have := hlt _ hm; omega
    · have := hR2.lt _ hm; omega
    · have := hlt _ hm; have := hn2' k hk; omega
    · have := hlt _ hk; omega
    · have := hR2.lt _ hk; omega
    · have := hn2' k hk; omega
  clear hR2 hB2 hn2' HRN HG1
  go_wp2
  go_ret
  exact ⟨_, h, A, v, d, rfl, HF.out⟩
end Go.Proofs.YtcfninpokngmlaaGreatDoor
/- Proved: PagedbPlays' walk. -/
namespace Go.Proofs.YtcfninpokngmlaaGreatDoor
open Go.RowKit
theorem PS.bel {W w : World} {q h K cnt n : Nat} (H : PS W w q h K cnt n) : Below W.heap.size W w ∧ Tab w := by
  rcases H with ⟨A, tv, v, d, S, mk, sp, E, H⟩ | ⟨A, t, bt, v, d, S, T, sp, tm, tb, mk, E, H⟩
  · exact ⟨H.g.bel, H.g.db.tab⟩
  · exact ⟨H.g.bel, H.g.tx.db.tab⟩
theorem drewB (w : World) (k : Nat) : Below w.heap.size w (w.drewN k) := ⟨rfl, rfl, rfl, Nat.le_refl _, fun _ _ => rfl⟩
/- what the law's last comparison reads -/
structure PlR (q h u : Nat) (r0 : Array Value) (r1 : Array Value) (r2 : Array Value) (w : World) : Prop where
  rq : w.heap[q]? = some (.cells r0 34 (0, 0))
  rh : w.heap[h]? = some (.cells r1 41 (0, 0))
  ru : w.heap[u]? = some (.cells r2 39 (0, 0))
set_option maxHeartbeats 8000000 in
set_option maxRecDepth 20000 in
theorem plays_walk (xl xp : Int) (a : Option Addr) (len cap : Nat) (w : World) (_h1 : In64 xl) (_h2 : In64 xp) (hA : Acts w a len) (_hlc : len ≤ cap) (_hcm : cap ≤ 9223372036854775807) (hT : Tab w) :
    Calls Tryz.prog 3 #[.int .i64 xl, .int .i64 xp, .slice a len cap] w fun e w' => e = .returned (.bool true) ∧ Below w.heap.size w w' := by
  have HT : Hid (Tab w) := hT
  have hpw := hT.pos
  have HAC : Hid (Acts w a len) := hA
  clear hT hA
  obtain ⟨K40, hK40, e1, e2, b1, b2⟩ := mod_pos xl 40 (by omega)
  have e1 : (xl.tmod 40 + 40).tmod 40 = (K40 : Int) := e1
  have e2 : (xl.tmod 40 + 40) % 40 = (K40 : Int) := e2
  have hw1 : IntKind.i64.wrap (xl.tmod 40 + 40) = xl.tmod 40 + 40 := by have b1 : -40 < xl.tmod 40 := b1; have b2 : xl.tmod 40 < 40 := b2; rw [IntKind.wrap_i64]; omega
  clear b1 b2
  obtain ⟨K12, hK12, e3, e4, b1, b2⟩ := mod_pos xp 12 (by omega)
  have e3 : (xp.tmod 12 + 12).tmod 12 = (K12 : Int) := e3
  have e4 : (xp.tmod 12 + 12) % 12 = (K12 : Int) := e4
  have hw2 : IntKind.i64.wrap (xp.tmod 12 + 12) = xp.tmod 12 + 12 := by have b1 : -12 < xp.tmod 12 := b1; have b2 : xp.tmod 12 < 12 := b2; rw [IntKind.wrap_i64]; omega
  clear b1 b2
  obtain ⟨n, hn⟩ : ∃ n, n = 20 + K40 := ⟨_, rfl⟩
  obtain ⟨cnt, hcnt⟩ : ∃ c, c = 4 + K12 := ⟨_, rfl⟩
  have hqn : 20 + (K40 : Int) = (n : Int) := by omega
  have hqc : 4 + (K12 : Int) = (cnt : Int) := by omega
  have hn2 : 2 ≤ n ∧ n ≤ 59 := by omega
  have hc4 : 4 ≤ cnt ∧ cnt ≤ 15 := by omega
  clear hn hcnt
  go_enter Tryz.func3, Tryz.ntmps3
  go_wp2_with fail
  refine (begin_two w cnt n hc4.1 (by omega) hn2.1 (by omega) HT.out).mono ?_
  rintro e w1 ⟨q, h, A1, v1, d1, rfl, hP1⟩
  have HP1 : Hid (PS w w1 q h (8 * cnt + 4 + 0 * (8 * cnt + n + 8)) cnt n) := hP1.ps (by omega)
  clear hP1 e1 e2 e3 e4 hw1 hw2 hqn hqc
  unfold ptr
  go_wp2_with fail
  go_loopw [8, 9, 10] (fun s8 _ _ wr => ∃ i : Nat, i ≤ 50 ∧ i ≤ len ∧ s8 = .int .i64 (i : Int) ∧ PS w wr q h (8 * cnt + 4 + i * (8 * cnt + n + 8)) cnt n) (fun s8 _ _ _ => 50 - (intOf s8).toNat)
  case atStart => exact ⟨0, by omega, by omega, rfl, HP1.out⟩
  case round =>
    clear HP1
    obtain ⟨i, hi, hil, rfl, hPr⟩ := hrel
    have HPr : Hid (PS w wr q h (8 * cnt + 4 + i * (8 * cnt + n + 8)) cnt n) := hPr
    clear hPr
    by_cases hin : i < len ∧ i < 50
    · obtain ⟨hl1, hl2⟩ := hin
      have q1 : decide ((i : Int) < (len : Int)) = true := decide_eq_true (by omega)
      have q2 : decide ((i : Int) < 50) = true := decide_eq_true (by omega)
      have k0 : (0 : Int) ≤ (i : Int) := by omega
      have k1 : (i : Int) < (len : Int) := by omega
      obtain ⟨b, off, rfl, x, hx, c0, c1, c2, c3, c4⟩ := HAC.out.at HPr.out.bel.1 hl1
      have hKK : 8 * cnt + 4 + i * (8 * cnt + n + 8) ≤ 60000 := by
        have := Nat.mul_le_mul (show i ≤ 50 by omega) (show 8 * cnt + n + 8 ≤ 187 by omega)
        omega
      have HDO := does_any x hx HPr.out ⟨hpw, hKK, hc4.1, by omega, hn2.1, by omega⟩
      have HKE : Hid (8 * cnt + 4 + i * (8 * cnt + n + 8) + 8 * cnt + n + 8 = 8 * cnt + 4 + (i + 1) * (8 * cnt + n + 8)) := by show _ = _; rw [Nat.add_mul, Nat.one_mul]; omega
      obtain ⟨xk, xi, xd, xs, ka, kl, kc, xm⟩ := x
      clear hx
      simp only at c0 c1 c2 c3 c4
      unfold Actv.cells ptr at HDO
      simp only at HDO
      go_wp2_with fail
      refine HDO.mono ?_
      rintro e w2 ⟨rfl, hPS2⟩
      rw [HKE.out] at hPS2
      clear HDO HKE HPr c0 c1 c2 c3 c4 hKK
      rcases hPS2 with ⟨A, tv, v, d, S, mk, sp, E, hP⟩ | ⟨A, t, bt, v, d, S, T, sp, tm, tb, mk, E, hP⟩
      · have HP : Hid (PC w w2 q h A tv v (8 * cnt + 4 + (i + 1) * (8 * cnt + n + 8)) d S mk sp cnt n E) := hP
        have HD : Hid (∀ k, PC w (w2.drewN k) q h A tv v (8 * cnt + 4 + (i + 1) * (8 * cnt + n + 8)) d S mk sp cnt n E) := fun k => hP.below (drewB w2 k)
        have HHI : Hid (d.st.high = S.pgs.length ∧ d.st.free = S.freed.length ∧ d.cnt = cnt) := ⟨by rw [hP.g.inv.st]; rfl, by rw [hP.g.inv.st]; rfl, hP.geo.cnt⟩
        have Q1 : Hid (∀ k, Calls Tryz.prog 11 #[.pointer (some ⟨A.x, 0, none⟩)] (w2.drewN k) fun e w' => e = .returned (.int .i64 (cnt : Int)) ∧ w' = w2.drewN k) := fun k => by have := dcount_any (A := A) (op := nilP) (d := d) (w := w2.drewN k) (HD.out k).g.db; rw [HHI.out.2.2] at this; exact this
        have Q2 : Hid (∀ k, Calls Tryz.prog 12 #[.pointer (some ⟨A.x, 0, none⟩)] (w2.drewN k) fun e w' => e = .returned (.int .i64 (S.pgs.length : Int)) ∧ w' = w2.drewN k) := fun k => by have := dhigh_any (A := A) (op := nilP) (d := d) (w := w2.drewN k) (HD.out k).g.db; rw [HHI.out.1] at this; exact this
        have Q3 : Hid (∀ k, Calls Tryz.prog 13 #[.pointer (some ⟨A.x, 0, none⟩)] (w2.drewN k) fun e w' => e = .returned (.int .i64 (S.freed.length : Int)) ∧ w' = w2.drewN k) := fun k => by have := dfree_any (A := A) (op := nilP) (d := d) (w := w2.drewN k) (HD.out k).g.db; rw [HHI.out.2.1] at this; exact this
        have Q4 : Hid (∀ k, Calls Tryz.prog 14 #[tv] (w2.drewN k) fun e w' => e = .returned (.int .i64 0) ∧ w' = w2.drewN k) := fun k => changed_no _ tv (HD.out k).en.shut
        have Q5 : Hid (∀ k, Calls Tryz.prog 15 #[.pointer (some ⟨h, 0, none⟩)] (w2.drewN k) fun e w' => e = .returned (.int .i64 0) ∧ w' = w2.drewN k) := fun k => rchanged_no (HD.out k).rc
        have Q6 : Hid (∀ k j, Calls Tryz.prog 16 #[tv, .int .i64 j] (w2.drewN k) fun e w' => e = .returned (.int .i64 0) ∧ w' = w2.drewN k) := fun k j => root_no _ tv j (HD.out k).en.shut
        have Q7 : Hid (∀ k j, Calls Tryz.prog 17 #[.pointer (some ⟨h, 0, none⟩), .int .i64 j] (w2.drewN k) fun e w' => e = .returned (.int .i64 0) ∧ w' = w2.drewN k) := fun k j => rroot_no (HD.out k).rc j
        obtain ⟨aP, cP, hvP⟩ := own_slice hP.rc.st.pg
        obtain ⟨aF, cF, hvF⟩ := own_slice hP.rc.st.fr
        have r0 : w2.cell? ⟨q, 1, none⟩ = some (.pointer (some ⟨A.x, 0, none⟩)) := (cell_of_row w2 q 1 _ _ (0, 0) hP.row).trans rfl
        have r1 : w2.cell? ⟨q, 2, none⟩ = some tv := (cell_of_row w2 q 2 _ _ (0, 0) hP.row).trans rfl
        have r2 : w2.cell? ⟨q, 3, none⟩ = some (.pointer (some ⟨h, 0, none⟩)) := (cell_of_row w2 q 3 _ _ (0, 0) hP.row).trans rfl
        have r3 : w2.cell? ⟨h, 2, none⟩ = some (.slice aP S.pgs.length cP) := by rw [hP.rc.cell, ← hvP]; rfl
        have r4 : w2.cell? ⟨h, 3, none⟩ = some (.slice aF S.freed.length cF) := by rw [hP.rc.cell, ← hvF]; rfl
        clear hP hvP hvF
        go_wp2_with fail
        go_quiet (first | (go_at_call 11; exact Calls.quiet_of_same (Q1.out _)) | (go_at_call 12; exact Calls.quiet_of_same (Q2.out _)) | (go_at_call 13; exact Calls.quiet_of_same (Q3.out _)) | (go_at_call 14; exact Calls.quiet_of_same (Q4.out _)) | (go_at_call 15; exact Calls.quiet_of_same (Q5.out _)) | (go_at_call 16; exact Calls.quiet_of_same (Q6.out _ _)) | (go_at_call 17; exact Calls.quiet_of_same (Q7.out _ _)))
        have HP3 := (show Hid _ from HD.out nq)
        generalize w2.drewN nq = w3 at *
        clear HP HD Q1 Q2 Q3 Q4 Q5 Q6 Q7 r0 r1 r2 r3 r4 HHI
        have r0 : w3.cell? ⟨q, 1, none⟩ = some (.pointer (some ⟨A.x, 0, none⟩)) := (cell_of_row w3 q 1 _ _ (0, 0) HP3.out.row).trans rfl
        have r2 : w3.cell? ⟨q, 3, none⟩ = some (.pointer (some ⟨h, 0, none⟩)) := (cell_of_row w3 q 3 _ _ (0, 0) HP3.out.row).trans rfl
        have r5 := HP3.out.rc.c5
        have HST := state_any HP3.out.g hpw
        unfold ptr at HST
        go_wp2_with fail
        refine HST.mono ?_
        rintro e w4 ⟨vP, vF, vR, rfl, hG4, hO4, hap4, hT4⟩
        have hok := hG4.inv.fnd.ok
        have hR1 := hok.pos
        have hR2 : S.pgs.length ≤ 1000 := Nat.le_trans hok.most hok.small
        have hR3 : S.freed.length ≤ 1000 := by have := hok.free_lt; omega
        have HP4 := (show Hid (PC w w4 q h A tv v (8 * cnt + 4 + (i + 1) * (8 * cnt + n + 8)) d S mk sp cnt n E) from HP3.out.prog hG4 hT4 ⟨rfl, rfl⟩ rfl HP3.out.geo)
        obtain ⟨aP, cP, hvP⟩ := own_slice hO4.pg
        obtain ⟨aF, cF, hvF⟩ := own_slice hO4.fr
        obtain ⟨aR, cR, hvR⟩ := own_slice hO4.rt
        subst hvP hvF hvR
        have hBx : Below w4.heap.size w4 (w4.alloc (.cells #[.slice aP S.pgs.length cP, .slice aF S.freed.length cF, .slice aR 4 cR] 39)) := (Below.refl _ _).alloc (Nat.le_refl _) _
        have HP5 := (show Hid _ from HP4.out.below hBx)
        have HO5 : Hid (StO (w4.alloc (.cells #[.slice aP S.pgs.length cP, .slice aF S.freed.length cF, .slice aR 4 cR] 39)) 0 (.slice aP S.pgs.length cP) (.slice aF S.freed.length cF) (.slice aR 4 cR) S ∧ (w4.alloc (.cells #[.slice aP S.pgs.length cP, .slice aF S.freed.length cF, .slice aR 4 cR] 39)).heap[w4.heap.size]? = some (.cells #[.slice aP S.pgs.length cP, .slice aF S.freed.length cF, .slice aR 4 cR] 39 (0, 0))) := ⟨(hO4.below hBx).zero, heap_alloc_new w4 _⟩
        clear hG4 hO4 hap4 hT4 hok HST HP3 HP4 r0 r2 r5 hBx
        go_upto_region 14 with fail
        generalize w4.heap.size = u at *
        generalize World.alloc w4 _ = w5 at *
        obtain ⟨aP2, cP2, hvP2⟩ := own_slice HP5.out.rc.st.pg
        obtain ⟨aF2, cF2, hvF2⟩ := own_slice HP5.out.rc.st.fr
        obtain ⟨aR2, cR2, hvR2⟩ := own_slice HP5.out.rc.st.rt
        have HV : Hid (v.sP = .slice aP2 S.pgs.length cP2 ∧ v.sF = .slice aF2 S.freed.length cF2 ∧ v.sR = .slice aR2 4 cR2) := ⟨hvP2, hvF2, hvR2⟩
        clear hvP2 hvF2 hvR2
        have HS : Hid (PlR q h u (twA A tv h) (rdA cnt n v false mk sp) #[.slice aP S.pgs.length cP, .slice aF S.freed.length cF, .slice aR 4 cR] w5.drew) := ⟨HP5.out.row, HP5.out.rc.row, HO5.out.2⟩
        have HDB : Hid (Below w5.heap.size w5 w5.drew) := ⟨rfl, rfl, rfl, Nat.le_refl _, fun _ _ => rfl⟩
        refine wp_region_held_drew (S := PlR q h u (twA A tv h) (rdA cnt n v false mk sp) #[.slice aP S.pgs.length cP, .slice aF S.freed.length cF, .slice aR 4 cR]) (by kernel_rfl) HS.out (fun _ => ?_)
        refine heldTake 0 (some 129) (.bool true) rfl rfl (by kernel_rfl) (by kernel_rfl) (by kernel_rfl) (fun _ _ _ h => h) (Or.inl ⟨by rfl, fun w hS => ?_⟩) HS.out ?_
        · (go_simp)
        simp only [Act.put, List.setIfInBounds_toArray, List.set_cons_zero, List.set_cons_succ]
        refine heldTake 1 (some 130) (.bool false) rfl rfl (by kernel_rfl) (by kernel_rfl) (by kernel_rfl) (fun _ _ _ h => h) (Or.inl ⟨by rfl, fun w hS => ?_⟩) HS.out ?_
        · (go_simp)
        simp only [Act.put, List.setIfInBounds_toArray, List.set_cons_zero, List.set_cons_succ]
        refine heldTake 2 (some 131) (.bool false) rfl rfl (by kernel_rfl) (by kernel_rfl) (by kernel_rfl) (fun _ _ _ h => h) (Or.inl ⟨by rfl, fun w hS => ?_⟩) HS.out ?_
        · (go_simp)
        simp only [Act.put, List.setIfInBounds_toArray, List.set_cons_zero, List.set_cons_succ]
        refine heldTake 3 (some 132) (.agg #[.slice aP S.pgs.length cP, .slice aF S.freed.length cF, .slice aR 4 cR]) rfl rfl (by kernel_rfl) (by kernel_rfl) (by kernel_rfl) (fun _ _ _ h => h) (Or.inl ⟨by rfl, fun w hS => ?_⟩) HS.out ?_
        · (have p0 : _ = some (Value.slice aP S.pgs.length cP) := (cell_of_row w u 0 _ _ (0, 0) hS.ru).trans rfl; have p1 : _ = some (Value.slice aF S.freed.length cF) := (cell_of_row w u 1 _ _ (0, 0) hS.ru).trans rfl; have p2 : _ = some (Value.slice aR 4 cR) := (cell_of_row w u 2 _ _ (0, 0) hS.ru).trans rfl; clear hS; go_simp)
        simp only [Act.put, List.setIfInBounds_toArray, List.set_cons_zero, List.set_cons_succ]
        refine heldTake 4 (some 133) (.pointer (some ⟨q, 0, none⟩)) rfl rfl (by kernel_rfl) (by kernel_rfl) (by kernel_rfl) (fun _ _ _ h => h) (Or.inl ⟨by rfl, fun w hS => ?_⟩) HS.out ?_
        · (go_simp)
        simp only [Act.put, List.setIfInBounds_toArray, List.set_cons_zero, List.set_cons_succ]
        refine heldTake 5 (some 134) (.pointer (some ⟨q, 0, none⟩)) rfl rfl (by kernel_rfl) (by kernel_rfl) (by kernel_rfl) (fun _ _ _ h => h) (Or.inl ⟨by rfl, fun w hS => ?_⟩) HS.out ?_
        · (go_simp)
        simp only [Act.put, List.setIfInBounds_toArray, List.set_cons_zero, List.set_cons_succ]
        refine heldTake 6 (some 135) (.pointer (some ⟨q, 3, none⟩)) rfl rfl (by kernel_rfl) (by kernel_rfl) (by kernel_rfl) (fun _ _ _ h => h) (Or.inl ⟨by rfl, fun w hS => ?_⟩) HS.out ?_
        · (go_simp)
        simp only [Act.put, List.setIfInBounds_toArray, List.set_cons_zero, List.set_cons_succ]
        refine heldTake 7 (some 136) (.pointer (some ⟨h, 0, none⟩)) rfl rfl (by kernel_rfl) (by kernel_rfl) (by kernel_rfl) (fun _ _ _ h => h) (Or.inl ⟨by rfl, fun w hS => ?_⟩) HS.out ?_
        · (have p0 : _ = some (Value.pointer (some ⟨h, 0, none⟩)) := (cell_of_row w q 3 _ _ (0, 0) hS.rq).trans rfl; clear hS; go_simp)
        simp only [Act.put, List.setIfInBounds_toArray, List.set_cons_zero, List.set_cons_succ]
        refine heldTake 8 (some 137) (.pointer (some ⟨h, 0, none⟩)) rfl rfl (by kernel_rfl) (by kernel_rfl) (by kernel_rfl) (fun _ _ _ h => h) (Or.inl ⟨by rfl, fun w hS => ?_⟩) HS.out ?_
        · (go_simp)
        simp only [Act.put, List.setIfInBounds_toArray, List.set_cons_zero, List.set_cons_succ]
        refine heldTake 9 (some 138) (.pointer (some ⟨h, 2, none⟩)) rfl rfl (by kernel_rfl) (by kernel_rfl) (by kernel_rfl) (fun _ _ _ h => h) (Or.inl ⟨by rfl, fun w hS => ?_⟩) HS.out ?_
        · (go_simp)
        simp only [Act.put, List.setIfInBounds_toArray, List.set_cons_zero, List.set_cons_succ]
        refine heldTake 10 (some 139) (.agg #[.slice aP2 S.pgs.length cP2, .slice aF2 S.freed.length cF2, .slice aR2 4 cR2]) rfl rfl (by kernel_rfl) (by kernel_rfl) (by kernel_rfl) (fun _ _ _ h => h) (Or.inl ⟨by rfl, fun w hS => ?_⟩) HS.out ?_
        · (have p0 : _ = some (Value.slice aP2 S.pgs.length cP2) := (cell_of_row w h 2 _ _ (0, 0) hS.rh).trans (by rw [← HV.out.1]; rfl); have p1 : _ = some (Value.slice aF2 S.freed.length cF2) := (cell_of_row w h 3 _ _ (0, 0) hS.rh).trans (by rw [← HV.out.2.1]; rfl); have p2 : _ = some (Value.slice aR2 4 cR2) := (cell_of_row w h 4 _ _ (0, 0) hS.rh).trans (by rw [← HV.out.2.2]; rfl); clear hS; go_simp)
        simp only [Act.put, List.setIfInBounds_toArray, List.set_cons_zero, List.set_cons_succ]
        refine heldOne 11 (by kernel_rfl) rfl (by rfl) (fun KK hK => ?_)
        go_simp
        have HSM := rsame_any 0 0 _ _ _ _ _ _ S S w5.drew (HO5.out.1.below HDB.out) (by have := HP5.out.rc.st.below HDB.out; rw [HV.out.1, HV.out.2.1, HV.out.2.2] at this; exact this) hR1 hR2 hR3 hR1
        refine HSM.mono ?_
        rintro e w6 ⟨⟨qq, rfl, hqq⟩, hB6⟩
        have hqq := hqq rfl
        subst hqq
        have hB6' : Below w5.heap.size w5 w6 := HDB.out.trans hB6
        have HP6 := (show Hid _ from HP5.out.below hB6')
        have HS6 : Hid (PlR q h u (twA A tv h) (rdA cnt n v false mk sp) #[.slice aP S.pgs.length cP, .slice aF S.freed.length cF, .slice aR 4 cR] w6) := ⟨HP6.out.row, HP6.out.rc.row, (hB6'.block u (heap_lt HO5.out.2)).trans HO5.out.2⟩
        clear hB6 hB6' HSM HP5
        refine hK.out _ _ HS6.out ?_
        clear hK KK HS HDB HO5
        refine heldTake 12 (some 141) (.bool false) rfl rfl (by kernel_rfl) (by kernel_rfl) (by kernel_rfl) (fun _ _ _ h => h) (Or.inl ⟨by rfl, fun w hS => ?_⟩) HS6.out ?_
        · (go_simp)
        simp only [Act.put, List.setIfInBounds_toArray, List.set_cons_zero, List.set_cons_succ]
        refine heldTake 13 (some 142) (.bool false) rfl rfl (by kernel_rfl) (by kernel_rfl) (by kernel_rfl) (fun _ _ _ h => h) (Or.inl ⟨by rfl, fun w hS => ?_⟩) HS6.out ?_
        · (go_simp)
        simp only [Act.put, List.setIfInBounds_toArray, List.set_cons_zero, List.set_cons_succ]
        refine wpAnyH_done (by kernel_rfl) ?_ _
        have HFN : Hid (PS w w6 q h (8 * cnt + 4 + (i + 1) * (8 * cnt + n + 8)) cnt n) := HP6.out.ps (Nat.le_refl _)
        clear HP6 HS6 HV
        go_wp2
        go_roundw
        case rel => first | exact ⟨i + 1, by omega, by omega, by go_num, HFN.out⟩ | ((repeat apply Exists.intro); exact ⟨⟨i + 1, by omega, by omega, by go_num, HFN.out⟩, rfl⟩)
        case measure => (simp [intOf]) <;> omega
      · have HD : Hid (∀ k, PO w (w2.drewN k) q h A t bt v (8 * cnt + 4 + (i + 1) * (8 * cnt + n + 8)) d S T sp tm tb mk cnt n E) := fun k => hP.below (drewB w2 k)
        have HHI : Hid (d.st.high = S.pgs.length ∧ d.st.free = S.freed.length ∧ d.cnt = cnt ∧ chC tb mk = tm.length) := ⟨by rw [hP.g.inv.st]; rfl, by rw [hP.g.inv.st]; rfl, hP.geo.cnt, hP.trk.count hP.g.txi.up⟩
        have Q1 : Hid (∀ k, Calls Tryz.prog 11 #[.pointer (some ⟨A.x, 0, none⟩)] (w2.drewN k) fun e w' => e = .returned (.int .i64 (cnt : Int)) ∧ w' = w2.drewN k) := fun k => by have := dcount_any (A := A) (op := ptr t) (d := d) (w := w2.drewN k) (HD.out k).g.tx.db; rw [HHI.out.2.2.1] at this; exact this
        have Q2 : Hid (∀ k, Calls Tryz.prog 12 #[.pointer (some ⟨A.x, 0, none⟩)] (w2.drewN k) fun e w' => e = .returned (.int .i64 (S.pgs.length : Int)) ∧ w' = w2.drewN k) := fun k => by have := dhigh_any (A := A) (op := ptr t) (d := d) (w := w2.drewN k) (HD.out k).g.tx.db; rw [HHI.out.1] at this; exact this
        have Q3 : Hid (∀ k, Calls Tryz.prog 13 #[.pointer (some ⟨A.x, 0, none⟩)] (w2.drewN k) fun e w' => e = .returned (.int .i64 (S.freed.length : Int)) ∧ w' = w2.drewN k) := fun k => by have := dfree_any (A := A) (op := ptr t) (d := d) (w := w2.drewN k) (HD.out k).g.tx.db; rw [HHI.out.2.1] at this; exact this
        have Q4 : Hid (∀ k, Calls Tryz.prog 14 #[.pointer (some ⟨t, 0, none⟩)] (w2.drewN k) fun e w' => e = .returned (.int .i64 (tm.length : Int)) ∧ w' = w2.drewN k) := fun k => changed_any A t bt d ⟨T.stt, tm, sp⟩ _ (HD.out k).g.tx
        have Q5 : Hid (∀ k, Calls Tryz.prog 15 #[.pointer (some ⟨h, 0, none⟩)] (w2.drewN k) fun e w' => e = .returned (.int .i64 (tm.length : Int)) ∧ w' = w2.drewN k) := fun k => by have := rchanged_any (HD.out k).ro (by omega); rw [HHI.out.2.2.2] at this; exact this
        have Q6 : Hid (∀ k j, Calls Tryz.prog 16 #[.pointer (some ⟨t, 0, none⟩), .int .i64 j] (w2.drewN k) fun e w' => e = .returned (.int .i64 (rootV T.stt j : Int)) ∧ w' = w2.drewN k) := fun k j => groot j (HD.out k).g
        have Q7 : Hid (∀ k j, Calls Tryz.prog 17 #[.pointer (some ⟨h, 0, none⟩), .int .i64 j] (w2.drewN k) fun e w' => e = .returned (.int .i64 (rootV T.stt j : Int)) ∧ w' = w2.drewN k) := fun k j => rroot_any (HD.out k).ro j
        obtain ⟨aP, cP, hvP⟩ := own_slice hP.ro.st.pg
        obtain ⟨aF, cF, hvF⟩ := own_slice hP.ro.st.fr
        have r0 : w2.cell? ⟨q, 1, none⟩ = some (.pointer (some ⟨A.x, 0, none⟩)) := (cell_of_row w2 q 1 _ _ (0, 0) hP.row).trans rfl
        have r1 : w2.cell? ⟨q, 2, none⟩ = some (.pointer (some ⟨t, 0, none⟩)) := (cell_of_row w2 q 2 _ _ (0, 0) hP.row).trans rfl
        have r2 : w2.cell? ⟨q, 3, none⟩ = some (.pointer (some ⟨h, 0, none⟩)) := (cell_of_row w2 q 3 _ _ (0, 0) hP.row).trans rfl
        have r3 : w2.cell? ⟨h, 2, none⟩ = some (.slice aP S.pgs.length cP) := by rw [hP.ro.cell, ← hvP]; rfl
        have r4 : w2.cell? ⟨h, 3, none⟩ = some (.slice aF S.freed.length cF) := by rw [hP.ro.cell, ← hvF]; rfl
        clear hP hvP hvF
        go_wp2_with fail
        go_quiet (first | (go_at_call 11; exact Calls.quiet_of_same (Q1.out _)) | (go_at_call 12; exact Calls.quiet_of_same (Q2.out _)) | (go_at_call 13; exact Calls.quiet_of_same (Q3.out _)) | (go_at_call 14; exact Calls.quiet_of_same (Q4.out _)) | (go_at_call 15; exact Calls.quiet_of_same (Q5.out _)) | (go_at_call 16; exact Calls.quiet_of_same (Q6.out _ _)) | (go_at_call 17; exact Calls.quiet_of_same (Q7.out _ _)))
        have HP3 := (show Hid _ from HD.out nq)
        generalize w2.drewN nq = w3 at *
        clear HD Q1 Q2 Q3 Q4 Q5 Q6 Q7 r0 r1 r2 r3 r4 HHI
        have r2 : w3.cell? ⟨q, 3, none⟩ = some (.pointer (some ⟨h, 0, none⟩)) := (cell_of_row w3 q 3 _ _ (0, 0) HP3.out.row).trans rfl
        have r5 := HP3.out.ro.c5
        have HFN : Hid (PS w w3 q h (8 * cnt + 4 + (i + 1) * (8 * cnt + n + 8)) cnt n) := HP3.out.ps (Nat.le_refl _)
        clear HP3
        go_wp2
        go_roundw
        case rel => first | exact ⟨i + 1, by omega, by omega, by go_num, HFN.out⟩ | ((repeat apply Exists.intro); exact ⟨⟨i + 1, by omega, by omega, by go_num, HFN.out⟩, rfl⟩)
        case measure => (simp [intOf]) <;> omega
    · have HPr2 : Hid (Below w.heap.size w wr ∧ Tab wr) := HPr.out.bel
      clear HPr
      have HWK := works_any wr HPr2.out.2
      by_cases hl1 : i < len
      · have q1 : decide ((i : Int) < (len : Int)) = true := decide_eq_true (by omega)
        have q2 : decide ((i : Int) < 50) = false := decide_eq_false (by omega)
        have q3 : ¬ i < 50 := by omega
        clear hin
        go_wp2_with fail
        refine HWK.mono ?_
        rintro e w9 ⟨rfl, hB9⟩
        have HFN : Hid (Below w.heap.size w w9) := HPr2.out.1.trans (hB9.mono HPr2.out.1.size)
        clear hB9 HWK HPr2
        go_wp2
        go_ret
        exact ⟨rfl, HFN.out⟩
      · have q1 : decide ((i : Int) < (len : Int)) = false := decide_eq_false (by omega)
        clear hin
        go_wp2_with fail
        refine HWK.mono ?_
        rintro e w9 ⟨rfl, hB9⟩
        have HFN : Hid (Below w.heap.size w w9) := HPr2.out.1.trans (hB9.mono HPr2.out.1.size)
        clear hB9 HWK HPr2
        go_wp2
        go_ret
        exact ⟨rfl, HFN.out⟩

end Go.Proofs.YtcfninpokngmlaaGreatDoor
