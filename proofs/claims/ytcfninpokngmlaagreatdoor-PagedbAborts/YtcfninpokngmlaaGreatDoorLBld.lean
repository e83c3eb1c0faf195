/- Proved: what the laws' helper build makes of a database. -/
import Derived.Test.YtcfninpokngmlaaGreatDoorLChg
namespace Go.Proofs.YtcfninpokngmlaaGreatDoor
open Go.RowKit
theorem Acts.at {W w : World} {a : Option Addr} {len k : Nat} (h : Acts W a len) (hB : Below W.heap.size W w) (hk : k < len) : ∃ b off, a = some ⟨b, off, none⟩ ∧ ∃ x : Actv, x.Fits W ∧ w.cell? ⟨b, off + k * 5, none⟩ = some (.int .i64 x.kind) ∧ w.cell? ⟨b, off + k * 5 + 1, none⟩ = some (.int .i64 x.id) ∧ w.cell? ⟨b, off + k * 5 + 2, none⟩ = some (.int .i64 x.kd) ∧ w.cell? ⟨b, off + k * 5 + 3, none⟩ = some (.string x.s) ∧ w.cell? ⟨b, off + k * 5 + 4, none⟩ = some (.slice x.ka x.kl x.kc) := by
  rcases h with h | ⟨b, off, rfl, h⟩
  · omega
  · obtain ⟨x, hx, hr⟩ := h k hk
    have hc : ∀ j u, x.cells.toList[j]? = some u → w.cell? ⟨b, off + k * 5 + j, none⟩ = some u := fun j u hu => by
      have h1 := hr j u hu
      exact (hB.cell (p := ⟨b, off + k * 5 + j, none⟩) (block_lt_of_cell h1)).trans h1
    exact ⟨b, off, rfl, x, hx, hc 0 _ rfl, hc 1 _ rfl, hc 2 _ rfl, hc 3 _ rfl, hc 4 _ rfl⟩
theorem Turn.less {fs gs hs : List Nat} {w w' : World} (h : Turn fs gs w w') (hs' : ∀ k ∈ hs, k ∈ gs) : Turn fs hs w w' := ⟨h.chg, fun k hk => h.grow k (hs' k hk)⟩
/- a database on the way, from world w on -/
structure GB (W w wr : World) (A : Ad) (K : Nat) (d : Pd.Db) (A' : Ad) (d' : Pd.Db) (S' : Pd.Ab) : Prop where
  gd : GD W wr A' K d' S'
  kin : Pd.Kin d d'
  turn : Turn A.ft A'.ft w wr
  to : ∃ vr vw vp, A' = A.to vr vw vp
theorem kin_trans {d d' d'' : Pd.Db} (h : Pd.Kin d d') (k : Pd.Kin d' d'') : Pd.Kin d d'' := ⟨k.n.trans h.n, k.cnt.trans h.cnt, k.len.trans h.len, fun e => k.left (h.left e)⟩
section
variable {W w w' : World} {A : Ad} {t bt K : Nat} {d : Pd.Db} {S T : Pd.Ab} {sp : Bool} {tm : Pd.Mp}
set_option maxHeartbeats 8000000 in
set_option maxRecDepth 20000 in
theorem build_any (a : Option Addr) (len cap most : Nat) (hA : Acts W a len) (hlc : len ≤ cap) (hcm : cap ≤ 9223372036854775807) (hm : most ≤ 1000) (G : GD W w A K d S) (hl : d.s.left = -1) (C : Nat) (hC : C = 8 * d.cnt + d.n + 8) (hK : K + most * C ≤ 60000) (hn : d.n ≤ 10000) :
    Calls Tryz.prog 34 #[ptr A.x, .slice a len cap, .int .i64 (most : Int)] w fun e w' => e = .returned (.bool true) ∧ ∃ A' d' S', GB W w w' A (K + most * C) d A' d' S' := by
  have HAC : Hid (Acts W a len) := hA
  have HG0 : Hid (GB W w w A K d A d S) := ⟨G, Pd.Kin.refl d, Turn.refl _ _, A.vr, A.vw, A.vp, rfl⟩
  have HL : Hid (d.s.left = -1) := hl
  have HCC : Hid (C = 8 * d.cnt + d.n + 8) := hC
  have HAX : Hid (∀ A' : Ad, (∃ vr vw vp, A' = A.to vr vw vp) → A'.x = A.x) := by rintro A' ⟨_, _, _, rfl⟩; rfl
  clear hA G hl hC
  unfold ptr
  go_enter Tryz.func34, Tryz.ntmps34
  go_wp2_with fail
  go_loopw [7, 8, 9, 10] (fun s7 _ _ _ wr => ∃ (j : Nat) (A' : Ad) (d' : Pd.Db) (S' : Pd.Ab), j ≤ most ∧ j ≤ len ∧ s7 = .int .i64 (j : Int) ∧ GB W w wr A (K + j * C) d A' d' S') (fun s7 _ _ _ _ => most - (intOf s7).toNat)
  case atStart => exact ⟨0, A, d, S, by omega, by omega, rfl, by rw [Nat.zero_mul]; exact HG0.out⟩
  case round =>
    clear HG0
    obtain ⟨j, A', d', S', hj, hjl, rfl, hB⟩ := hrel
    have HB : Hid (GB W w wr A (K + j * C) d A' d' S') := hB
    have hax : A'.x = A.x := HAX.out A' hB.to
    clear hB
    by_cases hin : j < len ∧ j < most
    · obtain ⟨hl1, hl2⟩ := hin
      have d1 : decide ((j : Int) < (len : Int)) = true := decide_eq_true (by omega)
      have d2 : decide ((j : Int) < (most : Int)) = true := decide_eq_true (by omega)
      have k0 : (0 : Int) ≤ (j : Int) := by omega
      have k1 : (j : Int) < (len : Int) := by omega
      have HBE := gbegin HB.out.gd
      rw [hax] at HBE
      go_wp2_with fail
      refine HBE.mono ?_
      rintro e w1 ⟨t, bt, rfl, hG1, hT1⟩
      have HG1 : Hid (GT W w1 A' t bt (K + j * C) d' S' S' false []) := hG1
      have HT1 : Hid (Turn A.ft (tft A' t bt) w w1) := HB.out.turn.trans hT1
      clear hG1 hT1 HBE
      obtain ⟨b, off, rfl, x, hx, c0, c1, c2, c3, c4⟩ := HAC.out.at HG1.out.bel hl1
      obtain ⟨xk, xi, xd, xs, ka, kl, kc, xm⟩ := x
      have HCH := change_any xk xi xd xs (.slice ka kl kc) hx.s HG1.out
      clear hx
      simp only at c0 c1 c2 c3 c4
      unfold actV at HCH
      go_wp2_with fail
      refine HCH.mono ?_
      rintro e w2 ⟨rfl, ⟨tm2, hG2⟩, hT2⟩
      have HG2 : Hid (GT W w2 A' t bt (K + j * C) d' S' _ false tm2) := hG2
      have HT2 : Hid (Turn A.ft (tft A' t bt) w w2) := HT1.out.trans hT2
      clear hG2 hT2 HCH HG1 HT1 c0 c1 c2 c3 c4
      have hjC : j * C + C ≤ most * C := by
        have := Nat.mul_le_mul_right C (show j + 1 ≤ most by omega)
        rw [Nat.add_mul, Nat.one_mul] at this
        exact this
      have HCO := gcommit1 HG2.out (by omega) (by rw [HB.out.kin.n]; exact hn) (HB.out.kin.left HL.out)
      have HFN : Hid (∀ (E : Int) (S2 : Pd.Ab) (r : Ending) (w3 : World), ComDone W w2 A' t bt (K + j * C) d' S2 E r w3 → r = .returned (.int .i64 E) ∧ ∃ (j' : Nat) (A' : Ad) (d' : Pd.Db) (S' : Pd.Ab), j' ≤ most ∧ j' ≤ len ∧ Value.int .i64 ((j : Int) + 1) = .int .i64 (j' : Int) ∧ GB W w w3 A (K + j' * C) d A' d' S') := by
        rintro E S2 r w3 ⟨rfl, vr, vw, vp, d3, hG3, hk3, _, hT3⟩
        refine ⟨rfl, j + 1, A'.to vr vw vp, d3, S2, by omega, by omega, by go_num, ?_, kin_trans HB.out.kin hk3, (HT2.out.trans hT3).less (fun k hk => tft_a hk), ?_⟩
        · have e : K + (j + 1) * C = K + j * C + 8 * d'.cnt + d'.n + 8 := by rw [HB.out.kin.cnt, HB.out.kin.n, Nat.add_mul, Nat.one_mul, HCC.out]; omega
          rw [e]
          exact hG3
        · obtain ⟨r1, r2, r3, hto⟩ := HB.out.to
          exact ⟨vr, vw, vp, by rw [hto]; rfl⟩
      generalize comA _ _ _ _ _ = S2 at *
      have HE : Hid (comE d'.n false tm2 = 0 ∨ comE d'.n false tm2 = 7) := by
        unfold comE
        rw [if_neg (by decide)]
        split
        · exact .inr rfl
        · exact .inl rfl
      generalize comE d'.n false tm2 = E at *
      clear HB HG2 HT2 hjC
      rcases HE.out with rfl | rfl
      · clear HE
        go_wp2_with fail
        refine HCO.mono ?_
        intro r w3 hD
        obtain ⟨rfl, hF⟩ := HFN.out _ _ _ _ hD
        have HF := (show Hid _ from hF)
        clear hF hD HCO HFN
        go_wp2
        go_roundw
        case rel =>
          obtain ⟨j', A3, d3, S3, h1, h2, h3, h4⟩ := HF.out
          exact ⟨j', A3, d3, S3, h1, h2, h3, h4⟩
        case measure => (simp [intOf]) <;> omega
      · clear HE
        go_wp2_with fail
        refine HCO.mono ?_
        intro r w3 hD
        obtain ⟨rfl, hF⟩ := HFN.out _ _ _ _ hD
        have HF := (show Hid _ from hF)
        clear hF hD HCO HFN
        go_wp2
        go_roundw
        case rel =>
          obtain ⟨j', A3, d3, S3, h1, h2, h3, h4⟩ := HF.out
          exact ⟨j', A3, d3, S3, h1, h2, h3, h4⟩
        case measure => (simp [intOf]) <;> omega
    · have HFN : Hid (∃ A' d' S', GB W w wr A (K + most * C) d A' d' S') := ⟨A', d', S', ⟨HB.out.gd.db, HB.out.gd.inv.up (by have := Nat.mul_le_mul_right C hj; omega), HB.out.gd.bel, HB.out.gd.new⟩, HB.out.kin, HB.out.turn, HB.out.to⟩
      by_cases hl1 : j < len
      · have d1 : decide ((j : Int) < (len : Int)) = true := decide_eq_true (by omega)
        have d2 : decide ((j : Int) < (most : Int)) = false := decide_eq_false (by omega)
        go_wp2
        go_ret
        exact ⟨rfl, HFN.out⟩
      · have d1 : decide ((j : Int) < (len : Int)) = false := decide_eq_false (by omega)
        go_wp2
        go_ret
        exact ⟨rfl, HFN.out⟩
end
end Go.Proofs.YtcfninpokngmlaaGreatDoor
