/- Proved: what made, ready, lose, Room, Waiting, Epoch, Records and Drop of a log answer, and make of it; and of logs that Open did not make. -/
import Derived.Test.YtcfninpokngmlaaGreatDoorPLog
import Derived.Test.YtcfninpokngmlaaGreatDoorPClone
import Derived.BigQuiet
namespace Go.Proofs.YtcfninpokngmlaaGreatDoor
open Go.RowKit
section
variable {w : World} {q g : Nat} {vr vw : Value} {l : Wl.Lg}
theorem Pk.wval (H : Pk w q g vr vw l) : ∃ a cap, vw = .slice a l.wait.length cap := by
  obtain ⟨a, c, h, _⟩ := own_strs H.wait
  exact ⟨a, c, h⟩
theorem Pk.wlen (H : Pk w q g vr vw l) : l.wait.length ≤ 4194304 := by
  have h1 := Wl.total_count l.wait
  have h2 := H.ok.room
  have h3 := H.ok.most
  omega
theorem Pk.rlen (H : Pk w q g vr vw l) : l.recs.length ≤ 4194304 := by
  have h1 := Wl.total_count l.recs
  have h2 := H.ok.room
  have h3 := H.ok.most
  have h4 := H.ok.is.1
  have h5 := congrArg ByteArray.size h4
  rw [Wl.frames_size] at h5
  omega
end
set_option maxHeartbeats 400000 in
theorem lmade_yes (q g : Nat) (vr vw : Value) (l : Wl.Lg) (w : World) (H : Pk w q g vr vw l) :
    Calls Tryz.prog 100 #[ptr q] w fun e w' => e = .returned (.bool true) ∧ w' = w := by
  have c0 := H.c0
  clear H
  go_enter Tryz.func100, Tryz.ntmps100
  go_wp2
  go_ret
  exact ⟨rfl, rfl⟩
set_option maxHeartbeats 400000 in
theorem lost_any (q g : Nat) (vr vw : Value) (l : Wl.Lg) (w : World) (H : Pk w q g vr vw l) :
    Calls Tryz.prog 130 #[ptr q] w fun e w' => e = .returned (.bool l.lost) ∧ w' = w := by
  have c8 := H.c8
  clear H
  go_enter Tryz.func130, Tryz.ntmps130
  go_wp2
  go_ret
  exact ⟨rfl, rfl⟩
def lreadyE (l : Wl.Lg) : Int := if l.lost = true then 10 else 0
set_option maxHeartbeats 400000 in
theorem lready_any (q g : Nat) (vr vw : Value) (l : Wl.Lg) (w : World) (H : Pk w q g vr vw l) :
    Calls Tryz.prog 109 #[ptr q] w fun e w' => e = .returned (.int .i64 (lreadyE l)) ∧ w' = w := by
  have HM := lmade_yes q g vr vw l w H
  have HL := lost_any q g vr vw l w H
  unfold lreadyE
  clear H
  cases hl : l.lost
  · rw [hl] at HL
    go_enter Tryz.func109, Tryz.ntmps109
    go_wp2_with (first | (go_at_call 100; refine HM.mono ?_; rintro e w' ⟨rfl, rfl⟩) | (go_at_call 130; refine HL.mono ?_; rintro e w' ⟨rfl, rfl⟩))
    go_ret
    exact ⟨rfl, rfl⟩
  · rw [hl] at HL
    go_enter Tryz.func109, Tryz.ntmps109
    go_wp2_with (first | (go_at_call 100; refine HM.mono ?_; rintro e w' ⟨rfl, rfl⟩) | (go_at_call 130; refine HL.mono ?_; rintro e w' ⟨rfl, rfl⟩))
    go_ret
    exact ⟨rfl, rfl⟩
set_option maxHeartbeats 400000 in
theorem lose_any (q g : Nat) (vr vw : Value) (l : Wl.Lg) (e : Int) (w : World) (H : Pk w q g vr vw l) (he : e ≠ 0) :
    Calls Tryz.prog 111 #[ptr q, .int .i64 e] w (PDoes w q g vr vw (Wl.lose l e) e) := by
  have c8 := H.c8
  have f8 := H.fz 8
  have e1 : Wl.lose l e = { l with lost := true } := by unfold Wl.lose; rw [if_neg he]
  have ok : (Wl.lose l e).Ok := Wl.lose_ok H.ok e
  rw [e1] at ok ⊢
  have HN := (show Hid (Pk (w.setCell ⟨q, 8, none⟩ (.bool true)) q g vr vw { l with lost := true } ∧ Turn (pfoot q vr vw) (pfoot q vr vw) w (w.setCell ⟨q, 8, none⟩ (.bool true))) from H.setSame 8 (.bool true) (l' := { l with lost := true }) rfl rfl rfl ok)
  clear H ok e1 he
  go_enter Tryz.func111, Tryz.ntmps111
  go_wp2
  go_ret
  exact ⟨_, _, rfl, HN.out⟩
theorem room_num (n b t : Nat) (h2 : 2 ≤ n) (hm : n ≤ 65536) (h : b + t ≤ 64 * (n - 1)) : (0 : Int) ≤ 64 * ((n : Int) - 1) - b - t ∧ 64 * ((n : Int) - 1) - b - t ≤ 4194304 := by omega
set_option maxHeartbeats 1000000 in
theorem lroom_any (q g : Nat) (vr vw : Value) (l : Wl.Lg) (w : World) (H : Pk w q g vr vw l) :
    Calls Tryz.prog 92 #[ptr q] w fun e w' => e = .returned (.int .i64 (Wl.room l)) ∧ ∃ n, w' = w.drewN n := by
  have c2 := H.c2
  have c4 := H.c4
  have c7 := H.c7
  have HM := lmade_yes q g vr vw l w H
  have hrn := room_num l.n l.bytes.size (Wl.total l.wait) H.ok.two (by have := H.ok.most; omega) H.ok.room
  have h2 := H.ok.two
  have hm := H.ok.most
  have HRM : Hid (Wl.room l = 64 * ((l.n : Int) - 1) - (l.bytes.size : Int) - (Wl.total l.wait : Int)) := rfl
  have hb : l.bytes.size ≤ 4194304 := by have := H.ok.room; omega
  have ht : Wl.total l.wait ≤ 4194304 := by have := H.ok.room; omega
  clear H
  generalize Wl.total l.wait = t at *
  generalize l.bytes.size = b at *
  go_enter Tryz.func92, Tryz.ntmps92
  go_wp2_with (go_at_call 100; refine HM.mono ?_; rintro e w' ⟨rfl, rfl⟩)
  go_quiet (fail)
  generalize hr : 64 * ((l.n : Int) - 1) - (b : Int) - (t : Int) = r at *
  go_wp2
  go_ret
  exact ⟨by rw [HRM.out]; rfl, _, rfl⟩
set_option maxHeartbeats 400000 in
theorem lrecords_any (q g : Nat) (vr vw : Value) (l : Wl.Lg) (w : World) (H : Pk w q g vr vw l) :
    Calls Tryz.prog 74 #[ptr q] w fun e w' => ∃ u, e = .returned u ∧ OwnS w' w.heap.size u l.recs ∧ Below w.heap.size w w' := by
  have c5 := H.c5
  have HM := lmade_yes q g vr vw l w H
  have HC := clone_any vr l.recs w H.recs (by have := Wl.total_count l.recs; have h2 := H.ok.room; have h3 := H.ok.most; have h4 := congrArg ByteArray.size H.ok.is.1; rw [Wl.frames_size] at h4; omega)
  clear H
  go_enter Tryz.func74, Tryz.ntmps74
  go_wp2_with fail
  refine HM.mono ?_
  rintro e w' ⟨rfl, hw⟩
  rw [hw]
  clear hw w'
  go_wp2_with fail
  refine HC.mono ?_
  rintro e w' ⟨u, rfl, hO, hB⟩
  have HO := (show Hid (OwnS w' w.heap.size u l.recs) from hO)
  clear hO
  go_wp2
  go_ret
  exact ⟨_, rfl, HO.out, hB⟩
def dropL (l : Wl.Lg) : Wl.Lg := { l with wait := [] }
theorem dropL_ok {l : Wl.Lg} (h : l.Ok) : (dropL l).Ok := ⟨h.two, h.most, h.epoch, h.is, (by intro r hr; cases hr), by have := h.room; show l.bytes.size + Wl.total [] ≤ 64 * (l.n - 1); rw [Wl.total]; omega⟩
theorem Pk.dropped {w : World} {q g : Nat} {vr vw : Value} {l : Wl.Lg} (H : Pk w q g vr vw l) : Pk ((w.setCell ⟨q, 6, none⟩ (.slice none 0 0)).setCell ⟨q, 7, none⟩ (.int .i64 0)) q g vr (.slice none 0 0) (dropL l) ∧ Turn (pfoot q vr vw) (pfoot q vr (.slice none 0 0)) w ((w.setCell ⟨q, 6, none⟩ (.slice none 0 0)).setCell ⟨q, 7, none⟩ (.int .i64 0)) := by
  have hC : Chg [q] w ((w.setCell ⟨q, 6, none⟩ (.slice none 0 0)).setCell ⟨q, 7, none⟩ (.int .i64 0)) := (Chg.setCell _ q 6 _).trans (Chg.setCell _ q 7 _)
  refine ⟨⟨?_, own_keep H.recs (fun k hk => hC.block k (H.lt k (by simp [pfoot, hk])) (fun e => H.hr (by rw [hk, List.mem_singleton.1 e]))), own_nil _, H.hr, (by intro e; cases e), (by intro k _ e; cases e), dropL_ok H.ok⟩, ⟨hC.mono (fun k hk => by rw [List.mem_singleton.1 hk]; simp [pfoot]), fun k hk => .inl ?_⟩⟩
  · rw [heap_setCell_same _ q 7 _ _ _ (heap_setCell_same w q 6 _ _ _ H.row)]
    rfl
  · simp only [pfoot, List.mem_cons, List.mem_append, Option.mem_toList] at hk ⊢
    rcases hk with h1 | h1 | h1
    · exact .inl h1
    · exact .inr (.inl h1)
    · cases h1
set_option maxHeartbeats 400000 in
theorem ldrop_any (q g : Nat) (vr vw : Value) (l : Wl.Lg) (w : World) (H : Pk w q g vr vw l) :
    Calls Tryz.prog 121 #[ptr q] w fun e w' => e = .returned (.tuple #[]) ∧ Pk w' q g vr (.slice none 0 0) (dropL l) ∧ Turn (pfoot q vr vw) (pfoot q vr (.slice none 0 0)) w w' := by
  have c6 := H.c6
  have c7 := H.c7
  have f6 := H.fz 6
  have f7 := H.fz 7
  have HM := lmade_yes q g vr vw l w H
  have HN := (show Hid _ from H.dropped)
  clear H
  go_enter Tryz.func121, Tryz.ntmps121
  go_wp2_with (go_at_call 100; refine HM.mono ?_; rintro e w' ⟨rfl, rfl⟩)
  go_end0
  exact ⟨rfl, HN.out⟩
end Go.Proofs.YtcfninpokngmlaaGreatDoor
