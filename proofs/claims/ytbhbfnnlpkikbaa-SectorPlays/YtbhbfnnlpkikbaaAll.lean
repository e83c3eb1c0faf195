/- Proved: what the laws' helpers all and fill answer. -/
import Derived.Test.YtbhbfnnlpkikbaaFrame
import Derived.Test.YtbhbfnnlpkikbaaLive
import Derived.Laws.OwnMore
namespace Go.Proofs.Ytbhbfnnlpkikbaa
open Go.RowKit
theorem info9 : Try.prog.info? 9 = some Try.t9 := by kernel_rfl
theorem own_below {w w' : World} {N n : Nat} {v : Value} {vs : List Value} {e : TypeId} {k : Nat} (h : w.ownsRow N e k v n vs) (hb : Below w.heap.size w w') : w'.ownsRow N e k v n vs := own_keep h (fun k hk => hb.block k (h.lt k hk).2)
theorem str_new (w : World) (s : ByteArray) : ∀ j u, [Value.string s][j]? = some u → (w.alloc (.cells #[.string s] 9)).cell? ((⟨w.heap.size, 0, none⟩ : Addr).add j) = some u := fun j u hj => by
  rw [Addr.add_mid]
  exact range_all (cs := [.string s]) (heap_alloc_new w _) j u hj
/- one text behind a list of the call's own -/
theorem append_str {ops : Array Oper} {rest : List Oper} {o : Oper} {a : Go.Act} {Q : Exit → Go.Act → World → Prop} (hgd : o.guard = none) (s x : Operand)
    (ho : o.op = .call { callee := .builtin .append, args := #[s, x], argTypes := #[35, 35] }) (W : World) (N : Nat) (v : Value) (n : Nat) (vs : List Value) (hs : a.eval s = v) (hown : W.ownsRow N 9 1 v n vs)
    (ad : Addr) (c : Nat) (t : ByteArray) (hx : a.eval x = .slice (some ad) 1 c) (hnews : ∀ j u, [Value.string t][j]? = some u → W.cell? (ad.add j) = some u) (hb : n + 1 ≤ 100000) (hN : N ≤ W.heap.size)
    (h : ∀ v' w', w'.ownsRow N 9 1 v' (n + 1) (vs ++ [.string t]) → Below N W w' → wpList Try.prog ops Q rest (a.put o.dst v') w') : wpList Try.prog ops Q (o :: rest) a W := by
  obtain ⟨v', w', hr, h2, h3, h4, h5⟩ := run_append_own_at (P := Try.prog) W N 35 o.type 9 Try.t9 (.string ByteArray.empty) 1 16 Try.underlying35 info9 rfl rfl rfl rfl (by omega) v n vs hown ad 1 c [.string t] rfl hnews (fun u hu => by rw [List.mem_singleton.1 hu]; rfl) (by unfold maxLen; omega) (by omega) hN
  refine wpList_plain hgd fun K hK => ?_
  unfold Oper.wp execOp
  simp only [ho, resolve, invoke, builtin, Sem.run_bind, Sem.run_pure, Result.andThen_ok, List.map_toArray, List.map_cons, List.map_nil, hs, hx, hr]
  exact hK _ _ (h v' w' h2 ((Below.refl _ _).grown h3 hN (fun k hk => (hown.lt k hk).1)))
/- what all sectors have, as cells -/
def allV (s : Sc.St) (n : Nat) : List Value := (List.range n).map fun (i : Nat) => .string (Sc.readV s (i : Int))
theorem allV_next (s : Sc.St) (n : Nat) : allV s (n + 1) = allV s n ++ [.string (Sc.readV s (n : Int))] := by
  unfold allV
  rw [List.range_succ, List.map_append]
  rfl
set_option maxHeartbeats 2000000 in
set_option maxRecDepth 20000 in
theorem all_any (g kg : Nat) (v : Value) (s : Sc.St) (w : World) (H : Dk w g kg v s) :
    Calls Try.prog 24 #[ptr g] w fun e w' => ∃ u, e = .returned u ∧ w'.ownsRow w.heap.size 9 1 u s.kept.length (allV s s.kept.length) ∧ Below w.heap.size w w' := by
  have HH : Hid (Dk w g kg v s) := H
  have HSZ := size_any g kg v s w H
  have hm := H.ok.most
  clear H
  go_enter Try.func24, Try.ntmps24
  go_wp2_with (go_at_call 14; refine HSZ.mono ?_; rintro e w' ⟨rfl, rfl⟩)
  clear HSZ
  go_loopw [3, 9] (fun s3 s9 wr => ∃ k : Nat, k ≤ s.kept.length ∧ s9 = .int .i64 (k : Int) ∧ wr.ownsRow w'.heap.size 9 1 s3 k (allV s k) ∧ Below w'.heap.size w' wr) (fun _ s9 _ => s.kept.length - (intOf s9).toNat)
  case atStart => exact ⟨0, by omega, rfl, World.ownsRow_nil _ _ _ _, Below.refl _ _⟩
  case round =>
    obtain ⟨k, hk, rfl, hO, hB⟩ := hrel
    have HO := (show Hid (wr.ownsRow w'.heap.size 9 1 _ k (allV s k)) from hO)
    have HB : Hid (Below w'.heap.size w' wr) := hB
    have hsz := hB.size
    clear hO hB
    by_cases hkl : k < s.kept.length
    · have dk : decide ((k : Int) < (s.kept.length : Int)) = true := by simp; omega
      have HD : Hid (Dk wr g kg v s) := HH.out.below HB.out
      go_wp2_with (first | (go_at_call 15; refine (read_any g kg v s (k : Int) wr HD.out).mono ?_; rintro e w2 ⟨rfl, hB2⟩; have HO2 := (show Hid (w2.ownsRow w'.heap.size 9 1 _ k (allV s k)) from own_below HO.out hB2); have HB2 : Hid (Below w'.heap.size w' w2) := HB.out.trans (hB2.mono hsz); have hs2 := HB2.out.size; clear hB2) | (refine append_str rfl (.tmp 18) (.tmp 20) rfl _ w'.heap.size _ k _ rfl (HO2.out.alloc _) ⟨w2.heap.size, 0, none⟩ 1 (Sc.readV s (k : Int)) rfl (str_new _ _) (by omega) (by simp; omega) ?_; intro v3 w3 hO3 hB3))
      rw [← allV_next] at hO3
      have HFN : ∃ k' : Nat, k' ≤ s.kept.length ∧ Value.int .i64 ((k : Int) + 1) = .int .i64 (k' : Int) ∧ w3.ownsRow w'.heap.size 9 1 v3 k' (allV s k') ∧ Below w'.heap.size w' w3 := ⟨k + 1, by omega, by go_num, hO3, (HB2.out.alloc hs2 _).trans hB3⟩
      clear hO3 hB3
      go_wp2_with fail
      go_roundw
      case rel => first | exact HFN | ((repeat apply Exists.intro); exact ⟨HFN, rfl⟩)
      case measure => (simp [intOf]) <;> omega
    · obtain rfl : k = s.kept.length := by omega
      go_wp2
      go_ret
      exact ⟨_, rfl, HO.out, HB.out⟩
theorem made64 : (madeCells (Value.int .u8 0).cells (64 * 1)).toList = bc Sc.zero64 := by
  show (madeCells #[Value.int .u8 0] 64).toList = _
  rw [toList_madeCells_one]
  unfold bc
  rw [zero64_list, List.map_replicate]
  rfl
theorem splice_txt (x : ByteArray) : splice (bc Sc.zero64) 0 (bc x) = bc (Sc.fill x) := by
  unfold splice bc
  rw [Sc.fill_list, zero64_list, List.length_map, ← Sc.size_eq, Nat.zero_add, ← List.map_drop, List.drop_replicate, List.map_append, List.take_zero]
  rfl
theorem info5 : Try.prog.info? 5 = some Try.t5 := by kernel_rfl
structure Filled (w w1 : World) (x : ByteArray) : Prop where
  row : w1.heap[w.heap.size]? = some (.cells (bc Sc.zero64).toArray 5 (0, 0))
  cv : (convert 69 9 (.slice (some ⟨w.heap.size, 0, none⟩) 64 64)).run Try.prog (w1.setCells w.heap.size 0 (bc x)) = .ok (.string (Sc.fill x)) (w1.setCells w.heap.size 0 (bc x))
  bel : Below w.heap.size w (w1.setCells w.heap.size 0 (bc x))
theorem filled_of {w w1 : World} {x : ByteArray} (hx : x.size ≤ 64) (hO : w1.ownsRow w.heap.size 5 1 (.slice (some ⟨w.heap.size, 0, none⟩) 64 64) 64 (madeCells (Value.int .u8 0).cells (64 * 1)).toList) (hG : w.grownBy w1 none) : Filled w w1 x := by
  have hrow : w1.heap[w.heap.size]? = some (.cells (bc Sc.zero64).toArray 5 (0, 0)) := by
    rw [made64] at hO
    rcases hO.2 with ⟨h, _⟩ | ⟨g, cap, cur, hv, _, hh, hc, _, hs, ht⟩
    · cases h
    · obtain ⟨h1, _, h3⟩ := Value.slice.inj hv
      have h1 : w.heap.size = g := by simpa using h1
      subst h1
      subst h3
      rw [hh, ← ht, List.take_of_length_le (by rw [Array.length_toList]; omega)]
  have HB1 : Below w.heap.size w w1 := ⟨hG.os, hG.tape, hG.output, hG.size, fun k hk => hG.block k hk (by simp)⟩
  have hw2 := setCells_splice w.heap.size 5 (bc x) 0 (bc Sc.zero64) w1 hrow (by rw [bc_length, bc_length, Sc.zero64_size]; omega)
  rw [splice_txt] at hw2
  refine ⟨hrow, ?_, below_setCells (Nat.le_refl _) _ _ _ HB1⟩
  have := str_of (x := Sc.fill x) (range_all hw2) 64
  rwa [Sc.fill_size hx] at this
theorem size64 : (bc Sc.zero64).toArray.size = 64 := by rw [List.size_toArray, bc_length]; exact Sc.zero64_size
set_option maxHeartbeats 2000000 in
set_option maxRecDepth 20000 in
theorem fill_any (x : ByteArray) (w : World) (hx : x.size ≤ 64) :
    Calls Try.prog 25 #[.string x] w fun e w' => e = .returned (.string (Sc.fill x)) ∧ Below w.heap.size w w' := by
  go_enter Try.func25, Try.ntmps25
  go_wp2_with (first | (at_make; refine wpList_make_full w rfl _ _ 69 rfl w.heap.size 5 Try.t5 (.int .u8 0) 1 Try.underlying69 info5 rfl rfl _ _ _ _ 64 rfl rfl rfl rfl (by decide) (by unfold maxLen; omega) (Nat.le_refl _) ?_; intro w1 hO1 hG1; have HF : Hid (Filled w w1 x) := filled_of hx hO1 hG1; clear hO1 hG1) | (refine copy_str rfl _ _ 69 9 rfl 5 Try.underlying69 size_u8 _ 0 64 64 rfl x rfl hx (there_row HF.out.row (by rw [size64]; omega)) ?_; have hcv := HF.out.cv))
  go_ret
  exact ⟨rfl, HF.out.bel⟩
end Go.Proofs.Ytbhbfnnlpkikbaa
