/- Proved: fieldsIn's function goes through the fields that the bytes hold, and ends with false where they are none. -/
import Derived.Test.YtpbobmhffdmmmaaRng
import Derived.Test.YtpbobmhffdmmmaaEnc
namespace Go.Proofs.Ytpbobmhffdmmmaa
open Go.RowKit Go.Shelf
attribute [local go_sem] Oper.semAt_some
/- a field without fault at the front of bytes -/
def Front (bs : List Nat) (f : Fv) (rest : List Nat) : Prop := Good f ∧ bs = Fi.fb (fd f) ++ rest
theorem front_of {h : Nat} {bs : List Nat} {f : Fv} {rest : List Nat} (h8 : ∀ x ∈ h :: bs, x < 256) (hf : FieldR h bs f rest) : Front (h :: bs) f rest := by
  obtain ⟨t1, t2, f0, hh, rfl⟩ := hf
  rcases hh with ⟨hp, n, rfl, hn⟩ | ⟨hp, n, r, hn, h4, hr, rfl, rfl⟩
  · refine ⟨⟨by show (1 : Int) ≤ ((h / 2 : Nat) : Int); omega, by show ((h / 2 : Nat) : Int) ≤ 63; omega, by show (0 : Nat) ≤ 4096; omega, .inl ⟨rfl, Int.natCast_nonneg _, by have := hn.2; show ((n : Nat) : Int) ≤ _; omega, rfl⟩⟩, ?_⟩
    rw [fb_num, hn.1, List.cons_append]
    congr 1
    omega
  · have hl : (r.take n).length = n := by rw [List.length_take]; omega
    have h8' : ∀ x ∈ r.take n, x < 256 := fun x hx => h8 x (by rw [hn.1]; exact List.mem_cons_of_mem _ (List.mem_append_right _ (List.mem_of_mem_take hx)))
    refine ⟨⟨by show (1 : Int) ≤ ((h / 2 : Nat) : Int); omega, by show ((h / 2 : Nat) : Int) ≤ 63; omega, by show (tb (r.take n)).size ≤ 4096; rw [tb_size, hl]; exact h4, .inr ⟨rfl, rfl⟩⟩, ?_⟩
    rw [fb_text, tb_size, hl, bl_tb h8', hn.1, List.cons_append, List.append_assoc, List.take_append_drop]
    congr 1
    omega
theorem of_front {h : Nat} {bs : List Nat} {f : Fv} {rest : List Nat} (hf : Front (h :: bs) f rest) : FieldR h bs f rest := by
  obtain ⟨⟨h1, h2, h3, h4⟩, e⟩ := hf
  obtain ⟨ft, fk, fn, fx⟩ := f
  simp only at h1 h2 h3 h4
  obtain ⟨t, rfl⟩ := Int.eq_ofNat_of_zero_le (show (0 : Int) ≤ ft by omega)
  rcases h4 with ⟨rfl, hn0, hn1, rfl⟩ | ⟨rfl, rfl⟩
  · obtain ⟨m, rfl⟩ := Int.eq_ofNat_of_zero_le hn0
    rw [fb_num] at e
    obtain ⟨e1, e2⟩ := List.cons.inj e
    have ht : h / 2 = t := by omega
    refine ⟨by omega, by omega, ⟨0, 0, m, ByteArray.empty⟩, .inl ⟨by omega, m, rfl, e2, by omega⟩, ?_⟩
    rw [ht]
  · rw [fb_text] at e
    obtain ⟨e1, e2⟩ := List.cons.inj e
    have ht : h / 2 = t := by omega
    have e2 : bs = Fi.varint fx.size ++ (bl fx ++ rest) := by rw [← List.append_assoc]; exact e2
    refine ⟨by omega, by omega, ⟨0, 1, 0, fx⟩, .inr ⟨by omega, fx.size, bl fx ++ rest, ⟨e2, by omega⟩, h3, by rw [List.length_append, bl_length]; omega, ?_, ?_⟩, ?_⟩
    · rw [← bl_length, List.drop_left]
    · rw [← bl_length, List.take_left, tb_bl]
    · rw [ht]
/- what was read, and what is left -/
def Read (bs : List Nat) (pre : List Fv) (rest : List Nat) : Prop := (∀ f ∈ pre, Good f) ∧ bs = enc pre ++ rest
theorem Read.next {bs : List Nat} {pre : List Fv} {r : List Nat} {f : Fv} {rest : List Nat} (h : Read bs pre r) (hf : Front r f rest) : Read bs (pre ++ [f]) rest := by
  refine ⟨fun x hx => ?_, ?_⟩
  · rcases List.mem_append.1 hx with hx | hx
    · exact h.1 x hx
    · rw [List.mem_singleton.1 hx]; exact hf.1
  · rw [h.2, hf.2, enc, enc, List.map_append, Fi.enc_append, List.append_assoc]
    simp [Fi.enc]
abbrev oks (pre : List Fv) : List (Fv × Bool) := pre.map (fun f => (f, true))
def Pre (bs : List Nat) (xs : List (Fv × Bool)) (x : Fv × Bool) : Prop :=
  ∃ pre, xs = oks pre ∧ ((x.2 = true ∧ ∃ rest, Read bs (pre ++ [x.1]) rest) ∨ (x.2 = false ∧ ∃ rest, rest ≠ [] ∧ Read bs pre rest ∧ ∀ f r, ¬ Front rest f r))
def Ends (bs : List Nat) (xs : List (Fv × Bool)) : Prop :=
  (∃ pre, xs = oks pre ∧ Read bs pre []) ∨ ∃ pre x, xs = pre ++ [x] ∧ x.2 = false ∧ Pre bs pre x
def Stops (bs : List Nat) (xs : List (Fv × Bool)) : Prop := ∃ pre x, xs = pre ++ [x] ∧ Pre bs pre x
theorem Inp.keptAt {G : Nat} {w w' : World} {B : Nat} {v : Value} {bs : List Nat} (h : Inp G w B v bs) (hB : w'.heap[B]? = w.heap[B]?) (hG : w'.heap[G]? = w.heap[G]?) : Inp G w' B v bs := by
  refine ⟨hB.trans h.box, ?_, h.byte⟩
  obtain ⟨a, cap, h1, h2, h3, g, off, e, ⟨hg, rfl⟩, hc⟩ := h.val
  exact ⟨a, cap, h1, h2, h3, g, off, e, ⟨hg, rfl⟩, fun i hi => (World.cell?_of_block (w := w) hG).trans (hc i hi)⟩
theorem Inp.g_lt {G : Nat} {w : World} {B : Nat} {v : Value} {bs : List Nat} (h : Inp G w B v bs) : G < w.heap.size := by
  obtain ⟨a, cap, h1, h2, h3, g, off, e, ⟨hg, rfl⟩, hc⟩ := h.val
  have := h.lt
  omega
/- how many bytes are left -/
def left (X : Nat) (w : World) : Nat := match w.cell? ⟨X, 0, none⟩ with | some (.slice _ n _) => n | _ => 0
theorem Inp.left {G : Nat} {w : World} {B : Nat} {v : Value} {bs : List Nat} (h : Inp G w B v bs) : left B w = bs.length := by
  obtain ⟨a, cap, rfl, _⟩ := h.val
  unfold Ytpbobmhffdmmmaa.left
  rw [h.box.cell]
set_option maxHeartbeats 2000000 in
set_option maxRecDepth 20000 in
theorem iter_yields (n G X : Nat) (bs : List Nat) (w : World) (Bin off cap : Nat) (hX : X = w.heap.size + 2) (hbox : Boxed w Bin 57 (.slice (some ⟨G, off, none⟩) bs.length cap)) (hG : G < w.heap.size) (h8 : ∀ x ∈ bs, x < 256) (hlc : bs.length ≤ cap) (hcm : cap ≤ 9223372036854775807)
    (hc : ∀ i, i < bs.length → w.cell? ⟨G, off + i, none⟩ = some (V8 (bs.getD i 0))) :
    Yields n 33 #[.pointer (some ⟨Bin, 0, none⟩)] (fun x : Fv × Bool => #[fv x.1, .bool x.2]) (fun k => k = G ∨ k = X) (Pre bs) (Ends bs) (Stops bs) w := by
  intro J Jx W hz hb hJ hJx hY h0
  have HJ : Hid (∀ s A B, J s A → A.grownBy B (some X) → J s B) := by rw [hX]; exact hJ
  have HY : Hid (∀ pre x A, J pre A → X < A.heap.size → Pre bs pre x → YieldAt Fence.wide (n - 1) Try.prog (w.heap.size + 1) #[fv x.1, .bool x.2] A fun e B =>
      (e = .returned (.bool true) ∧ J (pre ++ [x]) B ∧ Kept (fun k => k = G ∨ k = X) A B) ∨ (e = .returned (.bool false) ∧ Jx (pre ++ [x]) B)) := by rw [hX]; rw [hX] at hY; exact hY
  have hcW : W.cell? ⟨Bin, 0, none⟩ = some (.slice (some ⟨G, off, none⟩) bs.length cap) := (hb.cell (p := ⟨Bin, 0, none⟩) hbox.lt).trans hbox.cell
  have hWX : W.heap.size = X := by omega
  have HI : Hid (Inp G (W.alloc (.cells #[.slice (some ⟨G, off, none⟩) bs.length cap] 57)) X (.slice (some ⟨G, off, none⟩) bs.length cap) bs) := by
    refine ⟨by rw [← hWX]; exact Boxed.new W 57 _, ⟨_, cap, rfl, hlc, hcm, G, off, rfl, ⟨by omega, rfl⟩, fun i hi => ?_⟩, h8⟩
    have := (((Below.refl W.heap.size W).alloc (Nat.le_refl _) (.cells #[.slice (some ⟨G, off, none⟩) bs.length cap] 57)).cell (p := ⟨G, off + i, none⟩) (by show G < W.heap.size; omega))
    rw [this]
    exact (hb.cell (p := ⟨G, off + i, none⟩) hG).trans (hc i hi)
  have HJ0 : Hid (J (oks []) (W.alloc (.cells #[.slice (some ⟨G, off, none⟩) bs.length cap] 57))) := HJ.out _ _ _ h0 (World.grownBy_alloc W _ _)
  have H8 : Hid (∀ x ∈ bs, x < 256) := h8
  clear hY hJ hJx h0 hc h8 hb hz hG hbox hX
  generalize w.heap.size + 1 = l at *
  refine callsIn_of_wp Try.func33 rfl trivial ?_ rfl
  simp only [Try.ntmps33, List.size_toArray, List.length_cons, List.length_nil, Nat.reduceAdd, Nat.reduceSub, Array.replicate_succ, Array.replicate_zero, List.push_toArray, List.append_toArray, List.nil_append, List.cons_append]
  gi_wp2_with fail
  gi_loopw [] (fun wr => ∃ (pre : List Fv) (v : Value) (rest : List Nat), J (oks pre) wr ∧ Read bs pre rest ∧ Inp G wr X v rest) (fun wr => left X wr)
  case atStart => exact ⟨[], _, bs, HJ0.out, ⟨(fun f hf => by cases hf), rfl⟩, HI.out⟩
  case round =>
    obtain ⟨pre, v, rest, hj, hrd, hi⟩ := hrel
    have HJr : Hid (J (oks pre) wr) := hj
    have HRD : Hid (Read bs pre rest) := hrd
    have HIr : Hid (Inp G wr X v rest) := hi
    have hlf := hi.left
    have hxc := hi.box.cell
    obtain ⟨a', cap', rfl, _⟩ := hi.val
    clear hj hrd hi HI HJ0
    cases rest with
    | nil =>
      gi_wp2_with fail
      go_end0
      exact ⟨⟨_, rfl⟩, .inl ⟨oks pre, .inl ⟨pre, rfl, HRD.out⟩, HJr.out⟩⟩
    | cons h t =>
      have i0 : (0 : Int) < ((h :: t).length : Int) := by simp
      gi_wp2_with fail
      refine ⟨trivial, fun h => by simp [Fence.wide] at h, ?_⟩
      refine (callsIn_wide.2 (field_any X _ h t wr HIr.out)).mono ?_
      rintro e w2 (⟨f, rest', v2, hR, rfl, hg2, hI2⟩ | ⟨hNR, f, rfl, hg2⟩)
      · have hFr := front_of HIr.out.byte hR
        have HRD2 : Hid (Read bs (pre ++ [f]) rest') := HRD.out.next hFr
        have HJ2 : Hid (J (oks pre) (boxed w2 f)) := HJ.out _ _ _ (HJ.out _ _ _ HJr.out hg2) (World.grownBy_alloc w2 _ _)
        have HI2 : Hid (Inp G (boxed w2 f) X v2 rest') := hI2.alloc _
        have hlx : X < (boxed w2 f).heap.size := HI2.out.lt
        have hlen : rest'.length < (h :: t).length := by
          have h1 := congrArg List.length hFr.2
          have h2 := @Fi.fb_two (fd f)
          rw [List.length_append] at h1
          omega
        obtain ⟨fn, tmps, assign, body, hy, hRR⟩ := HY.out (oks pre) (f, true) (boxed w2 f) HJ2.out hlx ⟨pre, rfl, .inl ⟨rfl, rest', HRD2.out⟩⟩
        dsimp only at hy
        clear hg2 hI2 hR
        gi_wp2_with fail
        refine ⟨fun h => by simp [Fence.wide] at h, ?_⟩
        refine hRR.mono ?_
        clear hRR
        rintro e W3 (⟨rfl, hJ3, hk3⟩ | ⟨rfl, hJx3⟩)
        · have hI3 : Inp G W3 X v2 rest' := HI2.out.keptAt (hk3.same X (.inr rfl) hlx) (hk3.same G (.inl rfl) HI2.out.g_lt)
          have HI3 : Hid (Inp G W3 X v2 rest') := hI3
          have HJ3 : Hid (J (oks (pre ++ [f])) W3) := by rw [oks, List.map_append]; exact hJ3
          have HLF : Hid (left X W3 < left X wr) := by rw [hlf, hI3.left]; exact hlen
          clear hJ3 hk3 hI3
          gi_wp2_with fail
          go_roundw
          case rel => exact ⟨pre ++ [f], v2, rest', HJ3.out, HRD2.out, HI3.out⟩
          case measure => exact HLF.out
        · have HJX : Hid (Jx (oks pre ++ [(f, true)]) W3) := hJx3
          clear hJx3
          gi_wp2_with fail
          refine bodyPost_ret (results_none rfl _ _ _) rfl ?_
          exact ⟨⟨_, rfl⟩, .inr ⟨_, ⟨oks pre, (f, true), rfl, pre, rfl, .inl ⟨rfl, rest', HRD2.out⟩⟩, HJX.out⟩⟩
      · have HP : Hid (Pre bs (oks pre) (f, false)) := ⟨pre, rfl, .inr ⟨rfl, h :: t, by simp, HRD.out, fun f r hf => hNR _ _ (of_front hf)⟩⟩
        have HJ2 : Hid (J (oks pre) (boxed w2 f)) := HJ.out _ _ _ (HJ.out _ _ _ HJr.out hg2) (World.grownBy_alloc w2 _ _)
        have hlx : X < (boxed w2 f).heap.size := by have := HIr.out.lt; have := hg2.size; rw [size_alloc1]; omega
        obtain ⟨fn, tmps, assign, body, hy, hRR⟩ := HY.out (oks pre) (f, false) (boxed w2 f) HJ2.out hlx HP.out
        dsimp only at hy
        clear hg2 hNR
        gi_wp2_with fail
        refine ⟨fun h => by simp [Fence.wide] at h, ?_⟩
        refine hRR.mono ?_
        clear hRR
        rintro e W3 (⟨rfl, hJ3, hk3⟩ | ⟨rfl, hJx3⟩)
        · have HJ3 : Hid (J (oks pre ++ [(f, false)]) W3) := hJ3
          clear hJ3 hk3
          gi_wp2_with fail
          refine bodyPost_ret (results_none rfl _ _ _) rfl ?_
          exact ⟨⟨_, rfl⟩, .inl ⟨_, .inr ⟨oks pre, (f, false), rfl, rfl, HP.out⟩, HJ3.out⟩⟩
        · have HJX : Hid (Jx (oks pre ++ [(f, false)]) W3) := hJx3
          clear hJx3
          gi_wp2_with fail
          refine bodyPost_ret (results_none rfl _ _ _) rfl ?_
          exact ⟨⟨_, rfl⟩, .inr ⟨_, ⟨oks pre, (f, false), rfl, HP.out⟩, HJX.out⟩⟩
end Go.Proofs.Ytpbobmhffdmmmaa
