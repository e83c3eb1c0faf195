/- Proved: plain facts of a log on a disk that has power and is not armed (stage 8): what is read there, what a sync and a reset leave, and what of other parts. No program is named. -/
import Derived.Test.YtcfninpokngmlaaGreatDoorMathL
namespace Wl
open Sc (St)
/- what is read of a disk, sector by sector -/
def flat (s : St) : List ByteArray := Sc.keepI (fun _ => true) s.pend 0 s.kept
theorem flat_length (s : St) : (flat s).length = s.kept.length := Sc.keepI_length _ _ _ _
theorem keepI_append (f : Nat → Bool) (l2 : List (Nat × ByteArray)) : ∀ (l1 : List (Nat × ByteArray)) (n : Nat) (ks : List ByteArray), Sc.keepI f (l1 ++ l2) n ks = Sc.keepI f l2 (n + l1.length) (Sc.keepI f l1 n ks)
  | [], n, ks => rfl
  | p :: l1, n, ks => by
    rw [List.cons_append, Sc.keepI, Sc.keepI, keepI_append f l2 l1, List.length_cons, show n + 1 + l1.length = n + (l1.length + 1) by omega]
theorem now_flat {s : St} {i : Nat} (hi : i < s.kept.length) : Sc.now s i = (flat s).getD i Sc.zero64 := by
  unfold flat Sc.now
  have e := Sc.keepI_last i s.pend 0 s.kept hi
  rw [List.getD_eq_getElem?_getD (l := Sc.keepI _ _ _ _), e]
  rfl
theorem flat_nil {s : St} (h : s.pend = []) : flat s = s.kept := by unfold flat; rw [h]; rfl
/- a disk of N sectors that has power and is not armed -/
structure Up (N : Nat) (s : St) : Prop where
  down : s.down = false
  left : s.left = -1
  len : s.kept.length = N
theorem Up.flushed {N : Nat} {s : St} (h : Up N s) : Up N (Sc.flushed s) := by
  refine ⟨h.down, ?_, by simp only [Sc.flushed, Sc.keepI_length]; exact h.len⟩
  simp only [Sc.flushed, Sc.spent, h.left]
  decide
theorem Up.put {N : Nat} {s : St} (h : Up N s) (i : Nat) (x : ByteArray) : Up N (Sc.put s i x) := by
  refine ⟨h.down, ?_, h.len⟩
  simp only [Sc.put, Sc.spent, h.left]
  decide
theorem Up.puts {N : Nat} {s : St} (h : Up N s) (base : Nat) (all : List UInt8) (k j : Nat) : Up N (putsN s base all k j) := by
  refine ⟨h.down, ?_, h.len⟩
  simp only [putsN, h.left]
  rw [if_neg (by omega)]
theorem Up.mark {N : Nat} {s : St} (h : Up N s) (base e l : Nat) : markS s base e l = Sc.flushed (Sc.put s base (head20 e l)) ∧ markE s base e l = 0 := by
  have h0 : ¬ s.left = 0 := by have := h.left; omega
  have h1 : ¬ (Sc.put s base (head20 e l)).left = 0 := by have := (h.put base (head20 e l)).left; omega
  unfold markS markE
  rw [if_neg h0, if_neg h0, if_neg h1, if_neg h1]
  exact ⟨rfl, rfl⟩
/- the sectors outside a log's part are as they were -/
def Out (ks ks' : List ByteArray) (base n : Nat) : Prop := ∀ i, i < base ∨ base + n ≤ i → ks'.getD i Sc.zero64 = ks.getD i Sc.zero64
theorem mark_kept {s : St} (hp : s.pend = []) (base e l : Nat) : (Sc.flushed (Sc.put s base (head20 e l))).kept = s.kept.set base (head e l) := by
  show Sc.keepI (fun _ => true) (s.pend ++ [(base, Sc.fill (head20 e l))]) 0 s.kept = _
  rw [hp]
  rfl
/- what a call that writes leaves of a disk that has power -/
structure Left (N : Nat) (s s' : St) (base n e : Nat) (b : ByteArray) : Prop where
  up : Up N s'
  pend : s'.pend = []
  on : On s'.kept base n e b
  out : Out (flat s) s'.kept base n
  dn : s'.dn ≤ s.dn + n + 3
theorem sync_live {N : Nat} {l : Lg} {s : St} (hu : Up N s) (hok : l.Ok) (hf : l.base + l.n ≤ N) (hon : On (flat s) l.base l.n l.epoch l.bytes) : (syncT l s).2 = 0 ∧ Left N s (syncT l s).1 l.base l.n l.epoch (all l) := by
  have hz := all_size l
  have hr := hok.room
  have h2 := hok.two
  have hm : l.bytes.size / 64 + many l.bytes.size (all l).size ≤ l.n - 1 := by unfold many; omega
  rw [syncT_power hu.down hok (by rw [hu.len]; exact hf)]
  simp only
  have hL : ¬ (0 ≤ s.left ∧ s.left < (many l.bytes.size (all l).size : Int)) := by have := hu.left; omega
  unfold syncS syncE
  rw [if_neg hL, if_neg hL]
  have hP := hu.puts l.base (all l).data.toList (l.bytes.size / 64) (many l.bytes.size (all l).size)
  have hP0 : ¬ (putsN s l.base (all l).data.toList (l.bytes.size / 64) (many l.bytes.size (all l).size)).left = 0 := by have := hP.left; omega
  rw [if_neg hP0, if_neg hP0]
  have hF := hP.flushed
  obtain ⟨e1, e2⟩ := hF.mark l.base l.epoch (all l).size
  have hk1 : (Sc.flushed (putsN s l.base (all l).data.toList (l.bytes.size / 64) (many l.bytes.size (all l).size))).kept = Sc.keepI (fun _ => true) (parts l.base (all l).data.toList (l.bytes.size / 64) (many l.bytes.size (all l).size)) (0 + s.pend.length) (flat s) := by
    show Sc.keepI (fun _ => true) (s.pend ++ parts l.base (all l).data.toList (l.bytes.size / 64) (many l.bytes.size (all l).size)) 0 s.kept = _
    rw [keepI_append]
    rfl
  have hdn : (Sc.flushed (putsN s l.base (all l).data.toList (l.bytes.size / 64) (many l.bytes.size (all l).size))).dn = s.dn + many l.bytes.size (all l).size + 1 := rfl
  have hpe : (Sc.flushed (putsN s l.base (all l).data.toList (l.bytes.size / 64) (many l.bytes.size (all l).size))).pend = [] := rfl
  have hbl : l.bytes.data.toList.length = l.bytes.size := (Sc.size_eq l.bytes).symm
  have hal : (all l).data.toList = l.bytes.data.toList ++ (frames l.wait).data.toList := by unfold all; rw [app_list]
  have hall : (l.bytes.data.toList ++ (frames l.wait).data.toList).length = (all l).size := by rw [← hal, Sc.size_eq]
  have hon1 : On (Sc.flushed (putsN s l.base (all l).data.toList (l.bytes.size / 64) (many l.bytes.size (all l).size))).kept l.base l.n l.epoch l.bytes := by
    rw [hk1]
    exact hon.data (new := frames l.wait) (by have := parts_part l.base (all l).data.toList (l.bytes.size / 64) (many l.bytes.size (all l).size); exact this) _ _
  have hh1 : Holds (Sc.flushed (putsN s l.base (all l).data.toList (l.bytes.size / 64) (many l.bytes.size (all l).size))).kept l.base (all l).data.toList := by
    rw [hk1]
    have := Holds.flushed (new := (frames l.wait).data.toList) (m := many l.bytes.size (all l).size) hon.holds (by rw [hall, hbl]; unfold many; omega) (by rw [hbl, flat_length, hu.len]; omega) (0 + s.pend.length)
    rw [← hal, hbl] at this
    exact this
  have hout1 : Out (flat s) (Sc.flushed (putsN s l.base (all l).data.toList (l.bytes.size / 64) (many l.bytes.size (all l).size))).kept l.base l.n := by
    rw [hk1]
    intro i hi
    rw [List.getD_eq_getElem?_getD, Sc.keepI_apart _ i _ _ _ (fun p hp e => ?_), ← List.getD_eq_getElem?_getD]
    obtain ⟨t, ht, rfl⟩ := List.mem_map.1 hp
    have := List.mem_range.1 ht
    simp only at e
    omega
  rw [e1, e2]
  generalize Sc.flushed (putsN s l.base (all l).data.toList (l.bytes.size / 64) (many l.bytes.size (all l).size)) = s1 at *
  have hkk := mark_kept hpe l.base l.epoch (all l).size
  refine ⟨rfl, (hF.put _ _).flushed, rfl, ?_, ?_, ?_⟩
  · rw [hkk]
    exact hon1.headed hh1 (by omega) hok.epoch
  · rw [hkk]
    intro i hi
    rw [List.getD_eq_getElem?_getD, List.getElem?_set_ne (by omega), ← List.getD_eq_getElem?_getD]
    exact hout1 i hi
  · show s1.dn + 1 + 1 ≤ _
    rw [hdn]
    omega
theorem reset_live {N : Nat} {l : Lg} {s : St} (hu : Up N s) (hok : l.Ok) (hp : s.pend = []) (hf : l.base + l.n ≤ N) (hon : On s.kept l.base l.n l.epoch l.bytes) (he : l.epoch + 1 ≤ 4611686018427387904) : hdE s l.base (l.epoch + 1) 0 = 0 ∧ Left N s (hdS s l.base (l.epoch + 1) 0) l.base l.n (l.epoch + 1) (ob []) := by
  have h2 := hok.two
  obtain ⟨e1, e2⟩ := hd_mark (s := s) (base := l.base) (e := l.epoch + 1) (l := 0) hu.down (by rw [hu.len]; omega)
  obtain ⟨e3, e4⟩ := hu.mark l.base (l.epoch + 1) 0
  rw [e1, e2, e3, e4]
  have hkk := mark_kept hp l.base (l.epoch + 1) 0
  refine ⟨rfl, (hu.put _ _).flushed, rfl, ?_, ?_, ?_⟩
  · rw [hkk]
    exact hon.headed (b' := ob []) (Holds.nil _ _) (by rw [ob_size]; simp) he
  · rw [hkk]
    intro i hi
    rw [List.getD_eq_getElem?_getD, List.getElem?_set_ne (by omega), ← List.getD_eq_getElem?_getD, flat_nil hp]
  · show s.dn + 1 + 1 ≤ _
    omega
/- another log's part is as it was -/
theorem On.out {ks ks' : List ByteArray} {base n base' n' e : Nat} {b : ByteArray} (h : On ks base' n' e b) (hl : ks'.length = ks.length) (ho : Out ks ks' base n) (hd : base' + n' ≤ base ∨ base + n ≤ base') : On ks' base' n' e b := by
  have h2 := h.two
  have hroom := h.room
  have hbl : b.data.toList.length = b.size := (Sc.size_eq b).symm
  refine ⟨?_, fun i j hj hi => ?_, h.room, by rw [hl]; exact h.fits, h.two, h.most⟩
  · unfold HeadIs
    rw [ho base' (by omega)]
    exact h.head
  · have hin : base' + 1 + i < base' + n' := by omega
    rw [ho (base' + 1 + i) (by omega)]
    exact h.holds i j hj hi
/- what is read in the sector in which the length ends -/
theorem On.tail {s : St} {base n e : Nat} {b : ByteArray} (h : On (flat s) base n e b) {i j : Nat} (hj : j < 64) (hi : 64 * i + j < b.size) : (Sc.now s (base + 1 + i)).data.toList[j]? = b.data.toList[64 * i + j]? := by
  have h2 := h.two
  have hroom := h.room
  have hf := h.fits
  rw [flat_length] at hf
  rw [now_flat (by omega)]
  exact h.holds i j hj (by rw [← Sc.size_eq]; exact hi)
end Wl
