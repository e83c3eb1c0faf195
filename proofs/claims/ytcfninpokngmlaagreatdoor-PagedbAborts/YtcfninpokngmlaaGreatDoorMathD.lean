/- Proved: plain facts of a log on a disk (stage 8): what a sync and a reset write, and what is found behind a loss of power at any write. No program is named. -/
import Derived.Test.YtcfninpokngmlaaGreatDoorMathW
namespace Wl
/- the k-th 64 bytes -/
def sec (l : List UInt8) (k : Nat) : List UInt8 := (l.drop (64 * k)).take 64
theorem sec_at (l : List UInt8) (k j : Nat) (hj : j < 64) : (sec l k)[j]? = l[64 * k + j]? := by
  unfold sec
  rw [List.getElem?_take_of_lt hj, List.getElem?_drop]
theorem sec_length (l : List UInt8) (k : Nat) : (sec l k).length ≤ 64 := by unfold sec; rw [List.length_take]; omega
def chunk (l : List UInt8) (k : Nat) : ByteArray := Sc.fill (ob (sec l k))
theorem chunk_size (l : List UInt8) (k : Nat) : (chunk l k).size = 64 := Sc.fill_size (by rw [ob_size]; exact sec_length l k)
theorem chunk_at (l : List UInt8) (k j : Nat) (hj : j < 64) (h : 64 * k + j < l.length) : (chunk l k).data.toList[j]? = l[64 * k + j]? := by
  unfold chunk
  rw [Sc.fill_list, ob_list]
  have hl : j < (sec l k).length := by
    unfold sec
    rw [List.length_take, List.length_drop]
    omega
  rw [List.getElem?_append_left hl, sec_at l k j hj]
/- the sectors behind the first one hold these bytes -/
def Holds (kept : List ByteArray) (base : Nat) (b : List UInt8) : Prop := ∀ i j, j < 64 → 64 * i + j < b.length → (kept.getD (base + 1 + i) Sc.zero64).data.toList[j]? = b[64 * i + j]?
theorem Holds.left {kept : List ByteArray} {base : Nat} {a c : List UInt8} (h : Holds kept base (a ++ c)) : Holds kept base a := fun i j hj hl => by
  rw [h i j hj (by rw [List.length_append]; omega), List.getElem?_append_left hl]
theorem Holds.nil (kept : List ByteArray) (base : Nat) : Holds kept base [] := fun i j _ hl => by simp at hl
/- the write of a part of these bytes -/
def Part (base : Nat) (all : List UInt8) (p : Nat × ByteArray) : Prop := ∃ k, p = (base + 1 + k, chunk all k)
theorem keepI_one (b : Nat → Bool) (x : Nat) : ∀ (l : List (Nat × ByteArray)) (n : Nat) (ks : List ByteArray), (Sc.keepI b l n ks).getD x Sc.zero64 = ks.getD x Sc.zero64 ∨ ∃ p ∈ l, p.1 = x ∧ (Sc.keepI b l n ks).getD x Sc.zero64 = p.2
  | [], _, _ => .inl rfl
  | p :: l, n, ks => by
    unfold Sc.keepI
    rcases keepI_one b x l (n + 1) (if b n then ks.set p.1 p.2 else ks) with h | ⟨q, hq, h1, h2⟩
    · by_cases hb : b n = true
      · rw [hb] at h ⊢
        simp only [if_true] at h ⊢
        by_cases hx : p.1 = x
        · by_cases hl : x < ks.length
          · refine .inr ⟨p, List.mem_cons_self, hx, ?_⟩
            rw [h, List.getD_eq_getElem?_getD, hx, List.getElem?_set_self hl]
            rfl
          · refine .inl ?_
            rw [h, hx, List.set_eq_of_length_le (by omega)]
        · refine .inl ?_
          rw [h, List.getD_eq_getElem?_getD, List.getElem?_set_ne hx, ← List.getD_eq_getElem?_getD]
      · have hb' : b n = false := by simpa using hb
        rw [hb'] at h ⊢
        exact .inl h
    · exact .inr ⟨q, List.mem_cons_of_mem _ hq, h1, h2⟩
/- whatever is kept of parts of these bytes, what they begin with is there -/
theorem Holds.kept {kept : List ByteArray} {base : Nat} {old new : List UInt8} (h : Holds kept base old) {l : List (Nat × ByteArray)} (hl : ∀ p ∈ l, Part base (old ++ new) p) (b : Nat → Bool) (n : Nat) : Holds (Sc.keepI b l n kept) base old := fun i j hj hi => by
  rcases keepI_one b (base + 1 + i) l n kept with e | ⟨p, hp, h1, e⟩
  · rw [e]; exact h i j hj hi
  · obtain ⟨k, rfl⟩ := hl p hp
    obtain rfl : k = i := by simp only at h1; omega
    rw [e]
    simp only
    rw [chunk_at _ _ _ hj (by rw [List.length_append]; omega), List.getElem?_append_left hi]
/- the writes of a sync, from the sector on in which the old bytes end -/
def parts (base : Nat) (all : List UInt8) (k m : Nat) : List (Nat × ByteArray) := (List.range m).map fun i => (base + 1 + (k + i), chunk all (k + i))
theorem parts_part (base : Nat) (all : List UInt8) (k m : Nat) : ∀ p ∈ parts base all k m, Part base all p := fun p hp => by
  obtain ⟨i, _, rfl⟩ := List.mem_map.1 hp
  exact ⟨k + i, rfl⟩
theorem parts_succ (base : Nat) (all : List UInt8) (k m : Nat) : parts base all k (m + 1) = parts base all k m ++ [(base + 1 + (k + m), chunk all (k + m))] := by
  unfold parts
  rw [List.range_succ, List.map_append]
  rfl
theorem parts_length (base : Nat) (all : List UInt8) (k m : Nat) : (parts base all k m).length = m := by simp [parts]
theorem last_mem (x : Nat) : ∀ (l : List (Nat × ByteArray)) (y : ByteArray), (∃ p ∈ l, p.1 = x) → ∃ p ∈ l, p.1 = x ∧ Sc.last x l y = p.2
  | [], _, h => by
    obtain ⟨p, hp, _⟩ := h
    cases hp
  | q :: l, y, h => by
    unfold Sc.last
    by_cases hm : ∃ p ∈ l, p.1 = x
    · obtain ⟨p, hp, h1, h2⟩ := last_mem x l (if q.1 = x then q.2 else y) hm
      exact ⟨p, List.mem_cons_of_mem _ hp, h1, h2⟩
    · have hn : ∀ p ∈ l, p.1 ≠ x := fun p hp e => hm ⟨p, hp, e⟩
      obtain ⟨p, hp, h1⟩ := h
      rcases List.mem_cons.1 hp with rfl | hp
      · refine ⟨p, List.mem_cons_self, h1, ?_⟩
        rw [if_pos h1, Sc.last_none x l _ hn]
      · exact absurd h1 (hn p hp)
/- all of them kept: all bytes are there -/
theorem Holds.flushed {kept : List ByteArray} {base : Nat} {old new : List UInt8} {m : Nat} (h : Holds kept base old) (hm : (old ++ new).length ≤ 64 * (old.length / 64 + m)) (hk : base + 1 + (old.length / 64 + m) ≤ kept.length) (n : Nat) : Holds (Sc.keepI (fun _ => true) (parts base (old ++ new) (old.length / 64) m) n kept) base (old ++ new) := fun i j hj hi => by
  by_cases hlo : i < old.length / 64
  · have hne : ∀ p ∈ parts base (old ++ new) (old.length / 64) m, p.1 ≠ base + 1 + i := fun p hp e => by
      obtain ⟨t, _, rfl⟩ := List.mem_map.1 hp
      simp only at e
      omega
    have hol : 64 * i + j < old.length := by
      have := Nat.div_mul_le_self old.length 64
      have : 64 * (i + 1) ≤ 64 * (old.length / 64) := Nat.mul_le_mul_left 64 hlo
      omega
    rw [List.getD_eq_getElem?_getD, Sc.keepI_apart _ _ _ _ _ hne, ← List.getD_eq_getElem?_getD, h i j hj hol, List.getElem?_append_left hol]
  · have him : i < old.length / 64 + m := by omega
    have hex : ∃ p ∈ parts base (old ++ new) (old.length / 64) m, p.1 = base + 1 + i := ⟨(base + 1 + (old.length / 64 + (i - old.length / 64)), chunk (old ++ new) (old.length / 64 + (i - old.length / 64))), List.mem_map.2 ⟨i - old.length / 64, List.mem_range.2 (by omega), rfl⟩, by simp only; omega⟩
    obtain ⟨p, hp, h1, h2⟩ := last_mem (base + 1 + i) _ (kept.getD (base + 1 + i) Sc.zero64) hex
    obtain ⟨t, rfl⟩ := parts_part base (old ++ new) (old.length / 64) m p hp
    obtain rfl : t = i := by simp only at h1; omega
    rw [List.getD_eq_getElem?_getD, Sc.keepI_last (base + 1 + t) _ _ _ (by omega), h2]
    exact chunk_at _ _ _ hj hi
/- the log on a disk: its head, and its bytes -/
def HeadIs (kept : List ByteArray) (base e l : Nat) : Prop := kept.getD base Sc.zero64 = head e l ∨ (kept.getD base Sc.zero64 = Sc.zero64 ∧ e = 0 ∧ l = 0)
structure On (kept : List ByteArray) (base n e : Nat) (b : ByteArray) : Prop where
  head : HeadIs kept base e b.size
  holds : Holds kept base b.data.toList
  room : b.size ≤ 64 * (n - 1)
  fits : base + n ≤ kept.length
  two : 2 ≤ n
  most : e ≤ 4611686018427387904
/- a disk of noughts holds the empty log -/
theorem On.zero {kept : List ByteArray} {base n : Nat} (h : kept.getD base Sc.zero64 = Sc.zero64) (hn : 2 ≤ n) (hf : base + n ≤ kept.length) : On kept base n 0 (ob []) :=
  ⟨.inr ⟨h, rfl, rfl⟩, by rw [ob_list]; exact Holds.nil _ _, by rw [ob_size]; simp, hf, hn, by omega⟩
/- power is lost among the writes of the data -/
theorem On.data {kept : List ByteArray} {base n e : Nat} {b new : ByteArray} (h : On kept base n e b) {l : List (Nat × ByteArray)} (hl : ∀ p ∈ l, Part base (b ++ new).data.toList p) (f : Nat → Bool) (i : Nat) : On (Sc.keepI f l i kept) base n e b := by
  refine ⟨?_, ?_, h.room, by rw [Sc.keepI_length]; exact h.fits, h.two, h.most⟩
  · have e : (Sc.keepI f l i kept).getD base Sc.zero64 = kept.getD base Sc.zero64 := by
      rw [List.getD_eq_getElem?_getD, Sc.keepI_apart f base l i kept (fun p hp hb => by obtain ⟨k, rfl⟩ := hl p hp; simp only at hb; omega), ← List.getD_eq_getElem?_getD]
    unfold HeadIs
    rw [e]
    exact h.head
  · refine Holds.kept (new := new.data.toList) h.holds (fun p hp => ?_) f i
    have := hl p hp
    rwa [app_list] at this
/- a head is written: it is kept, or not -/
theorem On.headed {kept : List ByteArray} {base n e : Nat} {b : ByteArray} (h : On kept base n e b) {e' : Nat} {b' : ByteArray} (hb : Holds kept base b'.data.toList) (hr : b'.size ≤ 64 * (n - 1)) (he : e' ≤ 4611686018427387904) : On (kept.set base (Wl.head e' b'.size)) base n e' b' := by
  have hlen : base < kept.length := by have := h.fits; have := h.two; omega
  refine ⟨.inl ?_, fun i j hj hi => ?_, hr, by rw [List.length_set]; exact h.fits, h.two, he⟩
  · rw [List.getD_eq_getElem?_getD, List.getElem?_set_self hlen]
    rfl
  · rw [List.getD_eq_getElem?_getD, List.getElem?_set_ne (by omega), ← List.getD_eq_getElem?_getD]
    exact hb i j hj hi
theorem On.either {kept : List ByteArray} {base n e : Nat} {b : ByteArray} (h : On kept base n e b) {e' : Nat} {b' : ByteArray} (hb : Holds kept base b'.data.toList) (hr : b'.size ≤ 64 * (n - 1)) (he : e' ≤ 4611686018427387904) (f : Nat → Bool) : On (Sc.keepI f [(base, Wl.head e' b'.size)] 0 kept) base n e b ∨ On (Sc.keepI f [(base, Wl.head e' b'.size)] 0 kept) base n e' b' := by
  unfold Sc.keepI Sc.keepI
  by_cases hf : f 0 = true
  · rw [hf]
    exact .inr (h.headed hb hr he)
  · have hf' : f 0 = false := by simpa using hf
    rw [hf']
    exact .inl h
end Wl
