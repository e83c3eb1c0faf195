/- Proved: plain facts of records of pages, and of pages at their places (stage 10). No program is named. -/
import Derived.Test.YtcfninpokngmlaaGreatDoorDAb
import Derived.Test.YtcfninpokngmlaaGreatDoorMathV
namespace Pd
open Wl
def pageOf (i : Nat) (x : Sheet) : ByteArray := Pg.page i x.kind x.body
theorem pageOf_size {i : Nat} {x : Sheet} (h : x.Fine) : (pageOf i x).size = 512 := Pg.page_size h.b
theorem pageOf_open {i : Nat} {x : Sheet} (h : x.Fine) (hi : i ≤ 2147483647) : Pg.openE (i : Int) (pageOf i x) = 0 ∧ Pg.openK (i : Int) (pageOf i x) = (x.kind : Int) ∧ Pg.openB (i : Int) (pageOf i x) = x.body := by
  have hb : Pg.bad (i : Int) (x.kind : Int) = false := Pg.bad_of ⟨by omega, by omega, by have := h.k0; omega, by have := h.k1; omega⟩
  have := Pg.open_same hb h.b
  simpa [pageOf] using this
theorem pageOf_seal {i : Nat} {x : Sheet} (h : x.Fine) (hi : i ≤ 2147483647) : Pg.sealS (i : Int) (x.kind : Int) x.body = pageOf i x := by
  have hb : Pg.bad (i : Int) (x.kind : Int) = false := Pg.bad_of ⟨by omega, by omega, by have := h.k0; omega, by have := h.k1; omega⟩
  unfold Pg.sealS
  rw [hb, if_neg (by simp), if_neg (by have := h.b; omega)]
  rfl
theorem pageOf_ne {i : Nat} {x : Sheet} (h : x.Fine) : pageOf i x ≠ Pg.blank := Pg.page_not_blank (by have := h.k1; omega) (by have := h.k0; omega)
/- the pages of a record, one behind the other -/
def entry (p : Nat × Sheet) : ByteArray := put p.1 4 ++ pageOf p.1 p.2
def entries : Mp → ByteArray
  | [] => none0
  | p :: m => entry p ++ entries m
def recText (n : Nat) (m : Mp) : ByteArray := put n 4 ++ entries m
def Fine (cnt : Nat) (m : Mp) : Prop := ∀ p ∈ m, p.1 < cnt ∧ p.2.Fine
theorem entry_size {p : Nat × Sheet} (h : p.2.Fine) : (entry p).size = 516 := by
  unfold entry
  rw [ByteArray.size_append, put_size, pageOf_size h]
theorem app_none (a : ByteArray) : a ++ none0 = a := ext_list (by rw [app_list]; simp [none0])
theorem none_app (a : ByteArray) : none0 ++ a = a := ext_list (by rw [app_list]; simp [none0])
theorem app_assoc (a b c : ByteArray) : a ++ b ++ c = a ++ (b ++ c) := ext_list (by simp only [app_list, List.append_assoc])
theorem entries_size {cnt : Nat} : ∀ {m : Mp}, Fine cnt m → (entries m).size = 516 * m.length
  | [], _ => rfl
  | p :: m, h => by
    unfold entries
    rw [ByteArray.size_append, entry_size (h p List.mem_cons_self).2, entries_size (fun q hq => h q (List.mem_cons_of_mem _ hq)), List.length_cons]
    omega
theorem entries_snoc (p : Nat × Sheet) : ∀ (m : Mp), entries (m ++ [p]) = entries m ++ entry p
  | [] => by unfold entries; rw [none_app]; unfold entries; exact app_none _
  | q :: m => by
    rw [List.cons_append]
    unfold entries
    rw [entries_snoc p m, app_assoc]
theorem recText_size {cnt n : Nat} {m : Mp} (h : Fine cnt m) : (recText n m).size = 4 + 516 * m.length := by
  unfold recText
  rw [ByteArray.size_append, put_size, entries_size h]
theorem ext_left {a b : ByteArray} {k : Nat} (h : a.size = k) : (a ++ b).extract 0 k = a := ext_list (by
  rw [ext_ext, app_list, List.drop_zero, List.take_append_of_le_length (by rw [← Sc.size_eq]; omega), List.take_of_length_le (by rw [← Sc.size_eq]; omega)])
theorem ext_right {a b : ByteArray} {k n : Nat} (h : a.size = k) (hn : n = (a ++ b).size) : (a ++ b).extract k n = b := ext_list (by
  have h2 : a.data.toList.length = k := by rw [← Sc.size_eq]; exact h
  rw [ext_ext, app_list, List.take_of_length_le (by rw [hn, Sc.size_eq, app_list]; exact Nat.le_refl _), ← h2, List.drop_left])
theorem ext_mid {a b c : ByteArray} {k n : Nat} (h : a.size = k) (hn : n = k + b.size) : (a ++ (b ++ c)).extract k n = b := ext_list (by
  have h2 : a.data.toList.length = k := by rw [← Sc.size_eq]; exact h
  have h3 : b.data.toList.length = b.size := (Sc.size_eq b).symm
  rw [ext_ext, app_list, app_list, hn, ← h2, List.take_length_add_append, List.drop_left, List.take_append_of_le_length (by omega), List.take_of_length_le (by omega)])
/- the number that a text begins with -/
def numb (s : ByteArray) : Nat := getL (s.data.toList.take 4)
theorem numb_put (a : Nat) (b : ByteArray) (h : a < 4294967296) : numb (put a 4 ++ b) = a := by
  unfold numb
  rw [app_list, put_list, List.take_append_of_le_length (by rw [putL_length]; omega), List.take_of_length_le (by rw [putL_length]; omega), getL_putL 4 a h]
theorem numb_put0 (a : Nat) (h : a < 4294967296) : numb (put a 4) = a := by
  have := numb_put a none0 h
  rwa [app_none] at this
/- what is read of a record -/
structure Read1 (s : ByteArray) (p : Nat × Sheet) (rest : ByteArray) : Prop where
  ne : 516 ≤ s.size
  id : numb s = p.1
  page : s.extract 4 516 = pageOf p.1 p.2
  rest : s.extract 516 s.size = rest
theorem read_entry {cnt : Nat} {p : Nat × Sheet} {m : Mp} (h : Fine cnt (p :: m)) (hc : cnt ≤ 1000) : Read1 (entries (p :: m)) p (entries m) := by
  have hp := h p List.mem_cons_self
  have he := entry_size hp.2
  have hs : (entries (p :: m)).size = 516 + (entries m).size := by
    show (entry p ++ entries m).size = _
    rw [ByteArray.size_append, he]
  refine ⟨by omega, ?_, ?_, ?_⟩
  · show numb (entry p ++ entries m) = _
    unfold entry
    rw [app_assoc, numb_put _ _ (by omega)]
  · show (entry p ++ entries m).extract 4 516 = _
    unfold entry
    rw [app_assoc]
    exact ext_mid (put_size _ _) (by rw [pageOf_size hp.2])
  · show (entry p ++ entries m).extract 516 _ = _
    exact ext_right he rfl
/- the state that a sheet tells -/
theorem sheet_numb (t : Stt) : ∀ (i : Nat), i < 7 → (t.text.extract (4 + 4 * i) 32).data.toList.take 4 = putL ([t.high, t.free, t.last, t.r0, t.r1, t.r2, t.r3].getD i 0) 4 := by
  have hl : t.text.data.toList = [65, 81, 68, 66] ++ putL t.high 4 ++ putL t.free 4 ++ putL t.last 4 ++ putL t.r0 4 ++ putL t.r1 4 ++ putL t.r2 4 ++ putL t.r3 4 := by
    unfold Stt.text
    simp only [app_list, put_list]
    rfl
  intro i hi
  rw [ext_ext, hl]
  have e : ∀ n, putL n 4 = [UInt8.ofNat (n % 256), UInt8.ofNat (n / 256 % 256), UInt8.ofNat (n / 256 / 256 % 256), UInt8.ofNat (n / 256 / 256 / 256 % 256)] := fun n => by
    simp [putL]
  simp only [e]
  rcases i with _ | _ | _ | _ | _ | _ | _ | i
  · rfl
  · rfl
  · rfl
  · rfl
  · rfl
  · rfl
  · rfl
  · omega
/- what stands at a page's place -/
def plc (ks : List ByteArray) (n i : Nat) : ByteArray := Pg.joined ((List.range 8).map fun j => ks.getD (n + 8 * i + j) Sc.zero64)
theorem plc_same {ks ks' : List ByteArray} {n i : Nat} (h : ∀ j, j < 8 → ks'.getD (n + 8 * i + j) Sc.zero64 = ks.getD (n + 8 * i + j) Sc.zero64) : plc ks' n i = plc ks n i := by
  unfold plc
  refine congrArg _ (List.map_congr_left fun j hj => h j (List.mem_range.1 hj))
/- the writes of a page -/
def secAt (x : ByteArray) (j : Nat) : ByteArray := (Pg.cut x 64 []).getD j Sc.zero64
def wrOf (n i : Nat) (x : ByteArray) : List (Nat × ByteArray) := (List.range 8).map fun j => (n + 8 * i + j, secAt x j)
def wrAll (n : Nat) (m : Mp) : List (Nat × ByteArray) := m.flatMap fun p => wrOf n p.1 (pageOf p.1 p.2)
theorem secs_len : ∀ (k : Nat) (s : ByteArray) (i : Nat), s.size = i + 64 * k → (Pg.secs s i).length = k ∧ ∀ x ∈ Pg.secs s i, x.size = 64
  | 0, s, i, h => by
    rw [Pg.secs_end (by omega)]
    exact ⟨rfl, fun _ h => nomatch h⟩
  | k + 1, s, i, h => by
    rw [Pg.secs_next (by omega), Nat.min_eq_left (by omega)]
    obtain ⟨h1, h2⟩ := secs_len k s (i + 64) (by omega)
    refine ⟨by rw [List.length_cons, h1], fun x hx => ?_⟩
    rcases List.mem_cons.1 hx with rfl | hx
    · rw [Pg.ext_size s i (i + 64) (by omega)]
      omega
    · exact h2 x hx
theorem cut_secs (s : ByteArray) : Pg.cut s 64 [] = Pg.secs s 0 := by
  unfold Pg.secs
  have : s.extract 0 s.size = s := ext_list (by rw [ext_ext, List.drop_zero, List.take_of_length_le (by rw [← Sc.size_eq]; exact Nat.le_refl _)])
  rw [this]
theorem cut_len {x : ByteArray} (h : x.size = 512) : (Pg.cut x 64 []).length = 8 ∧ ∀ y ∈ Pg.cut x 64 [], y.size = 64 := by
  rw [cut_secs]
  exact secs_len 8 x 0 (by omega)
theorem secAt_size {x : ByteArray} (h : x.size = 512) (j : Nat) : (secAt x j).size = 64 := Sc.getD_size (cut_len h).2 j
theorem range_getD {α : Type} (l : List α) (d : α) : (List.range l.length).map (fun j => l.getD j d) = l := by
  refine List.ext_getElem (by simp) fun i h1 h2 => ?_
  rw [List.getElem_map, List.getElem_range, List.getD_eq_getElem?_getD, List.getElem?_eq_getElem h2]
  rfl
theorem secAt_all {x : ByteArray} (h : x.size = 512) : Pg.joined ((List.range 8).map (secAt x)) = x := by
  have := range_getD (Pg.cut x 64 []) Sc.zero64
  rw [(cut_len h).1] at this
  show Pg.joined ((List.range 8).map fun j => (Pg.cut x 64 []).getD j Sc.zero64) = x
  rw [this]
  exact Pg.sectors_joined x
theorem fill_64 {x : ByteArray} (h : x.size = 64) : Sc.fill x = x := ext_list (by rw [Sc.fill_list, h]; simp)
theorem wr_mem {n : Nat} {m : Mp} {q : Nat × ByteArray} (h : q ∈ wrAll n m) : ∃ p ∈ m, ∃ j, j < 8 ∧ q = (n + 8 * p.1 + j, secAt (pageOf p.1 p.2) j) := by
  obtain ⟨p, hp, hq⟩ := List.mem_flatMap.1 h
  obtain ⟨j, hj, rfl⟩ := List.mem_map.1 hq
  exact ⟨p, hp, j, List.mem_range.1 hj, rfl⟩
theorem wr_there {n : Nat} {m : Mp} {p : Nat × Sheet} (hp : p ∈ m) {j : Nat} (hj : j < 8) : (n + 8 * p.1 + j, secAt (pageOf p.1 p.2) j) ∈ wrAll n m :=
  List.mem_flatMap.2 ⟨p, hp, List.mem_map.2 ⟨j, List.mem_range.2 hj, rfl⟩⟩
/- what is kept of these writes leaves all other places, and the log -/
theorem keep_other {n : Nat} {m : Mp} {l : List (Nat × ByteArray)} (hl : ∀ q ∈ l, q ∈ wrAll n m) (f : Nat → Bool) (k : Nat) (ks : List ByteArray) {x : Nat} (hx : ∀ p ∈ m, x < n + 8 * p.1 ∨ n + 8 * p.1 + 8 ≤ x) : (Sc.keepI f l k ks).getD x Sc.zero64 = ks.getD x Sc.zero64 := by
  rw [List.getD_eq_getElem?_getD, Sc.keepI_apart f x l k ks (fun q hq e => by
    obtain ⟨p, hp, j, hj, rfl⟩ := wr_mem (hl q hq)
    have := hx p hp
    simp only at e
    omega), ← List.getD_eq_getElem?_getD]
theorem keep_log {n : Nat} {m : Mp} {l : List (Nat × ByteArray)} (hl : ∀ q ∈ l, q ∈ wrAll n m) (f : Nat → Bool) (k : Nat) (ks : List ByteArray) {x : Nat} (hx : x < n) : (Sc.keepI f l k ks).getD x Sc.zero64 = ks.getD x Sc.zero64 :=
  keep_other hl f k ks (fun p _ => .inl (by omega))
theorem keep_plc {n : Nat} {m : Mp} {l : List (Nat × ByteArray)} (hl : ∀ q ∈ l, q ∈ wrAll n m) (f : Nat → Bool) (k : Nat) (ks : List ByteArray) {i : Nat} (hi : get m i = none) (hu : Up m) : plc (Sc.keepI f l k ks) n i = plc ks n i :=
  plc_same fun j hj => keep_other hl f k ks (fun p hp => by
    have : p.1 ≠ i := fun e => by
      have h1 := mem_get hu hp
      rw [e, hi] at h1
      cases h1
    omega)
/- all of them kept: the pages are at their places -/
theorem kept_plc {n : Nat} {m : Mp} (hu : Up m) (ks : List ByteArray) {p : Nat × Sheet} (hp : p ∈ m) (hf : p.2.Fine) (hl : n + 8 * p.1 + 8 ≤ ks.length) (k : Nat) : plc (Sc.keepI (fun _ => true) (wrAll n m) k ks) n p.1 = pageOf p.1 p.2 := by
  have h512 := pageOf_size (i := p.1) hf
  unfold plc
  rw [← secAt_all h512]
  refine congrArg _ (List.map_congr_left fun j hj => ?_)
  have hj8 := List.mem_range.1 hj
  rw [List.getD_eq_getElem?_getD, Sc.keepI_last _ _ _ _ (by omega)]
  obtain ⟨q, hq, h1, h2⟩ := last_mem (n + 8 * p.1 + j) (wrAll n m) (ks.getD (n + 8 * p.1 + j) Sc.zero64) ⟨_, wr_there hp hj8, rfl⟩
  obtain ⟨p', hp', j', hj', rfl⟩ := wr_mem hq
  simp only at h1
  have e1 : p'.1 = p.1 := by omega
  have e2 : j' = j := by omega
  have h3 := mem_get hu hp'
  rw [e1, mem_get hu hp] at h3
  have e3 : p'.2 = p.2 := (Option.some.inj h3).symm
  rw [h2]
  show secAt (pageOf p'.1 p'.2) j' = _
  rw [e1, e2, e3]
/- the log's part is as it was -/
theorem On.low {ks ks' : List ByteArray} {n e : Nat} {b : ByteArray} (h : On ks 0 n e b) (hl : ks'.length = ks.length) (ho : ∀ x, x < n → ks'.getD x Sc.zero64 = ks.getD x Sc.zero64) : On ks' 0 n e b := by
  have h2 := h.two
  have hr := h.room
  refine ⟨?_, fun i j hj hi => ?_, h.room, by rw [hl]; exact h.fits, h.two, h.most⟩
  · unfold HeadIs
    rw [ho 0 (by omega)]
    exact h.head
  · rw [ho (0 + 1 + i) (by rw [← Sc.size_eq] at hi; omega)]
    exact h.holds i j hj hi
end Pd
