/- Proved: what an array of 32 bytes and a text that come in are read as. Conditions: the row's own. -/
import Derived.Test.YtaeeibllmpaebaaDoorFrame
import Derived.Test.YtaeeibllmpaebaaDoorTexts
import Derived.ChangeMaps5
namespace Go.Proofs.YtaeeibllmpaebaaDoor
open Go.RowKit
theorem mapM_mem {α β : Type} {f : α → Option β} : ∀ (L : List α) (ys : List β), L.mapM f = some ys → ∀ x ∈ L, ∃ y, f x = some y
  | [], _, _, x, hx => by cases hx
  | a :: L, ys, h, x, hx => by
    rw [List.mapM_cons] at h
    simp only [bind, Option.bind_eq_some_iff, pure, Option.some.injEq] at h
    obtain ⟨y, hy, zs, hzs, rfl⟩ := h
    rcases List.mem_cons.1 hx with rfl | hx
    · exact ⟨y, hy⟩
    · exact mapM_mem L zs hzs x hx
def natOf : Value → Nat
  | .int _ n => n.toNat
  | _ => 0
theorem bytes32_of {H : Type} {enc : TypeId × Value → H} {W : World} {base : Nat} {v : Value} {d : DataW H} {p : List MemPlace} (hval : Value.okWide Tryd.prog W .any base 24 v) (h : DataW.Trod enc Tryd.prog W 0 (fun _ => true) true 24 v d p) :
    ∃ ds : List Nat, v = .agg (arr8 ds) ∧ Bl.Bytes8 32 ds := by
  obtain ⟨cs, rfl, hsz, _⟩ : ∃ cs, v = .agg cs ∧ cs.size = Tryd.prog.cellsOf 24 ∧ Row.okWide Tryd.prog W .any base 24 cs := by
    simpa [Value.okWide, Tryd.underlying24] using hval
  have h24 : Tryd.prog.cellsOf 24 = 32 := by kernel_rfl
  have h5 : Tryd.prog.cellsOf 5 = 1 := by kernel_rfl
  rw [h24] at hsz
  obtain ⟨fuel, hf⟩ := h
  cases fuel with
  | zero => simp [DataW.trod] at hf
  | succ m =>
    rw [DataW.trod_step] at hf
    unfold DataW.trodStep at hf
    simp only [Tryd.underlying24, Value.cells] at hf
    rw [if_pos (by rw [h24]; simpa using hsz)] at hf
    simp only [Option.map_eq_some_iff] at hf
    obtain ⟨ys, hy, _⟩ := hf
    have each : ∀ i, i < 32 → ∃ n : Int, cs[i]? = some (.int .u8 n) ∧ 0 ≤ n ∧ n < 256 := fun i hi => by
      obtain ⟨y, hy'⟩ := mapM_mem _ ys hy i (by simpa using hi)
      obtain ⟨n, e, _, hw⟩ := DataW.trod_int Tryd.underlying5 hy'
      rw [h5, Nat.mul_one] at e
      have e2 : (cs.toList.drop i)[0]? = some (.int .u8 n) := by
        have := congrArg (fun l : List Value => l[0]?) e
        simpa using this
      rw [List.getElem?_drop, Nat.add_zero, Array.getElem?_toList] at e2
      have hb := wf_u8 hw
      exact ⟨n, e2, hb.1, hb.2⟩
    refine ⟨cs.toList.map natOf, ?_, by simp [hsz], fun x hx => ?_⟩
    · congr 1
      refine Array.ext_getElem? fun i => ?_
      unfold arr8
      have e0 : (List.map V8 (List.map natOf cs.toList)).toArray[i]? = (List.map V8 (List.map natOf cs.toList))[i]? := List.getElem?_toArray
      rw [e0, List.getElem?_map, List.getElem?_map, Array.getElem?_toList]
      by_cases hi : i < 32
      · obtain ⟨n, e, h0, _⟩ := each i hi
        rw [e]
        show some (Value.int .u8 n) = some (Value.int .u8 ((n.toNat : Nat) : Int))
        rw [Int.toNat_of_nonneg h0]
      · rw [Array.getElem?_eq_none (by omega)]; rfl
    · obtain ⟨u, hu, rfl⟩ := List.mem_map.1 hx
      obtain ⟨i, hi, rfl⟩ := List.getElem_of_mem hu
      obtain ⟨n, e, h0, h1⟩ := each i (by simpa [hsz] using hi)
      rw [Array.getElem?_eq_getElem (by simpa using hi)] at e
      rw [Array.getElem_toList, Option.some.inj e]
      show n.toNat < 256
      omega
theorem text_of {H : Type} {enc : TypeId × Value → H} {W : World} {base : Nat} {v : Value} {d : DataW H} {p : List MemPlace} (hval : Value.okWide Tryd.prog W .any base 9 v) (h : DataW.Trod enc Tryd.prog W 0 (fun _ => true) true 9 v d p) :
    ∃ l : List Nat, v = .string (Bl.toBytes l) ∧ (∀ x ∈ l, x < 256) ∧ l.length ≤ 9223372036854775807 := by
  obtain ⟨s, rfl, _, _, hs⟩ := Go.ChangeMaps.open_string Tryd.underlying9 hval h
  unfold maxLen at hs
  refine ⟨s.data.toList.map UInt8.toNat, ?_, fun x hx => ?_, ?_⟩
  · congr 1
    apply ByteArray.ext
    simp [Bl.toBytes, Function.comp_def]
  · obtain ⟨u, _, rfl⟩ := List.mem_map.1 hx
    exact u.toNat_lt
  · have : s.data.size ≤ 9223372036854775807 := by
      have e : s.data.size = s.size := rfl
      omega
    simpa using this
end Go.Proofs.YtaeeibllmpaebaaDoor
