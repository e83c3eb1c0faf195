/- Proved: what maps.Copy makes of two maps of pages, whatever order the map gave. -/
import Derived.Test.YtcfninpokngmlaaGreatDoorDRise
namespace Go.Proofs.YtcfninpokngmlaaGreatDoor
open Go.RowKit Go.Maps
theorem copied_all {d s o : Pd.Mp} {left : Lit → Bool} (hd : Pd.Up d) (hs : Pd.Up s) (ho : Pd.Up o) (h : ∀ i, Pd.get o i = if left (keyL i) then Pd.get d i else (Pd.get s i).or (Pd.get d i)) (hl : ∀ kl, left kl = false) : o = Pd.copy d s :=
  Pd.mp_ext ho (Pd.Up.copy s hd) (fun i => by
    rw [h i, hl, Pd.get_copy i s hd hs]
    rfl)
set_option maxHeartbeats 4000000 in
set_option maxRecDepth 100000 in
theorem mcopy_any (bd bs : Nat) (d s : Pd.Mp) (w : World) (hD : MpAt w bd d) (hS : MpAt w bs s) (hne : bd ≠ bs) (hl : d.length + s.length ≤ 100000) (hk : ∀ p ∈ s, p.1 ≤ 1000000) :
    Calls Tryz.prog 76 #[.map (some bd), .map (some bs)] w fun e w' => e = .returned (.tuple #[]) ∧ MpAt w' bd (Pd.copy d s) ∧ w.grownBy w' (some bd) := by
  have hbd := hD.lt
  have hbs := hS.lt
  have hown := hS.own
  have hsz := size_dM s
  have HD : Hid (MpAt w bd d) := hD
  have HS : Hid (MpAt w bs s) := hS
  clear hD hS
  go_enter Tryz.func76, Tryz.ntmps76
  go_wp2_with (first
    | (at_range; refine wpList_range_own _ rfl _ 59 rfl 3 102 lawI Tryz.underlying59 shR bs s.length _ rfl hown ?_; intro w0 hrg0 hg0 hs0)
    | go_in)
  go_frame
  go_loopw [8] (fun _ wr => ∃ (left : Lit → Bool) (cnt : Nat) (o : Pd.Mp), wr.ranges Tryz.prog 3 shR bs w.heap.size s.length (dM s) left cnt ∧ cnt ≤ s.length ∧
      MpAt wr bd o ∧ o.length + cnt ≤ d.length + s.length ∧ (∀ i, Pd.get o i = if left (keyL i) then Pd.get d i else (Pd.get s i).or (Pd.get d i)) ∧ w.grownBy wr (some bd))
    (fun _ wr => wr.rangeLeft bs w.heap.size)
  case atStart =>
    refine ⟨_, _, d, hrg0, by rw [hsz]; exact Nat.le_refl _, HD.out.keep (hg0.block bd hbd (by simp)), by rw [hsz]; exact Nat.le_refl _, fun i => ?_, hg0.but _⟩
    rw [has_dM]
    cases Pd.get s i <;> rfl
  case round =>
    obtain ⟨left, cnt, o, hrg, hcs, hout, hol, hM, hgw⟩ := hrel
    have HMM : Hid (∀ i, Pd.get o i = if left (keyL i) then Pd.get d i else (Pd.get s i).or (Pd.get d i)) := hM
    clear hM
    go_wp2_with (first
      | (at_next; refine wpList_next_ranges _ rfl _ rfl 3 lawI shR id shV (fun key _ _ => ⟨key, rfl⟩) (fun v _ hv => by obtain ⟨x, rfl, _⟩ := shR_inv hv; exact ⟨x, rfl⟩) bs w.heap.size s.length _ _ _ rfl hrg ?_ ?_)
      | go_in)
    · intro hc0 hl0
      go_wp2
      go_end0
      have e := copied_all HD.out.up HS.out.up hout.up HMM.out hl0
      subst e
      exact ⟨rfl, hout, hgw⟩
    · intro x c kl yd yp w1 cnt1 hkey hlk hv hat hrg1 hlt hg1 hs1 hen
      obtain ⟨z, hz, hkl, _⟩ := Maps.keyOf_int_inv Tryz.underlying3 hkey
      obtain ⟨p, hp, hkp⟩ := has_key (has_true_of_atKey hat)
      rw [hkl] at hkp
      have hzp : z = (p.1 : Int) := by
        unfold keyL at hkp
        simpa using hkp
      rw [hzp] at hz hkl
      have hx : x = .int .i64 (p.1 : Int) := hz
      have hkl2 : kl = keyL p.1 := hkl
      clear hz hkl hkp hzp
      rw [hkl2] at hlk hrg1 hat
      have hgp := Pd.mem_get HS.out.up hp
      have hcp : c = p.2 := by
        obtain ⟨c', e1, e2⟩ := shR_inv hv
        have h1 := hat (shD c)
        rw [at_dM, hgp] at h1
        rw [shR_mk] at hv
        have h2 := congrArg Prod.fst (Option.some.inj hv)
        simp only at h1 h2
        exact shD_inj (h2.trans h1.symm)
      have hki : p.1 ≤ 9223372036854775807 := by have := hk p hp; omega
      have hnd : bd ≠ w.heap.size := by omega
      have hout1 : MpAt w1 bd o := hout.keep (hg1.block bd (by have := hgw.size; omega) (fun e => hnd (Option.some.inj e)))
      rw [hx] at hen
      have HP : Hid (Pd.get s p.1 = some p.2 ∧ left (keyL p.1) = true ∧ c = p.2) := ⟨hgp, hlk, hcp⟩
      subst hcp
      clear hs1 hx hgp hlk hat hv hkey hkl2
      have hlo : o.length ≤ 100000 := by omega
      unfold shV at hen
      have hg1b : w.grownBy w1 (some bd) := hgw.andThen hg1 (fun j hj => .inl (by cases hj; exact Nat.le_refl _))
      go_wp2_with (first
        | (at_mapUpdate; refine mp_put _ rfl _ _ _ rfl bd o rfl (hout1.alloc _) hlo p.1 hki rfl p.2 rfl ?_; intro w2 hM2 hg2; go_frame)
        | go_in)
      have hrg2 := (hrg1.alloc _).kept hg2 (fun e => hne (Option.some.inj e).symm) (fun e => by have := Option.some.inj e; omega)
      go_roundw
      case rel =>
        refine ⟨_, cnt1, _, hrg2, by omega, hM2, ?_, fun i => ?_, ?_⟩
        · have := Pd.set_length_le p.2 p.1 o
          omega
        · rw [Pd.get_set p.2 p.1 i hout.up, HMM.out i]
          show _ = if (left (keyL i) && !(keyL i).sameKey (keyL p.1)) then _ else _
          rw [same_key]
          by_cases e : p.1 = i
          · subst e
            rw [if_pos rfl, decide_eq_true rfl, HP.out.1]
            simp
          · rw [if_neg e, decide_eq_false (fun h => e h.symm)]
            simp
        · exact (hg1b.andThen (World.grownBy_alloc w1 _ none) (fun j hj => by cases hj)).andThen hg2 (fun j hj => .inr hj)
      case measure => rw [hrg2.left_eq, hrg.left_eq]; exact hlt
end Go.Proofs.YtcfninpokngmlaaGreatDoor
