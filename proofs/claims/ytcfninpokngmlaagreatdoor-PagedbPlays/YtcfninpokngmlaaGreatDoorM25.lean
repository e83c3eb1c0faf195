/- Proved: what the law's helper does answers, and leaves (stage 10). -/
import Derived.Test.YtcfninpokngmlaaGreatDoorM21
import Derived.Test.YtcfninpokngmlaaGreatDoorM22
import Derived.Test.YtcfninpokngmlaaGreatDoorM23
import Derived.Test.YtcfninpokngmlaaGreatDoorM24
namespace Go.Proofs.YtcfninpokngmlaaGreatDoor
open Go.RowKit
theorem does_any {W w : World} {q h K cnt n : Nat} (x : Actv) (hx : x.Fits W) (hP : PS W w q h K cnt n) (L : Lim W K cnt n) : Calls Tryz.prog 10 #[ptr q, .agg x.cells] w (DoPost W q h K cnt n) := by
  obtain ⟨xk, xi, xd, xs, ka, kl, kc, m⟩ := x
  have hxs : xs.size ≤ 9223372036854775807 := hx.s
  show Calls Tryz.prog 10 #[ptr q, .agg (acA xk xi xd xs (.slice ka kl kc))] w (DoPost W q h K cnt n)
  rcases hP with ⟨A, tv, v, d, S, mk, sp, E, H⟩ | ⟨A, t, bt, v, d, S, T, sp, tm, tb, mk, E, H⟩
  · by_cases h0 : xk = 0
    · rw [h0]; exact does_c0 xi xd xs ka kl kc hxs H L
    · by_cases h1 : xk = 1
      · rw [h1]; exact does_c1 xi xd xs ka kl kc hxs H L
      · by_cases h2 : xk = 2
        · rw [h2]; exact does_c2 xi xd xs ka kl kc hxs H L
        · by_cases h3 : xk = 3
          · rw [h3]; exact does_c3 xi xd xs ka kl kc hxs H L
          · by_cases h4 : xk = 4
            · rw [h4]; exact does_c4 xi xd xs ka kl kc hxs H L
            · by_cases h5 : xk = 5
              · rw [h5]; exact does_c5 xi xd xs ka kl kc hxs H L
              · by_cases h6 : xk = 6
                · rw [h6]; exact does_c6 xi xd xs ka kl kc hxs H L
                · by_cases h7 : xk = 7
                  · rw [h7]; exact does_c7 xi xd xs ka kl kc hxs H L
                  · by_cases h10 : xk = 10
                    · rw [h10]; exact does_c10 xi xd xs ka kl kc hxs H L
                    · by_cases h8 : xk = 8
                      · rw [h8]; exact does_c8 xi xd xs ka kl kc hxs H L
                      · exact does_c9 xk xi xd xs ka kl kc hxs m hx.kl hx.kc hx.ks h0 h1 h2 h3 h4 h5 h6 h7 h10 h8 H L
  · by_cases h0 : xk = 0
    · rw [h0]; exact does_o0 xi xd xs ka kl kc hxs H L
    · by_cases h1 : xk = 1
      · rw [h1]; exact does_o1 xi xd xs ka kl kc hxs H L
      · by_cases h2 : xk = 2
        · rw [h2]; exact does_o2 xi xd xs ka kl kc hxs H L
        · by_cases h3 : xk = 3
          · rw [h3]; exact does_o3 xi xd xs ka kl kc hxs H L
          · by_cases h4 : xk = 4
            · rw [h4]; exact does_o4 xi xd xs ka kl kc hxs H L
            · by_cases h5 : xk = 5
              · rw [h5]; exact does_o5 xi xd xs ka kl kc hxs H L
              · by_cases h6 : xk = 6
                · rw [h6]; exact does_o6 xi xd xs ka kl kc hxs H L
                · by_cases h7 : xk = 7
                  · rw [h7]; exact does_o7 xi xd xs ka kl kc hxs H L
                  · by_cases h10 : xk = 10
                    · rw [h10]; exact does_o10 xi xd xs ka kl kc hxs H L
                    · by_cases h8 : xk = 8
                      · rw [h8]; exact does_o8 xi xd xs ka kl kc hxs H L
                      · exact does_o9 xk xi xd xs ka kl kc hxs m hx.kl hx.kc hx.ks h0 h1 h2 h3 h4 h5 h6 h7 h10 h8 H L
end Go.Proofs.YtcfninpokngmlaaGreatDoor
