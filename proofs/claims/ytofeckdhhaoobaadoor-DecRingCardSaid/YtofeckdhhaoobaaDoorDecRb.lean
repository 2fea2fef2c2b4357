/- Walks of dec.after: 0, e, E. -/
import Derived.Test.YtofeckdhhaoobaaDoorDecR
namespace Go.Proofs.YtofeckdhhaoobaaDoor
open Go.RowKit LM

set_option maxHeartbeats 8000000 in
theorem after_k2 (st c : Int) (w : World) (h0 : 0 ≤ st) (h9 : st ≤ 9) (hcc : c = 48 ∨ c = 69 ∨ c = 101) : Calls Tryd.prog 74 #[.int .i64 st, .int .i32 c] w fun r w' => r = .returned (.int .i64 (nx st c)) ∧ Below w.heap.size w w' := by
  have hD := fun W => afterDigit_any st W h0 h9
  have HD := Lib.hid hD
  clear hD
  have hc : st = 0 ∨ st = 1 ∨ st = 2 ∨ st = 3 ∨ st = 4 ∨ st = 5 ∨ st = 6 ∨ st = 7 ∨ st = 8 ∨ st = 9 := by omega
  clear h0 h9
  rcases hc with rfl | rfl | rfl | rfl | rfl | rfl | rfl | rfl | rfl | rfl <;> rcases hcc with rfl | rfl | rfl
  all_goals
    ( go_enter Tryd.func74, Tryd.ntmps74
      first
        | ( go_wp2
            go_ret
            exact ⟨rfl, Below.refl _ _⟩)
        | ( go_wp2_with (go_at_call 100; refine (HD.out _).mono ?_)
            rintro r w1 ⟨rfl, hb⟩
            go_wp2
            go_ret
            exact ⟨rfl, hb⟩))
end Go.Proofs.YtofeckdhhaoobaaDoor
