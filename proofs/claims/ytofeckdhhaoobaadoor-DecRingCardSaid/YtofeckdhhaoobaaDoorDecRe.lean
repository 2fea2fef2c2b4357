/- Walks of dec.after: all else. -/
import Derived.Test.YtofeckdhhaoobaaDoorDecR
namespace Go.Proofs.YtofeckdhhaoobaaDoor
open Go.RowKit LM

set_option maxHeartbeats 8000000 in
theorem after_hi (st c : Int) (w : World) (h0 : 0 ≤ st) (h9 : st ≤ 9) (n1 : c ≠ 43) (n2 : c ≠ 45) (n3 : c ≠ 46) (n4 : c ≠ 69) (n5 : c ≠ 101) (n6 : 57 < c) : Calls Tryd.prog 74 #[.int .i64 st, .int .i32 c] w fun r w' => r = .returned (.int .i64 0) ∧ Below w.heap.size w w' := by
  have hc : st = 0 ∨ st = 1 ∨ st = 2 ∨ st = 3 ∨ st = 4 ∨ st = 5 ∨ st = 6 ∨ st = 7 ∨ st = 8 ∨ st = 9 := by omega
  have e2 : ¬ c = 48 := by omega
  have e3 : 48 ≤ c := by omega
  have e4 : ¬ c ≤ 57 := by omega
  clear h0 h9
  rcases hc with rfl | rfl | rfl | rfl | rfl | rfl | rfl | rfl | rfl | rfl
  all_goals
    ( go_enter Tryd.func74, Tryd.ntmps74
      go_wp2
      go_ret
      exact ⟨rfl, Below.refl _ _⟩)
end Go.Proofs.YtofeckdhhaoobaaDoor
