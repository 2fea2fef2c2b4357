/- Walks of dec.after: digits but for 0. -/
import Derived.Test.YtofeckdhhaoobaaDoorDecR
namespace Go.Proofs.YtofeckdhhaoobaaDoor
open Go.RowKit LM

set_option maxHeartbeats 8000000 in
theorem after_dig (st c : Int) (w : World) (h0 : 0 ≤ st) (h9 : st ≤ 9) (d1 : 49 ≤ c) (d2 : c ≤ 57) : Calls Tryd.prog 74 #[.int .i64 st, .int .i32 c] w fun r w' => r = .returned (.int .i64 (nd st)) ∧ Below w.heap.size w w' := by
  have hD := fun W => afterDigit_any st W h0 h9
  have HD := Lib.hid hD
  clear hD
  have hc : st = 0 ∨ st = 1 ∨ st = 2 ∨ st = 3 ∨ st = 4 ∨ st = 5 ∨ st = 6 ∨ st = 7 ∨ st = 8 ∨ st = 9 := by omega
  have e1 : ¬ c = 45 := by omega
  have e2 : ¬ c = 48 := by omega
  have e3 : 48 ≤ c := by omega
  clear h0 h9
  rcases hc with rfl | rfl | rfl | rfl | rfl | rfl | rfl | rfl | rfl | rfl
  all_goals
    ( go_enter Tryd.func74, Tryd.ntmps74
      go_wp2_with (go_at_call 100; refine (HD.out _).mono ?_)
      rintro r w1 ⟨rfl, hb⟩
      go_wp2
      go_ret
      exact ⟨rfl, hb⟩)
end Go.Proofs.YtofeckdhhaoobaaDoor
