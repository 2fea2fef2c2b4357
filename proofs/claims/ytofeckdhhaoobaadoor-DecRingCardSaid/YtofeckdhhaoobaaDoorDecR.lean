/- Walk of dec.after, afterDigit, mayEnd: the states of a number's text. -/
import Derived.Test.YtofeckdhhaoobaaDoorDecX
namespace Go.Proofs.YtofeckdhhaoobaaDoor
open Go.RowKit LM

def nd (st : Int) : Int := if st = 1 ∨ st = 2 ∨ st = 4 then 4 else if st = 5 ∨ st = 6 then 6 else if st = 7 ∨ st = 8 ∨ st = 9 then 9 else 0
def nx (st c : Int) : Int :=
  if c = 45 ∧ st = 1 then 2
  else if c = 48 ∧ (st = 1 ∨ st = 2) then 3
  else if 48 ≤ c ∧ c ≤ 57 then nd st
  else if c = 46 ∧ (st = 3 ∨ st = 4) then 5
  else if (c = 101 ∨ c = 69) ∧ (st = 3 ∨ st = 4 ∨ st = 6) then 7
  else if (c = 43 ∨ c = 45) ∧ st = 7 then 8
  else 0

theorem ret_i64 {x y : Int} (h : x = y) : Ending.returned (.int .i64 x) = Ending.returned (.int .i64 y) := by rw [h]

set_option maxHeartbeats 4000000 in
theorem afterDigit_any (st : Int) (w : World) (h0 : 0 ≤ st) (h9 : st ≤ 9) : Calls Tryd.prog 100 #[.int .i64 st] w fun r w' => r = .returned (.int .i64 (nd st)) ∧ Below w.heap.size w w' := by
  have hc : st = 0 ∨ st = 1 ∨ st = 2 ∨ st = 3 ∨ st = 4 ∨ st = 5 ∨ st = 6 ∨ st = 7 ∨ st = 8 ∨ st = 9 := by omega
  clear h0 h9
  rcases hc with rfl | rfl | rfl | rfl | rfl | rfl | rfl | rfl | rfl | rfl <;>
  · go_enter Tryd.func100, Tryd.ntmps100
    go_wp2
    go_ret
    exact ⟨rfl, Below.refl _ _⟩

set_option maxHeartbeats 4000000 in
theorem mayEnd_any (st : Int) (w : World) (h0 : 0 ≤ st) (h9 : st ≤ 9) : Calls Tryd.prog 75 #[.int .i64 st] w fun r w' => r = .returned (.bool (decide (st = 3 ∨ st = 4 ∨ st = 6 ∨ st = 9))) ∧ Below w.heap.size w w' := by
  have hc : st = 0 ∨ st = 1 ∨ st = 2 ∨ st = 3 ∨ st = 4 ∨ st = 5 ∨ st = 6 ∨ st = 7 ∨ st = 8 ∨ st = 9 := by omega
  clear h0 h9
  rcases hc with rfl | rfl | rfl | rfl | rfl | rfl | rfl | rfl | rfl | rfl <;>
  · go_enter Tryd.func75, Tryd.ntmps75
    go_wp2
    go_ret
    exact ⟨rfl, Below.refl _ _⟩

end Go.Proofs.YtofeckdhhaoobaaDoor
