/- Walks: the law's own: of, to. -/
import Derived.Test.YteipkibaoikilaaDoorLimbV
namespace Go.Proofs.YteipkibaoikilaaDoor
open Go.RowKit LM

set_option maxHeartbeats 400000 in
theorem of_any (a : Option Addr) (ca : Nat) (l : List Nat) (w : World) (hl : l.length ≤ 1048576) (hlo : Lo 4294967296 l) (hrd : Rd w .u32 a l) :
    Calls Tryd.prog 19 #[.slice a l.length ca] w fun e w' => ∃ a' cap', e = .returned (.slice a' (dg 10 (vl 1000000000 l)).length cap') ∧ Own w' w.heap.size 5 .u8 a' cap' (dg 10 (vl 1000000000 l)) ∧ Below w.heap.size w w' := by
  have HF := Lib.hid (From_any a ca l w hl hlo hrd)
  clear hlo hrd
  go_enter Tryd.func19, Tryd.ntmps19
  go_wp2_with fail
  refine HF.out.mono ?_
  rintro e w1 ⟨a1, c1, rfl, ho, hb⟩
  go_wp2
  go_ret
  exact ⟨a1, c1, rfl, ho, hb⟩
set_option maxHeartbeats 400000 in
theorem to_any (a : Option Addr) (ca v : Nat) (w : World) (hl : (dg 10 v).length ≤ 140737488355300) (hrd : Rd w .u8 a (dg 10 v)) :
    Calls Tryd.prog 18 #[.slice a (dg 10 v).length ca] w fun e w' => ∃ a' cap', e = .returned (.slice a' (dg 1000000000 v).length cap') ∧ Own w' w.heap.size 61 .u32 a' cap' (dg 1000000000 v) ∧ Below w.heap.size w w' := by
  have HF := Lib.hid (To_any a ca v w hl hrd)
  clear hrd
  go_enter Tryd.func18, Tryd.ntmps18
  go_wp2_with fail
  refine HF.out.mono ?_
  rintro e w1 ⟨a1, c1, rfl, ho, hb⟩
  go_wp2
  go_ret
  exact ⟨a1, c1, rfl, ho, hb⟩
end Go.Proofs.YteipkibaoikilaaDoor
