/- Walk of the law DecOfs. -/
import Derived.Test.YtofeckdhhaoobaaDoorDecU
import Derived.Test.YtofeckdhhaoobaaDoorDecL
import Derived.Test.YtofeckdhhaoobaaDoorDecOr
namespace Go.Proofs.YtofeckdhhaoobaaDoor
open Go.RowKit LM

theorem sameB_self2 (s : Bool) (e : Int) (l : List Nat) : sameB s s e e l l = true := by simp [sameB]

set_option maxHeartbeats 8000000 in
set_option maxRecDepth 20000 in
theorem ofs_walk {n : Int} (w : World) (htab : Tab w) (hwf : (Lit.int .i64 n).wf = true) :
    Calls Tryd.prog 4 #[.int .i64 n] w fun r w' => r = .returned (.bool true) ∧ Below w.heap.size w w' := by
  have hn := bounds_i64 hwf
  have hO := fun W ht => DOf_any n W hn.1 (by omega) ht
  have hR := fun W => ROf_any n W hn.1 (by omega)
  have hd9 : (dg 1000000000 (pl (decide (n < 0)) n.natAbs 0).m).length ≤ 9223372036854775807 := by
    have h1 := pl_dl (s := decide (n < 0)) (v := n.natAbs) (by omega)
    have h2 := dg_len_9 (pl (decide (n < 0)) n.natAbs 0).m
    omega
  generalize pl (decide (n < 0)) n.natAbs 0 = p at *
  have hS := fun a1 a4 c1 c4 W r1 r2 => sameD_any p.neg p.neg a1 a4 c1 c4 (dg 1000000000 p.m) (dg 1000000000 p.m) p.e p.e W hd9 hd9 r1 r2
  have he : sameB p.neg p.neg p.e p.e (dg 1000000000 p.m) (dg 1000000000 p.m) = true := sameB_self2 _ _ _
  rw [he] at hS
  have HO := Lib.hid hO; have HR := Lib.hid hR; have HS := Lib.hid hS
  clear hO hR hS hd9 he hn hwf
  go_enter Tryd.func4, Tryd.ntmps4
  go_wp2_with fail
  refine (shown_any _ htab).mono ?_
  rintro r w1 ⟨rfl, b1⟩
  go_wp2_with fail
  refine (HO.out _ (htab.below b1)).mono ?_
  rintro r w2 ⟨a2, c2, rfl, ho2, hb2⟩
  have b2 := b1.trans (hb2.mono b1.size)
  go_wp2_with fail
  refine (HR.out _).mono ?_
  rintro r w3 ⟨a3, c3, rfl, ho3, hb3⟩
  have b3 := b2.trans (hb3.mono b2.size)
  go_wp2_with fail
  refine (HS.out a2 a3 c2 c3 _ (ho2.rd.below hb3) ho3.rd).mono ?_
  rintro r w4 ⟨rfl, hb4⟩
  have b4 := b3.trans (hb4.mono b3.size)
  go_wp2
  go_ret
  exact ⟨rfl, b4⟩
end Go.Proofs.YtofeckdhhaoobaaDoor
