/- Walks: the law LimbNorms. -/
import Derived.Test.YteipkibaoikilaaDoorLimbV
namespace Go.Proofs.YteipkibaoikilaaDoor
open Go.RowKit LM

set_option maxHeartbeats 8000000 in
set_option maxRecDepth 100000 in
theorem norms_main (a : Option Addr) (ca x : Nat) (l : List Nat) (w : World) (htab : Tab w) (h1 : l.length ≤ 40) (hx : x ≤ 18446744073709551615) (hlo : Lo 4294967296 l) (hrd : Rd w .u32 a l) :
    Calls Tryd.prog 3 #[.slice a l.length ca, .int .u64 x] w fun e w' => e = .returned (.bool true) ∧ Below w.heap.size w w' := by
  have hA := Nm.ofRow hlo hrd h1
  have hv : vl 1000000000 l < 1000000000 ^ 41 := by obtain ⟨_, _, _, _, _, _, h, _⟩ := hA; exact h
  have hxb : x < 1000000000 ^ 3 := by rw [show (1000000000 : Nat) ^ 3 = 1000000000000000000000000000 by decide]; omega
  have hl10 : (dg 10 (vl 1000000000 l)).length ≤ 140737488355300 := by
    have := dg10_le hlo l.length
    rw [List.take_length] at this; omega
  have hx10 : (dg 10 x).length ≤ 140737488355300 := Nat.le_trans (dg_len_of_lt (k := 20) (by omega) (by rw [show (10 : Nat) ^ 20 = 100000000000000000000 by decide]; omega)) (by omega)
  have HLO := Lib.hid hlo; have HT := Lib.hid htab; have HV := Lib.hid hv; have HXB := Lib.hid hxb; have HL10 := Lib.hid hl10; have HX10 := Lib.hid hx10
  clear htab hlo hv hxb hl10 hx10
  go_enter Tryd.func3, Tryd.ntmps3
  go_wp2_with fail
  refine (shown_any w HT.out).mono ?_
  rintro e w1 ⟨rfl, hb1⟩
  have hA1 := hA.below hb1
  have hrd1 := hrd.below hb1
  have bb := hb1
  clear hA hrd
  go_wp2_with fail
  refine (great_no a l.length ca w1 h1).mono ?_
  rintro e wq ⟨rfl, rfl⟩
  go_wp2_with fail
  refine (nNorm ca hA1).mono ?_
  rintro e w2 ⟨a2, c2, n2, rfl, hN, hb2⟩
  have hrd2 := hrd1.below hb2
  replace bb := bb.trans (hb2.mono bb.size)
  clear hb1 hb2 hA1 hrd1
  go_wp2_with fail
  refine (of_any a ca l w2 (by omega) HLO.out hrd2).mono ?_
  rintro e w3 ⟨a3, c3, rfl, ho3, hb3⟩
  have hN3 := hN.below hb3
  replace bb := bb.trans (hb3.mono bb.size)
  clear hN hb3 hrd2
  go_wp2_with fail
  refine (to_any a3 c3 (vl 1000000000 l) w3 HL10.out ho3.rd).mono ?_
  rintro e w4 ⟨a4, c4, rfl, ho4, hb4⟩
  have hN4 := hN3.below hb4
  have hP4 := Pn.ofOwn ho4 HV.out (by omega) (by omega)
  replace bb := bb.trans (hb4.mono bb.size)
  clear hN3 hb4 ho3 ho4
  go_wp2_with fail
  refine (nSameT c2 c4 hN4 hP4 rfl).mono ?_
  rintro e w5 ⟨rfl, hb5⟩
  replace bb := bb.trans (hb5.mono bb.size)
  clear hb5 hN4 hP4
  go_wp2_with fail
  refine (Of_any x w5 (by omega)).mono ?_
  rintro e w6 ⟨a6, c6, rfl, ho6, hb6⟩
  have hP6 := Pn.ofOwn ho6 HXB.out (by omega) (by omega)
  replace bb := bb.trans (hb6.mono bb.size)
  clear hb6 ho6
  go_wp2_with fail
  refine (Small_any x w6 (by omega)).mono ?_
  rintro e w7 ⟨a7, c7, rfl, ho7, hb7⟩
  have hP7 := hP6.below hb7
  replace bb := bb.trans (hb7.mono bb.size)
  clear hb7 hP6
  go_wp2_with fail
  refine (to_any a7 c7 x w7 HX10.out ho7.rd).mono ?_
  rintro e w8 ⟨a8, c8, rfl, ho8, hb8⟩
  have hP8 := hP7.below hb8
  have hQ8 := Pn.ofOwn ho8 HXB.out (by omega) (by omega)
  replace bb := bb.trans (hb8.mono bb.size)
  clear hb8 hP7 ho7 ho8
  go_wp2_with fail
  refine (nSameT c6 c8 hP8 hQ8 rfl).mono ?_
  rintro e w9 ⟨rfl, hb9⟩
  replace bb := bb.trans (hb9.mono bb.size)
  clear hb9 hP8 hQ8
  go_wp2
  go_ret
  exact ⟨rfl, bb⟩

set_option maxHeartbeats 4000000 in
theorem norms_g1 (a : Option Addr) (n ca x : Nat) (w : World) (htab : Tab w) (h1 : 40 < n) :
    Calls Tryd.prog 3 #[.slice a n ca, .int .u64 x] w fun e w' => e = .returned (.bool true) ∧ Below w.heap.size w w' := by
  have HT := Lib.hid htab
  clear htab
  go_enter Tryd.func3, Tryd.ntmps3
  go_wp2_with fail
  refine (shown_any w HT.out).mono ?_
  rintro e x1 ⟨rfl, bb⟩
  go_wp2_with fail
  refine (great_yes a n ca _ h1).mono ?_
  rintro e wq ⟨rfl, rfl⟩
  go_wp2
  go_ret
  exact ⟨rfl, bb⟩

theorem norms_walk {a : Option Addr} {n ca : Nat} {z : Int} (w : World) (htab : Tab w) (ha : IsRow w a n ca) (hz : (Lit.int .u64 z).wf = true) :
    Calls Tryd.prog 3 #[.slice a n ca, .int .u64 z] w fun e w' => e = .returned (.bool true) ∧ Below w.heap.size w w' := by
  obtain ⟨l, rfl, lo, rd, _⟩ := ha
  have hb := bounds_u64 hz
  obtain ⟨x, rfl⟩ : ∃ x : Nat, z = x := ⟨z.toNat, by omega⟩
  rcases Nat.lt_or_ge 40 l.length with h1 | h1
  · exact norms_g1 _ _ _ _ w htab h1
  · exact norms_main _ _ _ _ w htab h1 (by omega) lo rd
end Go.Proofs.YteipkibaoikilaaDoor
