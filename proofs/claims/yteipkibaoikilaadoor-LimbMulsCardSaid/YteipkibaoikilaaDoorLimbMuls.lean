/- Walks: the laws LimbMuls. -/
import Derived.Test.YteipkibaoikilaaDoorLimbW
namespace Go.Proofs.YteipkibaoikilaaDoor
open Go.RowKit LM

set_option maxHeartbeats 16000000 in
set_option maxRecDepth 100000 in
theorem muls_main (aA aB : Option Addr) (nA nB cA cB vA vB : Nat) (w : World) (htab : Tab w) (has : nA ≤ 40) (hbs : nB ≤ 40) (hA : Nm w aA nA vA 41) (hB : Nm w aB nB vB 41) :
    Calls Tryd.prog 6 #[.slice aA nA cA, .slice aB nB cB] w fun e w' => e = .returned (.bool true) ∧ Below w.heap.size w w' := by
  have HT := Lib.hid htab
  clear htab
  go_enter Tryd.func6, Tryd.ntmps6
  go_wp2_with fail
  refine (shown_any _ HT.out).mono ?_
  rintro e x1 ⟨rfl, hb1⟩
  replace hA := hA.below hb1
  replace hB := hB.below hb1
  have bb := hb1
  clear hb1
  go_wp2_with fail
  refine (great_no aA nA cA _ has).mono ?_
  rintro e wq ⟨rfl, rfl⟩
  go_wp2_with fail
  refine (great_no aB nB cB _ hbs).mono ?_
  rintro e wq ⟨rfl, rfl⟩
  go_wp2_with fail
  refine (nMul cA cB hA hB (by omega)).mono ?_
  rintro e x4 ⟨aS, cS, nS, rfl, hS, hb4⟩
  replace hA := hA.below hb4
  replace hB := hB.below hb4
  replace bb := bb.trans (hb4.mono bb.size)
  clear hb4
  go_wp2_with fail
  refine (dOf cA hA (by omega)).mono ?_
  rintro e x5 ⟨aX, cX, nX, rfl, hX, hb5⟩
  replace hB := hB.below hb5
  replace hS := hS.below hb5
  replace bb := bb.trans (hb5.mono bb.size)
  clear hb5 hA
  go_wp2_with fail
  refine (dOf cB hB (by omega)).mono ?_
  rintro e x6 ⟨aY, cY, nY, rfl, hY, hb6⟩
  replace hS := hS.below hb6
  replace hX := hX.below hb6
  replace bb := bb.trans (hb6.mono bb.size)
  clear hb6 hB
  go_wp2_with fail
  refine (dMul cX cY hX hY (by omega)).mono ?_
  rintro e x7 ⟨aZ, cZ, nZ, rfl, hZ, hb7⟩
  replace hS := hS.below hb7
  replace bb := bb.trans (hb7.mono bb.size)
  clear hb7 hX hY
  go_wp2_with fail
  refine (dTo cZ hZ).mono ?_
  rintro e x8 ⟨aT, cT, nT, rfl, hT, hb8⟩
  replace hS := hS.below hb8
  replace bb := bb.trans (hb8.mono bb.size)
  clear hb8 hZ
  go_wp2_with fail
  refine (nSameT cS cT hS hT rfl).mono ?_
  rintro e x9 ⟨rfl, hb9⟩
  replace bb := bb.trans (hb9.mono bb.size)
  clear hb9 hS hT
  go_wp2
  go_ret
  exact ⟨rfl, bb⟩

set_option maxHeartbeats 16000000 in
set_option maxRecDepth 100000 in
theorem muls_g1 (aA aB : Option Addr) (nA nB cA cB : Nat) (w : World) (htab : Tab w) (has : 40 < nA) :
    Calls Tryd.prog 6 #[.slice aA nA cA, .slice aB nB cB] w fun e w' => e = .returned (.bool true) ∧ Below w.heap.size w w' := by
  have HT := Lib.hid htab
  clear htab
  go_enter Tryd.func6, Tryd.ntmps6
  go_wp2_with fail
  refine (shown_any _ HT.out).mono ?_
  rintro e x1 ⟨rfl, hb1⟩
  have bb := hb1
  clear hb1
  go_wp2_with fail
  refine (great_yes aA nA cA _ has).mono ?_
  rintro e wq ⟨rfl, rfl⟩
  go_wp2
  go_ret
  exact ⟨rfl, bb⟩

set_option maxHeartbeats 16000000 in
set_option maxRecDepth 100000 in
theorem muls_g2 (aA aB : Option Addr) (nA nB cA cB : Nat) (w : World) (htab : Tab w) (has : nA ≤ 40) (hbs : 40 < nB) :
    Calls Tryd.prog 6 #[.slice aA nA cA, .slice aB nB cB] w fun e w' => e = .returned (.bool true) ∧ Below w.heap.size w w' := by
  have HT := Lib.hid htab
  clear htab
  go_enter Tryd.func6, Tryd.ntmps6
  go_wp2_with fail
  refine (shown_any _ HT.out).mono ?_
  rintro e x1 ⟨rfl, hb1⟩
  have bb := hb1
  clear hb1
  go_wp2_with fail
  refine (great_no aA nA cA _ has).mono ?_
  rintro e wq ⟨rfl, rfl⟩
  go_wp2_with fail
  refine (great_yes aB nB cB _ hbs).mono ?_
  rintro e wq ⟨rfl, rfl⟩
  go_wp2
  go_ret
  exact ⟨rfl, bb⟩

theorem muls_walk {a b : Option Addr} {n m ca cb : Nat} (w : World) (htab : Tab w) (ha : IsRow w a n ca) (hb : IsRow w b m cb) :
    Calls Tryd.prog 6 #[.slice a n ca, .slice b m cb] w fun e w' => e = .returned (.bool true) ∧ Below w.heap.size w w' := by
  obtain ⟨l1, rfl, lo1, rd1, _⟩ := ha
  obtain ⟨l2, rfl, lo2, rd2, _⟩ := hb
  rcases Nat.lt_or_ge 40 l1.length with h1 | h1
  · exact muls_g1 _ _ _ _ _ _ w htab h1
  rcases Nat.lt_or_ge 40 l2.length with h2 | h2
  · exact muls_g2 _ _ _ _ _ _ w htab h1 h2
  · exact muls_main _ _ _ _ _ _ _ _ w htab h1 h2 (Nm.ofRow lo1 rd1 h1) (Nm.ofRow lo2 rd2 h2)
end Go.Proofs.YteipkibaoikilaaDoor
