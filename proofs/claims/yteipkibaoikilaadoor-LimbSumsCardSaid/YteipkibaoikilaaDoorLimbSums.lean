/- Walks: the laws LimbSums. -/
import Derived.Test.YteipkibaoikilaaDoorLimbW
namespace Go.Proofs.YteipkibaoikilaaDoor
open Go.RowKit LM

set_option maxHeartbeats 16000000 in
set_option maxRecDepth 100000 in
theorem sums_lt (aA aB : Option Addr) (nA nB cA cB vA vB : Nat) (w : World) (htab : Tab w) (has : nA ≤ 40) (hbs : nB ≤ 40) (hA : Nm w aA nA vA 41) (hB : Nm w aB nB vB 41) (hlt : vA < vB) :
    Calls Tryd.prog 5 #[.slice aA nA cA, .slice aB nB cB] w fun e w' => e = .returned (.bool true) ∧ Below w.heap.size w w' := by
  have HT := Lib.hid htab
  clear htab
  go_enter Tryd.func5, Tryd.ntmps5
  go_wp2_with fail
  refine (shown_any _ HT.out).mono ?_
  rintro e x1 ⟨rfl, hb1⟩
  replace hA := hA.below hb1
  replace hB := hB.below hb1
  have bb := hb1
  clear hb1
  go_wp2_with fail
  refine (great_no aA nA cA _ has).mono ?_
  rintro e wq ⟨rfl, rfl⟩
  go_wp2_with fail
  refine (great_no aB nB cB _ hbs).mono ?_
  rintro e wq ⟨rfl, rfl⟩
  go_wp2_with fail
  refine (dOf cA hA (by omega)).mono ?_
  rintro e x4 ⟨aX, cX, nX, rfl, hX, hb4⟩
  replace hA := hA.below hb4
  replace hB := hB.below hb4
  replace bb := bb.trans (hb4.mono bb.size)
  clear hb4
  go_wp2_with fail
  refine (dOf cB hB (by omega)).mono ?_
  rintro e x5 ⟨aY, cY, nY, rfl, hY, hb5⟩
  replace hA := hA.below hb5
  replace hB := hB.below hb5
  replace hX := hX.below hb5
  replace bb := bb.trans (hb5.mono bb.size)
  clear hb5
  go_wp2_with fail
  refine (nSubLess cA cB hA hB hlt).mono ?_
  rintro e x6 ⟨rfl, hb6⟩
  replace hA := hA.below hb6
  replace hB := hB.below hb6
  replace hX := hX.below hb6
  replace hY := hY.below hb6
  replace bb := bb.trans (hb6.mono bb.size)
  clear hb6
  go_wp2_with fail
  refine (dCmpLt cX cY hX hY hlt).mono ?_
  rintro e x7 ⟨rfl, hb7⟩
  replace hA := hA.below hb7
  replace hB := hB.below hb7
  replace hX := hX.below hb7
  replace hY := hY.below hb7
  replace bb := bb.trans (hb7.mono bb.size)
  clear hb7
  go_wp2_with fail
  refine (nAdd cA cB hA hB (by omega)).mono ?_
  rintro e x8 ⟨aS, cS, nS, rfl, hS, hb8⟩
  replace hX := hX.below hb8
  replace hY := hY.below hb8
  replace bb := bb.trans (hb8.mono bb.size)
  clear hb8 hA hB
  go_wp2_with fail
  refine (dAdd cX cY hX hY (by omega)).mono ?_
  rintro e x9 ⟨aZ, cZ, nZ, rfl, hZ, hb9⟩
  replace hS := hS.below hb9
  replace bb := bb.trans (hb9.mono bb.size)
  clear hb9 hX hY
  go_wp2_with fail
  refine (dTo cZ hZ).mono ?_
  rintro e x10 ⟨aT, cT, nT, rfl, hT, hb10⟩
  replace hS := hS.below hb10
  replace bb := bb.trans (hb10.mono bb.size)
  clear hb10 hZ
  go_wp2_with fail
  refine (nSameT cS cT hS hT rfl).mono ?_
  rintro e x11 ⟨rfl, hb11⟩
  replace bb := bb.trans (hb11.mono bb.size)
  clear hb11 hS hT
  go_wp2
  go_ret
  exact ⟨rfl, bb⟩

set_option maxHeartbeats 16000000 in
set_option maxRecDepth 100000 in
theorem sums_ge (aA aB : Option Addr) (nA nB cA cB vA vB : Nat) (w : World) (htab : Tab w) (has : nA ≤ 40) (hbs : nB ≤ 40) (hA : Nm w aA nA vA 41) (hB : Nm w aB nB vB 41) (hge : vB ≤ vA) :
    Calls Tryd.prog 5 #[.slice aA nA cA, .slice aB nB cB] w fun e w' => e = .returned (.bool true) ∧ Below w.heap.size w w' := by
  have HT := Lib.hid htab
  clear htab
  go_enter Tryd.func5, Tryd.ntmps5
  go_wp2_with fail
  refine (shown_any _ HT.out).mono ?_
  rintro e x1 ⟨rfl, hb1⟩
  replace hA := hA.below hb1
  replace hB := hB.below hb1
  have bb := hb1
  clear hb1
  go_wp2_with fail
  refine (great_no aA nA cA _ has).mono ?_
  rintro e wq ⟨rfl, rfl⟩
  go_wp2_with fail
  refine (great_no aB nB cB _ hbs).mono ?_
  rintro e wq ⟨rfl, rfl⟩
  go_wp2_with fail
  refine (dOf cA hA (by omega)).mono ?_
  rintro e x4 ⟨aX, cX, nX, rfl, hX, hb4⟩
  replace hA := hA.below hb4
  replace hB := hB.below hb4
  replace bb := bb.trans (hb4.mono bb.size)
  clear hb4
  go_wp2_with fail
  refine (dOf cB hB (by omega)).mono ?_
  rintro e x5 ⟨aY, cY, nY, rfl, hY, hb5⟩
  replace hA := hA.below hb5
  replace hB := hB.below hb5
  replace hX := hX.below hb5
  replace bb := bb.trans (hb5.mono bb.size)
  clear hb5
  go_wp2_with fail
  refine (nSub cA cB hA hB hge).mono ?_
  rintro e x6 ⟨aD, cD, nD, rfl, hD, hb6⟩
  replace hA := hA.below hb6
  replace hB := hB.below hb6
  replace hX := hX.below hb6
  replace hY := hY.below hb6
  replace bb := bb.trans (hb6.mono bb.size)
  clear hb6
  go_wp2_with fail
  refine (dCmpGe cX cY hX hY hge).mono ?_
  rintro e x7 ⟨gC, hgC, rfl, hb7⟩
  replace hA := hA.below hb7
  replace hB := hB.below hb7
  replace hX := hX.below hb7
  replace hY := hY.below hb7
  replace hD := hD.below hb7
  replace bb := bb.trans (hb7.mono bb.size)
  clear hb7
  go_wp2_with fail
  refine (dSub cX cY hX hY hge).mono ?_
  rintro e x8 ⟨aE, cE, nE, rfl, hE, hb8⟩
  replace hA := hA.below hb8
  replace hB := hB.below hb8
  replace hX := hX.below hb8
  replace hY := hY.below hb8
  replace hD := hD.below hb8
  replace bb := bb.trans (hb8.mono bb.size)
  clear hb8
  go_wp2_with fail
  refine (dTo cE hE).mono ?_
  rintro e x9 ⟨aF, cF, nF, rfl, hF, hb9⟩
  replace hA := hA.below hb9
  replace hB := hB.below hb9
  replace hX := hX.below hb9
  replace hY := hY.below hb9
  replace hD := hD.below hb9
  replace bb := bb.trans (hb9.mono bb.size)
  clear hb9 hE
  go_wp2_with fail
  refine (nSameT cD cF hD hF rfl).mono ?_
  rintro e x10 ⟨rfl, hb10⟩
  replace hA := hA.below hb10
  replace hB := hB.below hb10
  replace hX := hX.below hb10
  replace hY := hY.below hb10
  replace bb := bb.trans (hb10.mono bb.size)
  clear hb10 hD hF
  go_wp2_with fail
  refine (nAdd cA cB hA hB (by omega)).mono ?_
  rintro e x11 ⟨aS, cS, nS, rfl, hS, hb11⟩
  replace hX := hX.below hb11
  replace hY := hY.below hb11
  replace bb := bb.trans (hb11.mono bb.size)
  clear hb11 hA hB
  go_wp2_with fail
  refine (dAdd cX cY hX hY (by omega)).mono ?_
  rintro e x12 ⟨aZ, cZ, nZ, rfl, hZ, hb12⟩
  replace hS := hS.below hb12
  replace bb := bb.trans (hb12.mono bb.size)
  clear hb12 hX hY
  go_wp2_with fail
  refine (dTo cZ hZ).mono ?_
  rintro e x13 ⟨aT, cT, nT, rfl, hT, hb13⟩
  replace hS := hS.below hb13
  replace bb := bb.trans (hb13.mono bb.size)
  clear hb13 hZ
  go_wp2_with fail
  refine (nSameT cS cT hS hT rfl).mono ?_
  rintro e x14 ⟨rfl, hb14⟩
  replace bb := bb.trans (hb14.mono bb.size)
  clear hb14 hS hT
  go_wp2
  go_ret
  exact ⟨rfl, bb⟩

set_option maxHeartbeats 16000000 in
set_option maxRecDepth 100000 in
theorem sums_g1 (aA aB : Option Addr) (nA nB cA cB : Nat) (w : World) (htab : Tab w) (has : 40 < nA) :
    Calls Tryd.prog 5 #[.slice aA nA cA, .slice aB nB cB] w fun e w' => e = .returned (.bool true) ∧ Below w.heap.size w w' := by
  have HT := Lib.hid htab
  clear htab
  go_enter Tryd.func5, Tryd.ntmps5
  go_wp2_with fail
  refine (shown_any _ HT.out).mono ?_
  rintro e x1 ⟨rfl, hb1⟩
  have bb := hb1
  clear hb1
  go_wp2_with fail
  refine (great_yes aA nA cA _ has).mono ?_
  rintro e wq ⟨rfl, rfl⟩
  go_wp2
  go_ret
  exact ⟨rfl, bb⟩

set_option maxHeartbeats 16000000 in
set_option maxRecDepth 100000 in
theorem sums_g2 (aA aB : Option Addr) (nA nB cA cB : Nat) (w : World) (htab : Tab w) (has : nA ≤ 40) (hbs : 40 < nB) :
    Calls Tryd.prog 5 #[.slice aA nA cA, .slice aB nB cB] w fun e w' => e = .returned (.bool true) ∧ Below w.heap.size w w' := by
  have HT := Lib.hid htab
  clear htab
  go_enter Tryd.func5, Tryd.ntmps5
  go_wp2_with fail
  refine (shown_any _ HT.out).mono ?_
  rintro e x1 ⟨rfl, hb1⟩
  have bb := hb1
  clear hb1
  go_wp2_with fail
  refine (great_no aA nA cA _ has).mono ?_
  rintro e wq ⟨rfl, rfl⟩
  go_wp2_with fail
  refine (great_yes aB nB cB _ hbs).mono ?_
  rintro e wq ⟨rfl, rfl⟩
  go_wp2
  go_ret
  exact ⟨rfl, bb⟩

theorem sums_walk {a b : Option Addr} {n m ca cb : Nat} (w : World) (htab : Tab w) (ha : IsRow w a n ca) (hb : IsRow w b m cb) :
    Calls Tryd.prog 5 #[.slice a n ca, .slice b m cb] w fun e w' => e = .returned (.bool true) ∧ Below w.heap.size w w' := by
  obtain ⟨l1, rfl, lo1, rd1, _⟩ := ha
  obtain ⟨l2, rfl, lo2, rd2, _⟩ := hb
  rcases Nat.lt_or_ge 40 l1.length with h1 | h1
  · exact sums_g1 _ _ _ _ _ _ w htab h1
  rcases Nat.lt_or_ge 40 l2.length with h2 | h2
  · exact sums_g2 _ _ _ _ _ _ w htab h1 h2
  rcases Nat.lt_or_ge (vl 1000000000 l1) (vl 1000000000 l2) with h | h
  · exact sums_lt _ _ _ _ _ _ _ _ w htab h1 h2 (Nm.ofRow lo1 rd1 h1) (Nm.ofRow lo2 rd2 h2) h
  · exact sums_ge _ _ _ _ _ _ _ _ w htab h1 h2 (Nm.ofRow lo1 rd1 h1) (Nm.ofRow lo2 rd2 h2) h
end Go.Proofs.YteipkibaoikilaaDoor
