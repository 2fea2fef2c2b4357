/- Walks: the laws LimbDivs. -/
import Derived.Test.YteipkibaoikilaaDoorLimbWd
namespace Go.Proofs.YteipkibaoikilaaDoor
open Go.RowKit LM

set_option maxHeartbeats 16000000 in
set_option maxRecDepth 100000 in
theorem divs_main (aA aB : Option Addr) (nA nB cA cB vA vB : Nat) (w : World) (htab : Tab w) (has : nA ≤ 40) (hbs : nB ≤ 40) (hA : Nm w aA nA vA 41) (hB : Nm w aB nB vB 41) (hpos : 0 < vB) :
    Calls Tryd.prog 7 #[.slice aA nA cA, .slice aB nB cB] w fun e w' => e = .returned (.bool true) ∧ Below w.heap.size w w' := by
  have HT := Lib.hid htab
  clear htab
  go_enter Tryd.func7, Tryd.ntmps7
  go_wp2_with fail
  refine (shown_any _ HT.out).mono ?_
  rintro e x1 ⟨rfl, hb1⟩
  replace hA := hA.below hb1
  replace hB := hB.below hb1
  have bb := hb1
  clear hb1
  go_wp2_with fail
  refine (great_no aA nA cA _ has).mono ?_
  rintro e wq ⟨rfl, rfl⟩
  go_wp2_with fail
  refine (great_no aB nB cB _ hbs).mono ?_
  rintro e wq ⟨rfl, rfl⟩
  go_wp2_with fail
  refine (nDiv cA cB hA hB hpos (by omega)).mono ?_
  rintro e x4 ⟨aQ, cQ, nQ, aR, cR, nR, rfl, hQ, hR, hb4⟩
  replace hA := hA.below hb4
  replace hB := hB.below hb4
  replace bb := bb.trans (hb4.mono bb.size)
  clear hb4
  go_wp2_with fail
  refine (dOf cB hB (by omega)).mono ?_
  rintro e x5 ⟨aY, cY, nY, rfl, hY, hb5⟩
  replace hA := hA.below hb5
  replace hQ := hQ.below hb5
  replace hR := hR.below hb5
  replace bb := bb.trans (hb5.mono bb.size)
  clear hb5 hB
  have hyp : ((nY : Int) == 0) = false := by
    have h1 := hY.2.1
    have h2 : (dg 10 vB).length ≠ 0 := by rw [dg_pos (by omega) hpos]; simp
    simp; omega
  go_wp2_with fail
  refine (dOf cA hA (by omega)).mono ?_
  rintro e x6 ⟨aX, cX, nX, rfl, hX, hb6⟩
  replace hQ := hQ.below hb6
  replace hR := hR.below hb6
  replace hY := hY.below hb6
  replace bb := bb.trans (hb6.mono bb.size)
  clear hb6 hA
  go_wp2_with fail
  refine (dDiv cX cY hX hY hpos).mono ?_
  rintro e x7 ⟨aZ, cZ, nZ, aW, cW, nW, rfl, hZ, hW, hb7⟩
  replace hQ := hQ.below hb7
  replace hR := hR.below hb7
  replace bb := bb.trans (hb7.mono bb.size)
  clear hb7 hX hY
  go_wp2_with fail
  refine (dTo cZ hZ).mono ?_
  rintro e x8 ⟨aE, cE, nE, rfl, hE, hb8⟩
  replace hQ := hQ.below hb8
  replace hR := hR.below hb8
  replace hW := hW.below hb8
  replace bb := bb.trans (hb8.mono bb.size)
  clear hb8 hZ
  go_wp2_with fail
  refine (nSameT cQ cE hQ hE rfl).mono ?_
  rintro e x9 ⟨rfl, hb9⟩
  replace hR := hR.below hb9
  replace hW := hW.below hb9
  replace bb := bb.trans (hb9.mono bb.size)
  clear hb9 hQ hE
  go_wp2_with fail
  refine (dTo cW hW).mono ?_
  rintro e x10 ⟨aF, cF, nF, rfl, hF, hb10⟩
  replace hR := hR.below hb10
  replace bb := bb.trans (hb10.mono bb.size)
  clear hb10 hW
  go_wp2_with fail
  refine (nSameT cR cF hR hF rfl).mono ?_
  rintro e x11 ⟨rfl, hb11⟩
  replace bb := bb.trans (hb11.mono bb.size)
  clear hb11 hR hF
  go_wp2
  go_ret
  exact ⟨rfl, bb⟩

set_option maxHeartbeats 16000000 in
set_option maxRecDepth 100000 in
theorem divs_zero (aA aB : Option Addr) (nA nB cA cB vA : Nat) (w : World) (htab : Tab w) (has : nA ≤ 40) (hbs : nB ≤ 40) (hA : Nm w aA nA vA 41) (hB : Nm w aB nB 0 41) :
    Calls Tryd.prog 7 #[.slice aA nA cA, .slice aB nB cB] w fun e w' => e = .returned (.bool true) ∧ Below w.heap.size w w' := by
  have HT := Lib.hid htab
  clear htab
  go_enter Tryd.func7, Tryd.ntmps7
  go_wp2_with fail
  refine (shown_any _ HT.out).mono ?_
  rintro e x1 ⟨rfl, hb1⟩
  replace hA := hA.below hb1
  replace hB := hB.below hb1
  have bb := hb1
  clear hb1
  go_wp2_with fail
  refine (great_no aA nA cA _ has).mono ?_
  rintro e wq ⟨rfl, rfl⟩
  go_wp2_with fail
  refine (great_no aB nB cB _ hbs).mono ?_
  rintro e wq ⟨rfl, rfl⟩
  go_wp2_with fail
  refine (nDivZero cA cB hA hB).mono ?_
  rintro e x4 ⟨rfl, hb4⟩
  replace hA := hA.below hb4
  replace hB := hB.below hb4
  replace bb := bb.trans (hb4.mono bb.size)
  clear hb4
  go_wp2_with fail
  refine (dOf cB hB (by omega)).mono ?_
  rintro e x5 ⟨aY, cY, nY, rfl, hY, hb5⟩
  replace hA := hA.below hb5
  replace hB := hB.below hb5
  replace bb := bb.trans (hb5.mono bb.size)
  clear hb5
  have hyp : ((nY : Int) == 0) = true := by
    have h1 := hY.2.1
    rw [dg_zero] at h1
    simp at h1
    simp [h1]
  go_wp2
  go_ret
  exact ⟨rfl, bb⟩

set_option maxHeartbeats 16000000 in
set_option maxRecDepth 100000 in
theorem divs_g1 (aA aB : Option Addr) (nA nB cA cB : Nat) (w : World) (htab : Tab w) (has : 40 < nA) :
    Calls Tryd.prog 7 #[.slice aA nA cA, .slice aB nB cB] w fun e w' => e = .returned (.bool true) ∧ Below w.heap.size w w' := by
  have HT := Lib.hid htab
  clear htab
  go_enter Tryd.func7, Tryd.ntmps7
  go_wp2_with fail
  refine (shown_any _ HT.out).mono ?_
  rintro e x1 ⟨rfl, hb1⟩
  have bb := hb1
  clear hb1
  go_wp2_with fail
  refine (great_yes aA nA cA _ has).mono ?_
  rintro e wq ⟨rfl, rfl⟩
  go_wp2
  go_ret
  exact ⟨rfl, bb⟩

set_option maxHeartbeats 16000000 in
set_option maxRecDepth 100000 in
theorem divs_g2 (aA aB : Option Addr) (nA nB cA cB : Nat) (w : World) (htab : Tab w) (has : nA ≤ 40) (hbs : 40 < nB) :
    Calls Tryd.prog 7 #[.slice aA nA cA, .slice aB nB cB] w fun e w' => e = .returned (.bool true) ∧ Below w.heap.size w w' := by
  have HT := Lib.hid htab
  clear htab
  go_enter Tryd.func7, Tryd.ntmps7
  go_wp2_with fail
  refine (shown_any _ HT.out).mono ?_
  rintro e x1 ⟨rfl, hb1⟩
  have bb := hb1
  clear hb1
  go_wp2_with fail
  refine (great_no aA nA cA _ has).mono ?_
  rintro e wq ⟨rfl, rfl⟩
  go_wp2_with fail
  refine (great_yes aB nB cB _ hbs).mono ?_
  rintro e wq ⟨rfl, rfl⟩
  go_wp2
  go_ret
  exact ⟨rfl, bb⟩

theorem divs_walk {a b : Option Addr} {n m ca cb : Nat} (w : World) (htab : Tab w) (ha : IsRow w a n ca) (hb : IsRow w b m cb) :
    Calls Tryd.prog 7 #[.slice a n ca, .slice b m cb] w fun e w' => e = .returned (.bool true) ∧ Below w.heap.size w w' := by
  obtain ⟨l1, rfl, lo1, rd1, _⟩ := ha
  obtain ⟨l2, rfl, lo2, rd2, _⟩ := hb
  rcases Nat.lt_or_ge 40 l1.length with h1 | h1
  · exact divs_g1 _ _ _ _ _ _ w htab h1
  rcases Nat.lt_or_ge 40 l2.length with h2 | h2
  · exact divs_g2 _ _ _ _ _ _ w htab h1 h2
  have hB := Nm.ofRow lo2 rd2 h2
  rcases Nat.eq_zero_or_pos (vl 1000000000 l2) with h | h
  · rw [h] at hB
    exact divs_zero _ _ _ _ _ _ _ w htab h1 h2 (Nm.ofRow lo1 rd1 h1) hB
  · exact divs_main _ _ _ _ _ _ _ _ w htab h1 h2 (Nm.ofRow lo1 rd1 h1) hB h
end Go.Proofs.YteipkibaoikilaaDoor
