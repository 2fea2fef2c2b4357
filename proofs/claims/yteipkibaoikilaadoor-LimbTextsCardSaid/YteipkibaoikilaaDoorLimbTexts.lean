/- Walks: the laws LimbTexts. -/
import Derived.Test.YteipkibaoikilaaDoorLimbW
namespace Go.Proofs.YteipkibaoikilaaDoor
open Go.RowKit LM

set_option maxHeartbeats 16000000 in
set_option maxRecDepth 100000 in
theorem texts_main (aA : Option Addr) (nA cA vA : Nat) (w : World) (htab : Tab w) (has : nA ≤ 40) (hA : Nm w aA nA vA 41) :
    Calls Tryd.prog 8 #[.slice aA nA cA] w fun e w' => e = .returned (.bool true) ∧ Below w.heap.size w w' := by
  have HT := Lib.hid htab
  clear htab
  go_enter Tryd.func8, Tryd.ntmps8
  go_wp2_with fail
  refine (shown_any _ HT.out).mono ?_
  rintro e x1 ⟨rfl, hb1⟩
  replace hA := hA.below hb1
  have bb := hb1
  clear hb1
  go_wp2_with fail
  refine (great_no aA nA cA _ has).mono ?_
  rintro e wq ⟨rfl, rfl⟩
  go_wp2_with fail
  refine (dOf cA hA (by omega)).mono ?_
  rintro e x3 ⟨aX, cX, nX, rfl, hX, hb3⟩
  replace hA := hA.below hb3
  replace bb := bb.trans (hb3.mono bb.size)
  clear hb3
  go_wp2_with fail
  refine (nText cA hA (HT.out.below bb)).mono ?_
  rintro e x4 ⟨rfl, hb4⟩
  replace hA := hA.below hb4
  replace hX := hX.below hb4
  replace bb := bb.trans (hb4.mono bb.size)
  clear hb4
  go_wp2_with fail
  refine (dText cX hX).mono ?_
  rintro e x5 ⟨rfl, hb5⟩
  replace hA := hA.below hb5
  replace hX := hX.below hb5
  replace bb := bb.trans (hb5.mono bb.size)
  clear hb5
  go_wp2_with fail
  refine (nDigits cA hA (HT.out.below bb)).mono ?_
  rintro e x6 ⟨rfl, hb6⟩
  replace hA := hA.below hb6
  replace hX := hX.below hb6
  replace bb := bb.trans (hb6.mono bb.size)
  clear hb6
  go_wp2
  go_ret
  exact ⟨ret_bool (by rw [hX.2.1]; simp), bb⟩

set_option maxHeartbeats 16000000 in
set_option maxRecDepth 100000 in
theorem texts_g1 (aA : Option Addr) (nA cA : Nat) (w : World) (htab : Tab w) (has : 40 < nA) :
    Calls Tryd.prog 8 #[.slice aA nA cA] w fun e w' => e = .returned (.bool true) ∧ Below w.heap.size w w' := by
  have HT := Lib.hid htab
  clear htab
  go_enter Tryd.func8, Tryd.ntmps8
  go_wp2_with fail
  refine (shown_any _ HT.out).mono ?_
  rintro e x1 ⟨rfl, hb1⟩
  have bb := hb1
  clear hb1
  go_wp2_with fail
  refine (great_yes aA nA cA _ has).mono ?_
  rintro e wq ⟨rfl, rfl⟩
  go_wp2
  go_ret
  exact ⟨rfl, bb⟩

theorem texts_walk {a : Option Addr} {n ca : Nat} (w : World) (htab : Tab w) (ha : IsRow w a n ca) :
    Calls Tryd.prog 8 #[.slice a n ca] w fun e w' => e = .returned (.bool true) ∧ Below w.heap.size w w' := by
  obtain ⟨l1, rfl, lo1, rd1, _⟩ := ha
  rcases Nat.lt_or_ge 40 l1.length with h1 | h1
  · exact texts_g1 _ _ _ w htab h1
  · exact texts_main _ _ _ _ w htab h1 (Nm.ofRow lo1 rd1 h1)
end Go.Proofs.YteipkibaoikilaaDoor
