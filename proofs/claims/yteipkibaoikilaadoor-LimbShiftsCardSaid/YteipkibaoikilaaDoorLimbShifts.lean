/- Walks: the laws LimbShifts. -/
import Derived.Test.YteipkibaoikilaaDoorLimbW
namespace Go.Proofs.YteipkibaoikilaaDoor
open Go.RowKit LM

set_option maxHeartbeats 16000000 in
set_option maxRecDepth 100000 in
theorem shifts_main (aA : Option Addr) (nA cA vA : Nat) (k : Nat) (w : World) (htab : Tab w) (has : nA ≤ 40) (hA : Nm w aA nA vA 41) (hk : k ≤ 30000) :
    Calls Tryd.prog 10 #[.slice aA nA cA, .int .i64 k] w fun e w' => e = .returned (.bool true) ∧ Below w.heap.size w w' := by
  have HT := Lib.hid htab
  clear htab
  go_enter Tryd.func10, Tryd.ntmps10
  go_wp2_with fail
  refine (shown_any _ HT.out).mono ?_
  rintro e x1 ⟨rfl, hb1⟩
  replace hA := hA.below hb1
  have bb := hb1
  clear hb1
  go_wp2_with fail
  refine (great_no aA nA cA _ has).mono ?_
  rintro e wq ⟨rfl, rfl⟩
  go_wp2_with fail
  refine (nShift cA k hA hk (by omega)).mono ?_
  rintro e x3 ⟨aS, cS, nS, rfl, hS, hb3⟩
  replace hA := hA.below hb3
  replace bb := bb.trans (hb3.mono bb.size)
  clear hb3
  go_wp2_with fail
  refine (nCut cA k hA hk).mono ?_
  rintro e x4 ⟨aQ, cQ, nQ, aR, cR, nR, rfl, hQ, hR, hb4⟩
  replace hA := hA.below hb4
  replace hS := hS.below hb4
  replace bb := bb.trans (hb4.mono bb.size)
  clear hb4
  go_wp2_with fail
  refine (dOfC cA hA (by omega)).mono ?_
  rintro e x5 ⟨aX, cX, nX, rfl, ⟨hX, ⟨BX, tX, oX⟩, pX, qX⟩, hb5⟩
  replace hS := hS.below hb5
  replace hQ := hQ.below hb5
  replace hR := hR.below hb5
  replace bb := bb.trans (hb5.mono bb.size)
  clear hb5 hA
  have hX_len := hX.2.1
  have hX_lt := hX.2.2.1
  have HXL := Lib.hid hX_len; have HXT := Lib.hid hX_lt
  clear hX_len hX_lt
  go_wp2_with fail
  refine (dCut k hX pX qX).mono ?_
  rintro e x6 ⟨aY, cY, nY, aZ, cZ, nZ, rfl, hY, hZ, hb6⟩
  replace hS := hS.below hb6
  replace hQ := hQ.below hb6
  replace hR := hR.below hb6
  replace oX := oX.below hb6
  replace bb := bb.trans (hb6.mono bb.size)
  clear hb6 hX
  go_wp2_with fail
  refine (dShift k HXL.out oX HXT.out (by omega) (by omega)).mono ?_
  rintro e x7 ⟨aU, cU, nU, rfl, hU, hb7⟩
  replace hS := hS.below hb7
  replace hQ := hQ.below hb7
  replace hR := hR.below hb7
  replace hY := hY.below hb7
  replace hZ := hZ.below hb7
  replace bb := bb.trans (hb7.mono bb.size)
  clear hb7 oX
  go_wp2_with fail
  refine (dTo cU hU).mono ?_
  rintro e x8 ⟨aV, cV, nV, rfl, hV, hb8⟩
  replace hS := hS.below hb8
  replace hQ := hQ.below hb8
  replace hR := hR.below hb8
  replace hY := hY.below hb8
  replace hZ := hZ.below hb8
  replace bb := bb.trans (hb8.mono bb.size)
  clear hb8 hU
  go_wp2_with fail
  refine (nSameT cS cV hS hV rfl).mono ?_
  rintro e x9 ⟨rfl, hb9⟩
  replace hQ := hQ.below hb9
  replace hR := hR.below hb9
  replace hY := hY.below hb9
  replace hZ := hZ.below hb9
  replace bb := bb.trans (hb9.mono bb.size)
  clear hb9 hS hV
  go_wp2_with fail
  refine (dTo cY hY).mono ?_
  rintro e x10 ⟨aE, cE, nE, rfl, hE, hb10⟩
  replace hQ := hQ.below hb10
  replace hR := hR.below hb10
  replace hZ := hZ.below hb10
  replace bb := bb.trans (hb10.mono bb.size)
  clear hb10 hY
  go_wp2_with fail
  refine (nSameT cQ cE hQ hE rfl).mono ?_
  rintro e x11 ⟨rfl, hb11⟩
  replace hR := hR.below hb11
  replace hZ := hZ.below hb11
  replace bb := bb.trans (hb11.mono bb.size)
  clear hb11 hQ hE
  go_wp2_with fail
  refine (dTo cZ hZ).mono ?_
  rintro e x12 ⟨aF, cF, nF, rfl, hF, hb12⟩
  replace hR := hR.below hb12
  replace bb := bb.trans (hb12.mono bb.size)
  clear hb12 hZ
  go_wp2_with fail
  refine (nSameT cR cF hR hF rfl).mono ?_
  rintro e x13 ⟨rfl, hb13⟩
  replace bb := bb.trans (hb13.mono bb.size)
  clear hb13 hR hF
  go_wp2
  go_ret
  exact ⟨rfl, bb⟩

set_option maxHeartbeats 16000000 in
set_option maxRecDepth 100000 in
theorem shifts_lo (aA : Option Addr) (l : List Nat) (cA : Nat) (k : Int) (w : World) (htab : Tab w) (has : l.length ≤ 40) (hk : k < 0) :
    Calls Tryd.prog 10 #[.slice aA l.length cA, .int .i64 k] w fun e w' => e = .returned (.bool true) ∧ Below w.heap.size w w' := by
  have HT := Lib.hid htab
  clear htab
  go_enter Tryd.func10, Tryd.ntmps10
  go_wp2_with fail
  refine (shown_any _ HT.out).mono ?_
  rintro e x1 ⟨rfl, hb1⟩
  have bb := hb1
  clear hb1
  go_wp2_with fail
  refine (great_no aA l.length cA _ has).mono ?_
  rintro e wq ⟨rfl, rfl⟩
  go_wp2_with fail
  refine (Shift_bad aA cA l k _ (Or.inl hk)).mono ?_
  rintro e wq ⟨rfl, rfl⟩
  go_wp2_with fail
  refine (Cut_bad aA cA l k _ (Or.inl hk)).mono ?_
  rintro e wq ⟨rfl, rfl⟩
  go_wp2
  go_ret
  exact ⟨rfl, bb⟩

set_option maxHeartbeats 16000000 in
set_option maxRecDepth 100000 in
theorem shifts_hi (aA : Option Addr) (l : List Nat) (cA : Nat) (k : Int) (w : World) (htab : Tab w) (has : l.length ≤ 40) (hk : 30000 < k) :
    Calls Tryd.prog 10 #[.slice aA l.length cA, .int .i64 k] w fun e w' => e = .returned (.bool true) ∧ Below w.heap.size w w' := by
  have HT := Lib.hid htab
  clear htab
  go_enter Tryd.func10, Tryd.ntmps10
  go_wp2_with fail
  refine (shown_any _ HT.out).mono ?_
  rintro e x1 ⟨rfl, hb1⟩
  have bb := hb1
  clear hb1
  go_wp2_with fail
  refine (great_no aA l.length cA _ has).mono ?_
  rintro e wq ⟨rfl, rfl⟩
  go_wp2_with fail
  refine (Shift_bad aA cA l k _ (Or.inr hk)).mono ?_
  rintro e wq ⟨rfl, rfl⟩
  go_wp2_with fail
  refine (Cut_bad aA cA l k _ (Or.inr hk)).mono ?_
  rintro e wq ⟨rfl, rfl⟩
  go_wp2
  go_ret
  exact ⟨rfl, bb⟩

set_option maxHeartbeats 16000000 in
set_option maxRecDepth 100000 in
theorem shifts_g1 (aA : Option Addr) (nA cA : Nat) (k : Int) (w : World) (htab : Tab w) (has : 40 < nA) :
    Calls Tryd.prog 10 #[.slice aA nA cA, .int .i64 k] w fun e w' => e = .returned (.bool true) ∧ Below w.heap.size w w' := by
  have HT := Lib.hid htab
  clear htab
  go_enter Tryd.func10, Tryd.ntmps10
  go_wp2_with fail
  refine (shown_any _ HT.out).mono ?_
  rintro e x1 ⟨rfl, hb1⟩
  have bb := hb1
  clear hb1
  go_wp2_with fail
  refine (great_yes aA nA cA _ has).mono ?_
  rintro e wq ⟨rfl, rfl⟩
  go_wp2
  go_ret
  exact ⟨rfl, bb⟩

theorem shifts_walk {a : Option Addr} {n ca : Nat} {k : Int} (w : World) (htab : Tab w) (ha : IsRow w a n ca) (_ : (Lit.int .i64 k).wf = true) :
    Calls Tryd.prog 10 #[.slice a n ca, .int .i64 k] w fun e w' => e = .returned (.bool true) ∧ Below w.heap.size w w' := by
  obtain ⟨l1, rfl, lo1, rd1, _⟩ := ha
  rcases Nat.lt_or_ge 40 l1.length with h1 | h1
  · exact shifts_g1 _ _ _ _ w htab h1
  by_cases hlo : k < 0
  · exact shifts_lo _ _ _ _ w htab h1 hlo
  by_cases hhi : 30000 < k
  · exact shifts_hi _ _ _ _ w htab h1 hhi
  · obtain ⟨m, rfl⟩ : ∃ m : Nat, k = m := ⟨k.toNat, by omega⟩
    exact shifts_main _ _ _ _ _ w htab h1 (Nm.ofRow lo1 rd1 h1) (by omega)
end Go.Proofs.YteipkibaoikilaaDoor
