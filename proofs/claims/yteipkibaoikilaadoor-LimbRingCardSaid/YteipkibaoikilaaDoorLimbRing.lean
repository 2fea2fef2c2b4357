/- Walks: the laws LimbRing. -/
import Derived.Test.YteipkibaoikilaaDoorLimbT
namespace Go.Proofs.YteipkibaoikilaaDoor
open Go.RowKit LM

theorem ring_assoc (a b c : Nat) : a * b * c = a * (b * c) := Nat.mul_assoc a b c

set_option maxHeartbeats 16000000 in
set_option maxRecDepth 100000 in
theorem ring_main (a b c : Option Addr) (n m k ca cb cc va vb vc : Nat) (w : World) (htab : Tab w) (h1 : n ≤ 40) (h2 : m ≤ 40) (h3 : k ≤ 40) (hA : Nm w a n va 41) (hB : Nm w b m vb 41) (hC : Nm w c k vc 41) :
    Calls Tryd.prog 11 #[.slice a n ca, .slice b m cb, .slice c k cc] w fun e w' => e = .returned (.bool true) ∧ Below w.heap.size w w' := by
  have HT := Lib.hid htab
  clear htab
  go_enter Tryd.func11, Tryd.ntmps11
  go_wp2_with fail
  refine (shown_any w HT.out).mono ?_
  rintro e x1 ⟨rfl, hb1⟩
  replace hA := hA.below hb1
  replace hB := hB.below hb1
  replace hC := hC.below hb1
  have bb := hb1
  clear hb1
  go_wp2_with fail
  refine (great_no a n ca _ h1).mono ?_
  rintro e wq ⟨rfl, rfl⟩
  go_wp2_with fail
  refine (great_no b m cb _ h2).mono ?_
  rintro e wq ⟨rfl, rfl⟩
  go_wp2_with fail
  refine (great_no c k cc _ h3).mono ?_
  rintro e wq ⟨rfl, rfl⟩
  go_wp2_with fail
  refine (nAdd ca cb hA hB (by omega)).mono ?_
  rintro e x2 ⟨aS, cS, nS, rfl, hS, hb2⟩
  replace hA := hA.below hb2
  replace hB := hB.below hb2
  replace hC := hC.below hb2
  replace bb := bb.trans (hb2.mono bb.size)
  clear hb2
  go_wp2_with fail
  refine (nSub cS cb hS.1 hB (by omega)).mono ?_
  rintro e x3 ⟨aD, cD, nD, rfl, hD, hb3⟩
  replace hA := hA.below hb3
  replace hB := hB.below hb3
  replace hC := hC.below hb3
  replace hS := hS.below hb3
  replace bb := bb.trans (hb3.mono bb.size)
  clear hb3
  go_wp2_with fail
  refine (nAdd cb ca hB hA (by omega)).mono ?_
  rintro e x4 ⟨aT, cT, nT, rfl, hT, hb4⟩
  replace hA := hA.below hb4
  replace hB := hB.below hb4
  replace hC := hC.below hb4
  replace hS := hS.below hb4
  replace hD := hD.below hb4
  replace bb := bb.trans (hb4.mono bb.size)
  clear hb4
  go_wp2_with fail
  refine (nSameT cS cT hS hT (Nat.add_comm va vb)).mono ?_
  rintro e x5 ⟨rfl, hb5⟩
  replace hA := hA.below hb5
  replace hB := hB.below hb5
  replace hC := hC.below hb5
  replace hS := hS.below hb5
  replace hD := hD.below hb5
  replace bb := bb.trans (hb5.mono bb.size)
  clear hb5 hT
  go_wp2_with fail
  refine (nMul ca cb hA hB (by omega)).mono ?_
  rintro e x6 ⟨aM, cM, nM, rfl, hM, hb6⟩
  replace hA := hA.below hb6
  replace hB := hB.below hb6
  replace hC := hC.below hb6
  replace hS := hS.below hb6
  replace hD := hD.below hb6
  replace bb := bb.trans (hb6.mono bb.size)
  clear hb6
  go_wp2_with fail
  refine (nMul cb ca hB hA (by omega)).mono ?_
  rintro e x7 ⟨aP, cP, nP, rfl, hP, hb7⟩
  replace hA := hA.below hb7
  replace hB := hB.below hb7
  replace hC := hC.below hb7
  replace hS := hS.below hb7
  replace hD := hD.below hb7
  replace hM := hM.below hb7
  replace bb := bb.trans (hb7.mono bb.size)
  clear hb7
  go_wp2_with fail
  refine (nSameT cM cP hM hP (Nat.mul_comm va vb)).mono ?_
  rintro e x8 ⟨rfl, hb8⟩
  replace hA := hA.below hb8
  replace hB := hB.below hb8
  replace hC := hC.below hb8
  replace hS := hS.below hb8
  replace hD := hD.below hb8
  replace bb := bb.trans (hb8.mono bb.size)
  clear hb8 hM hP
  go_wp2_with fail
  refine (nAdd cS cc hS.1 hC (by omega)).mono ?_
  rintro e x9 ⟨aU, cU, nU, rfl, hU, hb9⟩
  replace hA := hA.below hb9
  replace hB := hB.below hb9
  replace hC := hC.below hb9
  replace hS := hS.below hb9
  replace hD := hD.below hb9
  replace bb := bb.trans (hb9.mono bb.size)
  clear hb9
  go_wp2_with fail
  refine (nAdd cb cc hB hC (by omega)).mono ?_
  rintro e x10 ⟨aV, cV, nV, rfl, hV, hb10⟩
  replace hA := hA.below hb10
  replace hB := hB.below hb10
  replace hC := hC.below hb10
  replace hS := hS.below hb10
  replace hD := hD.below hb10
  replace hU := hU.below hb10
  replace bb := bb.trans (hb10.mono bb.size)
  clear hb10
  go_wp2_with fail
  refine (nAdd ca cV hA hV.1 (by omega)).mono ?_
  rintro e x11 ⟨aQ, cQ, nQ, rfl, hQ, hb11⟩
  replace hA := hA.below hb11
  replace hB := hB.below hb11
  replace hC := hC.below hb11
  replace hS := hS.below hb11
  replace hD := hD.below hb11
  replace hU := hU.below hb11
  replace bb := bb.trans (hb11.mono bb.size)
  clear hb11 hV
  go_wp2_with fail
  refine (nSameT cU cQ hU hQ (Nat.add_assoc va vb vc)).mono ?_
  rintro e x12 ⟨rfl, hb12⟩
  replace hA := hA.below hb12
  replace hB := hB.below hb12
  replace hC := hC.below hb12
  replace hS := hS.below hb12
  replace hD := hD.below hb12
  replace bb := bb.trans (hb12.mono bb.size)
  clear hb12 hU hQ
  go_wp2_with fail
  refine (nMul ca cb hA hB (by omega)).mono ?_
  rintro e x13 ⟨aE, cE, nE, rfl, hE, hb13⟩
  replace hA := hA.below hb13
  replace hB := hB.below hb13
  replace hC := hC.below hb13
  replace hS := hS.below hb13
  replace hD := hD.below hb13
  replace bb := bb.trans (hb13.mono bb.size)
  clear hb13
  go_wp2_with fail
  refine (nMul cE cc hE.1 hC (by omega)).mono ?_
  rintro e x14 ⟨aF, cF, nF, rfl, hF, hb14⟩
  replace hA := hA.below hb14
  replace hB := hB.below hb14
  replace hC := hC.below hb14
  replace hS := hS.below hb14
  replace hD := hD.below hb14
  replace bb := bb.trans (hb14.mono bb.size)
  clear hb14 hE
  go_wp2_with fail
  refine (nMul cb cc hB hC (by omega)).mono ?_
  rintro e x15 ⟨aG, cG, nG, rfl, hG, hb15⟩
  replace hA := hA.below hb15
  replace hB := hB.below hb15
  replace hC := hC.below hb15
  replace hS := hS.below hb15
  replace hD := hD.below hb15
  replace hF := hF.below hb15
  replace bb := bb.trans (hb15.mono bb.size)
  clear hb15
  go_wp2_with fail
  refine (nMul ca cG hA hG.1 (by omega)).mono ?_
  rintro e x16 ⟨aH, cH, nH, rfl, hH, hb16⟩
  replace hA := hA.below hb16
  replace hB := hB.below hb16
  replace hC := hC.below hb16
  replace hS := hS.below hb16
  replace hD := hD.below hb16
  replace hF := hF.below hb16
  replace bb := bb.trans (hb16.mono bb.size)
  clear hb16 hG
  go_wp2_with fail
  refine (nSameT cF cH hF hH (Nat.mul_assoc va vb vc)).mono ?_
  rintro e x17 ⟨rfl, hb17⟩
  replace hA := hA.below hb17
  replace hB := hB.below hb17
  replace hC := hC.below hb17
  replace hS := hS.below hb17
  replace hD := hD.below hb17
  replace bb := bb.trans (hb17.mono bb.size)
  clear hb17 hF hH
  go_wp2_with fail
  refine (nMul cS cc hS.1 hC (by omega)).mono ?_
  rintro e x18 ⟨aI, cI, nI, rfl, hI, hb18⟩
  replace hA := hA.below hb18
  replace hB := hB.below hb18
  replace hC := hC.below hb18
  replace hS := hS.below hb18
  replace hD := hD.below hb18
  replace bb := bb.trans (hb18.mono bb.size)
  clear hb18
  go_wp2_with fail
  refine (nMul ca cc hA hC (by omega)).mono ?_
  rintro e x19 ⟨aJ, cJ, nJ, rfl, hJ, hb19⟩
  replace hA := hA.below hb19
  replace hB := hB.below hb19
  replace hC := hC.below hb19
  replace hS := hS.below hb19
  replace hD := hD.below hb19
  replace hI := hI.below hb19
  replace bb := bb.trans (hb19.mono bb.size)
  clear hb19
  go_wp2_with fail
  refine (nMul cb cc hB hC (by omega)).mono ?_
  rintro e x20 ⟨aL, cL, nL, rfl, hL, hb20⟩
  replace hA := hA.below hb20
  replace hB := hB.below hb20
  replace hC := hC.below hb20
  replace hS := hS.below hb20
  replace hD := hD.below hb20
  replace hI := hI.below hb20
  replace hJ := hJ.below hb20
  replace bb := bb.trans (hb20.mono bb.size)
  clear hb20
  go_wp2_with fail
  refine (nAdd cJ cL hJ.1 hL.1 (by omega)).mono ?_
  rintro e x21 ⟨aR, cR, nR, rfl, hR, hb21⟩
  replace hA := hA.below hb21
  replace hB := hB.below hb21
  replace hC := hC.below hb21
  replace hS := hS.below hb21
  replace hD := hD.below hb21
  replace hI := hI.below hb21
  replace bb := bb.trans (hb21.mono bb.size)
  clear hb21 hJ hL
  go_wp2_with fail
  refine (nSameT cI cR hI hR (Nat.add_mul va vb vc)).mono ?_
  rintro e x22 ⟨rfl, hb22⟩
  replace hA := hA.below hb22
  replace hB := hB.below hb22
  replace hC := hC.below hb22
  replace hS := hS.below hb22
  replace hD := hD.below hb22
  replace bb := bb.trans (hb22.mono bb.size)
  clear hb22 hI hR
  go_wp2_with fail
  refine (nNorm ca hA).mono ?_
  rintro e x23 ⟨aZ, cZ, nZ, rfl, hZ, hb23⟩
  replace hA := hA.below hb23
  replace hB := hB.below hb23
  replace hC := hC.below hb23
  replace hS := hS.below hb23
  replace hD := hD.below hb23
  replace bb := bb.trans (hb23.mono bb.size)
  clear hb23
  go_wp2_with fail
  refine (nSameT cD cZ hD hZ (by omega)).mono ?_
  rintro e x24 ⟨rfl, hb24⟩
  replace hA := hA.below hb24
  replace hB := hB.below hb24
  replace hC := hC.below hb24
  replace hS := hS.below hb24
  replace bb := bb.trans (hb24.mono bb.size)
  clear hb24 hD hZ
  go_wp2_with fail
  go_wp2
  go_ret
  exact ⟨rfl, bb⟩

set_option maxHeartbeats 4000000 in
theorem ring_g1 (a b c : Option Addr) (n m k ca cb cc : Nat) (w : World) (htab : Tab w) (h1 : 40 < n) :
    Calls Tryd.prog 11 #[.slice a n ca, .slice b m cb, .slice c k cc] w fun e w' => e = .returned (.bool true) ∧ Below w.heap.size w w' := by
  have HT := Lib.hid htab
  clear htab
  go_enter Tryd.func11, Tryd.ntmps11
  go_wp2_with fail
  refine (shown_any w HT.out).mono ?_
  rintro e x1 ⟨rfl, hb1⟩
  have bb := hb1
  clear hb1
  go_wp2_with fail
  refine (great_yes a n ca _ h1).mono ?_
  rintro e wq ⟨rfl, rfl⟩
  go_wp2
  go_ret
  exact ⟨rfl, bb⟩

set_option maxHeartbeats 4000000 in
theorem ring_g2 (a b c : Option Addr) (n m k ca cb cc : Nat) (w : World) (htab : Tab w) (h1 : n ≤ 40) (h2 : 40 < m) :
    Calls Tryd.prog 11 #[.slice a n ca, .slice b m cb, .slice c k cc] w fun e w' => e = .returned (.bool true) ∧ Below w.heap.size w w' := by
  have HT := Lib.hid htab
  clear htab
  go_enter Tryd.func11, Tryd.ntmps11
  go_wp2_with fail
  refine (shown_any w HT.out).mono ?_
  rintro e x1 ⟨rfl, hb1⟩
  have bb := hb1
  clear hb1
  go_wp2_with fail
  refine (great_no a n ca _ h1).mono ?_
  rintro e wq ⟨rfl, rfl⟩
  go_wp2_with fail
  refine (great_yes b m cb _ h2).mono ?_
  rintro e wq ⟨rfl, rfl⟩
  go_wp2
  go_ret
  exact ⟨rfl, bb⟩

set_option maxHeartbeats 4000000 in
theorem ring_g3 (a b c : Option Addr) (n m k ca cb cc : Nat) (w : World) (htab : Tab w) (h1 : n ≤ 40) (h2 : m ≤ 40) (h3 : 40 < k) :
    Calls Tryd.prog 11 #[.slice a n ca, .slice b m cb, .slice c k cc] w fun e w' => e = .returned (.bool true) ∧ Below w.heap.size w w' := by
  have HT := Lib.hid htab
  clear htab
  go_enter Tryd.func11, Tryd.ntmps11
  go_wp2_with fail
  refine (shown_any w HT.out).mono ?_
  rintro e x1 ⟨rfl, hb1⟩
  have bb := hb1
  clear hb1
  go_wp2_with fail
  refine (great_no a n ca _ h1).mono ?_
  rintro e wq ⟨rfl, rfl⟩
  go_wp2_with fail
  refine (great_no b m cb _ h2).mono ?_
  rintro e wq ⟨rfl, rfl⟩
  go_wp2_with fail
  refine (great_yes c k cc _ h3).mono ?_
  rintro e wq ⟨rfl, rfl⟩
  go_wp2
  go_ret
  exact ⟨rfl, bb⟩

theorem ring_walk {a b c : Option Addr} {n m k ca cb cc : Nat} (w : World) (htab : Tab w) (ha : IsRow w a n ca) (hb : IsRow w b m cb) (hc : IsRow w c k cc) :
    Calls Tryd.prog 11 #[.slice a n ca, .slice b m cb, .slice c k cc] w fun e w' => e = .returned (.bool true) ∧ Below w.heap.size w w' := by
  obtain ⟨l1, rfl, lo1, rd1, _⟩ := ha
  obtain ⟨l2, rfl, lo2, rd2, _⟩ := hb
  obtain ⟨l3, rfl, lo3, rd3, _⟩ := hc
  rcases Nat.lt_or_ge 40 l1.length with h1 | h1
  · exact ring_g1 _ _ _ _ _ _ _ _ _ w htab h1
  rcases Nat.lt_or_ge 40 l2.length with h2 | h2
  · exact ring_g2 _ _ _ _ _ _ _ _ _ w htab h1 h2
  rcases Nat.lt_or_ge 40 l3.length with h3 | h3
  · exact ring_g3 _ _ _ _ _ _ _ _ _ w htab h1 h2 h3
  · exact ring_main _ _ _ _ _ _ _ _ _ _ _ _ w htab h1 h2 h3 (Nm.ofRow lo1 rd1 h1) (Nm.ofRow lo2 rd2 h2) (Nm.ofRow lo3 rd3 h3)
end Go.Proofs.YteipkibaoikilaaDoor
