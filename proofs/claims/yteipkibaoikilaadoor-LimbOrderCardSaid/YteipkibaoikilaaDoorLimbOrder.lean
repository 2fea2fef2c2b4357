/- Walks: the law LimbOrder. -/
import Derived.Test.YteipkibaoikilaaDoorLimbT
namespace Go.Proofs.YteipkibaoikilaaDoor
open Go.RowKit LM

theorem nCmpIs {w : World} {a b : Option Addr} {n m v u K L : Nat} (ca cb : Nat) (z : Int) (ha : Nm w a n v K) (hb : Nm w b m u L) (hz : cmpN v u = z) : Calls Tryd.prog 22 #[.slice a n ca, .slice b m cb] w fun e w' => e = .returned (.int .i64 z) ∧ Below w.heap.size w w' := by
  have h := nCmp ca cb ha hb
  rw [hz] at h; exact h
theorem nCmpLe {w : World} {a b : Option Addr} {n m v u K L : Nat} (ca cb : Nat) (ha : Nm w a n v K) (hb : Nm w b m u L) (hz : v ≤ u) : Calls Tryd.prog 22 #[.slice a n ca, .slice b m cb] w fun e w' => ∃ z : Int, z ≤ 0 ∧ -1 ≤ z ∧ e = .returned (.int .i64 z) ∧ Below w.heap.size w w' := by
  refine (nCmp ca cb ha hb).mono ?_
  rintro e w' ⟨he, hb⟩
  refine ⟨_, ?_, ?_, he, hb⟩
  · rcases Nat.lt_or_ge v u with h | h
    · rw [cmpN_lt h]; decide
    · rw [show v = u by omega, cmpN_eq]; decide
  · rcases Nat.lt_or_ge v u with h | h
    · rw [cmpN_lt h]; decide
    · rw [show v = u by omega, cmpN_eq]; decide
theorem nSameF {w : World} {a b : Option Addr} {n m v u K L : Nat} (ca cb : Nat) (ha : Pn w a n v K) (hb : Pn w b m u L) (hvu : v ≠ u) : Calls Tryd.prog 16 #[.slice a n ca, .slice b m cb] w fun e w' => e = .returned (.bool false) ∧ Below w.heap.size w w' := by
  have h := nSame ca cb ha hb
  rw [decide_eq_false hvu] at h
  exact h
theorem Nm.nil (w : World) : Nm w none 0 0 1 := ⟨[], rfl, Lo_nil _, Rd.nil _ _ _, rfl, by omega, by decide, by omega, by omega⟩

set_option maxHeartbeats 8000000 in
set_option maxRecDepth 100000 in
theorem ord_lt_le_z (a b c : Option Addr) (n m k ca cb cc va vb vc : Nat) (w : World) (htab : Tab w) (h1 : n ≤ 40) (h2 : m ≤ 40) (h3 : k ≤ 40) (hA : Nm w a n va 41) (hB : Nm w b m vb 41) (hC : Nm w c k vc 41) (hab0 : va < vb) (hbc0 : vb ≤ vc) (hc0 : vc = 0) :
    Calls Tryd.prog 13 #[.slice a n ca, .slice b m cb, .slice c k cc] w fun e w' => e = .returned (.bool true) ∧ Below w.heap.size w w' := by
  have HT := Lib.hid htab; have HAB := Lib.hid hab0; have HBC := Lib.hid hbc0; have HC0 := Lib.hid hc0
  clear htab hab0 hbc0 hc0
  go_enter Tryd.func13, Tryd.ntmps13
  go_wp2_with fail
  refine (shown_any w HT.out).mono ?_
  rintro e x1 ⟨rfl, hb1⟩
  replace hA := hA.below hb1
  replace hB := hB.below hb1
  replace hC := hC.below hb1
  have bb := hb1
  clear hb1
  go_wp2_with fail
  refine (great_no a n ca _ h1).mono ?_
  rintro e wq ⟨rfl, rfl⟩
  go_wp2_with fail
  refine (great_no b m cb _ h2).mono ?_
  rintro e wq ⟨rfl, rfl⟩
  go_wp2_with fail
  refine (great_no c k cc _ h3).mono ?_
  rintro e wq ⟨rfl, rfl⟩
  go_wp2_with fail
  refine (nCmpIs ca cb (-1) hA hB (cmpN_lt HAB.out)).mono ?_
  rintro e x2 ⟨rfl, hb2⟩
  replace hA := hA.below hb2
  replace hB := hB.below hb2
  replace hC := hC.below hb2
  replace bb := bb.trans (hb2.mono bb.size)
  clear hb2
  go_wp2_with fail
  refine (nCmpLe cb cc hB hC HBC.out).mono ?_
  rintro e x3 ⟨z1, hz1, hz1b, rfl, hb3⟩
  replace hA := hA.below hb3
  replace hB := hB.below hb3
  replace hC := hC.below hb3
  replace bb := bb.trans (hb3.mono bb.size)
  clear hb3
  go_wp2_with fail
  refine (nCmpIs cb ca 1 hB hA (cmpN_gt HAB.out)).mono ?_
  rintro e x4 ⟨rfl, hb4⟩
  replace hA := hA.below hb4
  replace hB := hB.below hb4
  replace hC := hC.below hb4
  replace bb := bb.trans (hb4.mono bb.size)
  clear hb4
  go_wp2_with fail
  refine (nCmpLe ca cc hA hC (by have h1 := HAB.out; have h2 := HBC.out; omega)).mono ?_
  rintro e x5 ⟨z2, hz2, hz2b, rfl, hb5⟩
  have hz2n : ¬ 0 < z2 := by omega
  replace hA := hA.below hb5
  replace hB := hB.below hb5
  replace hC := hC.below hb5
  replace bb := bb.trans (hb5.mono bb.size)
  clear hb5
  go_wp2_with fail
  refine (nNorm ca hA).mono ?_
  rintro e x6 ⟨aY, cY, nY, rfl, hY, hb6⟩
  replace hA := hA.below hb6
  replace hB := hB.below hb6
  replace hC := hC.below hb6
  replace bb := bb.trans (hb6.mono bb.size)
  clear hb6
  go_wp2_with fail
  refine (nNorm cb hB).mono ?_
  rintro e x7 ⟨aZ, cZ, nZ, rfl, hZ, hb7⟩
  replace hA := hA.below hb7
  replace hB := hB.below hb7
  replace hC := hC.below hb7
  replace hY := hY.below hb7
  replace bb := bb.trans (hb7.mono bb.size)
  clear hb7
  go_wp2_with fail
  refine (nSameF cY cZ hY hZ (by have h1 := HAB.out; omega)).mono ?_
  rintro e x8 ⟨rfl, hb8⟩
  replace hA := hA.below hb8
  replace hB := hB.below hb8
  replace hC := hC.below hb8
  replace bb := bb.trans (hb8.mono bb.size)
  clear hb8 hY hZ
  go_wp2_with fail
  refine (nAdd ca cc hA hC (by omega)).mono ?_
  rintro e x9 ⟨aS, cS, nS, rfl, hS, hb9⟩
  replace hA := hA.below hb9
  replace hB := hB.below hb9
  replace hC := hC.below hb9
  replace bb := bb.trans (hb9.mono bb.size)
  clear hb9
  go_wp2_with fail
  refine (nAdd cb cc hB hC (by omega)).mono ?_
  rintro e x10 ⟨aT, cT, nT, rfl, hT, hb10⟩
  replace hA := hA.below hb10
  replace hB := hB.below hb10
  replace hC := hC.below hb10
  replace hS := hS.below hb10
  replace bb := bb.trans (hb10.mono bb.size)
  clear hb10
  go_wp2_with fail
  refine (nCmpIs cS cT (-1) hS.1 hT.1 (cmpN_lt (by have h1 := HAB.out; omega))).mono ?_
  rintro e x11 ⟨rfl, hb11⟩
  replace hA := hA.below hb11
  replace hB := hB.below hb11
  replace hC := hC.below hb11
  replace bb := bb.trans (hb11.mono bb.size)
  clear hb11 hS hT
  go_wp2_with fail
  refine (nCmpIs cc 0 0 hC (Nm.nil _) (by rw [HC0.out]; exact cmpN_eq _)).mono ?_
  rintro e x12 ⟨rfl, hb12⟩
  replace hA := hA.below hb12
  replace hB := hB.below hb12
  replace hC := hC.below hb12
  replace bb := bb.trans (hb12.mono bb.size)
  clear hb12
  go_wp2_with fail
  go_wp2
  go_ret
  exact ⟨rfl, bb⟩

set_option maxHeartbeats 8000000 in
set_option maxRecDepth 100000 in
theorem ord_lt_le_p (a b c : Option Addr) (n m k ca cb cc va vb vc : Nat) (w : World) (htab : Tab w) (h1 : n ≤ 40) (h2 : m ≤ 40) (h3 : k ≤ 40) (hA : Nm w a n va 41) (hB : Nm w b m vb 41) (hC : Nm w c k vc 41) (hab0 : va < vb) (hbc0 : vb ≤ vc) (hc0 : 0 < vc) :
    Calls Tryd.prog 13 #[.slice a n ca, .slice b m cb, .slice c k cc] w fun e w' => e = .returned (.bool true) ∧ Below w.heap.size w w' := by
  have HT := Lib.hid htab; have HAB := Lib.hid hab0; have HBC := Lib.hid hbc0; have HC0 := Lib.hid hc0
  clear htab hab0 hbc0 hc0
  go_enter Tryd.func13, Tryd.ntmps13
  go_wp2_with fail
  refine (shown_any w HT.out).mono ?_
  rintro e x1 ⟨rfl, hb1⟩
  replace hA := hA.below hb1
  replace hB := hB.below hb1
  replace hC := hC.below hb1
  have bb := hb1
  clear hb1
  go_wp2_with fail
  refine (great_no a n ca _ h1).mono ?_
  rintro e wq ⟨rfl, rfl⟩
  go_wp2_with fail
  refine (great_no b m cb _ h2).mono ?_
  rintro e wq ⟨rfl, rfl⟩
  go_wp2_with fail
  refine (great_no c k cc _ h3).mono ?_
  rintro e wq ⟨rfl, rfl⟩
  go_wp2_with fail
  refine (nCmpIs ca cb (-1) hA hB (cmpN_lt HAB.out)).mono ?_
  rintro e x2 ⟨rfl, hb2⟩
  replace hA := hA.below hb2
  replace hB := hB.below hb2
  replace hC := hC.below hb2
  replace bb := bb.trans (hb2.mono bb.size)
  clear hb2
  go_wp2_with fail
  refine (nCmpLe cb cc hB hC HBC.out).mono ?_
  rintro e x3 ⟨z1, hz1, hz1b, rfl, hb3⟩
  replace hA := hA.below hb3
  replace hB := hB.below hb3
  replace hC := hC.below hb3
  replace bb := bb.trans (hb3.mono bb.size)
  clear hb3
  go_wp2_with fail
  refine (nCmpIs cb ca 1 hB hA (cmpN_gt HAB.out)).mono ?_
  rintro e x4 ⟨rfl, hb4⟩
  replace hA := hA.below hb4
  replace hB := hB.below hb4
  replace hC := hC.below hb4
  replace bb := bb.trans (hb4.mono bb.size)
  clear hb4
  go_wp2_with fail
  refine (nCmpLe ca cc hA hC (by have h1 := HAB.out; have h2 := HBC.out; omega)).mono ?_
  rintro e x5 ⟨z2, hz2, hz2b, rfl, hb5⟩
  have hz2n : ¬ 0 < z2 := by omega
  replace hA := hA.below hb5
  replace hB := hB.below hb5
  replace hC := hC.below hb5
  replace bb := bb.trans (hb5.mono bb.size)
  clear hb5
  go_wp2_with fail
  refine (nNorm ca hA).mono ?_
  rintro e x6 ⟨aY, cY, nY, rfl, hY, hb6⟩
  replace hA := hA.below hb6
  replace hB := hB.below hb6
  replace hC := hC.below hb6
  replace bb := bb.trans (hb6.mono bb.size)
  clear hb6
  go_wp2_with fail
  refine (nNorm cb hB).mono ?_
  rintro e x7 ⟨aZ, cZ, nZ, rfl, hZ, hb7⟩
  replace hA := hA.below hb7
  replace hB := hB.below hb7
  replace hC := hC.below hb7
  replace hY := hY.below hb7
  replace bb := bb.trans (hb7.mono bb.size)
  clear hb7
  go_wp2_with fail
  refine (nSameF cY cZ hY hZ (by have h1 := HAB.out; omega)).mono ?_
  rintro e x8 ⟨rfl, hb8⟩
  replace hA := hA.below hb8
  replace hB := hB.below hb8
  replace hC := hC.below hb8
  replace bb := bb.trans (hb8.mono bb.size)
  clear hb8 hY hZ
  go_wp2_with fail
  refine (nAdd ca cc hA hC (by omega)).mono ?_
  rintro e x9 ⟨aS, cS, nS, rfl, hS, hb9⟩
  replace hA := hA.below hb9
  replace hB := hB.below hb9
  replace hC := hC.below hb9
  replace bb := bb.trans (hb9.mono bb.size)
  clear hb9
  go_wp2_with fail
  refine (nAdd cb cc hB hC (by omega)).mono ?_
  rintro e x10 ⟨aT, cT, nT, rfl, hT, hb10⟩
  replace hA := hA.below hb10
  replace hB := hB.below hb10
  replace hC := hC.below hb10
  replace hS := hS.below hb10
  replace bb := bb.trans (hb10.mono bb.size)
  clear hb10
  go_wp2_with fail
  refine (nCmpIs cS cT (-1) hS.1 hT.1 (cmpN_lt (by have h1 := HAB.out; omega))).mono ?_
  rintro e x11 ⟨rfl, hb11⟩
  replace hA := hA.below hb11
  replace hB := hB.below hb11
  replace hC := hC.below hb11
  replace bb := bb.trans (hb11.mono bb.size)
  clear hb11 hS hT
  go_wp2_with fail
  refine (nCmpIs cc 0 1 hC (Nm.nil _) (cmpN_gt HC0.out)).mono ?_
  rintro e x12 ⟨rfl, hb12⟩
  replace hA := hA.below hb12
  replace hB := hB.below hb12
  replace hC := hC.below hb12
  replace bb := bb.trans (hb12.mono bb.size)
  clear hb12
  go_wp2_with fail
  refine (nMul ca cc hA hC (by omega)).mono ?_
  rintro e x13 ⟨aS, cS, nS, rfl, hS, hb13⟩
  replace hA := hA.below hb13
  replace hB := hB.below hb13
  replace hC := hC.below hb13
  replace bb := bb.trans (hb13.mono bb.size)
  clear hb13
  go_wp2_with fail
  refine (nMul cb cc hB hC (by omega)).mono ?_
  rintro e x14 ⟨aT, cT, nT, rfl, hT, hb14⟩
  replace hA := hA.below hb14
  replace hB := hB.below hb14
  replace hC := hC.below hb14
  replace hS := hS.below hb14
  replace bb := bb.trans (hb14.mono bb.size)
  clear hb14
  go_wp2_with fail
  refine (nCmpIs cS cT (-1) hS.1 hT.1 (cmpN_lt ((Nat.mul_lt_mul_right HC0.out).2 HAB.out))).mono ?_
  rintro e x15 ⟨rfl, hb15⟩
  replace hA := hA.below hb15
  replace hB := hB.below hb15
  replace hC := hC.below hb15
  replace bb := bb.trans (hb15.mono bb.size)
  clear hb15 hS hT
  go_wp2_with fail
  go_wp2
  go_ret
  exact ⟨rfl, bb⟩

set_option maxHeartbeats 8000000 in
set_option maxRecDepth 100000 in
theorem ord_lt_gt_z (a b c : Option Addr) (n m k ca cb cc va vb vc : Nat) (w : World) (htab : Tab w) (h1 : n ≤ 40) (h2 : m ≤ 40) (h3 : k ≤ 40) (hA : Nm w a n va 41) (hB : Nm w b m vb 41) (hC : Nm w c k vc 41) (hab0 : va < vb) (hbc0 : vc < vb) (hc0 : vc = 0) :
    Calls Tryd.prog 13 #[.slice a n ca, .slice b m cb, .slice c k cc] w fun e w' => e = .returned (.bool true) ∧ Below w.heap.size w w' := by
  have HT := Lib.hid htab; have HAB := Lib.hid hab0; have HBC := Lib.hid hbc0; have HC0 := Lib.hid hc0
  clear htab hab0 hbc0 hc0
  go_enter Tryd.func13, Tryd.ntmps13
  go_wp2_with fail
  refine (shown_any w HT.out).mono ?_
  rintro e x1 ⟨rfl, hb1⟩
  replace hA := hA.below hb1
  replace hB := hB.below hb1
  replace hC := hC.below hb1
  have bb := hb1
  clear hb1
  go_wp2_with fail
  refine (great_no a n ca _ h1).mono ?_
  rintro e wq ⟨rfl, rfl⟩
  go_wp2_with fail
  refine (great_no b m cb _ h2).mono ?_
  rintro e wq ⟨rfl, rfl⟩
  go_wp2_with fail
  refine (great_no c k cc _ h3).mono ?_
  rintro e wq ⟨rfl, rfl⟩
  go_wp2_with fail
  refine (nCmpIs ca cb (-1) hA hB (cmpN_lt HAB.out)).mono ?_
  rintro e x2 ⟨rfl, hb2⟩
  replace hA := hA.below hb2
  replace hB := hB.below hb2
  replace hC := hC.below hb2
  replace bb := bb.trans (hb2.mono bb.size)
  clear hb2
  go_wp2_with fail
  refine (nCmpIs cb cc 1 hB hC (cmpN_gt HBC.out)).mono ?_
  rintro e x3 ⟨rfl, hb3⟩
  replace hA := hA.below hb3
  replace hB := hB.below hb3
  replace hC := hC.below hb3
  replace bb := bb.trans (hb3.mono bb.size)
  clear hb3
  go_wp2_with fail
  refine (nCmpIs cb ca 1 hB hA (cmpN_gt HAB.out)).mono ?_
  rintro e x4 ⟨rfl, hb4⟩
  replace hA := hA.below hb4
  replace hB := hB.below hb4
  replace hC := hC.below hb4
  replace bb := bb.trans (hb4.mono bb.size)
  clear hb4
  go_wp2_with fail
  refine (nNorm ca hA).mono ?_
  rintro e x5 ⟨aY, cY, nY, rfl, hY, hb5⟩
  replace hA := hA.below hb5
  replace hB := hB.below hb5
  replace hC := hC.below hb5
  replace bb := bb.trans (hb5.mono bb.size)
  clear hb5
  go_wp2_with fail
  refine (nNorm cb hB).mono ?_
  rintro e x6 ⟨aZ, cZ, nZ, rfl, hZ, hb6⟩
  replace hA := hA.below hb6
  replace hB := hB.below hb6
  replace hC := hC.below hb6
  replace hY := hY.below hb6
  replace bb := bb.trans (hb6.mono bb.size)
  clear hb6
  go_wp2_with fail
  refine (nSameF cY cZ hY hZ (by have h1 := HAB.out; omega)).mono ?_
  rintro e x7 ⟨rfl, hb7⟩
  replace hA := hA.below hb7
  replace hB := hB.below hb7
  replace hC := hC.below hb7
  replace bb := bb.trans (hb7.mono bb.size)
  clear hb7 hY hZ
  go_wp2_with fail
  refine (nAdd ca cc hA hC (by omega)).mono ?_
  rintro e x8 ⟨aS, cS, nS, rfl, hS, hb8⟩
  replace hA := hA.below hb8
  replace hB := hB.below hb8
  replace hC := hC.below hb8
  replace bb := bb.trans (hb8.mono bb.size)
  clear hb8
  go_wp2_with fail
  refine (nAdd cb cc hB hC (by omega)).mono ?_
  rintro e x9 ⟨aT, cT, nT, rfl, hT, hb9⟩
  replace hA := hA.below hb9
  replace hB := hB.below hb9
  replace hC := hC.below hb9
  replace hS := hS.below hb9
  replace bb := bb.trans (hb9.mono bb.size)
  clear hb9
  go_wp2_with fail
  refine (nCmpIs cS cT (-1) hS.1 hT.1 (cmpN_lt (by have h1 := HAB.out; omega))).mono ?_
  rintro e x10 ⟨rfl, hb10⟩
  replace hA := hA.below hb10
  replace hB := hB.below hb10
  replace hC := hC.below hb10
  replace bb := bb.trans (hb10.mono bb.size)
  clear hb10 hS hT
  go_wp2_with fail
  refine (nCmpIs cc 0 0 hC (Nm.nil _) (by rw [HC0.out]; exact cmpN_eq _)).mono ?_
  rintro e x11 ⟨rfl, hb11⟩
  replace hA := hA.below hb11
  replace hB := hB.below hb11
  replace hC := hC.below hb11
  replace bb := bb.trans (hb11.mono bb.size)
  clear hb11
  go_wp2_with fail
  go_wp2
  go_ret
  exact ⟨rfl, bb⟩

set_option maxHeartbeats 8000000 in
set_option maxRecDepth 100000 in
theorem ord_lt_gt_p (a b c : Option Addr) (n m k ca cb cc va vb vc : Nat) (w : World) (htab : Tab w) (h1 : n ≤ 40) (h2 : m ≤ 40) (h3 : k ≤ 40) (hA : Nm w a n va 41) (hB : Nm w b m vb 41) (hC : Nm w c k vc 41) (hab0 : va < vb) (hbc0 : vc < vb) (hc0 : 0 < vc) :
    Calls Tryd.prog 13 #[.slice a n ca, .slice b m cb, .slice c k cc] w fun e w' => e = .returned (.bool true) ∧ Below w.heap.size w w' := by
  have HT := Lib.hid htab; have HAB := Lib.hid hab0; have HBC := Lib.hid hbc0; have HC0 := Lib.hid hc0
  clear htab hab0 hbc0 hc0
  go_enter Tryd.func13, Tryd.ntmps13
  go_wp2_with fail
  refine (shown_any w HT.out).mono ?_
  rintro e x1 ⟨rfl, hb1⟩
  replace hA := hA.below hb1
  replace hB := hB.below hb1
  replace hC := hC.below hb1
  have bb := hb1
  clear hb1
  go_wp2_with fail
  refine (great_no a n ca _ h1).mono ?_
  rintro e wq ⟨rfl, rfl⟩
  go_wp2_with fail
  refine (great_no b m cb _ h2).mono ?_
  rintro e wq ⟨rfl, rfl⟩
  go_wp2_with fail
  refine (great_no c k cc _ h3).mono ?_
  rintro e wq ⟨rfl, rfl⟩
  go_wp2_with fail
  refine (nCmpIs ca cb (-1) hA hB (cmpN_lt HAB.out)).mono ?_
  rintro e x2 ⟨rfl, hb2⟩
  replace hA := hA.below hb2
  replace hB := hB.below hb2
  replace hC := hC.below hb2
  replace bb := bb.trans (hb2.mono bb.size)
  clear hb2
  go_wp2_with fail
  refine (nCmpIs cb cc 1 hB hC (cmpN_gt HBC.out)).mono ?_
  rintro e x3 ⟨rfl, hb3⟩
  replace hA := hA.below hb3
  replace hB := hB.below hb3
  replace hC := hC.below hb3
  replace bb := bb.trans (hb3.mono bb.size)
  clear hb3
  go_wp2_with fail
  refine (nCmpIs cb ca 1 hB hA (cmpN_gt HAB.out)).mono ?_
  rintro e x4 ⟨rfl, hb4⟩
  replace hA := hA.below hb4
  replace hB := hB.below hb4
  replace hC := hC.below hb4
  replace bb := bb.trans (hb4.mono bb.size)
  clear hb4
  go_wp2_with fail
  refine (nNorm ca hA).mono ?_
  rintro e x5 ⟨aY, cY, nY, rfl, hY, hb5⟩
  replace hA := hA.below hb5
  replace hB := hB.below hb5
  replace hC := hC.below hb5
  replace bb := bb.trans (hb5.mono bb.size)
  clear hb5
  go_wp2_with fail
  refine (nNorm cb hB).mono ?_
  rintro e x6 ⟨aZ, cZ, nZ, rfl, hZ, hb6⟩
  replace hA := hA.below hb6
  replace hB := hB.below hb6
  replace hC := hC.below hb6
  replace hY := hY.below hb6
  replace bb := bb.trans (hb6.mono bb.size)
  clear hb6
  go_wp2_with fail
  refine (nSameF cY cZ hY hZ (by have h1 := HAB.out; omega)).mono ?_
  rintro e x7 ⟨rfl, hb7⟩
  replace hA := hA.below hb7
  replace hB := hB.below hb7
  replace hC := hC.below hb7
  replace bb := bb.trans (hb7.mono bb.size)
  clear hb7 hY hZ
  go_wp2_with fail
  refine (nAdd ca cc hA hC (by omega)).mono ?_
  rintro e x8 ⟨aS, cS, nS, rfl, hS, hb8⟩
  replace hA := hA.below hb8
  replace hB := hB.below hb8
  replace hC := hC.below hb8
  replace bb := bb.trans (hb8.mono bb.size)
  clear hb8
  go_wp2_with fail
  refine (nAdd cb cc hB hC (by omega)).mono ?_
  rintro e x9 ⟨aT, cT, nT, rfl, hT, hb9⟩
  replace hA := hA.below hb9
  replace hB := hB.below hb9
  replace hC := hC.below hb9
  replace hS := hS.below hb9
  replace bb := bb.trans (hb9.mono bb.size)
  clear hb9
  go_wp2_with fail
  refine (nCmpIs cS cT (-1) hS.1 hT.1 (cmpN_lt (by have h1 := HAB.out; omega))).mono ?_
  rintro e x10 ⟨rfl, hb10⟩
  replace hA := hA.below hb10
  replace hB := hB.below hb10
  replace hC := hC.below hb10
  replace bb := bb.trans (hb10.mono bb.size)
  clear hb10 hS hT
  go_wp2_with fail
  refine (nCmpIs cc 0 1 hC (Nm.nil _) (cmpN_gt HC0.out)).mono ?_
  rintro e x11 ⟨rfl, hb11⟩
  replace hA := hA.below hb11
  replace hB := hB.below hb11
  replace hC := hC.below hb11
  replace bb := bb.trans (hb11.mono bb.size)
  clear hb11
  go_wp2_with fail
  refine (nMul ca cc hA hC (by omega)).mono ?_
  rintro e x12 ⟨aS, cS, nS, rfl, hS, hb12⟩
  replace hA := hA.below hb12
  replace hB := hB.below hb12
  replace hC := hC.below hb12
  replace bb := bb.trans (hb12.mono bb.size)
  clear hb12
  go_wp2_with fail
  refine (nMul cb cc hB hC (by omega)).mono ?_
  rintro e x13 ⟨aT, cT, nT, rfl, hT, hb13⟩
  replace hA := hA.below hb13
  replace hB := hB.below hb13
  replace hC := hC.below hb13
  replace hS := hS.below hb13
  replace bb := bb.trans (hb13.mono bb.size)
  clear hb13
  go_wp2_with fail
  refine (nCmpIs cS cT (-1) hS.1 hT.1 (cmpN_lt ((Nat.mul_lt_mul_right HC0.out).2 HAB.out))).mono ?_
  rintro e x14 ⟨rfl, hb14⟩
  replace hA := hA.below hb14
  replace hB := hB.below hb14
  replace hC := hC.below hb14
  replace bb := bb.trans (hb14.mono bb.size)
  clear hb14 hS hT
  go_wp2_with fail
  go_wp2
  go_ret
  exact ⟨rfl, bb⟩

set_option maxHeartbeats 8000000 in
set_option maxRecDepth 100000 in
theorem ord_eq_le_z (a b c : Option Addr) (n m k ca cb cc va vb vc : Nat) (w : World) (htab : Tab w) (h1 : n ≤ 40) (h2 : m ≤ 40) (h3 : k ≤ 40) (hA : Nm w a n va 41) (hB : Nm w b m vb 41) (hC : Nm w c k vc 41) (hab0 : va = vb) (hbc0 : vb ≤ vc) (hc0 : vc = 0) :
    Calls Tryd.prog 13 #[.slice a n ca, .slice b m cb, .slice c k cc] w fun e w' => e = .returned (.bool true) ∧ Below w.heap.size w w' := by
  have HT := Lib.hid htab; have HAB := Lib.hid hab0; have HBC := Lib.hid hbc0; have HC0 := Lib.hid hc0
  clear htab hab0 hbc0 hc0
  go_enter Tryd.func13, Tryd.ntmps13
  go_wp2_with fail
  refine (shown_any w HT.out).mono ?_
  rintro e x1 ⟨rfl, hb1⟩
  replace hA := hA.below hb1
  replace hB := hB.below hb1
  replace hC := hC.below hb1
  have bb := hb1
  clear hb1
  go_wp2_with fail
  refine (great_no a n ca _ h1).mono ?_
  rintro e wq ⟨rfl, rfl⟩
  go_wp2_with fail
  refine (great_no b m cb _ h2).mono ?_
  rintro e wq ⟨rfl, rfl⟩
  go_wp2_with fail
  refine (great_no c k cc _ h3).mono ?_
  rintro e wq ⟨rfl, rfl⟩
  go_wp2_with fail
  refine (nCmpIs ca cb 0 hA hB (by rw [HAB.out]; exact cmpN_eq _)).mono ?_
  rintro e x2 ⟨rfl, hb2⟩
  replace hA := hA.below hb2
  replace hB := hB.below hb2
  replace hC := hC.below hb2
  replace bb := bb.trans (hb2.mono bb.size)
  clear hb2
  go_wp2_with fail
  refine (nCmpLe cb cc hB hC HBC.out).mono ?_
  rintro e x3 ⟨z1, hz1, hz1b, rfl, hb3⟩
  replace hA := hA.below hb3
  replace hB := hB.below hb3
  replace hC := hC.below hb3
  replace bb := bb.trans (hb3.mono bb.size)
  clear hb3
  go_wp2_with fail
  refine (nCmpIs cb ca 0 hB hA (by rw [HAB.out]; exact cmpN_eq _)).mono ?_
  rintro e x4 ⟨rfl, hb4⟩
  replace hA := hA.below hb4
  replace hB := hB.below hb4
  replace hC := hC.below hb4
  replace bb := bb.trans (hb4.mono bb.size)
  clear hb4
  go_wp2_with fail
  refine (nCmpLe ca cc hA hC (by have h1 := HAB.out; have h2 := HBC.out; omega)).mono ?_
  rintro e x5 ⟨z2, hz2, hz2b, rfl, hb5⟩
  have hz2n : ¬ 0 < z2 := by omega
  replace hA := hA.below hb5
  replace hB := hB.below hb5
  replace hC := hC.below hb5
  replace bb := bb.trans (hb5.mono bb.size)
  clear hb5
  go_wp2_with fail
  refine (nNorm ca hA).mono ?_
  rintro e x6 ⟨aY, cY, nY, rfl, hY, hb6⟩
  replace hA := hA.below hb6
  replace hB := hB.below hb6
  replace hC := hC.below hb6
  replace bb := bb.trans (hb6.mono bb.size)
  clear hb6
  go_wp2_with fail
  refine (nNorm cb hB).mono ?_
  rintro e x7 ⟨aZ, cZ, nZ, rfl, hZ, hb7⟩
  replace hA := hA.below hb7
  replace hB := hB.below hb7
  replace hC := hC.below hb7
  replace hY := hY.below hb7
  replace bb := bb.trans (hb7.mono bb.size)
  clear hb7
  go_wp2_with fail
  refine (nSameT cY cZ hY hZ HAB.out).mono ?_
  rintro e x8 ⟨rfl, hb8⟩
  replace hA := hA.below hb8
  replace hB := hB.below hb8
  replace hC := hC.below hb8
  replace bb := bb.trans (hb8.mono bb.size)
  clear hb8 hY hZ
  go_wp2_with fail
  refine (nAdd ca cc hA hC (by omega)).mono ?_
  rintro e x9 ⟨aS, cS, nS, rfl, hS, hb9⟩
  replace hA := hA.below hb9
  replace hB := hB.below hb9
  replace hC := hC.below hb9
  replace bb := bb.trans (hb9.mono bb.size)
  clear hb9
  go_wp2_with fail
  refine (nAdd cb cc hB hC (by omega)).mono ?_
  rintro e x10 ⟨aT, cT, nT, rfl, hT, hb10⟩
  replace hA := hA.below hb10
  replace hB := hB.below hb10
  replace hC := hC.below hb10
  replace hS := hS.below hb10
  replace bb := bb.trans (hb10.mono bb.size)
  clear hb10
  go_wp2_with fail
  refine (nCmpIs cS cT 0 hS.1 hT.1 (by rw [HAB.out]; exact cmpN_eq _)).mono ?_
  rintro e x11 ⟨rfl, hb11⟩
  replace hA := hA.below hb11
  replace hB := hB.below hb11
  replace hC := hC.below hb11
  replace bb := bb.trans (hb11.mono bb.size)
  clear hb11 hS hT
  go_wp2_with fail
  refine (nCmpIs cc 0 0 hC (Nm.nil _) (by rw [HC0.out]; exact cmpN_eq _)).mono ?_
  rintro e x12 ⟨rfl, hb12⟩
  replace hA := hA.below hb12
  replace hB := hB.below hb12
  replace hC := hC.below hb12
  replace bb := bb.trans (hb12.mono bb.size)
  clear hb12
  go_wp2_with fail
  go_wp2
  go_ret
  exact ⟨rfl, bb⟩

set_option maxHeartbeats 8000000 in
set_option maxRecDepth 100000 in
theorem ord_eq_le_p (a b c : Option Addr) (n m k ca cb cc va vb vc : Nat) (w : World) (htab : Tab w) (h1 : n ≤ 40) (h2 : m ≤ 40) (h3 : k ≤ 40) (hA : Nm w a n va 41) (hB : Nm w b m vb 41) (hC : Nm w c k vc 41) (hab0 : va = vb) (hbc0 : vb ≤ vc) (hc0 : 0 < vc) :
    Calls Tryd.prog 13 #[.slice a n ca, .slice b m cb, .slice c k cc] w fun e w' => e = .returned (.bool true) ∧ Below w.heap.size w w' := by
  have HT := Lib.hid htab; have HAB := Lib.hid hab0; have HBC := Lib.hid hbc0; have HC0 := Lib.hid hc0
  clear htab hab0 hbc0 hc0
  go_enter Tryd.func13, Tryd.ntmps13
  go_wp2_with fail
  refine (shown_any w HT.out).mono ?_
  rintro e x1 ⟨rfl, hb1⟩
  replace hA := hA.below hb1
  replace hB := hB.below hb1
  replace hC := hC.below hb1
  have bb := hb1
  clear hb1
  go_wp2_with fail
  refine (great_no a n ca _ h1).mono ?_
  rintro e wq ⟨rfl, rfl⟩
  go_wp2_with fail
  refine (great_no b m cb _ h2).mono ?_
  rintro e wq ⟨rfl, rfl⟩
  go_wp2_with fail
  refine (great_no c k cc _ h3).mono ?_
  rintro e wq ⟨rfl, rfl⟩
  go_wp2_with fail
  refine (nCmpIs ca cb 0 hA hB (by rw [HAB.out]; exact cmpN_eq _)).mono ?_
  rintro e x2 ⟨rfl, hb2⟩
  replace hA := hA.below hb2
  replace hB := hB.below hb2
  replace hC := hC.below hb2
  replace bb := bb.trans (hb2.mono bb.size)
  clear hb2
  go_wp2_with fail
  refine (nCmpLe cb cc hB hC HBC.out).mono ?_
  rintro e x3 ⟨z1, hz1, hz1b, rfl, hb3⟩
  replace hA := hA.below hb3
  replace hB := hB.below hb3
  replace hC := hC.below hb3
  replace bb := bb.trans (hb3.mono bb.size)
  clear hb3
  go_wp2_with fail
  refine (nCmpIs cb ca 0 hB hA (by rw [HAB.out]; exact cmpN_eq _)).mono ?_
  rintro e x4 ⟨rfl, hb4⟩
  replace hA := hA.below hb4
  replace hB := hB.below hb4
  replace hC := hC.below hb4
  replace bb := bb.trans (hb4.mono bb.size)
  clear hb4
  go_wp2_with fail
  refine (nCmpLe ca cc hA hC (by have h1 := HAB.out; have h2 := HBC.out; omega)).mono ?_
  rintro e x5 ⟨z2, hz2, hz2b, rfl, hb5⟩
  have hz2n : ¬ 0 < z2 := by omega
  replace hA := hA.below hb5
  replace hB := hB.below hb5
  replace hC := hC.below hb5
  replace bb := bb.trans (hb5.mono bb.size)
  clear hb5
  go_wp2_with fail
  refine (nNorm ca hA).mono ?_
  rintro e x6 ⟨aY, cY, nY, rfl, hY, hb6⟩
  replace hA := hA.below hb6
  replace hB := hB.below hb6
  replace hC := hC.below hb6
  replace bb := bb.trans (hb6.mono bb.size)
  clear hb6
  go_wp2_with fail
  refine (nNorm cb hB).mono ?_
  rintro e x7 ⟨aZ, cZ, nZ, rfl, hZ, hb7⟩
  replace hA := hA.below hb7
  replace hB := hB.below hb7
  replace hC := hC.below hb7
  replace hY := hY.below hb7
  replace bb := bb.trans (hb7.mono bb.size)
  clear hb7
  go_wp2_with fail
  refine (nSameT cY cZ hY hZ HAB.out).mono ?_
  rintro e x8 ⟨rfl, hb8⟩
  replace hA := hA.below hb8
  replace hB := hB.below hb8
  replace hC := hC.below hb8
  replace bb := bb.trans (hb8.mono bb.size)
  clear hb8 hY hZ
  go_wp2_with fail
  refine (nAdd ca cc hA hC (by omega)).mono ?_
  rintro e x9 ⟨aS, cS, nS, rfl, hS, hb9⟩
  replace hA := hA.below hb9
  replace hB := hB.below hb9
  replace hC := hC.below hb9
  replace bb := bb.trans (hb9.mono bb.size)
  clear hb9
  go_wp2_with fail
  refine (nAdd cb cc hB hC (by omega)).mono ?_
  rintro e x10 ⟨aT, cT, nT, rfl, hT, hb10⟩
  replace hA := hA.below hb10
  replace hB := hB.below hb10
  replace hC := hC.below hb10
  replace hS := hS.below hb10
  replace bb := bb.trans (hb10.mono bb.size)
  clear hb10
  go_wp2_with fail
  refine (nCmpIs cS cT 0 hS.1 hT.1 (by rw [HAB.out]; exact cmpN_eq _)).mono ?_
  rintro e x11 ⟨rfl, hb11⟩
  replace hA := hA.below hb11
  replace hB := hB.below hb11
  replace hC := hC.below hb11
  replace bb := bb.trans (hb11.mono bb.size)
  clear hb11 hS hT
  go_wp2_with fail
  refine (nCmpIs cc 0 1 hC (Nm.nil _) (cmpN_gt HC0.out)).mono ?_
  rintro e x12 ⟨rfl, hb12⟩
  replace hA := hA.below hb12
  replace hB := hB.below hb12
  replace hC := hC.below hb12
  replace bb := bb.trans (hb12.mono bb.size)
  clear hb12
  go_wp2_with fail
  refine (nMul ca cc hA hC (by omega)).mono ?_
  rintro e x13 ⟨aS, cS, nS, rfl, hS, hb13⟩
  replace hA := hA.below hb13
  replace hB := hB.below hb13
  replace hC := hC.below hb13
  replace bb := bb.trans (hb13.mono bb.size)
  clear hb13
  go_wp2_with fail
  refine (nMul cb cc hB hC (by omega)).mono ?_
  rintro e x14 ⟨aT, cT, nT, rfl, hT, hb14⟩
  replace hA := hA.below hb14
  replace hB := hB.below hb14
  replace hC := hC.below hb14
  replace hS := hS.below hb14
  replace bb := bb.trans (hb14.mono bb.size)
  clear hb14
  go_wp2_with fail
  refine (nCmpIs cS cT 0 hS.1 hT.1 (by rw [HAB.out]; exact cmpN_eq _)).mono ?_
  rintro e x15 ⟨rfl, hb15⟩
  replace hA := hA.below hb15
  replace hB := hB.below hb15
  replace hC := hC.below hb15
  replace bb := bb.trans (hb15.mono bb.size)
  clear hb15 hS hT
  go_wp2_with fail
  go_wp2
  go_ret
  exact ⟨rfl, bb⟩

set_option maxHeartbeats 8000000 in
set_option maxRecDepth 100000 in
theorem ord_eq_gt_z (a b c : Option Addr) (n m k ca cb cc va vb vc : Nat) (w : World) (htab : Tab w) (h1 : n ≤ 40) (h2 : m ≤ 40) (h3 : k ≤ 40) (hA : Nm w a n va 41) (hB : Nm w b m vb 41) (hC : Nm w c k vc 41) (hab0 : va = vb) (hbc0 : vc < vb) (hc0 : vc = 0) :
    Calls Tryd.prog 13 #[.slice a n ca, .slice b m cb, .slice c k cc] w fun e w' => e = .returned (.bool true) ∧ Below w.heap.size w w' := by
  have HT := Lib.hid htab; have HAB := Lib.hid hab0; have HBC := Lib.hid hbc0; have HC0 := Lib.hid hc0
  clear htab hab0 hbc0 hc0
  go_enter Tryd.func13, Tryd.ntmps13
  go_wp2_with fail
  refine (shown_any w HT.out).mono ?_
  rintro e x1 ⟨rfl, hb1⟩
  replace hA := hA.below hb1
  replace hB := hB.below hb1
  replace hC := hC.below hb1
  have bb := hb1
  clear hb1
  go_wp2_with fail
  refine (great_no a n ca _ h1).mono ?_
  rintro e wq ⟨rfl, rfl⟩
  go_wp2_with fail
  refine (great_no b m cb _ h2).mono ?_
  rintro e wq ⟨rfl, rfl⟩
  go_wp2_with fail
  refine (great_no c k cc _ h3).mono ?_
  rintro e wq ⟨rfl, rfl⟩
  go_wp2_with fail
  refine (nCmpIs ca cb 0 hA hB (by rw [HAB.out]; exact cmpN_eq _)).mono ?_
  rintro e x2 ⟨rfl, hb2⟩
  replace hA := hA.below hb2
  replace hB := hB.below hb2
  replace hC := hC.below hb2
  replace bb := bb.trans (hb2.mono bb.size)
  clear hb2
  go_wp2_with fail
  refine (nCmpIs cb cc 1 hB hC (cmpN_gt HBC.out)).mono ?_
  rintro e x3 ⟨rfl, hb3⟩
  replace hA := hA.below hb3
  replace hB := hB.below hb3
  replace hC := hC.below hb3
  replace bb := bb.trans (hb3.mono bb.size)
  clear hb3
  go_wp2_with fail
  refine (nCmpIs cb ca 0 hB hA (by rw [HAB.out]; exact cmpN_eq _)).mono ?_
  rintro e x4 ⟨rfl, hb4⟩
  replace hA := hA.below hb4
  replace hB := hB.below hb4
  replace hC := hC.below hb4
  replace bb := bb.trans (hb4.mono bb.size)
  clear hb4
  go_wp2_with fail
  refine (nNorm ca hA).mono ?_
  rintro e x5 ⟨aY, cY, nY, rfl, hY, hb5⟩
  replace hA := hA.below hb5
  replace hB := hB.below hb5
  replace hC := hC.below hb5
  replace bb := bb.trans (hb5.mono bb.size)
  clear hb5
  go_wp2_with fail
  refine (nNorm cb hB).mono ?_
  rintro e x6 ⟨aZ, cZ, nZ, rfl, hZ, hb6⟩
  replace hA := hA.below hb6
  replace hB := hB.below hb6
  replace hC := hC.below hb6
  replace hY := hY.below hb6
  replace bb := bb.trans (hb6.mono bb.size)
  clear hb6
  go_wp2_with fail
  refine (nSameT cY cZ hY hZ HAB.out).mono ?_
  rintro e x7 ⟨rfl, hb7⟩
  replace hA := hA.below hb7
  replace hB := hB.below hb7
  replace hC := hC.below hb7
  replace bb := bb.trans (hb7.mono bb.size)
  clear hb7 hY hZ
  go_wp2_with fail
  refine (nAdd ca cc hA hC (by omega)).mono ?_
  rintro e x8 ⟨aS, cS, nS, rfl, hS, hb8⟩
  replace hA := hA.below hb8
  replace hB := hB.below hb8
  replace hC := hC.below hb8
  replace bb := bb.trans (hb8.mono bb.size)
  clear hb8
  go_wp2_with fail
  refine (nAdd cb cc hB hC (by omega)).mono ?_
  rintro e x9 ⟨aT, cT, nT, rfl, hT, hb9⟩
  replace hA := hA.below hb9
  replace hB := hB.below hb9
  replace hC := hC.below hb9
  replace hS := hS.below hb9
  replace bb := bb.trans (hb9.mono bb.size)
  clear hb9
  go_wp2_with fail
  refine (nCmpIs cS cT 0 hS.1 hT.1 (by rw [HAB.out]; exact cmpN_eq _)).mono ?_
  rintro e x10 ⟨rfl, hb10⟩
  replace hA := hA.below hb10
  replace hB := hB.below hb10
  replace hC := hC.below hb10
  replace bb := bb.trans (hb10.mono bb.size)
  clear hb10 hS hT
  go_wp2_with fail
  refine (nCmpIs cc 0 0 hC (Nm.nil _) (by rw [HC0.out]; exact cmpN_eq _)).mono ?_
  rintro e x11 ⟨rfl, hb11⟩
  replace hA := hA.below hb11
  replace hB := hB.below hb11
  replace hC := hC.below hb11
  replace bb := bb.trans (hb11.mono bb.size)
  clear hb11
  go_wp2_with fail
  go_wp2
  go_ret
  exact ⟨rfl, bb⟩

set_option maxHeartbeats 8000000 in
set_option maxRecDepth 100000 in
theorem ord_eq_gt_p (a b c : Option Addr) (n m k ca cb cc va vb vc : Nat) (w : World) (htab : Tab w) (h1 : n ≤ 40) (h2 : m ≤ 40) (h3 : k ≤ 40) (hA : Nm w a n va 41) (hB : Nm w b m vb 41) (hC : Nm w c k vc 41) (hab0 : va = vb) (hbc0 : vc < vb) (hc0 : 0 < vc) :
    Calls Tryd.prog 13 #[.slice a n ca, .slice b m cb, .slice c k cc] w fun e w' => e = .returned (.bool true) ∧ Below w.heap.size w w' := by
  have HT := Lib.hid htab; have HAB := Lib.hid hab0; have HBC := Lib.hid hbc0; have HC0 := Lib.hid hc0
  clear htab hab0 hbc0 hc0
  go_enter Tryd.func13, Tryd.ntmps13
  go_wp2_with fail
  refine (shown_any w HT.out).mono ?_
  rintro e x1 ⟨rfl, hb1⟩
  replace hA := hA.below hb1
  replace hB := hB.below hb1
  replace hC := hC.below hb1
  have bb := hb1
  clear hb1
  go_wp2_with fail
  refine (great_no a n ca _ h1).mono ?_
  rintro e wq ⟨rfl, rfl⟩
  go_wp2_with fail
  refine (great_no b m cb _ h2).mono ?_
  rintro e wq ⟨rfl, rfl⟩
  go_wp2_with fail
  refine (great_no c k cc _ h3).mono ?_
  rintro e wq ⟨rfl, rfl⟩
  go_wp2_with fail
  refine (nCmpIs ca cb 0 hA hB (by rw [HAB.out]; exact cmpN_eq _)).mono ?_
  rintro e x2 ⟨rfl, hb2⟩
  replace hA := hA.below hb2
  replace hB := hB.below hb2
  replace hC := hC.below hb2
  replace bb := bb.trans (hb2.mono bb.size)
  clear hb2
  go_wp2_with fail
  refine (nCmpIs cb cc 1 hB hC (cmpN_gt HBC.out)).mono ?_
  rintro e x3 ⟨rfl, hb3⟩
  replace hA := hA.below hb3
  replace hB := hB.below hb3
  replace hC := hC.below hb3
  replace bb := bb.trans (hb3.mono bb.size)
  clear hb3
  go_wp2_with fail
  refine (nCmpIs cb ca 0 hB hA (by rw [HAB.out]; exact cmpN_eq _)).mono ?_
  rintro e x4 ⟨rfl, hb4⟩
  replace hA := hA.below hb4
  replace hB := hB.below hb4
  replace hC := hC.below hb4
  replace bb := bb.trans (hb4.mono bb.size)
  clear hb4
  go_wp2_with fail
  refine (nNorm ca hA).mono ?_
  rintro e x5 ⟨aY, cY, nY, rfl, hY, hb5⟩
  replace hA := hA.below hb5
  replace hB := hB.below hb5
  replace hC := hC.below hb5
  replace bb := bb.trans (hb5.mono bb.size)
  clear hb5
  go_wp2_with fail
  refine (nNorm cb hB).mono ?_
  rintro e x6 ⟨aZ, cZ, nZ, rfl, hZ, hb6⟩
  replace hA := hA.below hb6
  replace hB := hB.below hb6
  replace hC := hC.below hb6
  replace hY := hY.below hb6
  replace bb := bb.trans (hb6.mono bb.size)
  clear hb6
  go_wp2_with fail
  refine (nSameT cY cZ hY hZ HAB.out).mono ?_
  rintro e x7 ⟨rfl, hb7⟩
  replace hA := hA.below hb7
  replace hB := hB.below hb7
  replace hC := hC.below hb7
  replace bb := bb.trans (hb7.mono bb.size)
  clear hb7 hY hZ
  go_wp2_with fail
  refine (nAdd ca cc hA hC (by omega)).mono ?_
  rintro e x8 ⟨aS, cS, nS, rfl, hS, hb8⟩
  replace hA := hA.below hb8
  replace hB := hB.below hb8
  replace hC := hC.below hb8
  replace bb := bb.trans (hb8.mono bb.size)
  clear hb8
  go_wp2_with fail
  refine (nAdd cb cc hB hC (by omega)).mono ?_
  rintro e x9 ⟨aT, cT, nT, rfl, hT, hb9⟩
  replace hA := hA.below hb9
  replace hB := hB.below hb9
  replace hC := hC.below hb9
  replace hS := hS.below hb9
  replace bb := bb.trans (hb9.mono bb.size)
  clear hb9
  go_wp2_with fail
  refine (nCmpIs cS cT 0 hS.1 hT.1 (by rw [HAB.out]; exact cmpN_eq _)).mono ?_
  rintro e x10 ⟨rfl, hb10⟩
  replace hA := hA.below hb10
  replace hB := hB.below hb10
  replace hC := hC.below hb10
  replace bb := bb.trans (hb10.mono bb.size)
  clear hb10 hS hT
  go_wp2_with fail
  refine (nCmpIs cc 0 1 hC (Nm.nil _) (cmpN_gt HC0.out)).mono ?_
  rintro e x11 ⟨rfl, hb11⟩
  replace hA := hA.below hb11
  replace hB := hB.below hb11
  replace hC := hC.below hb11
  replace bb := bb.trans (hb11.mono bb.size)
  clear hb11
  go_wp2_with fail
  refine (nMul ca cc hA hC (by omega)).mono ?_
  rintro e x12 ⟨aS, cS, nS, rfl, hS, hb12⟩
  replace hA := hA.below hb12
  replace hB := hB.below hb12
  replace hC := hC.below hb12
  replace bb := bb.trans (hb12.mono bb.size)
  clear hb12
  go_wp2_with fail
  refine (nMul cb cc hB hC (by omega)).mono ?_
  rintro e x13 ⟨aT, cT, nT, rfl, hT, hb13⟩
  replace hA := hA.below hb13
  replace hB := hB.below hb13
  replace hC := hC.below hb13
  replace hS := hS.below hb13
  replace bb := bb.trans (hb13.mono bb.size)
  clear hb13
  go_wp2_with fail
  refine (nCmpIs cS cT 0 hS.1 hT.1 (by rw [HAB.out]; exact cmpN_eq _)).mono ?_
  rintro e x14 ⟨rfl, hb14⟩
  replace hA := hA.below hb14
  replace hB := hB.below hb14
  replace hC := hC.below hb14
  replace bb := bb.trans (hb14.mono bb.size)
  clear hb14 hS hT
  go_wp2_with fail
  go_wp2
  go_ret
  exact ⟨rfl, bb⟩

set_option maxHeartbeats 8000000 in
set_option maxRecDepth 100000 in
theorem ord_gt_le_z (a b c : Option Addr) (n m k ca cb cc va vb vc : Nat) (w : World) (htab : Tab w) (h1 : n ≤ 40) (h2 : m ≤ 40) (h3 : k ≤ 40) (hA : Nm w a n va 41) (hB : Nm w b m vb 41) (hC : Nm w c k vc 41) (hab0 : vb < va) (hbc0 : vb ≤ vc) (hc0 : vc = 0) :
    Calls Tryd.prog 13 #[.slice a n ca, .slice b m cb, .slice c k cc] w fun e w' => e = .returned (.bool true) ∧ Below w.heap.size w w' := by
  have HT := Lib.hid htab; have HAB := Lib.hid hab0; have HBC := Lib.hid hbc0; have HC0 := Lib.hid hc0
  clear htab hab0 hbc0 hc0
  go_enter Tryd.func13, Tryd.ntmps13
  go_wp2_with fail
  refine (shown_any w HT.out).mono ?_
  rintro e x1 ⟨rfl, hb1⟩
  replace hA := hA.below hb1
  replace hB := hB.below hb1
  replace hC := hC.below hb1
  have bb := hb1
  clear hb1
  go_wp2_with fail
  refine (great_no a n ca _ h1).mono ?_
  rintro e wq ⟨rfl, rfl⟩
  go_wp2_with fail
  refine (great_no b m cb _ h2).mono ?_
  rintro e wq ⟨rfl, rfl⟩
  go_wp2_with fail
  refine (great_no c k cc _ h3).mono ?_
  rintro e wq ⟨rfl, rfl⟩
  go_wp2_with fail
  refine (nCmpIs ca cb 1 hA hB (cmpN_gt HAB.out)).mono ?_
  rintro e x2 ⟨rfl, hb2⟩
  replace hA := hA.below hb2
  replace hB := hB.below hb2
  replace hC := hC.below hb2
  replace bb := bb.trans (hb2.mono bb.size)
  clear hb2
  go_wp2_with fail
  refine (nCmpLe cb cc hB hC HBC.out).mono ?_
  rintro e x3 ⟨z1, hz1, hz1b, rfl, hb3⟩
  replace hA := hA.below hb3
  replace hB := hB.below hb3
  replace hC := hC.below hb3
  replace bb := bb.trans (hb3.mono bb.size)
  clear hb3
  go_wp2_with fail
  refine (nCmpIs cb ca (-1) hB hA (cmpN_lt HAB.out)).mono ?_
  rintro e x4 ⟨rfl, hb4⟩
  replace hA := hA.below hb4
  replace hB := hB.below hb4
  replace hC := hC.below hb4
  replace bb := bb.trans (hb4.mono bb.size)
  clear hb4
  go_wp2_with fail
  refine (nNorm ca hA).mono ?_
  rintro e x5 ⟨aY, cY, nY, rfl, hY, hb5⟩
  replace hA := hA.below hb5
  replace hB := hB.below hb5
  replace hC := hC.below hb5
  replace bb := bb.trans (hb5.mono bb.size)
  clear hb5
  go_wp2_with fail
  refine (nNorm cb hB).mono ?_
  rintro e x6 ⟨aZ, cZ, nZ, rfl, hZ, hb6⟩
  replace hA := hA.below hb6
  replace hB := hB.below hb6
  replace hC := hC.below hb6
  replace hY := hY.below hb6
  replace bb := bb.trans (hb6.mono bb.size)
  clear hb6
  go_wp2_with fail
  refine (nSameF cY cZ hY hZ (by have h1 := HAB.out; omega)).mono ?_
  rintro e x7 ⟨rfl, hb7⟩
  replace hA := hA.below hb7
  replace hB := hB.below hb7
  replace hC := hC.below hb7
  replace bb := bb.trans (hb7.mono bb.size)
  clear hb7 hY hZ
  go_wp2_with fail
  refine (nAdd ca cc hA hC (by omega)).mono ?_
  rintro e x8 ⟨aS, cS, nS, rfl, hS, hb8⟩
  replace hA := hA.below hb8
  replace hB := hB.below hb8
  replace hC := hC.below hb8
  replace bb := bb.trans (hb8.mono bb.size)
  clear hb8
  go_wp2_with fail
  refine (nAdd cb cc hB hC (by omega)).mono ?_
  rintro e x9 ⟨aT, cT, nT, rfl, hT, hb9⟩
  replace hA := hA.below hb9
  replace hB := hB.below hb9
  replace hC := hC.below hb9
  replace hS := hS.below hb9
  replace bb := bb.trans (hb9.mono bb.size)
  clear hb9
  go_wp2_with fail
  refine (nCmpIs cS cT 1 hS.1 hT.1 (cmpN_gt (by have h1 := HAB.out; omega))).mono ?_
  rintro e x10 ⟨rfl, hb10⟩
  replace hA := hA.below hb10
  replace hB := hB.below hb10
  replace hC := hC.below hb10
  replace bb := bb.trans (hb10.mono bb.size)
  clear hb10 hS hT
  go_wp2_with fail
  refine (nCmpIs cc 0 0 hC (Nm.nil _) (by rw [HC0.out]; exact cmpN_eq _)).mono ?_
  rintro e x11 ⟨rfl, hb11⟩
  replace hA := hA.below hb11
  replace hB := hB.below hb11
  replace hC := hC.below hb11
  replace bb := bb.trans (hb11.mono bb.size)
  clear hb11
  go_wp2_with fail
  go_wp2
  go_ret
  exact ⟨rfl, bb⟩

set_option maxHeartbeats 8000000 in
set_option maxRecDepth 100000 in
theorem ord_gt_le_p (a b c : Option Addr) (n m k ca cb cc va vb vc : Nat) (w : World) (htab : Tab w) (h1 : n ≤ 40) (h2 : m ≤ 40) (h3 : k ≤ 40) (hA : Nm w a n va 41) (hB : Nm w b m vb 41) (hC : Nm w c k vc 41) (hab0 : vb < va) (hbc0 : vb ≤ vc) (hc0 : 0 < vc) :
    Calls Tryd.prog 13 #[.slice a n ca, .slice b m cb, .slice c k cc] w fun e w' => e = .returned (.bool true) ∧ Below w.heap.size w w' := by
  have HT := Lib.hid htab; have HAB := Lib.hid hab0; have HBC := Lib.hid hbc0; have HC0 := Lib.hid hc0
  clear htab hab0 hbc0 hc0
  go_enter Tryd.func13, Tryd.ntmps13
  go_wp2_with fail
  refine (shown_any w HT.out).mono ?_
  rintro e x1 ⟨rfl, hb1⟩
  replace hA := hA.below hb1
  replace hB := hB.below hb1
  replace hC := hC.below hb1
  have bb := hb1
  clear hb1
  go_wp2_with fail
  refine (great_no a n ca _ h1).mono ?_
  rintro e wq ⟨rfl, rfl⟩
  go_wp2_with fail
  refine (great_no b m cb _ h2).mono ?_
  rintro e wq ⟨rfl, rfl⟩
  go_wp2_with fail
  refine (great_no c k cc _ h3).mono ?_
  rintro e wq ⟨rfl, rfl⟩
  go_wp2_with fail
  refine (nCmpIs ca cb 1 hA hB (cmpN_gt HAB.out)).mono ?_
  rintro e x2 ⟨rfl, hb2⟩
  replace hA := hA.below hb2
  replace hB := hB.below hb2
  replace hC := hC.below hb2
  replace bb := bb.trans (hb2.mono bb.size)
  clear hb2
  go_wp2_with fail
  refine (nCmpLe cb cc hB hC HBC.out).mono ?_
  rintro e x3 ⟨z1, hz1, hz1b, rfl, hb3⟩
  replace hA := hA.below hb3
  replace hB := hB.below hb3
  replace hC := hC.below hb3
  replace bb := bb.trans (hb3.mono bb.size)
  clear hb3
  go_wp2_with fail
  refine (nCmpIs cb ca (-1) hB hA (cmpN_lt HAB.out)).mono ?_
  rintro e x4 ⟨rfl, hb4⟩
  replace hA := hA.below hb4
  replace hB := hB.below hb4
  replace hC := hC.below hb4
  replace bb := bb.trans (hb4.mono bb.size)
  clear hb4
  go_wp2_with fail
  refine (nNorm ca hA).mono ?_
  rintro e x5 ⟨aY, cY, nY, rfl, hY, hb5⟩
  replace hA := hA.below hb5
  replace hB := hB.below hb5
  replace hC := hC.below hb5
  replace bb := bb.trans (hb5.mono bb.size)
  clear hb5
  go_wp2_with fail
  refine (nNorm cb hB).mono ?_
  rintro e x6 ⟨aZ, cZ, nZ, rfl, hZ, hb6⟩
  replace hA := hA.below hb6
  replace hB := hB.below hb6
  replace hC := hC.below hb6
  replace hY := hY.below hb6
  replace bb := bb.trans (hb6.mono bb.size)
  clear hb6
  go_wp2_with fail
  refine (nSameF cY cZ hY hZ (by have h1 := HAB.out; omega)).mono ?_
  rintro e x7 ⟨rfl, hb7⟩
  replace hA := hA.below hb7
  replace hB := hB.below hb7
  replace hC := hC.below hb7
  replace bb := bb.trans (hb7.mono bb.size)
  clear hb7 hY hZ
  go_wp2_with fail
  refine (nAdd ca cc hA hC (by omega)).mono ?_
  rintro e x8 ⟨aS, cS, nS, rfl, hS, hb8⟩
  replace hA := hA.below hb8
  replace hB := hB.below hb8
  replace hC := hC.below hb8
  replace bb := bb.trans (hb8.mono bb.size)
  clear hb8
  go_wp2_with fail
  refine (nAdd cb cc hB hC (by omega)).mono ?_
  rintro e x9 ⟨aT, cT, nT, rfl, hT, hb9⟩
  replace hA := hA.below hb9
  replace hB := hB.below hb9
  replace hC := hC.below hb9
  replace hS := hS.below hb9
  replace bb := bb.trans (hb9.mono bb.size)
  clear hb9
  go_wp2_with fail
  refine (nCmpIs cS cT 1 hS.1 hT.1 (cmpN_gt (by have h1 := HAB.out; omega))).mono ?_
  rintro e x10 ⟨rfl, hb10⟩
  replace hA := hA.below hb10
  replace hB := hB.below hb10
  replace hC := hC.below hb10
  replace bb := bb.trans (hb10.mono bb.size)
  clear hb10 hS hT
  go_wp2_with fail
  refine (nCmpIs cc 0 1 hC (Nm.nil _) (cmpN_gt HC0.out)).mono ?_
  rintro e x11 ⟨rfl, hb11⟩
  replace hA := hA.below hb11
  replace hB := hB.below hb11
  replace hC := hC.below hb11
  replace bb := bb.trans (hb11.mono bb.size)
  clear hb11
  go_wp2_with fail
  refine (nMul ca cc hA hC (by omega)).mono ?_
  rintro e x12 ⟨aS, cS, nS, rfl, hS, hb12⟩
  replace hA := hA.below hb12
  replace hB := hB.below hb12
  replace hC := hC.below hb12
  replace bb := bb.trans (hb12.mono bb.size)
  clear hb12
  go_wp2_with fail
  refine (nMul cb cc hB hC (by omega)).mono ?_
  rintro e x13 ⟨aT, cT, nT, rfl, hT, hb13⟩
  replace hA := hA.below hb13
  replace hB := hB.below hb13
  replace hC := hC.below hb13
  replace hS := hS.below hb13
  replace bb := bb.trans (hb13.mono bb.size)
  clear hb13
  go_wp2_with fail
  refine (nCmpIs cS cT 1 hS.1 hT.1 (cmpN_gt ((Nat.mul_lt_mul_right HC0.out).2 HAB.out))).mono ?_
  rintro e x14 ⟨rfl, hb14⟩
  replace hA := hA.below hb14
  replace hB := hB.below hb14
  replace hC := hC.below hb14
  replace bb := bb.trans (hb14.mono bb.size)
  clear hb14 hS hT
  go_wp2_with fail
  go_wp2
  go_ret
  exact ⟨rfl, bb⟩

set_option maxHeartbeats 8000000 in
set_option maxRecDepth 100000 in
theorem ord_gt_gt_z (a b c : Option Addr) (n m k ca cb cc va vb vc : Nat) (w : World) (htab : Tab w) (h1 : n ≤ 40) (h2 : m ≤ 40) (h3 : k ≤ 40) (hA : Nm w a n va 41) (hB : Nm w b m vb 41) (hC : Nm w c k vc 41) (hab0 : vb < va) (hbc0 : vc < vb) (hc0 : vc = 0) :
    Calls Tryd.prog 13 #[.slice a n ca, .slice b m cb, .slice c k cc] w fun e w' => e = .returned (.bool true) ∧ Below w.heap.size w w' := by
  have HT := Lib.hid htab; have HAB := Lib.hid hab0; have HBC := Lib.hid hbc0; have HC0 := Lib.hid hc0
  clear htab hab0 hbc0 hc0
  go_enter Tryd.func13, Tryd.ntmps13
  go_wp2_with fail
  refine (shown_any w HT.out).mono ?_
  rintro e x1 ⟨rfl, hb1⟩
  replace hA := hA.below hb1
  replace hB := hB.below hb1
  replace hC := hC.below hb1
  have bb := hb1
  clear hb1
  go_wp2_with fail
  refine (great_no a n ca _ h1).mono ?_
  rintro e wq ⟨rfl, rfl⟩
  go_wp2_with fail
  refine (great_no b m cb _ h2).mono ?_
  rintro e wq ⟨rfl, rfl⟩
  go_wp2_with fail
  refine (great_no c k cc _ h3).mono ?_
  rintro e wq ⟨rfl, rfl⟩
  go_wp2_with fail
  refine (nCmpIs ca cb 1 hA hB (cmpN_gt HAB.out)).mono ?_
  rintro e x2 ⟨rfl, hb2⟩
  replace hA := hA.below hb2
  replace hB := hB.below hb2
  replace hC := hC.below hb2
  replace bb := bb.trans (hb2.mono bb.size)
  clear hb2
  go_wp2_with fail
  refine (nCmpIs cb cc 1 hB hC (cmpN_gt HBC.out)).mono ?_
  rintro e x3 ⟨rfl, hb3⟩
  replace hA := hA.below hb3
  replace hB := hB.below hb3
  replace hC := hC.below hb3
  replace bb := bb.trans (hb3.mono bb.size)
  clear hb3
  go_wp2_with fail
  refine (nCmpIs cb ca (-1) hB hA (cmpN_lt HAB.out)).mono ?_
  rintro e x4 ⟨rfl, hb4⟩
  replace hA := hA.below hb4
  replace hB := hB.below hb4
  replace hC := hC.below hb4
  replace bb := bb.trans (hb4.mono bb.size)
  clear hb4
  go_wp2_with fail
  refine (nNorm ca hA).mono ?_
  rintro e x5 ⟨aY, cY, nY, rfl, hY, hb5⟩
  replace hA := hA.below hb5
  replace hB := hB.below hb5
  replace hC := hC.below hb5
  replace bb := bb.trans (hb5.mono bb.size)
  clear hb5
  go_wp2_with fail
  refine (nNorm cb hB).mono ?_
  rintro e x6 ⟨aZ, cZ, nZ, rfl, hZ, hb6⟩
  replace hA := hA.below hb6
  replace hB := hB.below hb6
  replace hC := hC.below hb6
  replace hY := hY.below hb6
  replace bb := bb.trans (hb6.mono bb.size)
  clear hb6
  go_wp2_with fail
  refine (nSameF cY cZ hY hZ (by have h1 := HAB.out; omega)).mono ?_
  rintro e x7 ⟨rfl, hb7⟩
  replace hA := hA.below hb7
  replace hB := hB.below hb7
  replace hC := hC.below hb7
  replace bb := bb.trans (hb7.mono bb.size)
  clear hb7 hY hZ
  go_wp2_with fail
  refine (nAdd ca cc hA hC (by omega)).mono ?_
  rintro e x8 ⟨aS, cS, nS, rfl, hS, hb8⟩
  replace hA := hA.below hb8
  replace hB := hB.below hb8
  replace hC := hC.below hb8
  replace bb := bb.trans (hb8.mono bb.size)
  clear hb8
  go_wp2_with fail
  refine (nAdd cb cc hB hC (by omega)).mono ?_
  rintro e x9 ⟨aT, cT, nT, rfl, hT, hb9⟩
  replace hA := hA.below hb9
  replace hB := hB.below hb9
  replace hC := hC.below hb9
  replace hS := hS.below hb9
  replace bb := bb.trans (hb9.mono bb.size)
  clear hb9
  go_wp2_with fail
  refine (nCmpIs cS cT 1 hS.1 hT.1 (cmpN_gt (by have h1 := HAB.out; omega))).mono ?_
  rintro e x10 ⟨rfl, hb10⟩
  replace hA := hA.below hb10
  replace hB := hB.below hb10
  replace hC := hC.below hb10
  replace bb := bb.trans (hb10.mono bb.size)
  clear hb10 hS hT
  go_wp2_with fail
  refine (nCmpIs cc 0 0 hC (Nm.nil _) (by rw [HC0.out]; exact cmpN_eq _)).mono ?_
  rintro e x11 ⟨rfl, hb11⟩
  replace hA := hA.below hb11
  replace hB := hB.below hb11
  replace hC := hC.below hb11
  replace bb := bb.trans (hb11.mono bb.size)
  clear hb11
  go_wp2_with fail
  go_wp2
  go_ret
  exact ⟨rfl, bb⟩

set_option maxHeartbeats 8000000 in
set_option maxRecDepth 100000 in
theorem ord_gt_gt_p (a b c : Option Addr) (n m k ca cb cc va vb vc : Nat) (w : World) (htab : Tab w) (h1 : n ≤ 40) (h2 : m ≤ 40) (h3 : k ≤ 40) (hA : Nm w a n va 41) (hB : Nm w b m vb 41) (hC : Nm w c k vc 41) (hab0 : vb < va) (hbc0 : vc < vb) (hc0 : 0 < vc) :
    Calls Tryd.prog 13 #[.slice a n ca, .slice b m cb, .slice c k cc] w fun e w' => e = .returned (.bool true) ∧ Below w.heap.size w w' := by
  have HT := Lib.hid htab; have HAB := Lib.hid hab0; have HBC := Lib.hid hbc0; have HC0 := Lib.hid hc0
  clear htab hab0 hbc0 hc0
  go_enter Tryd.func13, Tryd.ntmps13
  go_wp2_with fail
  refine (shown_any w HT.out).mono ?_
  rintro e x1 ⟨rfl, hb1⟩
  replace hA := hA.below hb1
  replace hB := hB.below hb1
  replace hC := hC.below hb1
  have bb := hb1
  clear hb1
  go_wp2_with fail
  refine (great_no a n ca _ h1).mono ?_
  rintro e wq ⟨rfl, rfl⟩
  go_wp2_with fail
  refine (great_no b m cb _ h2).mono ?_
  rintro e wq ⟨rfl, rfl⟩
  go_wp2_with fail
  refine (great_no c k cc _ h3).mono ?_
  rintro e wq ⟨rfl, rfl⟩
  go_wp2_with fail
  refine (nCmpIs ca cb 1 hA hB (cmpN_gt HAB.out)).mono ?_
  rintro e x2 ⟨rfl, hb2⟩
  replace hA := hA.below hb2
  replace hB := hB.below hb2
  replace hC := hC.below hb2
  replace bb := bb.trans (hb2.mono bb.size)
  clear hb2
  go_wp2_with fail
  refine (nCmpIs cb cc 1 hB hC (cmpN_gt HBC.out)).mono ?_
  rintro e x3 ⟨rfl, hb3⟩
  replace hA := hA.below hb3
  replace hB := hB.below hb3
  replace hC := hC.below hb3
  replace bb := bb.trans (hb3.mono bb.size)
  clear hb3
  go_wp2_with fail
  refine (nCmpIs cb ca (-1) hB hA (cmpN_lt HAB.out)).mono ?_
  rintro e x4 ⟨rfl, hb4⟩
  replace hA := hA.below hb4
  replace hB := hB.below hb4
  replace hC := hC.below hb4
  replace bb := bb.trans (hb4.mono bb.size)
  clear hb4
  go_wp2_with fail
  refine (nNorm ca hA).mono ?_
  rintro e x5 ⟨aY, cY, nY, rfl, hY, hb5⟩
  replace hA := hA.below hb5
  replace hB := hB.below hb5
  replace hC := hC.below hb5
  replace bb := bb.trans (hb5.mono bb.size)
  clear hb5
  go_wp2_with fail
  refine (nNorm cb hB).mono ?_
  rintro e x6 ⟨aZ, cZ, nZ, rfl, hZ, hb6⟩
  replace hA := hA.below hb6
  replace hB := hB.below hb6
  replace hC := hC.below hb6
  replace hY := hY.below hb6
  replace bb := bb.trans (hb6.mono bb.size)
  clear hb6
  go_wp2_with fail
  refine (nSameF cY cZ hY hZ (by have h1 := HAB.out; omega)).mono ?_
  rintro e x7 ⟨rfl, hb7⟩
  replace hA := hA.below hb7
  replace hB := hB.below hb7
  replace hC := hC.below hb7
  replace bb := bb.trans (hb7.mono bb.size)
  clear hb7 hY hZ
  go_wp2_with fail
  refine (nAdd ca cc hA hC (by omega)).mono ?_
  rintro e x8 ⟨aS, cS, nS, rfl, hS, hb8⟩
  replace hA := hA.below hb8
  replace hB := hB.below hb8
  replace hC := hC.below hb8
  replace bb := bb.trans (hb8.mono bb.size)
  clear hb8
  go_wp2_with fail
  refine (nAdd cb cc hB hC (by omega)).mono ?_
  rintro e x9 ⟨aT, cT, nT, rfl, hT, hb9⟩
  replace hA := hA.below hb9
  replace hB := hB.below hb9
  replace hC := hC.below hb9
  replace hS := hS.below hb9
  replace bb := bb.trans (hb9.mono bb.size)
  clear hb9
  go_wp2_with fail
  refine (nCmpIs cS cT 1 hS.1 hT.1 (cmpN_gt (by have h1 := HAB.out; omega))).mono ?_
  rintro e x10 ⟨rfl, hb10⟩
  replace hA := hA.below hb10
  replace hB := hB.below hb10
  replace hC := hC.below hb10
  replace bb := bb.trans (hb10.mono bb.size)
  clear hb10 hS hT
  go_wp2_with fail
  refine (nCmpIs cc 0 1 hC (Nm.nil _) (cmpN_gt HC0.out)).mono ?_
  rintro e x11 ⟨rfl, hb11⟩
  replace hA := hA.below hb11
  replace hB := hB.below hb11
  replace hC := hC.below hb11
  replace bb := bb.trans (hb11.mono bb.size)
  clear hb11
  go_wp2_with fail
  refine (nMul ca cc hA hC (by omega)).mono ?_
  rintro e x12 ⟨aS, cS, nS, rfl, hS, hb12⟩
  replace hA := hA.below hb12
  replace hB := hB.below hb12
  replace hC := hC.below hb12
  replace bb := bb.trans (hb12.mono bb.size)
  clear hb12
  go_wp2_with fail
  refine (nMul cb cc hB hC (by omega)).mono ?_
  rintro e x13 ⟨aT, cT, nT, rfl, hT, hb13⟩
  replace hA := hA.below hb13
  replace hB := hB.below hb13
  replace hC := hC.below hb13
  replace hS := hS.below hb13
  replace bb := bb.trans (hb13.mono bb.size)
  clear hb13
  go_wp2_with fail
  refine (nCmpIs cS cT 1 hS.1 hT.1 (cmpN_gt ((Nat.mul_lt_mul_right HC0.out).2 HAB.out))).mono ?_
  rintro e x14 ⟨rfl, hb14⟩
  replace hA := hA.below hb14
  replace hB := hB.below hb14
  replace hC := hC.below hb14
  replace bb := bb.trans (hb14.mono bb.size)
  clear hb14 hS hT
  go_wp2_with fail
  go_wp2
  go_ret
  exact ⟨rfl, bb⟩

set_option maxHeartbeats 4000000 in
theorem ord_g1 (a b c : Option Addr) (n m k ca cb cc : Nat) (w : World) (htab : Tab w) (h1 : 40 < n) :
    Calls Tryd.prog 13 #[.slice a n ca, .slice b m cb, .slice c k cc] w fun e w' => e = .returned (.bool true) ∧ Below w.heap.size w w' := by
  have HT := Lib.hid htab
  clear htab
  go_enter Tryd.func13, Tryd.ntmps13
  go_wp2_with fail
  refine (shown_any w HT.out).mono ?_
  rintro e x1 ⟨rfl, hb1⟩
  have bb := hb1
  clear hb1
  go_wp2_with fail
  refine (great_yes a n ca _ h1).mono ?_
  rintro e wq ⟨rfl, rfl⟩
  go_wp2
  go_ret
  exact ⟨rfl, bb⟩

set_option maxHeartbeats 4000000 in
theorem ord_g2 (a b c : Option Addr) (n m k ca cb cc : Nat) (w : World) (htab : Tab w) (h1 : n ≤ 40) (h2 : 40 < m) :
    Calls Tryd.prog 13 #[.slice a n ca, .slice b m cb, .slice c k cc] w fun e w' => e = .returned (.bool true) ∧ Below w.heap.size w w' := by
  have HT := Lib.hid htab
  clear htab
  go_enter Tryd.func13, Tryd.ntmps13
  go_wp2_with fail
  refine (shown_any w HT.out).mono ?_
  rintro e x1 ⟨rfl, hb1⟩
  have bb := hb1
  clear hb1
  go_wp2_with fail
  refine (great_no a n ca _ h1).mono ?_
  rintro e wq ⟨rfl, rfl⟩
  go_wp2_with fail
  refine (great_yes b m cb _ h2).mono ?_
  rintro e wq ⟨rfl, rfl⟩
  go_wp2
  go_ret
  exact ⟨rfl, bb⟩

set_option maxHeartbeats 4000000 in
theorem ord_g3 (a b c : Option Addr) (n m k ca cb cc : Nat) (w : World) (htab : Tab w) (h1 : n ≤ 40) (h2 : m ≤ 40) (h3 : 40 < k) :
    Calls Tryd.prog 13 #[.slice a n ca, .slice b m cb, .slice c k cc] w fun e w' => e = .returned (.bool true) ∧ Below w.heap.size w w' := by
  have HT := Lib.hid htab
  clear htab
  go_enter Tryd.func13, Tryd.ntmps13
  go_wp2_with fail
  refine (shown_any w HT.out).mono ?_
  rintro e x1 ⟨rfl, hb1⟩
  have bb := hb1
  clear hb1
  go_wp2_with fail
  refine (great_no a n ca _ h1).mono ?_
  rintro e wq ⟨rfl, rfl⟩
  go_wp2_with fail
  refine (great_no b m cb _ h2).mono ?_
  rintro e wq ⟨rfl, rfl⟩
  go_wp2_with fail
  refine (great_yes c k cc _ h3).mono ?_
  rintro e wq ⟨rfl, rfl⟩
  go_wp2
  go_ret
  exact ⟨rfl, bb⟩

theorem ord_walk {a b c : Option Addr} {n m k ca cb cc : Nat} (w : World) (htab : Tab w) (ha : IsRow w a n ca) (hb : IsRow w b m cb) (hc : IsRow w c k cc) :
    Calls Tryd.prog 13 #[.slice a n ca, .slice b m cb, .slice c k cc] w fun e w' => e = .returned (.bool true) ∧ Below w.heap.size w w' := by
  obtain ⟨l1, rfl, lo1, rd1, _⟩ := ha
  obtain ⟨l2, rfl, lo2, rd2, _⟩ := hb
  obtain ⟨l3, rfl, lo3, rd3, _⟩ := hc
  rcases Nat.lt_or_ge 40 l1.length with h1 | h1
  · exact ord_g1 _ _ _ _ _ _ _ _ _ w htab h1
  rcases Nat.lt_or_ge 40 l2.length with h2 | h2
  · exact ord_g2 _ _ _ _ _ _ _ _ _ w htab h1 h2
  rcases Nat.lt_or_ge 40 l3.length with h3 | h3
  · exact ord_g3 _ _ _ _ _ _ _ _ _ w htab h1 h2 h3
  have hA := Nm.ofRow lo1 rd1 h1
  have hB := Nm.ofRow lo2 rd2 h2
  have hC := Nm.ofRow lo3 rd3 h3
  generalize vl 1000000000 l1 = va at *
  generalize vl 1000000000 l2 = vb at *
  generalize vl 1000000000 l3 = vc at *
  rcases Nat.lt_trichotomy va vb with hab | hab | hab
  · rcases Nat.lt_or_ge vc vb with hbc | hbc
    · rcases Nat.eq_zero_or_pos vc with hc | hc
      · exact ord_lt_gt_z _ _ _ _ _ _ _ _ _ _ _ _ w htab h1 h2 h3 hA hB hC hab hbc hc
      · exact ord_lt_gt_p _ _ _ _ _ _ _ _ _ _ _ _ w htab h1 h2 h3 hA hB hC hab hbc hc
    · rcases Nat.eq_zero_or_pos vc with hc | hc
      · exact ord_lt_le_z _ _ _ _ _ _ _ _ _ _ _ _ w htab h1 h2 h3 hA hB hC hab hbc hc
      · exact ord_lt_le_p _ _ _ _ _ _ _ _ _ _ _ _ w htab h1 h2 h3 hA hB hC hab hbc hc
  · rcases Nat.lt_or_ge vc vb with hbc | hbc
    · rcases Nat.eq_zero_or_pos vc with hc | hc
      · exact ord_eq_gt_z _ _ _ _ _ _ _ _ _ _ _ _ w htab h1 h2 h3 hA hB hC hab hbc hc
      · exact ord_eq_gt_p _ _ _ _ _ _ _ _ _ _ _ _ w htab h1 h2 h3 hA hB hC hab hbc hc
    · rcases Nat.eq_zero_or_pos vc with hc | hc
      · exact ord_eq_le_z _ _ _ _ _ _ _ _ _ _ _ _ w htab h1 h2 h3 hA hB hC hab hbc hc
      · exact ord_eq_le_p _ _ _ _ _ _ _ _ _ _ _ _ w htab h1 h2 h3 hA hB hC hab hbc hc
  · rcases Nat.lt_or_ge vc vb with hbc | hbc
    · rcases Nat.eq_zero_or_pos vc with hc | hc
      · exact ord_gt_gt_z _ _ _ _ _ _ _ _ _ _ _ _ w htab h1 h2 h3 hA hB hC hab hbc hc
      · exact ord_gt_gt_p _ _ _ _ _ _ _ _ _ _ _ _ w htab h1 h2 h3 hA hB hC hab hbc hc
    · rcases Nat.eq_zero_or_pos vc with hc | hc
      · exact ord_gt_le_z _ _ _ _ _ _ _ _ _ _ _ _ w htab h1 h2 h3 hA hB hC hab hbc hc
      · exact ord_gt_le_p _ _ _ _ _ _ _ _ _ _ _ _ w htab h1 h2 h3 hA hB hC hab hbc hc
end Go.Proofs.YteipkibaoikilaaDoor
