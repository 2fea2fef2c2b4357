/- Walks: the law LimbCmps. -/
import Derived.Test.YteipkibaoikilaaDoorLimbXc
import Derived.Test.YteipkibaoikilaaDoorLimbVo
import Derived.Test.YteipkibaoikilaaDoorLimbT
namespace Go.Proofs.YteipkibaoikilaaDoor
open Go.RowKit LM

theorem d10 {l : List Nat} (hlo : Lo 4294967296 l) (h : l.length ≤ 40) : (dg 10 (vl 1000000000 l)).length ≤ 369 := by
  have := dg10_le hlo l.length
  rw [List.take_length] at this; omega

set_option maxHeartbeats 8000000 in
set_option maxRecDepth 100000 in
theorem cmps_main (a b : Option Addr) (ca cb : Nat) (l m : List Nat) (w : World) (htab : Tab w) (h1 : l.length ≤ 40) (h2 : m.length ≤ 40) (hlo : Lo 4294967296 l) (hmo : Lo 4294967296 m) (hrd : Rd w .u32 a l) (hrm : Rd w .u32 b m) :
    Calls Tryd.prog 4 #[.slice a l.length ca, .slice b m.length cb] w fun e w' => e = .returned (.bool true) ∧ Below w.heap.size w w' := by
  have hd1 := d10 hlo h1
  have hd2 := d10 hmo h2
  have HT := Lib.hid htab; have HLO := Lib.hid hlo; have HMO := Lib.hid hmo
  clear htab hlo hmo
  go_enter Tryd.func4, Tryd.ntmps4
  go_wp2_with fail
  refine (shown_any w HT.out).mono ?_
  rintro e w1 ⟨rfl, hb1⟩
  have ra := hrd.below hb1
  have rb := hrm.below hb1
  have bb := hb1
  clear hrd hrm hb1
  go_wp2_with fail
  refine (great_no a l.length ca w1 h1).mono ?_
  rintro e wq ⟨rfl, rfl⟩
  go_wp2_with fail
  refine (great_no b m.length cb w1 h2).mono ?_
  rintro e wq ⟨rfl, rfl⟩
  go_wp2_with fail
  refine (Cmp_any a b ca cb l m w1 (by omega) (by omega) HLO.out HMO.out ra rb).mono ?_
  rintro e w2 ⟨rfl, hb2⟩
  replace ra := ra.below hb2
  replace rb := rb.below hb2
  replace bb := bb.trans (hb2.mono bb.size)
  clear hb2
  go_wp2_with fail
  refine (of_any a ca l w2 (by omega) HLO.out ra).mono ?_
  rintro e w3 ⟨a3, c3, rfl, ho3, hb3⟩
  replace rb := rb.below hb3
  have r3 := ho3.rd
  replace bb := bb.trans (hb3.mono bb.size)
  clear hb3 ho3 ra
  go_wp2_with fail
  refine (of_any b cb m w3 (by omega) HMO.out rb).mono ?_
  rintro e w4 ⟨a4, c4, rfl, ho4, hb4⟩
  replace r3 := r3.below hb4
  have r4 := ho4.rd
  replace bb := bb.trans (hb4.mono bb.size)
  clear hb4 ho4 rb
  go_wp2_with fail
  refine (RCmp_any a3 a4 c3 c4 _ _ w4 (by omega) (by omega) r3 r4).mono ?_
  rintro e w5 ⟨rfl, hb5⟩
  replace bb := bb.trans (hb5.mono bb.size)
  go_wp2
  go_ret
  exact ⟨rfl, bb⟩
set_option maxHeartbeats 4000000 in
theorem cmps_g1 (a b : Option Addr) (n m ca cb : Nat) (w : World) (htab : Tab w) (h1 : 40 < n) :
    Calls Tryd.prog 4 #[.slice a n ca, .slice b m cb] w fun e w' => e = .returned (.bool true) ∧ Below w.heap.size w w' := by
  have HT := Lib.hid htab
  clear htab
  go_enter Tryd.func4, Tryd.ntmps4
  go_wp2_with fail
  refine (shown_any w HT.out).mono ?_
  rintro e x1 ⟨rfl, bb⟩
  go_wp2_with fail
  refine (great_yes a n ca _ h1).mono ?_
  rintro e wq ⟨rfl, rfl⟩
  go_wp2
  go_ret
  exact ⟨rfl, bb⟩
set_option maxHeartbeats 4000000 in
theorem cmps_g2 (a b : Option Addr) (n m ca cb : Nat) (w : World) (htab : Tab w) (h1 : n ≤ 40) (h2 : 40 < m) :
    Calls Tryd.prog 4 #[.slice a n ca, .slice b m cb] w fun e w' => e = .returned (.bool true) ∧ Below w.heap.size w w' := by
  have HT := Lib.hid htab
  clear htab
  go_enter Tryd.func4, Tryd.ntmps4
  go_wp2_with fail
  refine (shown_any w HT.out).mono ?_
  rintro e x1 ⟨rfl, bb⟩
  go_wp2_with fail
  refine (great_no a n ca _ h1).mono ?_
  rintro e wq ⟨rfl, rfl⟩
  go_wp2_with fail
  refine (great_yes b m cb _ h2).mono ?_
  rintro e wq ⟨rfl, rfl⟩
  go_wp2
  go_ret
  exact ⟨rfl, bb⟩
theorem cmps_walk {a b : Option Addr} {n m ca cb : Nat} (w : World) (htab : Tab w) (ha : IsRow w a n ca) (hb : IsRow w b m cb) :
    Calls Tryd.prog 4 #[.slice a n ca, .slice b m cb] w fun e w' => e = .returned (.bool true) ∧ Below w.heap.size w w' := by
  obtain ⟨l1, rfl, lo1, rd1, _⟩ := ha
  obtain ⟨l2, rfl, lo2, rd2, _⟩ := hb
  rcases Nat.lt_or_ge 40 l1.length with h1 | h1
  · exact cmps_g1 _ _ _ _ _ _ w htab h1
  rcases Nat.lt_or_ge 40 l2.length with h2 | h2
  · exact cmps_g2 _ _ _ _ _ _ w htab h1 h2
  · exact cmps_main _ _ _ _ _ _ w htab h1 h2 lo1 lo2 rd1 rd2
end Go.Proofs.YteipkibaoikilaaDoor
