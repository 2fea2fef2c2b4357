/- Walks: the document's comparison; the law LimbCmps. -/
import Derived.Test.YteipkibaoikilaaDoorLimbV
import Derived.BigQuiet
namespace Go.Proofs.YteipkibaoikilaaDoor
open Go.RowKit LM

set_option maxHeartbeats 4000000 in
theorem RCmp_any (a b : Option Addr) (ca cb v u : Nat) (w : World) (hl : (dg 10 v).length ≤ 1073741824) (hm : (dg 10 u).length ≤ 1073741824) (ha : Rd w .u8 a (dg 10 v)) (hb : Rd w .u8 b (dg 10 u)) :
    Calls Tryd.prog 23 #[.slice a (dg 10 v).length ca, .slice b (dg 10 u).length cb] w fun e w' => e = .returned (.int .i64 (cmpN v u)) ∧ Below w.heap.size w w' := by
  have hlt : (dg 10 v).length < (dg 10 u).length → cmpN v u = -1 := fun h => cmpN_lt (dg_len_lt (by omega) h)
  have hgt : (dg 10 u).length < (dg 10 v).length → cmpN v u = 1 := fun h => cmpN_gt (dg_len_lt (by omega) h)
  have hlx := Lo_dg (b := 10) (by omega) v
  have hly := Lo_dg (b := 10) (by omega) u
  have hvx := vl_dg (b := 10) (by omega) v
  have hvy := vl_dg (b := 10) (by omega) u
  have HLT := Lib.hid hlt; have HGT := Lib.hid hgt; have HLX := Lib.hid hlx; have HLY := Lib.hid hly; have HVX := Lib.hid hvx; have HVY := Lib.hid hvy
  clear hlt hgt hlx hly hvx hvy
  generalize dg 10 v = X at *
  generalize dg 10 u = Y at *
  rcases Nat.lt_trichotomy X.length Y.length with h | h | h
  · have HC := Lib.hid (HLT.out h)
    go_enter Tryd.func23, Tryd.ntmps23
    go_wp2
    go_ret
    exact ⟨ret_int HC.out.symm, Below.refl _ _⟩
  · have h1 : X.length ≤ Y.length := by omega
    have h2 : Y.length ≤ X.length := by omega
    have HLEN := Lib.hid h
    clear h
    go_enter Tryd.func23, Tryd.ntmps23
    go_wp2
    go_loopw [5] (fun i wr => ∃ k : Nat, k ≤ X.length ∧ i = .int .i64 ((k : Int) - 1) ∧ Hid (X.drop k = Y.drop k) ∧ Below w.heap.size w wr) (fun i _ => (intOf i + 1).toNat)
    case atStart => exact ⟨X.length, Nat.le_refl _, rfl, Lib.hid (by rw [List.drop_length, HLEN.out, List.drop_length]), Below.refl _ _⟩
    case round =>
      obtain ⟨k, hk, rfl, HD, hbl⟩ := hrel
      rcases Nat.eq_zero_or_pos k with h0 | h0
      · have hk0 : k ≤ 0 := by omega
        have hd := HD.out
        rw [h0, List.drop_zero, List.drop_zero] at hd
        have hc : cmpN v u = 0 := by rw [← HVX.out, ← HVY.out, hd]; exact cmpN_eq _
        have HC := Lib.hid hc
        clear hd hc h0
        go_wp2
        go_ret
        exact ⟨ret_int HC.out.symm, hbl⟩
      · obtain ⟨k', rfl⟩ : ∃ k', k = k' + 1 := ⟨k - 1, by omega⟩
        obtain ⟨b1, o1, p, e1, HP, hp, cp⟩ := (ha.below hbl).get HLX.out k' (by omega)
        obtain ⟨b2, o2, q, e2, HQ, hq, cq⟩ := (hb.below hbl).get HLY.out k' (by omega)
        subst e1 e2
        rcases Nat.lt_trichotomy p q with hpq | hpq | hpq
        · have hc : cmpN v u = -1 := by rw [← HVX.out, ← HVY.out]; exact cmpN_lt (vl_part HLX.out (by omega) (by omega) HD.out (by rw [← HP.out, ← HQ.out]; exact hpq))
          have HC := Lib.hid hc
          clear hc
          go_wp2_with fail
          go_quiet (fail)
          go_wp2
          go_ret
          exact ⟨ret_int HC.out.symm, bdN hbl _⟩
        · subst hpq
          go_wp2_with fail
          go_quiet (fail)
          go_wp2_with fail
          go_quiet (fail)
          go_wp2
          go_roundw
          case rel => exact ⟨k', by omega, by go_num, Lib.hid (drop_step (by omega) (by omega) HD.out (by rw [← HP.out, ← HQ.out])), (by first | exact bdN hbl _ | exact bdN (bdN hbl _) _)⟩
          case measure => simp [intOf]
        · have hc : cmpN v u = 1 := by rw [← HVX.out, ← HVY.out]; exact cmpN_gt (vl_part HLY.out (by omega) (by omega) HD.out.symm (by rw [← HP.out, ← HQ.out]; exact hpq))
          have HC := Lib.hid hc
          have hnpq : ¬ p < q := by omega
          clear hc
          go_wp2_with fail
          go_quiet (fail)
          go_wp2_with fail
          go_quiet (fail)
          go_wp2
          go_ret
          exact ⟨ret_int HC.out.symm, bdN (bdN hbl _) _⟩
  · have HC := Lib.hid (HGT.out h)
    have hn : ¬ X.length < Y.length := by omega
    go_enter Tryd.func23, Tryd.ntmps23
    go_wp2
    go_ret
    exact ⟨ret_int HC.out.symm, Below.refl _ _⟩

theorem d10 {l : List Nat} (hlo : Lo 4294967296 l) (h : l.length ≤ 40) : (dg 10 (vl 1000000000 l)).length ≤ 369 := by
  have := dg10_le hlo l.length
  rw [List.take_length] at this; omega

set_option maxHeartbeats 8000000 in
set_option maxRecDepth 100000 in
theorem cmps_main (a b : Option Addr) (ca cb : Nat) (l m : List Nat) (w : World) (htab : Tab w) (h1 : l.length ≤ 40) (h2 : m.length ≤ 40) (hlo : Lo 4294967296 l) (hmo : Lo 4294967296 m) (hrd : Rd w .u32 a l) (hrm : Rd w .u32 b m) :
    Calls Tryd.prog 4 #[.slice a l.length ca, .slice b m.length cb] w fun e w' => e = .returned (.bool true) ∧ Below w.heap.size w w' := by
  have hd1 := d10 hlo h1
  have hd2 := d10 hmo h2
  have HT := Lib.hid htab; have HLO := Lib.hid hlo; have HMO := Lib.hid hmo
  clear htab hlo hmo
  go_enter Tryd.func4, Tryd.ntmps4
  go_wp2_with fail
  refine (shown_any w HT.out).mono ?_
  rintro e w1 ⟨rfl, hb1⟩
  have ra := hrd.below hb1
  have rb := hrm.below hb1
  have bb := hb1
  clear hrd hrm hb1
  go_wp2_with fail
  refine (great_no a l.length ca w1 h1).mono ?_
  rintro e wq ⟨rfl, rfl⟩
  go_wp2_with fail
  refine (great_no b m.length cb w1 h2).mono ?_
  rintro e wq ⟨rfl, rfl⟩
  go_wp2_with fail
  refine (Cmp_any a b ca cb l m w1 (by omega) (by omega) HLO.out HMO.out ra rb).mono ?_
  rintro e w2 ⟨rfl, hb2⟩
  replace ra := ra.below hb2
  replace rb := rb.below hb2
  replace bb := bb.trans (hb2.mono bb.size)
  clear hb2
  go_wp2_with fail
  refine (of_any a ca l w2 (by omega) HLO.out ra).mono ?_
  rintro e w3 ⟨a3, c3, rfl, ho3, hb3⟩
  replace rb := rb.below hb3
  have r3 := ho3.rd
  replace bb := bb.trans (hb3.mono bb.size)
  clear hb3 ho3 ra
  go_wp2_with fail
  refine (of_any b cb m w3 (by omega) HMO.out rb).mono ?_
  rintro e w4 ⟨a4, c4, rfl, ho4, hb4⟩
  replace r3 := r3.below hb4
  have r4 := ho4.rd
  replace bb := bb.trans (hb4.mono bb.size)
  clear hb4 ho4 rb
  go_wp2_with fail
  refine (RCmp_any a3 a4 c3 c4 _ _ w4 (by omega) (by omega) r3 r4).mono ?_
  rintro e w5 ⟨rfl, hb5⟩
  replace bb := bb.trans (hb5.mono bb.size)
  go_wp2
  go_ret
  exact ⟨rfl, bb⟩
set_option maxHeartbeats 4000000 in
theorem cmps_g1 (a b : Option Addr) (n m ca cb : Nat) (w : World) (htab : Tab w) (h1 : 40 < n) :
    Calls Tryd.prog 4 #[.slice a n ca, .slice b m cb] w fun e w' => e = .returned (.bool true) ∧ Below w.heap.size w w' := by
  have HT := Lib.hid htab
  clear htab
  go_enter Tryd.func4, Tryd.ntmps4
  go_wp2_with fail
  refine (shown_any w HT.out).mono ?_
  rintro e x1 ⟨rfl, bb⟩
  go_wp2_with fail
  refine (great_yes a n ca _ h1).mono ?_
  rintro e wq ⟨rfl, rfl⟩
  go_wp2
  go_ret
  exact ⟨rfl, bb⟩
set_option maxHeartbeats 4000000 in
theorem cmps_g2 (a b : Option Addr) (n m ca cb : Nat) (w : World) (htab : Tab w) (h1 : n ≤ 40) (h2 : 40 < m) :
    Calls Tryd.prog 4 #[.slice a n ca, .slice b m cb] w fun e w' => e = .returned (.bool true) ∧ Below w.heap.size w w' := by
  have HT := Lib.hid htab
  clear htab
  go_enter Tryd.func4, Tryd.ntmps4
  go_wp2_with fail
  refine (shown_any w HT.out).mono ?_
  rintro e x1 ⟨rfl, bb⟩
  go_wp2_with fail
  refine (great_no a n ca _ h1).mono ?_
  rintro e wq ⟨rfl, rfl⟩
  go_wp2_with fail
  refine (great_yes b m cb _ h2).mono ?_
  rintro e wq ⟨rfl, rfl⟩
  go_wp2
  go_ret
  exact ⟨rfl, bb⟩
theorem cmps_walk {a b : Option Addr} {n m ca cb : Nat} (w : World) (htab : Tab w) (ha : IsRow w a n ca) (hb : IsRow w b m cb) :
    Calls Tryd.prog 4 #[.slice a n ca, .slice b m cb] w fun e w' => e = .returned (.bool true) ∧ Below w.heap.size w w' := by
  obtain ⟨l1, rfl, lo1, rd1, _⟩ := ha
  obtain ⟨l2, rfl, lo2, rd2, _⟩ := hb
  rcases Nat.lt_or_ge 40 l1.length with h1 | h1
  · exact cmps_g1 _ _ _ _ _ _ w htab h1
  rcases Nat.lt_or_ge 40 l2.length with h2 | h2
  · exact cmps_g2 _ _ _ _ _ _ w htab h1 h2
  · exact cmps_main _ _ _ _ _ _ w htab h1 h2 lo1 lo2 rd1 rd2
end Go.Proofs.YteipkibaoikilaaDoor
