/- The document's Same, Implode, Cmp. -/
import Derived.Test.YtmkmaignfcjjkaaDoorUtfR4
import Derived.Test.YtmkmaignfcjjkaaDoorUtfI
namespace Go.Proofs.YtmkmaignfcjjkaaDoor
open Go.RowKit UM

set_option maxHeartbeats 8000000 in
/-- two lists that are the same -/
theorem RSame_eq (a1 a2 : Option Addr) (c1 c2 : Nat) (l : List Nat) (w : World) (hl : l.length ≤ 9223372036854775807) (r1 : Rd w .i64 a1 l) (r2 : Rd w .i64 a2 l) : Calls Tryd.prog 16 #[.slice a1 l.length c1, .slice a2 l.length c2] w fun r w' => r = .returned (.bool true) ∧ Below w.heap.size w w' := by
  have R1 := Lib.hid r1; have R2 := Lib.hid r2
  clear r1 r2
  go_enter Tryd.func16, Tryd.ntmps16
  go_wp2
  go_loopw [5] (fun v5 wr => ∃ (k n : Nat), k ≤ l.length ∧ v5 = .int .i64 k ∧ Hid (wr = w.drewN n)) (fun v5 _ => l.length - (intOf v5).toNat)
  case atStart => exact ⟨0, 0, Nat.zero_le _, rfl, Lib.hid rfl⟩
  case round =>
    obtain ⟨k, n, hk, rfl, HW⟩ := hrel
    by_cases hlt : k < l.length
    · have g1 : Rd wr .i64 a1 l := by rw [HW.out]; exact R1.out.dN n
      have g2 : Rd wr .i64 a2 l := by rw [HW.out]; exact R2.out.dN n
      obtain ⟨b1, o1, rfl, hc1⟩ := g1 k hlt
      obtain ⟨b2, o2, rfl, hc2⟩ := g2 k hlt
      generalize l[k]?.getD 0 = x at hc1 hc2
      clear g1 g2
      go_wp2
      go_quiet (fail)
      go_wp2
      go_roundw
      case rel => exact ⟨k + 1, n + nq, by omega, by go_num, Lib.hid (by rw [HW.out, World.drewN_drewN])⟩
      case measure => simp [intOf]; omega
    · have HB : Hid (Below w.heap.size w wr) := Lib.hid (by rw [HW.out]; exact bdN (Below.refl _ _) n)
      go_wp2
      go_ret
      exact ⟨rfl, HB.out⟩

theorem RdI.toN {w : World} {a : Option Addr} {l : List Int} (h : RdI w a l) (hp : allPt l = true) : Rd w .i64 a (toN l) := by
  intro j hj
  have hj' : j < l.length := by unfold Proofs.YtmkmaignfcjjkaaDoor.toN at hj; rw [List.length_map] at hj; exact hj
  obtain ⟨b, off, e, hc⟩ := h j hj'
  refine ⟨b, off, e, ?_⟩
  rw [hc]
  have h1 := List.all_eq_true.1 hp l[j] (List.getElem_mem hj')
  unfold isPt at h1
  have h2 := of_decide_eq_true h1
  unfold Proofs.YtmkmaignfcjjkaaDoor.toN
  rw [List.getElem?_eq_getElem hj', Option.getD_some, List.getElem?_map, List.getElem?_eq_getElem hj']
  simp only [Option.map_some, Option.getD_some]
  congr 2
  omega
set_option maxHeartbeats 8000000 in
theorem RImplode_any (a0 : Option Addr) (c0 : Nat) (l : List Int) (w : World) (hl : l.length ≤ 17592186044416) (hr : RdI w a0 l) : Calls Tryd.prog 24 #[.slice a0 l.length c0] w (ResI l w) := by
  have HR := Lib.hid hr
  clear hr
  go_enter Tryd.func24, Tryd.ntmps24
  go_wp2
  go_loop [4] (fun v4 => ∃ k : Nat, k ≤ l.length ∧ v4 = .int .i64 k ∧ Hid (allPt (l.take k) = true)) (fun v4 => l.length - (intOf v4).toNat)
  case atStart => exact ⟨0, Nat.zero_le _, rfl, Lib.hid rfl⟩
  case round =>
    obtain ⟨k, hk, rfl, hA⟩ := hrel
    by_cases hlt : k < l.length
    · obtain ⟨bb, off, rfl, hcell⟩ := HR.out k hlt
      obtain ⟨p, hp⟩ : ∃ p, p = l[k]?.getD 0 := ⟨_, rfl⟩
      rw [← hp] at hcell
      have hI := fun W => Is_any p W
      have HPP := Lib.hid hp
      clear hp
      rcases hip : isPt p with _ | _
      · rw [hip] at hI
        have HI := Lib.hid hI
        have hno : allPt l = false := all_no hlt (by rw [← HPP.out]; exact hip)
        have HN := Lib.hid hno
        clear hI hip hno
        go_wp2_with fail
        refine (HI.out _).mono ?_
        rintro r w2 ⟨rfl, rfl⟩
        go_wp2
        go_ret2
        exact ⟨by rw [HN.out]; rfl, Below.refl _ _⟩
      · rw [hip] at hI
        have HI := Lib.hid hI
        have hst := all_step hlt hA.out (by rw [← HPP.out]; exact hip)
        have HST := Lib.hid hst
        clear hI hip hst
        go_wp2_with fail
        refine (HI.out _).mono ?_
        rintro r w2 ⟨rfl, rfl⟩
        go_wp2
        go_round
        case rel => exact ⟨k + 1, by omega, by go_num, HST⟩
        case measure => simp [intOf]; omega
    · obtain rfl : k = l.length := by omega
      rw [List.take_length] at hA
      have hl2 : (toN l).length = l.length := by unfold toN; rw [List.length_map]
      have hall := RAll_any a0 c0 (toN l) w (by omega) (HR.out.toN hA.out) (toN_pts hA.out)
      rw [hl2] at hall
      have HALL := Lib.hid hall
      clear hall hl2
      go_wp2_with fail
      refine HALL.out.mono ?_
      rintro r w2 ⟨rfl, hb⟩
      have HB := Lib.hid hb
      clear hb
      go_wp2
      go_ret2
      exact ⟨by rw [hA.out]; rfl, HB.out⟩

theorem cmpL_step {x y : List Nat} {k : Nat} (h1 : k < x.length) (h2 : k < y.length) : cmpL (x.drop k) (y.drop k) = if x[k]?.getD 0 < y[k]?.getD 0 then -1 else if y[k]?.getD 0 < x[k]?.getD 0 then 1 else cmpL (x.drop (k + 1)) (y.drop (k + 1)) := by
  rw [List.drop_eq_getElem_cons h1, List.drop_eq_getElem_cons h2, List.getElem?_eq_getElem h1, List.getElem?_eq_getElem h2]
  rfl
theorem cmpL_end {x y : List Nat} {k : Nat} (h : ¬ (k < x.length ∧ k < y.length)) (h1 : k ≤ x.length) (h2 : k ≤ y.length) : cmpL (x.drop k) (y.drop k) = if x.length < y.length then -1 else if y.length < x.length then 1 else 0 := by
  rcases Nat.lt_or_ge k x.length with h3 | h3
  · have h4 : y.drop k = [] := List.drop_of_length_le (by omega)
    rw [h4, List.drop_eq_getElem_cons h3, if_neg (by omega), if_pos (by omega)]; rfl
  · have h4 : x.drop k = [] := List.drop_of_length_le (by omega)
    rw [h4]
    rcases Nat.lt_or_ge k y.length with h5 | h5
    · rw [List.drop_eq_getElem_cons h5, if_pos (by omega)]; rfl
    · rw [List.drop_of_length_le h5, if_neg (by omega), if_neg (by omega)]; rfl
set_option maxHeartbeats 8000000 in
set_option maxRecDepth 20000 in
theorem RCmp_any (s t : ByteArray) (w : World) (hs : s.size ≤ 17592186040000) (ht : t.size ≤ 17592186040000) : Calls Tryd.prog 26 #[.string s, .string t] w (ResC (cmpL (xp (bl s)) (xp (bl t))) w) := by
  have hX := RExplode_any s w hs
  have hY := fun W => RExplode_any t W ht
  have hlx := xp_le (bl s)
  have hly := xp_le (bl t)
  rw [bl_len] at hlx hly
  generalize xp (bl s) = x at *
  generalize xp (bl t) = y at *
  have HX := Lib.hid hX; have HY := Lib.hid hY
  clear hX hY
  go_enter Tryd.func26, Tryd.ntmps26
  go_wp2_with fail
  refine HX.out.mono ?_
  rintro r w1 ⟨a1, c1, rfl, ho1, hb1⟩
  have R1 := Lib.hid ho1.rd; have B1 := Lib.hid hb1
  clear ho1 hb1 HX
  go_wp2_with fail
  refine (HY.out _).mono ?_
  rintro r w2 ⟨a2, c2, rfl, ho2, hb2⟩
  have R2 := Lib.hid ho2.rd; have R1' := Lib.hid (R1.out.below hb2); have B2 := Lib.hid (B1.out.trans (hb2.mono B1.out.size))
  clear ho2 hb2 HY R1 B1
  go_wp2
  go_loopw [7] (fun v7 wr => ∃ (k n : Nat), k ≤ x.length ∧ k ≤ y.length ∧ v7 = .int .i64 k ∧ Hid (wr = w2.drewN n) ∧ Hid (cmpL x y = cmpL (x.drop k) (y.drop k))) (fun v7 _ => x.length - (intOf v7).toNat)
  case atStart => exact ⟨0, 0, Nat.zero_le _, Nat.zero_le _, rfl, Lib.hid rfl, Lib.hid rfl⟩
  case round =>
    obtain ⟨k, n, hk1, hk2, rfl, HW, HC⟩ := hrel
    by_cases hlt : k < x.length ∧ k < y.length
    · obtain ⟨h1, h2⟩ := hlt
      have g1 : Rd wr .i64 a1 x := by rw [HW.out]; exact R1'.out.dN n
      have g2 : Rd wr .i64 a2 y := by rw [HW.out]; exact R2.out.dN n
      obtain ⟨b1, o1, rfl, hc1⟩ := g1 k h1
      obtain ⟨b2, o2, rfl, hc2⟩ := g2 k h2
      have hst := HC.out.trans (cmpL_step h1 h2)
      generalize x[k]?.getD 0 = p at hc1 hst
      generalize y[k]?.getD 0 = q at hc2 hst
      have HST := Lib.hid hst
      clear g1 g2 hst
      rcases Nat.lt_trichotomy p q with h | h | h
      · have HE : Hid (cmpL x y = -1) := Lib.hid (by rw [HST.out, if_pos h])
        go_wp2
        go_quiet (fail)
        have HB0 : Hid (Below w.heap.size w wr) := Lib.hid (by rw [HW.out]; exact bdN B2.out n)
        go_wp2
        go_ret
        exact ⟨ret_int (by rw [HE.out]), bdN HB0.out _⟩
      · subst h
        have HE : Hid (cmpL x y = cmpL (x.drop (k + 1)) (y.drop (k + 1))) := Lib.hid (by rw [HST.out, if_neg (by omega), if_neg (by omega)])
        go_wp2
        go_quiet (fail)
        go_wp2
        go_quiet (fail)
        go_wp2
        go_roundw
        case rel => exact ⟨k + 1, _, by omega, by omega, by go_num, Lib.hid (by rw [HW.out, World.drewN_drewN]), HE⟩
        case measure => simp [intOf]; omega
      · have HE : Hid (cmpL x y = 1) := Lib.hid (by rw [HST.out, if_neg (by omega), if_pos h])
        have hn1 : ¬ p < q := by omega
        go_wp2
        go_quiet (fail)
        go_wp2
        go_quiet (fail)
        have HB0 : Hid (Below w.heap.size w wr) := Lib.hid (by rw [HW.out]; exact bdN B2.out n)
        go_wp2
        go_ret
        exact ⟨ret_int (by rw [HE.out]), by first | exact bdN HB0.out _ | exact bdN (bdN HB0.out _) _⟩
    · have HB0 : Hid (Below w.heap.size w wr) := Lib.hid (by rw [HW.out]; exact bdN B2.out n)
      have hen := HC.out.trans (cmpL_end hlt hk1 hk2)
      by_cases h1 : k < x.length
      · have h2 : ¬ k < y.length := fun h => hlt ⟨h1, h⟩
        have h3 : ¬ x.length < y.length := by omega
        have h4 : y.length < x.length := by omega
        have HE : Hid (cmpL x y = 1) := Lib.hid (by rw [hen, if_neg h3, if_pos h4])
        clear hen hlt
        go_wp2
        go_ret
        exact ⟨ret_int (by rw [HE.out]), HB0.out⟩
      · by_cases h3 : x.length < y.length
        · have HE : Hid (cmpL x y = -1) := Lib.hid (by rw [hen, if_pos h3])
          clear hen hlt
          go_wp2
          go_ret
          exact ⟨ret_int (by rw [HE.out]), HB0.out⟩
        · have h4 : ¬ y.length < x.length := by omega
          have HE : Hid (cmpL x y = 0) := Lib.hid (by rw [hen, if_neg h3, if_neg h4])
          clear hen hlt
          go_wp2
          go_ret
          exact ⟨ret_int (by rw [HE.out]), HB0.out⟩
end Go.Proofs.YtmkmaignfcjjkaaDoor
