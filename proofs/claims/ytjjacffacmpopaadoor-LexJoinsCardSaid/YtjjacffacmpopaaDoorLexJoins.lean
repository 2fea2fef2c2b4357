/- Walk of the law LexJoins. -/
import Derived.Test.YtjjacffacmpopaaDoorLexRises
import Derived.Test.YtjjacffacmpopaaDoorLexMathDs
namespace Go.Proofs.YtjjacffacmpopaaDoor
open Go.RowKit UM QM LX

theorem vd_le_len : ∀ (k : Nat) (l : List Nat), l.length ≤ k → vd l ≤ l.length
  | 0, l, h => by
    obtain rfl : l = [] := List.length_eq_zero_iff.1 (by omega)
    rw [vd_stop rfl]; exact Nat.zero_le _
  | k + 1, l, h => by
    cases hd : (dcd l).2.2 with
    | true =>
      have hw := dcd_wd (dcd_ne hd)
      have ih := vd_le_len k (l.drop (dcd l).2.1) (by rw [List.length_drop]; omega)
      rw [List.length_drop] at ih
      rw [vd_go hd]; omega
    | false => rw [vd_stop hd]; exact Nat.zero_le _
theorem bl_append (a b : ByteArray) : bl (a ++ b) = bl a ++ bl b := by
  unfold bl
  rw [ByteArray.data_append, Array.toList_append, List.map_append]
theorem shT_len (d : Nat) (L : List Tk) : (shT d L).length = L.length := by unfold shT; rw [List.length_map]
theorem shT_at {d i : Nat} {L : List Tk} {t : Tk} (h : L[i]? = some t) : (shT d L)[i]? = some (t.1, t.2.1, t.2.2 + d) := by
  unfold shT; rw [List.getElem?_map, h]; rfl
theorem bl_join (s t : ByteArray) : bl (s ++ ⟨#[10]⟩ ++ t) = bl s ++ 10 :: bl t := by
  rw [bl_append, bl_append, List.append_assoc]; rfl
theorem size_join (s t : ByteArray) : (s ++ ⟨#[10]⟩ ++ t).size = s.size + 1 + t.size := by
  rw [ByteArray.size_append, ByteArray.size_append]; rfl
theorem ck_ats {n : Nat} : ∀ {L : List Tk} {lo : Nat} {st : List Nat}, ckT n lo st L = true → ∀ u ∈ L, u.2.2 < n
  | [], _, _, _, u, hu => by simp at hu
  | (k, x, a) :: L, lo, st, h, u, hu => by
    obtain ⟨h1, h2⟩ := ck_round h
    rw [List.mem_cons] at hu
    rcases hu with rfl | hu
    · exact h1.2.1
    · rcases h2 with ⟨_, h2⟩ | ⟨_, t, _, h2⟩ | ⟨_, t, _, h2⟩ | ⟨_, _, t, _, h2⟩ | ⟨_, h2⟩ <;> exact ck_ats h2 u hu
set_option maxRecDepth 100000 in
set_option maxHeartbeats 8000000 in
theorem lexJoins_walk {s t : ByteArray} (w : World) (ht : Tabs2 w) (hs : s.size ≤ 140737488351232) (htt : t.size ≤ 140737488351232) : Calls Tryd.prog 6 #[.string s, .string t] w fun r w' => r = .returned (.bool true) ∧ Below w.heap.size w w' := by
  have X := Lib.hid (xshown_any w ht.1 ht.2)
  by_cases g1 : 3000 < s.size
  · have g1' : (3000 : Int) < (s.size : Int) := by omega
    go_enter Tryd.func6, Tryd.ntmps6
    go_wp2_with fail
    refine X.out.mono ?_
    rintro r w1 ⟨rfl, hg⟩
    have G1 := Lib.hid hg
    clear hg X
    go_wp2
    go_ret
    exact ⟨rfl, G1.out.1⟩
  have g1' : ¬ (3000 : Int) < (s.size : Int) := by omega
  by_cases g2 : 3000 < t.size
  · have g2' : (3000 : Int) < (t.size : Int) := by omega
    go_enter Tryd.func6, Tryd.ntmps6
    go_wp2_with fail
    refine X.out.mono ?_
    rintro r w1 ⟨rfl, hg⟩
    have G1 := Lib.hid hg
    clear hg X
    go_wp2
    go_ret
    exact ⟨rfl, G1.out.1⟩
  have g2' : ¬ (3000 : Int) < (t.size : Int) := by omega
  obtain ⟨L, a0, er, hq⟩ : ∃ L a0 er, tkF (bl s) = (L, a0, er) := ⟨_, _, _, rfl⟩
  obtain ⟨M, a1, fr, hr⟩ : ∃ M a1 fr, tkF (bl t) = (M, a1, fr) := ⟨_, _, _, rfl⟩
  have HS := Lib.hid (fun W (h : GoX w W) => Tokens_is hq W hs h.2.1 h.2.2)
  have HT := Lib.hid (fun W (h : GoX w W) => Tokens_is hr W htt h.2.1 h.2.2)
  have hN1 := tkF_ck (bl s)
  rw [hq, bl_len] at hN1
  have hN2 := tkF_ck (bl t)
  rw [hr, bl_len] at hN2
  simp only at hN1 hN2
  by_cases he : er = 0
  · subst he
    have hj := tkF_join (s := bl s) (t := bl t) (by rw [bl_len]; omega) (by rw [bl_len]; omega) (vd_le_len _ _ (Nat.le_refl _)) hq
    rw [hr, ← bl_join, bl_len] at hj
    simp only at hj
    by_cases hf : fr = 0
    · subst hf
      have hj1 := hj.1 rfl
      have HJ := Lib.hid (fun W (h : GoX w W) => Tokens_is hj1 W (by rw [size_join]; omega) h.2.1 h.2.2)
      have hnl := ck_len (hN1.1 rfl).1
      have hml := ck_len (hN2.1 rfl).1
      obtain ⟨nL, hnL⟩ : ∃ n, n = L.length := ⟨_, rfl⟩
      obtain ⟨nM, hnM⟩ : ∃ n, n = M.length := ⟨_, rfl⟩
      have b1 : nL ≤ 3000 := by
        rcases hnl with h | h
        · rw [hnL, h]; simp
        · omega
      have b2 : nM ≤ 3000 := by
        rcases hml with h | h
        · rw [hnM, h]; simp
        · omega
      have HB1 := Lib.hid b1; have HB2 := Lib.hid b2
      have HNL := Lib.hid hnL; have HNM := Lib.hid hnM
      have e1 : IntKind.i64.wrap ((nL : Int) + (nM : Int)) = (nL : Int) + (nM : Int) := IntWalk.i64_in _ (by omega)
      obtain ⟨nN, hnN⟩ : ∃ n, n = nL + nM := ⟨_, rfl⟩
      have hnl2 : (L ++ shT (s.size + 1) M).length = nN := by rw [List.length_append, shT_len]; omega
      have HNN := Lib.hid hnN; have HNL2 := Lib.hid hnl2
      have e2 : ((nN : Int) != (nL : Int) + (nM : Int)) = false := by rw [bne_eq_false_iff_eq]; omega
      have HAM : Hid (∀ u ∈ M, u.2.2 ≤ 3000) := Lib.hid (fun u hu => by have := ck_ats (hN2.1 rfl).1 u hu; omega)
      clear hN1 hN2 hj hj1 hq hr ht hnl hml b1 b2 hnN hnl2
      go_enter Tryd.func6, Tryd.ntmps6
      go_wp2_with fail
      refine X.out.mono ?_
      rintro r w1 ⟨rfl, hg⟩
      have G1 := Lib.hid hg
      clear hg X
      go_wp2_with fail
      refine (HS.out w1 G1.out).mono ?_
      rintro r w2 ⟨la, lc, rfl, hol, hb⟩
      rw [← hnL] at hol ⊢
      have HOL := Lib.hid hol
      have G2 := Lib.hid (G1.out.next hb)
      clear hol hb G1 HS hnL hnM
      go_wp2_with fail
      refine (HT.out w2 G2.out).mono ?_
      rintro r w3 ⟨ma, mc, rfl, hom, hb⟩
      rw [← HNM.out] at hom ⊢
      have HOM := Lib.hid hom
      have G3 := Lib.hid (G2.out.next hb)
      have B3 := Lib.hid hb
      clear hom hb G2 HT
      go_wp2_with fail
      refine (HJ.out w3 G3.out).mono ?_
      rintro r w4 ⟨na, nc, rfl, hon, hb⟩
      rw [HNL2.out] at hon ⊢
      have HON := Lib.hid hon
      have G4 := Lib.hid (G3.out.next hb)
      have B4 := Lib.hid hb
      clear hon hb G3 HJ
      go_wp2_with fail
      go_loopg [15] nN (fun g s15 wr => ∃ (i : Nat), i + g = nN ∧ s15 = .int .i64 (i : Int) ∧ Hid (Below w4.heap.size w4 wr))
      case atStart => exact ⟨0, by omega, rfl, Lib.hid (Below.refl _ _)⟩
      case round =>
        obtain ⟨i, hi, rfl, HW⟩ := hrel
        by_cases hlt : i < nN
        · obtain ⟨c, hcN⟩ : ∃ c, na = some ⟨c, 0, none⟩ := by
            rcases HON.out.shape with ⟨_, _, h0, _⟩ | ⟨b, cur, h0, _⟩
            · omega
            · exact ⟨b, h0⟩
          subst hcN
          have hltN : (i : Int) < (nN : Int) := by omega
          have hi6 : (i : Int) < 7000 := by have := HNN.out; have := HB1.out; have := HB2.out; omega
          have HI := Lib.hid hi; have HLT := Lib.hid hlt
          by_cases hl : i < nL
          · obtain ⟨⟨k, x, a⟩, htk⟩ : ∃ t, L[i]? = some t := ⟨_, List.getElem?_eq_getElem (show i < L.length by have := HNL.out; omega)⟩
            obtain ⟨b, hbL⟩ : ∃ b, la = some ⟨b, 0, none⟩ := by
              rcases HOL.out.shape with ⟨_, _, h0, _⟩ | ⟨b, cur, h0, _⟩
              · omega
              · exact ⟨b, h0⟩
            subst hbL
            have htn : (L ++ shT (s.size + 1) M)[i]? = some (k, x, a) := by rw [List.getElem?_append_left (by have := HNL.out; omega)]; exact htk
            obtain ⟨q0, q1, q2⟩ := tkc_at htk
            obtain ⟨p0, p1, p2⟩ := tkc_at htn
            have hcl : ∀ j v, (tkc L)[j]? = some v → wr.cell? ⟨b, j, none⟩ = some v := fun j v hv => lxCell HW.out (lxCell B4.out (lxCell B3.out (HOL.out.cellAt hv)))
            have hcn : ∀ j v, (tkc (L ++ shT (s.size + 1) M))[j]? = some v → wr.cell? ⟨c, j, none⟩ = some v := fun j v hv => lxCell HW.out (HON.out.cellAt hv)
            have c0 := hcl _ _ q0; have c1 := hcl _ _ q1; have c2 := hcl _ _ q2
            have d0 := hcn _ _ p0; have d1 := hcn _ _ p1; have d2 := hcn _ _ p2
            simp only at c0 c1 c2 d0 d1 d2
            obtain ⟨X, hX⟩ : ∃ X, tx x = X := ⟨_, rfl⟩
            rw [hX] at c1 d1
            have hbl := lt_of_cell c0
            have hcl2 := lt_of_cell d0
            simp only at hbl hcl2
            have n1 : ¬ b = wr.heap.size := by omega
            have n2 : ¬ wr.heap.size = b := by omega
            have n3 : ¬ c = wr.heap.size := by omega
            have n4 : ¬ wr.heap.size = c := by omega
            have hlI : (i : Int) < (nL : Int) := by omega
            clear hX q0 q1 q2 p0 p1 p2 htn htk hcl hcn hi hlt
            go_wp2_with fail
            obtain ⟨w5, hW⟩ : ∃ x, wr.alloc (.cells #[.int .i64 (k : Int), .string X, .int .i64 (a : Int)] 30) = x := ⟨_, rfl⟩
            have hb5 : Below w4.heap.size w4 w5 := by rw [← hW]; exact HW.out.alloc HW.out.size _
            have x0 : w5.cell? ⟨wr.heap.size, 0, none⟩ = some (.int .i64 (k : Int)) := by rw [← hW]; exact cell_new rfl
            have x1 : w5.cell? ⟨wr.heap.size, 1, none⟩ = some (.string X) := by rw [← hW]; exact cell_new rfl
            have x2 : w5.cell? ⟨wr.heap.size, 2, none⟩ = some (.int .i64 (a : Int)) := by rw [← hW]; exact cell_new rfl
            have y0 : w5.cell? ⟨c, i * 3, none⟩ = some (.int .i64 (k : Int)) := by rw [← hW, cell_old hcl2]; exact d0
            have y1 : w5.cell? ⟨c, i * 3 + 1, none⟩ = some (.string X) := by rw [← hW, cell_old hcl2]; exact d1
            have y2 : w5.cell? ⟨c, i * 3 + 2, none⟩ = some (.int .i64 (a : Int)) := by rw [← hW, cell_old hcl2]; exact d2
            rw [hW]
            have HB5 := Lib.hid hb5
            clear hW hb5 c0 c1 c2 d0 d1 d2 HW
            generalize wr.heap.size = nw at *
            go_quiet (fail)
            go_wp2
            go_roundg (gk - 1)
            case measure => have := HI.out; have := HLT.out; omega
            case rel => exact ⟨i + 1, by have := HI.out; have := HLT.out; omega, by go_num, Lib.hid (bdN HB5.out _)⟩
          · obtain ⟨i2, hi2⟩ : ∃ i2, i = nL + i2 := ⟨i - nL, by omega⟩
            have hlM : i2 < nM := by have := HNN.out; omega
            obtain ⟨⟨k, x, a⟩, htk⟩ : ∃ t, M[i2]? = some t := ⟨_, List.getElem?_eq_getElem (show i2 < M.length by have := HNM.out; omega)⟩
            obtain ⟨b, hbL⟩ : ∃ b, ma = some ⟨b, 0, none⟩ := by
              rcases HOM.out.shape with ⟨_, _, h0, _⟩ | ⟨b, cur, h0, _⟩
              · omega
              · exact ⟨b, h0⟩
            subst hbL
            have htn : (L ++ shT (s.size + 1) M)[i]? = some (k, x, a + (s.size + 1)) := by
              rw [List.getElem?_append_right (by have := HNL.out; omega), show i - L.length = i2 by have := HNL.out; omega]
              exact shT_at htk
            obtain ⟨q0, q1, q2⟩ := tkc_at htk
            obtain ⟨p0, p1, p2⟩ := tkc_at htn
            have hcl : ∀ j v, (tkc M)[j]? = some v → wr.cell? ⟨b, j, none⟩ = some v := fun j v hv => lxCell HW.out (lxCell B4.out (HOM.out.cellAt hv))
            have hcn : ∀ j v, (tkc (L ++ shT (s.size + 1) M))[j]? = some v → wr.cell? ⟨c, j, none⟩ = some v := fun j v hv => lxCell HW.out (HON.out.cellAt hv)
            have c0 := hcl _ _ q0; have c1 := hcl _ _ q1; have c2 := hcl _ _ q2
            have d0 := hcn _ _ p0; have d1 := hcn _ _ p1; have d2 := hcn _ _ p2
            simp only at c0 c1 c2 d0 d1 d2
            obtain ⟨X, hX⟩ : ∃ X, tx x = X := ⟨_, rfl⟩
            rw [hX] at c1 d1
            have hbl := lt_of_cell c0
            have hcl2 := lt_of_cell d0
            simp only at hbl hcl2
            have n1 : ¬ b = wr.heap.size := by omega
            have n2 : ¬ wr.heap.size = b := by omega
            have n3 : ¬ c = wr.heap.size := by omega
            have n4 : ¬ wr.heap.size = c := by omega
            have hlI : ¬ (i : Int) < (nL : Int) := by omega
            have haM : a ≤ 3000 := HAM.out _ (List.mem_of_getElem? htk)
            have s1 : IntKind.i64.wrap ((i : Int) - (nL : Int)) = (i2 : Int) := by rw [show (i : Int) - (nL : Int) = (i2 : Int) by omega]; exact IntWalk.i64_in _ (by have := HB2.out; omega)
            have s2 : IntKind.i64.wrap ((a : Int) + (s.size : Int)) = (a : Int) + (s.size : Int) := IntWalk.i64_in _ (by omega)
            have s3 : IntKind.i64.wrap ((a : Int) + (s.size : Int) + 1) = (a : Int) + (s.size : Int) + 1 := IntWalk.i64_in _ (by omega)
            have hlM' : (i2 : Int) < (nM : Int) := by omega
            have ed : ((a + (s.size + 1) : Nat) : Int) = (a : Int) + (s.size : Int) + 1 := by omega
            rw [ed] at d2
            clear hX q0 q1 q2 p0 p1 p2 htn htk hcl hcn hi hlt haM hl hi2 ed
            go_wp2_with fail
            obtain ⟨w5, hW⟩ : ∃ x, wr.alloc (.cells #[.int .i64 (k : Int), .string X, .int .i64 ((a : Int) + (s.size : Int) + 1)] 30) = x := ⟨_, rfl⟩
            have hb5 : Below w4.heap.size w4 w5 := by rw [← hW]; exact HW.out.alloc HW.out.size _
            have x0 : w5.cell? ⟨wr.heap.size, 0, none⟩ = some (.int .i64 (k : Int)) := by rw [← hW]; exact cell_new rfl
            have x1 : w5.cell? ⟨wr.heap.size, 1, none⟩ = some (.string X) := by rw [← hW]; exact cell_new rfl
            have x2 : w5.cell? ⟨wr.heap.size, 2, none⟩ = some (.int .i64 ((a : Int) + (s.size : Int) + 1)) := by rw [← hW]; exact cell_new rfl
            have y0 : w5.cell? ⟨c, i * 3, none⟩ = some (.int .i64 (k : Int)) := by rw [← hW, cell_old hcl2]; exact d0
            have y1 : w5.cell? ⟨c, i * 3 + 1, none⟩ = some (.string X) := by rw [← hW, cell_old hcl2]; exact d1
            have y2 : w5.cell? ⟨c, i * 3 + 2, none⟩ = some (.int .i64 ((a : Int) + (s.size : Int) + 1)) := by rw [← hW, cell_old hcl2]; exact d2
            rw [hW]
            have HB5 := Lib.hid hb5
            clear hW hb5 c0 c1 c2 d0 d1 d2 HW
            generalize wr.heap.size = nw at *
            go_quiet (fail)
            go_wp2
            go_roundg (gk - 1)
            case measure => have := HI.out; have := HLT.out; omega
            case rel => exact ⟨i + 1, by have := HI.out; have := HLT.out; omega, by go_num, Lib.hid (bdN HB5.out _)⟩
        · have hlt' : ¬ (i : Int) < (nN : Int) := by omega
          have HB : Hid (Below w.heap.size w wr) := Lib.hid (G4.out.1.trans (HW.out.mono G4.out.1.size))
          clear HW hlt hi
          go_wp2
          go_ret
          exact ⟨rfl, HB.out⟩
    · have hj2 := hj.2 hf
      have HJ := Lib.hid (fun W (h : GoX w W) => Tokens_is hj2 W (by rw [size_join]; omega) h.2.1 h.2.2)
      have hf' : ((fr : Int) != 0) = true := by rw [bne_iff_ne]; omega
      have ha1 : a1 ≤ 3000 := by have := (hN2.2 hf).2; omega
      have e1 : IntKind.i64.wrap ((a1 : Int) + (s.size : Int)) = (a1 : Int) + (s.size : Int) := IntWalk.i64_in _ (by omega)
      have e2 : IntKind.i64.wrap ((a1 : Int) + (s.size : Int) + 1) = (a1 : Int) + (s.size : Int) + 1 := IntWalk.i64_in _ (by omega)
      have e3 : (((a1 + (s.size + 1) : Nat) : Int) == (a1 : Int) + (s.size : Int) + 1) = true := by rw [beq_iff_eq]; omega
      clear hN1 hN2 hj hj2 hq hr hf g1 g2 ht ha1
      go_enter Tryd.func6, Tryd.ntmps6
      go_wp2_with fail
      refine X.out.mono ?_
      rintro r w1 ⟨rfl, hg⟩
      have G1 := Lib.hid hg
      clear hg X
      go_wp2_with fail
      refine (HS.out w1 G1.out).mono ?_
      rintro r w2 ⟨la, lc, rfl, hol, hb⟩
      have G2 := Lib.hid (G1.out.next hb)
      clear hol hb G1 HS
      go_wp2_with fail
      refine (HT.out w2 G2.out).mono ?_
      rintro r w3 ⟨ma, mc, rfl, hol, hb⟩
      have G3 := Lib.hid (G2.out.next hb)
      clear hol hb G2 HT
      go_wp2_with fail
      refine (HJ.out w3 G3.out).mono ?_
      rintro r w4 ⟨na, nc, rfl, hol, hb⟩
      have G4 := Lib.hid (G3.out.next hb)
      clear hol hb G3 HJ
      go_wp2
      go_ret
      exact ⟨rfl, G4.out.1⟩
  · have he' : ((er : Int) != 0) = true := by rw [bne_iff_ne]; omega
    clear he hN1 hN2 hq hr g1 g2 ht
    go_enter Tryd.func6, Tryd.ntmps6
    go_wp2_with fail
    refine X.out.mono ?_
    rintro r w1 ⟨rfl, hg⟩
    have G1 := Lib.hid hg
    clear hg X
    go_wp2_with fail
    refine (HS.out w1 G1.out).mono ?_
    rintro r w2 ⟨la, lc, rfl, hol, hb⟩
    have G2 := Lib.hid (G1.out.next hb)
    clear hol hb G1 HS
    go_wp2_with fail
    refine (HT.out w2 G2.out).mono ?_
    rintro r w3 ⟨ma, mc, rfl, hol, hb⟩
    have G3 := Lib.hid (G2.out.next hb)
    clear hol hb G2 HT
    go_wp2
    go_ret
    exact ⟨rfl, G3.out.1⟩
end Go.Proofs.YtjjacffacmpopaaDoor
