/- syntax: bound, negated walked (gensynq.py) -/
import Derived.Test.YtpgiljibicigeaaGreatDoorSynP
set_option linter.unusedVariables false
set_option linter.unusedSimpArgs false
namespace Go.Proofs.YtpgiljibicigeaaGreatDoor
open Go.RowKit SX

set_option maxRecDepth 100000 in
set_option maxHeartbeats 4000000 in
theorem syBound {v : Ev} {g n : Nat} {K : Kn} (hA : Hid (EvA v)) (hK : Hid (HKs v g K n)) (hI : Hid (IvK v K)) {i : Nat} (hn : v.L.length - i < n + 1) : Cn v g 79 (boundF v K) i := by
  intro w pp l hgl hlw h
  have HL : Hid (g ≤ l ∧ l < w.heap.size) := Lib.hid ⟨hgl, hlw⟩; have HP0 := Lib.hid h; have HG0 : Hid (w.grownBy w (some g)) := Lib.hid (gb_refl _ _); have HJ0 := Lib.hid hn
  clear h hn hgl hlw
  show Calls Tryz.prog 79 #[ptr g] w (Out v g pp w (boundF v K pp i) (VN l))
  go_enter Tryz.func79, Tryz.ntmps79
  obtain ⟨R1, hR1⟩ : ∃ R, postF v K pp i = R := ⟨_, rfl⟩
  have hi1 := postF_iv hA.out.q hI.out pp HP0.out.il
  rw [hR1] at hi1
  have hc1 := syPost hA hK hI (by have := HJ0.out; omega) _ _ l HL.out.1 (Nat.lt_of_lt_of_le HL.out.2 HG0.out.size) HP0.out
  rw [hR1] at hc1
  have HC1 := Lib.hid hc1; have HR1 := Lib.hid hR1
  have HI1 := Lib.hid hi1
  clear hc1 hR1 hi1
  go_wp2_with fail
  refine HC1.out.mono ?_
  intro e w2 ho
  clear HC1
  rcases out_cases ho with ⟨x1, j1, u, rfl, rfl, hv, hp, hb⟩ | ⟨a, er, rfl, rfl, hb⟩
  · have HP2 := Lib.hid hp; have HG2 := Lib.hid (gb_trans HG0.out hb)
    have HJ2 : Hid (i < j1 ∧ j1 ≤ v.L.length ∧ dpt x1 ≤ 500000) := Lib.hid (by have h : P1 v 0 i x1 j1 := HI1.out; have h0 := hA.out.k.len; exact ⟨h.1, h.2.1, by have h1 := h.2.2.1; have h2 := h.2.1; omega⟩)
    obtain ⟨b1, rfl, hx⟩ := hv
    have HX1 := Lib.hid hx
    clear hx
    clear ho hp hb HP0 HG0  HI1
    cases hS3 : isS v j1 ⟨#[97, 115]⟩ with
    | true =>
      have HS3 := Lib.hid hS3
      have HJ4 : Hid (j1 < v.L.length) := Lib.hid (isS_lt hS3)
      clear hS3
      go_wp2_with fail
      refine (sySkipYes hA.out.k HP2.out HS3.out).mono ?_
      rintro e w4 ⟨rfl, hp, hb⟩
      have HP4 := Lib.hid hp; have HG4 := Lib.hid (gb_trans HG2.out hb)
      have HX5 := Lib.hid (HX1.out.keep hb HL.out.1)
      clear hp hb HP2 HG2 HX1
      obtain ⟨R6, hR6⟩ : ∃ R, K.pat pp (j1 + 1) = R := ⟨_, rfl⟩
      have hi6 := hI.out.pat pp (j1 + 1) HP4.out.il
      rw [hR6] at hi6
      have hc6 := hK.out.pat _ (by have := HJ0.out; have := HJ2.out; have := HJ4.out; omega) _ _ l HL.out.1 (Nat.lt_of_lt_of_le HL.out.2 HG4.out.size) HP4.out
      rw [hR6] at hc6
      have HC6 := Lib.hid hc6; have HR6 := Lib.hid hR6
      have HI6 := Lib.hid hi6
      clear hc6 hR6 hi6
      go_wp2_with fail
      refine HC6.out.mono ?_
      intro e w7 ho
      clear HC6
      rcases out_cases ho with ⟨x6, j6, u, rfl, rfl, hv, hp, hb⟩ | ⟨a, er, rfl, rfl, hb⟩
      · have HP7 := Lib.hid hp; have HG7 := Lib.hid (gb_trans HG4.out hb)
        have HJ7 : Hid (j1 + 1 < j6 ∧ j6 ≤ v.L.length ∧ dpt x6 ≤ 500000) := Lib.hid (by have h : P1 v 0 (j1 + 1) x6 j6 := HI6.out; have h0 := hA.out.k.len; exact ⟨h.1, h.2.1, by have h1 := h.2.2.1; have h2 := h.2.1; omega⟩)
        have HX8 := Lib.hid (HX5.out.keep hb HL.out.1)
        obtain ⟨b6, rfl, hx⟩ := hv
        have HX6 := Lib.hid hx
        clear hx
        clear ho hp hb HP4 HG4 HX5 HI6
        obtain ⟨R9, hR9⟩ : ∃ R, ned v ⟨#[124]⟩ j6 = R := ⟨_, rfl⟩
        have hi9 := ned_iv hA.out.q HP7.out.il (s := ⟨#[124]⟩)
        rw [hR9] at hi9
        have hc9 := syNeed hA.out.k HP7.out ⟨#[124]⟩
        rw [hR9] at hc9
        have HC9 := Lib.hid hc9; have HR9 := Lib.hid hR9
        have HI9 := Lib.hid hi9
        clear hc9 hR9 hi9
        go_wp2_with fail
        refine HC9.out.mono ?_
        intro e w10 ho
        clear HC9
        rcases out_cases ho with ⟨x9, j9, u, rfl, rfl, hv, hp, hb⟩ | ⟨a, er, rfl, rfl, hb⟩
        · have HP10 := Lib.hid hp; have HG10 := Lib.hid (gb_trans HG7.out hb)
          have HJ10 : Hid (j6 < j9 ∧ j9 ≤ v.L.length) := Lib.hid (by have h : T1 v j6 x9 j9 := HI9.out; have h0 := hA.out.k.len; exact ⟨by have := h.1; omega, h.2⟩)
          have HX11 := Lib.hid (HX8.out.keep hb HL.out.1)
          have HX12 := Lib.hid (HX6.out.keep hb HL.out.1)
          obtain rfl := hv
          clear ho hp hb HP7 HG7 HX8 HX6 HI9
          obtain ⟨R13, hR13⟩ : ∃ R, K.pipe pp j9 = R := ⟨_, rfl⟩
          have hi13 := hI.out.pipe pp j9 HP10.out.il
          rw [hR13] at hi13
          have hc13 := hK.out.pipe _ (by have := HJ0.out; have := HJ2.out; have := HJ4.out; have := HJ7.out; have := HJ10.out; omega) _ _ l HL.out.1 (Nat.lt_of_lt_of_le HL.out.2 HG10.out.size) HP10.out
          rw [hR13] at hc13
          have HC13 := Lib.hid hc13; have HR13 := Lib.hid hR13
          have HI13 := Lib.hid hi13
          clear hc13 hR13 hi13
          go_wp2_with fail
          refine HC13.out.mono ?_
          intro e w14 ho
          clear HC13
          rcases out_cases ho with ⟨x13, j13, u, rfl, rfl, hv, hp, hb⟩ | ⟨a, er, rfl, rfl, hb⟩
          · have HP14 := Lib.hid hp; have HG14 := Lib.hid (gb_trans HG10.out hb)
            have HJ14 : Hid (j9 < j13 ∧ j13 ≤ v.L.length ∧ dpt x13 ≤ 500000) := Lib.hid (by have h : P1 v 0 j9 x13 j13 := HI13.out; have h0 := hA.out.k.len; exact ⟨h.1, h.2.1, by have h1 := h.2.2.1; have h2 := h.2.1; omega⟩)
            have HX15 := Lib.hid (HX11.out.keep hb HL.out.1)
            have HX16 := Lib.hid (HX12.out.keep hb HL.out.1)
            obtain ⟨b13, rfl, hx⟩ := hv
            have HX13 := Lib.hid hx
            clear hx
            clear ho hp hb HP10 HG10 HX11 HX12 HI13
            have hd17 : dpt (Nd.mk 23 SX.nil [x1, x6, x13]) ≤ 500001 := by have h0 := hA.out.k.len; simp only [dpt, dps]; have := HJ2.out; have := HJ7.out; have := HJ14.out; omega
            have HJ17 := Lib.hid hd17
            clear hd17
            go_wp2_with fail
            refine (syNew3 (Nat.lt_of_lt_of_le HL.out.2 HG14.out.size) HX15.out HX16.out HX13.out (by have := HJ2.out; omega) (by have := HJ7.out; omega) (by have := HJ14.out; omega) 23 SX.nil).mono ?_
            rintro e w18 ⟨b17, rfl, hb, hx⟩
            have HP18 := Lib.hid (HP14.out.below hb); have HG18 := Lib.hid (gb_trans HG14.out (gbOfB hb)); have HX17 := Lib.hid hx
            have HX19 := Lib.hid (HX15.out.keep (gbOfB (g := g) hb) HL.out.1)
            have HX20 := Lib.hid (HX16.out.keep (gbOfB (g := g) hb) HL.out.1)
            have HX21 := Lib.hid (HX13.out.keep (gbOfB (g := g) hb) HL.out.1)
            clear hb hx HP14 HG14 HX15 HX16 HX13
            go_wp2
            go_ret
            have EE : boundF v K pp i = Rs.ok (Nd.mk 23 SX.nil [x1, x6, x13]) (j13) := by
                          unfold boundF
                          rw [HR1.out]; all_goals dsimp only [Rs.bind]
                          rw [if_pos HS3.out]
                          rw [HR6.out]; all_goals dsimp only [Rs.bind]
                          rw [HR9.out]; all_goals dsimp only [Rs.bind]
                          rw [HR13.out]; all_goals dsimp only [Rs.bind]
                          all_goals rfl
            rw [EE]
            exact ⟨_, rfl, ⟨b17, rfl, HX17.out⟩, HP18.out, HG18.out⟩
          · have HG14 := Lib.hid (gb_trans HG10.out hb)
            clear ho hb HP10 HG10
            go_wp2
            refine ⟨rfl, ?_⟩
            have EE : boundF v K pp i = Rs.err a er := by
                          unfold boundF
                          rw [HR1.out]; all_goals dsimp only [Rs.bind]
                          rw [if_pos HS3.out]
                          rw [HR6.out]; all_goals dsimp only [Rs.bind]
                          rw [HR9.out]; all_goals dsimp only [Rs.bind]
                          rw [HR13.out]; all_goals dsimp only [Rs.bind]
                          all_goals rfl
            rw [EE]
            exact ⟨rfl, HG14.out⟩
        · have HG10 := Lib.hid (gb_trans HG7.out hb)
          clear ho hb HP7 HG7
          go_wp2
          refine ⟨rfl, ?_⟩
          have EE : boundF v K pp i = Rs.err a er := by
                      unfold boundF
                      rw [HR1.out]; all_goals dsimp only [Rs.bind]
                      rw [if_pos HS3.out]
                      rw [HR6.out]; all_goals dsimp only [Rs.bind]
                      rw [HR9.out]; all_goals dsimp only [Rs.bind]
                      all_goals rfl
          rw [EE]
          exact ⟨rfl, HG10.out⟩
      · have HG7 := Lib.hid (gb_trans HG4.out hb)
        clear ho hb HP4 HG4
        go_wp2
        refine ⟨rfl, ?_⟩
        have EE : boundF v K pp i = Rs.err a er := by
                  unfold boundF
                  rw [HR1.out]; all_goals dsimp only [Rs.bind]
                  rw [if_pos HS3.out]
                  rw [HR6.out]; all_goals dsimp only [Rs.bind]
                  all_goals rfl
        rw [EE]
        exact ⟨rfl, HG7.out⟩
    | false =>
      have HS3 := Lib.hid hS3
      clear hS3
      go_wp2_with fail
      refine (sySkipNo hA.out.k HP2.out HS3.out).mono ?_
      rintro e w22 ⟨rfl, hp, hb⟩
      have HP22 := Lib.hid hp; have HG22 := Lib.hid (gb_trans HG2.out hb)
      have HX23 := Lib.hid (HX1.out.keep hb HL.out.1)
      clear hp hb HP2 HG2 HX1
      go_wp2
      go_ret
      have EE : boundF v K pp i = Rs.ok (x1) (j1) := by
              unfold boundF
              rw [HR1.out]; all_goals dsimp only [Rs.bind]
              rw [if_neg (by rw [HS3.out]; decide)]
              all_goals rfl
      rw [EE]
      exact ⟨_, rfl, ⟨b1, rfl, HX23.out⟩, HP22.out, HG22.out⟩
  · have HG2 := Lib.hid (gb_trans HG0.out hb)
    clear ho hb HP0 HG0
    go_wp2
    refine ⟨rfl, ?_⟩
    have EE : boundF v K pp i = Rs.err a er := by
          unfold boundF
          rw [HR1.out]; all_goals dsimp only [Rs.bind]
          all_goals rfl
    rw [EE]
    exact ⟨rfl, HG2.out⟩
set_option maxRecDepth 100000 in
set_option maxHeartbeats 4000000 in
theorem syNegated {v : Ev} {g n : Nat} {K : Kn} (hA : Hid (EvA v)) (hK : Hid (HKs v g K n)) (hI : Hid (IvK v K)) {i : Nat} (hn : v.L.length - i < n + 1) : Cn v g 63 (negF v K) i := by
  intro w pp l hgl hlw h
  have HL : Hid (g ≤ l ∧ l < w.heap.size) := Lib.hid ⟨hgl, hlw⟩; have HP0 := Lib.hid h; have HG0 : Hid (w.grownBy w (some g)) := Lib.hid (gb_refl _ _); have HJ0 := Lib.hid hn
  clear h hn hgl hlw
  show Calls Tryz.prog 63 #[ptr g] w (Out v g pp w (negF v K pp i) (VN l))
  go_enter Tryz.func63, Tryz.ntmps63
  cases hS24 : isS v i ⟨#[45]⟩ with
  | true =>
    have HS24 := Lib.hid hS24
    have HJ25 : Hid (i < v.L.length) := Lib.hid (isS_lt hS24)
    clear hS24
    go_wp2_with fail
    refine (sySkipYes hA.out.k HP0.out HS24.out).mono ?_
    rintro e w25 ⟨rfl, hp, hb⟩
    have HP25 := Lib.hid hp; have HG25 := Lib.hid (gb_trans HG0.out hb)
    clear hp hb HP0 HG0 
    obtain ⟨R26, hR26⟩ : ∃ R, K.neg pp (i + 1) = R := ⟨_, rfl⟩
    have hi26 := hI.out.neg pp (i + 1) HP25.out.il
    rw [hR26] at hi26
    have hc26 := hK.out.neg _ (by have := HJ0.out; have := HJ25.out; omega) _ _ l HL.out.1 (Nat.lt_of_lt_of_le HL.out.2 HG25.out.size) HP25.out
    rw [hR26] at hc26
    have HC26 := Lib.hid hc26; have HR26 := Lib.hid hR26
    have HI26 := Lib.hid hi26
    clear hc26 hR26 hi26
    go_wp2_with fail
    refine HC26.out.mono ?_
    intro e w27 ho
    clear HC26
    rcases out_cases ho with ⟨x26, j26, u, rfl, rfl, hv, hp, hb⟩ | ⟨a, er, rfl, rfl, hb⟩
    · have HP27 := Lib.hid hp; have HG27 := Lib.hid (gb_trans HG25.out hb)
      have HJ27 : Hid (i + 1 < j26 ∧ j26 ≤ v.L.length ∧ dpt x26 ≤ 500000) := Lib.hid (by have h : P1 v 0 (i + 1) x26 j26 := HI26.out; have h0 := hA.out.k.len; exact ⟨h.1, h.2.1, by have h1 := h.2.2.1; have h2 := h.2.1; omega⟩)
      obtain ⟨b26, rfl, hx⟩ := hv
      have HX26 := Lib.hid hx
      clear hx
      clear ho hp hb HP25 HG25  HI26
      have hd28 : dpt (Nd.mk 14 SX.nil [x26]) ≤ 500001 := by have h0 := hA.out.k.len; simp only [dpt, dps]; have := HJ27.out; omega
      have HJ28 := Lib.hid hd28
      clear hd28
      go_wp2_with fail
      refine (syNew1 (Nat.lt_of_lt_of_le HL.out.2 HG27.out.size) HX26.out (by have := HJ27.out; omega) 14 SX.nil).mono ?_
      rintro e w29 ⟨b28, rfl, hb, hx⟩
      have HP29 := Lib.hid (HP27.out.below hb); have HG29 := Lib.hid (gb_trans HG27.out (gbOfB hb)); have HX28 := Lib.hid hx
      have HX30 := Lib.hid (HX26.out.keep (gbOfB (g := g) hb) HL.out.1)
      clear hb hx HP27 HG27 HX26
      go_wp2
      go_ret
      have EE : negF v K pp i = Rs.ok (Nd.mk 14 SX.nil [x26]) (j26) := by
              unfold negF
              rw [if_pos HS24.out]
              rw [HR26.out]; all_goals dsimp only [Rs.bind]
              all_goals rfl
      rw [EE]
      exact ⟨_, rfl, ⟨b28, rfl, HX28.out⟩, HP29.out, HG29.out⟩
    · have HG27 := Lib.hid (gb_trans HG25.out hb)
      clear ho hb HP25 HG25
      go_wp2
      refine ⟨rfl, ?_⟩
      have EE : negF v K pp i = Rs.err a er := by
              unfold negF
              rw [if_pos HS24.out]
              rw [HR26.out]; all_goals dsimp only [Rs.bind]
              all_goals rfl
      rw [EE]
      exact ⟨rfl, HG27.out⟩
  | false =>
    have HS24 := Lib.hid hS24
    clear hS24
    go_wp2_with fail
    refine (sySkipNo hA.out.k HP0.out HS24.out).mono ?_
    rintro e w31 ⟨rfl, hp, hb⟩
    have HP31 := Lib.hid hp; have HG31 := Lib.hid (gb_trans HG0.out hb)
    clear hp hb HP0 HG0 
    obtain ⟨R32, hR32⟩ : ∃ R, boundF v K pp i = R := ⟨_, rfl⟩
    have hi32 := boundF_iv hA.out.q hI.out pp HP31.out.il
    rw [hR32] at hi32
    have hc32 := syBound hA hK hI (by have := HJ0.out; omega) _ _ l HL.out.1 (Nat.lt_of_lt_of_le HL.out.2 HG31.out.size) HP31.out
    rw [hR32] at hc32
    have HC32 := Lib.hid hc32; have HR32 := Lib.hid hR32
    have HI32 := Lib.hid hi32
    clear hc32 hR32 hi32
    go_wp2_with fail
    refine HC32.out.mono ?_
    intro e w33 ho
    clear HC32
    rcases out_cases ho with ⟨x32, j32, u, rfl, rfl, hv, hp, hb⟩ | ⟨a, er, rfl, rfl, hb⟩
    · have HP33 := Lib.hid hp; have HG33 := Lib.hid (gb_trans HG31.out hb)
      have HJ33 : Hid (i < j32 ∧ j32 ≤ v.L.length ∧ dpt x32 ≤ 500000) := Lib.hid (by have h : P1 v 0 i x32 j32 := HI32.out; have h0 := hA.out.k.len; exact ⟨h.1, h.2.1, by have h1 := h.2.2.1; have h2 := h.2.1; omega⟩)
      obtain ⟨b32, rfl, hx⟩ := hv
      have HX32 := Lib.hid hx
      clear hx
      clear ho hp hb HP31 HG31  HI32
      go_wp2
      go_ret
      have EE : negF v K pp i = Rs.ok (x32) (j32) := by
              unfold negF
              rw [if_neg (by rw [HS24.out]; decide)]
              rw [HR32.out]; all_goals dsimp only [Rs.bind]
              all_goals rfl
      rw [EE]
      exact ⟨_, rfl, ⟨b32, rfl, HX32.out⟩, HP33.out, HG33.out⟩
    · have HG33 := Lib.hid (gb_trans HG31.out hb)
      clear ho hb HP31 HG31
      go_wp2
      refine ⟨rfl, ?_⟩
      have EE : negF v K pp i = Rs.err a er := by
              unfold negF
              rw [if_neg (by rw [HS24.out]; decide)]
              rw [HR32.out]; all_goals dsimp only [Rs.bind]
              all_goals rfl
      rw [EE]
      exact ⟨rfl, HG33.out⟩
end Go.Proofs.YtpgiljibicigeaaGreatDoor

/- syntax: twoSided walked. -/
namespace Go.Proofs.YtpgiljibicigeaaGreatDoor
open Go.RowKit SX

theorem ssT_at : ∀ {i : Nat} {r : ByteArray × Nat × Nat × Nat}, sgs[i]? = some r → ssT[i * 4]? = some (.string r.1) ∧ ssT[i * 4 + 1]? = some (.int .i64 (r.2.1 : Int)) ∧ ssT[i * 4 + 2]? = some (.int .i64 (r.2.2.1 : Int)) ∧ ssT[i * 4 + 3]? = some (.int .i64 (r.2.2.2 : Int)) := by
  unfold ssT
  generalize sgs = L
  induction L with
  | nil => intro i r h; simp at h
  | cons t L ih =>
    intro i r h
    cases i with
    | zero =>
      obtain rfl : t = r := by simpa using h
      exact ⟨rfl, rfl, rfl, rfl⟩
    | succ i =>
      have h2 := ih (i := i) (r := r) (by simpa using h)
      have key : ∀ j, ((t :: L).flatMap fun r => [Value.string r.1, .int .i64 (r.2.1 : Int), .int .i64 (r.2.2.1 : Int), .int .i64 (r.2.2.2 : Int)])[j + 4]? = (L.flatMap fun r => [Value.string r.1, .int .i64 (r.2.1 : Int), .int .i64 (r.2.2.1 : Int), .int .i64 (r.2.2.2 : Int)])[j]? := fun j => by
        rw [List.flatMap_cons, List.getElem?_append_right (by simp)]; simp
      refine ⟨?_, ?_, ?_, ?_⟩
      · rw [show (i + 1) * 4 = i * 4 + 4 by omega, key]; exact h2.1
      · rw [show (i + 1) * 4 + 1 = i * 4 + 1 + 4 by omega, key]; exact h2.2.1
      · rw [show (i + 1) * 4 + 2 = i * 4 + 2 + 4 by omega, key]; exact h2.2.2.1
      · rw [show (i + 1) * 4 + 3 = i * 4 + 3 + 4 by omega, key]; exact h2.2.2.2
def rowV (r : ByteArray × Nat × Nat × Nat) : Value := .agg #[.string r.1, .int .i64 (r.2.1 : Int), .int .i64 (r.2.2.1 : Int), .int .i64 (r.2.2.2 : Int)]
theorem four_ex {l : List Value} {k : Nat} {a b c d : Value} (h0 : l[k]? = some a) (h1 : l[k + 1]? = some b) (h2 : l[k + 2]? = some c) (h3 : l[k + 3]? = some d) : (l.toArray.extract k (k + 4)) = #[a, b, c, d] := by
  apply Array.ext'
  rw [Array.toList_extract]
  have e : ∀ (l : List Value) (k : Nat) (u : Value), l[k]? = some u → l.drop k = u :: l.drop (k + 1) := fun l k u h => by
    obtain ⟨hl, rfl⟩ := List.getElem?_eq_some_iff.1 h
    exact List.drop_eq_getElem_cons hl
  simp only [List.extract_eq_take_drop, Nat.add_sub_cancel_left]
  rw [e l k a h0, e l (k + 1) b h1, e l (k + 1 + 1) c h2, e l (k + 1 + 1 + 1) d h3]
  simp
theorem idxSs {i : Nat} {r : ByteArray × Nat × Nat × Nat} (h : sgs[i]? = some r) (w : World) : (Instr.index 109 (.agg ssT.toArray) (.int .i64 (i : Int))).run Tryz.prog w = .ok (rowV r) w := by
  obtain ⟨h0, h1, h2, h3⟩ := ssT_at h
  have hi : i < 23 := by
    obtain ⟨hl, _⟩ := List.getElem?_eq_some_iff.1 h
    exact hl
  have hu := run_underlying (P := Tryz.prog) (w := w) Tryz.underlying109
  have he := four_ex h0 h1 h2 h3
  unfold rowV
  rw [← he]
  have hs : ssT.toArray.size = 92 := rfl
  simp [Instr.index, part, asIntOf, asAgg, hu, Tryz.sizeOf97, Tryz.isAgg97, go_sem, hs]
  intro hc; omega
theorem sdrop_get {α : Type} {L : List α} {i : Nat} {t : α} (h : L[i]? = some t) : L.drop i = t :: L.drop (i + 1) := by
  obtain ⟨hl, rfl⟩ := List.getElem?_eq_some_iff.1 h
  exact List.drop_eq_getElem_cons hl
theorem ssArrR {w : World} (h : Ss w) : w.rangeAt 1 0 ssT := fun j v hv => by rw [Nat.zero_add]; exact h j v hv
theorem ssArrI : (Tryz.prog.info? 109).map (·.size) = some 92 := by kernel_rfl
theorem wp_ssArr {ops : Array Oper} {rest : List Oper} {op : Oper} {a : Act} {w : World} {Q : Exit → Act → World → Prop} (hgd : op.guard = none) (ho : op.op = .load 109 (.global 1)) (hR : w.rangeAt 1 0 ssT)
    (h : wpList Tryz.prog ops Q rest (a.put op.dst (.agg ssT.toArray)) w) : wpList Tryz.prog ops Q (op :: rest) a w :=
  wpList_load_mid hgd 109 (.global 1) ho 1 0 rfl ssT _ hR Tryz.underlying109 rfl (by rw [ssArrI]; rfl) h
def rowO : Option (ByteArray × Nat × Nat × Nat) → Value
  | some r => rowV r
  | none => .agg #[.string ⟨#[]⟩, .int .i64 0, .int .i64 0, .int .i64 0]
theorem Ss.below {w w' : World} (h : Ss w) (hb : Below w.heap.size w w') : Ss w' := fun j u hj => by rw [hb.cell (lt_of_cell (h j u hj))]; exact h j u hj
theorem bel4 {B nw : Nat} {w w1 : World} (h : Below B w w1) (hb : B ≤ nw) (a b c d : Value) : Below B w ((((w1.setCell ⟨nw, 0, none⟩ a).setCell ⟨nw, 1, none⟩ b).setCell ⟨nw, 2, none⟩ c).setCell ⟨nw, 3, none⟩ d) :=
  (((h.setCell (p := ⟨nw, 0, none⟩) hb a).setCell (p := ⟨nw, 1, none⟩) hb b).setCell (p := ⟨nw, 2, none⟩) hb c).setCell (p := ⟨nw, 3, none⟩) hb d
/-- a fresh result of four cells -/
structure Z4 (w wr : World) (nb : Nat) : Prop where
  r0 : wr.cell? ⟨nb, 0, none⟩ = some (.string ⟨#[]⟩)
  r1 : wr.cell? ⟨nb, 1, none⟩ = some (.int .i64 0)
  r2 : wr.cell? ⟨nb, 2, none⟩ = some (.int .i64 0)
  r3 : wr.cell? ⟨nb, 3, none⟩ = some (.int .i64 0)
  f0 : ∀ j, wr.frozen? ⟨nb, j, none⟩ = false
  be : Below nb w wr
theorem Z4.below {w wr w' : World} {nb : Nat} (h : Z4 w wr nb) (hb : Below wr.heap.size wr w') : Z4 w w' nb := by
  have hl : nb < wr.heap.size := lt_of_cell h.r0
  exact ⟨by rw [hb.cell hl]; exact h.r0, by rw [hb.cell hl]; exact h.r1, by rw [hb.cell hl]; exact h.r2, by rw [hb.cell hl]; exact h.r3, fun j => (hb.frozen (p := ⟨nb, j, none⟩) hl).trans (h.f0 j), h.be.trans (hb.mono (Nat.le_of_lt hl))⟩
set_option maxRecDepth 100000 in
set_option maxHeartbeats 4000000 in
theorem syTwo {v : Ev} (hE : EvK v) {w : World} {g i pp : Nat} (h : PB v w g i pp) :
    Calls Tryz.prog 64 #[ptr g] w fun e w' => e = .returned (.tuple #[rowO (twoS v i), .bool (twoS v i).isSome]) ∧ Below w.heap.size w w' := by
  have hz : Z4 w (w.alloc (.cells #[.string ⟨#[]⟩, .int .i64 0, .int .i64 0, .int .i64 0] 97)) w.heap.size :=
    ⟨cell_new rfl, cell_new rfl, cell_new rfl, cell_new rfl, fun _ => frz_new rfl, (Below.refl _ _).alloc (Nat.le_refl _) _⟩
  have HZ := Lib.hid hz
  have HE := Lib.hid hE
  have HP := Lib.hid h
  have HR := Lib.hid (ssArrR (h.tb.2.2.below hz.be))
  have HX := Lib.hid (fun (i : Nat) r (h : sgs[i]? = some r) => idxSs h)
  have HL : Hid (sgs.length = 23) := Lib.hid rfl
  obtain ⟨two, h2⟩ : ∃ t, twoS v i = t := ⟨_, rfl⟩
  rw [h2]
  have H2 : Hid ((sgs.find? fun r => isS v i r.1) = two) := Lib.hid h2
  clear h hE hz h2
  go_enter Tryz.func64, Tryz.ntmps64
  go_wp2_with (refine wp_ssArr rfl rfl HR.out ?_)
  generalize ssT.toArray = arr at *
  clear HR
  go_loopg [7] 23 (fun gk s7 wr => ∃ (j : Nat), j + gk = 23 ∧ s7 = .int .i64 (j : Int) ∧ Hid (Z4 w wr w.heap.size) ∧ Hid ((sgs.drop j).find? (fun r => isS v i r.1) = two))
  case atStart => exact ⟨0, rfl, rfl, HZ, H2⟩
  case round =>
    obtain ⟨j, hj, rfl, HZ, H2⟩ := hrel
    by_cases hlt : j < 23
    · have hltI : (j : Int) < 23 := by omega
      obtain ⟨r, hr⟩ : ∃ r, sgs[j]? = some r := ⟨_, List.getElem?_eq_getElem (by rw [HL.out]; exact hlt)⟩
      have hidx := HX.out j r hr
      have hf := H2.out
      rw [sdrop_get hr, List.find?_cons] at hf
      have HF := Lib.hid hf
      have HJ := Lib.hid hj; have HLT := Lib.hid hlt
      unfold rowV at hidx
      have hp := HP.out.below HZ.out.be
      have hbx : ∀ o, Below wr.heap.size wr (wr.alloc o) := fun o => (Below.refl _ _).alloc (Nat.le_refl _) _
      have HI := Lib.hid (fun o => syIs HE.out (hp.below (hbx o)) r.1)
      have HZB := Lib.hid (fun o => HZ.out.below (hbx o))
      have HBX := Lib.hid hbx
      clear hf hj hlt hr hp hbx H2 HZ
      obtain ⟨S, s1, s2, s3⟩ := r
      simp only at hidx HI HF
      cases hS : isS v i S with
      | true =>
        rw [hS] at HF
        simp only at HF
        have HI2 : Hid (∀ o, Calls Tryz.prog 60 #[ptr g, .string S] (wr.alloc o) fun e w' => e = .returned (.bool true) ∧ Below (wr.alloc o).heap.size (wr.alloc o) w') := Lib.hid (by rw [← hS]; exact HI.out)
        clear hS HI
        go_wp2_with fail
        refine (HI2.out _).mono ?_
        rintro e w3 ⟨rfl, hb⟩
        have hz := (HZB.out _).below hb
        obtain ⟨o, ho⟩ : ∃ o, (Obj.cells #[.string S, .int .i64 (s1 : Int), .int .i64 (s2 : Int), .int .i64 (s3 : Int)] 97) = o := ⟨_, rfl⟩
        have hl : wr.heap.size < (wr.alloc (.cells #[.string S, .int .i64 (s1 : Int), .int .i64 (s2 : Int), .int .i64 (s3 : Int)] 97)).heap.size := by simp
        have c0 : w3.cell? ⟨wr.heap.size, 0, none⟩ = some (.string S) := by rw [hb.cell hl]; exact cell_new rfl
        have c1 : w3.cell? ⟨wr.heap.size, 1, none⟩ = some (.int .i64 (s1 : Int)) := by rw [hb.cell hl]; exact cell_new rfl
        have c2 : w3.cell? ⟨wr.heap.size, 2, none⟩ = some (.int .i64 (s2 : Int)) := by rw [hb.cell hl]; exact cell_new rfl
        have c3 : w3.cell? ⟨wr.heap.size, 3, none⟩ = some (.int .i64 (s3 : Int)) := by rw [hb.cell hl]; exact cell_new rfl
        have r0 := hz.r0; have r1 := hz.r1; have r2 := hz.r2; have r3 := hz.r3; have f0 := hz.f0
        have HBE := Lib.hid hz.be
        have HTW : Hid (two = some (S, s1, s2, s3)) := Lib.hid HF.out.symm
        clear hb hz hl ho HI2 HZB HBX HF hidx
        generalize hnw : w.heap.size = nw at *
        generalize wr.heap.size = nr at *
        have HNW := Lib.hid hnw
        clear hnw
        go_wp2
        refine bodyPost_ret (v := .tuple #[.agg #[.string S, .int .i64 (s1 : Int), .int .i64 (s2 : Int), .int .i64 (s3 : Int)], .bool true]) (by simp [results, Tryz.results64, go_sem, r0, r1, r2, r3]) rfl ?_
        rw [HTW.out]
        exact ⟨rfl, by rw [HNW.out]; exact bel4 HBE.out (Nat.le_refl _) _ _ _ _⟩
      | false =>
        rw [hS] at HF
        simp only at HF
        have HI2 : Hid (∀ o, Calls Tryz.prog 60 #[ptr g, .string S] (wr.alloc o) fun e w' => e = .returned (.bool false) ∧ Below (wr.alloc o).heap.size (wr.alloc o) w') := Lib.hid (by rw [← hS]; exact HI.out)
        clear hS HI
        go_wp2_with fail
        refine (HI2.out _).mono ?_
        rintro e w3 ⟨rfl, hb⟩
        have HZ3 := Lib.hid ((HZB.out _).below hb)
        clear hb HI2 HZB HBX hidx
        go_wp2
        go_roundg (gk - 1)
        case measure => have := HJ.out; have := HLT.out; omega
        case rel => exact ⟨j + 1, by have := HJ.out; have := HLT.out; omega, by go_num, HZ3, HF⟩
    · have hltI : ¬ (j : Int) < 23 := by omega
      have hf := H2.out
      rw [List.drop_of_length_le (by rw [HL.out]; omega)] at hf
      have HTW : Hid (two = none) := Lib.hid hf.symm
      have r0 := HZ.out.r0; have r1 := HZ.out.r1; have r2 := HZ.out.r2; have r3 := HZ.out.r3; have f0 := HZ.out.f0
      have HBE := Lib.hid HZ.out.be
      clear hf hj hlt H2 HZ HX
      generalize hnw : w.heap.size = nw at *
      have HNW := Lib.hid hnw
      clear hnw
      go_wp2
      refine bodyPost_ret (v := .tuple #[.agg #[.string ⟨#[]⟩, .int .i64 0, .int .i64 0, .int .i64 0], .bool false]) (by simp [results, Tryz.results64, go_sem, r0, r1, r2, r3]) rfl ?_
      rw [HTW.out]
      exact ⟨rfl, by rw [HNW.out]; exact bel4 HBE.out (Nat.le_refl _) _ _ _ _⟩
end Go.Proofs.YtpgiljibicigeaaGreatDoor
