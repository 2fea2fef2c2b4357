/- syntax: numbers walked. -/
import Derived.Test.YtpgiljibicigeaaGreatDoorSynM
import Derived.Test.YtpgiljibicigeaaGreatDoorSynEs
set_option linter.unusedVariables false
set_option linter.unusedSimpArgs false
namespace Go.Proofs.YtpgiljibicigeaaGreatDoor
open Go.RowKit SX

set_option maxRecDepth 100000 in
set_option maxHeartbeats 4000000 in
theorem syNumber {v : Ev} {g : Nat} (hA : Hid (EvA v)) {i : Nat} (w : World) (pp l : Nat) (hgl : g ≤ l) (hlw : l < w.heap.size) (h : PB v w g i pp) :
    Calls Tryz.prog 102 #[ptr g] w (Out v g pp w (numberF v i) (VN l)) := by
  have HL : Hid (g ≤ l ∧ l < w.heap.size) := Lib.hid ⟨hgl, hlw⟩
  have HP0 := Lib.hid h
  have HC := Lib.hid (syNext hA.out.k h)
  have hsz := (hA.out.k.of i).2.2
  have HD := Lib.hid (fun W (hb : Below w.heap.size w W) => Parse_D (tkn v i).2.1 W (by omega) (h.tb.1.below hb))
  have hnm : (prsA (tkn v i).2.1).err = v.num (tkn v i).2.1 := by rw [hA.out.nm]
  obtain ⟨er, her⟩ : ∃ er, v.num (tkn v i).2.1 = er := ⟨_, rfl⟩
  have HER : Hid (v.num (tkn v i).2.1 = er) := Lib.hid her
  have HPE : Hid ((prsA (tkn v i).2.1).err = er) := Lib.hid (hnm.trans her)
  have ft := fieldTok1
  clear h hgl hlw hsz hnm her
  go_enter Tryz.func102, Tryz.ntmps102
  go_wp2_with fail
  refine HC.out.mono ?_
  rintro e w1 ⟨rfl, hb⟩
  have HB := Lib.hid hb
  have HD2 := Lib.hid (HD.out w1 hb)
  unfold nxV
  clear hb HC HD
  go_wp2_with fail
  refine HD2.out.mono ?_
  rintro e w2 ⟨a', c', rfl, _, hb⟩
  rw [HPE.out]
  have HB2 := Lib.hid (HB.out.trans (hb.mono HB.out.size))
  have hb3 : ∀ o, Below w.heap.size w (w2.alloc o) := fun o => HB2.out.alloc HB2.out.size o
  have HP2 : Hid (∀ o, PB v (w2.alloc o) g i pp) := Lib.hid (fun o => HP0.out.below (hb3 o))
  have HG2 : Hid (∀ o, w.grownBy (w2.alloc o) (some g)) := Lib.hid (fun o => gbOfB (hb3 o))
  generalize (prsA (tkn v i).2.1).p = DP at *
  generalize LM.dg 1000000000 DP.m = dgs at *
  clear hb HB HD2 HB2 hb3 ft HPE
  by_cases h0 : er = 0
  · have HER2 := Lib.hid (HER.out.trans h0)
    subst h0
    go_wp2_with fail
    have hc := fun o => syTake hA.out.k (HP2.out o) 1 (by decide)
    have hi := tak_iv hA.out.q HP0.out.il (k := 1) (by decide)
    obtain ⟨R1, hR1⟩ : ∃ R, tak v 1 i = R := ⟨_, rfl⟩
    rw [hR1] at hi
    simp only [hR1] at hc
    have HC := Lib.hid hc; have HI := Lib.hid hi; have HR := Lib.hid hR1
    clear hc hi hR1
    refine (HC.out _).mono ?_
    intro e w3 ho
    clear HC
    rcases out_cases ho with ⟨x, j, u, rfl, rfl, hv, hp, hb⟩ | ⟨a, er, rfl, rfl, hb⟩
    · obtain rfl := hv
      have HP3 := Lib.hid hp; have HG3 := Lib.hid (gb_trans (HG2.out _) hb)
      clear ho hp hb HP2 HG2 HI
      go_wp2_with fail
      refine (syNew0 (Nat.lt_of_lt_of_le HL.out.2 HG3.out.size) 3 x).mono ?_
      rintro e w4 ⟨b, rfl, hb, hx⟩
      have HP4 := Lib.hid (HP3.out.below hb); have HG4 := Lib.hid (gb_trans HG3.out (gbOfB hb)); have HX := Lib.hid hx
      clear hb hx HP3 HG3
      go_wp2
      go_ret
      have EE : numberF v i = Rs.ok (.mk 3 x []) j := by
        unfold numberF
        rw [if_pos HER2.out, HR.out]; rfl
      rw [EE]
      exact ⟨_, rfl, ⟨b, rfl, HX.out⟩, HP4.out, HG4.out⟩
    · have HG3 := Lib.hid (gb_trans (HG2.out _) hb)
      clear ho hb HP2 HG2 HI
      go_wp2
      refine ⟨rfl, ?_⟩
      have EE : numberF v i = Rs.err a er := by
        unfold numberF
        rw [if_pos HER2.out, HR.out]; rfl
      rw [EE]
      exact ⟨rfl, HG3.out⟩
  · have q0 : ((er : Int) != 0) = true := by rw [bne_iff_ne]; omega
    have HN0 := Lib.hid h0
    clear h0
    go_wp2_with fail
    have hc := fun o => syFault hA.out.k (HP2.out o) er
    obtain ⟨X, hX⟩ : ∃ X, plc v i = X := ⟨_, rfl⟩
    rw [hX] at hc
    have HC := Lib.hid hc; have HX := Lib.hid hX
    clear hc hX
    refine (HC.out _).mono ?_
    rintro e w3 ⟨rfl, hb⟩
    have HG3 := Lib.hid (gb_trans (HG2.out _) (gbOfB (g := g) hb))
    clear hb HP2 HG2 HC
    go_wp2
    refine ⟨rfl, ?_⟩
    have EE : numberF v i = Rs.err X er := by
      unfold numberF
      rw [if_neg (by rw [HER.out]; exact HN0.out), HX.out, HER.out]
    rw [EE]
    exact ⟨rfl, HG3.out⟩
end Go.Proofs.YtpgiljibicigeaaGreatDoor

/- syntax: otherwise, choice walked (gensyng.py) -/
namespace Go.Proofs.YtpgiljibicigeaaGreatDoor
open Go.RowKit SX

set_option maxRecDepth 100000 in
set_option maxHeartbeats 4000000 in
theorem syOther {v : Ev} {g n : Nat} {K : Kn} (hA : Hid (EvA v)) (hK : Hid (HKs v g K n)) (hI : Hid (IvK v K)) {i : Nat} (hn : v.L.length - i < n) : Cn v g 124 (otherF v K) i := by
  intro w pp l hgl hlw h
  have HL : Hid (g ≤ l ∧ l < w.heap.size) := Lib.hid ⟨hgl, hlw⟩; have HP0 := Lib.hid h; have HG0 : Hid (w.grownBy w (some g)) := Lib.hid (gb_refl _ _); have HJ0 := Lib.hid hn
  clear h hn hgl hlw
  show Calls Tryz.prog 124 #[ptr g] w (Out v g pp w (otherF v K pp i) (VN l))
  go_enter Tryz.func124, Tryz.ntmps124
  cases hS1 : isS v i ⟨#[101, 108, 105, 102]⟩ with
  | true =>
    have HS1 := Lib.hid hS1
    have HJ2 : Hid (i < v.L.length) := Lib.hid (isS_lt hS1)
    clear hS1
    go_wp2_with fail
    refine (sySkipYes hA.out.k HP0.out HS1.out).mono ?_
    rintro e w2 ⟨rfl, hp, hb⟩
    have HP2 := Lib.hid hp; have HG2 := Lib.hid (gb_trans HG0.out hb)
    clear hp hb HP0 HG0 
    obtain ⟨R3, hR3⟩ : ∃ R, K.choice pp (i + 1) = R := ⟨_, rfl⟩
    have hi3 := hI.out.choice pp (i + 1) HP2.out.il
    rw [hR3] at hi3
    have hc3 := hK.out.choice _ (by have := HJ0.out; have := HJ2.out; omega) _ _ l HL.out.1 (Nat.lt_of_lt_of_le HL.out.2 HG2.out.size) HP2.out
    rw [hR3] at hc3
    have HC3 := Lib.hid hc3; have HR3 := Lib.hid hR3
    have HI3 := Lib.hid hi3
    clear hc3 hR3 hi3
    go_wp2_with fail
    refine HC3.out.mono ?_
    intro e w4 ho
    clear HC3
    rcases out_cases ho with ⟨x3, j3, u, rfl, rfl, hv, hp, hb⟩ | ⟨a, er, rfl, rfl, hb⟩
    · have HP4 := Lib.hid hp; have HG4 := Lib.hid (gb_trans HG2.out hb)
      have HJ4 : Hid (i + 1 < j3 ∧ j3 ≤ v.L.length ∧ dpt x3 ≤ 500000) := Lib.hid (by have h : P1 v 0 (i + 1) x3 j3 := HI3.out; have h0 := hA.out.k.len; exact ⟨h.1, h.2.1, by have h1 := h.2.2.1; have h2 := h.2.1; omega⟩)
      obtain ⟨b3, rfl, hx⟩ := hv
      have HX3 := Lib.hid hx
      clear hx
      clear ho hp hb HP2 HG2  HI3
      go_wp2
      go_ret
      have EE : otherF v K pp i = Rs.ok (x3) (j3) := by
              unfold otherF
              rw [if_pos HS1.out]
              rw [HR3.out]; all_goals dsimp only [Rs.bind]
              all_goals rfl
      rw [EE]
      exact ⟨_, rfl, ⟨b3, rfl, HX3.out⟩, HP4.out, HG4.out⟩
    · have HG4 := Lib.hid (gb_trans HG2.out hb)
      clear ho hb HP2 HG2
      go_wp2
      refine ⟨rfl, ?_⟩
      have EE : otherF v K pp i = Rs.err a er := by
              unfold otherF
              rw [if_pos HS1.out]
              rw [HR3.out]; all_goals dsimp only [Rs.bind]
              all_goals rfl
      rw [EE]
      exact ⟨rfl, HG4.out⟩
  | false =>
    have HS1 := Lib.hid hS1
    clear hS1
    go_wp2_with fail
    refine (sySkipNo hA.out.k HP0.out HS1.out).mono ?_
    rintro e w5 ⟨rfl, hp, hb⟩
    have HP5 := Lib.hid hp; have HG5 := Lib.hid (gb_trans HG0.out hb)
    clear hp hb HP0 HG0 
    cases hS6 : isS v i ⟨#[101, 108, 115, 101]⟩ with
    | true =>
      have HS6 := Lib.hid hS6
      have HJ7 : Hid (i < v.L.length) := Lib.hid (isS_lt hS6)
      clear hS6
      go_wp2_with fail
      refine (sySkipYes hA.out.k HP5.out HS6.out).mono ?_
      rintro e w7 ⟨rfl, hp, hb⟩
      have HP7 := Lib.hid hp; have HG7 := Lib.hid (gb_trans HG5.out hb)
      clear hp hb HP5 HG5 
      obtain ⟨R8, hR8⟩ : ∃ R, K.pipe pp (i + 1) = R := ⟨_, rfl⟩
      have hi8 := hI.out.pipe pp (i + 1) HP7.out.il
      rw [hR8] at hi8
      have hc8 := hK.out.pipe _ (by have := HJ0.out; have := HJ7.out; omega) _ _ l HL.out.1 (Nat.lt_of_lt_of_le HL.out.2 HG7.out.size) HP7.out
      rw [hR8] at hc8
      have HC8 := Lib.hid hc8; have HR8 := Lib.hid hR8
      have HI8 := Lib.hid hi8
      clear hc8 hR8 hi8
      go_wp2_with fail
      refine HC8.out.mono ?_
      intro e w9 ho
      clear HC8
      rcases out_cases ho with ⟨x8, j8, u, rfl, rfl, hv, hp, hb⟩ | ⟨a, er, rfl, rfl, hb⟩
      · have HP9 := Lib.hid hp; have HG9 := Lib.hid (gb_trans HG7.out hb)
        have HJ9 : Hid (i + 1 < j8 ∧ j8 ≤ v.L.length ∧ dpt x8 ≤ 500000) := Lib.hid (by have h : P1 v 0 (i + 1) x8 j8 := HI8.out; have h0 := hA.out.k.len; exact ⟨h.1, h.2.1, by have h1 := h.2.2.1; have h2 := h.2.1; omega⟩)
        obtain ⟨b8, rfl, hx⟩ := hv
        have HX8 := Lib.hid hx
        clear hx
        clear ho hp hb HP7 HG7  HI8
        obtain ⟨R10, hR10⟩ : ∃ R, ned v ⟨#[101, 110, 100]⟩ j8 = R := ⟨_, rfl⟩
        have hi10 := ned_iv hA.out.q HP9.out.il (s := ⟨#[101, 110, 100]⟩)
        rw [hR10] at hi10
        have hc10 := syNeed hA.out.k HP9.out ⟨#[101, 110, 100]⟩
        rw [hR10] at hc10
        have HC10 := Lib.hid hc10; have HR10 := Lib.hid hR10
        have HI10 := Lib.hid hi10
        clear hc10 hR10 hi10
        go_wp2_with fail
        refine HC10.out.mono ?_
        intro e w11 ho
        clear HC10
        rcases out_cases ho with ⟨x10, j10, u, rfl, rfl, hv, hp, hb⟩ | ⟨a, er, rfl, rfl, hb⟩
        · have HP11 := Lib.hid hp; have HG11 := Lib.hid (gb_trans HG9.out hb)
          have HJ11 : Hid (j8 < j10 ∧ j10 ≤ v.L.length) := Lib.hid (by have h : T1 v j8 x10 j10 := HI10.out; have h0 := hA.out.k.len; exact ⟨by have := h.1; omega, h.2⟩)
          have HX12 := Lib.hid (HX8.out.keep hb HL.out.1)
          obtain rfl := hv
          clear ho hp hb HP9 HG9 HX8 HI10
          go_wp2
          go_ret
          have EE : otherF v K pp i = Rs.ok (x8) (j10) := by
                      unfold otherF
                      rw [if_neg (by rw [HS1.out]; decide)]
                      rw [if_pos HS6.out]
                      rw [HR8.out]; all_goals dsimp only [Rs.bind]
                      rw [HR10.out]; all_goals dsimp only [Rs.bind]
                      all_goals rfl
          rw [EE]
          exact ⟨_, rfl, ⟨b8, rfl, HX12.out⟩, HP11.out, HG11.out⟩
        · have HG11 := Lib.hid (gb_trans HG9.out hb)
          clear ho hb HP9 HG9
          go_wp2
          refine ⟨rfl, ?_⟩
          have EE : otherF v K pp i = Rs.err a er := by
                      unfold otherF
                      rw [if_neg (by rw [HS1.out]; decide)]
                      rw [if_pos HS6.out]
                      rw [HR8.out]; all_goals dsimp only [Rs.bind]
                      rw [HR10.out]; all_goals dsimp only [Rs.bind]
                      all_goals rfl
          rw [EE]
          exact ⟨rfl, HG11.out⟩
      · have HG9 := Lib.hid (gb_trans HG7.out hb)
        clear ho hb HP7 HG7
        go_wp2
        refine ⟨rfl, ?_⟩
        have EE : otherF v K pp i = Rs.err a er := by
                  unfold otherF
                  rw [if_neg (by rw [HS1.out]; decide)]
                  rw [if_pos HS6.out]
                  rw [HR8.out]; all_goals dsimp only [Rs.bind]
                  all_goals rfl
        rw [EE]
        exact ⟨rfl, HG9.out⟩
    | false =>
      have HS6 := Lib.hid hS6
      clear hS6
      go_wp2_with fail
      refine (sySkipNo hA.out.k HP5.out HS6.out).mono ?_
      rintro e w13 ⟨rfl, hp, hb⟩
      have HP13 := Lib.hid hp; have HG13 := Lib.hid (gb_trans HG5.out hb)
      clear hp hb HP5 HG5 
      obtain ⟨R14, hR14⟩ : ∃ R, ned v ⟨#[101, 110, 100]⟩ i = R := ⟨_, rfl⟩
      have hi14 := ned_iv hA.out.q HP13.out.il (s := ⟨#[101, 110, 100]⟩)
      rw [hR14] at hi14
      have hc14 := syNeed hA.out.k HP13.out ⟨#[101, 110, 100]⟩
      rw [hR14] at hc14
      have HC14 := Lib.hid hc14; have HR14 := Lib.hid hR14
      have HI14 := Lib.hid hi14
      clear hc14 hR14 hi14
      go_wp2_with fail
      refine HC14.out.mono ?_
      intro e w15 ho
      clear HC14
      rcases out_cases ho with ⟨x14, j14, u, rfl, rfl, hv, hp, hb⟩ | ⟨a, er, rfl, rfl, hb⟩
      · have HP15 := Lib.hid hp; have HG15 := Lib.hid (gb_trans HG13.out hb)
        have HJ15 : Hid (i < j14 ∧ j14 ≤ v.L.length) := Lib.hid (by have h : T1 v i x14 j14 := HI14.out; have h0 := hA.out.k.len; exact ⟨by have := h.1; omega, h.2⟩)
        obtain rfl := hv
        clear ho hp hb HP13 HG13  HI14
        have hd16 : dpt (non) ≤ 1 := by decide
        have HJ16 := Lib.hid hd16
        clear hd16
        go_wp2_with fail
        refine (syNone (Nat.lt_of_lt_of_le HL.out.2 HG15.out.size)).mono ?_
        rintro e w17 ⟨b16, rfl, hb, hx⟩
        have HP17 := Lib.hid (HP15.out.below hb); have HG17 := Lib.hid (gb_trans HG15.out (gbOfB hb)); have HX16 := Lib.hid hx
        clear hb hx HP15 HG15 
        go_wp2
        go_ret
        have EE : otherF v K pp i = Rs.ok (non) (j14) := by
                  unfold otherF
                  rw [if_neg (by rw [HS1.out]; decide)]
                  rw [if_neg (by rw [HS6.out]; decide)]
                  rw [HR14.out]; all_goals dsimp only [Rs.bind]
                  all_goals rfl
        rw [EE]
        exact ⟨_, rfl, ⟨b16, rfl, HX16.out⟩, HP17.out, HG17.out⟩
      · have HG15 := Lib.hid (gb_trans HG13.out hb)
        clear ho hb HP13 HG13
        go_wp2
        refine ⟨rfl, ?_⟩
        have EE : otherF v K pp i = Rs.err a er := by
                  unfold otherF
                  rw [if_neg (by rw [HS1.out]; decide)]
                  rw [if_neg (by rw [HS6.out]; decide)]
                  rw [HR14.out]; all_goals dsimp only [Rs.bind]
                  all_goals rfl
        rw [EE]
        exact ⟨rfl, HG15.out⟩
set_option maxRecDepth 100000 in
set_option maxHeartbeats 4000000 in
theorem syChoice {v : Ev} {g n : Nat} {K : Kn} (hA : Hid (EvA v)) (hK : Hid (HKs v g K n)) (hI : Hid (IvK v K)) {i : Nat} (hn : v.L.length - i < n) : Cn v g 113 (choiceF v K) i := by
  intro w pp l hgl hlw h
  have HL : Hid (g ≤ l ∧ l < w.heap.size) := Lib.hid ⟨hgl, hlw⟩; have HP0 := Lib.hid h; have HG0 : Hid (w.grownBy w (some g)) := Lib.hid (gb_refl _ _); have HJ0 := Lib.hid hn
  clear h hn hgl hlw
  show Calls Tryz.prog 113 #[ptr g] w (Out v g pp w (choiceF v K pp i) (VN l))
  go_enter Tryz.func113, Tryz.ntmps113
  obtain ⟨R18, hR18⟩ : ∃ R, K.pipe pp i = R := ⟨_, rfl⟩
  have hi18 := hI.out.pipe pp i HP0.out.il
  rw [hR18] at hi18
  have hc18 := hK.out.pipe _ (by have := HJ0.out; omega) _ _ l HL.out.1 (Nat.lt_of_lt_of_le HL.out.2 HG0.out.size) HP0.out
  rw [hR18] at hc18
  have HC18 := Lib.hid hc18; have HR18 := Lib.hid hR18
  have HI18 := Lib.hid hi18
  clear hc18 hR18 hi18
  go_wp2_with fail
  refine HC18.out.mono ?_
  intro e w19 ho
  clear HC18
  rcases out_cases ho with ⟨x18, j18, u, rfl, rfl, hv, hp, hb⟩ | ⟨a, er, rfl, rfl, hb⟩
  · have HP19 := Lib.hid hp; have HG19 := Lib.hid (gb_trans HG0.out hb)
    have HJ19 : Hid (i < j18 ∧ j18 ≤ v.L.length ∧ dpt x18 ≤ 500000) := Lib.hid (by have h : P1 v 0 i x18 j18 := HI18.out; have h0 := hA.out.k.len; exact ⟨h.1, h.2.1, by have h1 := h.2.2.1; have h2 := h.2.1; omega⟩)
    obtain ⟨b18, rfl, hx⟩ := hv
    have HX18 := Lib.hid hx
    clear hx
    clear ho hp hb HP0 HG0  HI18
    obtain ⟨R20, hR20⟩ : ∃ R, ned v ⟨#[116, 104, 101, 110]⟩ j18 = R := ⟨_, rfl⟩
    have hi20 := ned_iv hA.out.q HP19.out.il (s := ⟨#[116, 104, 101, 110]⟩)
    rw [hR20] at hi20
    have hc20 := syNeed hA.out.k HP19.out ⟨#[116, 104, 101, 110]⟩
    rw [hR20] at hc20
    have HC20 := Lib.hid hc20; have HR20 := Lib.hid hR20
    have HI20 := Lib.hid hi20
    clear hc20 hR20 hi20
    go_wp2_with fail
    refine HC20.out.mono ?_
    intro e w21 ho
    clear HC20
    rcases out_cases ho with ⟨x20, j20, u, rfl, rfl, hv, hp, hb⟩ | ⟨a, er, rfl, rfl, hb⟩
    · have HP21 := Lib.hid hp; have HG21 := Lib.hid (gb_trans HG19.out hb)
      have HJ21 : Hid (j18 < j20 ∧ j20 ≤ v.L.length) := Lib.hid (by have h : T1 v j18 x20 j20 := HI20.out; have h0 := hA.out.k.len; exact ⟨by have := h.1; omega, h.2⟩)
      have HX22 := Lib.hid (HX18.out.keep hb HL.out.1)
      obtain rfl := hv
      clear ho hp hb HP19 HG19 HX18 HI20
      obtain ⟨R23, hR23⟩ : ∃ R, K.pipe pp j20 = R := ⟨_, rfl⟩
      have hi23 := hI.out.pipe pp j20 HP21.out.il
      rw [hR23] at hi23
      have hc23 := hK.out.pipe _ (by have := HJ0.out; have := HJ19.out; have := HJ21.out; omega) _ _ l HL.out.1 (Nat.lt_of_lt_of_le HL.out.2 HG21.out.size) HP21.out
      rw [hR23] at hc23
      have HC23 := Lib.hid hc23; have HR23 := Lib.hid hR23
      have HI23 := Lib.hid hi23
      clear hc23 hR23 hi23
      go_wp2_with fail
      refine HC23.out.mono ?_
      intro e w24 ho
      clear HC23
      rcases out_cases ho with ⟨x23, j23, u, rfl, rfl, hv, hp, hb⟩ | ⟨a, er, rfl, rfl, hb⟩
      · have HP24 := Lib.hid hp; have HG24 := Lib.hid (gb_trans HG21.out hb)
        have HJ24 : Hid (j20 < j23 ∧ j23 ≤ v.L.length ∧ dpt x23 ≤ 500000) := Lib.hid (by have h : P1 v 0 j20 x23 j23 := HI23.out; have h0 := hA.out.k.len; exact ⟨h.1, h.2.1, by have h1 := h.2.2.1; have h2 := h.2.1; omega⟩)
        have HX25 := Lib.hid (HX22.out.keep hb HL.out.1)
        obtain ⟨b23, rfl, hx⟩ := hv
        have HX23 := Lib.hid hx
        clear hx
        clear ho hp hb HP21 HG21 HX22 HI23
        obtain ⟨R26, hR26⟩ : ∃ R, otherF v K pp j23 = R := ⟨_, rfl⟩
        have hi26 := otherF_iv hA.out.q hI.out pp HP24.out.il
        rw [hR26] at hi26
        have hc26 := syOther hA hK hI (by have := HJ0.out; have := HJ19.out; have := HJ21.out; have := HJ24.out; omega) _ _ l HL.out.1 (Nat.lt_of_lt_of_le HL.out.2 HG24.out.size) HP24.out
        rw [hR26] at hc26
        have HC26 := Lib.hid hc26; have HR26 := Lib.hid hR26
        have HI26 := Lib.hid hi26
        clear hc26 hR26 hi26
        go_wp2_with fail
        refine HC26.out.mono ?_
        intro e w27 ho
        clear HC26
        rcases out_cases ho with ⟨x26, j26, u, rfl, rfl, hv, hp, hb⟩ | ⟨a, er, rfl, rfl, hb⟩
        · have HP27 := Lib.hid hp; have HG27 := Lib.hid (gb_trans HG24.out hb)
          have HJ27 : Hid (j23 < j26 ∧ j26 ≤ v.L.length ∧ dpt x26 ≤ 500000) := Lib.hid (by have h : P1 v 0 j23 x26 j26 := HI26.out; have h0 := hA.out.k.len; exact ⟨h.1, h.2.1, by have h1 := h.2.2.1; have h2 := h.2.1; omega⟩)
          have HX28 := Lib.hid (HX25.out.keep hb HL.out.1)
          have HX29 := Lib.hid (HX23.out.keep hb HL.out.1)
          obtain ⟨b26, rfl, hx⟩ := hv
          have HX26 := Lib.hid hx
          clear hx
          clear ho hp hb HP24 HG24 HX25 HX23 HI26
          have hd30 : dpt (Nd.mk 18 SX.nil [x18, x23, x26]) ≤ 500001 := by have h0 := hA.out.k.len; simp only [dpt, dps]; have := HJ19.out; have := HJ24.out; have := HJ27.out; omega
          have HJ30 := Lib.hid hd30
          clear hd30
          go_wp2_with fail
          refine (syNew3 (Nat.lt_of_lt_of_le HL.out.2 HG27.out.size) HX28.out HX29.out HX26.out (by have := HJ19.out; omega) (by have := HJ24.out; omega) (by have := HJ27.out; omega) 18 SX.nil).mono ?_
          rintro e w31 ⟨b30, rfl, hb, hx⟩
          have HP31 := Lib.hid (HP27.out.below hb); have HG31 := Lib.hid (gb_trans HG27.out (gbOfB hb)); have HX30 := Lib.hid hx
          have HX32 := Lib.hid (HX28.out.keep (gbOfB (g := g) hb) HL.out.1)
          have HX33 := Lib.hid (HX29.out.keep (gbOfB (g := g) hb) HL.out.1)
          have HX34 := Lib.hid (HX26.out.keep (gbOfB (g := g) hb) HL.out.1)
          clear hb hx HP27 HG27 HX28 HX29 HX26
          go_wp2
          go_ret
          have EE : choiceF v K pp i = Rs.ok (Nd.mk 18 SX.nil [x18, x23, x26]) (j26) := by
                      unfold choiceF
                      rw [HR18.out]; all_goals dsimp only [Rs.bind]
                      rw [HR20.out]; all_goals dsimp only [Rs.bind]
                      rw [HR23.out]; all_goals dsimp only [Rs.bind]
                      rw [HR26.out]; all_goals dsimp only [Rs.bind]
                      all_goals rfl
          rw [EE]
          exact ⟨_, rfl, ⟨b30, rfl, HX30.out⟩, HP31.out, HG31.out⟩
        · have HG27 := Lib.hid (gb_trans HG24.out hb)
          clear ho hb HP24 HG24
          go_wp2
          refine ⟨rfl, ?_⟩
          have EE : choiceF v K pp i = Rs.err a er := by
                      unfold choiceF
                      rw [HR18.out]; all_goals dsimp only [Rs.bind]
                      rw [HR20.out]; all_goals dsimp only [Rs.bind]
                      rw [HR23.out]; all_goals dsimp only [Rs.bind]
                      rw [HR26.out]; all_goals dsimp only [Rs.bind]
                      all_goals rfl
          rw [EE]
          exact ⟨rfl, HG27.out⟩
      · have HG24 := Lib.hid (gb_trans HG21.out hb)
        clear ho hb HP21 HG21
        go_wp2
        refine ⟨rfl, ?_⟩
        have EE : choiceF v K pp i = Rs.err a er := by
                  unfold choiceF
                  rw [HR18.out]; all_goals dsimp only [Rs.bind]
                  rw [HR20.out]; all_goals dsimp only [Rs.bind]
                  rw [HR23.out]; all_goals dsimp only [Rs.bind]
                  all_goals rfl
        rw [EE]
        exact ⟨rfl, HG24.out⟩
    · have HG21 := Lib.hid (gb_trans HG19.out hb)
      clear ho hb HP19 HG19
      go_wp2
      refine ⟨rfl, ?_⟩
      have EE : choiceF v K pp i = Rs.err a er := by
              unfold choiceF
              rw [HR18.out]; all_goals dsimp only [Rs.bind]
              rw [HR20.out]; all_goals dsimp only [Rs.bind]
              all_goals rfl
      rw [EE]
      exact ⟨rfl, HG21.out⟩
  · have HG19 := Lib.hid (gb_trans HG0.out hb)
    clear ho hb HP0 HG0
    go_wp2
    refine ⟨rfl, ?_⟩
    have EE : choiceF v K pp i = Rs.err a er := by
          unfold choiceF
          rw [HR18.out]; all_goals dsimp only [Rs.bind]
          all_goals rfl
    rw [EE]
    exact ⟨rfl, HG19.out⟩
end Go.Proofs.YtpgiljibicigeaaGreatDoor
