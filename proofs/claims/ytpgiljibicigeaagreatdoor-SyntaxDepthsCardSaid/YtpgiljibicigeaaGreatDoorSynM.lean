/- syntax: keys, entries, signed terms walked (gensynl.py) -/
import Derived.Test.YtpgiljibicigeaaGreatDoorSynL
set_option linter.unusedVariables false
set_option linter.unusedSimpArgs false
namespace Go.Proofs.YtpgiljibicigeaaGreatDoor
open Go.RowKit SX

set_option maxRecDepth 100000 in
set_option maxHeartbeats 4000000 in
theorem syKey {v : Ev} {g n : Nat} {K : Kn} (hA : Hid (EvA v)) (hK : Hid (HKs v g K n)) (hI : Hid (IvK v K)) {i : Nat} (hn : v.L.length - i < n + 1) : Cn v g 127 (keyF v K) i := by
  intro w pp l hgl hlw h
  have HL : Hid (g ≤ l ∧ l < w.heap.size) := Lib.hid ⟨hgl, hlw⟩; have HP0 := Lib.hid h; have HG0 : Hid (w.grownBy w (some g)) := Lib.hid (gb_refl _ _); have HJ0 := Lib.hid hn
  clear h hn hgl hlw
  show Calls Tryz.prog 127 #[ptr g] w (Out v g pp w (keyF v K pp i) (VN l))
  go_enter Tryz.func127, Tryz.ntmps127
  by_cases hK1 : (tkn v i).1 = 7
  · have HS1 := Lib.hid hK1
    have q1 : (((tkn v i).1 : Int) == 7) = true := by rw [hK1]; rfl
    have qn1 : (((tkn v i).1 : Int) != 7) = false := by rw [hK1]; rfl
    have HJ2 : Hid (i < v.L.length) := Lib.hid (tkn_lt hK1 (by decide))
    clear hK1
    have ft := fieldTok0
    go_wp2_with fail
    refine (syNext hA.out.k HP0.out).mono ?_
    rintro e w3 ⟨rfl, hb⟩
    have HP3 := Lib.hid (HP0.out.below hb); have HG3 := Lib.hid (gb_trans HG0.out (gbOfB hb))
    unfold nxV
    clear hb HP0 HG0 
    obtain ⟨R4, hR4⟩ : ∃ R, textF v K pp SX.nil i = R := ⟨_, rfl⟩
    have hi4 := textF_iv hA.out.q hI.out pp SX.nil HP3.out.il
    rw [hR4] at hi4
    have hc4 := syText hA hK hI SX.nil (by have := HJ0.out; have := HJ2.out; omega) w3 pp l HL.out.1 (Nat.lt_of_lt_of_le HL.out.2 HG3.out.size) HP3.out
    rw [hR4] at hc4
    have HC4 := Lib.hid hc4; have HR4 := Lib.hid hR4
    have HI4 := Lib.hid hi4
    clear hc4 hR4 hi4
    go_wp2_with fail
    refine HC4.out.mono ?_
    intro e w5 ho
    clear HC4
    rcases out_cases ho with ⟨x4, j4, u, rfl, rfl, hv, hp, hb⟩ | ⟨a, er, rfl, rfl, hb⟩
    · have HP5 := Lib.hid hp; have HG5 := Lib.hid (gb_trans HG3.out hb)
      have HJ5 : Hid (i < j4 ∧ j4 ≤ v.L.length ∧ dpt x4 ≤ 500000) := Lib.hid (by have h : P4 v i x4 j4 := HI4.out; have h0 := hA.out.k.len; exact ⟨h.1, h.2.1, by have h1 := h.2.2.1; have h2 := h.2.1; omega⟩)
      obtain ⟨b4, rfl, hx⟩ := hv
      have HX4 := Lib.hid hx
      clear hx
      clear ho hp hb HP3 HG3  HI4
      go_wp2
      go_ret
      have EE : keyF v K pp i = Rs.ok (x4) (j4) := by
              unfold keyF
              rw [if_pos HS1.out]
              rw [HR4.out]; all_goals dsimp only [Rs.bind]
              all_goals rfl
      rw [EE]
      exact ⟨_, rfl, ⟨b4, rfl, HX4.out⟩, HP5.out, HG5.out⟩
    · have HG5 := Lib.hid (gb_trans HG3.out hb)
      clear ho hb HP3 HG3
      go_wp2
      refine ⟨rfl, ?_⟩
      have EE : keyF v K pp i = Rs.err a er := by
              unfold keyF
              rw [if_pos HS1.out]
              rw [HR4.out]; all_goals dsimp only [Rs.bind]
              all_goals rfl
      rw [EE]
      exact ⟨rfl, HG5.out⟩
  · have HS1 := Lib.hid hK1
    have q1 : (((tkn v i).1 : Int) == 7) = false := by rw [beq_eq_false_iff_ne]; omega
    have qn1 : (((tkn v i).1 : Int) != 7) = true := by rw [bne_iff_ne]; omega
    clear hK1
    have ft := fieldTok0
    go_wp2_with fail
    refine (syNext hA.out.k HP0.out).mono ?_
    rintro e w7 ⟨rfl, hb⟩
    have HP7 := Lib.hid (HP0.out.below hb); have HG7 := Lib.hid (gb_trans HG0.out (gbOfB hb))
    unfold nxV
    clear hb HP0 HG0 
    obtain ⟨R8, hR8⟩ : ∃ R, tak v 2 i = R := ⟨_, rfl⟩
    have hi8 := tak_iv hA.out.q HP7.out.il (k := 2) (by decide)
    rw [hR8] at hi8
    have hc8 := syTake hA.out.k HP7.out 2 (by decide)
    rw [hR8] at hc8
    have HC8 := Lib.hid hc8; have HR8 := Lib.hid hR8
    have HI8 := Lib.hid hi8
    clear hc8 hR8 hi8
    go_wp2_with fail
    refine HC8.out.mono ?_
    intro e w9 ho
    clear HC8
    rcases out_cases ho with ⟨x8, j8, u, rfl, rfl, hv, hp, hb⟩ | ⟨a, er, rfl, rfl, hb⟩
    · have HP9 := Lib.hid hp; have HG9 := Lib.hid (gb_trans HG7.out hb)
      have HJ9 : Hid (i < j8 ∧ j8 ≤ v.L.length) := Lib.hid (by have h : T1 v i x8 j8 := HI8.out; have h0 := hA.out.k.len; exact ⟨by have := h.1; omega, h.2⟩)
      obtain rfl := hv
      clear ho hp hb HP7 HG7  HI8
      have hd10 : dpt (pln x8) ≤ 2 := by simp [pln, dpt, dps]
      have HJ10 := Lib.hid hd10
      clear hd10
      go_wp2_with fail
      refine (syPlain (Nat.lt_of_lt_of_le HL.out.2 HG9.out.size) x8).mono ?_
      rintro e w11 ⟨b10, rfl, hb, hx⟩
      have HP11 := Lib.hid (HP9.out.below hb); have HG11 := Lib.hid (gb_trans HG9.out (gbOfB hb)); have HX10 := Lib.hid hx
      clear hb hx HP9 HG9 
      go_wp2
      go_ret
      have EE : keyF v K pp i = Rs.ok (pln x8) (j8) := by
              unfold keyF
              rw [if_neg HS1.out]
              rw [HR8.out]; all_goals dsimp only [Rs.bind]
              all_goals rfl
      rw [EE]
      exact ⟨_, rfl, ⟨b10, rfl, HX10.out⟩, HP11.out, HG11.out⟩
    · have HG9 := Lib.hid (gb_trans HG7.out hb)
      clear ho hb HP7 HG7
      go_wp2
      refine ⟨rfl, ?_⟩
      have EE : keyF v K pp i = Rs.err a er := by
              unfold keyF
              rw [if_neg HS1.out]
              rw [HR8.out]; all_goals dsimp only [Rs.bind]
              all_goals rfl
      rw [EE]
      exact ⟨rfl, HG9.out⟩
set_option maxRecDepth 100000 in
set_option maxHeartbeats 4000000 in
theorem syEntry {v : Ev} {g n : Nat} {K : Kn} (hA : Hid (EvA v)) (hK : Hid (HKs v g K n)) (hI : Hid (IvK v K)) {i : Nat} (hn : v.L.length - i < n + 1) : Cn v g 118 (entryF v K) i := by
  intro w pp l hgl hlw h
  have HL : Hid (g ≤ l ∧ l < w.heap.size) := Lib.hid ⟨hgl, hlw⟩; have HP0 := Lib.hid h; have HG0 : Hid (w.grownBy w (some g)) := Lib.hid (gb_refl _ _); have HJ0 := Lib.hid hn
  clear h hn hgl hlw
  show Calls Tryz.prog 118 #[ptr g] w (Out v g pp w (entryF v K pp i) (VN l))
  go_enter Tryz.func118, Tryz.ntmps118
  by_cases hK12 : (tkn v i).1 = 4
  · have HS12 := Lib.hid hK12
    have q12 : (((tkn v i).1 : Int) == 4) = true := by rw [hK12]; rfl
    have qn12 : (((tkn v i).1 : Int) != 4) = false := by rw [hK12]; rfl
    have HJ13 : Hid (i < v.L.length) := Lib.hid (tkn_lt hK12 (by decide))
    clear hK12
    have ft := fieldTok0
    go_wp2_with fail
    refine (syNext hA.out.k HP0.out).mono ?_
    rintro e w14 ⟨rfl, hb⟩
    have HP14 := Lib.hid (HP0.out.below hb); have HG14 := Lib.hid (gb_trans HG0.out (gbOfB hb))
    unfold nxV
    clear hb HP0 HG0 
    obtain ⟨R15, hR15⟩ : ∃ R, tak v 4 i = R := ⟨_, rfl⟩
    have hi15 := tak_iv hA.out.q HP14.out.il (k := 4) (by decide)
    rw [hR15] at hi15
    have hc15 := syTake hA.out.k HP14.out 4 (by decide)
    rw [hR15] at hc15
    have HC15 := Lib.hid hc15; have HR15 := Lib.hid hR15
    have HI15 := Lib.hid hi15
    clear hc15 hR15 hi15
    go_wp2_with fail
    refine HC15.out.mono ?_
    intro e w16 ho
    clear HC15
    rcases out_cases ho with ⟨x15, j15, u, rfl, rfl, hv, hp, hb⟩ | ⟨a, er, rfl, rfl, hb⟩
    · have HP16 := Lib.hid hp; have HG16 := Lib.hid (gb_trans HG14.out hb)
      have HJ16 : Hid (i < j15 ∧ j15 ≤ v.L.length) := Lib.hid (by have h : T1 v i x15 j15 := HI15.out; have h0 := hA.out.k.len; exact ⟨by have := h.1; omega, h.2⟩)
      obtain rfl := hv
      clear ho hp hb HP14 HG14  HI15
      have hd17 : dpt (pln x15) ≤ 2 := by simp [pln, dpt, dps]
      have HJ17 := Lib.hid hd17
      clear hd17
      go_wp2_with fail
      refine (syPlain (Nat.lt_of_lt_of_le HL.out.2 HG16.out.size) x15).mono ?_
      rintro e w18 ⟨b17, rfl, hb, hx⟩
      have HP18 := Lib.hid (HP16.out.below hb); have HG18 := Lib.hid (gb_trans HG16.out (gbOfB hb)); have HX17 := Lib.hid hx
      clear hb hx HP16 HG16 
      have hd19 : dpt (Nd.mk 24 x15 []) ≤ 1 := by have h0 := hA.out.k.len; simp only [dpt, dps]; omega
      have HJ19 := Lib.hid hd19
      clear hd19
      go_wp2_with fail
      refine (syNew0 (Nat.lt_of_lt_of_le HL.out.2 HG18.out.size) 24 x15).mono ?_
      rintro e w20 ⟨b19, rfl, hb, hx⟩
      have HP20 := Lib.hid (HP18.out.below hb); have HG20 := Lib.hid (gb_trans HG18.out (gbOfB hb)); have HX19 := Lib.hid hx
      have HX21 := Lib.hid (HX17.out.keep (gbOfB (g := g) hb) HL.out.1)
      clear hb hx HP18 HG18 HX17
      have hd22 : dpt (Nd.mk 9 SX.nil [pln x15, Nd.mk 24 x15 []]) ≤ 3 := by have h0 := hA.out.k.len; simp only [dpt, dps]; have := HJ17.out; have := HJ19.out; omega
      have HJ22 := Lib.hid hd22
      clear hd22
      go_wp2_with fail
      refine (syNew2 (Nat.lt_of_lt_of_le HL.out.2 HG20.out.size) HX21.out HX19.out (by have := HJ17.out; omega) (by have := HJ19.out; omega) 9 SX.nil).mono ?_
      rintro e w23 ⟨b22, rfl, hb, hx⟩
      have HP23 := Lib.hid (HP20.out.below hb); have HG23 := Lib.hid (gb_trans HG20.out (gbOfB hb)); have HX22 := Lib.hid hx
      have HX24 := Lib.hid (HX21.out.keep (gbOfB (g := g) hb) HL.out.1)
      have HX25 := Lib.hid (HX19.out.keep (gbOfB (g := g) hb) HL.out.1)
      clear hb hx HP20 HG20 HX21 HX19
      go_wp2
      go_ret
      have EE : entryF v K pp i = Rs.ok (Nd.mk 9 SX.nil [pln x15, Nd.mk 24 x15 []]) (j15) := by
              unfold entryF
              rw [if_pos HS12.out]
              rw [HR15.out]; all_goals dsimp only [Rs.bind]
              all_goals rfl
      rw [EE]
      exact ⟨_, rfl, ⟨b22, rfl, HX22.out⟩, HP23.out, HG23.out⟩
    · have HG16 := Lib.hid (gb_trans HG14.out hb)
      clear ho hb HP14 HG14
      go_wp2
      refine ⟨rfl, ?_⟩
      have EE : entryF v K pp i = Rs.err a er := by
              unfold entryF
              rw [if_pos HS12.out]
              rw [HR15.out]; all_goals dsimp only [Rs.bind]
              all_goals rfl
      rw [EE]
      exact ⟨rfl, HG16.out⟩
  · have HS12 := Lib.hid hK12
    have q12 : (((tkn v i).1 : Int) == 4) = false := by rw [beq_eq_false_iff_ne]; omega
    have qn12 : (((tkn v i).1 : Int) != 4) = true := by rw [bne_iff_ne]; omega
    clear hK12
    have ft := fieldTok0
    go_wp2_with fail
    refine (syNext hA.out.k HP0.out).mono ?_
    rintro e w27 ⟨rfl, hb⟩
    have HP27 := Lib.hid (HP0.out.below hb); have HG27 := Lib.hid (gb_trans HG0.out (gbOfB hb))
    unfold nxV
    clear hb HP0 HG0 
    cases hS28 : isS v i ⟨#[40]⟩ with
    | true =>
      have HS28 := Lib.hid hS28
      have HJ29 : Hid (i < v.L.length) := Lib.hid (isS_lt hS28)
      clear hS28
      go_wp2_with fail
      refine (sySkipYes hA.out.k HP27.out HS28.out).mono ?_
      rintro e w29 ⟨rfl, hp, hb⟩
      have HP29 := Lib.hid hp; have HG29 := Lib.hid (gb_trans HG27.out hb)
      clear hp hb HP27 HG27 
      obtain ⟨R30, hR30⟩ : ∃ R, K.pipe pp (i + 1) = R := ⟨_, rfl⟩
      have hi30 := hI.out.pipe pp (i + 1) HP29.out.il
      rw [hR30] at hi30
      have hc30 := hK.out.pipe _ (by have := HJ0.out; have := HJ29.out; omega) _ _ l HL.out.1 (Nat.lt_of_lt_of_le HL.out.2 HG29.out.size) HP29.out
      rw [hR30] at hc30
      have HC30 := Lib.hid hc30; have HR30 := Lib.hid hR30
      have HI30 := Lib.hid hi30
      clear hc30 hR30 hi30
      go_wp2_with fail
      refine HC30.out.mono ?_
      intro e w31 ho
      clear HC30
      rcases out_cases ho with ⟨x30, j30, u, rfl, rfl, hv, hp, hb⟩ | ⟨a, er, rfl, rfl, hb⟩
      · have HP31 := Lib.hid hp; have HG31 := Lib.hid (gb_trans HG29.out hb)
        have HJ31 : Hid (i + 1 < j30 ∧ j30 ≤ v.L.length ∧ dpt x30 ≤ 500000) := Lib.hid (by have h : P1 v 0 (i + 1) x30 j30 := HI30.out; have h0 := hA.out.k.len; exact ⟨h.1, h.2.1, by have h1 := h.2.2.1; have h2 := h.2.1; omega⟩)
        obtain ⟨b30, rfl, hx⟩ := hv
        have HX30 := Lib.hid hx
        clear hx
        clear ho hp hb HP29 HG29  HI30
        obtain ⟨R32, hR32⟩ : ∃ R, ned v ⟨#[41]⟩ j30 = R := ⟨_, rfl⟩
        have hi32 := ned_iv hA.out.q HP31.out.il (s := ⟨#[41]⟩)
        rw [hR32] at hi32
        have hc32 := syNeed hA.out.k HP31.out ⟨#[41]⟩
        rw [hR32] at hc32
        have HC32 := Lib.hid hc32; have HR32 := Lib.hid hR32
        have HI32 := Lib.hid hi32
        clear hc32 hR32 hi32
        go_wp2_with fail
        refine HC32.out.mono ?_
        intro e w33 ho
        clear HC32
        rcases out_cases ho with ⟨x32, j32, u, rfl, rfl, hv, hp, hb⟩ | ⟨a, er, rfl, rfl, hb⟩
        · have HP33 := Lib.hid hp; have HG33 := Lib.hid (gb_trans HG31.out hb)
          have HJ33 : Hid (j30 < j32 ∧ j32 ≤ v.L.length) := Lib.hid (by have h : T1 v j30 x32 j32 := HI32.out; have h0 := hA.out.k.len; exact ⟨by have := h.1; omega, h.2⟩)
          have HX34 := Lib.hid (HX30.out.keep hb HL.out.1)
          obtain rfl := hv
          clear ho hp hb HP31 HG31 HX30 HI32
          obtain ⟨R35, hR35⟩ : ∃ R, ned v ⟨#[58]⟩ j32 = R := ⟨_, rfl⟩
          have hi35 := ned_iv hA.out.q HP33.out.il (s := ⟨#[58]⟩)
          rw [hR35] at hi35
          have hc35 := syNeed hA.out.k HP33.out ⟨#[58]⟩
          rw [hR35] at hc35
          have HC35 := Lib.hid hc35; have HR35 := Lib.hid hR35
          have HI35 := Lib.hid hi35
          clear hc35 hR35 hi35
          go_wp2_with fail
          refine HC35.out.mono ?_
          intro e w36 ho
          clear HC35
          rcases out_cases ho with ⟨x35, j35, u, rfl, rfl, hv, hp, hb⟩ | ⟨a, er, rfl, rfl, hb⟩
          · have HP36 := Lib.hid hp; have HG36 := Lib.hid (gb_trans HG33.out hb)
            have HJ36 : Hid (j32 < j35 ∧ j35 ≤ v.L.length) := Lib.hid (by have h : T1 v j32 x35 j35 := HI35.out; have h0 := hA.out.k.len; exact ⟨by have := h.1; omega, h.2⟩)
            have HX37 := Lib.hid (HX34.out.keep hb HL.out.1)
            obtain rfl := hv
            clear ho hp hb HP33 HG33 HX34 HI35
            obtain ⟨R38, hR38⟩ : ∃ R, K.climb 1 pp j35 = R := ⟨_, rfl⟩
            have hi38 := hI.out.climb 1 pp j35 HP36.out.il
            rw [hR38] at hi38
            have hc38 := hK.out.climb 1 _ (by have := HJ0.out; have := HJ29.out; have := HJ31.out; have := HJ33.out; have := HJ36.out; omega) _ _ l HL.out.1 (Nat.lt_of_lt_of_le HL.out.2 HG36.out.size) HP36.out
            rw [hR38] at hc38
            have HC38 := Lib.hid hc38; have HR38 := Lib.hid hR38
            have HI38 := Lib.hid hi38
            clear hc38 hR38 hi38
            go_wp2_with fail
            refine HC38.out.mono ?_
            intro e w39 ho
            clear HC38
            rcases out_cases ho with ⟨x38, j38, u, rfl, rfl, hv, hp, hb⟩ | ⟨a, er, rfl, rfl, hb⟩
            · have HP39 := Lib.hid hp; have HG39 := Lib.hid (gb_trans HG36.out hb)
              have HJ39 : Hid (j35 < j38 ∧ j38 ≤ v.L.length ∧ dpt x38 ≤ 500000) := Lib.hid (by have h : P1 v 0 j35 x38 j38 := HI38.out; have h0 := hA.out.k.len; exact ⟨h.1, h.2.1, by have h1 := h.2.2.1; have h2 := h.2.1; omega⟩)
              have HX40 := Lib.hid (HX37.out.keep hb HL.out.1)
              obtain ⟨b38, rfl, hx⟩ := hv
              have HX38 := Lib.hid hx
              clear hx
              clear ho hp hb HP36 HG36 HX37 HI38
              have hd41 : dpt (Nd.mk 9 SX.nil [x30, x38]) ≤ 500001 := by have h0 := hA.out.k.len; simp only [dpt, dps]; have := HJ31.out; have := HJ39.out; omega
              have HJ41 := Lib.hid hd41
              clear hd41
              go_wp2_with fail
              refine (syNew2 (Nat.lt_of_lt_of_le HL.out.2 HG39.out.size) HX40.out HX38.out (by have := HJ31.out; omega) (by have := HJ39.out; omega) 9 SX.nil).mono ?_
              rintro e w42 ⟨b41, rfl, hb, hx⟩
              have HP42 := Lib.hid (HP39.out.below hb); have HG42 := Lib.hid (gb_trans HG39.out (gbOfB hb)); have HX41 := Lib.hid hx
              have HX43 := Lib.hid (HX40.out.keep (gbOfB (g := g) hb) HL.out.1)
              have HX44 := Lib.hid (HX38.out.keep (gbOfB (g := g) hb) HL.out.1)
              clear hb hx HP39 HG39 HX40 HX38
              go_wp2
              go_ret
              have EE : entryF v K pp i = Rs.ok (Nd.mk 9 SX.nil [x30, x38]) (j38) := by
                              unfold entryF
                              rw [if_neg HS12.out]
                              rw [if_pos HS28.out]
                              rw [HR30.out]; all_goals dsimp only [Rs.bind]
                              rw [HR32.out]; all_goals dsimp only [Rs.bind]
                              rw [HR35.out]; all_goals dsimp only [Rs.bind]
                              rw [HR38.out]; all_goals dsimp only [Rs.bind]
                              all_goals rfl
              rw [EE]
              exact ⟨_, rfl, ⟨b41, rfl, HX41.out⟩, HP42.out, HG42.out⟩
            · have HG39 := Lib.hid (gb_trans HG36.out hb)
              clear ho hb HP36 HG36
              go_wp2
              refine ⟨rfl, ?_⟩
              have EE : entryF v K pp i = Rs.err a er := by
                              unfold entryF
                              rw [if_neg HS12.out]
                              rw [if_pos HS28.out]
                              rw [HR30.out]; all_goals dsimp only [Rs.bind]
                              rw [HR32.out]; all_goals dsimp only [Rs.bind]
                              rw [HR35.out]; all_goals dsimp only [Rs.bind]
                              rw [HR38.out]; all_goals dsimp only [Rs.bind]
                              all_goals rfl
              rw [EE]
              exact ⟨rfl, HG39.out⟩
          · have HG36 := Lib.hid (gb_trans HG33.out hb)
            clear ho hb HP33 HG33
            go_wp2
            refine ⟨rfl, ?_⟩
            have EE : entryF v K pp i = Rs.err a er := by
                          unfold entryF
                          rw [if_neg HS12.out]
                          rw [if_pos HS28.out]
                          rw [HR30.out]; all_goals dsimp only [Rs.bind]
                          rw [HR32.out]; all_goals dsimp only [Rs.bind]
                          rw [HR35.out]; all_goals dsimp only [Rs.bind]
                          all_goals rfl
            rw [EE]
            exact ⟨rfl, HG36.out⟩
        · have HG33 := Lib.hid (gb_trans HG31.out hb)
          clear ho hb HP31 HG31
          go_wp2
          refine ⟨rfl, ?_⟩
          have EE : entryF v K pp i = Rs.err a er := by
                      unfold entryF
                      rw [if_neg HS12.out]
                      rw [if_pos HS28.out]
                      rw [HR30.out]; all_goals dsimp only [Rs.bind]
                      rw [HR32.out]; all_goals dsimp only [Rs.bind]
                      all_goals rfl
          rw [EE]
          exact ⟨rfl, HG33.out⟩
      · have HG31 := Lib.hid (gb_trans HG29.out hb)
        clear ho hb HP29 HG29
        go_wp2
        refine ⟨rfl, ?_⟩
        have EE : entryF v K pp i = Rs.err a er := by
                  unfold entryF
                  rw [if_neg HS12.out]
                  rw [if_pos HS28.out]
                  rw [HR30.out]; all_goals dsimp only [Rs.bind]
                  all_goals rfl
        rw [EE]
        exact ⟨rfl, HG31.out⟩
    | false =>
      have HS28 := Lib.hid hS28
      clear hS28
      go_wp2_with fail
      refine (sySkipNo hA.out.k HP27.out HS28.out).mono ?_
      rintro e w45 ⟨rfl, hp, hb⟩
      have HP45 := Lib.hid hp; have HG45 := Lib.hid (gb_trans HG27.out hb)
      clear hp hb HP27 HG27 
      obtain ⟨R46, hR46⟩ : ∃ R, keyF v K pp i = R := ⟨_, rfl⟩
      have hi46 := keyF_iv hA.out.q hI.out pp HP45.out.il
      rw [hR46] at hi46
      have hc46 := syKey hA hK hI (by have := HJ0.out; omega) _ _ l HL.out.1 (Nat.lt_of_lt_of_le HL.out.2 HG45.out.size) HP45.out
      rw [hR46] at hc46
      have HC46 := Lib.hid hc46; have HR46 := Lib.hid hR46
      have HI46 := Lib.hid hi46
      clear hc46 hR46 hi46
      go_wp2_with fail
      refine HC46.out.mono ?_
      intro e w47 ho
      clear HC46
      rcases out_cases ho with ⟨x46, j46, u, rfl, rfl, hv, hp, hb⟩ | ⟨a, er, rfl, rfl, hb⟩
      · have HP47 := Lib.hid hp; have HG47 := Lib.hid (gb_trans HG45.out hb)
        have HJ47 : Hid (i < j46 ∧ j46 ≤ v.L.length ∧ dpt x46 ≤ 500000) := Lib.hid (by have h : KP v i x46 j46 := HI46.out; have h0 := hA.out.k.len; exact ⟨h.1, h.2.1, by have h1 := h.2.2.1; have h2 := h.2.1; omega⟩)
        obtain ⟨b46, rfl, hx⟩ := hv
        have HX46 := Lib.hid hx
        clear hx
        clear ho hp hb HP45 HG45  HI46
        cases hS48 : isS v j46 ⟨#[58]⟩ with
        | true =>
          have HS48 := Lib.hid hS48
          have HJ49 : Hid (j46 < v.L.length) := Lib.hid (isS_lt hS48)
          clear hS48
          go_wp2_with fail
          refine (sySkipYes hA.out.k HP47.out HS48.out).mono ?_
          rintro e w49 ⟨rfl, hp, hb⟩
          have HP49 := Lib.hid hp; have HG49 := Lib.hid (gb_trans HG47.out hb)
          have HX50 := Lib.hid (HX46.out.keep hb HL.out.1)
          clear hp hb HP47 HG47 HX46
          obtain ⟨R51, hR51⟩ : ∃ R, K.climb 1 pp (j46 + 1) = R := ⟨_, rfl⟩
          have hi51 := hI.out.climb 1 pp (j46 + 1) HP49.out.il
          rw [hR51] at hi51
          have hc51 := hK.out.climb 1 _ (by have := HJ0.out; have := HJ47.out; have := HJ49.out; omega) _ _ l HL.out.1 (Nat.lt_of_lt_of_le HL.out.2 HG49.out.size) HP49.out
          rw [hR51] at hc51
          have HC51 := Lib.hid hc51; have HR51 := Lib.hid hR51
          have HI51 := Lib.hid hi51
          clear hc51 hR51 hi51
          go_wp2_with fail
          refine HC51.out.mono ?_
          intro e w52 ho
          clear HC51
          rcases out_cases ho with ⟨x51, j51, u, rfl, rfl, hv, hp, hb⟩ | ⟨a, er, rfl, rfl, hb⟩
          · have HP52 := Lib.hid hp; have HG52 := Lib.hid (gb_trans HG49.out hb)
            have HJ52 : Hid (j46 + 1 < j51 ∧ j51 ≤ v.L.length ∧ dpt x51 ≤ 500000) := Lib.hid (by have h : P1 v 0 (j46 + 1) x51 j51 := HI51.out; have h0 := hA.out.k.len; exact ⟨h.1, h.2.1, by have h1 := h.2.2.1; have h2 := h.2.1; omega⟩)
            have HX53 := Lib.hid (HX50.out.keep hb HL.out.1)
            obtain ⟨b51, rfl, hx⟩ := hv
            have HX51 := Lib.hid hx
            clear hx
            clear ho hp hb HP49 HG49 HX50 HI51
            have hd54 : dpt (Nd.mk 9 SX.nil [x46, x51]) ≤ 500001 := by have h0 := hA.out.k.len; simp only [dpt, dps]; have := HJ47.out; have := HJ52.out; omega
            have HJ54 := Lib.hid hd54
            clear hd54
            go_wp2_with fail
            refine (syNew2 (Nat.lt_of_lt_of_le HL.out.2 HG52.out.size) HX53.out HX51.out (by have := HJ47.out; omega) (by have := HJ52.out; omega) 9 SX.nil).mono ?_
            rintro e w55 ⟨b54, rfl, hb, hx⟩
            have HP55 := Lib.hid (HP52.out.below hb); have HG55 := Lib.hid (gb_trans HG52.out (gbOfB hb)); have HX54 := Lib.hid hx
            have HX56 := Lib.hid (HX53.out.keep (gbOfB (g := g) hb) HL.out.1)
            have HX57 := Lib.hid (HX51.out.keep (gbOfB (g := g) hb) HL.out.1)
            clear hb hx HP52 HG52 HX53 HX51
            go_wp2
            go_ret
            have EE : entryF v K pp i = Rs.ok (Nd.mk 9 SX.nil [x46, x51]) (j51) := by
                          unfold entryF
                          rw [if_neg HS12.out]
                          rw [if_neg (by rw [HS28.out]; decide)]
                          rw [HR46.out]; all_goals dsimp only [Rs.bind]
                          rw [if_pos HS48.out]
                          rw [HR51.out]; all_goals dsimp only [Rs.bind]
                          all_goals rfl
            rw [EE]
            exact ⟨_, rfl, ⟨b54, rfl, HX54.out⟩, HP55.out, HG55.out⟩
          · have HG52 := Lib.hid (gb_trans HG49.out hb)
            clear ho hb HP49 HG49
            go_wp2
            refine ⟨rfl, ?_⟩
            have EE : entryF v K pp i = Rs.err a er := by
                          unfold entryF
                          rw [if_neg HS12.out]
                          rw [if_neg (by rw [HS28.out]; decide)]
                          rw [HR46.out]; all_goals dsimp only [Rs.bind]
                          rw [if_pos HS48.out]
                          rw [HR51.out]; all_goals dsimp only [Rs.bind]
                          all_goals rfl
            rw [EE]
            exact ⟨rfl, HG52.out⟩
        | false =>
          have HS48 := Lib.hid hS48
          clear hS48
          go_wp2_with fail
          refine (sySkipNo hA.out.k HP47.out HS48.out).mono ?_
          rintro e w58 ⟨rfl, hp, hb⟩
          have HP58 := Lib.hid hp; have HG58 := Lib.hid (gb_trans HG47.out hb)
          have HX59 := Lib.hid (HX46.out.keep hb HL.out.1)
          clear hp hb HP47 HG47 HX46
          have hd60 : dpt (slf) ≤ 1 := by decide
          have HJ60 := Lib.hid hd60
          clear hd60
          go_wp2_with fail
          refine (sySelf (Nat.lt_of_lt_of_le HL.out.2 HG58.out.size)).mono ?_
          rintro e w61 ⟨b60, rfl, hb, hx⟩
          have HP61 := Lib.hid (HP58.out.below hb); have HG61 := Lib.hid (gb_trans HG58.out (gbOfB hb)); have HX60 := Lib.hid hx
          have HX62 := Lib.hid (HX59.out.keep (gbOfB (g := g) hb) HL.out.1)
          clear hb hx HP58 HG58 HX59
          have hd63 : dpt (ixN (slf) (x46)) ≤ 500001 := by simp only [ixN, dpt, dps]; have := HJ60.out; have := HJ47.out; omega
          have HJ63 := Lib.hid hd63
          clear hd63
          go_wp2_with fail
          refine (syIndex (Nat.lt_of_lt_of_le HL.out.2 HG61.out.size) HX60.out HX62.out (by have := HJ60.out; omega) (by have := HJ47.out; omega)).mono ?_
          rintro e w64 ⟨b63, rfl, hb, hx⟩
          have HP64 := Lib.hid (HP61.out.below hb); have HG64 := Lib.hid (gb_trans HG61.out (gbOfB hb)); have HX63 := Lib.hid hx
          have HX65 := Lib.hid (HX62.out.keep (gbOfB (g := g) hb) HL.out.1)
          have HX66 := Lib.hid (HX60.out.keep (gbOfB (g := g) hb) HL.out.1)
          clear hb hx HP61 HG61 HX62 HX60
          have hd67 : dpt (Nd.mk 9 SX.nil [x46, ixN (slf) (x46)]) ≤ 500002 := by have h0 := hA.out.k.len; simp only [dpt, dps]; have := HJ47.out; have := HJ63.out; omega
          have HJ67 := Lib.hid hd67
          clear hd67
          go_wp2_with fail
          refine (syNew2 (Nat.lt_of_lt_of_le HL.out.2 HG64.out.size) HX65.out HX63.out (by have := HJ47.out; omega) (by have := HJ63.out; omega) 9 SX.nil).mono ?_
          rintro e w68 ⟨b67, rfl, hb, hx⟩
          have HP68 := Lib.hid (HP64.out.below hb); have HG68 := Lib.hid (gb_trans HG64.out (gbOfB hb)); have HX67 := Lib.hid hx
          have HX69 := Lib.hid (HX65.out.keep (gbOfB (g := g) hb) HL.out.1)
          have HX70 := Lib.hid (HX66.out.keep (gbOfB (g := g) hb) HL.out.1)
          have HX71 := Lib.hid (HX63.out.keep (gbOfB (g := g) hb) HL.out.1)
          clear hb hx HP64 HG64 HX65 HX66 HX63
          go_wp2
          go_ret
          have EE : entryF v K pp i = Rs.ok (Nd.mk 9 SX.nil [x46, ixN (slf) (x46)]) (j46) := by
                      unfold entryF
                      rw [if_neg HS12.out]
                      rw [if_neg (by rw [HS28.out]; decide)]
                      rw [HR46.out]; all_goals dsimp only [Rs.bind]
                      rw [if_neg (by rw [HS48.out]; decide)]
                      all_goals rfl
          rw [EE]
          exact ⟨_, rfl, ⟨b67, rfl, HX67.out⟩, HP68.out, HG68.out⟩
      · have HG47 := Lib.hid (gb_trans HG45.out hb)
        clear ho hb HP45 HG45
        go_wp2
        refine ⟨rfl, ?_⟩
        have EE : entryF v K pp i = Rs.err a er := by
                  unfold entryF
                  rw [if_neg HS12.out]
                  rw [if_neg (by rw [HS28.out]; decide)]
                  rw [HR46.out]; all_goals dsimp only [Rs.bind]
                  all_goals rfl
        rw [EE]
        exact ⟨rfl, HG47.out⟩
set_option maxRecDepth 100000 in
set_option maxHeartbeats 4000000 in
theorem sySigned {v : Ev} {g n : Nat} {K : Kn} (hA : Hid (EvA v)) (hK : Hid (HKs v g K n)) (hI : Hid (IvK v K)) {i : Nat} (hn : v.L.length - i < n + 1) : Cn v g 106 (signedF v K) i := by
  intro w pp l hgl hlw h
  have HL : Hid (g ≤ l ∧ l < w.heap.size) := Lib.hid ⟨hgl, hlw⟩; have HP0 := Lib.hid h; have HG0 : Hid (w.grownBy w (some g)) := Lib.hid (gb_refl _ _); have HJ0 := Lib.hid hn
  clear h hn hgl hlw
  show Calls Tryz.prog 106 #[ptr g] w (Out v g pp w (signedF v K pp i) (VN l))
  go_enter Tryz.func106, Tryz.ntmps106
  cases hS72 : isS v i ⟨#[46]⟩ with
  | true =>
    have HS72 := Lib.hid hS72
    have HJ73 : Hid (i < v.L.length) := Lib.hid (isS_lt hS72)
    clear hS72
    go_wp2_with fail
    refine (sySkipYes hA.out.k HP0.out HS72.out).mono ?_
    rintro e w73 ⟨rfl, hp, hb⟩
    have HP73 := Lib.hid hp; have HG73 := Lib.hid (gb_trans HG0.out hb)
    clear hp hb HP0 HG0 
    by_cases hK74 : (tkn v (i + 1)).1 = 7
    · have HS74 := Lib.hid hK74
      have q74 : (((tkn v (i + 1)).1 : Int) == 7) = true := by rw [hK74]; rfl
      have qn74 : (((tkn v (i + 1)).1 : Int) != 7) = false := by rw [hK74]; rfl
      have HJ75 : Hid (i + 1 < v.L.length) := Lib.hid (tkn_lt hK74 (by decide))
      clear hK74
      have ft := fieldTok0
      go_wp2_with fail
      refine (syNext hA.out.k HP73.out).mono ?_
      rintro e w76 ⟨rfl, hb⟩
      have HP76 := Lib.hid (HP73.out.below hb); have HG76 := Lib.hid (gb_trans HG73.out (gbOfB hb))
      unfold nxV
      clear hb HP73 HG73 
      have hd77 : dpt (slf) ≤ 1 := by decide
      have HJ77 := Lib.hid hd77
      clear hd77
      go_wp2_with fail
      refine (sySelf (Nat.lt_of_lt_of_le HL.out.2 HG76.out.size)).mono ?_
      rintro e w78 ⟨b77, rfl, hb, hx⟩
      have HP78 := Lib.hid (HP76.out.below hb); have HG78 := Lib.hid (gb_trans HG76.out (gbOfB hb)); have HX77 := Lib.hid hx
      clear hb hx HP76 HG76 
      obtain ⟨R79, hR79⟩ : ∃ R, textF v K pp SX.nil (i + 1) = R := ⟨_, rfl⟩
      have hi79 := textF_iv hA.out.q hI.out pp SX.nil HP78.out.il
      rw [hR79] at hi79
      have hc79 := syText hA hK hI SX.nil (by have := HJ0.out; have := HJ73.out; have := HJ75.out; omega) w78 pp l HL.out.1 (Nat.lt_of_lt_of_le HL.out.2 HG78.out.size) HP78.out
      rw [hR79] at hc79
      have HC79 := Lib.hid hc79; have HR79 := Lib.hid hR79
      have HI79 := Lib.hid hi79
      clear hc79 hR79 hi79
      go_wp2_with fail
      refine HC79.out.mono ?_
      intro e w80 ho
      clear HC79
      rcases out_cases ho with ⟨x79, j79, u, rfl, rfl, hv, hp, hb⟩ | ⟨a, er, rfl, rfl, hb⟩
      · have HP80 := Lib.hid hp; have HG80 := Lib.hid (gb_trans HG78.out hb)
        have HJ80 : Hid (i + 1 < j79 ∧ j79 ≤ v.L.length ∧ dpt x79 ≤ 500000) := Lib.hid (by have h : P4 v (i + 1) x79 j79 := HI79.out; have h0 := hA.out.k.len; exact ⟨h.1, h.2.1, by have h1 := h.2.2.1; have h2 := h.2.1; omega⟩)
        have HX81 := Lib.hid (HX77.out.keep hb HL.out.1)
        obtain ⟨b79, rfl, hx⟩ := hv
        have HX79 := Lib.hid hx
        clear hx
        clear ho hp hb HP78 HG78 HX77 HI79
        have hd82 : dpt (ixN (slf) (x79)) ≤ 500001 := by simp only [ixN, dpt, dps]; have := HJ77.out; have := HJ80.out; omega
        have HJ82 := Lib.hid hd82
        clear hd82
        go_wp2_with fail
        refine (syIndex (Nat.lt_of_lt_of_le HL.out.2 HG80.out.size) HX81.out HX79.out (by have := HJ77.out; omega) (by have := HJ80.out; omega)).mono ?_
        rintro e w83 ⟨b82, rfl, hb, hx⟩
        have HP83 := Lib.hid (HP80.out.below hb); have HG83 := Lib.hid (gb_trans HG80.out (gbOfB hb)); have HX82 := Lib.hid hx
        have HX84 := Lib.hid (HX81.out.keep (gbOfB (g := g) hb) HL.out.1)
        have HX85 := Lib.hid (HX79.out.keep (gbOfB (g := g) hb) HL.out.1)
        clear hb hx HP80 HG80 HX81 HX79
        go_wp2
        go_ret
        have EE : signedF v K pp i = Rs.ok (ixN (slf) (x79)) (j79) := by
                  unfold signedF
                  rw [if_pos HS72.out]
                  rw [if_pos HS74.out]
                  rw [HR79.out]; all_goals dsimp only [Rs.bind]
                  all_goals rfl
        rw [EE]
        exact ⟨_, rfl, ⟨b82, rfl, HX82.out⟩, HP83.out, HG83.out⟩
      · have HG80 := Lib.hid (gb_trans HG78.out hb)
        clear ho hb HP78 HG78
        go_wp2
        refine ⟨rfl, ?_⟩
        have EE : signedF v K pp i = Rs.err a er := by
                  unfold signedF
                  rw [if_pos HS72.out]
                  rw [if_pos HS74.out]
                  rw [HR79.out]; all_goals dsimp only [Rs.bind]
                  all_goals rfl
        rw [EE]
        exact ⟨rfl, HG80.out⟩
    · have HS74 := Lib.hid hK74
      have q74 : (((tkn v (i + 1)).1 : Int) == 7) = false := by rw [beq_eq_false_iff_ne]; omega
      have qn74 : (((tkn v (i + 1)).1 : Int) != 7) = true := by rw [bne_iff_ne]; omega
      clear hK74
      have ft := fieldTok0
      go_wp2_with fail
      refine (syNext hA.out.k HP73.out).mono ?_
      rintro e w87 ⟨rfl, hb⟩
      have HP87 := Lib.hid (HP73.out.below hb); have HG87 := Lib.hid (gb_trans HG73.out (gbOfB hb))
      unfold nxV
      clear hb HP73 HG73 
      have hd88 : dpt (slf) ≤ 1 := by decide
      have HJ88 := Lib.hid hd88
      clear hd88
      go_wp2_with fail
      refine (sySelf (Nat.lt_of_lt_of_le HL.out.2 HG87.out.size)).mono ?_
      rintro e w89 ⟨b88, rfl, hb, hx⟩
      have HP89 := Lib.hid (HP87.out.below hb); have HG89 := Lib.hid (gb_trans HG87.out (gbOfB hb)); have HX88 := Lib.hid hx
      clear hb hx HP87 HG87 
      go_wp2
      go_ret
      have EE : signedF v K pp i = Rs.ok (slf) (i + 1) := by
              unfold signedF
              rw [if_pos HS72.out]
              rw [if_neg HS74.out]
              all_goals rfl
      rw [EE]
      exact ⟨_, rfl, ⟨b88, rfl, HX88.out⟩, HP89.out, HG89.out⟩
  | false =>
    have HS72 := Lib.hid hS72
    clear hS72
    go_wp2_with fail
    refine (sySkipNo hA.out.k HP0.out HS72.out).mono ?_
    rintro e w90 ⟨rfl, hp, hb⟩
    have HP90 := Lib.hid hp; have HG90 := Lib.hid (gb_trans HG0.out hb)
    clear hp hb HP0 HG0 
    cases hS91 : isS v i ⟨#[46, 46]⟩ with
    | true =>
      have HS91 := Lib.hid hS91
      have HJ92 : Hid (i < v.L.length) := Lib.hid (isS_lt hS91)
      clear hS91
      go_wp2_with fail
      refine (sySkipYes hA.out.k HP90.out HS91.out).mono ?_
      rintro e w92 ⟨rfl, hp, hb⟩
      have HP92 := Lib.hid hp; have HG92 := Lib.hid (gb_trans HG90.out hb)
      clear hp hb HP90 HG90 
      have hd93 : dpt (Nd.mk 2 SX.nil []) ≤ 1 := by have h0 := hA.out.k.len; simp only [dpt, dps]; omega
      have HJ93 := Lib.hid hd93
      clear hd93
      go_wp2_with fail
      refine (syNew0 (Nat.lt_of_lt_of_le HL.out.2 HG92.out.size) 2 SX.nil).mono ?_
      rintro e w94 ⟨b93, rfl, hb, hx⟩
      have HP94 := Lib.hid (HP92.out.below hb); have HG94 := Lib.hid (gb_trans HG92.out (gbOfB hb)); have HX93 := Lib.hid hx
      clear hb hx HP92 HG92 
      go_wp2
      go_ret
      have EE : signedF v K pp i = Rs.ok (Nd.mk 2 SX.nil []) (i + 1) := by
              unfold signedF
              rw [if_neg (by rw [HS72.out]; decide)]
              rw [if_pos HS91.out]
              all_goals rfl
      rw [EE]
      exact ⟨_, rfl, ⟨b93, rfl, HX93.out⟩, HP94.out, HG94.out⟩
    | false =>
      have HS91 := Lib.hid hS91
      clear hS91
      go_wp2_with fail
      refine (sySkipNo hA.out.k HP90.out HS91.out).mono ?_
      rintro e w95 ⟨rfl, hp, hb⟩
      have HP95 := Lib.hid hp; have HG95 := Lib.hid (gb_trans HG90.out hb)
      clear hp hb HP90 HG90 
      cases hS96 : isS v i ⟨#[40]⟩ with
      | true =>
        have HS96 := Lib.hid hS96
        have HJ97 : Hid (i < v.L.length) := Lib.hid (isS_lt hS96)
        clear hS96
        go_wp2_with fail
        refine (sySkipYes hA.out.k HP95.out HS96.out).mono ?_
        rintro e w97 ⟨rfl, hp, hb⟩
        have HP97 := Lib.hid hp; have HG97 := Lib.hid (gb_trans HG95.out hb)
        clear hp hb HP95 HG95 
        obtain ⟨R98, hR98⟩ : ∃ R, K.pipe pp (i + 1) = R := ⟨_, rfl⟩
        have hi98 := hI.out.pipe pp (i + 1) HP97.out.il
        rw [hR98] at hi98
        have hc98 := hK.out.pipe _ (by have := HJ0.out; have := HJ97.out; omega) _ _ l HL.out.1 (Nat.lt_of_lt_of_le HL.out.2 HG97.out.size) HP97.out
        rw [hR98] at hc98
        have HC98 := Lib.hid hc98; have HR98 := Lib.hid hR98
        have HI98 := Lib.hid hi98
        clear hc98 hR98 hi98
        go_wp2_with fail
        refine HC98.out.mono ?_
        intro e w99 ho
        clear HC98
        rcases out_cases ho with ⟨x98, j98, u, rfl, rfl, hv, hp, hb⟩ | ⟨a, er, rfl, rfl, hb⟩
        · have HP99 := Lib.hid hp; have HG99 := Lib.hid (gb_trans HG97.out hb)
          have HJ99 : Hid (i + 1 < j98 ∧ j98 ≤ v.L.length ∧ dpt x98 ≤ 500000) := Lib.hid (by have h : P1 v 0 (i + 1) x98 j98 := HI98.out; have h0 := hA.out.k.len; exact ⟨h.1, h.2.1, by have h1 := h.2.2.1; have h2 := h.2.1; omega⟩)
          obtain ⟨b98, rfl, hx⟩ := hv
          have HX98 := Lib.hid hx
          clear hx
          clear ho hp hb HP97 HG97  HI98
          obtain ⟨R100, hR100⟩ : ∃ R, ned v ⟨#[41]⟩ j98 = R := ⟨_, rfl⟩
          have hi100 := ned_iv hA.out.q HP99.out.il (s := ⟨#[41]⟩)
          rw [hR100] at hi100
          have hc100 := syNeed hA.out.k HP99.out ⟨#[41]⟩
          rw [hR100] at hc100
          have HC100 := Lib.hid hc100; have HR100 := Lib.hid hR100
          have HI100 := Lib.hid hi100
          clear hc100 hR100 hi100
          go_wp2_with fail
          refine HC100.out.mono ?_
          intro e w101 ho
          clear HC100
          rcases out_cases ho with ⟨x100, j100, u, rfl, rfl, hv, hp, hb⟩ | ⟨a, er, rfl, rfl, hb⟩
          · have HP101 := Lib.hid hp; have HG101 := Lib.hid (gb_trans HG99.out hb)
            have HJ101 : Hid (j98 < j100 ∧ j100 ≤ v.L.length) := Lib.hid (by have h : T1 v j98 x100 j100 := HI100.out; have h0 := hA.out.k.len; exact ⟨by have := h.1; omega, h.2⟩)
            have HX102 := Lib.hid (HX98.out.keep hb HL.out.1)
            obtain rfl := hv
            clear ho hp hb HP99 HG99 HX98 HI100
            go_wp2
            go_ret
            have EE : signedF v K pp i = Rs.ok (x98) (j100) := by
                          unfold signedF
                          rw [if_neg (by rw [HS72.out]; decide)]
                          rw [if_neg (by rw [HS91.out]; decide)]
                          rw [if_pos HS96.out]
                          rw [HR98.out]; all_goals dsimp only [Rs.bind]
                          rw [HR100.out]; all_goals dsimp only [Rs.bind]
                          all_goals rfl
            rw [EE]
            exact ⟨_, rfl, ⟨b98, rfl, HX102.out⟩, HP101.out, HG101.out⟩
          · have HG101 := Lib.hid (gb_trans HG99.out hb)
            clear ho hb HP99 HG99
            go_wp2
            refine ⟨rfl, ?_⟩
            have EE : signedF v K pp i = Rs.err a er := by
                          unfold signedF
                          rw [if_neg (by rw [HS72.out]; decide)]
                          rw [if_neg (by rw [HS91.out]; decide)]
                          rw [if_pos HS96.out]
                          rw [HR98.out]; all_goals dsimp only [Rs.bind]
                          rw [HR100.out]; all_goals dsimp only [Rs.bind]
                          all_goals rfl
            rw [EE]
            exact ⟨rfl, HG101.out⟩
        · have HG99 := Lib.hid (gb_trans HG97.out hb)
          clear ho hb HP97 HG97
          go_wp2
          refine ⟨rfl, ?_⟩
          have EE : signedF v K pp i = Rs.err a er := by
                      unfold signedF
                      rw [if_neg (by rw [HS72.out]; decide)]
                      rw [if_neg (by rw [HS91.out]; decide)]
                      rw [if_pos HS96.out]
                      rw [HR98.out]; all_goals dsimp only [Rs.bind]
                      all_goals rfl
          rw [EE]
          exact ⟨rfl, HG99.out⟩
      | false =>
        have HS96 := Lib.hid hS96
        clear hS96
        go_wp2_with fail
        refine (sySkipNo hA.out.k HP95.out HS96.out).mono ?_
        rintro e w103 ⟨rfl, hp, hb⟩
        have HP103 := Lib.hid hp; have HG103 := Lib.hid (gb_trans HG95.out hb)
        clear hp hb HP95 HG95 
        cases hS104 : isS v i ⟨#[91]⟩ with
        | true =>
          have HS104 := Lib.hid hS104
          have HJ105 : Hid (i < v.L.length) := Lib.hid (isS_lt hS104)
          clear hS104
          go_wp2_with fail
          refine (sySkipYes hA.out.k HP103.out HS104.out).mono ?_
          rintro e w105 ⟨rfl, hp, hb⟩
          have HP105 := Lib.hid hp; have HG105 := Lib.hid (gb_trans HG103.out hb)
          clear hp hb HP103 HG103 
          cases hS106 : isS v (i + 1) ⟨#[93]⟩ with
          | true =>
            have HS106 := Lib.hid hS106
            have HJ107 : Hid (i + 1 < v.L.length) := Lib.hid (isS_lt hS106)
            clear hS106
            go_wp2_with fail
            refine (sySkipYes hA.out.k HP105.out HS106.out).mono ?_
            rintro e w107 ⟨rfl, hp, hb⟩
            have HP107 := Lib.hid hp; have HG107 := Lib.hid (gb_trans HG105.out hb)
            clear hp hb HP105 HG105 
            have hd108 : dpt (Nd.mk 7 SX.nil []) ≤ 1 := by have h0 := hA.out.k.len; simp only [dpt, dps]; omega
            have HJ108 := Lib.hid hd108
            clear hd108
            go_wp2_with fail
            refine (syNew0 (Nat.lt_of_lt_of_le HL.out.2 HG107.out.size) 7 SX.nil).mono ?_
            rintro e w109 ⟨b108, rfl, hb, hx⟩
            have HP109 := Lib.hid (HP107.out.below hb); have HG109 := Lib.hid (gb_trans HG107.out (gbOfB hb)); have HX108 := Lib.hid hx
            clear hb hx HP107 HG107 
            go_wp2
            go_ret
            have EE : signedF v K pp i = Rs.ok (Nd.mk 7 SX.nil []) (i + 1 + 1) := by
                          unfold signedF
                          rw [if_neg (by rw [HS72.out]; decide)]
                          rw [if_neg (by rw [HS91.out]; decide)]
                          rw [if_neg (by rw [HS96.out]; decide)]
                          rw [if_pos HS104.out]
                          rw [if_pos HS106.out]
                          all_goals rfl
            rw [EE]
            exact ⟨_, rfl, ⟨b108, rfl, HX108.out⟩, HP109.out, HG109.out⟩
          | false =>
            have HS106 := Lib.hid hS106
            clear hS106
            go_wp2_with fail
            refine (sySkipNo hA.out.k HP105.out HS106.out).mono ?_
            rintro e w110 ⟨rfl, hp, hb⟩
            have HP110 := Lib.hid hp; have HG110 := Lib.hid (gb_trans HG105.out hb)
            clear hp hb HP105 HG105 
            obtain ⟨R111, hR111⟩ : ∃ R, K.pipe pp (i + 1) = R := ⟨_, rfl⟩
            have hi111 := hI.out.pipe pp (i + 1) HP110.out.il
            rw [hR111] at hi111
            have hc111 := hK.out.pipe _ (by have := HJ0.out; have := HJ105.out; omega) _ _ l HL.out.1 (Nat.lt_of_lt_of_le HL.out.2 HG110.out.size) HP110.out
            rw [hR111] at hc111
            have HC111 := Lib.hid hc111; have HR111 := Lib.hid hR111
            have HI111 := Lib.hid hi111
            clear hc111 hR111 hi111
            go_wp2_with fail
            refine HC111.out.mono ?_
            intro e w112 ho
            clear HC111
            rcases out_cases ho with ⟨x111, j111, u, rfl, rfl, hv, hp, hb⟩ | ⟨a, er, rfl, rfl, hb⟩
            · have HP112 := Lib.hid hp; have HG112 := Lib.hid (gb_trans HG110.out hb)
              have HJ112 : Hid (i + 1 < j111 ∧ j111 ≤ v.L.length ∧ dpt x111 ≤ 500000) := Lib.hid (by have h : P1 v 0 (i + 1) x111 j111 := HI111.out; have h0 := hA.out.k.len; exact ⟨h.1, h.2.1, by have h1 := h.2.2.1; have h2 := h.2.1; omega⟩)
              obtain ⟨b111, rfl, hx⟩ := hv
              have HX111 := Lib.hid hx
              clear hx
              clear ho hp hb HP110 HG110  HI111
              obtain ⟨R113, hR113⟩ : ∃ R, ned v ⟨#[93]⟩ j111 = R := ⟨_, rfl⟩
              have hi113 := ned_iv hA.out.q HP112.out.il (s := ⟨#[93]⟩)
              rw [hR113] at hi113
              have hc113 := syNeed hA.out.k HP112.out ⟨#[93]⟩
              rw [hR113] at hc113
              have HC113 := Lib.hid hc113; have HR113 := Lib.hid hR113
              have HI113 := Lib.hid hi113
              clear hc113 hR113 hi113
              go_wp2_with fail
              refine HC113.out.mono ?_
              intro e w114 ho
              clear HC113
              rcases out_cases ho with ⟨x113, j113, u, rfl, rfl, hv, hp, hb⟩ | ⟨a, er, rfl, rfl, hb⟩
              · have HP114 := Lib.hid hp; have HG114 := Lib.hid (gb_trans HG112.out hb)
                have HJ114 : Hid (j111 < j113 ∧ j113 ≤ v.L.length) := Lib.hid (by have h : T1 v j111 x113 j113 := HI113.out; have h0 := hA.out.k.len; exact ⟨by have := h.1; omega, h.2⟩)
                have HX115 := Lib.hid (HX111.out.keep hb HL.out.1)
                obtain rfl := hv
                clear ho hp hb HP112 HG112 HX111 HI113
                have hd116 : dpt (Nd.mk 7 SX.nil [x111]) ≤ 500001 := by have h0 := hA.out.k.len; simp only [dpt, dps]; have := HJ112.out; omega
                have HJ116 := Lib.hid hd116
                clear hd116
                go_wp2_with fail
                refine (syNew1 (Nat.lt_of_lt_of_le HL.out.2 HG114.out.size) HX115.out (by have := HJ112.out; omega) 7 SX.nil).mono ?_
                rintro e w117 ⟨b116, rfl, hb, hx⟩
                have HP117 := Lib.hid (HP114.out.below hb); have HG117 := Lib.hid (gb_trans HG114.out (gbOfB hb)); have HX116 := Lib.hid hx
                have HX118 := Lib.hid (HX115.out.keep (gbOfB (g := g) hb) HL.out.1)
                clear hb hx HP114 HG114 HX115
                go_wp2
                go_ret
                have EE : signedF v K pp i = Rs.ok (Nd.mk 7 SX.nil [x111]) (j113) := by
                                  unfold signedF
                                  rw [if_neg (by rw [HS72.out]; decide)]
                                  rw [if_neg (by rw [HS91.out]; decide)]
                                  rw [if_neg (by rw [HS96.out]; decide)]
                                  rw [if_pos HS104.out]
                                  rw [if_neg (by rw [HS106.out]; decide)]
                                  rw [HR111.out]; all_goals dsimp only [Rs.bind]
                                  rw [HR113.out]; all_goals dsimp only [Rs.bind]
                                  all_goals rfl
                rw [EE]
                exact ⟨_, rfl, ⟨b116, rfl, HX116.out⟩, HP117.out, HG117.out⟩
              · have HG114 := Lib.hid (gb_trans HG112.out hb)
                clear ho hb HP112 HG112
                go_wp2
                refine ⟨rfl, ?_⟩
                have EE : signedF v K pp i = Rs.err a er := by
                                  unfold signedF
                                  rw [if_neg (by rw [HS72.out]; decide)]
                                  rw [if_neg (by rw [HS91.out]; decide)]
                                  rw [if_neg (by rw [HS96.out]; decide)]
                                  rw [if_pos HS104.out]
                                  rw [if_neg (by rw [HS106.out]; decide)]
                                  rw [HR111.out]; all_goals dsimp only [Rs.bind]
                                  rw [HR113.out]; all_goals dsimp only [Rs.bind]
                                  all_goals rfl
                rw [EE]
                exact ⟨rfl, HG114.out⟩
            · have HG112 := Lib.hid (gb_trans HG110.out hb)
              clear ho hb HP110 HG110
              go_wp2
              refine ⟨rfl, ?_⟩
              have EE : signedF v K pp i = Rs.err a er := by
                              unfold signedF
                              rw [if_neg (by rw [HS72.out]; decide)]
                              rw [if_neg (by rw [HS91.out]; decide)]
                              rw [if_neg (by rw [HS96.out]; decide)]
                              rw [if_pos HS104.out]
                              rw [if_neg (by rw [HS106.out]; decide)]
                              rw [HR111.out]; all_goals dsimp only [Rs.bind]
                              all_goals rfl
              rw [EE]
              exact ⟨rfl, HG112.out⟩
        | false =>
          have HS104 := Lib.hid hS104
          clear hS104
          go_wp2_with fail
          refine (sySkipNo hA.out.k HP103.out HS104.out).mono ?_
          rintro e w119 ⟨rfl, hp, hb⟩
          have HP119 := Lib.hid hp; have HG119 := Lib.hid (gb_trans HG103.out hb)
          clear hp hb HP103 HG103 
          cases hS120 : isS v i ⟨#[123]⟩ with
          | true =>
            have HS120 := Lib.hid hS120
            have HJ121 : Hid (i < v.L.length) := Lib.hid (isS_lt hS120)
            clear hS120
            go_wp2_with fail
            refine (sySkipYes hA.out.k HP119.out HS120.out).mono ?_
            rintro e w121 ⟨rfl, hp, hb⟩
            have HP121 := Lib.hid hp; have HG121 := Lib.hid (gb_trans HG119.out hb)
            clear hp hb HP119 HG119 
            cases hS122 : isS v (i + 1) ⟨#[125]⟩ with
            | true =>
              have HS122 := Lib.hid hS122
              have HJ123 : Hid (i + 1 < v.L.length) := Lib.hid (isS_lt hS122)
              clear hS122
              go_wp2_with fail
              refine (sySkipYes hA.out.k HP121.out HS122.out).mono ?_
              rintro e w123 ⟨rfl, hp, hb⟩
              have HP123 := Lib.hid hp; have HG123 := Lib.hid (gb_trans HG121.out hb)
              clear hp hb HP121 HG121 
              have hd124 : dpt (Nd.mk 8 SX.nil []) ≤ 1 := by have h0 := hA.out.k.len; simp only [dpt, dps]; omega
              have HJ124 := Lib.hid hd124
              clear hd124
              go_wp2_with fail
              refine (syNew0 (Nat.lt_of_lt_of_le HL.out.2 HG123.out.size) 8 SX.nil).mono ?_
              rintro e w125 ⟨b124, rfl, hb, hx⟩
              have HP125 := Lib.hid (HP123.out.below hb); have HG125 := Lib.hid (gb_trans HG123.out (gbOfB hb)); have HX124 := Lib.hid hx
              clear hb hx HP123 HG123 
              go_wp2
              go_ret
              have EE : signedF v K pp i = Rs.ok (Nd.mk 8 SX.nil []) (i + 1 + 1) := by
                              unfold signedF
                              rw [if_neg (by rw [HS72.out]; decide)]
                              rw [if_neg (by rw [HS91.out]; decide)]
                              rw [if_neg (by rw [HS96.out]; decide)]
                              rw [if_neg (by rw [HS104.out]; decide)]
                              rw [if_pos HS120.out]
                              rw [if_pos HS122.out]
                              all_goals rfl
              rw [EE]
              exact ⟨_, rfl, ⟨b124, rfl, HX124.out⟩, HP125.out, HG125.out⟩
            | false =>
              have HS122 := Lib.hid hS122
              clear hS122
              go_wp2_with fail
              refine (sySkipNo hA.out.k HP121.out HS122.out).mono ?_
              rintro e w126 ⟨rfl, hp, hb⟩
              have HP126 := Lib.hid hp; have HG126 := Lib.hid (gb_trans HG121.out hb)
              clear hp hb HP121 HG121 
              have hmf : ∀ (fn : Fn) (first cap : Array Value) (w : World), (Instr.makeFunc fn first cap).run Tryz.prog w = .ok (.func fn first cap) w := fun _ _ _ _ => rfl
              obtain ⟨R127, hR127⟩ : ∃ R, rowF v (entryF v K pp) ⟨#[44]⟩ ⟨#[125]⟩ (i + 1) = R := ⟨_, rfl⟩
              have hi127 := rowF_iv hA.out.q (fun i hi => (fun pp i hi => entryF_iv hA.out.q hI.out pp hi) pp i hi) ⟨#[44]⟩ ⟨#[125]⟩ HP126.out.il
              rw [hR127] at hi127
              have hc127 := syRow (F := 118) (m := n) (IT := entryF v K) (cf_of Tryz.func118 (by decide) rfl) hA (Lib.hid (fun i hi => syEntry hA hK hI (Nat.lt_succ_of_lt hi))) (Lib.hid (fun pp i hi => entryF_iv hA.out.q hI.out pp hi)) ⟨#[44]⟩ ⟨#[125]⟩ (by have := HJ0.out; have := HJ121.out; omega) w126 pp l HL.out.1 (Nat.lt_of_lt_of_le HL.out.2 HG126.out.size) HP126.out
              rw [hR127] at hc127
              have HC127 := Lib.hid hc127; have HR127 := Lib.hid hR127
              have HI127 := Lib.hid hi127
              clear hc127 hR127 hi127
              go_wp2_with fail
              refine HC127.out.mono ?_
              intro e w128 ho
              clear HC127
              rcases out_cases ho with ⟨x127, j127, u, rfl, rfl, hv, hp, hb⟩ | ⟨a, er, rfl, rfl, hb⟩
              · have HP128 := Lib.hid hp; have HG128 := Lib.hid (gb_trans HG126.out hb)
                have HJ128 : Hid (i + 1 < j127 ∧ j127 ≤ v.L.length ∧ dps x127 ≤ 500000) := Lib.hid (by have h : P2 v (i + 1) x127 j127 := HI127.out; have h0 := hA.out.k.len; exact ⟨h.1, h.2.1, by have h1 := h.2.2.1; have h2 := h.2.1; omega⟩)
                obtain ⟨ao127, cap127, bs127, rfl, hrow, hrl⟩ := hv
                have HROW127 := Lib.hid hrow; have HRLN127 := Lib.hid hrl
                clear hrow hrl
                clear ho hp hb HP126 HG126  HI127
                have hd129 : dpt (Nd.mk 8 SX.nil x127) ≤ 500001 := by have := HJ128.out; simp only [dpt]; omega
                have HJ129 := Lib.hid hd129
                clear hd129
                go_wp2_with fail
                refine (syNewPart 8 SX.nil x127 ao127 cap127 (fun k => l < k) w128 HROW127.out.prs (Nat.lt_of_lt_of_le HL.out.2 HG128.out.size) (by have := HJ128.out; omega) (by have := HRLN127.out; omega)).mono ?_
                rintro e w130 ⟨rfl, hb, hx⟩
                have HP130 := Lib.hid (HP128.out.below hb); have HG130 := Lib.hid (gb_trans HG128.out (gbOfB hb)); have HX129 : Hid (PR w130 l (Nd.mk 8 SX.nil x127) _) := Lib.hid hx
                clear hb hx HP128 HG128  HROW127
                go_wp2
                go_ret
                have EE : signedF v K pp i = Rs.ok (Nd.mk 8 SX.nil x127) (j127) := by
                                  unfold signedF
                                  rw [if_neg (by rw [HS72.out]; decide)]
                                  rw [if_neg (by rw [HS91.out]; decide)]
                                  rw [if_neg (by rw [HS96.out]; decide)]
                                  rw [if_neg (by rw [HS104.out]; decide)]
                                  rw [if_pos HS120.out]
                                  rw [if_neg (by rw [HS122.out]; decide)]
                                  rw [HR127.out]; all_goals dsimp only [Rs.bind]
                                  all_goals rfl
                rw [EE]
                exact ⟨_, rfl, ⟨_, rfl, HX129.out⟩, HP130.out, HG130.out⟩
              · have HG128 := Lib.hid (gb_trans HG126.out hb)
                clear ho hb HP126 HG126
                go_wp2
                refine ⟨rfl, ?_⟩
                have EE : signedF v K pp i = Rs.err a er := by
                                  unfold signedF
                                  rw [if_neg (by rw [HS72.out]; decide)]
                                  rw [if_neg (by rw [HS91.out]; decide)]
                                  rw [if_neg (by rw [HS96.out]; decide)]
                                  rw [if_neg (by rw [HS104.out]; decide)]
                                  rw [if_pos HS120.out]
                                  rw [if_neg (by rw [HS122.out]; decide)]
                                  rw [HR127.out]; all_goals dsimp only [Rs.bind]
                                  all_goals rfl
                rw [EE]
                exact ⟨rfl, HG128.out⟩
          | false =>
            have HS120 := Lib.hid hS120
            clear hS120
            go_wp2_with fail
            refine (sySkipNo hA.out.k HP119.out HS120.out).mono ?_
            rintro e w131 ⟨rfl, hp, hb⟩
            have HP131 := Lib.hid hp; have HG131 := Lib.hid (gb_trans HG119.out hb)
            clear hp hb HP119 HG119 
            obtain ⟨X132, hX132⟩ : ∃ X, plc v i = X := ⟨_, rfl⟩
            obtain ⟨Y132, hY132⟩ : ∃ Y, (if i = v.L.length then 5 else 2 : Nat) = Y := ⟨_, rfl⟩
            have hu132 := syUnfit hA.out.k HP131.out
            rw [hX132, hY132] at hu132
            have HU132 := Lib.hid hu132
            have HUF132 : Hid ((unf v i : Rs Nd) = Rs.err X132 Y132) := Lib.hid (by unfold unf; rw [hX132, hY132])
            clear hu132 hX132 hY132
            go_wp2_with fail
            refine HU132.out.mono ?_
            rintro e w132 ⟨rfl, hb⟩
            have HG132 := Lib.hid (gb_trans HG131.out (gbOfB hb))
            clear hb HU132 HP131 HG131
            go_wp2
            refine ⟨rfl, ?_⟩
            have EE : signedF v K pp i = Rs.err X132 Y132 := by
                          unfold signedF
                          rw [if_neg (by rw [HS72.out]; decide)]
                          rw [if_neg (by rw [HS91.out]; decide)]
                          rw [if_neg (by rw [HS96.out]; decide)]
                          rw [if_neg (by rw [HS104.out]; decide)]
                          rw [if_neg (by rw [HS120.out]; decide)]
                          rw [HUF132.out]
            rw [EE]
            exact ⟨rfl, HG132.out⟩
end Go.Proofs.YtpgiljibicigeaaGreatDoor
