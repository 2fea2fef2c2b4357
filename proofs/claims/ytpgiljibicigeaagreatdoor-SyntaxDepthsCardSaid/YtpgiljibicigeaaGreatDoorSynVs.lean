/- syntax: anyPipe walked (gensynu.py) -/
import Derived.Test.YtpgiljibicigeaaGreatDoorSynU
import Derived.Recover
import Derived.Defers
import Derived.Laws.Pointers
set_option linter.unusedVariables false
set_option linter.unusedSimpArgs false
namespace Go.Proofs.YtpgiljibicigeaaGreatDoor
open Go.RowKit SX

set_option maxRecDepth 100000 in
set_option maxHeartbeats 4000000 in
theorem syAnyPipe {v : Ev} {g n : Nat} {K : Kn} (hA : Hid (EvA v)) (hK : Hid (HKs v g K n)) (hI : Hid (IvK v K)) {i : Nat} (hn : v.L.length - i < n + 1) : Cn v g 28 (anyF v K) i := by
  intro w pp l hgl hlw h
  have HL : Hid (g ≤ l ∧ l < w.heap.size) := Lib.hid ⟨hgl, hlw⟩; have HP0 := Lib.hid h; have HG0 : Hid (w.grownBy w (some g)) := Lib.hid (gb_refl _ _); have HJ0 := Lib.hid hn
  clear h hn hgl hlw
  show Calls Tryz.prog 28 #[ptr g] w (Out v g pp w (anyF v K pp i) (VN l))
  go_enter Tryz.func28, Tryz.ntmps28
  cases hS1 : isS v i ⟨#[100, 101, 102]⟩ with
  | true =>
    have HS1 := Lib.hid hS1
    have HJ2 : Hid (i < v.L.length) := Lib.hid (isS_lt hS1)
    clear hS1
    go_wp2_with fail
    refine (sySkipYes hA.out.k HP0.out HS1.out).mono ?_
    rintro e w2 ⟨rfl, hp, hb⟩
    have HP2 := Lib.hid hp; have HG2 := Lib.hid (gb_trans HG0.out hb)
    clear hp hb HP0 HG0 
    obtain ⟨R3, hR3⟩ : ∃ R, defF v K pp (i + 1) = R := ⟨_, rfl⟩
    have hi3 := defF_iv hA.out.q hI.out pp HP2.out.il
    rw [hR3] at hi3
    have hc3 := syDef hA hK hI (by have := HJ0.out; have := HJ2.out; omega) _ _ l HL.out.1 (Nat.lt_of_lt_of_le HL.out.2 HG2.out.size) HP2.out
    rw [hR3] at hc3
    have HC3 := Lib.hid hc3; have HR3 := Lib.hid hR3
    have HI3 := Lib.hid hi3
    clear hc3 hR3 hi3
    go_wp2_with fail
    refine HC3.out.mono ?_
    intro e w4 ho
    clear HC3
    rcases out_cases ho with ⟨x3, j3, u, rfl, rfl, hv, hp, hb⟩ | ⟨a, er, rfl, rfl, hb⟩
    · have HP4 := Lib.hid hp; have HG4 := Lib.hid (gb_trans HG2.out hb)
      have HJ4 : Hid (i + 1 < j3 ∧ j3 ≤ v.L.length ∧ dpt x3 ≤ 500000) := Lib.hid (by have h : P1 v 0 (i + 1) x3 j3 := HI3.out; have h0 := hA.out.k.len; exact ⟨h.1, h.2.1, by have h1 := h.2.2.1; have h2 := h.2.1; omega⟩)
      obtain ⟨b3, rfl, hx⟩ := hv
      have HX3 := Lib.hid hx
      clear hx
      clear ho hp hb HP2 HG2  HI3
      go_wp2
      go_ret
      have EE : anyF v K pp i = Rs.ok (x3) (j3) := by
              unfold anyF
              rw [if_pos HS1.out]
              rw [HR3.out]; all_goals dsimp only [Rs.bind]
              all_goals rfl
      rw [EE]
      exact ⟨_, rfl, ⟨b3, rfl, HX3.out⟩, HP4.out, HG4.out⟩
    · have HG4 := Lib.hid (gb_trans HG2.out hb)
      clear ho hb HP2 HG2
      go_wp2
      refine ⟨rfl, ?_⟩
      have EE : anyF v K pp i = Rs.err a er := by
              unfold anyF
              rw [if_pos HS1.out]
              rw [HR3.out]; all_goals dsimp only [Rs.bind]
              all_goals rfl
      rw [EE]
      exact ⟨rfl, HG4.out⟩
  | false =>
    have HS1 := Lib.hid hS1
    clear hS1
    go_wp2_with fail
    refine (sySkipNo hA.out.k HP0.out HS1.out).mono ?_
    rintro e w5 ⟨rfl, hp, hb⟩
    have HP5 := Lib.hid hp; have HG5 := Lib.hid (gb_trans HG0.out hb)
    clear hp hb HP0 HG0 
    cases hS6 : isS v i ⟨#[108, 97, 98, 101, 108]⟩ with
    | true =>
      have HS6 := Lib.hid hS6
      have HJ7 : Hid (i < v.L.length) := Lib.hid (isS_lt hS6)
      clear hS6
      go_wp2_with fail
      refine (sySkipYes hA.out.k HP5.out HS6.out).mono ?_
      rintro e w7 ⟨rfl, hp, hb⟩
      have HP7 := Lib.hid hp; have HG7 := Lib.hid (gb_trans HG5.out hb)
      clear hp hb HP5 HG5 
      obtain ⟨R8, hR8⟩ : ∃ R, tak v 4 (i + 1) = R := ⟨_, rfl⟩
      have hi8 := tak_iv hA.out.q HP7.out.il (k := 4) (by decide)
      rw [hR8] at hi8
      have hc8 := syTake hA.out.k HP7.out 4 (by decide)
      rw [hR8] at hc8
      have HC8 := Lib.hid hc8; have HR8 := Lib.hid hR8
      have HI8 := Lib.hid hi8
      clear hc8 hR8 hi8
      go_wp2_with fail
      refine HC8.out.mono ?_
      intro e w9 ho
      clear HC8
      rcases out_cases ho with ⟨x8, j8, u, rfl, rfl, hv, hp, hb⟩ | ⟨a, er, rfl, rfl, hb⟩
      · have HP9 := Lib.hid hp; have HG9 := Lib.hid (gb_trans HG7.out hb)
        have HJ9 : Hid (i + 1 < j8 ∧ j8 ≤ v.L.length) := Lib.hid (by have h : T1 v (i + 1) x8 j8 := HI8.out; have h0 := hA.out.k.len; exact ⟨by have := h.1; omega, h.2⟩)
        obtain rfl := hv
        clear ho hp hb HP7 HG7  HI8
        obtain ⟨R10, hR10⟩ : ∃ R, ned v ⟨#[124]⟩ j8 = R := ⟨_, rfl⟩
        have hi10 := ned_iv hA.out.q HP9.out.il (s := ⟨#[124]⟩)
        rw [hR10] at hi10
        have hc10 := syNeed hA.out.k HP9.out ⟨#[124]⟩
        rw [hR10] at hc10
        have HC10 := Lib.hid hc10; have HR10 := Lib.hid hR10
        have HI10 := Lib.hid hi10
        clear hc10 hR10 hi10
        go_wp2_with fail
        refine HC10.out.mono ?_
        intro e w11 ho
        clear HC10
        rcases out_cases ho with ⟨x10, j10, u, rfl, rfl, hv, hp, hb⟩ | ⟨a, er, rfl, rfl, hb⟩
        · have HP11 := Lib.hid hp; have HG11 := Lib.hid (gb_trans HG9.out hb)
          have HJ11 : Hid (j8 < j10 ∧ j10 ≤ v.L.length) := Lib.hid (by have h : T1 v j8 x10 j10 := HI10.out; have h0 := hA.out.k.len; exact ⟨by have := h.1; omega, h.2⟩)
          obtain rfl := hv
          clear ho hp hb HP9 HG9  HI10
          obtain ⟨R12, hR12⟩ : ∃ R, K.pipe pp j10 = R := ⟨_, rfl⟩
          have hi12 := hI.out.pipe pp j10 HP11.out.il
          rw [hR12] at hi12
          have hc12 := hK.out.pipe _ (by have := HJ0.out; have := HJ7.out; have := HJ9.out; have := HJ11.out; omega) _ _ l HL.out.1 (Nat.lt_of_lt_of_le HL.out.2 HG11.out.size) HP11.out
          rw [hR12] at hc12
          have HC12 := Lib.hid hc12; have HR12 := Lib.hid hR12
          have HI12 := Lib.hid hi12
          clear hc12 hR12 hi12
          go_wp2_with fail
          refine HC12.out.mono ?_
          intro e w13 ho
          clear HC12
          rcases out_cases ho with ⟨x12, j12, u, rfl, rfl, hv, hp, hb⟩ | ⟨a, er, rfl, rfl, hb⟩
          · have HP13 := Lib.hid hp; have HG13 := Lib.hid (gb_trans HG11.out hb)
            have HJ13 : Hid (j10 < j12 ∧ j12 ≤ v.L.length ∧ dpt x12 ≤ 500000) := Lib.hid (by have h : P1 v 0 j10 x12 j12 := HI12.out; have h0 := hA.out.k.len; exact ⟨h.1, h.2.1, by have h1 := h.2.2.1; have h2 := h.2.1; omega⟩)
            obtain ⟨b12, rfl, hx⟩ := hv
            have HX12 := Lib.hid hx
            clear hx
            clear ho hp hb HP11 HG11  HI12
            have hd14 : dpt (Nd.mk 21 x8 [x12]) ≤ 500001 := by have h0 := hA.out.k.len; simp only [dpt, dps]; have := HJ13.out; omega
            have HJ14 := Lib.hid hd14
            clear hd14
            go_wp2_with fail
            refine (syNew1 (Nat.lt_of_lt_of_le HL.out.2 HG13.out.size) HX12.out (by have := HJ13.out; omega) 21 x8).mono ?_
            rintro e w15 ⟨b14, rfl, hb, hx⟩
            have HP15 := Lib.hid (HP13.out.below hb); have HG15 := Lib.hid (gb_trans HG13.out (gbOfB hb)); have HX14 := Lib.hid hx
            have HX16 := Lib.hid (HX12.out.keep (gbOfB (g := g) hb) HL.out.1)
            clear hb hx HP13 HG13 HX12
            go_wp2
            go_ret
            have EE : anyF v K pp i = Rs.ok (Nd.mk 21 x8 [x12]) (j12) := by
                          unfold anyF
                          rw [if_neg (by rw [HS1.out]; decide)]
                          rw [if_pos HS6.out]
                          rw [HR8.out]; all_goals dsimp only [Rs.bind]
                          rw [HR10.out]; all_goals dsimp only [Rs.bind]
                          rw [HR12.out]; all_goals dsimp only [Rs.bind]
                          all_goals rfl
            rw [EE]
            exact ⟨_, rfl, ⟨b14, rfl, HX14.out⟩, HP15.out, HG15.out⟩
          · have HG13 := Lib.hid (gb_trans HG11.out hb)
            clear ho hb HP11 HG11
            go_wp2
            refine ⟨rfl, ?_⟩
            have EE : anyF v K pp i = Rs.err a er := by
                          unfold anyF
                          rw [if_neg (by rw [HS1.out]; decide)]
                          rw [if_pos HS6.out]
                          rw [HR8.out]; all_goals dsimp only [Rs.bind]
                          rw [HR10.out]; all_goals dsimp only [Rs.bind]
                          rw [HR12.out]; all_goals dsimp only [Rs.bind]
                          all_goals rfl
            rw [EE]
            exact ⟨rfl, HG13.out⟩
        · have HG11 := Lib.hid (gb_trans HG9.out hb)
          clear ho hb HP9 HG9
          go_wp2
          refine ⟨rfl, ?_⟩
          have EE : anyF v K pp i = Rs.err a er := by
                      unfold anyF
                      rw [if_neg (by rw [HS1.out]; decide)]
                      rw [if_pos HS6.out]
                      rw [HR8.out]; all_goals dsimp only [Rs.bind]
                      rw [HR10.out]; all_goals dsimp only [Rs.bind]
                      all_goals rfl
          rw [EE]
          exact ⟨rfl, HG11.out⟩
      · have HG9 := Lib.hid (gb_trans HG7.out hb)
        clear ho hb HP7 HG7
        go_wp2
        refine ⟨rfl, ?_⟩
        have EE : anyF v K pp i = Rs.err a er := by
                  unfold anyF
                  rw [if_neg (by rw [HS1.out]; decide)]
                  rw [if_pos HS6.out]
                  rw [HR8.out]; all_goals dsimp only [Rs.bind]
                  all_goals rfl
        rw [EE]
        exact ⟨rfl, HG9.out⟩
    | false =>
      have HS6 := Lib.hid hS6
      clear hS6
      go_wp2_with fail
      refine (sySkipNo hA.out.k HP5.out HS6.out).mono ?_
      rintro e w17 ⟨rfl, hp, hb⟩
      have HP17 := Lib.hid hp; have HG17 := Lib.hid (gb_trans HG5.out hb)
      clear hp hb HP5 HG5 
      obtain ⟨R18, hR18⟩ : ∃ R, climbF v K 0 pp i = R := ⟨_, rfl⟩
      have hi18 := climbF_iv hA.out.q hI.out 0 pp HP17.out.il
      rw [hR18] at hi18
      have hc18 := syClimb hA hK hI 0 (by have := HJ0.out; omega) _ _ l HL.out.1 (Nat.lt_of_lt_of_le HL.out.2 HG17.out.size) HP17.out
      rw [hR18] at hc18
      have HC18 := Lib.hid hc18; have HR18 := Lib.hid hR18
      have HI18 := Lib.hid hi18
      clear hc18 hR18 hi18
      go_wp2_with fail
      refine HC18.out.mono ?_
      intro e w19 ho
      clear HC18
      rcases out_cases ho with ⟨x18, j18, u, rfl, rfl, hv, hp, hb⟩ | ⟨a, er, rfl, rfl, hb⟩
      · have HP19 := Lib.hid hp; have HG19 := Lib.hid (gb_trans HG17.out hb)
        have HJ19 : Hid (i < j18 ∧ j18 ≤ v.L.length ∧ dpt x18 ≤ 500000) := Lib.hid (by have h : P1 v 0 i x18 j18 := HI18.out; have h0 := hA.out.k.len; exact ⟨h.1, h.2.1, by have h1 := h.2.2.1; have h2 := h.2.1; omega⟩)
        obtain ⟨b18, rfl, hx⟩ := hv
        have HX18 := Lib.hid hx
        clear hx
        clear ho hp hb HP17 HG17  HI18
        cases hS20 : isS v j18 ⟨#[124]⟩ with
        | true =>
          have HS20 := Lib.hid hS20
          have HJ21 : Hid (j18 < v.L.length) := Lib.hid (isS_lt hS20)
          clear hS20
          go_wp2_with fail
          refine (sySkipYes hA.out.k HP19.out HS20.out).mono ?_
          rintro e w21 ⟨rfl, hp, hb⟩
          have HP21 := Lib.hid hp; have HG21 := Lib.hid (gb_trans HG19.out hb)
          have HX22 := Lib.hid (HX18.out.keep hb HL.out.1)
          clear hp hb HP19 HG19 HX18
          obtain ⟨R23, hR23⟩ : ∃ R, K.pipe pp (j18 + 1) = R := ⟨_, rfl⟩
          have hi23 := hI.out.pipe pp (j18 + 1) HP21.out.il
          rw [hR23] at hi23
          have hc23 := hK.out.pipe _ (by have := HJ0.out; have := HJ19.out; have := HJ21.out; omega) _ _ l HL.out.1 (Nat.lt_of_lt_of_le HL.out.2 HG21.out.size) HP21.out
          rw [hR23] at hc23
          have HC23 := Lib.hid hc23; have HR23 := Lib.hid hR23
          have HI23 := Lib.hid hi23
          clear hc23 hR23 hi23
          go_wp2_with fail
          refine HC23.out.mono ?_
          intro e w24 ho
          clear HC23
          rcases out_cases ho with ⟨x23, j23, u, rfl, rfl, hv, hp, hb⟩ | ⟨a, er, rfl, rfl, hb⟩
          · have HP24 := Lib.hid hp; have HG24 := Lib.hid (gb_trans HG21.out hb)
            have HJ24 : Hid (j18 + 1 < j23 ∧ j23 ≤ v.L.length ∧ dpt x23 ≤ 500000) := Lib.hid (by have h : P1 v 0 (j18 + 1) x23 j23 := HI23.out; have h0 := hA.out.k.len; exact ⟨h.1, h.2.1, by have h1 := h.2.2.1; have h2 := h.2.1; omega⟩)
            have HX25 := Lib.hid (HX22.out.keep hb HL.out.1)
            obtain ⟨b23, rfl, hx⟩ := hv
            have HX23 := Lib.hid hx
            clear hx
            clear ho hp hb HP21 HG21 HX22 HI23
            have hd26 : dpt (Nd.mk 15 SX.nil [x18, x23]) ≤ 500001 := by have h0 := hA.out.k.len; simp only [dpt, dps]; have := HJ19.out; have := HJ24.out; omega
            have HJ26 := Lib.hid hd26
            clear hd26
            go_wp2_with fail
            refine (syNew2 (Nat.lt_of_lt_of_le HL.out.2 HG24.out.size) HX25.out HX23.out (by have := HJ19.out; omega) (by have := HJ24.out; omega) 15 SX.nil).mono ?_
            rintro e w27 ⟨b26, rfl, hb, hx⟩
            have HP27 := Lib.hid (HP24.out.below hb); have HG27 := Lib.hid (gb_trans HG24.out (gbOfB hb)); have HX26 := Lib.hid hx
            have HX28 := Lib.hid (HX25.out.keep (gbOfB (g := g) hb) HL.out.1)
            have HX29 := Lib.hid (HX23.out.keep (gbOfB (g := g) hb) HL.out.1)
            clear hb hx HP24 HG24 HX25 HX23
            go_wp2
            go_ret
            have EE : anyF v K pp i = Rs.ok (Nd.mk 15 SX.nil [x18, x23]) (j23) := by
                          unfold anyF
                          rw [if_neg (by rw [HS1.out]; decide)]
                          rw [if_neg (by rw [HS6.out]; decide)]
                          rw [HR18.out]; all_goals dsimp only [Rs.bind]
                          rw [if_pos HS20.out]
                          rw [HR23.out]; all_goals dsimp only [Rs.bind]
                          all_goals rfl
            rw [EE]
            exact ⟨_, rfl, ⟨b26, rfl, HX26.out⟩, HP27.out, HG27.out⟩
          · have HG24 := Lib.hid (gb_trans HG21.out hb)
            clear ho hb HP21 HG21
            go_wp2
            refine ⟨rfl, ?_⟩
            have EE : anyF v K pp i = Rs.err a er := by
                          unfold anyF
                          rw [if_neg (by rw [HS1.out]; decide)]
                          rw [if_neg (by rw [HS6.out]; decide)]
                          rw [HR18.out]; all_goals dsimp only [Rs.bind]
                          rw [if_pos HS20.out]
                          rw [HR23.out]; all_goals dsimp only [Rs.bind]
                          all_goals rfl
            rw [EE]
            exact ⟨rfl, HG24.out⟩
        | false =>
          have HS20 := Lib.hid hS20
          clear hS20
          go_wp2_with fail
          refine (sySkipNo hA.out.k HP19.out HS20.out).mono ?_
          rintro e w30 ⟨rfl, hp, hb⟩
          have HP30 := Lib.hid hp; have HG30 := Lib.hid (gb_trans HG19.out hb)
          have HX31 := Lib.hid (HX18.out.keep hb HL.out.1)
          clear hp hb HP19 HG19 HX18
          go_wp2
          go_ret
          have EE : anyF v K pp i = Rs.ok (x18) (j18) := by
                      unfold anyF
                      rw [if_neg (by rw [HS1.out]; decide)]
                      rw [if_neg (by rw [HS6.out]; decide)]
                      rw [HR18.out]; all_goals dsimp only [Rs.bind]
                      rw [if_neg (by rw [HS20.out]; decide)]
                      all_goals rfl
          rw [EE]
          exact ⟨_, rfl, ⟨b18, rfl, HX31.out⟩, HP30.out, HG30.out⟩
      · have HG19 := Lib.hid (gb_trans HG17.out hb)
        clear ho hb HP17 HG17
        go_wp2
        refine ⟨rfl, ?_⟩
        have EE : anyF v K pp i = Rs.err a er := by
                  unfold anyF
                  rw [if_neg (by rw [HS1.out]; decide)]
                  rw [if_neg (by rw [HS6.out]; decide)]
                  rw [HR18.out]; all_goals dsimp only [Rs.bind]
                  all_goals rfl
        rw [EE]
        exact ⟨rfl, HG19.out⟩
end Go.Proofs.YtpgiljibicigeaaGreatDoor

/- syntax: pipe walked; the knot. -/
namespace Go.Proofs.YtpgiljibicigeaaGreatDoor
open Go.RowKit SX

set_option maxRecDepth 100000 in
set_option maxHeartbeats 4000000 in
theorem syPipe {v : Ev} {g n : Nat} {K : Kn} (hA : Hid (EvA v)) (hK : Hid (HKs v g K n)) (hI : Hid (IvK v K)) {i : Nat} (hn : v.L.length - i < n + 1) : Cn v g 22 (pipeF v K) i := by
  intro w pp l hgl hlw h
  show Calls Tryz.prog 22 #[ptr g] w (Out v g pp w (pipeF v K pp i) (VN l))
  have HFT : Hid (PB v w g i pp) := Lib.hid h
  obtain ⟨ao, cap, hx⟩ := h
  have c3 := hx.c3; have fz := hx.fz
  have hpl := hx.pl
  by_cases h6 : pp = 600
  · have EE : pipeF v K pp i = .err (plc v i) 6 := if_pos h6
    rw [EE]
    have q6 : ((pp : Int) == 600) = true := by rw [h6]; rfl
    obtain ⟨X, hX⟩ : ∃ X, plc v i = X := ⟨_, rfl⟩
    have hf := syFault hA.out.k HFT.out 6
    rw [hX] at hf ⊢
    have HF := Lib.hid hf
    clear h6 hx EE hf hX HFT hgl hlw hn
    go_enter Tryz.func22, Tryz.ntmps22
    go_wp2_with fail
    refine HF.out.mono ?_
    rintro e w1 ⟨rfl, hb⟩
    have HB := Lib.hid hb
    clear hb HF
    go_wp2
    refine ⟨rfl, ?_⟩
    exact ⟨rfl, gbOfB HB.out⟩
  · have EE : pipeF v K pp i = anyF v K (pp + 1) i := if_neg h6
    rw [EE]
    have q6 : ((pp : Int) == 600) = false := by rw [beq_eq_false_iff_ne]; omega
    have hib : (pp : Int) < 600 := by omega
    obtain ⟨R, hR⟩ : ∃ R, anyF v K (pp + 1) i = R := ⟨_, rfl⟩
    have hc := syAnyPipe hA hK hI hn (w.setCell ⟨g, 3, none⟩ (.int .i64 ((pp : Int) + 1))) (pp + 1) l hgl (by simpa using hlw) ⟨ao, cap, hx.pip (k := pp + 1) (by omega) (by omega)⟩
    rw [hR]
    have hc2 : Calls Tryz.prog 28 #[ptr g] (w.setCell ⟨g, 3, none⟩ (.int .i64 ((pp : Int) + 1))) (Out v g (pp + 1) (w.setCell ⟨g, 3, none⟩ (.int .i64 ((pp : Int) + 1))) R (VN l)) := by rw [← hR]; exact hc
    have HC := Lib.hid hc2
    have HG : Hid (w.grownBy (w.setCell ⟨g, 3, none⟩ (.int .i64 ((pp : Int) + 1))) (some g)) := Lib.hid (gb_set (gb_refl _ _) 3 _)
    have HL : Hid (g ≤ l) := Lib.hid hgl
    have HPL : Hid (pp ≤ 600) := Lib.hid hpl
    clear h6 hx EE hc hc2 hR HFT hgl hlw hn
    go_enter Tryz.func22, Tryz.ntmps22
    go_wp2_with fail
    refine HC.out.mono ?_
    intro e w2 ho
    clear HC
    rcases out_cases ho with ⟨x, j, u, rfl, rfl, hv, hp, hb⟩ | ⟨a, er, rfl, rfl, hb⟩
    · obtain ⟨b, rfl, hxx⟩ := hv
      obtain ⟨ao2, cap2, hp2⟩ := hp
      have d3 := hp2.c3; have fz2 := hp2.fz
      have HX := Lib.hid hxx; have HP2 := Lib.hid hp2; have HG2 := Lib.hid (gb_trans HG.out hb)
      have d3' : w2.cell? ⟨g, 3, none⟩ = some (.int .i64 ((pp : Int) + 1)) := by rw [d3]; congr 2
      clear ho hb hxx hp2 d3 HG c3 fz
      go_wp2
      go_ret
      exact ⟨_, rfl, ⟨b, rfl, HX.out.keep (gb_set (gb_refl _ _) 3 _) HL.out⟩, ⟨ao2, cap2, HP2.out.pip HPL.out (by omega)⟩, gb_set HG2.out 3 _⟩
    · have HG2 := Lib.hid (gb_trans HG.out hb)
      clear ho hb HG
      go_wp2
      refine ⟨rfl, ?_⟩
      exact ⟨rfl, HG2.out⟩
/-- the knot -/
theorem syKn {v : Ev} {g : Nat} (hA : Hid (EvA v)) : ∀ f, HKs v g (kn v f) f
  | 0 => ⟨fun i h => by omega, fun l i h => by omega, fun i h => by omega, fun i h => by omega, fun i h => by omega, fun i h => by omega⟩
  | f + 1 => by
    have hK := Lib.hid (syKn (g := g) hA f)
    have hI := Lib.hid (kn_iv hA.out.q f)
    exact ⟨fun i h => syPipe hA hK hI h, fun l i h w pp lo h1 h2 h3 => syClimb hA hK hI l h w pp lo h1 h2 h3, fun i h => syNegated hA hK hI h, fun i h => syPost hA hK hI h, fun i h => syPattern hA hK hI h, fun i h => syChoice hA hK hI (by omega)⟩
end Go.Proofs.YtpgiljibicigeaaGreatDoor

/- syntax: all walked: a fault is caught. -/
namespace Go.Proofs.YtpgiljibicigeaaGreatDoor
open Go.RowKit SX

set_option maxRecDepth 100000 in
set_option maxHeartbeats 4000000 in
theorem allCatch {w : World} {b N : Nat} {a er : Nat} {x y z : Value} (h2 : w.cell? ⟨b, 0, none⟩ = some x) (h3 : w.cell? ⟨b + 1, 0, none⟩ = some y) (h4 : w.cell? ⟨b + 2, 0, none⟩ = some z) (f2 : w.frozen? ⟨b, 0, none⟩ = false) (f3 : w.frozen? ⟨b + 1, 0, none⟩ = false) (f4 : w.frozen? ⟨b + 2, 0, none⟩ = false) (hN : N ≤ b) :
    CallsD Tryz.prog 21 #[.pointer (some ⟨b, 0, none⟩), .pointer (some ⟨b + 1, 0, none⟩), .pointer (some ⟨b + 2, 0, none⟩)] (.panicking (pan a er)) w fun e u' w' =>
      e = .returned (.tuple #[]) ∧ u' = .panicking [{ v := .iface 58 (.agg #[.int .i64 (a : Int), .int .i64 (er : Int)]), recovered := true }] ∧ w'.cell? ⟨b, 0, none⟩ = some (.pointer none) ∧ w'.cell? ⟨b + 1, 0, none⟩ = some (.int .i64 (a : Int)) ∧ w'.cell? ⟨b + 2, 0, none⟩ = some (.int .i64 (er : Int)) ∧ Below N w w' := by
  unfold pan
  have hta : ∀ (V : Value) (w : World), (Instr.typeAssert (.iface 58 V) 20 58 true).run Tryz.prog w = .ok (.tuple #[V, .bool true]) w := fun _ _ => by kernel_rfl
  refine callsD_of_wpS Tryz.func21 rfl fun c₀ cs hu => ?_
  apply wpS_seq
  apply wpS_region
  simp [wpOpsS, go_sem, recoverD, hu, Tryz.ntmps21, Exit.thenS]
  refine wpS_of_wp ?_
  go_wp2_with fail
  obtain ⟨w1, hw1⟩ : ∃ W, w.alloc (.cells #[.int .i64 (a : Int), .int .i64 (er : Int)] 58) = W := ⟨_, rfl⟩
  have hbl : b + 2 < w.heap.size := lt_of_cell h4
  have hbe : Below w.heap.size w w1 := by rw [← hw1]; exact (Below.refl _ _).alloc (Nat.le_refl _) _
  have k2 : w1.cell? ⟨b, 0, none⟩ = some x := by rw [hbe.cell (p := ⟨b, 0, none⟩) (by show b < _; omega)]; exact h2
  have k3 : w1.cell? ⟨b + 1, 0, none⟩ = some y := by rw [hbe.cell (p := ⟨b + 1, 0, none⟩) (by show b + 1 < _; omega)]; exact h3
  have k4 : w1.cell? ⟨b + 2, 0, none⟩ = some z := by rw [hbe.cell (p := ⟨b + 2, 0, none⟩) (by show b + 2 < _; omega)]; exact h4
  have z2 : w1.frozen? ⟨b, 0, none⟩ = false := (hbe.frozen (p := ⟨b, 0, none⟩) (show b < _ by omega)).trans f2
  have z3 : w1.frozen? ⟨b + 1, 0, none⟩ = false := (hbe.frozen (p := ⟨b + 1, 0, none⟩) (show b + 1 < _ by omega)).trans f3
  have z4 : w1.frozen? ⟨b + 2, 0, none⟩ = false := (hbe.frozen (p := ⟨b + 2, 0, none⟩) (show b + 2 < _ by omega)).trans f4
  have r0 : w1.cell? ⟨w.heap.size, 0, none⟩ = some (.int .i64 (a : Int)) := by rw [← hw1]; exact cell_new rfl
  have r1 : w1.cell? ⟨w.heap.size, 1, none⟩ = some (.int .i64 (er : Int)) := by rw [← hw1]; exact cell_new rfl
  have HS : Hid (Below N w w1) := Lib.hid (hbe.mono (by omega))
  have HN := Lib.hid hN
  rw [hw1]
  have n0 : ¬ b = w.heap.size := by omega
  have n1 : ¬ b + 1 = w.heap.size := by omega
  have n2 : ¬ b + 2 = w.heap.size := by omega
  clear h2 h3 h4 f2 f3 f4 hw1 hbl hbe hN
  obtain ⟨nb, hnb⟩ : ∃ n, w.heap.size = n := ⟨_, rfl⟩
  rw [hnb] at r0 r1 n0 n1 n2 ⊢
  clear hnb
  have m0 : ¬ nb = b := fun e => n0 e.symm
  have m1 : ¬ nb = b + 1 := fun e => n1 e.symm
  have m2 : ¬ nb = b + 2 := fun e => n2 e.symm
  go_region
  all_goals
    simp only [Exit.inBlock]
    first | show bodyPostS _ _ _ _ _ Exit.normal _ _ _ | trace_state
    simp [bodyPostS, results, Tryz.results21, go_sem, k2, k3, k4, z2, z3, z4]
    repeat' first | exact HS.out | exact HN.out | (have := HN.out; show N ≤ b + 1; omega) | (have := HN.out; show N ≤ b + 2; omega) | refine Below.drew ?_ | refine Below.setCell ?_ (p := ⟨_, 0, none⟩) ?_ _

set_option maxRecDepth 100000 in
set_option maxHeartbeats 4000000 in
theorem allIdle {w : World} (p q r : Value) :
    CallsD Tryz.prog 21 #[p, q, r] .returning w fun e u' w' => e = .returned (.tuple #[]) ∧ u' = .returning ∧ w' = w := by
  refine callsD_of_wpS Tryz.func21 rfl fun c₀ cs hu => ?_
  apply wpS_seq
  apply wpS_region
  simp [wpOpsS, go_sem, recoverD, hu, Tryz.ntmps21, Exit.thenS]
  refine wpS_of_wp ?_
  go_wp2_with fail
  show bodyPostS _ _ _ _ _ Exit.normal _ _ _
  cases c₀
  simp_all [bodyPostS, results, Tryz.results21]
end Go.Proofs.YtpgiljibicigeaaGreatDoor
