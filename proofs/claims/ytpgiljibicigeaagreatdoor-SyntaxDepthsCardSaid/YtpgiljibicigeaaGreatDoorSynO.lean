/- syntax: attempt, source, reduction, iteration, named, term, inner walked (gensyno.py) -/
import Derived.Test.YtpgiljibicigeaaGreatDoorSynNs
set_option linter.unusedVariables false
set_option linter.unusedSimpArgs false
namespace Go.Proofs.YtpgiljibicigeaaGreatDoor
open Go.RowKit SX

def VT (l : Nat) : Nd × Nd × Nd → Value → World → Prop := fun q u w' => ∃ a b c, u = .tuple #[ptr a, ptr b, ptr c] ∧ PR w' l q.1 a ∧ PR w' l q.2.1 b ∧ PR w' l q.2.2 c
set_option maxRecDepth 100000 in
set_option maxHeartbeats 4000000 in
theorem syAttempt {v : Ev} {g n : Nat} {K : Kn} (hA : Hid (EvA v)) (hK : Hid (HKs v g K n)) (hI : Hid (IvK v K)) {i : Nat} (hn : v.L.length - i < n) : Cn v g 114 (attemptF v K) i := by
  intro w pp l hgl hlw h
  have HL : Hid (g ≤ l ∧ l < w.heap.size) := Lib.hid ⟨hgl, hlw⟩; have HP0 := Lib.hid h; have HG0 : Hid (w.grownBy w (some g)) := Lib.hid (gb_refl _ _); have HJ0 := Lib.hid hn
  clear h hn hgl hlw
  show Calls Tryz.prog 114 #[ptr g] w (Out v g pp w (attemptF v K pp i) (VN l))
  go_enter Tryz.func114, Tryz.ntmps114
  obtain ⟨R1, hR1⟩ : ∃ R, K.post pp i = R := ⟨_, rfl⟩
  have hi1 := hI.out.post pp i HP0.out.il
  rw [hR1] at hi1
  have hc1 := hK.out.post _ (by have := HJ0.out; omega) _ _ l HL.out.1 (Nat.lt_of_lt_of_le HL.out.2 HG0.out.size) HP0.out
  rw [hR1] at hc1
  have HC1 := Lib.hid hc1; have HR1 := Lib.hid hR1
  have HI1 := Lib.hid hi1
  clear hc1 hR1 hi1
  go_wp2_with fail
  refine HC1.out.mono ?_
  intro e w2 ho
  clear HC1
  rcases out_cases ho with ⟨x1, j1, u, rfl, rfl, hv, hp, hb⟩ | ⟨a, er, rfl, rfl, hb⟩
  · have HP2 := Lib.hid hp; have HG2 := Lib.hid (gb_trans HG0.out hb)
    have HJ2 : Hid (i < j1 ∧ j1 ≤ v.L.length ∧ dpt x1 ≤ 500000) := Lib.hid (by have h : P1 v 0 i x1 j1 := HI1.out; have h0 := hA.out.k.len; exact ⟨h.1, h.2.1, by have h1 := h.2.2.1; have h2 := h.2.1; omega⟩)
    obtain ⟨b1, rfl, hx⟩ := hv
    have HX1 := Lib.hid hx
    clear hx
    clear ho hp hb HP0 HG0  HI1
    cases hS3 : isS v j1 ⟨#[99, 97, 116, 99, 104]⟩ with
    | true =>
      have HS3 := Lib.hid hS3
      have HJ4 : Hid (j1 < v.L.length) := Lib.hid (isS_lt hS3)
      clear hS3
      go_wp2_with fail
      refine (sySkipYes hA.out.k HP2.out HS3.out).mono ?_
      rintro e w4 ⟨rfl, hp, hb⟩
      have HP4 := Lib.hid hp; have HG4 := Lib.hid (gb_trans HG2.out hb)
      have HX5 := Lib.hid (HX1.out.keep hb HL.out.1)
      clear hp hb HP2 HG2 HX1
      obtain ⟨R6, hR6⟩ : ∃ R, K.post pp (j1 + 1) = R := ⟨_, rfl⟩
      have hi6 := hI.out.post pp (j1 + 1) HP4.out.il
      rw [hR6] at hi6
      have hc6 := hK.out.post _ (by have := HJ0.out; have := HJ2.out; have := HJ4.out; omega) _ _ l HL.out.1 (Nat.lt_of_lt_of_le HL.out.2 HG4.out.size) HP4.out
      rw [hR6] at hc6
      have HC6 := Lib.hid hc6; have HR6 := Lib.hid hR6
      have HI6 := Lib.hid hi6
      clear hc6 hR6 hi6
      go_wp2_with fail
      refine HC6.out.mono ?_
      intro e w7 ho
      clear HC6
      rcases out_cases ho with ⟨x6, j6, u, rfl, rfl, hv, hp, hb⟩ | ⟨a, er, rfl, rfl, hb⟩
      · have HP7 := Lib.hid hp; have HG7 := Lib.hid (gb_trans HG4.out hb)
        have HJ7 : Hid (j1 + 1 < j6 ∧ j6 ≤ v.L.length ∧ dpt x6 ≤ 500000) := Lib.hid (by have h : P1 v 0 (j1 + 1) x6 j6 := HI6.out; have h0 := hA.out.k.len; exact ⟨h.1, h.2.1, by have h1 := h.2.2.1; have h2 := h.2.1; omega⟩)
        have HX8 := Lib.hid (HX5.out.keep hb HL.out.1)
        obtain ⟨b6, rfl, hx⟩ := hv
        have HX6 := Lib.hid hx
        clear hx
        clear ho hp hb HP4 HG4 HX5 HI6
        have hd9 : dpt (Nd.mk 13 SX.nil [x1, x6]) ≤ 500001 := by have h0 := hA.out.k.len; simp only [dpt, dps]; have := HJ2.out; have := HJ7.out; omega
        have HJ9 := Lib.hid hd9
        clear hd9
        go_wp2_with fail
        refine (syNew2 (Nat.lt_of_lt_of_le HL.out.2 HG7.out.size) HX8.out HX6.out (by have := HJ2.out; omega) (by have := HJ7.out; omega) 13 SX.nil).mono ?_
        rintro e w10 ⟨b9, rfl, hb, hx⟩
        have HP10 := Lib.hid (HP7.out.below hb); have HG10 := Lib.hid (gb_trans HG7.out (gbOfB hb)); have HX9 := Lib.hid hx
        have HX11 := Lib.hid (HX8.out.keep (gbOfB (g := g) hb) HL.out.1)
        have HX12 := Lib.hid (HX6.out.keep (gbOfB (g := g) hb) HL.out.1)
        clear hb hx HP7 HG7 HX8 HX6
        go_wp2
        go_ret
        have EE : attemptF v K pp i = Rs.ok (Nd.mk 13 SX.nil [x1, x6]) (j6) := by
                  unfold attemptF
                  rw [HR1.out]; all_goals dsimp only [Rs.bind]
                  rw [if_pos HS3.out]
                  rw [HR6.out]; all_goals dsimp only [Rs.bind]
                  all_goals rfl
        rw [EE]
        exact ⟨_, rfl, ⟨b9, rfl, HX9.out⟩, HP10.out, HG10.out⟩
      · have HG7 := Lib.hid (gb_trans HG4.out hb)
        clear ho hb HP4 HG4
        go_wp2
        refine ⟨rfl, ?_⟩
        have EE : attemptF v K pp i = Rs.err a er := by
                  unfold attemptF
                  rw [HR1.out]; all_goals dsimp only [Rs.bind]
                  rw [if_pos HS3.out]
                  rw [HR6.out]; all_goals dsimp only [Rs.bind]
                  all_goals rfl
        rw [EE]
        exact ⟨rfl, HG7.out⟩
    | false =>
      have HS3 := Lib.hid hS3
      clear hS3
      go_wp2_with fail
      refine (sySkipNo hA.out.k HP2.out HS3.out).mono ?_
      rintro e w13 ⟨rfl, hp, hb⟩
      have HP13 := Lib.hid hp; have HG13 := Lib.hid (gb_trans HG2.out hb)
      have HX14 := Lib.hid (HX1.out.keep hb HL.out.1)
      clear hp hb HP2 HG2 HX1
      have hd15 : dpt (Nd.mk 13 SX.nil [x1]) ≤ 500001 := by have h0 := hA.out.k.len; simp only [dpt, dps]; have := HJ2.out; omega
      have HJ15 := Lib.hid hd15
      clear hd15
      go_wp2_with fail
      refine (syNew1 (Nat.lt_of_lt_of_le HL.out.2 HG13.out.size) HX14.out (by have := HJ2.out; omega) 13 SX.nil).mono ?_
      rintro e w16 ⟨b15, rfl, hb, hx⟩
      have HP16 := Lib.hid (HP13.out.below hb); have HG16 := Lib.hid (gb_trans HG13.out (gbOfB hb)); have HX15 := Lib.hid hx
      have HX17 := Lib.hid (HX14.out.keep (gbOfB (g := g) hb) HL.out.1)
      clear hb hx HP13 HG13 HX14
      go_wp2
      go_ret
      have EE : attemptF v K pp i = Rs.ok (Nd.mk 13 SX.nil [x1]) (j1) := by
              unfold attemptF
              rw [HR1.out]; all_goals dsimp only [Rs.bind]
              rw [if_neg (by rw [HS3.out]; decide)]
              all_goals rfl
      rw [EE]
      exact ⟨_, rfl, ⟨b15, rfl, HX15.out⟩, HP16.out, HG16.out⟩
  · have HG2 := Lib.hid (gb_trans HG0.out hb)
    clear ho hb HP0 HG0
    go_wp2
    refine ⟨rfl, ?_⟩
    have EE : attemptF v K pp i = Rs.err a er := by
          unfold attemptF
          rw [HR1.out]; all_goals dsimp only [Rs.bind]
          all_goals rfl
    rw [EE]
    exact ⟨rfl, HG2.out⟩
set_option maxRecDepth 100000 in
set_option maxHeartbeats 4000000 in
theorem sySource {v : Ev} {g n : Nat} {K : Kn} (hA : Hid (EvA v)) (hK : Hid (HKs v g K n)) (hI : Hid (IvK v K)) {i : Nat} (hn : v.L.length - i < n) (w : World) (pp l : Nat) (hgl : g ≤ l) (hlw : l < w.heap.size) (h : PB v w g i pp) : Calls Tryz.prog 125 #[ptr g] w (Out v g pp w (sourceF v K pp i) (VT l)) := by
  have HL : Hid (g ≤ l ∧ l < w.heap.size) := Lib.hid ⟨hgl, hlw⟩; have HP0 := Lib.hid h; have HG0 : Hid (w.grownBy w (some g)) := Lib.hid (gb_refl _ _); have HJ0 := Lib.hid hn
  clear h hn hgl hlw
  go_enter Tryz.func125, Tryz.ntmps125
  obtain ⟨R18, hR18⟩ : ∃ R, K.post pp i = R := ⟨_, rfl⟩
  have hi18 := hI.out.post pp i HP0.out.il
  rw [hR18] at hi18
  have hc18 := hK.out.post _ (by have := HJ0.out; omega) _ _ l HL.out.1 (Nat.lt_of_lt_of_le HL.out.2 HG0.out.size) HP0.out
  rw [hR18] at hc18
  have HC18 := Lib.hid hc18; have HR18 := Lib.hid hR18
  have HI18 := Lib.hid hi18
  clear hc18 hR18 hi18
  go_wp2_with fail
  refine HC18.out.mono ?_
  intro e w19 ho
  clear HC18
  rcases out_cases ho with ⟨x18, j18, u, rfl, rfl, hv, hp, hb⟩ | ⟨a, er, rfl, rfl, hb⟩
  · have HP19 := Lib.hid hp; have HG19 := Lib.hid (gb_trans HG0.out hb)
    have HJ19 : Hid (i < j18 ∧ j18 ≤ v.L.length ∧ dpt x18 ≤ 500000) := Lib.hid (by have h : P1 v 0 i x18 j18 := HI18.out; have h0 := hA.out.k.len; exact ⟨h.1, h.2.1, by have h1 := h.2.2.1; have h2 := h.2.1; omega⟩)
    obtain ⟨b18, rfl, hx⟩ := hv
    have HX18 := Lib.hid hx
    clear hx
    clear ho hp hb HP0 HG0  HI18
    obtain ⟨R20, hR20⟩ : ∃ R, ned v ⟨#[97, 115]⟩ j18 = R := ⟨_, rfl⟩
    have hi20 := ned_iv hA.out.q HP19.out.il (s := ⟨#[97, 115]⟩)
    rw [hR20] at hi20
    have hc20 := syNeed hA.out.k HP19.out ⟨#[97, 115]⟩
    rw [hR20] at hc20
    have HC20 := Lib.hid hc20; have HR20 := Lib.hid hR20
    have HI20 := Lib.hid hi20
    clear hc20 hR20 hi20
    go_wp2_with fail
    refine HC20.out.mono ?_
    intro e w21 ho
    clear HC20
    rcases out_cases ho with ⟨x20, j20, u, rfl, rfl, hv, hp, hb⟩ | ⟨a, er, rfl, rfl, hb⟩
    · have HP21 := Lib.hid hp; have HG21 := Lib.hid (gb_trans HG19.out hb)
      have HJ21 : Hid (j18 < j20 ∧ j20 ≤ v.L.length) := Lib.hid (by have h : T1 v j18 x20 j20 := HI20.out; have h0 := hA.out.k.len; exact ⟨by have := h.1; omega, h.2⟩)
      have HX22 := Lib.hid (HX18.out.keep hb HL.out.1)
      obtain rfl := hv
      clear ho hp hb HP19 HG19 HX18 HI20
      obtain ⟨R23, hR23⟩ : ∃ R, K.pat pp j20 = R := ⟨_, rfl⟩
      have hi23 := hI.out.pat pp j20 HP21.out.il
      rw [hR23] at hi23
      have hc23 := hK.out.pat _ (by have := HJ0.out; have := HJ19.out; have := HJ21.out; omega) _ _ l HL.out.1 (Nat.lt_of_lt_of_le HL.out.2 HG21.out.size) HP21.out
      rw [hR23] at hc23
      have HC23 := Lib.hid hc23; have HR23 := Lib.hid hR23
      have HI23 := Lib.hid hi23
      clear hc23 hR23 hi23
      go_wp2_with fail
      refine HC23.out.mono ?_
      intro e w24 ho
      clear HC23
      rcases out_cases ho with ⟨x23, j23, u, rfl, rfl, hv, hp, hb⟩ | ⟨a, er, rfl, rfl, hb⟩
      · have HP24 := Lib.hid hp; have HG24 := Lib.hid (gb_trans HG21.out hb)
        have HJ24 : Hid (j20 < j23 ∧ j23 ≤ v.L.length ∧ dpt x23 ≤ 500000) := Lib.hid (by have h : P1 v 0 j20 x23 j23 := HI23.out; have h0 := hA.out.k.len; exact ⟨h.1, h.2.1, by have h1 := h.2.2.1; have h2 := h.2.1; omega⟩)
        have HX25 := Lib.hid (HX22.out.keep hb HL.out.1)
        obtain ⟨b23, rfl, hx⟩ := hv
        have HX23 := Lib.hid hx
        clear hx
        clear ho hp hb HP21 HG21 HX22 HI23
        obtain ⟨R26, hR26⟩ : ∃ R, ned v ⟨#[40]⟩ j23 = R := ⟨_, rfl⟩
        have hi26 := ned_iv hA.out.q HP24.out.il (s := ⟨#[40]⟩)
        rw [hR26] at hi26
        have hc26 := syNeed hA.out.k HP24.out ⟨#[40]⟩
        rw [hR26] at hc26
        have HC26 := Lib.hid hc26; have HR26 := Lib.hid hR26
        have HI26 := Lib.hid hi26
        clear hc26 hR26 hi26
        go_wp2_with fail
        refine HC26.out.mono ?_
        intro e w27 ho
        clear HC26
        rcases out_cases ho with ⟨x26, j26, u, rfl, rfl, hv, hp, hb⟩ | ⟨a, er, rfl, rfl, hb⟩
        · have HP27 := Lib.hid hp; have HG27 := Lib.hid (gb_trans HG24.out hb)
          have HJ27 : Hid (j23 < j26 ∧ j26 ≤ v.L.length) := Lib.hid (by have h : T1 v j23 x26 j26 := HI26.out; have h0 := hA.out.k.len; exact ⟨by have := h.1; omega, h.2⟩)
          have HX28 := Lib.hid (HX25.out.keep hb HL.out.1)
          have HX29 := Lib.hid (HX23.out.keep hb HL.out.1)
          obtain rfl := hv
          clear ho hp hb HP24 HG24 HX25 HX23 HI26
          obtain ⟨R30, hR30⟩ : ∃ R, K.pipe pp j26 = R := ⟨_, rfl⟩
          have hi30 := hI.out.pipe pp j26 HP27.out.il
          rw [hR30] at hi30
          have hc30 := hK.out.pipe _ (by have := HJ0.out; have := HJ19.out; have := HJ21.out; have := HJ24.out; have := HJ27.out; omega) _ _ l HL.out.1 (Nat.lt_of_lt_of_le HL.out.2 HG27.out.size) HP27.out
          rw [hR30] at hc30
          have HC30 := Lib.hid hc30; have HR30 := Lib.hid hR30
          have HI30 := Lib.hid hi30
          clear hc30 hR30 hi30
          go_wp2_with fail
          refine HC30.out.mono ?_
          intro e w31 ho
          clear HC30
          rcases out_cases ho with ⟨x30, j30, u, rfl, rfl, hv, hp, hb⟩ | ⟨a, er, rfl, rfl, hb⟩
          · have HP31 := Lib.hid hp; have HG31 := Lib.hid (gb_trans HG27.out hb)
            have HJ31 : Hid (j26 < j30 ∧ j30 ≤ v.L.length ∧ dpt x30 ≤ 500000) := Lib.hid (by have h : P1 v 0 j26 x30 j30 := HI30.out; have h0 := hA.out.k.len; exact ⟨h.1, h.2.1, by have h1 := h.2.2.1; have h2 := h.2.1; omega⟩)
            have HX32 := Lib.hid (HX28.out.keep hb HL.out.1)
            have HX33 := Lib.hid (HX29.out.keep hb HL.out.1)
            obtain ⟨b30, rfl, hx⟩ := hv
            have HX30 := Lib.hid hx
            clear hx
            clear ho hp hb HP27 HG27 HX28 HX29 HI30
            obtain ⟨R34, hR34⟩ : ∃ R, ned v ⟨#[59]⟩ j30 = R := ⟨_, rfl⟩
            have hi34 := ned_iv hA.out.q HP31.out.il (s := ⟨#[59]⟩)
            rw [hR34] at hi34
            have hc34 := syNeed hA.out.k HP31.out ⟨#[59]⟩
            rw [hR34] at hc34
            have HC34 := Lib.hid hc34; have HR34 := Lib.hid hR34
            have HI34 := Lib.hid hi34
            clear hc34 hR34 hi34
            go_wp2_with fail
            refine HC34.out.mono ?_
            intro e w35 ho
            clear HC34
            rcases out_cases ho with ⟨x34, j34, u, rfl, rfl, hv, hp, hb⟩ | ⟨a, er, rfl, rfl, hb⟩
            · have HP35 := Lib.hid hp; have HG35 := Lib.hid (gb_trans HG31.out hb)
              have HJ35 : Hid (j30 < j34 ∧ j34 ≤ v.L.length) := Lib.hid (by have h : T1 v j30 x34 j34 := HI34.out; have h0 := hA.out.k.len; exact ⟨by have := h.1; omega, h.2⟩)
              have HX36 := Lib.hid (HX32.out.keep hb HL.out.1)
              have HX37 := Lib.hid (HX33.out.keep hb HL.out.1)
              have HX38 := Lib.hid (HX30.out.keep hb HL.out.1)
              obtain rfl := hv
              clear ho hp hb HP31 HG31 HX32 HX33 HX30 HI34
              go_wp2
              refine bodyPost_ret (v := .tuple #[ptr b18, ptr b23, ptr b30]) (by simp [results, Tryz.results125, go_sem]) rfl ?_
              have EE : sourceF v K pp i = Rs.ok ((x18, x23, x30)) (j34) := by
                              unfold sourceF
                              rw [HR18.out]; all_goals dsimp only [Rs.bind]
                              rw [HR20.out]; all_goals dsimp only [Rs.bind]
                              rw [HR23.out]; all_goals dsimp only [Rs.bind]
                              rw [HR26.out]; all_goals dsimp only [Rs.bind]
                              rw [HR30.out]; all_goals dsimp only [Rs.bind]
                              rw [HR34.out]; all_goals dsimp only [Rs.bind]
                              all_goals rfl
              rw [EE]
              exact ⟨_, rfl, ⟨b18, b23, b30, rfl, HX36.out, HX37.out, HX38.out⟩, HP35.out, HG35.out⟩
            · have HG35 := Lib.hid (gb_trans HG31.out hb)
              clear ho hb HP31 HG31
              go_wp2
              refine ⟨rfl, ?_⟩
              have EE : sourceF v K pp i = Rs.err a er := by
                              unfold sourceF
                              rw [HR18.out]; all_goals dsimp only [Rs.bind]
                              rw [HR20.out]; all_goals dsimp only [Rs.bind]
                              rw [HR23.out]; all_goals dsimp only [Rs.bind]
                              rw [HR26.out]; all_goals dsimp only [Rs.bind]
                              rw [HR30.out]; all_goals dsimp only [Rs.bind]
                              rw [HR34.out]; all_goals dsimp only [Rs.bind]
                              all_goals rfl
              rw [EE]
              exact ⟨rfl, HG35.out⟩
          · have HG31 := Lib.hid (gb_trans HG27.out hb)
            clear ho hb HP27 HG27
            go_wp2
            refine ⟨rfl, ?_⟩
            have EE : sourceF v K pp i = Rs.err a er := by
                          unfold sourceF
                          rw [HR18.out]; all_goals dsimp only [Rs.bind]
                          rw [HR20.out]; all_goals dsimp only [Rs.bind]
                          rw [HR23.out]; all_goals dsimp only [Rs.bind]
                          rw [HR26.out]; all_goals dsimp only [Rs.bind]
                          rw [HR30.out]; all_goals dsimp only [Rs.bind]
                          all_goals rfl
            rw [EE]
            exact ⟨rfl, HG31.out⟩
        · have HG27 := Lib.hid (gb_trans HG24.out hb)
          clear ho hb HP24 HG24
          go_wp2
          refine ⟨rfl, ?_⟩
          have EE : sourceF v K pp i = Rs.err a er := by
                      unfold sourceF
                      rw [HR18.out]; all_goals dsimp only [Rs.bind]
                      rw [HR20.out]; all_goals dsimp only [Rs.bind]
                      rw [HR23.out]; all_goals dsimp only [Rs.bind]
                      rw [HR26.out]; all_goals dsimp only [Rs.bind]
                      all_goals rfl
          rw [EE]
          exact ⟨rfl, HG27.out⟩
      · have HG24 := Lib.hid (gb_trans HG21.out hb)
        clear ho hb HP21 HG21
        go_wp2
        refine ⟨rfl, ?_⟩
        have EE : sourceF v K pp i = Rs.err a er := by
                  unfold sourceF
                  rw [HR18.out]; all_goals dsimp only [Rs.bind]
                  rw [HR20.out]; all_goals dsimp only [Rs.bind]
                  rw [HR23.out]; all_goals dsimp only [Rs.bind]
                  all_goals rfl
        rw [EE]
        exact ⟨rfl, HG24.out⟩
    · have HG21 := Lib.hid (gb_trans HG19.out hb)
      clear ho hb HP19 HG19
      go_wp2
      refine ⟨rfl, ?_⟩
      have EE : sourceF v K pp i = Rs.err a er := by
              unfold sourceF
              rw [HR18.out]; all_goals dsimp only [Rs.bind]
              rw [HR20.out]; all_goals dsimp only [Rs.bind]
              all_goals rfl
      rw [EE]
      exact ⟨rfl, HG21.out⟩
  · have HG19 := Lib.hid (gb_trans HG0.out hb)
    clear ho hb HP0 HG0
    go_wp2
    refine ⟨rfl, ?_⟩
    have EE : sourceF v K pp i = Rs.err a er := by
          unfold sourceF
          rw [HR18.out]; all_goals dsimp only [Rs.bind]
          all_goals rfl
    rw [EE]
    exact ⟨rfl, HG19.out⟩
set_option maxRecDepth 100000 in
set_option maxHeartbeats 4000000 in
theorem syReduce {v : Ev} {g n : Nat} {K : Kn} (hA : Hid (EvA v)) (hK : Hid (HKs v g K n)) (hI : Hid (IvK v K)) {i : Nat} (hn : v.L.length - i < n) : Cn v g 115 (reduceF v K) i := by
  intro w pp l hgl hlw h
  have HL : Hid (g ≤ l ∧ l < w.heap.size) := Lib.hid ⟨hgl, hlw⟩; have HP0 := Lib.hid h; have HG0 : Hid (w.grownBy w (some g)) := Lib.hid (gb_refl _ _); have HJ0 := Lib.hid hn
  clear h hn hgl hlw
  show Calls Tryz.prog 115 #[ptr g] w (Out v g pp w (reduceF v K pp i) (VN l))
  go_enter Tryz.func115, Tryz.ntmps115
  obtain ⟨R39, hR39⟩ : ∃ R, sourceF v K pp i = R := ⟨_, rfl⟩
  have hi39 := sourceF_iv hA.out.q hI.out pp HP0.out.il
  rw [hR39] at hi39
  have hc39 := sySource hA hK hI (by have := HJ0.out; omega) w pp l HL.out.1 (Nat.lt_of_lt_of_le HL.out.2 HG0.out.size) HP0.out
  rw [hR39] at hc39
  have HC39 := Lib.hid hc39; have HR39 := Lib.hid hR39
  have HI39 := Lib.hid hi39
  clear hc39 hR39 hi39
  go_wp2_with fail
  refine HC39.out.mono ?_
  intro e w40 ho
  clear HC39
  rcases out_cases ho with ⟨x39, j39, u, rfl, rfl, hv, hp, hb⟩ | ⟨a, er, rfl, rfl, hb⟩
  · have HP40 := Lib.hid hp; have HG40 := Lib.hid (gb_trans HG0.out hb)
    have HJ40 : Hid (i < j39 ∧ j39 ≤ v.L.length ∧ dpt x39.1 ≤ 500000 ∧ dpt x39.2.1 ≤ 500000 ∧ dpt x39.2.2 ≤ 500000) := Lib.hid (by have h : SP v i x39 j39 := HI39.out; have h0 := hA.out.k.len; exact ⟨h.1, h.2.1, by have h1 := h.2.2.1; have h2 := h.2.1; simp only [dps] at h1; omega, by have h1 := h.2.2.1; have h2 := h.2.1; simp only [dps] at h1; omega, by have h1 := h.2.2.1; have h2 := h.2.1; simp only [dps] at h1; omega⟩)
    obtain ⟨t39, r39, s39, rfl, hx, hy, hz⟩ := hv
    have HTX39 := Lib.hid hx; have HTY39 := Lib.hid hy; have HTZ39 := Lib.hid hz
    clear hx hy hz
    clear ho hp hb HP0 HG0  HI39
    obtain ⟨R41, hR41⟩ : ∃ R, K.pipe pp j39 = R := ⟨_, rfl⟩
    have hi41 := hI.out.pipe pp j39 HP40.out.il
    rw [hR41] at hi41
    have hc41 := hK.out.pipe _ (by have := HJ0.out; have := HJ40.out; omega) _ _ l HL.out.1 (Nat.lt_of_lt_of_le HL.out.2 HG40.out.size) HP40.out
    rw [hR41] at hc41
    have HC41 := Lib.hid hc41; have HR41 := Lib.hid hR41
    have HI41 := Lib.hid hi41
    clear hc41 hR41 hi41
    go_wp2_with fail
    refine HC41.out.mono ?_
    intro e w42 ho
    clear HC41
    rcases out_cases ho with ⟨x41, j41, u, rfl, rfl, hv, hp, hb⟩ | ⟨a, er, rfl, rfl, hb⟩
    · have HP42 := Lib.hid hp; have HG42 := Lib.hid (gb_trans HG40.out hb)
      have HJ42 : Hid (j39 < j41 ∧ j41 ≤ v.L.length ∧ dpt x41 ≤ 500000) := Lib.hid (by have h : P1 v 0 j39 x41 j41 := HI41.out; have h0 := hA.out.k.len; exact ⟨h.1, h.2.1, by have h1 := h.2.2.1; have h2 := h.2.1; omega⟩)
      have HX43 := Lib.hid (HTX39.out.keep hb HL.out.1)
      have HX44 := Lib.hid (HTY39.out.keep hb HL.out.1)
      have HX45 := Lib.hid (HTZ39.out.keep hb HL.out.1)
      obtain ⟨b41, rfl, hx⟩ := hv
      have HX41 := Lib.hid hx
      clear hx
      clear ho hp hb HP40 HG40 HTX39 HTY39 HTZ39 HI41
      obtain ⟨R46, hR46⟩ : ∃ R, ned v ⟨#[41]⟩ j41 = R := ⟨_, rfl⟩
      have hi46 := ned_iv hA.out.q HP42.out.il (s := ⟨#[41]⟩)
      rw [hR46] at hi46
      have hc46 := syNeed hA.out.k HP42.out ⟨#[41]⟩
      rw [hR46] at hc46
      have HC46 := Lib.hid hc46; have HR46 := Lib.hid hR46
      have HI46 := Lib.hid hi46
      clear hc46 hR46 hi46
      go_wp2_with fail
      refine HC46.out.mono ?_
      intro e w47 ho
      clear HC46
      rcases out_cases ho with ⟨x46, j46, u, rfl, rfl, hv, hp, hb⟩ | ⟨a, er, rfl, rfl, hb⟩
      · have HP47 := Lib.hid hp; have HG47 := Lib.hid (gb_trans HG42.out hb)
        have HJ47 : Hid (j41 < j46 ∧ j46 ≤ v.L.length) := Lib.hid (by have h : T1 v j41 x46 j46 := HI46.out; have h0 := hA.out.k.len; exact ⟨by have := h.1; omega, h.2⟩)
        have HX48 := Lib.hid (HX43.out.keep hb HL.out.1)
        have HX49 := Lib.hid (HX44.out.keep hb HL.out.1)
        have HX50 := Lib.hid (HX45.out.keep hb HL.out.1)
        have HX51 := Lib.hid (HX41.out.keep hb HL.out.1)
        obtain rfl := hv
        clear ho hp hb HP42 HG42 HX43 HX44 HX45 HX41 HI46
        have hd52 : dpt (Nd.mk 19 SX.nil [x39.1, x39.2.1, x39.2.2, x41]) ≤ 500001 := by have h0 := hA.out.k.len; simp only [dpt, dps]; have := HJ40.out; have := HJ40.out; have := HJ40.out; have := HJ42.out; omega
        have HJ52 := Lib.hid hd52
        clear hd52
        go_wp2_with fail
        refine (syNew4 (Nat.lt_of_lt_of_le HL.out.2 HG47.out.size) HX48.out HX49.out HX50.out HX51.out (by have := HJ40.out; omega) (by have := HJ40.out; omega) (by have := HJ40.out; omega) (by have := HJ42.out; omega) 19 SX.nil).mono ?_
        rintro e w53 ⟨b52, rfl, hb, hx⟩
        have HP53 := Lib.hid (HP47.out.below hb); have HG53 := Lib.hid (gb_trans HG47.out (gbOfB hb)); have HX52 := Lib.hid hx
        have HX54 := Lib.hid (HX48.out.keep (gbOfB (g := g) hb) HL.out.1)
        have HX55 := Lib.hid (HX49.out.keep (gbOfB (g := g) hb) HL.out.1)
        have HX56 := Lib.hid (HX50.out.keep (gbOfB (g := g) hb) HL.out.1)
        have HX57 := Lib.hid (HX51.out.keep (gbOfB (g := g) hb) HL.out.1)
        clear hb hx HP47 HG47 HX48 HX49 HX50 HX51
        go_wp2
        go_ret
        have EE : reduceF v K pp i = Rs.ok (Nd.mk 19 SX.nil [x39.1, x39.2.1, x39.2.2, x41]) (j46) := by
                  unfold reduceF
                  rw [HR39.out]; all_goals dsimp only [Rs.bind]
                  rw [HR41.out]; all_goals dsimp only [Rs.bind]
                  rw [HR46.out]; all_goals dsimp only [Rs.bind]
                  all_goals rfl
        rw [EE]
        exact ⟨_, rfl, ⟨b52, rfl, HX52.out⟩, HP53.out, HG53.out⟩
      · have HG47 := Lib.hid (gb_trans HG42.out hb)
        clear ho hb HP42 HG42
        go_wp2
        refine ⟨rfl, ?_⟩
        have EE : reduceF v K pp i = Rs.err a er := by
                  unfold reduceF
                  rw [HR39.out]; all_goals dsimp only [Rs.bind]
                  rw [HR41.out]; all_goals dsimp only [Rs.bind]
                  rw [HR46.out]; all_goals dsimp only [Rs.bind]
                  all_goals rfl
        rw [EE]
        exact ⟨rfl, HG47.out⟩
    · have HG42 := Lib.hid (gb_trans HG40.out hb)
      clear ho hb HP40 HG40
      go_wp2
      refine ⟨rfl, ?_⟩
      have EE : reduceF v K pp i = Rs.err a er := by
              unfold reduceF
              rw [HR39.out]; all_goals dsimp only [Rs.bind]
              rw [HR41.out]; all_goals dsimp only [Rs.bind]
              all_goals rfl
      rw [EE]
      exact ⟨rfl, HG42.out⟩
  · have HG40 := Lib.hid (gb_trans HG0.out hb)
    clear ho hb HP0 HG0
    go_wp2
    refine ⟨rfl, ?_⟩
    have EE : reduceF v K pp i = Rs.err a er := by
          unfold reduceF
          rw [HR39.out]; all_goals dsimp only [Rs.bind]
          all_goals rfl
    rw [EE]
    exact ⟨rfl, HG40.out⟩
set_option maxRecDepth 100000 in
set_option maxHeartbeats 4000000 in
theorem syForeach {v : Ev} {g n : Nat} {K : Kn} (hA : Hid (EvA v)) (hK : Hid (HKs v g K n)) (hI : Hid (IvK v K)) {i : Nat} (hn : v.L.length - i < n) : Cn v g 116 (foreachF v K) i := by
  intro w pp l hgl hlw h
  have HL : Hid (g ≤ l ∧ l < w.heap.size) := Lib.hid ⟨hgl, hlw⟩; have HP0 := Lib.hid h; have HG0 : Hid (w.grownBy w (some g)) := Lib.hid (gb_refl _ _); have HJ0 := Lib.hid hn
  clear h hn hgl hlw
  show Calls Tryz.prog 116 #[ptr g] w (Out v g pp w (foreachF v K pp i) (VN l))
  go_enter Tryz.func116, Tryz.ntmps116
  obtain ⟨R58, hR58⟩ : ∃ R, sourceF v K pp i = R := ⟨_, rfl⟩
  have hi58 := sourceF_iv hA.out.q hI.out pp HP0.out.il
  rw [hR58] at hi58
  have hc58 := sySource hA hK hI (by have := HJ0.out; omega) w pp l HL.out.1 (Nat.lt_of_lt_of_le HL.out.2 HG0.out.size) HP0.out
  rw [hR58] at hc58
  have HC58 := Lib.hid hc58; have HR58 := Lib.hid hR58
  have HI58 := Lib.hid hi58
  clear hc58 hR58 hi58
  go_wp2_with fail
  refine HC58.out.mono ?_
  intro e w59 ho
  clear HC58
  rcases out_cases ho with ⟨x58, j58, u, rfl, rfl, hv, hp, hb⟩ | ⟨a, er, rfl, rfl, hb⟩
  · have HP59 := Lib.hid hp; have HG59 := Lib.hid (gb_trans HG0.out hb)
    have HJ59 : Hid (i < j58 ∧ j58 ≤ v.L.length ∧ dpt x58.1 ≤ 500000 ∧ dpt x58.2.1 ≤ 500000 ∧ dpt x58.2.2 ≤ 500000) := Lib.hid (by have h : SP v i x58 j58 := HI58.out; have h0 := hA.out.k.len; exact ⟨h.1, h.2.1, by have h1 := h.2.2.1; have h2 := h.2.1; simp only [dps] at h1; omega, by have h1 := h.2.2.1; have h2 := h.2.1; simp only [dps] at h1; omega, by have h1 := h.2.2.1; have h2 := h.2.1; simp only [dps] at h1; omega⟩)
    obtain ⟨t58, r58, s58, rfl, hx, hy, hz⟩ := hv
    have HTX58 := Lib.hid hx; have HTY58 := Lib.hid hy; have HTZ58 := Lib.hid hz
    clear hx hy hz
    clear ho hp hb HP0 HG0  HI58
    obtain ⟨R60, hR60⟩ : ∃ R, K.pipe pp j58 = R := ⟨_, rfl⟩
    have hi60 := hI.out.pipe pp j58 HP59.out.il
    rw [hR60] at hi60
    have hc60 := hK.out.pipe _ (by have := HJ0.out; have := HJ59.out; omega) _ _ l HL.out.1 (Nat.lt_of_lt_of_le HL.out.2 HG59.out.size) HP59.out
    rw [hR60] at hc60
    have HC60 := Lib.hid hc60; have HR60 := Lib.hid hR60
    have HI60 := Lib.hid hi60
    clear hc60 hR60 hi60
    go_wp2_with fail
    refine HC60.out.mono ?_
    intro e w61 ho
    clear HC60
    rcases out_cases ho with ⟨x60, j60, u, rfl, rfl, hv, hp, hb⟩ | ⟨a, er, rfl, rfl, hb⟩
    · have HP61 := Lib.hid hp; have HG61 := Lib.hid (gb_trans HG59.out hb)
      have HJ61 : Hid (j58 < j60 ∧ j60 ≤ v.L.length ∧ dpt x60 ≤ 500000) := Lib.hid (by have h : P1 v 0 j58 x60 j60 := HI60.out; have h0 := hA.out.k.len; exact ⟨h.1, h.2.1, by have h1 := h.2.2.1; have h2 := h.2.1; omega⟩)
      have HX62 := Lib.hid (HTX58.out.keep hb HL.out.1)
      have HX63 := Lib.hid (HTY58.out.keep hb HL.out.1)
      have HX64 := Lib.hid (HTZ58.out.keep hb HL.out.1)
      obtain ⟨b60, rfl, hx⟩ := hv
      have HX60 := Lib.hid hx
      clear hx
      clear ho hp hb HP59 HG59 HTX58 HTY58 HTZ58 HI60
      have hd65 : dpt (non) ≤ 1 := by decide
      have HJ65 := Lib.hid hd65
      clear hd65
      go_wp2_with fail
      refine (syNone (Nat.lt_of_lt_of_le HL.out.2 HG61.out.size)).mono ?_
      rintro e w66 ⟨b65, rfl, hb, hx⟩
      have HP66 := Lib.hid (HP61.out.below hb); have HG66 := Lib.hid (gb_trans HG61.out (gbOfB hb)); have HX65 := Lib.hid hx
      have HX67 := Lib.hid (HX62.out.keep (gbOfB (g := g) hb) HL.out.1)
      have HX68 := Lib.hid (HX63.out.keep (gbOfB (g := g) hb) HL.out.1)
      have HX69 := Lib.hid (HX64.out.keep (gbOfB (g := g) hb) HL.out.1)
      have HX70 := Lib.hid (HX60.out.keep (gbOfB (g := g) hb) HL.out.1)
      clear hb hx HP61 HG61 HX62 HX63 HX64 HX60
      cases hS71 : isS v j60 ⟨#[59]⟩ with
      | true =>
        have HS71 := Lib.hid hS71
        have HJ72 : Hid (j60 < v.L.length) := Lib.hid (isS_lt hS71)
        clear hS71
        go_wp2_with fail
        refine (sySkipYes hA.out.k HP66.out HS71.out).mono ?_
        rintro e w72 ⟨rfl, hp, hb⟩
        have HP72 := Lib.hid hp; have HG72 := Lib.hid (gb_trans HG66.out hb)
        have HX73 := Lib.hid (HX67.out.keep hb HL.out.1)
        have HX74 := Lib.hid (HX68.out.keep hb HL.out.1)
        have HX75 := Lib.hid (HX69.out.keep hb HL.out.1)
        have HX76 := Lib.hid (HX70.out.keep hb HL.out.1)
        have HX77 := Lib.hid (HX65.out.keep hb HL.out.1)
        clear hp hb HP66 HG66 HX67 HX68 HX69 HX70 HX65
        obtain ⟨R78, hR78⟩ : ∃ R, K.pipe pp (j60 + 1) = R := ⟨_, rfl⟩
        have hi78 := hI.out.pipe pp (j60 + 1) HP72.out.il
        rw [hR78] at hi78
        have hc78 := hK.out.pipe _ (by have := HJ0.out; have := HJ59.out; have := HJ61.out; have := HJ72.out; omega) _ _ l HL.out.1 (Nat.lt_of_lt_of_le HL.out.2 HG72.out.size) HP72.out
        rw [hR78] at hc78
        have HC78 := Lib.hid hc78; have HR78 := Lib.hid hR78
        have HI78 := Lib.hid hi78
        clear hc78 hR78 hi78
        go_wp2_with fail
        refine HC78.out.mono ?_
        intro e w79 ho
        clear HC78
        rcases out_cases ho with ⟨x78, j78, u, rfl, rfl, hv, hp, hb⟩ | ⟨a, er, rfl, rfl, hb⟩
        · have HP79 := Lib.hid hp; have HG79 := Lib.hid (gb_trans HG72.out hb)
          have HJ79 : Hid (j60 + 1 < j78 ∧ j78 ≤ v.L.length ∧ dpt x78 ≤ 500000) := Lib.hid (by have h : P1 v 0 (j60 + 1) x78 j78 := HI78.out; have h0 := hA.out.k.len; exact ⟨h.1, h.2.1, by have h1 := h.2.2.1; have h2 := h.2.1; omega⟩)
          have HX80 := Lib.hid (HX73.out.keep hb HL.out.1)
          have HX81 := Lib.hid (HX74.out.keep hb HL.out.1)
          have HX82 := Lib.hid (HX75.out.keep hb HL.out.1)
          have HX83 := Lib.hid (HX76.out.keep hb HL.out.1)
          have HX84 := Lib.hid (HX77.out.keep hb HL.out.1)
          obtain ⟨b78, rfl, hx⟩ := hv
          have HX78 := Lib.hid hx
          clear hx
          clear ho hp hb HP72 HG72 HX73 HX74 HX75 HX76 HX77 HI78
          obtain ⟨R85, hR85⟩ : ∃ R, ned v ⟨#[41]⟩ j78 = R := ⟨_, rfl⟩
          have hi85 := ned_iv hA.out.q HP79.out.il (s := ⟨#[41]⟩)
          rw [hR85] at hi85
          have hc85 := syNeed hA.out.k HP79.out ⟨#[41]⟩
          rw [hR85] at hc85
          have HC85 := Lib.hid hc85; have HR85 := Lib.hid hR85
          have HI85 := Lib.hid hi85
          clear hc85 hR85 hi85
          go_wp2_with fail
          refine HC85.out.mono ?_
          intro e w86 ho
          clear HC85
          rcases out_cases ho with ⟨x85, j85, u, rfl, rfl, hv, hp, hb⟩ | ⟨a, er, rfl, rfl, hb⟩
          · have HP86 := Lib.hid hp; have HG86 := Lib.hid (gb_trans HG79.out hb)
            have HJ86 : Hid (j78 < j85 ∧ j85 ≤ v.L.length) := Lib.hid (by have h : T1 v j78 x85 j85 := HI85.out; have h0 := hA.out.k.len; exact ⟨by have := h.1; omega, h.2⟩)
            have HX87 := Lib.hid (HX80.out.keep hb HL.out.1)
            have HX88 := Lib.hid (HX81.out.keep hb HL.out.1)
            have HX89 := Lib.hid (HX82.out.keep hb HL.out.1)
            have HX90 := Lib.hid (HX83.out.keep hb HL.out.1)
            have HX91 := Lib.hid (HX84.out.keep hb HL.out.1)
            have HX92 := Lib.hid (HX78.out.keep hb HL.out.1)
            obtain rfl := hv
            clear ho hp hb HP79 HG79 HX80 HX81 HX82 HX83 HX84 HX78 HI85
            have hd93 : dpt (Nd.mk 20 SX.nil [x58.1, x58.2.1, x58.2.2, x60, x78]) ≤ 500001 := by have h0 := hA.out.k.len; simp only [dpt, dps]; have := HJ59.out; have := HJ59.out; have := HJ59.out; have := HJ61.out; have := HJ79.out; omega
            have HJ93 := Lib.hid hd93
            clear hd93
            go_wp2_with fail
            refine (syNew5 (Nat.lt_of_lt_of_le HL.out.2 HG86.out.size) HX87.out HX88.out HX89.out HX90.out HX92.out (by have := HJ59.out; omega) (by have := HJ59.out; omega) (by have := HJ59.out; omega) (by have := HJ61.out; omega) (by have := HJ79.out; omega) 20 SX.nil).mono ?_
            rintro e w94 ⟨b93, rfl, hb, hx⟩
            have HP94 := Lib.hid (HP86.out.below hb); have HG94 := Lib.hid (gb_trans HG86.out (gbOfB hb)); have HX93 := Lib.hid hx
            have HX95 := Lib.hid (HX87.out.keep (gbOfB (g := g) hb) HL.out.1)
            have HX96 := Lib.hid (HX88.out.keep (gbOfB (g := g) hb) HL.out.1)
            have HX97 := Lib.hid (HX89.out.keep (gbOfB (g := g) hb) HL.out.1)
            have HX98 := Lib.hid (HX90.out.keep (gbOfB (g := g) hb) HL.out.1)
            have HX99 := Lib.hid (HX91.out.keep (gbOfB (g := g) hb) HL.out.1)
            have HX100 := Lib.hid (HX92.out.keep (gbOfB (g := g) hb) HL.out.1)
            clear hb hx HP86 HG86 HX87 HX88 HX89 HX90 HX91 HX92
            go_wp2
            go_ret
            have EE : foreachF v K pp i = Rs.ok (Nd.mk 20 SX.nil [x58.1, x58.2.1, x58.2.2, x60, x78]) (j85) := by
                          unfold foreachF
                          rw [HR58.out]; all_goals dsimp only [Rs.bind]
                          rw [HR60.out]; all_goals dsimp only [Rs.bind]
                          rw [if_pos HS71.out]
                          rw [HR78.out]; all_goals dsimp only [Rs.bind]
                          rw [HR85.out]; all_goals dsimp only [Rs.bind]
                          all_goals rfl
            rw [EE]
            exact ⟨_, rfl, ⟨b93, rfl, HX93.out⟩, HP94.out, HG94.out⟩
          · have HG86 := Lib.hid (gb_trans HG79.out hb)
            clear ho hb HP79 HG79
            go_wp2
            refine ⟨rfl, ?_⟩
            have EE : foreachF v K pp i = Rs.err a er := by
                          unfold foreachF
                          rw [HR58.out]; all_goals dsimp only [Rs.bind]
                          rw [HR60.out]; all_goals dsimp only [Rs.bind]
                          rw [if_pos HS71.out]
                          rw [HR78.out]; all_goals dsimp only [Rs.bind]
                          rw [HR85.out]; all_goals dsimp only [Rs.bind]
                          all_goals rfl
            rw [EE]
            exact ⟨rfl, HG86.out⟩
        · have HG79 := Lib.hid (gb_trans HG72.out hb)
          clear ho hb HP72 HG72
          go_wp2
          refine ⟨rfl, ?_⟩
          have EE : foreachF v K pp i = Rs.err a er := by
                      unfold foreachF
                      rw [HR58.out]; all_goals dsimp only [Rs.bind]
                      rw [HR60.out]; all_goals dsimp only [Rs.bind]
                      rw [if_pos HS71.out]
                      rw [HR78.out]; all_goals dsimp only [Rs.bind]
                      all_goals rfl
          rw [EE]
          exact ⟨rfl, HG79.out⟩
      | false =>
        have HS71 := Lib.hid hS71
        clear hS71
        go_wp2_with fail
        refine (sySkipNo hA.out.k HP66.out HS71.out).mono ?_
        rintro e w101 ⟨rfl, hp, hb⟩
        have HP101 := Lib.hid hp; have HG101 := Lib.hid (gb_trans HG66.out hb)
        have HX102 := Lib.hid (HX67.out.keep hb HL.out.1)
        have HX103 := Lib.hid (HX68.out.keep hb HL.out.1)
        have HX104 := Lib.hid (HX69.out.keep hb HL.out.1)
        have HX105 := Lib.hid (HX70.out.keep hb HL.out.1)
        have HX106 := Lib.hid (HX65.out.keep hb HL.out.1)
        clear hp hb HP66 HG66 HX67 HX68 HX69 HX70 HX65
        obtain ⟨R107, hR107⟩ : ∃ R, ned v ⟨#[41]⟩ j60 = R := ⟨_, rfl⟩
        have hi107 := ned_iv hA.out.q HP101.out.il (s := ⟨#[41]⟩)
        rw [hR107] at hi107
        have hc107 := syNeed hA.out.k HP101.out ⟨#[41]⟩
        rw [hR107] at hc107
        have HC107 := Lib.hid hc107; have HR107 := Lib.hid hR107
        have HI107 := Lib.hid hi107
        clear hc107 hR107 hi107
        go_wp2_with fail
        refine HC107.out.mono ?_
        intro e w108 ho
        clear HC107
        rcases out_cases ho with ⟨x107, j107, u, rfl, rfl, hv, hp, hb⟩ | ⟨a, er, rfl, rfl, hb⟩
        · have HP108 := Lib.hid hp; have HG108 := Lib.hid (gb_trans HG101.out hb)
          have HJ108 : Hid (j60 < j107 ∧ j107 ≤ v.L.length) := Lib.hid (by have h : T1 v j60 x107 j107 := HI107.out; have h0 := hA.out.k.len; exact ⟨by have := h.1; omega, h.2⟩)
          have HX109 := Lib.hid (HX102.out.keep hb HL.out.1)
          have HX110 := Lib.hid (HX103.out.keep hb HL.out.1)
          have HX111 := Lib.hid (HX104.out.keep hb HL.out.1)
          have HX112 := Lib.hid (HX105.out.keep hb HL.out.1)
          have HX113 := Lib.hid (HX106.out.keep hb HL.out.1)
          obtain rfl := hv
          clear ho hp hb HP101 HG101 HX102 HX103 HX104 HX105 HX106 HI107
          have hd114 : dpt (Nd.mk 20 SX.nil [x58.1, x58.2.1, x58.2.2, x60, non]) ≤ 500001 := by have h0 := hA.out.k.len; simp only [dpt, dps]; have := HJ59.out; have := HJ59.out; have := HJ59.out; have := HJ61.out; have := HJ65.out; omega
          have HJ114 := Lib.hid hd114
          clear hd114
          go_wp2_with fail
          refine (syNew5 (Nat.lt_of_lt_of_le HL.out.2 HG108.out.size) HX109.out HX110.out HX111.out HX112.out HX113.out (by have := HJ59.out; omega) (by have := HJ59.out; omega) (by have := HJ59.out; omega) (by have := HJ61.out; omega) (by have := HJ65.out; omega) 20 SX.nil).mono ?_
          rintro e w115 ⟨b114, rfl, hb, hx⟩
          have HP115 := Lib.hid (HP108.out.below hb); have HG115 := Lib.hid (gb_trans HG108.out (gbOfB hb)); have HX114 := Lib.hid hx
          have HX116 := Lib.hid (HX109.out.keep (gbOfB (g := g) hb) HL.out.1)
          have HX117 := Lib.hid (HX110.out.keep (gbOfB (g := g) hb) HL.out.1)
          have HX118 := Lib.hid (HX111.out.keep (gbOfB (g := g) hb) HL.out.1)
          have HX119 := Lib.hid (HX112.out.keep (gbOfB (g := g) hb) HL.out.1)
          have HX120 := Lib.hid (HX113.out.keep (gbOfB (g := g) hb) HL.out.1)
          clear hb hx HP108 HG108 HX109 HX110 HX111 HX112 HX113
          go_wp2
          go_ret
          have EE : foreachF v K pp i = Rs.ok (Nd.mk 20 SX.nil [x58.1, x58.2.1, x58.2.2, x60, non]) (j107) := by
                      unfold foreachF
                      rw [HR58.out]; all_goals dsimp only [Rs.bind]
                      rw [HR60.out]; all_goals dsimp only [Rs.bind]
                      rw [if_neg (by rw [HS71.out]; decide)]
                      rw [HR107.out]; all_goals dsimp only [Rs.bind]
                      all_goals rfl
          rw [EE]
          exact ⟨_, rfl, ⟨b114, rfl, HX114.out⟩, HP115.out, HG115.out⟩
        · have HG108 := Lib.hid (gb_trans HG101.out hb)
          clear ho hb HP101 HG101
          go_wp2
          refine ⟨rfl, ?_⟩
          have EE : foreachF v K pp i = Rs.err a er := by
                      unfold foreachF
                      rw [HR58.out]; all_goals dsimp only [Rs.bind]
                      rw [HR60.out]; all_goals dsimp only [Rs.bind]
                      rw [if_neg (by rw [HS71.out]; decide)]
                      rw [HR107.out]; all_goals dsimp only [Rs.bind]
                      all_goals rfl
          rw [EE]
          exact ⟨rfl, HG108.out⟩
    · have HG61 := Lib.hid (gb_trans HG59.out hb)
      clear ho hb HP59 HG59
      go_wp2
      refine ⟨rfl, ?_⟩
      have EE : foreachF v K pp i = Rs.err a er := by
              unfold foreachF
              rw [HR58.out]; all_goals dsimp only [Rs.bind]
              rw [HR60.out]; all_goals dsimp only [Rs.bind]
              all_goals rfl
      rw [EE]
      exact ⟨rfl, HG61.out⟩
  · have HG59 := Lib.hid (gb_trans HG0.out hb)
    clear ho hb HP0 HG0
    go_wp2
    refine ⟨rfl, ?_⟩
    have EE : foreachF v K pp i = Rs.err a er := by
          unfold foreachF
          rw [HR58.out]; all_goals dsimp only [Rs.bind]
          all_goals rfl
    rw [EE]
    exact ⟨rfl, HG59.out⟩
set_option maxRecDepth 100000 in
set_option maxHeartbeats 4000000 in
theorem syNamed {v : Ev} {g n : Nat} {K : Kn} (hA : Hid (EvA v)) (hK : Hid (HKs v g K n)) (hI : Hid (IvK v K)) {i : Nat} (hn : v.L.length - i < n + 1) : Cn v g 103 (namedF v K) i := by
  intro w pp l hgl hlw h
  have HL : Hid (g ≤ l ∧ l < w.heap.size) := Lib.hid ⟨hgl, hlw⟩; have HP0 := Lib.hid h; have HG0 : Hid (w.grownBy w (some g)) := Lib.hid (gb_refl _ _); have HJ0 := Lib.hid hn
  clear h hn hgl hlw
  show Calls Tryz.prog 103 #[ptr g] w (Out v g pp w (namedF v K pp i) (VN l))
  go_enter Tryz.func103, Tryz.ntmps103
  cases hS121 : isS v i ⟨#[105, 102]⟩ with
  | true =>
    have HS121 := Lib.hid hS121
    have HJ122 : Hid (i < v.L.length) := Lib.hid (isS_lt hS121)
    clear hS121
    go_wp2_with fail
    refine (sySkipYes hA.out.k HP0.out HS121.out).mono ?_
    rintro e w122 ⟨rfl, hp, hb⟩
    have HP122 := Lib.hid hp; have HG122 := Lib.hid (gb_trans HG0.out hb)
    clear hp hb HP0 HG0 
    obtain ⟨R123, hR123⟩ : ∃ R, choiceF v K pp (i + 1) = R := ⟨_, rfl⟩
    have hi123 := choiceF_iv hA.out.q hI.out pp HP122.out.il
    rw [hR123] at hi123
    have hc123 := syChoice hA hK hI (by have := HJ0.out; have := HJ122.out; omega) _ _ l HL.out.1 (Nat.lt_of_lt_of_le HL.out.2 HG122.out.size) HP122.out
    rw [hR123] at hc123
    have HC123 := Lib.hid hc123; have HR123 := Lib.hid hR123
    have HI123 := Lib.hid hi123
    clear hc123 hR123 hi123
    go_wp2_with fail
    refine HC123.out.mono ?_
    intro e w124 ho
    clear HC123
    rcases out_cases ho with ⟨x123, j123, u, rfl, rfl, hv, hp, hb⟩ | ⟨a, er, rfl, rfl, hb⟩
    · have HP124 := Lib.hid hp; have HG124 := Lib.hid (gb_trans HG122.out hb)
      have HJ124 : Hid (i + 1 < j123 ∧ j123 ≤ v.L.length ∧ dpt x123 ≤ 500000) := Lib.hid (by have h : P1 v 0 (i + 1) x123 j123 := HI123.out; have h0 := hA.out.k.len; exact ⟨h.1, h.2.1, by have h1 := h.2.2.1; have h2 := h.2.1; omega⟩)
      obtain ⟨b123, rfl, hx⟩ := hv
      have HX123 := Lib.hid hx
      clear hx
      clear ho hp hb HP122 HG122  HI123
      go_wp2
      go_ret
      have EE : namedF v K pp i = Rs.ok (x123) (j123) := by
              unfold namedF
              rw [if_pos HS121.out]
              rw [HR123.out]; all_goals dsimp only [Rs.bind]
              all_goals rfl
      rw [EE]
      exact ⟨_, rfl, ⟨b123, rfl, HX123.out⟩, HP124.out, HG124.out⟩
    · have HG124 := Lib.hid (gb_trans HG122.out hb)
      clear ho hb HP122 HG122
      go_wp2
      refine ⟨rfl, ?_⟩
      have EE : namedF v K pp i = Rs.err a er := by
              unfold namedF
              rw [if_pos HS121.out]
              rw [HR123.out]; all_goals dsimp only [Rs.bind]
              all_goals rfl
      rw [EE]
      exact ⟨rfl, HG124.out⟩
  | false =>
    have HS121 := Lib.hid hS121
    clear hS121
    go_wp2_with fail
    refine (sySkipNo hA.out.k HP0.out HS121.out).mono ?_
    rintro e w125 ⟨rfl, hp, hb⟩
    have HP125 := Lib.hid hp; have HG125 := Lib.hid (gb_trans HG0.out hb)
    clear hp hb HP0 HG0 
    cases hS126 : isS v i ⟨#[116, 114, 121]⟩ with
    | true =>
      have HS126 := Lib.hid hS126
      have HJ127 : Hid (i < v.L.length) := Lib.hid (isS_lt hS126)
      clear hS126
      go_wp2_with fail
      refine (sySkipYes hA.out.k HP125.out HS126.out).mono ?_
      rintro e w127 ⟨rfl, hp, hb⟩
      have HP127 := Lib.hid hp; have HG127 := Lib.hid (gb_trans HG125.out hb)
      clear hp hb HP125 HG125 
      obtain ⟨R128, hR128⟩ : ∃ R, attemptF v K pp (i + 1) = R := ⟨_, rfl⟩
      have hi128 := attemptF_iv hA.out.q hI.out pp HP127.out.il
      rw [hR128] at hi128
      have hc128 := syAttempt hA hK hI (by have := HJ0.out; have := HJ127.out; omega) _ _ l HL.out.1 (Nat.lt_of_lt_of_le HL.out.2 HG127.out.size) HP127.out
      rw [hR128] at hc128
      have HC128 := Lib.hid hc128; have HR128 := Lib.hid hR128
      have HI128 := Lib.hid hi128
      clear hc128 hR128 hi128
      go_wp2_with fail
      refine HC128.out.mono ?_
      intro e w129 ho
      clear HC128
      rcases out_cases ho with ⟨x128, j128, u, rfl, rfl, hv, hp, hb⟩ | ⟨a, er, rfl, rfl, hb⟩
      · have HP129 := Lib.hid hp; have HG129 := Lib.hid (gb_trans HG127.out hb)
        have HJ129 : Hid (i + 1 < j128 ∧ j128 ≤ v.L.length ∧ dpt x128 ≤ 500000) := Lib.hid (by have h : P1 v 1 (i + 1) x128 j128 := HI128.out; have h0 := hA.out.k.len; exact ⟨h.1, h.2.1, by have h1 := h.2.2.1; have h2 := h.2.1; omega⟩)
        obtain ⟨b128, rfl, hx⟩ := hv
        have HX128 := Lib.hid hx
        clear hx
        clear ho hp hb HP127 HG127  HI128
        go_wp2
        go_ret
        have EE : namedF v K pp i = Rs.ok (x128) (j128) := by
                  unfold namedF
                  rw [if_neg (by rw [HS121.out]; decide)]
                  rw [if_pos HS126.out]
                  rw [HR128.out]; all_goals dsimp only [Rs.bind]
                  all_goals rfl
        rw [EE]
        exact ⟨_, rfl, ⟨b128, rfl, HX128.out⟩, HP129.out, HG129.out⟩
      · have HG129 := Lib.hid (gb_trans HG127.out hb)
        clear ho hb HP127 HG127
        go_wp2
        refine ⟨rfl, ?_⟩
        have EE : namedF v K pp i = Rs.err a er := by
                  unfold namedF
                  rw [if_neg (by rw [HS121.out]; decide)]
                  rw [if_pos HS126.out]
                  rw [HR128.out]; all_goals dsimp only [Rs.bind]
                  all_goals rfl
        rw [EE]
        exact ⟨rfl, HG129.out⟩
    | false =>
      have HS126 := Lib.hid hS126
      clear hS126
      go_wp2_with fail
      refine (sySkipNo hA.out.k HP125.out HS126.out).mono ?_
      rintro e w130 ⟨rfl, hp, hb⟩
      have HP130 := Lib.hid hp; have HG130 := Lib.hid (gb_trans HG125.out hb)
      clear hp hb HP125 HG125 
      cases hS131 : isS v i ⟨#[114, 101, 100, 117, 99, 101]⟩ with
      | true =>
        have HS131 := Lib.hid hS131
        have HJ132 : Hid (i < v.L.length) := Lib.hid (isS_lt hS131)
        clear hS131
        go_wp2_with fail
        refine (sySkipYes hA.out.k HP130.out HS131.out).mono ?_
        rintro e w132 ⟨rfl, hp, hb⟩
        have HP132 := Lib.hid hp; have HG132 := Lib.hid (gb_trans HG130.out hb)
        clear hp hb HP130 HG130 
        obtain ⟨R133, hR133⟩ : ∃ R, reduceF v K pp (i + 1) = R := ⟨_, rfl⟩
        have hi133 := reduceF_iv hA.out.q hI.out pp HP132.out.il
        rw [hR133] at hi133
        have hc133 := syReduce hA hK hI (by have := HJ0.out; have := HJ132.out; omega) _ _ l HL.out.1 (Nat.lt_of_lt_of_le HL.out.2 HG132.out.size) HP132.out
        rw [hR133] at hc133
        have HC133 := Lib.hid hc133; have HR133 := Lib.hid hR133
        have HI133 := Lib.hid hi133
        clear hc133 hR133 hi133
        go_wp2_with fail
        refine HC133.out.mono ?_
        intro e w134 ho
        clear HC133
        rcases out_cases ho with ⟨x133, j133, u, rfl, rfl, hv, hp, hb⟩ | ⟨a, er, rfl, rfl, hb⟩
        · have HP134 := Lib.hid hp; have HG134 := Lib.hid (gb_trans HG132.out hb)
          have HJ134 : Hid (i + 1 < j133 ∧ j133 ≤ v.L.length ∧ dpt x133 ≤ 500000) := Lib.hid (by have h : P1 v 0 (i + 1) x133 j133 := HI133.out; have h0 := hA.out.k.len; exact ⟨h.1, h.2.1, by have h1 := h.2.2.1; have h2 := h.2.1; omega⟩)
          obtain ⟨b133, rfl, hx⟩ := hv
          have HX133 := Lib.hid hx
          clear hx
          clear ho hp hb HP132 HG132  HI133
          go_wp2
          go_ret
          have EE : namedF v K pp i = Rs.ok (x133) (j133) := by
                      unfold namedF
                      rw [if_neg (by rw [HS121.out]; decide)]
                      rw [if_neg (by rw [HS126.out]; decide)]
                      rw [if_pos HS131.out]
                      rw [HR133.out]; all_goals dsimp only [Rs.bind]
                      all_goals rfl
          rw [EE]
          exact ⟨_, rfl, ⟨b133, rfl, HX133.out⟩, HP134.out, HG134.out⟩
        · have HG134 := Lib.hid (gb_trans HG132.out hb)
          clear ho hb HP132 HG132
          go_wp2
          refine ⟨rfl, ?_⟩
          have EE : namedF v K pp i = Rs.err a er := by
                      unfold namedF
                      rw [if_neg (by rw [HS121.out]; decide)]
                      rw [if_neg (by rw [HS126.out]; decide)]
                      rw [if_pos HS131.out]
                      rw [HR133.out]; all_goals dsimp only [Rs.bind]
                      all_goals rfl
          rw [EE]
          exact ⟨rfl, HG134.out⟩
      | false =>
        have HS131 := Lib.hid hS131
        clear hS131
        go_wp2_with fail
        refine (sySkipNo hA.out.k HP130.out HS131.out).mono ?_
        rintro e w135 ⟨rfl, hp, hb⟩
        have HP135 := Lib.hid hp; have HG135 := Lib.hid (gb_trans HG130.out hb)
        clear hp hb HP130 HG130 
        cases hS136 : isS v i ⟨#[102, 111, 114, 101, 97, 99, 104]⟩ with
        | true =>
          have HS136 := Lib.hid hS136
          have HJ137 : Hid (i < v.L.length) := Lib.hid (isS_lt hS136)
          clear hS136
          go_wp2_with fail
          refine (sySkipYes hA.out.k HP135.out HS136.out).mono ?_
          rintro e w137 ⟨rfl, hp, hb⟩
          have HP137 := Lib.hid hp; have HG137 := Lib.hid (gb_trans HG135.out hb)
          clear hp hb HP135 HG135 
          obtain ⟨R138, hR138⟩ : ∃ R, foreachF v K pp (i + 1) = R := ⟨_, rfl⟩
          have hi138 := foreachF_iv hA.out.q hI.out pp HP137.out.il
          rw [hR138] at hi138
          have hc138 := syForeach hA hK hI (by have := HJ0.out; have := HJ137.out; omega) _ _ l HL.out.1 (Nat.lt_of_lt_of_le HL.out.2 HG137.out.size) HP137.out
          rw [hR138] at hc138
          have HC138 := Lib.hid hc138; have HR138 := Lib.hid hR138
          have HI138 := Lib.hid hi138
          clear hc138 hR138 hi138
          go_wp2_with fail
          refine HC138.out.mono ?_
          intro e w139 ho
          clear HC138
          rcases out_cases ho with ⟨x138, j138, u, rfl, rfl, hv, hp, hb⟩ | ⟨a, er, rfl, rfl, hb⟩
          · have HP139 := Lib.hid hp; have HG139 := Lib.hid (gb_trans HG137.out hb)
            have HJ139 : Hid (i + 1 < j138 ∧ j138 ≤ v.L.length ∧ dpt x138 ≤ 500000) := Lib.hid (by have h : P1 v 0 (i + 1) x138 j138 := HI138.out; have h0 := hA.out.k.len; exact ⟨h.1, h.2.1, by have h1 := h.2.2.1; have h2 := h.2.1; omega⟩)
            obtain ⟨b138, rfl, hx⟩ := hv
            have HX138 := Lib.hid hx
            clear hx
            clear ho hp hb HP137 HG137  HI138
            go_wp2
            go_ret
            have EE : namedF v K pp i = Rs.ok (x138) (j138) := by
                          unfold namedF
                          rw [if_neg (by rw [HS121.out]; decide)]
                          rw [if_neg (by rw [HS126.out]; decide)]
                          rw [if_neg (by rw [HS131.out]; decide)]
                          rw [if_pos HS136.out]
                          rw [HR138.out]; all_goals dsimp only [Rs.bind]
                          all_goals rfl
            rw [EE]
            exact ⟨_, rfl, ⟨b138, rfl, HX138.out⟩, HP139.out, HG139.out⟩
          · have HG139 := Lib.hid (gb_trans HG137.out hb)
            clear ho hb HP137 HG137
            go_wp2
            refine ⟨rfl, ?_⟩
            have EE : namedF v K pp i = Rs.err a er := by
                          unfold namedF
                          rw [if_neg (by rw [HS121.out]; decide)]
                          rw [if_neg (by rw [HS126.out]; decide)]
                          rw [if_neg (by rw [HS131.out]; decide)]
                          rw [if_pos HS136.out]
                          rw [HR138.out]; all_goals dsimp only [Rs.bind]
                          all_goals rfl
            rw [EE]
            exact ⟨rfl, HG139.out⟩
        | false =>
          have HS136 := Lib.hid hS136
          clear hS136
          go_wp2_with fail
          refine (sySkipNo hA.out.k HP135.out HS136.out).mono ?_
          rintro e w140 ⟨rfl, hp, hb⟩
          have HP140 := Lib.hid hp; have HG140 := Lib.hid (gb_trans HG135.out hb)
          clear hp hb HP135 HG135 
          cases hS141 : isS v i ⟨#[98, 114, 101, 97, 107]⟩ with
          | true =>
            have HS141 := Lib.hid hS141
            have HJ142 : Hid (i < v.L.length) := Lib.hid (isS_lt hS141)
            clear hS141
            go_wp2_with fail
            refine (sySkipYes hA.out.k HP140.out HS141.out).mono ?_
            rintro e w142 ⟨rfl, hp, hb⟩
            have HP142 := Lib.hid hp; have HG142 := Lib.hid (gb_trans HG140.out hb)
            clear hp hb HP140 HG140 
            obtain ⟨R143, hR143⟩ : ∃ R, tak v 4 (i + 1) = R := ⟨_, rfl⟩
            have hi143 := tak_iv hA.out.q HP142.out.il (k := 4) (by decide)
            rw [hR143] at hi143
            have hc143 := syTake hA.out.k HP142.out 4 (by decide)
            rw [hR143] at hc143
            have HC143 := Lib.hid hc143; have HR143 := Lib.hid hR143
            have HI143 := Lib.hid hi143
            clear hc143 hR143 hi143
            go_wp2_with fail
            refine HC143.out.mono ?_
            intro e w144 ho
            clear HC143
            rcases out_cases ho with ⟨x143, j143, u, rfl, rfl, hv, hp, hb⟩ | ⟨a, er, rfl, rfl, hb⟩
            · have HP144 := Lib.hid hp; have HG144 := Lib.hid (gb_trans HG142.out hb)
              have HJ144 : Hid (i + 1 < j143 ∧ j143 ≤ v.L.length) := Lib.hid (by have h : T1 v (i + 1) x143 j143 := HI143.out; have h0 := hA.out.k.len; exact ⟨by have := h.1; omega, h.2⟩)
              obtain rfl := hv
              clear ho hp hb HP142 HG142  HI143
              have hd145 : dpt (Nd.mk 22 x143 []) ≤ 1 := by have h0 := hA.out.k.len; simp only [dpt, dps]; omega
              have HJ145 := Lib.hid hd145
              clear hd145
              go_wp2_with fail
              refine (syNew0 (Nat.lt_of_lt_of_le HL.out.2 HG144.out.size) 22 x143).mono ?_
              rintro e w146 ⟨b145, rfl, hb, hx⟩
              have HP146 := Lib.hid (HP144.out.below hb); have HG146 := Lib.hid (gb_trans HG144.out (gbOfB hb)); have HX145 := Lib.hid hx
              clear hb hx HP144 HG144 
              go_wp2
              go_ret
              have EE : namedF v K pp i = Rs.ok (Nd.mk 22 x143 []) (j143) := by
                              unfold namedF
                              rw [if_neg (by rw [HS121.out]; decide)]
                              rw [if_neg (by rw [HS126.out]; decide)]
                              rw [if_neg (by rw [HS131.out]; decide)]
                              rw [if_neg (by rw [HS136.out]; decide)]
                              rw [if_pos HS141.out]
                              rw [HR143.out]; all_goals dsimp only [Rs.bind]
                              all_goals rfl
              rw [EE]
              exact ⟨_, rfl, ⟨b145, rfl, HX145.out⟩, HP146.out, HG146.out⟩
            · have HG144 := Lib.hid (gb_trans HG142.out hb)
              clear ho hb HP142 HG142
              go_wp2
              refine ⟨rfl, ?_⟩
              have EE : namedF v K pp i = Rs.err a er := by
                              unfold namedF
                              rw [if_neg (by rw [HS121.out]; decide)]
                              rw [if_neg (by rw [HS126.out]; decide)]
                              rw [if_neg (by rw [HS131.out]; decide)]
                              rw [if_neg (by rw [HS136.out]; decide)]
                              rw [if_pos HS141.out]
                              rw [HR143.out]; all_goals dsimp only [Rs.bind]
                              all_goals rfl
              rw [EE]
              exact ⟨rfl, HG144.out⟩
          | false =>
            have HS141 := Lib.hid hS141
            clear hS141
            go_wp2_with fail
            refine (sySkipNo hA.out.k HP140.out HS141.out).mono ?_
            rintro e w147 ⟨rfl, hp, hb⟩
            have HP147 := Lib.hid hp; have HG147 := Lib.hid (gb_trans HG140.out hb)
            clear hp hb HP140 HG140 
            obtain ⟨R148, hR148⟩ : ∃ R, callF v K pp i = R := ⟨_, rfl⟩
            have hi148 := callF_iv hA.out.q hI.out pp HP147.out.il
            rw [hR148] at hi148
            have hc148 := syCall hA hK hI (by have := HJ0.out; omega) _ _ l HL.out.1 (Nat.lt_of_lt_of_le HL.out.2 HG147.out.size) HP147.out
            rw [hR148] at hc148
            have HC148 := Lib.hid hc148; have HR148 := Lib.hid hR148
            have HI148 := Lib.hid hi148
            clear hc148 hR148 hi148
            go_wp2_with fail
            refine HC148.out.mono ?_
            intro e w149 ho
            clear HC148
            rcases out_cases ho with ⟨x148, j148, u, rfl, rfl, hv, hp, hb⟩ | ⟨a, er, rfl, rfl, hb⟩
            · have HP149 := Lib.hid hp; have HG149 := Lib.hid (gb_trans HG147.out hb)
              have HJ149 : Hid (i < j148 ∧ j148 ≤ v.L.length ∧ dpt x148 ≤ 500000) := Lib.hid (by have h : P1 v 0 i x148 j148 := HI148.out; have h0 := hA.out.k.len; exact ⟨h.1, h.2.1, by have h1 := h.2.2.1; have h2 := h.2.1; omega⟩)
              obtain ⟨b148, rfl, hx⟩ := hv
              have HX148 := Lib.hid hx
              clear hx
              clear ho hp hb HP147 HG147  HI148
              go_wp2
              go_ret
              have EE : namedF v K pp i = Rs.ok (x148) (j148) := by
                              unfold namedF
                              rw [if_neg (by rw [HS121.out]; decide)]
                              rw [if_neg (by rw [HS126.out]; decide)]
                              rw [if_neg (by rw [HS131.out]; decide)]
                              rw [if_neg (by rw [HS136.out]; decide)]
                              rw [if_neg (by rw [HS141.out]; decide)]
                              rw [HR148.out]; all_goals dsimp only [Rs.bind]
                              all_goals rfl
              rw [EE]
              exact ⟨_, rfl, ⟨b148, rfl, HX148.out⟩, HP149.out, HG149.out⟩
            · have HG149 := Lib.hid (gb_trans HG147.out hb)
              clear ho hb HP147 HG147
              go_wp2
              refine ⟨rfl, ?_⟩
              have EE : namedF v K pp i = Rs.err a er := by
                              unfold namedF
                              rw [if_neg (by rw [HS121.out]; decide)]
                              rw [if_neg (by rw [HS126.out]; decide)]
                              rw [if_neg (by rw [HS131.out]; decide)]
                              rw [if_neg (by rw [HS136.out]; decide)]
                              rw [if_neg (by rw [HS141.out]; decide)]
                              rw [HR148.out]; all_goals dsimp only [Rs.bind]
                              all_goals rfl
              rw [EE]
              exact ⟨rfl, HG149.out⟩
set_option maxRecDepth 100000 in
set_option maxHeartbeats 4000000 in
theorem syTerm {v : Ev} {g n : Nat} {K : Kn} (hA : Hid (EvA v)) (hK : Hid (HKs v g K n)) (hI : Hid (IvK v K)) {i : Nat} (hn : v.L.length - i < n + 1) : Cn v g 92 (termF v K) i := by
  intro w pp l hgl hlw h
  have HL : Hid (g ≤ l ∧ l < w.heap.size) := Lib.hid ⟨hgl, hlw⟩; have HP0 := Lib.hid h; have HG0 : Hid (w.grownBy w (some g)) := Lib.hid (gb_refl _ _); have HJ0 := Lib.hid hn
  clear h hn hgl hlw
  show Calls Tryz.prog 92 #[ptr g] w (Out v g pp w (termF v K pp i) (VN l))
  go_enter Tryz.func92, Tryz.ntmps92
  have ft := fieldTok0
  go_wp2_with fail
  refine (syNext hA.out.k HP0.out).mono ?_
  rintro e w150 ⟨rfl, hb⟩
  have HP150 := Lib.hid (HP0.out.below hb); have HG150 := Lib.hid (gb_trans HG0.out (gbOfB hb))
  unfold nxV
  clear hb HP0 HG0 
  by_cases hK151 : (tkn v i).1 = 1
  · have HS151 := Lib.hid hK151
    have q151 : (((tkn v i).1 : Int) == 1) = true := by rw [hK151]; rfl
    have qn151 : (((tkn v i).1 : Int) != 1) = false := by rw [hK151]; rfl
    have HJ152 : Hid (i < v.L.length) := Lib.hid (tkn_lt hK151 (by decide))
    clear hK151
    obtain ⟨R153, hR153⟩ : ∃ R, numberF v i = R := ⟨_, rfl⟩
    have hi153 := numberF_iv hA.out.q HP150.out.il
    rw [hR153] at hi153
    have hc153 := syNumber hA w150 pp l HL.out.1 (Nat.lt_of_lt_of_le HL.out.2 HG150.out.size) HP150.out
    rw [hR153] at hc153
    have HC153 := Lib.hid hc153; have HR153 := Lib.hid hR153
    have HI153 := Lib.hid hi153
    clear hc153 hR153 hi153
    go_wp2_with fail
    refine HC153.out.mono ?_
    intro e w154 ho
    clear HC153
    rcases out_cases ho with ⟨x153, j153, u, rfl, rfl, hv, hp, hb⟩ | ⟨a, er, rfl, rfl, hb⟩
    · have HP154 := Lib.hid hp; have HG154 := Lib.hid (gb_trans HG150.out hb)
      have HJ154 : Hid (i < j153 ∧ j153 ≤ v.L.length ∧ dpt x153 ≤ 500000) := Lib.hid (by have h : P1 v 0 i x153 j153 := HI153.out; have h0 := hA.out.k.len; exact ⟨h.1, h.2.1, by have h1 := h.2.2.1; have h2 := h.2.1; omega⟩)
      obtain ⟨b153, rfl, hx⟩ := hv
      have HX153 := Lib.hid hx
      clear hx
      clear ho hp hb HP150 HG150  HI153
      go_wp2
      go_ret
      have EE : termF v K pp i = Rs.ok (x153) (j153) := by
              unfold termF
              rw [if_pos HS151.out]
              rw [HR153.out]; all_goals dsimp only [Rs.bind]
              all_goals rfl
      rw [EE]
      exact ⟨_, rfl, ⟨b153, rfl, HX153.out⟩, HP154.out, HG154.out⟩
    · have HG154 := Lib.hid (gb_trans HG150.out hb)
      clear ho hb HP150 HG150
      go_wp2
      refine ⟨rfl, ?_⟩
      have EE : termF v K pp i = Rs.err a er := by
              unfold termF
              rw [if_pos HS151.out]
              rw [HR153.out]; all_goals dsimp only [Rs.bind]
              all_goals rfl
      rw [EE]
      exact ⟨rfl, HG154.out⟩
  · have HS151 := Lib.hid hK151
    have q151 : (((tkn v i).1 : Int) == 1) = false := by rw [beq_eq_false_iff_ne]; omega
    have qn151 : (((tkn v i).1 : Int) != 1) = true := by rw [bne_iff_ne]; omega
    clear hK151
    by_cases hK156 : (tkn v i).1 = 2
    · have HS156 := Lib.hid hK156
      have q156 : (((tkn v i).1 : Int) == 2) = true := by rw [hK156]; rfl
      have qn156 : (((tkn v i).1 : Int) != 2) = false := by rw [hK156]; rfl
      have HJ157 : Hid (i < v.L.length) := Lib.hid (tkn_lt hK156 (by decide))
      clear hK156
      obtain ⟨R158, hR158⟩ : ∃ R, namedF v K pp i = R := ⟨_, rfl⟩
      have hi158 := namedF_iv hA.out.q hI.out pp HP150.out.il
      rw [hR158] at hi158
      have hc158 := syNamed hA hK hI (by have := HJ0.out; have := HJ157.out; omega) _ _ l HL.out.1 (Nat.lt_of_lt_of_le HL.out.2 HG150.out.size) HP150.out
      rw [hR158] at hc158
      have HC158 := Lib.hid hc158; have HR158 := Lib.hid hR158
      have HI158 := Lib.hid hi158
      clear hc158 hR158 hi158
      go_wp2_with fail
      refine HC158.out.mono ?_
      intro e w159 ho
      clear HC158
      rcases out_cases ho with ⟨x158, j158, u, rfl, rfl, hv, hp, hb⟩ | ⟨a, er, rfl, rfl, hb⟩
      · have HP159 := Lib.hid hp; have HG159 := Lib.hid (gb_trans HG150.out hb)
        have HJ159 : Hid (i < j158 ∧ j158 ≤ v.L.length ∧ dpt x158 ≤ 500000) := Lib.hid (by have h : P1 v 0 i x158 j158 := HI158.out; have h0 := hA.out.k.len; exact ⟨h.1, h.2.1, by have h1 := h.2.2.1; have h2 := h.2.1; omega⟩)
        obtain ⟨b158, rfl, hx⟩ := hv
        have HX158 := Lib.hid hx
        clear hx
        clear ho hp hb HP150 HG150  HI158
        go_wp2
        go_ret
        have EE : termF v K pp i = Rs.ok (x158) (j158) := by
                  unfold termF
                  rw [if_neg HS151.out]
                  rw [if_pos HS156.out]
                  rw [HR158.out]; all_goals dsimp only [Rs.bind]
                  all_goals rfl
        rw [EE]
        exact ⟨_, rfl, ⟨b158, rfl, HX158.out⟩, HP159.out, HG159.out⟩
      · have HG159 := Lib.hid (gb_trans HG150.out hb)
        clear ho hb HP150 HG150
        go_wp2
        refine ⟨rfl, ?_⟩
        have EE : termF v K pp i = Rs.err a er := by
                  unfold termF
                  rw [if_neg HS151.out]
                  rw [if_pos HS156.out]
                  rw [HR158.out]; all_goals dsimp only [Rs.bind]
                  all_goals rfl
        rw [EE]
        exact ⟨rfl, HG159.out⟩
    · have HS156 := Lib.hid hK156
      have q156 : (((tkn v i).1 : Int) == 2) = false := by rw [beq_eq_false_iff_ne]; omega
      have qn156 : (((tkn v i).1 : Int) != 2) = true := by rw [bne_iff_ne]; omega
      clear hK156
      by_cases hK161 : (tkn v i).1 = 3
      · have HS161 := Lib.hid hK161
        have q161 : (((tkn v i).1 : Int) == 3) = true := by rw [hK161]; rfl
        have qn161 : (((tkn v i).1 : Int) != 3) = false := by rw [hK161]; rfl
        have HJ162 : Hid (i < v.L.length) := Lib.hid (tkn_lt hK161 (by decide))
        clear hK161
        have hd163 : dpt (slf) ≤ 1 := by decide
        have HJ163 := Lib.hid hd163
        clear hd163
        go_wp2_with fail
        refine (sySelf (Nat.lt_of_lt_of_le HL.out.2 HG150.out.size)).mono ?_
        rintro e w164 ⟨b163, rfl, hb, hx⟩
        have HP164 := Lib.hid (HP150.out.below hb); have HG164 := Lib.hid (gb_trans HG150.out (gbOfB hb)); have HX163 := Lib.hid hx
        clear hb hx HP150 HG150 
        obtain ⟨R165, hR165⟩ : ∃ R, tak v 3 i = R := ⟨_, rfl⟩
        have hi165 := tak_iv hA.out.q HP164.out.il (k := 3) (by decide)
        rw [hR165] at hi165
        have hc165 := syTake hA.out.k HP164.out 3 (by decide)
        rw [hR165] at hc165
        have HC165 := Lib.hid hc165; have HR165 := Lib.hid hR165
        have HI165 := Lib.hid hi165
        clear hc165 hR165 hi165
        go_wp2_with fail
        refine HC165.out.mono ?_
        intro e w166 ho
        clear HC165
        rcases out_cases ho with ⟨x165, j165, u, rfl, rfl, hv, hp, hb⟩ | ⟨a, er, rfl, rfl, hb⟩
        · have HP166 := Lib.hid hp; have HG166 := Lib.hid (gb_trans HG164.out hb)
          have HJ166 : Hid (i < j165 ∧ j165 ≤ v.L.length) := Lib.hid (by have h : T1 v i x165 j165 := HI165.out; have h0 := hA.out.k.len; exact ⟨by have := h.1; omega, h.2⟩)
          have HX167 := Lib.hid (HX163.out.keep hb HL.out.1)
          obtain rfl := hv
          clear ho hp hb HP164 HG164 HX163 HI165
          have hd168 : dpt (pln x165) ≤ 2 := by simp [pln, dpt, dps]
          have HJ168 := Lib.hid hd168
          clear hd168
          go_wp2_with fail
          refine (syPlain (Nat.lt_of_lt_of_le HL.out.2 HG166.out.size) x165).mono ?_
          rintro e w169 ⟨b168, rfl, hb, hx⟩
          have HP169 := Lib.hid (HP166.out.below hb); have HG169 := Lib.hid (gb_trans HG166.out (gbOfB hb)); have HX168 := Lib.hid hx
          have HX170 := Lib.hid (HX167.out.keep (gbOfB (g := g) hb) HL.out.1)
          clear hb hx HP166 HG166 HX167
          have hd171 : dpt (ixN (slf) (pln x165)) ≤ 3 := by simp only [ixN, dpt, dps]; have := HJ163.out; have := HJ168.out; omega
          have HJ171 := Lib.hid hd171
          clear hd171
          go_wp2_with fail
          refine (syIndex (Nat.lt_of_lt_of_le HL.out.2 HG169.out.size) HX170.out HX168.out (by have := HJ163.out; omega) (by have := HJ168.out; omega)).mono ?_
          rintro e w172 ⟨b171, rfl, hb, hx⟩
          have HP172 := Lib.hid (HP169.out.below hb); have HG172 := Lib.hid (gb_trans HG169.out (gbOfB hb)); have HX171 := Lib.hid hx
          have HX173 := Lib.hid (HX170.out.keep (gbOfB (g := g) hb) HL.out.1)
          have HX174 := Lib.hid (HX168.out.keep (gbOfB (g := g) hb) HL.out.1)
          clear hb hx HP169 HG169 HX170 HX168
          go_wp2
          go_ret
          have EE : termF v K pp i = Rs.ok (ixN (slf) (pln x165)) (j165) := by
                      unfold termF
                      rw [if_neg HS151.out]
                      rw [if_neg HS156.out]
                      rw [if_pos HS161.out]
                      rw [HR165.out]; all_goals dsimp only [Rs.bind]
                      all_goals rfl
          rw [EE]
          exact ⟨_, rfl, ⟨b171, rfl, HX171.out⟩, HP172.out, HG172.out⟩
        · have HG166 := Lib.hid (gb_trans HG164.out hb)
          clear ho hb HP164 HG164
          go_wp2
          refine ⟨rfl, ?_⟩
          have EE : termF v K pp i = Rs.err a er := by
                      unfold termF
                      rw [if_neg HS151.out]
                      rw [if_neg HS156.out]
                      rw [if_pos HS161.out]
                      rw [HR165.out]; all_goals dsimp only [Rs.bind]
                      all_goals rfl
          rw [EE]
          exact ⟨rfl, HG166.out⟩
      · have HS161 := Lib.hid hK161
        have q161 : (((tkn v i).1 : Int) == 3) = false := by rw [beq_eq_false_iff_ne]; omega
        have qn161 : (((tkn v i).1 : Int) != 3) = true := by rw [bne_iff_ne]; omega
        clear hK161
        by_cases hK176 : (tkn v i).1 = 4
        · have HS176 := Lib.hid hK176
          have q176 : (((tkn v i).1 : Int) == 4) = true := by rw [hK176]; rfl
          have qn176 : (((tkn v i).1 : Int) != 4) = false := by rw [hK176]; rfl
          have HJ177 : Hid (i < v.L.length) := Lib.hid (tkn_lt hK176 (by decide))
          clear hK176
          obtain ⟨R178, hR178⟩ : ∃ R, tak v 4 i = R := ⟨_, rfl⟩
          have hi178 := tak_iv hA.out.q HP150.out.il (k := 4) (by decide)
          rw [hR178] at hi178
          have hc178 := syTake hA.out.k HP150.out 4 (by decide)
          rw [hR178] at hc178
          have HC178 := Lib.hid hc178; have HR178 := Lib.hid hR178
          have HI178 := Lib.hid hi178
          clear hc178 hR178 hi178
          go_wp2_with fail
          refine HC178.out.mono ?_
          intro e w179 ho
          clear HC178
          rcases out_cases ho with ⟨x178, j178, u, rfl, rfl, hv, hp, hb⟩ | ⟨a, er, rfl, rfl, hb⟩
          · have HP179 := Lib.hid hp; have HG179 := Lib.hid (gb_trans HG150.out hb)
            have HJ179 : Hid (i < j178 ∧ j178 ≤ v.L.length) := Lib.hid (by have h : T1 v i x178 j178 := HI178.out; have h0 := hA.out.k.len; exact ⟨by have := h.1; omega, h.2⟩)
            obtain rfl := hv
            clear ho hp hb HP150 HG150  HI178
            have hd180 : dpt (Nd.mk 24 x178 []) ≤ 1 := by have h0 := hA.out.k.len; simp only [dpt, dps]; omega
            have HJ180 := Lib.hid hd180
            clear hd180
            go_wp2_with fail
            refine (syNew0 (Nat.lt_of_lt_of_le HL.out.2 HG179.out.size) 24 x178).mono ?_
            rintro e w181 ⟨b180, rfl, hb, hx⟩
            have HP181 := Lib.hid (HP179.out.below hb); have HG181 := Lib.hid (gb_trans HG179.out (gbOfB hb)); have HX180 := Lib.hid hx
            clear hb hx HP179 HG179 
            go_wp2
            go_ret
            have EE : termF v K pp i = Rs.ok (Nd.mk 24 x178 []) (j178) := by
                          unfold termF
                          rw [if_neg HS151.out]
                          rw [if_neg HS156.out]
                          rw [if_neg HS161.out]
                          rw [if_pos HS176.out]
                          rw [HR178.out]; all_goals dsimp only [Rs.bind]
                          all_goals rfl
            rw [EE]
            exact ⟨_, rfl, ⟨b180, rfl, HX180.out⟩, HP181.out, HG181.out⟩
          · have HG179 := Lib.hid (gb_trans HG150.out hb)
            clear ho hb HP150 HG150
            go_wp2
            refine ⟨rfl, ?_⟩
            have EE : termF v K pp i = Rs.err a er := by
                          unfold termF
                          rw [if_neg HS151.out]
                          rw [if_neg HS156.out]
                          rw [if_neg HS161.out]
                          rw [if_pos HS176.out]
                          rw [HR178.out]; all_goals dsimp only [Rs.bind]
                          all_goals rfl
            rw [EE]
            exact ⟨rfl, HG179.out⟩
        · have HS176 := Lib.hid hK176
          have q176 : (((tkn v i).1 : Int) == 4) = false := by rw [beq_eq_false_iff_ne]; omega
          have qn176 : (((tkn v i).1 : Int) != 4) = true := by rw [bne_iff_ne]; omega
          clear hK176
          by_cases hK183 : (tkn v i).1 = 5
          · have HS183 := Lib.hid hK183
            have q183 : (((tkn v i).1 : Int) == 5) = true := by rw [hK183]; rfl
            have qn183 : (((tkn v i).1 : Int) != 5) = false := by rw [hK183]; rfl
            have HJ184 : Hid (i < v.L.length) := Lib.hid (tkn_lt hK183 (by decide))
            clear hK183
            obtain ⟨R185, hR185⟩ : ∃ R, formatF v K pp i = R := ⟨_, rfl⟩
            have hi185 := formatF_iv hA.out.q hI.out pp HP150.out.il
            rw [hR185] at hi185
            have hc185 := syFormat hA hK hI (by have := HJ0.out; have := HJ184.out; omega) _ _ l HL.out.1 (Nat.lt_of_lt_of_le HL.out.2 HG150.out.size) HP150.out
            rw [hR185] at hc185
            have HC185 := Lib.hid hc185; have HR185 := Lib.hid hR185
            have HI185 := Lib.hid hi185
            clear hc185 hR185 hi185
            go_wp2_with fail
            refine HC185.out.mono ?_
            intro e w186 ho
            clear HC185
            rcases out_cases ho with ⟨x185, j185, u, rfl, rfl, hv, hp, hb⟩ | ⟨a, er, rfl, rfl, hb⟩
            · have HP186 := Lib.hid hp; have HG186 := Lib.hid (gb_trans HG150.out hb)
              have HJ186 : Hid (i < j185 ∧ j185 ≤ v.L.length ∧ dpt x185 ≤ 500000) := Lib.hid (by have h : P1 v 0 i x185 j185 := HI185.out; have h0 := hA.out.k.len; exact ⟨h.1, h.2.1, by have h1 := h.2.2.1; have h2 := h.2.1; omega⟩)
              obtain ⟨b185, rfl, hx⟩ := hv
              have HX185 := Lib.hid hx
              clear hx
              clear ho hp hb HP150 HG150  HI185
              go_wp2
              go_ret
              have EE : termF v K pp i = Rs.ok (x185) (j185) := by
                              unfold termF
                              rw [if_neg HS151.out]
                              rw [if_neg HS156.out]
                              rw [if_neg HS161.out]
                              rw [if_neg HS176.out]
                              rw [if_pos HS183.out]
                              rw [HR185.out]; all_goals dsimp only [Rs.bind]
                              all_goals rfl
              rw [EE]
              exact ⟨_, rfl, ⟨b185, rfl, HX185.out⟩, HP186.out, HG186.out⟩
            · have HG186 := Lib.hid (gb_trans HG150.out hb)
              clear ho hb HP150 HG150
              go_wp2
              refine ⟨rfl, ?_⟩
              have EE : termF v K pp i = Rs.err a er := by
                              unfold termF
                              rw [if_neg HS151.out]
                              rw [if_neg HS156.out]
                              rw [if_neg HS161.out]
                              rw [if_neg HS176.out]
                              rw [if_pos HS183.out]
                              rw [HR185.out]; all_goals dsimp only [Rs.bind]
                              all_goals rfl
              rw [EE]
              exact ⟨rfl, HG186.out⟩
          · have HS183 := Lib.hid hK183
            have q183 : (((tkn v i).1 : Int) == 5) = false := by rw [beq_eq_false_iff_ne]; omega
            have qn183 : (((tkn v i).1 : Int) != 5) = true := by rw [bne_iff_ne]; omega
            clear hK183
            by_cases hK188 : (tkn v i).1 = 7
            · have HS188 := Lib.hid hK188
              have q188 : (((tkn v i).1 : Int) == 7) = true := by rw [hK188]; rfl
              have qn188 : (((tkn v i).1 : Int) != 7) = false := by rw [hK188]; rfl
              have HJ189 : Hid (i < v.L.length) := Lib.hid (tkn_lt hK188 (by decide))
              clear hK188
              obtain ⟨R190, hR190⟩ : ∃ R, textF v K pp SX.nil i = R := ⟨_, rfl⟩
              have hi190 := textF_iv hA.out.q hI.out pp SX.nil HP150.out.il
              rw [hR190] at hi190
              have hc190 := syText hA hK hI SX.nil (by have := HJ0.out; have := HJ189.out; omega) w150 pp l HL.out.1 (Nat.lt_of_lt_of_le HL.out.2 HG150.out.size) HP150.out
              rw [hR190] at hc190
              have HC190 := Lib.hid hc190; have HR190 := Lib.hid hR190
              have HI190 := Lib.hid hi190
              clear hc190 hR190 hi190
              go_wp2_with fail
              refine HC190.out.mono ?_
              intro e w191 ho
              clear HC190
              rcases out_cases ho with ⟨x190, j190, u, rfl, rfl, hv, hp, hb⟩ | ⟨a, er, rfl, rfl, hb⟩
              · have HP191 := Lib.hid hp; have HG191 := Lib.hid (gb_trans HG150.out hb)
                have HJ191 : Hid (i < j190 ∧ j190 ≤ v.L.length ∧ dpt x190 ≤ 500000) := Lib.hid (by have h : P4 v i x190 j190 := HI190.out; have h0 := hA.out.k.len; exact ⟨h.1, h.2.1, by have h1 := h.2.2.1; have h2 := h.2.1; omega⟩)
                obtain ⟨b190, rfl, hx⟩ := hv
                have HX190 := Lib.hid hx
                clear hx
                clear ho hp hb HP150 HG150  HI190
                go_wp2
                go_ret
                have EE : termF v K pp i = Rs.ok (x190) (j190) := by
                                  unfold termF
                                  rw [if_neg HS151.out]
                                  rw [if_neg HS156.out]
                                  rw [if_neg HS161.out]
                                  rw [if_neg HS176.out]
                                  rw [if_neg HS183.out]
                                  rw [if_pos HS188.out]
                                  rw [HR190.out]; all_goals dsimp only [Rs.bind]
                                  all_goals rfl
                rw [EE]
                exact ⟨_, rfl, ⟨b190, rfl, HX190.out⟩, HP191.out, HG191.out⟩
              · have HG191 := Lib.hid (gb_trans HG150.out hb)
                clear ho hb HP150 HG150
                go_wp2
                refine ⟨rfl, ?_⟩
                have EE : termF v K pp i = Rs.err a er := by
                                  unfold termF
                                  rw [if_neg HS151.out]
                                  rw [if_neg HS156.out]
                                  rw [if_neg HS161.out]
                                  rw [if_neg HS176.out]
                                  rw [if_neg HS183.out]
                                  rw [if_pos HS188.out]
                                  rw [HR190.out]; all_goals dsimp only [Rs.bind]
                                  all_goals rfl
                rw [EE]
                exact ⟨rfl, HG191.out⟩
            · have HS188 := Lib.hid hK188
              have q188 : (((tkn v i).1 : Int) == 7) = false := by rw [beq_eq_false_iff_ne]; omega
              have qn188 : (((tkn v i).1 : Int) != 7) = true := by rw [bne_iff_ne]; omega
              clear hK188
              obtain ⟨R193, hR193⟩ : ∃ R, signedF v K pp i = R := ⟨_, rfl⟩
              have hi193 := signedF_iv hA.out.q hI.out pp HP150.out.il
              rw [hR193] at hi193
              have hc193 := sySigned hA hK hI (by have := HJ0.out; omega) _ _ l HL.out.1 (Nat.lt_of_lt_of_le HL.out.2 HG150.out.size) HP150.out
              rw [hR193] at hc193
              have HC193 := Lib.hid hc193; have HR193 := Lib.hid hR193
              have HI193 := Lib.hid hi193
              clear hc193 hR193 hi193
              go_wp2_with fail
              refine HC193.out.mono ?_
              intro e w194 ho
              clear HC193
              rcases out_cases ho with ⟨x193, j193, u, rfl, rfl, hv, hp, hb⟩ | ⟨a, er, rfl, rfl, hb⟩
              · have HP194 := Lib.hid hp; have HG194 := Lib.hid (gb_trans HG150.out hb)
                have HJ194 : Hid (i < j193 ∧ j193 ≤ v.L.length ∧ dpt x193 ≤ 500000) := Lib.hid (by have h : P1 v 0 i x193 j193 := HI193.out; have h0 := hA.out.k.len; exact ⟨h.1, h.2.1, by have h1 := h.2.2.1; have h2 := h.2.1; omega⟩)
                obtain ⟨b193, rfl, hx⟩ := hv
                have HX193 := Lib.hid hx
                clear hx
                clear ho hp hb HP150 HG150  HI193
                go_wp2
                go_ret
                have EE : termF v K pp i = Rs.ok (x193) (j193) := by
                                  unfold termF
                                  rw [if_neg HS151.out]
                                  rw [if_neg HS156.out]
                                  rw [if_neg HS161.out]
                                  rw [if_neg HS176.out]
                                  rw [if_neg HS183.out]
                                  rw [if_neg HS188.out]
                                  rw [HR193.out]; all_goals dsimp only [Rs.bind]
                                  all_goals rfl
                rw [EE]
                exact ⟨_, rfl, ⟨b193, rfl, HX193.out⟩, HP194.out, HG194.out⟩
              · have HG194 := Lib.hid (gb_trans HG150.out hb)
                clear ho hb HP150 HG150
                go_wp2
                refine ⟨rfl, ?_⟩
                have EE : termF v K pp i = Rs.err a er := by
                                  unfold termF
                                  rw [if_neg HS151.out]
                                  rw [if_neg HS156.out]
                                  rw [if_neg HS161.out]
                                  rw [if_neg HS176.out]
                                  rw [if_neg HS183.out]
                                  rw [if_neg HS188.out]
                                  rw [HR193.out]; all_goals dsimp only [Rs.bind]
                                  all_goals rfl
                rw [EE]
                exact ⟨rfl, HG194.out⟩
set_option maxRecDepth 100000 in
set_option maxHeartbeats 4000000 in
theorem syUnless {v : Ev} {g n : Nat} {K : Kn} (hA : Hid (EvA v)) (hK : Hid (HKs v g K n)) (hI : Hid (IvK v K)) (fin : ByteArray) {i : Nat} (hn : v.L.length - i < n) (w : World) (pp l : Nat) (hgl : g ≤ l) (hlw : l < w.heap.size) (h : PB v w g i pp) : Calls Tryz.prog 108 #[ptr g, .string fin] w (Out v g pp w (unlessF v K pp fin i) (VN l)) := by
  have HL : Hid (g ≤ l ∧ l < w.heap.size) := Lib.hid ⟨hgl, hlw⟩; have HP0 := Lib.hid h; have HG0 : Hid (w.grownBy w (some g)) := Lib.hid (gb_refl _ _); have HJ0 := Lib.hid hn
  clear h hn hgl hlw
  go_enter Tryz.func108, Tryz.ntmps108
  cases hS195 : isS v i fin with
  | true =>
    have HS195 := Lib.hid hS195
    have HJ196 : Hid (i < v.L.length) := Lib.hid (isS_lt hS195)
    clear hS195
    go_wp2_with fail
    refine (sySkipYes hA.out.k HP0.out HS195.out).mono ?_
    rintro e w196 ⟨rfl, hp, hb⟩
    have HP196 := Lib.hid hp; have HG196 := Lib.hid (gb_trans HG0.out hb)
    clear hp hb HP0 HG0 
    have hd197 : dpt (non) ≤ 1 := by decide
    have HJ197 := Lib.hid hd197
    clear hd197
    go_wp2_with fail
    refine (syNone (Nat.lt_of_lt_of_le HL.out.2 HG196.out.size)).mono ?_
    rintro e w198 ⟨b197, rfl, hb, hx⟩
    have HP198 := Lib.hid (HP196.out.below hb); have HG198 := Lib.hid (gb_trans HG196.out (gbOfB hb)); have HX197 := Lib.hid hx
    clear hb hx HP196 HG196 
    go_wp2
    go_ret
    have EE : unlessF v K pp fin i = Rs.ok (non) (i + 1) := by
          unfold unlessF
          rw [if_pos HS195.out]
          all_goals rfl
    rw [EE]
    exact ⟨_, rfl, ⟨b197, rfl, HX197.out⟩, HP198.out, HG198.out⟩
  | false =>
    have HS195 := Lib.hid hS195
    clear hS195
    go_wp2_with fail
    refine (sySkipNo hA.out.k HP0.out HS195.out).mono ?_
    rintro e w199 ⟨rfl, hp, hb⟩
    have HP199 := Lib.hid hp; have HG199 := Lib.hid (gb_trans HG0.out hb)
    clear hp hb HP0 HG0 
    obtain ⟨R200, hR200⟩ : ∃ R, K.pipe pp i = R := ⟨_, rfl⟩
    have hi200 := hI.out.pipe pp i HP199.out.il
    rw [hR200] at hi200
    have hc200 := hK.out.pipe _ (by have := HJ0.out; omega) _ _ l HL.out.1 (Nat.lt_of_lt_of_le HL.out.2 HG199.out.size) HP199.out
    rw [hR200] at hc200
    have HC200 := Lib.hid hc200; have HR200 := Lib.hid hR200
    have HI200 := Lib.hid hi200
    clear hc200 hR200 hi200
    go_wp2_with fail
    refine HC200.out.mono ?_
    intro e w201 ho
    clear HC200
    rcases out_cases ho with ⟨x200, j200, u, rfl, rfl, hv, hp, hb⟩ | ⟨a, er, rfl, rfl, hb⟩
    · have HP201 := Lib.hid hp; have HG201 := Lib.hid (gb_trans HG199.out hb)
      have HJ201 : Hid (i < j200 ∧ j200 ≤ v.L.length ∧ dpt x200 ≤ 500000) := Lib.hid (by have h : P1 v 0 i x200 j200 := HI200.out; have h0 := hA.out.k.len; exact ⟨h.1, h.2.1, by have h1 := h.2.2.1; have h2 := h.2.1; omega⟩)
      obtain ⟨b200, rfl, hx⟩ := hv
      have HX200 := Lib.hid hx
      clear hx
      clear ho hp hb HP199 HG199  HI200
      obtain ⟨R202, hR202⟩ : ∃ R, ned v fin j200 = R := ⟨_, rfl⟩
      have hi202 := ned_iv hA.out.q HP201.out.il (s := fin)
      rw [hR202] at hi202
      have hc202 := syNeed hA.out.k HP201.out fin
      rw [hR202] at hc202
      have HC202 := Lib.hid hc202; have HR202 := Lib.hid hR202
      have HI202 := Lib.hid hi202
      clear hc202 hR202 hi202
      go_wp2_with fail
      refine HC202.out.mono ?_
      intro e w203 ho
      clear HC202
      rcases out_cases ho with ⟨x202, j202, u, rfl, rfl, hv, hp, hb⟩ | ⟨a, er, rfl, rfl, hb⟩
      · have HP203 := Lib.hid hp; have HG203 := Lib.hid (gb_trans HG201.out hb)
        have HJ203 : Hid (j200 < j202 ∧ j202 ≤ v.L.length) := Lib.hid (by have h : T1 v j200 x202 j202 := HI202.out; have h0 := hA.out.k.len; exact ⟨by have := h.1; omega, h.2⟩)
        have HX204 := Lib.hid (HX200.out.keep hb HL.out.1)
        obtain rfl := hv
        clear ho hp hb HP201 HG201 HX200 HI202
        go_wp2
        go_ret
        have EE : unlessF v K pp fin i = Rs.ok (x200) (j202) := by
                  unfold unlessF
                  rw [if_neg (by rw [HS195.out]; decide)]
                  rw [HR200.out]; all_goals dsimp only [Rs.bind]
                  rw [HR202.out]; all_goals dsimp only [Rs.bind]
                  all_goals rfl
        rw [EE]
        exact ⟨_, rfl, ⟨b200, rfl, HX204.out⟩, HP203.out, HG203.out⟩
      · have HG203 := Lib.hid (gb_trans HG201.out hb)
        clear ho hb HP201 HG201
        go_wp2
        refine ⟨rfl, ?_⟩
        have EE : unlessF v K pp fin i = Rs.err a er := by
                  unfold unlessF
                  rw [if_neg (by rw [HS195.out]; decide)]
                  rw [HR200.out]; all_goals dsimp only [Rs.bind]
                  rw [HR202.out]; all_goals dsimp only [Rs.bind]
                  all_goals rfl
        rw [EE]
        exact ⟨rfl, HG203.out⟩
    · have HG201 := Lib.hid (gb_trans HG199.out hb)
      clear ho hb HP199 HG199
      go_wp2
      refine ⟨rfl, ?_⟩
      have EE : unlessF v K pp fin i = Rs.err a er := by
              unfold unlessF
              rw [if_neg (by rw [HS195.out]; decide)]
              rw [HR200.out]; all_goals dsimp only [Rs.bind]
              all_goals rfl
      rw [EE]
      exact ⟨rfl, HG201.out⟩
set_option maxRecDepth 100000 in
set_option maxHeartbeats 4000000 in
theorem syInner {v : Ev} {g n : Nat} {K : Kn} (hA : Hid (EvA v)) (hK : Hid (HKs v g K n)) (hI : Hid (IvK v K)) (m : Nd) {bm : Nat} (hd0 : dpt m ≤ 500000) {i : Nat} (hn : v.L.length - i < n) (w : World) (pp l : Nat) (hgl : g ≤ l) (hlw : l < w.heap.size) (h : PB v w g i pp) (hxm : PR w l m bm) : Calls Tryz.prog 95 #[ptr g, ptr bm] w (Out v g pp w (innerF v K pp m i) (VN l)) := by
  have HXM := Lib.hid hxm; have HDM := Lib.hid hd0
  clear hxm hd0
  have HL : Hid (g ≤ l ∧ l < w.heap.size) := Lib.hid ⟨hgl, hlw⟩; have HP0 := Lib.hid h; have HG0 : Hid (w.grownBy w (some g)) := Lib.hid (gb_refl _ _); have HJ0 := Lib.hid hn
  clear h hn hgl hlw
  go_enter Tryz.func95, Tryz.ntmps95
  cases hS205 : isS v i ⟨#[93]⟩ with
  | true =>
    have HS205 := Lib.hid hS205
    have HJ206 : Hid (i < v.L.length) := Lib.hid (isS_lt hS205)
    clear hS205
    go_wp2_with fail
    refine (sySkipYes hA.out.k HP0.out HS205.out).mono ?_
    rintro e w206 ⟨rfl, hp, hb⟩
    have HP206 := Lib.hid hp; have HG206 := Lib.hid (gb_trans HG0.out hb)
    have HX207 := Lib.hid (HXM.out.keep hb HL.out.1)
    clear hp hb HP0 HG0 HXM
    have hd208 : dpt (Nd.mk 12 SX.nil [m]) ≤ 500001 := by have h0 := hA.out.k.len; simp only [dpt, dps]; have := HDM.out; omega
    have HJ208 := Lib.hid hd208
    clear hd208
    go_wp2_with fail
    refine (syNew1 (Nat.lt_of_lt_of_le HL.out.2 HG206.out.size) HX207.out (by have := HDM.out; omega) 12 SX.nil).mono ?_
    rintro e w209 ⟨b208, rfl, hb, hx⟩
    have HP209 := Lib.hid (HP206.out.below hb); have HG209 := Lib.hid (gb_trans HG206.out (gbOfB hb)); have HX208 := Lib.hid hx
    have HX210 := Lib.hid (HX207.out.keep (gbOfB (g := g) hb) HL.out.1)
    clear hb hx HP206 HG206 HX207
    go_wp2
    go_ret
    have EE : innerF v K pp m i = Rs.ok (Nd.mk 12 SX.nil [m]) (i + 1) := by
          unfold innerF
          rw [if_pos HS205.out]
          all_goals rfl
    rw [EE]
    exact ⟨_, rfl, ⟨b208, rfl, HX208.out⟩, HP209.out, HG209.out⟩
  | false =>
    have HS205 := Lib.hid hS205
    clear hS205
    go_wp2_with fail
    refine (sySkipNo hA.out.k HP0.out HS205.out).mono ?_
    rintro e w211 ⟨rfl, hp, hb⟩
    have HP211 := Lib.hid hp; have HG211 := Lib.hid (gb_trans HG0.out hb)
    have HX212 := Lib.hid (HXM.out.keep hb HL.out.1)
    clear hp hb HP0 HG0 HXM
    cases hS213 : isS v i ⟨#[58]⟩ with
    | true =>
      have HS213 := Lib.hid hS213
      have HJ214 : Hid (i < v.L.length) := Lib.hid (isS_lt hS213)
      clear hS213
      go_wp2_with fail
      refine (sySkipYes hA.out.k HP211.out HS213.out).mono ?_
      rintro e w214 ⟨rfl, hp, hb⟩
      have HP214 := Lib.hid hp; have HG214 := Lib.hid (gb_trans HG211.out hb)
      have HX215 := Lib.hid (HX212.out.keep hb HL.out.1)
      clear hp hb HP211 HG211 HX212
      obtain ⟨R216, hR216⟩ : ∃ R, K.pipe pp (i + 1) = R := ⟨_, rfl⟩
      have hi216 := hI.out.pipe pp (i + 1) HP214.out.il
      rw [hR216] at hi216
      have hc216 := hK.out.pipe _ (by have := HJ0.out; have := HJ214.out; omega) _ _ l HL.out.1 (Nat.lt_of_lt_of_le HL.out.2 HG214.out.size) HP214.out
      rw [hR216] at hc216
      have HC216 := Lib.hid hc216; have HR216 := Lib.hid hR216
      have HI216 := Lib.hid hi216
      clear hc216 hR216 hi216
      go_wp2_with fail
      refine HC216.out.mono ?_
      intro e w217 ho
      clear HC216
      rcases out_cases ho with ⟨x216, j216, u, rfl, rfl, hv, hp, hb⟩ | ⟨a, er, rfl, rfl, hb⟩
      · have HP217 := Lib.hid hp; have HG217 := Lib.hid (gb_trans HG214.out hb)
        have HJ217 : Hid (i + 1 < j216 ∧ j216 ≤ v.L.length ∧ dpt x216 ≤ 500000) := Lib.hid (by have h : P1 v 0 (i + 1) x216 j216 := HI216.out; have h0 := hA.out.k.len; exact ⟨h.1, h.2.1, by have h1 := h.2.2.1; have h2 := h.2.1; omega⟩)
        have HX218 := Lib.hid (HX215.out.keep hb HL.out.1)
        obtain ⟨b216, rfl, hx⟩ := hv
        have HX216 := Lib.hid hx
        clear hx
        clear ho hp hb HP214 HG214 HX215 HI216
        obtain ⟨R219, hR219⟩ : ∃ R, ned v ⟨#[93]⟩ j216 = R := ⟨_, rfl⟩
        have hi219 := ned_iv hA.out.q HP217.out.il (s := ⟨#[93]⟩)
        rw [hR219] at hi219
        have hc219 := syNeed hA.out.k HP217.out ⟨#[93]⟩
        rw [hR219] at hc219
        have HC219 := Lib.hid hc219; have HR219 := Lib.hid hR219
        have HI219 := Lib.hid hi219
        clear hc219 hR219 hi219
        go_wp2_with fail
        refine HC219.out.mono ?_
        intro e w220 ho
        clear HC219
        rcases out_cases ho with ⟨x219, j219, u, rfl, rfl, hv, hp, hb⟩ | ⟨a, er, rfl, rfl, hb⟩
        · have HP220 := Lib.hid hp; have HG220 := Lib.hid (gb_trans HG217.out hb)
          have HJ220 : Hid (j216 < j219 ∧ j219 ≤ v.L.length) := Lib.hid (by have h : T1 v j216 x219 j219 := HI219.out; have h0 := hA.out.k.len; exact ⟨by have := h.1; omega, h.2⟩)
          have HX221 := Lib.hid (HX218.out.keep hb HL.out.1)
          have HX222 := Lib.hid (HX216.out.keep hb HL.out.1)
          obtain rfl := hv
          clear ho hp hb HP217 HG217 HX218 HX216 HI219
          have hd223 : dpt (non) ≤ 1 := by decide
          have HJ223 := Lib.hid hd223
          clear hd223
          go_wp2_with fail
          refine (syNone (Nat.lt_of_lt_of_le HL.out.2 HG220.out.size)).mono ?_
          rintro e w224 ⟨b223, rfl, hb, hx⟩
          have HP224 := Lib.hid (HP220.out.below hb); have HG224 := Lib.hid (gb_trans HG220.out (gbOfB hb)); have HX223 := Lib.hid hx
          have HX225 := Lib.hid (HX221.out.keep (gbOfB (g := g) hb) HL.out.1)
          have HX226 := Lib.hid (HX222.out.keep (gbOfB (g := g) hb) HL.out.1)
          clear hb hx HP220 HG220 HX221 HX222
          have hd227 : dpt (Nd.mk 11 SX.nil [m, non, x216]) ≤ 500001 := by have h0 := hA.out.k.len; simp only [dpt, dps]; have := HDM.out; have := HJ223.out; have := HJ217.out; omega
          have HJ227 := Lib.hid hd227
          clear hd227
          go_wp2_with fail
          refine (syNew3 (Nat.lt_of_lt_of_le HL.out.2 HG224.out.size) HX225.out HX223.out HX226.out (by have := HDM.out; omega) (by have := HJ223.out; omega) (by have := HJ217.out; omega) 11 SX.nil).mono ?_
          rintro e w228 ⟨b227, rfl, hb, hx⟩
          have HP228 := Lib.hid (HP224.out.below hb); have HG228 := Lib.hid (gb_trans HG224.out (gbOfB hb)); have HX227 := Lib.hid hx
          have HX229 := Lib.hid (HX225.out.keep (gbOfB (g := g) hb) HL.out.1)
          have HX230 := Lib.hid (HX226.out.keep (gbOfB (g := g) hb) HL.out.1)
          have HX231 := Lib.hid (HX223.out.keep (gbOfB (g := g) hb) HL.out.1)
          clear hb hx HP224 HG224 HX225 HX226 HX223
          go_wp2
          go_ret
          have EE : innerF v K pp m i = Rs.ok (Nd.mk 11 SX.nil [m, non, x216]) (j219) := by
                      unfold innerF
                      rw [if_neg (by rw [HS205.out]; decide)]
                      rw [if_pos HS213.out]
                      rw [HR216.out]; all_goals dsimp only [Rs.bind]
                      rw [HR219.out]; all_goals dsimp only [Rs.bind]
                      all_goals rfl
          rw [EE]
          exact ⟨_, rfl, ⟨b227, rfl, HX227.out⟩, HP228.out, HG228.out⟩
        · have HG220 := Lib.hid (gb_trans HG217.out hb)
          clear ho hb HP217 HG217
          go_wp2
          refine ⟨rfl, ?_⟩
          have EE : innerF v K pp m i = Rs.err a er := by
                      unfold innerF
                      rw [if_neg (by rw [HS205.out]; decide)]
                      rw [if_pos HS213.out]
                      rw [HR216.out]; all_goals dsimp only [Rs.bind]
                      rw [HR219.out]; all_goals dsimp only [Rs.bind]
                      all_goals rfl
          rw [EE]
          exact ⟨rfl, HG220.out⟩
      · have HG217 := Lib.hid (gb_trans HG214.out hb)
        clear ho hb HP214 HG214
        go_wp2
        refine ⟨rfl, ?_⟩
        have EE : innerF v K pp m i = Rs.err a er := by
                  unfold innerF
                  rw [if_neg (by rw [HS205.out]; decide)]
                  rw [if_pos HS213.out]
                  rw [HR216.out]; all_goals dsimp only [Rs.bind]
                  all_goals rfl
        rw [EE]
        exact ⟨rfl, HG217.out⟩
    | false =>
      have HS213 := Lib.hid hS213
      clear hS213
      go_wp2_with fail
      refine (sySkipNo hA.out.k HP211.out HS213.out).mono ?_
      rintro e w232 ⟨rfl, hp, hb⟩
      have HP232 := Lib.hid hp; have HG232 := Lib.hid (gb_trans HG211.out hb)
      have HX233 := Lib.hid (HX212.out.keep hb HL.out.1)
      clear hp hb HP211 HG211 HX212
      obtain ⟨R234, hR234⟩ : ∃ R, K.pipe pp i = R := ⟨_, rfl⟩
      have hi234 := hI.out.pipe pp i HP232.out.il
      rw [hR234] at hi234
      have hc234 := hK.out.pipe _ (by have := HJ0.out; omega) _ _ l HL.out.1 (Nat.lt_of_lt_of_le HL.out.2 HG232.out.size) HP232.out
      rw [hR234] at hc234
      have HC234 := Lib.hid hc234; have HR234 := Lib.hid hR234
      have HI234 := Lib.hid hi234
      clear hc234 hR234 hi234
      go_wp2_with fail
      refine HC234.out.mono ?_
      intro e w235 ho
      clear HC234
      rcases out_cases ho with ⟨x234, j234, u, rfl, rfl, hv, hp, hb⟩ | ⟨a, er, rfl, rfl, hb⟩
      · have HP235 := Lib.hid hp; have HG235 := Lib.hid (gb_trans HG232.out hb)
        have HJ235 : Hid (i < j234 ∧ j234 ≤ v.L.length ∧ dpt x234 ≤ 500000) := Lib.hid (by have h : P1 v 0 i x234 j234 := HI234.out; have h0 := hA.out.k.len; exact ⟨h.1, h.2.1, by have h1 := h.2.2.1; have h2 := h.2.1; omega⟩)
        have HX236 := Lib.hid (HX233.out.keep hb HL.out.1)
        obtain ⟨b234, rfl, hx⟩ := hv
        have HX234 := Lib.hid hx
        clear hx
        clear ho hp hb HP232 HG232 HX233 HI234
        cases hS237 : isS v j234 ⟨#[58]⟩ with
        | true =>
          have HS237 := Lib.hid hS237
          have HJ238 : Hid (j234 < v.L.length) := Lib.hid (isS_lt hS237)
          clear hS237
          go_wp2_with fail
          refine (sySkipYes hA.out.k HP235.out HS237.out).mono ?_
          rintro e w238 ⟨rfl, hp, hb⟩
          have HP238 := Lib.hid hp; have HG238 := Lib.hid (gb_trans HG235.out hb)
          have HX239 := Lib.hid (HX236.out.keep hb HL.out.1)
          have HX240 := Lib.hid (HX234.out.keep hb HL.out.1)
          clear hp hb HP235 HG235 HX236 HX234
          obtain ⟨R241, hR241⟩ : ∃ R, unlessF v K pp ⟨#[93]⟩ (j234 + 1) = R := ⟨_, rfl⟩
          have hi241 := unlessF_iv hA.out.q hI.out pp ⟨#[93]⟩ HP238.out.il
          rw [hR241] at hi241
          have hc241 := syUnless hA hK hI ⟨#[93]⟩ (by have := HJ0.out; have := HJ235.out; have := HJ238.out; omega) w238 pp l HL.out.1 (Nat.lt_of_lt_of_le HL.out.2 HG238.out.size) HP238.out
          rw [hR241] at hc241
          have HC241 := Lib.hid hc241; have HR241 := Lib.hid hR241
          have HI241 := Lib.hid hi241
          clear hc241 hR241 hi241
          go_wp2_with fail
          refine HC241.out.mono ?_
          intro e w242 ho
          clear HC241
          rcases out_cases ho with ⟨x241, j241, u, rfl, rfl, hv, hp, hb⟩ | ⟨a, er, rfl, rfl, hb⟩
          · have HP242 := Lib.hid hp; have HG242 := Lib.hid (gb_trans HG238.out hb)
            have HJ242 : Hid (j234 + 1 < j241 ∧ j241 ≤ v.L.length ∧ dpt x241 ≤ 500000) := Lib.hid (by have h : P1 v 0 (j234 + 1) x241 j241 := HI241.out; have h0 := hA.out.k.len; exact ⟨h.1, h.2.1, by have h1 := h.2.2.1; have h2 := h.2.1; omega⟩)
            have HX243 := Lib.hid (HX239.out.keep hb HL.out.1)
            have HX244 := Lib.hid (HX240.out.keep hb HL.out.1)
            obtain ⟨b241, rfl, hx⟩ := hv
            have HX241 := Lib.hid hx
            clear hx
            clear ho hp hb HP238 HG238 HX239 HX240 HI241
            have hd245 : dpt (Nd.mk 11 SX.nil [m, x234, x241]) ≤ 500001 := by have h0 := hA.out.k.len; simp only [dpt, dps]; have := HDM.out; have := HJ235.out; have := HJ242.out; omega
            have HJ245 := Lib.hid hd245
            clear hd245
            go_wp2_with fail
            refine (syNew3 (Nat.lt_of_lt_of_le HL.out.2 HG242.out.size) HX243.out HX244.out HX241.out (by have := HDM.out; omega) (by have := HJ235.out; omega) (by have := HJ242.out; omega) 11 SX.nil).mono ?_
            rintro e w246 ⟨b245, rfl, hb, hx⟩
            have HP246 := Lib.hid (HP242.out.below hb); have HG246 := Lib.hid (gb_trans HG242.out (gbOfB hb)); have HX245 := Lib.hid hx
            have HX247 := Lib.hid (HX243.out.keep (gbOfB (g := g) hb) HL.out.1)
            have HX248 := Lib.hid (HX244.out.keep (gbOfB (g := g) hb) HL.out.1)
            have HX249 := Lib.hid (HX241.out.keep (gbOfB (g := g) hb) HL.out.1)
            clear hb hx HP242 HG242 HX243 HX244 HX241
            go_wp2
            go_ret
            have EE : innerF v K pp m i = Rs.ok (Nd.mk 11 SX.nil [m, x234, x241]) (j241) := by
                          unfold innerF
                          rw [if_neg (by rw [HS205.out]; decide)]
                          rw [if_neg (by rw [HS213.out]; decide)]
                          rw [HR234.out]; all_goals dsimp only [Rs.bind]
                          rw [if_pos HS237.out]
                          rw [HR241.out]; all_goals dsimp only [Rs.bind]
                          all_goals rfl
            rw [EE]
            exact ⟨_, rfl, ⟨b245, rfl, HX245.out⟩, HP246.out, HG246.out⟩
          · have HG242 := Lib.hid (gb_trans HG238.out hb)
            clear ho hb HP238 HG238
            go_wp2
            refine ⟨rfl, ?_⟩
            have EE : innerF v K pp m i = Rs.err a er := by
                          unfold innerF
                          rw [if_neg (by rw [HS205.out]; decide)]
                          rw [if_neg (by rw [HS213.out]; decide)]
                          rw [HR234.out]; all_goals dsimp only [Rs.bind]
                          rw [if_pos HS237.out]
                          rw [HR241.out]; all_goals dsimp only [Rs.bind]
                          all_goals rfl
            rw [EE]
            exact ⟨rfl, HG242.out⟩
        | false =>
          have HS237 := Lib.hid hS237
          clear hS237
          go_wp2_with fail
          refine (sySkipNo hA.out.k HP235.out HS237.out).mono ?_
          rintro e w250 ⟨rfl, hp, hb⟩
          have HP250 := Lib.hid hp; have HG250 := Lib.hid (gb_trans HG235.out hb)
          have HX251 := Lib.hid (HX236.out.keep hb HL.out.1)
          have HX252 := Lib.hid (HX234.out.keep hb HL.out.1)
          clear hp hb HP235 HG235 HX236 HX234
          obtain ⟨R253, hR253⟩ : ∃ R, ned v ⟨#[93]⟩ j234 = R := ⟨_, rfl⟩
          have hi253 := ned_iv hA.out.q HP250.out.il (s := ⟨#[93]⟩)
          rw [hR253] at hi253
          have hc253 := syNeed hA.out.k HP250.out ⟨#[93]⟩
          rw [hR253] at hc253
          have HC253 := Lib.hid hc253; have HR253 := Lib.hid hR253
          have HI253 := Lib.hid hi253
          clear hc253 hR253 hi253
          go_wp2_with fail
          refine HC253.out.mono ?_
          intro e w254 ho
          clear HC253
          rcases out_cases ho with ⟨x253, j253, u, rfl, rfl, hv, hp, hb⟩ | ⟨a, er, rfl, rfl, hb⟩
          · have HP254 := Lib.hid hp; have HG254 := Lib.hid (gb_trans HG250.out hb)
            have HJ254 : Hid (j234 < j253 ∧ j253 ≤ v.L.length) := Lib.hid (by have h : T1 v j234 x253 j253 := HI253.out; have h0 := hA.out.k.len; exact ⟨by have := h.1; omega, h.2⟩)
            have HX255 := Lib.hid (HX251.out.keep hb HL.out.1)
            have HX256 := Lib.hid (HX252.out.keep hb HL.out.1)
            obtain rfl := hv
            clear ho hp hb HP250 HG250 HX251 HX252 HI253
            have hd257 : dpt (ixN (m) (x234)) ≤ 500001 := by simp only [ixN, dpt, dps]; have := HDM.out; have := HJ235.out; omega
            have HJ257 := Lib.hid hd257
            clear hd257
            go_wp2_with fail
            refine (syIndex (Nat.lt_of_lt_of_le HL.out.2 HG254.out.size) HX255.out HX256.out (by have := HDM.out; omega) (by have := HJ235.out; omega)).mono ?_
            rintro e w258 ⟨b257, rfl, hb, hx⟩
            have HP258 := Lib.hid (HP254.out.below hb); have HG258 := Lib.hid (gb_trans HG254.out (gbOfB hb)); have HX257 := Lib.hid hx
            have HX259 := Lib.hid (HX255.out.keep (gbOfB (g := g) hb) HL.out.1)
            have HX260 := Lib.hid (HX256.out.keep (gbOfB (g := g) hb) HL.out.1)
            clear hb hx HP254 HG254 HX255 HX256
            go_wp2
            go_ret
            have EE : innerF v K pp m i = Rs.ok (ixN (m) (x234)) (j253) := by
                          unfold innerF
                          rw [if_neg (by rw [HS205.out]; decide)]
                          rw [if_neg (by rw [HS213.out]; decide)]
                          rw [HR234.out]; all_goals dsimp only [Rs.bind]
                          rw [if_neg (by rw [HS237.out]; decide)]
                          rw [HR253.out]; all_goals dsimp only [Rs.bind]
                          all_goals rfl
            rw [EE]
            exact ⟨_, rfl, ⟨b257, rfl, HX257.out⟩, HP258.out, HG258.out⟩
          · have HG254 := Lib.hid (gb_trans HG250.out hb)
            clear ho hb HP250 HG250
            go_wp2
            refine ⟨rfl, ?_⟩
            have EE : innerF v K pp m i = Rs.err a er := by
                          unfold innerF
                          rw [if_neg (by rw [HS205.out]; decide)]
                          rw [if_neg (by rw [HS213.out]; decide)]
                          rw [HR234.out]; all_goals dsimp only [Rs.bind]
                          rw [if_neg (by rw [HS237.out]; decide)]
                          rw [HR253.out]; all_goals dsimp only [Rs.bind]
                          all_goals rfl
            rw [EE]
            exact ⟨rfl, HG254.out⟩
      · have HG235 := Lib.hid (gb_trans HG232.out hb)
        clear ho hb HP232 HG232
        go_wp2
        refine ⟨rfl, ?_⟩
        have EE : innerF v K pp m i = Rs.err a er := by
                  unfold innerF
                  rw [if_neg (by rw [HS205.out]; decide)]
                  rw [if_neg (by rw [HS213.out]; decide)]
                  rw [HR234.out]; all_goals dsimp only [Rs.bind]
                  all_goals rfl
        rw [EE]
        exact ⟨rfl, HG235.out⟩
end Go.Proofs.YtpgiljibicigeaaGreatDoor
