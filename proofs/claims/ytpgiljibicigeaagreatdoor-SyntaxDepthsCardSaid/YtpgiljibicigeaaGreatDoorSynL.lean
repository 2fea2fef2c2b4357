/- syntax: format, call, keys, patterns walked (gensynl.py) -/
import Derived.Test.YtpgiljibicigeaaGreatDoorSynJs
set_option linter.unusedVariables false
set_option linter.unusedSimpArgs false
namespace Go.Proofs.YtpgiljibicigeaaGreatDoor
open Go.RowKit SX

set_option maxRecDepth 100000 in
set_option maxHeartbeats 4000000 in
theorem syFormat {v : Ev} {g n : Nat} {K : Kn} (hA : Hid (EvA v)) (hK : Hid (HKs v g K n)) (hI : Hid (IvK v K)) {i : Nat} (hn : v.L.length - i < n + 1) : Cn v g 105 (formatF v K) i := by
  intro w pp l hgl hlw h
  have HL : Hid (g ≤ l ∧ l < w.heap.size) := Lib.hid ⟨hgl, hlw⟩; have HP0 := Lib.hid h; have HG0 : Hid (w.grownBy w (some g)) := Lib.hid (gb_refl _ _); have HJ0 := Lib.hid hn
  clear h hn hgl hlw
  show Calls Tryz.prog 105 #[ptr g] w (Out v g pp w (formatF v K pp i) (VN l))
  go_enter Tryz.func105, Tryz.ntmps105
  obtain ⟨R1, hR1⟩ : ∃ R, tak v 5 i = R := ⟨_, rfl⟩
  have hi1 := tak_iv hA.out.q HP0.out.il (k := 5) (by decide)
  rw [hR1] at hi1
  have hc1 := syTake hA.out.k HP0.out 5 (by decide)
  rw [hR1] at hc1
  have HC1 := Lib.hid hc1; have HR1 := Lib.hid hR1
  have HI1 := Lib.hid hi1
  clear hc1 hR1 hi1
  go_wp2_with fail
  refine HC1.out.mono ?_
  intro e w2 ho
  clear HC1
  rcases out_cases ho with ⟨x1, j1, u, rfl, rfl, hv, hp, hb⟩ | ⟨a, er, rfl, rfl, hb⟩
  · have HP2 := Lib.hid hp; have HG2 := Lib.hid (gb_trans HG0.out hb)
    have HJ2 : Hid (i < j1 ∧ j1 ≤ v.L.length) := Lib.hid (by have h : T1 v i x1 j1 := HI1.out; have h0 := hA.out.k.len; exact ⟨by have := h.1; omega, h.2⟩)
    obtain rfl := hv
    clear ho hp hb HP0 HG0  HI1
    by_cases hK3 : (tkn v j1).1 = 7
    · have HS3 := Lib.hid hK3
      have q3 : (((tkn v j1).1 : Int) == 7) = true := by rw [hK3]; rfl
      have qn3 : (((tkn v j1).1 : Int) != 7) = false := by rw [hK3]; rfl
      have HJ4 : Hid (j1 < v.L.length) := Lib.hid (tkn_lt hK3 (by decide))
      clear hK3
      have ft := fieldTok0
      go_wp2_with fail
      refine (syNext hA.out.k HP2.out).mono ?_
      rintro e w5 ⟨rfl, hb⟩
      have HP5 := Lib.hid (HP2.out.below hb); have HG5 := Lib.hid (gb_trans HG2.out (gbOfB hb))
      unfold nxV
      clear hb HP2 HG2 
      obtain ⟨R6, hR6⟩ : ∃ R, textF v K pp x1 j1 = R := ⟨_, rfl⟩
      have hi6 := textF_iv hA.out.q hI.out pp x1 HP5.out.il
      rw [hR6] at hi6
      have hc6 := syText hA hK hI x1 (by have := HJ0.out; have := HJ2.out; have := HJ4.out; omega) w5 pp l HL.out.1 (Nat.lt_of_lt_of_le HL.out.2 HG5.out.size) HP5.out
      rw [hR6] at hc6
      have HC6 := Lib.hid hc6; have HR6 := Lib.hid hR6
      have HI6 := Lib.hid hi6
      clear hc6 hR6 hi6
      go_wp2_with fail
      refine HC6.out.mono ?_
      intro e w7 ho
      clear HC6
      rcases out_cases ho with ⟨x6, j6, u, rfl, rfl, hv, hp, hb⟩ | ⟨a, er, rfl, rfl, hb⟩
      · have HP7 := Lib.hid hp; have HG7 := Lib.hid (gb_trans HG5.out hb)
        have HJ7 : Hid (j1 < j6 ∧ j6 ≤ v.L.length ∧ dpt x6 ≤ 500000) := Lib.hid (by have h : P4 v j1 x6 j6 := HI6.out; have h0 := hA.out.k.len; exact ⟨h.1, h.2.1, by have h1 := h.2.2.1; have h2 := h.2.1; omega⟩)
        obtain ⟨b6, rfl, hx⟩ := hv
        have HX6 := Lib.hid hx
        clear hx
        clear ho hp hb HP5 HG5  HI6
        go_wp2
        go_ret
        have EE : formatF v K pp i = Rs.ok (x6) (j6) := by
                  unfold formatF
                  rw [HR1.out]; all_goals dsimp only [Rs.bind]
                  rw [if_pos HS3.out]
                  rw [HR6.out]; all_goals dsimp only [Rs.bind]
                  all_goals rfl
        rw [EE]
        exact ⟨_, rfl, ⟨b6, rfl, HX6.out⟩, HP7.out, HG7.out⟩
      · have HG7 := Lib.hid (gb_trans HG5.out hb)
        clear ho hb HP5 HG5
        go_wp2
        refine ⟨rfl, ?_⟩
        have EE : formatF v K pp i = Rs.err a er := by
                  unfold formatF
                  rw [HR1.out]; all_goals dsimp only [Rs.bind]
                  rw [if_pos HS3.out]
                  rw [HR6.out]; all_goals dsimp only [Rs.bind]
                  all_goals rfl
        rw [EE]
        exact ⟨rfl, HG7.out⟩
    · have HS3 := Lib.hid hK3
      have q3 : (((tkn v j1).1 : Int) == 7) = false := by rw [beq_eq_false_iff_ne]; omega
      have qn3 : (((tkn v j1).1 : Int) != 7) = true := by rw [bne_iff_ne]; omega
      clear hK3
      have ft := fieldTok0
      go_wp2_with fail
      refine (syNext hA.out.k HP2.out).mono ?_
      rintro e w9 ⟨rfl, hb⟩
      have HP9 := Lib.hid (HP2.out.below hb); have HG9 := Lib.hid (gb_trans HG2.out (gbOfB hb))
      unfold nxV
      clear hb HP2 HG2 
      have hd10 : dpt (Nd.mk 6 x1 []) ≤ 1 := by have h0 := hA.out.k.len; simp only [dpt, dps]; omega
      have HJ10 := Lib.hid hd10
      clear hd10
      go_wp2_with fail
      refine (syNew0 (Nat.lt_of_lt_of_le HL.out.2 HG9.out.size) 6 x1).mono ?_
      rintro e w11 ⟨b10, rfl, hb, hx⟩
      have HP11 := Lib.hid (HP9.out.below hb); have HG11 := Lib.hid (gb_trans HG9.out (gbOfB hb)); have HX10 := Lib.hid hx
      clear hb hx HP9 HG9 
      go_wp2
      go_ret
      have EE : formatF v K pp i = Rs.ok (Nd.mk 6 x1 []) (j1) := by
              unfold formatF
              rw [HR1.out]; all_goals dsimp only [Rs.bind]
              rw [if_neg HS3.out]
              all_goals rfl
      rw [EE]
      exact ⟨_, rfl, ⟨b10, rfl, HX10.out⟩, HP11.out, HG11.out⟩
  · have HG2 := Lib.hid (gb_trans HG0.out hb)
    clear ho hb HP0 HG0
    go_wp2
    refine ⟨rfl, ?_⟩
    have EE : formatF v K pp i = Rs.err a er := by
          unfold formatF
          rw [HR1.out]; all_goals dsimp only [Rs.bind]
          all_goals rfl
    rw [EE]
    exact ⟨rfl, HG2.out⟩
set_option maxRecDepth 100000 in
set_option maxHeartbeats 4000000 in
theorem syCall {v : Ev} {g n : Nat} {K : Kn} (hA : Hid (EvA v)) (hK : Hid (HKs v g K n)) (hI : Hid (IvK v K)) {i : Nat} (hn : v.L.length - i < n + 1) : Cn v g 117 (callF v K) i := by
  intro w pp l hgl hlw h
  have HL : Hid (g ≤ l ∧ l < w.heap.size) := Lib.hid ⟨hgl, hlw⟩; have HP0 := Lib.hid h; have HG0 : Hid (w.grownBy w (some g)) := Lib.hid (gb_refl _ _); have HJ0 := Lib.hid hn
  clear h hn hgl hlw
  show Calls Tryz.prog 117 #[ptr g] w (Out v g pp w (callF v K pp i) (VN l))
  go_enter Tryz.func117, Tryz.ntmps117
  obtain ⟨R12, hR12⟩ : ∃ R, ownF v i = R := ⟨_, rfl⟩
  have hi12 := ownF_iv hA.out.q HP0.out.il
  rw [hR12] at hi12
  have hc12 := syTakeOwn hA.out.k hA.out.wd HP0.out
  rw [hR12] at hc12
  have HC12 := Lib.hid hc12; have HR12 := Lib.hid hR12
  have HI12 := Lib.hid hi12
  clear hc12 hR12 hi12
  go_wp2_with fail
  refine HC12.out.mono ?_
  intro e w13 ho
  clear HC12
  rcases out_cases ho with ⟨x12, j12, u, rfl, rfl, hv, hp, hb⟩ | ⟨a, er, rfl, rfl, hb⟩
  · have HP13 := Lib.hid hp; have HG13 := Lib.hid (gb_trans HG0.out hb)
    have HJ13 : Hid (i < j12 ∧ j12 ≤ v.L.length) := Lib.hid (by have h : T1 v i x12 j12 := HI12.out; have h0 := hA.out.k.len; exact ⟨by have := h.1; omega, h.2⟩)
    obtain rfl := hv
    clear ho hp hb HP0 HG0  HI12
    cases hS14 : isS v j12 ⟨#[40]⟩ with
    | true =>
      have HS14 := Lib.hid hS14
      have HJ15 : Hid (j12 < v.L.length) := Lib.hid (isS_lt hS14)
      clear hS14
      go_wp2_with fail
      refine (sySkipYes hA.out.k HP13.out HS14.out).mono ?_
      rintro e w15 ⟨rfl, hp, hb⟩
      have HP15 := Lib.hid hp; have HG15 := Lib.hid (gb_trans HG13.out hb)
      clear hp hb HP13 HG13 
      have hmf : ∀ (fn : Fn) (first cap : Array Value) (w : World), (Instr.makeFunc fn first cap).run Tryz.prog w = .ok (.func fn first cap) w := fun _ _ _ _ => rfl
      obtain ⟨R16, hR16⟩ : ∃ R, rowF v (K.pipe pp) ⟨#[59]⟩ ⟨#[41]⟩ (j12 + 1) = R := ⟨_, rfl⟩
      have hi16 := rowF_iv hA.out.q (fun i hi => (hI.out.pipe) pp i hi) ⟨#[59]⟩ ⟨#[41]⟩ HP15.out.il
      rw [hR16] at hi16
      have hc16 := syRow (F := 22) (m := n) (IT := K.pipe) (cf_of Tryz.func22 (by decide) rfl) hA (Lib.hid (hK.out.pipe)) (Lib.hid (hI.out.pipe)) ⟨#[59]⟩ ⟨#[41]⟩ (by have := HJ0.out; have := HJ13.out; have := HJ15.out; omega) w15 pp l HL.out.1 (Nat.lt_of_lt_of_le HL.out.2 HG15.out.size) HP15.out
      rw [hR16] at hc16
      have HC16 := Lib.hid hc16; have HR16 := Lib.hid hR16
      have HI16 := Lib.hid hi16
      clear hc16 hR16 hi16
      go_wp2_with fail
      refine HC16.out.mono ?_
      intro e w17 ho
      clear HC16
      rcases out_cases ho with ⟨x16, j16, u, rfl, rfl, hv, hp, hb⟩ | ⟨a, er, rfl, rfl, hb⟩
      · have HP17 := Lib.hid hp; have HG17 := Lib.hid (gb_trans HG15.out hb)
        have HJ17 : Hid (j12 + 1 < j16 ∧ j16 ≤ v.L.length ∧ dps x16 ≤ 500000) := Lib.hid (by have h : P2 v (j12 + 1) x16 j16 := HI16.out; have h0 := hA.out.k.len; exact ⟨h.1, h.2.1, by have h1 := h.2.2.1; have h2 := h.2.1; omega⟩)
        obtain ⟨ao16, cap16, bs16, rfl, hrow, hrl⟩ := hv
        have HROW16 := Lib.hid hrow; have HRLN16 := Lib.hid hrl
        clear hrow hrl
        clear ho hp hb HP15 HG15  HI16
        have hd18 : dpt (Nd.mk 25 x12 x16) ≤ 500001 := by have := HJ17.out; simp only [dpt]; omega
        have HJ18 := Lib.hid hd18
        clear hd18
        go_wp2_with fail
        refine (syNewPart 25 x12 x16 ao16 cap16 (fun k => l < k) w17 HROW16.out.prs (Nat.lt_of_lt_of_le HL.out.2 HG17.out.size) (by have := HJ17.out; omega) (by have := HRLN16.out; omega)).mono ?_
        rintro e w19 ⟨rfl, hb, hx⟩
        have HP19 := Lib.hid (HP17.out.below hb); have HG19 := Lib.hid (gb_trans HG17.out (gbOfB hb)); have HX18 : Hid (PR w19 l (Nd.mk 25 x12 x16) _) := Lib.hid hx
        clear hb hx HP17 HG17  HROW16
        go_wp2
        go_ret
        have EE : callF v K pp i = Rs.ok (Nd.mk 25 x12 x16) (j16) := by
                  unfold callF
                  rw [HR12.out]; all_goals dsimp only [Rs.bind]
                  rw [if_pos HS14.out]
                  rw [HR16.out]; all_goals dsimp only [Rs.bind]
                  all_goals rfl
        rw [EE]
        exact ⟨_, rfl, ⟨_, rfl, HX18.out⟩, HP19.out, HG19.out⟩
      · have HG17 := Lib.hid (gb_trans HG15.out hb)
        clear ho hb HP15 HG15
        go_wp2
        refine ⟨rfl, ?_⟩
        have EE : callF v K pp i = Rs.err a er := by
                  unfold callF
                  rw [HR12.out]; all_goals dsimp only [Rs.bind]
                  rw [if_pos HS14.out]
                  rw [HR16.out]; all_goals dsimp only [Rs.bind]
                  all_goals rfl
        rw [EE]
        exact ⟨rfl, HG17.out⟩
    | false =>
      have HS14 := Lib.hid hS14
      clear hS14
      go_wp2_with fail
      refine (sySkipNo hA.out.k HP13.out HS14.out).mono ?_
      rintro e w20 ⟨rfl, hp, hb⟩
      have HP20 := Lib.hid hp; have HG20 := Lib.hid (gb_trans HG13.out hb)
      clear hp hb HP13 HG13 
      have hd21 : dpt (Nd.mk 25 x12 []) ≤ 1 := by have h0 := hA.out.k.len; simp only [dpt, dps]; omega
      have HJ21 := Lib.hid hd21
      clear hd21
      go_wp2_with fail
      refine (syNew0 (Nat.lt_of_lt_of_le HL.out.2 HG20.out.size) 25 x12).mono ?_
      rintro e w22 ⟨b21, rfl, hb, hx⟩
      have HP22 := Lib.hid (HP20.out.below hb); have HG22 := Lib.hid (gb_trans HG20.out (gbOfB hb)); have HX21 := Lib.hid hx
      clear hb hx HP20 HG20 
      go_wp2
      go_ret
      have EE : callF v K pp i = Rs.ok (Nd.mk 25 x12 []) (j12) := by
              unfold callF
              rw [HR12.out]; all_goals dsimp only [Rs.bind]
              rw [if_neg (by rw [HS14.out]; decide)]
              all_goals rfl
      rw [EE]
      exact ⟨_, rfl, ⟨b21, rfl, HX21.out⟩, HP22.out, HG22.out⟩
  · have HG13 := Lib.hid (gb_trans HG0.out hb)
    clear ho hb HP0 HG0
    go_wp2
    refine ⟨rfl, ?_⟩
    have EE : callF v K pp i = Rs.err a er := by
          unfold callF
          rw [HR12.out]; all_goals dsimp only [Rs.bind]
          all_goals rfl
    rw [EE]
    exact ⟨rfl, HG13.out⟩
set_option maxRecDepth 100000 in
set_option maxHeartbeats 4000000 in
theorem syLitKey {v : Ev} {g n : Nat} {K : Kn} (hA : Hid (EvA v)) (hK : Hid (HKs v g K n)) (hI : Hid (IvK v K)) {i : Nat} (hn : v.L.length - i < n + 1) (w : World) (pp l : Nat) (hgl : g ≤ l) (hlw : l < w.heap.size) (h : PB v w g i pp) : Calls Tryz.prog 109 #[ptr g] w (Out v g pp w (litKeyF v i) (VS)) := by
  have HL : Hid (g ≤ l ∧ l < w.heap.size) := Lib.hid ⟨hgl, hlw⟩; have HP0 := Lib.hid h; have HG0 : Hid (w.grownBy w (some g)) := Lib.hid (gb_refl _ _); have HJ0 := Lib.hid hn
  clear h hn hgl hlw
  go_enter Tryz.func109, Tryz.ntmps109
  by_cases hK23 : (tkn v i).1 = 7
  · have HS23 := Lib.hid hK23
    have q23 : (((tkn v i).1 : Int) == 7) = true := by rw [hK23]; rfl
    have qn23 : (((tkn v i).1 : Int) != 7) = false := by rw [hK23]; rfl
    have HJ24 : Hid (i < v.L.length) := Lib.hid (tkn_lt hK23 (by decide))
    clear hK23
    have ft := fieldTok0
    go_wp2_with fail
    refine (syNext hA.out.k HP0.out).mono ?_
    rintro e w25 ⟨rfl, hb⟩
    have HP25 := Lib.hid (HP0.out.below hb); have HG25 := Lib.hid (gb_trans HG0.out (gbOfB hb))
    unfold nxV
    clear hb HP0 HG0 
    obtain ⟨R26, hR26⟩ : ∃ R, tak v 7 i = R := ⟨_, rfl⟩
    have hi26 := tak_iv hA.out.q HP25.out.il (k := 7) (by decide)
    rw [hR26] at hi26
    have hc26 := syTake hA.out.k HP25.out 7 (by decide)
    rw [hR26] at hc26
    have HC26 := Lib.hid hc26; have HR26 := Lib.hid hR26
    have HI26 := Lib.hid hi26
    clear hc26 hR26 hi26
    go_wp2_with fail
    refine HC26.out.mono ?_
    intro e w27 ho
    clear HC26
    rcases out_cases ho with ⟨x26, j26, u, rfl, rfl, hv, hp, hb⟩ | ⟨a, er, rfl, rfl, hb⟩
    · have HP27 := Lib.hid hp; have HG27 := Lib.hid (gb_trans HG25.out hb)
      have HJ27 : Hid (i < j26 ∧ j26 ≤ v.L.length) := Lib.hid (by have h : T1 v i x26 j26 := HI26.out; have h0 := hA.out.k.len; exact ⟨by have := h.1; omega, h.2⟩)
      obtain rfl := hv
      clear ho hp hb HP25 HG25  HI26
      by_cases hK28 : (tkn v j26).1 = 8
      · have HS28 := Lib.hid hK28
        have q28 : (((tkn v j26).1 : Int) == 8) = true := by rw [hK28]; rfl
        have qn28 : (((tkn v j26).1 : Int) != 8) = false := by rw [hK28]; rfl
        have HJ29 : Hid (j26 < v.L.length) := Lib.hid (tkn_lt hK28 (by decide))
        clear hK28
        have ft := fieldTok0
        go_wp2_with fail
        refine (syNext hA.out.k HP27.out).mono ?_
        rintro e w30 ⟨rfl, hb⟩
        have HP30 := Lib.hid (HP27.out.below hb); have HG30 := Lib.hid (gb_trans HG27.out (gbOfB hb))
        unfold nxV
        clear hb HP27 HG27 
        obtain ⟨R31, hR31⟩ : ∃ R, tak v 8 j26 = R := ⟨_, rfl⟩
        have hi31 := tak_iv hA.out.q HP30.out.il (k := 8) (by decide)
        rw [hR31] at hi31
        have hc31 := syTake hA.out.k HP30.out 8 (by decide)
        rw [hR31] at hc31
        have HC31 := Lib.hid hc31; have HR31 := Lib.hid hR31
        have HI31 := Lib.hid hi31
        clear hc31 hR31 hi31
        go_wp2_with fail
        refine HC31.out.mono ?_
        intro e w32 ho
        clear HC31
        rcases out_cases ho with ⟨x31, j31, u, rfl, rfl, hv, hp, hb⟩ | ⟨a, er, rfl, rfl, hb⟩
        · have HP32 := Lib.hid hp; have HG32 := Lib.hid (gb_trans HG30.out hb)
          have HJ32 : Hid (j26 < j31 ∧ j31 ≤ v.L.length) := Lib.hid (by have h : T1 v j26 x31 j31 := HI31.out; have h0 := hA.out.k.len; exact ⟨by have := h.1; omega, h.2⟩)
          obtain rfl := hv
          clear ho hp hb HP30 HG30  HI31
          obtain ⟨R33, hR33⟩ : ∃ R, tak v 11 j31 = R := ⟨_, rfl⟩
          have hi33 := tak_iv hA.out.q HP32.out.il (k := 11) (by decide)
          rw [hR33] at hi33
          have hc33 := syTake hA.out.k HP32.out 11 (by decide)
          rw [hR33] at hc33
          have HC33 := Lib.hid hc33; have HR33 := Lib.hid hR33
          have HI33 := Lib.hid hi33
          clear hc33 hR33 hi33
          go_wp2_with fail
          refine HC33.out.mono ?_
          intro e w34 ho
          clear HC33
          rcases out_cases ho with ⟨x33, j33, u, rfl, rfl, hv, hp, hb⟩ | ⟨a, er, rfl, rfl, hb⟩
          · have HP34 := Lib.hid hp; have HG34 := Lib.hid (gb_trans HG32.out hb)
            have HJ34 : Hid (j31 < j33 ∧ j33 ≤ v.L.length) := Lib.hid (by have h : T1 v j31 x33 j33 := HI33.out; have h0 := hA.out.k.len; exact ⟨by have := h.1; omega, h.2⟩)
            obtain rfl := hv
            clear ho hp hb HP32 HG32  HI33
            go_wp2
            go_ret
            have EE : litKeyF v i = Rs.ok (x31) (j33) := by
                          unfold litKeyF
                          rw [if_pos HS23.out]
                          rw [HR26.out]; all_goals dsimp only [Rs.bind]
                          rw [if_pos HS28.out]
                          rw [HR31.out]; all_goals dsimp only [Rs.bind]
                          rw [HR33.out]; all_goals dsimp only [Rs.bind]
                          all_goals rfl
            rw [EE]
            exact ⟨_, rfl, rfl, HP34.out, HG34.out⟩
          · have HG34 := Lib.hid (gb_trans HG32.out hb)
            clear ho hb HP32 HG32
            go_wp2
            refine ⟨rfl, ?_⟩
            have EE : litKeyF v i = Rs.err a er := by
                          unfold litKeyF
                          rw [if_pos HS23.out]
                          rw [HR26.out]; all_goals dsimp only [Rs.bind]
                          rw [if_pos HS28.out]
                          rw [HR31.out]; all_goals dsimp only [Rs.bind]
                          rw [HR33.out]; all_goals dsimp only [Rs.bind]
                          all_goals rfl
            rw [EE]
            exact ⟨rfl, HG34.out⟩
        · have HG32 := Lib.hid (gb_trans HG30.out hb)
          clear ho hb HP30 HG30
          go_wp2
          refine ⟨rfl, ?_⟩
          have EE : litKeyF v i = Rs.err a er := by
                      unfold litKeyF
                      rw [if_pos HS23.out]
                      rw [HR26.out]; all_goals dsimp only [Rs.bind]
                      rw [if_pos HS28.out]
                      rw [HR31.out]; all_goals dsimp only [Rs.bind]
                      all_goals rfl
          rw [EE]
          exact ⟨rfl, HG32.out⟩
      · have HS28 := Lib.hid hK28
        have q28 : (((tkn v j26).1 : Int) == 8) = false := by rw [beq_eq_false_iff_ne]; omega
        have qn28 : (((tkn v j26).1 : Int) != 8) = true := by rw [bne_iff_ne]; omega
        clear hK28
        have ft := fieldTok0
        go_wp2_with fail
        refine (syNext hA.out.k HP27.out).mono ?_
        rintro e w36 ⟨rfl, hb⟩
        have HP36 := Lib.hid (HP27.out.below hb); have HG36 := Lib.hid (gb_trans HG27.out (gbOfB hb))
        unfold nxV
        clear hb HP27 HG27 
        obtain ⟨R37, hR37⟩ : ∃ R, tak v 11 j26 = R := ⟨_, rfl⟩
        have hi37 := tak_iv hA.out.q HP36.out.il (k := 11) (by decide)
        rw [hR37] at hi37
        have hc37 := syTake hA.out.k HP36.out 11 (by decide)
        rw [hR37] at hc37
        have HC37 := Lib.hid hc37; have HR37 := Lib.hid hR37
        have HI37 := Lib.hid hi37
        clear hc37 hR37 hi37
        go_wp2_with fail
        refine HC37.out.mono ?_
        intro e w38 ho
        clear HC37
        rcases out_cases ho with ⟨x37, j37, u, rfl, rfl, hv, hp, hb⟩ | ⟨a, er, rfl, rfl, hb⟩
        · have HP38 := Lib.hid hp; have HG38 := Lib.hid (gb_trans HG36.out hb)
          have HJ38 : Hid (j26 < j37 ∧ j37 ≤ v.L.length) := Lib.hid (by have h : T1 v j26 x37 j37 := HI37.out; have h0 := hA.out.k.len; exact ⟨by have := h.1; omega, h.2⟩)
          obtain rfl := hv
          clear ho hp hb HP36 HG36  HI37
          go_wp2
          go_ret
          have EE : litKeyF v i = Rs.ok (SX.nil) (j37) := by
                      unfold litKeyF
                      rw [if_pos HS23.out]
                      rw [HR26.out]; all_goals dsimp only [Rs.bind]
                      rw [if_neg HS28.out]
                      rw [HR37.out]; all_goals dsimp only [Rs.bind]
                      all_goals rfl
          rw [EE]
          exact ⟨_, rfl, rfl, HP38.out, HG38.out⟩
        · have HG38 := Lib.hid (gb_trans HG36.out hb)
          clear ho hb HP36 HG36
          go_wp2
          refine ⟨rfl, ?_⟩
          have EE : litKeyF v i = Rs.err a er := by
                      unfold litKeyF
                      rw [if_pos HS23.out]
                      rw [HR26.out]; all_goals dsimp only [Rs.bind]
                      rw [if_neg HS28.out]
                      rw [HR37.out]; all_goals dsimp only [Rs.bind]
                      all_goals rfl
          rw [EE]
          exact ⟨rfl, HG38.out⟩
    · have HG27 := Lib.hid (gb_trans HG25.out hb)
      clear ho hb HP25 HG25
      go_wp2
      refine ⟨rfl, ?_⟩
      have EE : litKeyF v i = Rs.err a er := by
              unfold litKeyF
              rw [if_pos HS23.out]
              rw [HR26.out]; all_goals dsimp only [Rs.bind]
              all_goals rfl
      rw [EE]
      exact ⟨rfl, HG27.out⟩
  · have HS23 := Lib.hid hK23
    have q23 : (((tkn v i).1 : Int) == 7) = false := by rw [beq_eq_false_iff_ne]; omega
    have qn23 : (((tkn v i).1 : Int) != 7) = true := by rw [bne_iff_ne]; omega
    clear hK23
    have ft := fieldTok0
    go_wp2_with fail
    refine (syNext hA.out.k HP0.out).mono ?_
    rintro e w40 ⟨rfl, hb⟩
    have HP40 := Lib.hid (HP0.out.below hb); have HG40 := Lib.hid (gb_trans HG0.out (gbOfB hb))
    unfold nxV
    clear hb HP0 HG0 
    obtain ⟨R41, hR41⟩ : ∃ R, tak v 2 i = R := ⟨_, rfl⟩
    have hi41 := tak_iv hA.out.q HP40.out.il (k := 2) (by decide)
    rw [hR41] at hi41
    have hc41 := syTake hA.out.k HP40.out 2 (by decide)
    rw [hR41] at hc41
    have HC41 := Lib.hid hc41; have HR41 := Lib.hid hR41
    have HI41 := Lib.hid hi41
    clear hc41 hR41 hi41
    go_wp2_with fail
    refine HC41.out.mono ?_
    intro e w42 ho
    clear HC41
    rcases out_cases ho with ⟨x41, j41, u, rfl, rfl, hv, hp, hb⟩ | ⟨a, er, rfl, rfl, hb⟩
    · have HP42 := Lib.hid hp; have HG42 := Lib.hid (gb_trans HG40.out hb)
      have HJ42 : Hid (i < j41 ∧ j41 ≤ v.L.length) := Lib.hid (by have h : T1 v i x41 j41 := HI41.out; have h0 := hA.out.k.len; exact ⟨by have := h.1; omega, h.2⟩)
      obtain rfl := hv
      clear ho hp hb HP40 HG40  HI41
      go_wp2
      go_ret
      have EE : litKeyF v i = Rs.ok (x41) (j41) := by
              unfold litKeyF
              rw [if_neg HS23.out]
              rw [HR41.out]; all_goals dsimp only [Rs.bind]
              all_goals rfl
      rw [EE]
      exact ⟨_, rfl, rfl, HP42.out, HG42.out⟩
    · have HG42 := Lib.hid (gb_trans HG40.out hb)
      clear ho hb HP40 HG40
      go_wp2
      refine ⟨rfl, ?_⟩
      have EE : litKeyF v i = Rs.err a er := by
              unfold litKeyF
              rw [if_neg HS23.out]
              rw [HR41.out]; all_goals dsimp only [Rs.bind]
              all_goals rfl
      rw [EE]
      exact ⟨rfl, HG42.out⟩
set_option maxRecDepth 100000 in
set_option maxHeartbeats 4000000 in
theorem syPatKey {v : Ev} {g n : Nat} {K : Kn} (hA : Hid (EvA v)) (hK : Hid (HKs v g K n)) (hI : Hid (IvK v K)) {i : Nat} (hn : v.L.length - i < n + 1) : Cn v g 97 (patKeyF v K) i := by
  intro w pp l hgl hlw h
  have HL : Hid (g ≤ l ∧ l < w.heap.size) := Lib.hid ⟨hgl, hlw⟩; have HP0 := Lib.hid h; have HG0 : Hid (w.grownBy w (some g)) := Lib.hid (gb_refl _ _); have HJ0 := Lib.hid hn
  clear h hn hgl hlw
  show Calls Tryz.prog 97 #[ptr g] w (Out v g pp w (patKeyF v K pp i) (VN l))
  go_enter Tryz.func97, Tryz.ntmps97
  by_cases hK43 : (tkn v i).1 = 4
  · have HS43 := Lib.hid hK43
    have q43 : (((tkn v i).1 : Int) == 4) = true := by rw [hK43]; rfl
    have qn43 : (((tkn v i).1 : Int) != 4) = false := by rw [hK43]; rfl
    have HJ44 : Hid (i < v.L.length) := Lib.hid (tkn_lt hK43 (by decide))
    clear hK43
    have ft := fieldTok0
    go_wp2_with fail
    refine (syNext hA.out.k HP0.out).mono ?_
    rintro e w45 ⟨rfl, hb⟩
    have HP45 := Lib.hid (HP0.out.below hb); have HG45 := Lib.hid (gb_trans HG0.out (gbOfB hb))
    unfold nxV
    clear hb HP0 HG0 
    obtain ⟨R46, hR46⟩ : ∃ R, tak v 4 i = R := ⟨_, rfl⟩
    have hi46 := tak_iv hA.out.q HP45.out.il (k := 4) (by decide)
    rw [hR46] at hi46
    have hc46 := syTake hA.out.k HP45.out 4 (by decide)
    rw [hR46] at hc46
    have HC46 := Lib.hid hc46; have HR46 := Lib.hid hR46
    have HI46 := Lib.hid hi46
    clear hc46 hR46 hi46
    go_wp2_with fail
    refine HC46.out.mono ?_
    intro e w47 ho
    clear HC46
    rcases out_cases ho with ⟨x46, j46, u, rfl, rfl, hv, hp, hb⟩ | ⟨a, er, rfl, rfl, hb⟩
    · have HP47 := Lib.hid hp; have HG47 := Lib.hid (gb_trans HG45.out hb)
      have HJ47 : Hid (i < j46 ∧ j46 ≤ v.L.length) := Lib.hid (by have h : T1 v i x46 j46 := HI46.out; have h0 := hA.out.k.len; exact ⟨by have := h.1; omega, h.2⟩)
      obtain rfl := hv
      clear ho hp hb HP45 HG45  HI46
      have hd48 : dpt (Nd.mk 28 x46 []) ≤ 1 := by have h0 := hA.out.k.len; simp only [dpt, dps]; omega
      have HJ48 := Lib.hid hd48
      clear hd48
      go_wp2_with fail
      refine (syNew0 (Nat.lt_of_lt_of_le HL.out.2 HG47.out.size) 28 x46).mono ?_
      rintro e w49 ⟨b48, rfl, hb, hx⟩
      have HP49 := Lib.hid (HP47.out.below hb); have HG49 := Lib.hid (gb_trans HG47.out (gbOfB hb)); have HX48 := Lib.hid hx
      clear hb hx HP47 HG47 
      have hd50 : dpt (Nd.mk 31 x46 [Nd.mk 28 x46 []]) ≤ 2 := by have h0 := hA.out.k.len; simp only [dpt, dps]; have := HJ48.out; omega
      have HJ50 := Lib.hid hd50
      clear hd50
      go_wp2_with fail
      refine (syNew1 (Nat.lt_of_lt_of_le HL.out.2 HG49.out.size) HX48.out (by have := HJ48.out; omega) 31 x46).mono ?_
      rintro e w51 ⟨b50, rfl, hb, hx⟩
      have HP51 := Lib.hid (HP49.out.below hb); have HG51 := Lib.hid (gb_trans HG49.out (gbOfB hb)); have HX50 := Lib.hid hx
      have HX52 := Lib.hid (HX48.out.keep (gbOfB (g := g) hb) HL.out.1)
      clear hb hx HP49 HG49 HX48
      go_wp2
      go_ret
      have EE : patKeyF v K pp i = Rs.ok (Nd.mk 31 x46 [Nd.mk 28 x46 []]) (j46) := by
              unfold patKeyF
              rw [if_pos HS43.out]
              rw [HR46.out]; all_goals dsimp only [Rs.bind]
              all_goals rfl
      rw [EE]
      exact ⟨_, rfl, ⟨b50, rfl, HX50.out⟩, HP51.out, HG51.out⟩
    · have HG47 := Lib.hid (gb_trans HG45.out hb)
      clear ho hb HP45 HG45
      go_wp2
      refine ⟨rfl, ?_⟩
      have EE : patKeyF v K pp i = Rs.err a er := by
              unfold patKeyF
              rw [if_pos HS43.out]
              rw [HR46.out]; all_goals dsimp only [Rs.bind]
              all_goals rfl
      rw [EE]
      exact ⟨rfl, HG47.out⟩
  · have HS43 := Lib.hid hK43
    have q43 : (((tkn v i).1 : Int) == 4) = false := by rw [beq_eq_false_iff_ne]; omega
    have qn43 : (((tkn v i).1 : Int) != 4) = true := by rw [bne_iff_ne]; omega
    clear hK43
    have ft := fieldTok0
    go_wp2_with fail
    refine (syNext hA.out.k HP0.out).mono ?_
    rintro e w54 ⟨rfl, hb⟩
    have HP54 := Lib.hid (HP0.out.below hb); have HG54 := Lib.hid (gb_trans HG0.out (gbOfB hb))
    unfold nxV
    clear hb HP0 HG0 
    obtain ⟨R55, hR55⟩ : ∃ R, litKeyF v i = R := ⟨_, rfl⟩
    have hi55 := litKeyF_iv hA.out.q HP54.out.il
    rw [hR55] at hi55
    have hc55 := syLitKey hA hK hI (by have := HJ0.out; omega) w54 pp l HL.out.1 (Nat.lt_of_lt_of_le HL.out.2 HG54.out.size) HP54.out
    rw [hR55] at hc55
    have HC55 := Lib.hid hc55; have HR55 := Lib.hid hR55
    have HI55 := Lib.hid hi55
    clear hc55 hR55 hi55
    go_wp2_with fail
    refine HC55.out.mono ?_
    intro e w56 ho
    clear HC55
    rcases out_cases ho with ⟨x55, j55, u, rfl, rfl, hv, hp, hb⟩ | ⟨a, er, rfl, rfl, hb⟩
    · have HP56 := Lib.hid hp; have HG56 := Lib.hid (gb_trans HG54.out hb)
      have HJ56 : Hid (i < j55 ∧ j55 ≤ v.L.length) := Lib.hid (by have h : (fun _ j => i < j ∧ j ≤ v.L.length) x55 j55 := HI55.out; have h0 := hA.out.k.len; exact ⟨by have := h.1; omega, h.2⟩)
      obtain rfl := hv
      clear ho hp hb HP54 HG54  HI55
      obtain ⟨R57, hR57⟩ : ∃ R, ned v ⟨#[58]⟩ j55 = R := ⟨_, rfl⟩
      have hi57 := ned_iv hA.out.q HP56.out.il (s := ⟨#[58]⟩)
      rw [hR57] at hi57
      have hc57 := syNeed hA.out.k HP56.out ⟨#[58]⟩
      rw [hR57] at hc57
      have HC57 := Lib.hid hc57; have HR57 := Lib.hid hR57
      have HI57 := Lib.hid hi57
      clear hc57 hR57 hi57
      go_wp2_with fail
      refine HC57.out.mono ?_
      intro e w58 ho
      clear HC57
      rcases out_cases ho with ⟨x57, j57, u, rfl, rfl, hv, hp, hb⟩ | ⟨a, er, rfl, rfl, hb⟩
      · have HP58 := Lib.hid hp; have HG58 := Lib.hid (gb_trans HG56.out hb)
        have HJ58 : Hid (j55 < j57 ∧ j57 ≤ v.L.length) := Lib.hid (by have h : T1 v j55 x57 j57 := HI57.out; have h0 := hA.out.k.len; exact ⟨by have := h.1; omega, h.2⟩)
        obtain rfl := hv
        clear ho hp hb HP56 HG56  HI57
        obtain ⟨R59, hR59⟩ : ∃ R, K.pat pp j57 = R := ⟨_, rfl⟩
        have hi59 := hI.out.pat pp j57 HP58.out.il
        rw [hR59] at hi59
        have hc59 := hK.out.pat _ (by have := HJ0.out; have := HJ56.out; have := HJ58.out; omega) _ _ l HL.out.1 (Nat.lt_of_lt_of_le HL.out.2 HG58.out.size) HP58.out
        rw [hR59] at hc59
        have HC59 := Lib.hid hc59; have HR59 := Lib.hid hR59
        have HI59 := Lib.hid hi59
        clear hc59 hR59 hi59
        go_wp2_with fail
        refine HC59.out.mono ?_
        intro e w60 ho
        clear HC59
        rcases out_cases ho with ⟨x59, j59, u, rfl, rfl, hv, hp, hb⟩ | ⟨a, er, rfl, rfl, hb⟩
        · have HP60 := Lib.hid hp; have HG60 := Lib.hid (gb_trans HG58.out hb)
          have HJ60 : Hid (j57 < j59 ∧ j59 ≤ v.L.length ∧ dpt x59 ≤ 500000) := Lib.hid (by have h : P1 v 0 j57 x59 j59 := HI59.out; have h0 := hA.out.k.len; exact ⟨h.1, h.2.1, by have h1 := h.2.2.1; have h2 := h.2.1; omega⟩)
          obtain ⟨b59, rfl, hx⟩ := hv
          have HX59 := Lib.hid hx
          clear hx
          clear ho hp hb HP58 HG58  HI59
          have hd61 : dpt (Nd.mk 31 x55 [x59]) ≤ 500001 := by have h0 := hA.out.k.len; simp only [dpt, dps]; have := HJ60.out; omega
          have HJ61 := Lib.hid hd61
          clear hd61
          go_wp2_with fail
          refine (syNew1 (Nat.lt_of_lt_of_le HL.out.2 HG60.out.size) HX59.out (by have := HJ60.out; omega) 31 x55).mono ?_
          rintro e w62 ⟨b61, rfl, hb, hx⟩
          have HP62 := Lib.hid (HP60.out.below hb); have HG62 := Lib.hid (gb_trans HG60.out (gbOfB hb)); have HX61 := Lib.hid hx
          have HX63 := Lib.hid (HX59.out.keep (gbOfB (g := g) hb) HL.out.1)
          clear hb hx HP60 HG60 HX59
          go_wp2
          go_ret
          have EE : patKeyF v K pp i = Rs.ok (Nd.mk 31 x55 [x59]) (j59) := by
                      unfold patKeyF
                      rw [if_neg HS43.out]
                      rw [HR55.out]; all_goals dsimp only [Rs.bind]
                      rw [HR57.out]; all_goals dsimp only [Rs.bind]
                      rw [HR59.out]; all_goals dsimp only [Rs.bind]
                      all_goals rfl
          rw [EE]
          exact ⟨_, rfl, ⟨b61, rfl, HX61.out⟩, HP62.out, HG62.out⟩
        · have HG60 := Lib.hid (gb_trans HG58.out hb)
          clear ho hb HP58 HG58
          go_wp2
          refine ⟨rfl, ?_⟩
          have EE : patKeyF v K pp i = Rs.err a er := by
                      unfold patKeyF
                      rw [if_neg HS43.out]
                      rw [HR55.out]; all_goals dsimp only [Rs.bind]
                      rw [HR57.out]; all_goals dsimp only [Rs.bind]
                      rw [HR59.out]; all_goals dsimp only [Rs.bind]
                      all_goals rfl
          rw [EE]
          exact ⟨rfl, HG60.out⟩
      · have HG58 := Lib.hid (gb_trans HG56.out hb)
        clear ho hb HP56 HG56
        go_wp2
        refine ⟨rfl, ?_⟩
        have EE : patKeyF v K pp i = Rs.err a er := by
                  unfold patKeyF
                  rw [if_neg HS43.out]
                  rw [HR55.out]; all_goals dsimp only [Rs.bind]
                  rw [HR57.out]; all_goals dsimp only [Rs.bind]
                  all_goals rfl
        rw [EE]
        exact ⟨rfl, HG58.out⟩
    · have HG56 := Lib.hid (gb_trans HG54.out hb)
      clear ho hb HP54 HG54
      go_wp2
      refine ⟨rfl, ?_⟩
      have EE : patKeyF v K pp i = Rs.err a er := by
              unfold patKeyF
              rw [if_neg HS43.out]
              rw [HR55.out]; all_goals dsimp only [Rs.bind]
              all_goals rfl
      rw [EE]
      exact ⟨rfl, HG56.out⟩
set_option maxRecDepth 100000 in
set_option maxHeartbeats 4000000 in
theorem syPattern {v : Ev} {g n : Nat} {K : Kn} (hA : Hid (EvA v)) (hK : Hid (HKs v g K n)) (hI : Hid (IvK v K)) {i : Nat} (hn : v.L.length - i < n + 1) : Cn v g 86 (patternF v K) i := by
  intro w pp l hgl hlw h
  have HL : Hid (g ≤ l ∧ l < w.heap.size) := Lib.hid ⟨hgl, hlw⟩; have HP0 := Lib.hid h; have HG0 : Hid (w.grownBy w (some g)) := Lib.hid (gb_refl _ _); have HJ0 := Lib.hid hn
  clear h hn hgl hlw
  show Calls Tryz.prog 86 #[ptr g] w (Out v g pp w (patternF v K pp i) (VN l))
  go_enter Tryz.func86, Tryz.ntmps86
  cases hS64 : isS v i ⟨#[91]⟩ with
  | true =>
    have HS64 := Lib.hid hS64
    have HJ65 : Hid (i < v.L.length) := Lib.hid (isS_lt hS64)
    clear hS64
    go_wp2_with fail
    refine (sySkipYes hA.out.k HP0.out HS64.out).mono ?_
    rintro e w65 ⟨rfl, hp, hb⟩
    have HP65 := Lib.hid hp; have HG65 := Lib.hid (gb_trans HG0.out hb)
    clear hp hb HP0 HG0 
    have hmf : ∀ (fn : Fn) (first cap : Array Value) (w : World), (Instr.makeFunc fn first cap).run Tryz.prog w = .ok (.func fn first cap) w := fun _ _ _ _ => rfl
    obtain ⟨R66, hR66⟩ : ∃ R, rowF v (K.pat pp) ⟨#[44]⟩ ⟨#[93]⟩ (i + 1) = R := ⟨_, rfl⟩
    have hi66 := rowF_iv hA.out.q (fun i hi => (hI.out.pat) pp i hi) ⟨#[44]⟩ ⟨#[93]⟩ HP65.out.il
    rw [hR66] at hi66
    have hc66 := syRow (F := 86) (m := n) (IT := K.pat) (cf_of Tryz.func86 (by decide) rfl) hA (Lib.hid (hK.out.pat)) (Lib.hid (hI.out.pat)) ⟨#[44]⟩ ⟨#[93]⟩ (by have := HJ0.out; have := HJ65.out; omega) w65 pp l HL.out.1 (Nat.lt_of_lt_of_le HL.out.2 HG65.out.size) HP65.out
    rw [hR66] at hc66
    have HC66 := Lib.hid hc66; have HR66 := Lib.hid hR66
    have HI66 := Lib.hid hi66
    clear hc66 hR66 hi66
    go_wp2_with fail
    refine HC66.out.mono ?_
    intro e w67 ho
    clear HC66
    rcases out_cases ho with ⟨x66, j66, u, rfl, rfl, hv, hp, hb⟩ | ⟨a, er, rfl, rfl, hb⟩
    · have HP67 := Lib.hid hp; have HG67 := Lib.hid (gb_trans HG65.out hb)
      have HJ67 : Hid (i + 1 < j66 ∧ j66 ≤ v.L.length ∧ dps x66 ≤ 500000) := Lib.hid (by have h : P2 v (i + 1) x66 j66 := HI66.out; have h0 := hA.out.k.len; exact ⟨h.1, h.2.1, by have h1 := h.2.2.1; have h2 := h.2.1; omega⟩)
      obtain ⟨ao66, cap66, bs66, rfl, hrow, hrl⟩ := hv
      have HROW66 := Lib.hid hrow; have HRLN66 := Lib.hid hrl
      clear hrow hrl
      clear ho hp hb HP65 HG65  HI66
      have hd68 : dpt (Nd.mk 29 SX.nil x66) ≤ 500001 := by have := HJ67.out; simp only [dpt]; omega
      have HJ68 := Lib.hid hd68
      clear hd68
      go_wp2_with fail
      refine (syNewPart 29 SX.nil x66 ao66 cap66 (fun k => l < k) w67 HROW66.out.prs (Nat.lt_of_lt_of_le HL.out.2 HG67.out.size) (by have := HJ67.out; omega) (by have := HRLN66.out; omega)).mono ?_
      rintro e w69 ⟨rfl, hb, hx⟩
      have HP69 := Lib.hid (HP67.out.below hb); have HG69 := Lib.hid (gb_trans HG67.out (gbOfB hb)); have HX68 : Hid (PR w69 l (Nd.mk 29 SX.nil x66) _) := Lib.hid hx
      clear hb hx HP67 HG67  HROW66
      go_wp2
      go_ret
      have EE : patternF v K pp i = Rs.ok (Nd.mk 29 SX.nil x66) (j66) := by
              unfold patternF
              rw [if_pos HS64.out]
              rw [HR66.out]; all_goals dsimp only [Rs.bind]
              all_goals rfl
      rw [EE]
      exact ⟨_, rfl, ⟨_, rfl, HX68.out⟩, HP69.out, HG69.out⟩
    · have HG67 := Lib.hid (gb_trans HG65.out hb)
      clear ho hb HP65 HG65
      go_wp2
      refine ⟨rfl, ?_⟩
      have EE : patternF v K pp i = Rs.err a er := by
              unfold patternF
              rw [if_pos HS64.out]
              rw [HR66.out]; all_goals dsimp only [Rs.bind]
              all_goals rfl
      rw [EE]
      exact ⟨rfl, HG67.out⟩
  | false =>
    have HS64 := Lib.hid hS64
    clear hS64
    go_wp2_with fail
    refine (sySkipNo hA.out.k HP0.out HS64.out).mono ?_
    rintro e w70 ⟨rfl, hp, hb⟩
    have HP70 := Lib.hid hp; have HG70 := Lib.hid (gb_trans HG0.out hb)
    clear hp hb HP0 HG0 
    cases hS71 : isS v i ⟨#[123]⟩ with
    | true =>
      have HS71 := Lib.hid hS71
      have HJ72 : Hid (i < v.L.length) := Lib.hid (isS_lt hS71)
      clear hS71
      go_wp2_with fail
      refine (sySkipYes hA.out.k HP70.out HS71.out).mono ?_
      rintro e w72 ⟨rfl, hp, hb⟩
      have HP72 := Lib.hid hp; have HG72 := Lib.hid (gb_trans HG70.out hb)
      clear hp hb HP70 HG70 
      have hmf : ∀ (fn : Fn) (first cap : Array Value) (w : World), (Instr.makeFunc fn first cap).run Tryz.prog w = .ok (.func fn first cap) w := fun _ _ _ _ => rfl
      obtain ⟨R73, hR73⟩ : ∃ R, rowF v (patKeyF v K pp) ⟨#[44]⟩ ⟨#[125]⟩ (i + 1) = R := ⟨_, rfl⟩
      have hi73 := rowF_iv hA.out.q (fun i hi => (fun pp i hi => patKeyF_iv hA.out.q hI.out pp hi) pp i hi) ⟨#[44]⟩ ⟨#[125]⟩ HP72.out.il
      rw [hR73] at hi73
      have hc73 := syRow (F := 97) (m := n) (IT := patKeyF v K) (cf_of Tryz.func97 (by decide) rfl) hA (Lib.hid (fun i hi => syPatKey hA hK hI (Nat.lt_succ_of_lt hi))) (Lib.hid (fun pp i hi => patKeyF_iv hA.out.q hI.out pp hi)) ⟨#[44]⟩ ⟨#[125]⟩ (by have := HJ0.out; have := HJ72.out; omega) w72 pp l HL.out.1 (Nat.lt_of_lt_of_le HL.out.2 HG72.out.size) HP72.out
      rw [hR73] at hc73
      have HC73 := Lib.hid hc73; have HR73 := Lib.hid hR73
      have HI73 := Lib.hid hi73
      clear hc73 hR73 hi73
      go_wp2_with fail
      refine HC73.out.mono ?_
      intro e w74 ho
      clear HC73
      rcases out_cases ho with ⟨x73, j73, u, rfl, rfl, hv, hp, hb⟩ | ⟨a, er, rfl, rfl, hb⟩
      · have HP74 := Lib.hid hp; have HG74 := Lib.hid (gb_trans HG72.out hb)
        have HJ74 : Hid (i + 1 < j73 ∧ j73 ≤ v.L.length ∧ dps x73 ≤ 500000) := Lib.hid (by have h : P2 v (i + 1) x73 j73 := HI73.out; have h0 := hA.out.k.len; exact ⟨h.1, h.2.1, by have h1 := h.2.2.1; have h2 := h.2.1; omega⟩)
        obtain ⟨ao73, cap73, bs73, rfl, hrow, hrl⟩ := hv
        have HROW73 := Lib.hid hrow; have HRLN73 := Lib.hid hrl
        clear hrow hrl
        clear ho hp hb HP72 HG72  HI73
        have hd75 : dpt (Nd.mk 30 SX.nil x73) ≤ 500001 := by have := HJ74.out; simp only [dpt]; omega
        have HJ75 := Lib.hid hd75
        clear hd75
        go_wp2_with fail
        refine (syNewPart 30 SX.nil x73 ao73 cap73 (fun k => l < k) w74 HROW73.out.prs (Nat.lt_of_lt_of_le HL.out.2 HG74.out.size) (by have := HJ74.out; omega) (by have := HRLN73.out; omega)).mono ?_
        rintro e w76 ⟨rfl, hb, hx⟩
        have HP76 := Lib.hid (HP74.out.below hb); have HG76 := Lib.hid (gb_trans HG74.out (gbOfB hb)); have HX75 : Hid (PR w76 l (Nd.mk 30 SX.nil x73) _) := Lib.hid hx
        clear hb hx HP74 HG74  HROW73
        go_wp2
        go_ret
        have EE : patternF v K pp i = Rs.ok (Nd.mk 30 SX.nil x73) (j73) := by
                  unfold patternF
                  rw [if_neg (by rw [HS64.out]; decide)]
                  rw [if_pos HS71.out]
                  rw [HR73.out]; all_goals dsimp only [Rs.bind]
                  all_goals rfl
        rw [EE]
        exact ⟨_, rfl, ⟨_, rfl, HX75.out⟩, HP76.out, HG76.out⟩
      · have HG74 := Lib.hid (gb_trans HG72.out hb)
        clear ho hb HP72 HG72
        go_wp2
        refine ⟨rfl, ?_⟩
        have EE : patternF v K pp i = Rs.err a er := by
                  unfold patternF
                  rw [if_neg (by rw [HS64.out]; decide)]
                  rw [if_pos HS71.out]
                  rw [HR73.out]; all_goals dsimp only [Rs.bind]
                  all_goals rfl
        rw [EE]
        exact ⟨rfl, HG74.out⟩
    | false =>
      have HS71 := Lib.hid hS71
      clear hS71
      go_wp2_with fail
      refine (sySkipNo hA.out.k HP70.out HS71.out).mono ?_
      rintro e w77 ⟨rfl, hp, hb⟩
      have HP77 := Lib.hid hp; have HG77 := Lib.hid (gb_trans HG70.out hb)
      clear hp hb HP70 HG70 
      obtain ⟨R78, hR78⟩ : ∃ R, tak v 4 i = R := ⟨_, rfl⟩
      have hi78 := tak_iv hA.out.q HP77.out.il (k := 4) (by decide)
      rw [hR78] at hi78
      have hc78 := syTake hA.out.k HP77.out 4 (by decide)
      rw [hR78] at hc78
      have HC78 := Lib.hid hc78; have HR78 := Lib.hid hR78
      have HI78 := Lib.hid hi78
      clear hc78 hR78 hi78
      go_wp2_with fail
      refine HC78.out.mono ?_
      intro e w79 ho
      clear HC78
      rcases out_cases ho with ⟨x78, j78, u, rfl, rfl, hv, hp, hb⟩ | ⟨a, er, rfl, rfl, hb⟩
      · have HP79 := Lib.hid hp; have HG79 := Lib.hid (gb_trans HG77.out hb)
        have HJ79 : Hid (i < j78 ∧ j78 ≤ v.L.length) := Lib.hid (by have h : T1 v i x78 j78 := HI78.out; have h0 := hA.out.k.len; exact ⟨by have := h.1; omega, h.2⟩)
        obtain rfl := hv
        clear ho hp hb HP77 HG77  HI78
        have hd80 : dpt (Nd.mk 28 x78 []) ≤ 1 := by have h0 := hA.out.k.len; simp only [dpt, dps]; omega
        have HJ80 := Lib.hid hd80
        clear hd80
        go_wp2_with fail
        refine (syNew0 (Nat.lt_of_lt_of_le HL.out.2 HG79.out.size) 28 x78).mono ?_
        rintro e w81 ⟨b80, rfl, hb, hx⟩
        have HP81 := Lib.hid (HP79.out.below hb); have HG81 := Lib.hid (gb_trans HG79.out (gbOfB hb)); have HX80 := Lib.hid hx
        clear hb hx HP79 HG79 
        go_wp2
        go_ret
        have EE : patternF v K pp i = Rs.ok (Nd.mk 28 x78 []) (j78) := by
                  unfold patternF
                  rw [if_neg (by rw [HS64.out]; decide)]
                  rw [if_neg (by rw [HS71.out]; decide)]
                  rw [HR78.out]; all_goals dsimp only [Rs.bind]
                  all_goals rfl
        rw [EE]
        exact ⟨_, rfl, ⟨b80, rfl, HX80.out⟩, HP81.out, HG81.out⟩
      · have HG79 := Lib.hid (gb_trans HG77.out hb)
        clear ho hb HP77 HG77
        go_wp2
        refine ⟨rfl, ?_⟩
        have EE : patternF v K pp i = Rs.err a er := by
                  unfold patternF
                  rw [if_neg (by rw [HS64.out]; decide)]
                  rw [if_neg (by rw [HS71.out]; decide)]
                  rw [HR78.out]; all_goals dsimp only [Rs.bind]
                  all_goals rfl
        rw [EE]
        exact ⟨rfl, HG79.out⟩
end Go.Proofs.YtpgiljibicigeaaGreatDoor
