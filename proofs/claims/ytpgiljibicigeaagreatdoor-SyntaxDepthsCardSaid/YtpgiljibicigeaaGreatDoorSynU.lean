/- syntax: param, definition walked (gensynu.py) -/
import Derived.Test.YtpgiljibicigeaaGreatDoorSynSs
set_option linter.unusedVariables false
set_option linter.unusedSimpArgs false
namespace Go.Proofs.YtpgiljibicigeaaGreatDoor
open Go.RowKit SX

set_option maxRecDepth 100000 in
set_option maxHeartbeats 4000000 in
theorem syParam {v : Ev} {g : Nat} (hA : Hid (EvA v)) {i : Nat} : Cn v g 62 (fun _ => paramF v) i := by
  intro w pp l hgl hlw h
  have HL : Hid (g ≤ l ∧ l < w.heap.size) := Lib.hid ⟨hgl, hlw⟩; have HP0 := Lib.hid h; have HG0 : Hid (w.grownBy w (some g)) := Lib.hid (gb_refl _ _)
  clear h hgl hlw
  show Calls Tryz.prog 62 #[ptr g] w (Out v g pp w (paramF v i) (VN l))
  go_enter Tryz.func62, Tryz.ntmps62
  by_cases hK1 : (tkn v i).1 = 4
  · have HS1 := Lib.hid hK1
    have q1 : (((tkn v i).1 : Int) == 4) = true := by rw [hK1]; rfl
    have qn1 : (((tkn v i).1 : Int) != 4) = false := by rw [hK1]; rfl
    have HJ2 : Hid (i < v.L.length) := Lib.hid (tkn_lt hK1 (by decide))
    clear hK1
    have ft := fieldTok0
    go_wp2_with fail
    refine (syNext hA.out.k HP0.out).mono ?_
    rintro e w3 ⟨rfl, hb⟩
    have HP3 := Lib.hid (HP0.out.below hb); have HG3 := Lib.hid (gb_trans HG0.out (gbOfB hb))
    unfold nxV
    clear hb HP0 HG0 
    have ht : tak v 4 i = .ok (tkn v i).2.1 (i + 1) := if_pos HS1.out
    have hc := syTake hA.out.k HP3.out 4 (by decide)
    rw [ht] at hc
    have HC4 := Lib.hid hc; have HT4 := Lib.hid ht
    clear hc ht
    go_wp2_with fail
    refine HC4.out.mono ?_
    rintro e w4 ⟨u, rfl, hv, hp, hb⟩
    obtain rfl := hv
    have HP4 := Lib.hid hp; have HG4 := Lib.hid (gb_trans HG3.out hb)
    clear hp hb HC4 HP3 HG3 
    have SZ := (EvK.of hA.out.k i).2.2
    have HNW : Hid (∀ S, Calls Tryz.prog 41 #[.int .i64 27, .string S, .slice none 0 0] w4 (ResPt w4 l (.mk 27 S []))) := Lib.hid (fun S => syNew0 (Nat.lt_of_lt_of_le HL.out.2 HG4.out.size) 27 S)
    have hd5 : dpt (Nd.mk 27 (⟨#[36]⟩ ++ (tkn v i).2.1) []) ≤ 1 := by simp only [dpt, dps]; omega
    have HJ5 := Lib.hid hd5
    clear hd5
    go_wp2_with fail
    refine (HNW.out _).mono ?_
    rintro e w6 ⟨b5, rfl, hb, hx⟩
    have HP6 := Lib.hid (HP4.out.below hb); have HG6 := Lib.hid (gb_trans HG4.out (gbOfB hb)); have HX5 := Lib.hid hx
    clear hb hx HP4 HG4 
    go_wp2
    go_ret
    have EE : paramF v i = Rs.ok (Nd.mk 27 (⟨#[36]⟩ ++ (tkn v i).2.1) []) (i + 1) := by
          unfold paramF
          rw [if_pos HS1.out]
          rw [HT4.out]; all_goals dsimp only [Rs.bind]
          all_goals rfl
    rw [EE]
    exact ⟨_, rfl, ⟨b5, rfl, HX5.out⟩, HP6.out, HG6.out⟩
  · have HS1 := Lib.hid hK1
    have q1 : (((tkn v i).1 : Int) == 4) = false := by rw [beq_eq_false_iff_ne]; omega
    have qn1 : (((tkn v i).1 : Int) != 4) = true := by rw [bne_iff_ne]; omega
    clear hK1
    have ft := fieldTok0
    go_wp2_with fail
    refine (syNext hA.out.k HP0.out).mono ?_
    rintro e w8 ⟨rfl, hb⟩
    have HP8 := Lib.hid (HP0.out.below hb); have HG8 := Lib.hid (gb_trans HG0.out (gbOfB hb))
    unfold nxV
    clear hb HP0 HG0 
    obtain ⟨R9, hR9⟩ : ∃ R, tak v 2 i = R := ⟨_, rfl⟩
    have hi9 := tak_iv hA.out.q HP8.out.il (k := 2) (by decide)
    rw [hR9] at hi9
    have hc9 := syTake hA.out.k HP8.out 2 (by decide)
    rw [hR9] at hc9
    have HC9 := Lib.hid hc9; have HR9 := Lib.hid hR9
    have HI9 := Lib.hid hi9
    clear hc9 hR9 hi9
    go_wp2_with fail
    refine HC9.out.mono ?_
    intro e w10 ho
    clear HC9
    rcases out_cases ho with ⟨x9, j9, u, rfl, rfl, hv, hp, hb⟩ | ⟨a, er, rfl, rfl, hb⟩
    · have HP10 := Lib.hid hp; have HG10 := Lib.hid (gb_trans HG8.out hb)
      have HJ10 : Hid (i < j9 ∧ j9 ≤ v.L.length) := Lib.hid (by have h : T1 v i x9 j9 := HI9.out; have h0 := hA.out.k.len; exact ⟨by have := h.1; omega, h.2⟩)
      obtain rfl := hv
      clear ho hp hb HP8 HG8  HI9
      have hd11 : dpt (Nd.mk 27 x9 []) ≤ 1 := by have h0 := hA.out.k.len; simp only [dpt, dps]; omega
      have HJ11 := Lib.hid hd11
      clear hd11
      go_wp2_with fail
      refine (syNew0 (Nat.lt_of_lt_of_le HL.out.2 HG10.out.size) 27 x9).mono ?_
      rintro e w12 ⟨b11, rfl, hb, hx⟩
      have HP12 := Lib.hid (HP10.out.below hb); have HG12 := Lib.hid (gb_trans HG10.out (gbOfB hb)); have HX11 := Lib.hid hx
      clear hb hx HP10 HG10 
      go_wp2
      go_ret
      have EE : paramF v i = Rs.ok (Nd.mk 27 x9 []) (j9) := by
              unfold paramF
              rw [if_neg HS1.out]
              rw [HR9.out]; all_goals dsimp only [Rs.bind]
              all_goals rfl
      rw [EE]
      exact ⟨_, rfl, ⟨b11, rfl, HX11.out⟩, HP12.out, HG12.out⟩
    · have HG10 := Lib.hid (gb_trans HG8.out hb)
      clear ho hb HP8 HG8
      go_wp2
      refine ⟨rfl, ?_⟩
      have EE : paramF v i = Rs.err a er := by
              unfold paramF
              rw [if_neg HS1.out]
              rw [HR9.out]; all_goals dsimp only [Rs.bind]
              all_goals rfl
      rw [EE]
      exact ⟨rfl, HG10.out⟩
set_option maxRecDepth 100000 in
set_option maxHeartbeats 4000000 in
theorem syDef {v : Ev} {g n : Nat} {K : Kn} (hA : Hid (EvA v)) (hK : Hid (HKs v g K n)) (hI : Hid (IvK v K)) {i : Nat} (hn : v.L.length - i < n) : Cn v g 38 (defF v K) i := by
  intro w pp l hgl hlw h
  have HL : Hid (g ≤ l ∧ l < w.heap.size) := Lib.hid ⟨hgl, hlw⟩; have HP0 := Lib.hid h; have HG0 : Hid (w.grownBy w (some g)) := Lib.hid (gb_refl _ _); have HJ0 := Lib.hid hn
  clear h hn hgl hlw
  show Calls Tryz.prog 38 #[ptr g] w (Out v g pp w (defF v K pp i) (VN l))
  go_enter Tryz.func38, Tryz.ntmps38
  obtain ⟨R13, hR13⟩ : ∃ R, tak v 2 i = R := ⟨_, rfl⟩
  have hi13 := tak_iv hA.out.q HP0.out.il (k := 2) (by decide)
  rw [hR13] at hi13
  have hc13 := syTake hA.out.k HP0.out 2 (by decide)
  rw [hR13] at hc13
  have HC13 := Lib.hid hc13; have HR13 := Lib.hid hR13
  have HI13 := Lib.hid hi13
  clear hc13 hR13 hi13
  go_wp2_with fail
  refine HC13.out.mono ?_
  intro e w14 ho
  clear HC13
  rcases out_cases ho with ⟨x13, j13, u, rfl, rfl, hv, hp, hb⟩ | ⟨a, er, rfl, rfl, hb⟩
  · have HP14 := Lib.hid hp; have HG14 := Lib.hid (gb_trans HG0.out hb)
    have HJ14 : Hid (i < j13 ∧ j13 ≤ v.L.length) := Lib.hid (by have h : T1 v i x13 j13 := HI13.out; have h0 := hA.out.k.len; exact ⟨by have := h.1; omega, h.2⟩)
    obtain rfl := hv
    clear ho hp hb HP0 HG0  HI13
    have HG0B := HG14
    obtain ⟨l1, hl1⟩ : ∃ x, x + 1 = w14.heap.size := ⟨w14.heap.size - 1, by have := HP14.out.lt; omega⟩
    have HL1 : Hid (g ≤ l1 ∧ l1 < w14.heap.size) := Lib.hid (by have := HP14.out.lt; omega)
    have HLL1 : Hid (l ≤ l1 ∧ l1 + 1 = w14.heap.size) := Lib.hid (by have := (Nat.lt_of_lt_of_le HL.out.2 HG14.out.size); omega)
    have HG15 : Hid (w14.grownBy w14 (some g)) := Lib.hid (gb_refl _ _)
    clear hl1
    cases hS16 : isS v j13 ⟨#[40]⟩ with
    | true =>
      have HS16 := Lib.hid hS16
      have HJ17 : Hid (j13 < v.L.length) := Lib.hid (isS_lt hS16)
      clear hS16
      go_wp2_with fail
      refine (sySkipYes hA.out.k HP14.out HS16.out).mono ?_
      rintro e w17 ⟨rfl, hp, hb⟩
      have HP17 := Lib.hid hp; have HG17 := Lib.hid (gb_trans HG15.out hb)
      clear hp hb HP14 HG15 
      have hmf : ∀ (fn : Fn) (first cap : Array Value) (w : World), (Instr.makeFunc fn first cap).run Tryz.prog w = .ok (.func fn first cap) w := fun _ _ _ _ => rfl
      obtain ⟨R18, hR18⟩ : ∃ R, rowF v ((fun _ => paramF v) pp) ⟨#[59]⟩ ⟨#[41]⟩ (j13 + 1) = R := ⟨_, rfl⟩
      have hi18 := rowF_iv hA.out.q (fun i hi => (fun pp i hi => paramF_iv hA.out.q hi) pp i hi) ⟨#[59]⟩ ⟨#[41]⟩ HP17.out.il
      rw [hR18] at hi18
      have hc18 := syRow (F := 62) (m := n) (IT := (fun _ => paramF v)) (cf_of Tryz.func62 (by decide) rfl) hA (Lib.hid (fun i hi => syParam hA)) (Lib.hid (fun pp i hi => paramF_iv hA.out.q hi)) ⟨#[59]⟩ ⟨#[41]⟩ (by have := HJ0.out; have := HJ14.out; have := HJ17.out; omega) w17 pp l1 HL1.out.1 (Nat.lt_of_lt_of_le HL1.out.2 HG17.out.size) HP17.out
      rw [hR18] at hc18
      have HC18 := Lib.hid hc18; have HR18 := Lib.hid hR18
      have HI18 := Lib.hid hi18
      clear hc18 hR18 hi18
      go_wp2_with fail
      refine HC18.out.mono ?_
      intro e w19 ho
      clear HC18
      rcases out_cases ho with ⟨x18, j18, u, rfl, rfl, hv, hp, hb⟩ | ⟨a, er, rfl, rfl, hb⟩
      · have HP19 := Lib.hid hp; have HG19 := Lib.hid (gb_trans HG17.out hb)
        have HJ19 : Hid (j13 + 1 < j18 ∧ j18 ≤ v.L.length ∧ dps x18 ≤ 500000) := Lib.hid (by have h : P2 v (j13 + 1) x18 j18 := HI18.out; have h0 := hA.out.k.len; exact ⟨h.1, h.2.1, by have h1 := h.2.2.1; have h2 := h.2.1; omega⟩)
        obtain ⟨ao18, cap18, bs18, rfl, hrow, hrl⟩ := hv
        have HROW18 := Lib.hid hrow; have HRLN18 := Lib.hid hrl
        clear hrow hrl
        clear ho hp hb HP17 HG17  HI18
        have HLOW : Hid (∀ q, ao18 = some ⟨q, 0, none⟩ → l1 + 1 ≤ q) := Lib.hid (fun q hq => by rcases HROW18.out.own.shape with ⟨h1, _⟩ | ⟨q2, cur, h1, h2, _⟩ <;> rw [h1] at hq <;> cases hq; exact h2)
        have HGA := HG19
        obtain ⟨l2, hl2⟩ : ∃ x, x + 1 = w19.heap.size := ⟨w19.heap.size - 1, by have := HP19.out.lt; omega⟩
        have HL2 : Hid (g ≤ l2 ∧ l2 < w19.heap.size) := Lib.hid (by have := HP19.out.lt; omega)
        have HLL2 : Hid (l1 ≤ l2 ∧ l2 + 1 = w19.heap.size) := Lib.hid (by have := (Nat.lt_of_lt_of_le HL1.out.2 HG19.out.size); omega)
        have HG20 : Hid (w19.grownBy w19 (some g)) := Lib.hid (gb_refl _ _)
        clear hl2
        have HQ : Hid (∀ q, ao18 = some ⟨q, 0, none⟩ → q ≤ l2) := Lib.hid (fun q hq => by have := HROW18.out.own.low q hq; have := HLL2.out; omega)
        obtain ⟨R21, hR21⟩ : ∃ R, ned v ⟨#[58]⟩ j18 = R := ⟨_, rfl⟩
        have hi21 := ned_iv hA.out.q HP19.out.il (s := ⟨#[58]⟩)
        rw [hR21] at hi21
        have hc21 := syNeed hA.out.k HP19.out ⟨#[58]⟩
        rw [hR21] at hc21
        have HC21 := Lib.hid hc21; have HR21 := Lib.hid hR21
        have HI21 := Lib.hid hi21
        clear hc21 hR21 hi21
        go_wp2_with fail
        refine HC21.out.mono ?_
        intro e w22 ho
        clear HC21
        rcases out_cases ho with ⟨x21, j21, u, rfl, rfl, hv, hp, hb⟩ | ⟨a, er, rfl, rfl, hb⟩
        · have HP22 := Lib.hid hp; have HG22 := Lib.hid (gb_trans HG20.out hb)
          have HJ22 : Hid (j18 < j21 ∧ j21 ≤ v.L.length) := Lib.hid (by have h : T1 v j18 x21 j21 := HI21.out; have h0 := hA.out.k.len; exact ⟨by have := h.1; omega, h.2⟩)
          have HROW23 := Lib.hid (HROW18.out.keep hb HL1.out.1)
          obtain rfl := hv
          clear ho hp hb HP19 HG20 HROW18 HI21
          obtain ⟨R24, hR24⟩ : ∃ R, K.pipe pp j21 = R := ⟨_, rfl⟩
          have hi24 := hI.out.pipe pp j21 HP22.out.il
          rw [hR24] at hi24
          have hc24 := hK.out.pipe _ (by have := HJ0.out; have := HJ14.out; have := HJ17.out; have := HJ19.out; have := HJ22.out; omega) _ _ l2 HL2.out.1 (Nat.lt_of_lt_of_le HL2.out.2 HG22.out.size) HP22.out
          rw [hR24] at hc24
          have HC24 := Lib.hid hc24; have HR24 := Lib.hid hR24
          have HI24 := Lib.hid hi24
          clear hc24 hR24 hi24
          go_wp2_with fail
          refine HC24.out.mono ?_
          intro e w25 ho
          clear HC24
          rcases out_cases ho with ⟨x24, j24, u, rfl, rfl, hv, hp, hb⟩ | ⟨a, er, rfl, rfl, hb⟩
          · have HP25 := Lib.hid hp; have HG25 := Lib.hid (gb_trans HG22.out hb)
            have HJ25 : Hid (j21 < j24 ∧ j24 ≤ v.L.length ∧ dpt x24 ≤ 500000) := Lib.hid (by have h : P1 v 0 j21 x24 j24 := HI24.out; have h0 := hA.out.k.len; exact ⟨h.1, h.2.1, by have h1 := h.2.2.1; have h2 := h.2.1; omega⟩)
            have HROW26 := Lib.hid (HROW23.out.keep hb HL1.out.1)
            obtain ⟨b24, rfl, hx⟩ := hv
            have HX24 := Lib.hid hx
            clear hx
            clear ho hp hb HP22 HG22 HROW23 HI24
            obtain ⟨R27, hR27⟩ : ∃ R, ned v ⟨#[59]⟩ j24 = R := ⟨_, rfl⟩
            have hi27 := ned_iv hA.out.q HP25.out.il (s := ⟨#[59]⟩)
            rw [hR27] at hi27
            have hc27 := syNeed hA.out.k HP25.out ⟨#[59]⟩
            rw [hR27] at hc27
            have HC27 := Lib.hid hc27; have HR27 := Lib.hid hR27
            have HI27 := Lib.hid hi27
            clear hc27 hR27 hi27
            go_wp2_with fail
            refine HC27.out.mono ?_
            intro e w28 ho
            clear HC27
            rcases out_cases ho with ⟨x27, j27, u, rfl, rfl, hv, hp, hb⟩ | ⟨a, er, rfl, rfl, hb⟩
            · have HP28 := Lib.hid hp; have HG28 := Lib.hid (gb_trans HG25.out hb)
              have HJ28 : Hid (j24 < j27 ∧ j27 ≤ v.L.length) := Lib.hid (by have h : T1 v j24 x27 j27 := HI27.out; have h0 := hA.out.k.len; exact ⟨by have := h.1; omega, h.2⟩)
              have HX29 := Lib.hid (HX24.out.keep hb HL2.out.1)
              have HROW30 := Lib.hid (HROW26.out.keep hb HL1.out.1)
              obtain rfl := hv
              clear ho hp hb HP25 HG25 HX24 HROW26 HI27
              obtain ⟨R31, hR31⟩ : ∃ R, K.pipe pp j27 = R := ⟨_, rfl⟩
              have hi31 := hI.out.pipe pp j27 HP28.out.il
              rw [hR31] at hi31
              have hc31 := hK.out.pipe _ (by have := HJ0.out; have := HJ14.out; have := HJ17.out; have := HJ19.out; have := HJ22.out; have := HJ25.out; have := HJ28.out; omega) _ _ l2 HL2.out.1 (Nat.lt_of_lt_of_le HL2.out.2 HG28.out.size) HP28.out
              rw [hR31] at hc31
              have HC31 := Lib.hid hc31; have HR31 := Lib.hid hR31
              have HI31 := Lib.hid hi31
              clear hc31 hR31 hi31
              go_wp2_with fail
              refine HC31.out.mono ?_
              intro e w32 ho
              clear HC31
              rcases out_cases ho with ⟨x31, j31, u, rfl, rfl, hv, hp, hb⟩ | ⟨a, er, rfl, rfl, hb⟩
              · have HP32 := Lib.hid hp; have HG32 := Lib.hid (gb_trans HG28.out hb)
                have HJ32 : Hid (j27 < j31 ∧ j31 ≤ v.L.length ∧ dpt x31 ≤ 500000) := Lib.hid (by have h : P1 v 0 j27 x31 j31 := HI31.out; have h0 := hA.out.k.len; exact ⟨h.1, h.2.1, by have h1 := h.2.2.1; have h2 := h.2.1; omega⟩)
                have HX33 := Lib.hid (HX29.out.keep hb HL2.out.1)
                have HROW34 := Lib.hid (HROW30.out.keep hb HL1.out.1)
                obtain ⟨b31, rfl, hx⟩ := hv
                have HX31 := Lib.hid hx
                clear hx
                clear ho hp hb HP28 HG28 HX29 HROW30 HI31
                have HS1 : Hid (l1 < w32.heap.size) := Lib.hid (by have := HLL2.out; have := (Nat.lt_of_lt_of_le HL2.out.2 HG32.out.size); omega)
                go_wp2_with (at_builtin; refine wp_rowQ _ rfl _ _ rfl _ rfl rfl HROW34.out HX33.out HX31.out HQ.out HLL2.out.1 (by have := HRLN18.out; omega) HS1.out ?_; intro ao35 cap35 w35 e1 e2 e3)
                have HPS35 := Lib.hid e1; have HP35 : Hid (PB v w35 g j31 pp) := Lib.hid (HP32.out.bel2 e2 HL1.out.1)
                have HG35 : Hid (w14.grownBy w35 (some g)) := Lib.hid (gb_appO (gb_trans HGA.out HG32.out) e2 e3 (fun q hq => by have := HLOW.out q hq; have := HLL1.out; omega))
                have HS35 : Hid (l1 < w35.heap.size ∧ dps (x18 ++ [x24, x31]) ≤ 10000000 ∧ (x18 ++ [x24, x31]).length ≤ 1000000) := Lib.hid ⟨Nat.lt_of_lt_of_le HS1.out e2.size, by rw [dps_two]; have := HJ25.out; have := HJ32.out; have := HJ19.out; omega, by simp only [List.length_append, List.length_cons, List.length_nil]; have := HRLN18.out; omega⟩
                have hc36 := syNewPart 26 x13 (x18 ++ [x24, x31]) ao35 cap35 (fun k => l1 < k) w35 HPS35.out HS35.out.1 HS35.out.2.1 HS35.out.2.2
                rw [List.length_append] at hc36
                have HC36 := Lib.hid hc36
                clear e1 e2 e3 hc36 HPS35
                go_wp2_with fail
                refine HC36.out.mono ?_
                rintro e w36 ⟨rfl, hb, hx⟩
                have HF : Hid (PR w36 l (Nd.mk 26 x13 (x18 ++ [x24, x31])) w35.heap.size ∧ PB v w36 g j31 pp ∧ w14.grownBy w36 (some g)) := Lib.hid ⟨PRA.to (fun k hk _ => ⟨rfl, by have := HLL1.out; omega⟩) hx, HP35.out.below hb, gb_trans HG35.out (gbOfB hb)⟩
                clear hb hx
                go_wp2
                go_ret
                have EE : defF v K pp i = Rs.ok (Nd.mk 26 x13 (x18 ++ [x24, x31])) (j31) := by
                                  unfold defF
                                  rw [HR13.out]; all_goals dsimp only [Rs.bind]
                                  rw [if_pos HS16.out]
                                  rw [HR18.out]; all_goals dsimp only [Rs.bind]
                                  unfold defR
                                  rw [HR21.out]; all_goals dsimp only [Rs.bind]
                                  rw [HR24.out]; all_goals dsimp only [Rs.bind]
                                  rw [HR27.out]; all_goals dsimp only [Rs.bind]
                                  rw [HR31.out]; all_goals dsimp only [Rs.bind]
                                  all_goals rfl
                rw [EE]
                exact ⟨_, rfl, ⟨_, rfl, HF.out.1⟩, HF.out.2.1, gb_trans HG0B.out HF.out.2.2⟩
              · have HG32 := Lib.hid (gb_trans HG28.out hb)
                clear ho hb HP28 HG28
                go_wp2
                refine ⟨rfl, ?_⟩
                have EE : defF v K pp i = Rs.err a er := by
                                  unfold defF
                                  rw [HR13.out]; all_goals dsimp only [Rs.bind]
                                  rw [if_pos HS16.out]
                                  rw [HR18.out]; all_goals dsimp only [Rs.bind]
                                  unfold defR
                                  rw [HR21.out]; all_goals dsimp only [Rs.bind]
                                  rw [HR24.out]; all_goals dsimp only [Rs.bind]
                                  rw [HR27.out]; all_goals dsimp only [Rs.bind]
                                  rw [HR31.out]; all_goals dsimp only [Rs.bind]
                                  all_goals rfl
                rw [EE]
                exact ⟨rfl, gb_trans HG14.out (gb_trans HG19.out (HG32.out))⟩
            · have HG28 := Lib.hid (gb_trans HG25.out hb)
              clear ho hb HP25 HG25
              go_wp2
              refine ⟨rfl, ?_⟩
              have EE : defF v K pp i = Rs.err a er := by
                              unfold defF
                              rw [HR13.out]; all_goals dsimp only [Rs.bind]
                              rw [if_pos HS16.out]
                              rw [HR18.out]; all_goals dsimp only [Rs.bind]
                              unfold defR
                              rw [HR21.out]; all_goals dsimp only [Rs.bind]
                              rw [HR24.out]; all_goals dsimp only [Rs.bind]
                              rw [HR27.out]; all_goals dsimp only [Rs.bind]
                              all_goals rfl
              rw [EE]
              exact ⟨rfl, gb_trans HG14.out (gb_trans HG19.out (HG28.out))⟩
          · have HG25 := Lib.hid (gb_trans HG22.out hb)
            clear ho hb HP22 HG22
            go_wp2
            refine ⟨rfl, ?_⟩
            have EE : defF v K pp i = Rs.err a er := by
                          unfold defF
                          rw [HR13.out]; all_goals dsimp only [Rs.bind]
                          rw [if_pos HS16.out]
                          rw [HR18.out]; all_goals dsimp only [Rs.bind]
                          unfold defR
                          rw [HR21.out]; all_goals dsimp only [Rs.bind]
                          rw [HR24.out]; all_goals dsimp only [Rs.bind]
                          all_goals rfl
            rw [EE]
            exact ⟨rfl, gb_trans HG14.out (gb_trans HG19.out (HG25.out))⟩
        · have HG22 := Lib.hid (gb_trans HG20.out hb)
          clear ho hb HP19 HG20
          go_wp2
          refine ⟨rfl, ?_⟩
          have EE : defF v K pp i = Rs.err a er := by
                      unfold defF
                      rw [HR13.out]; all_goals dsimp only [Rs.bind]
                      rw [if_pos HS16.out]
                      rw [HR18.out]; all_goals dsimp only [Rs.bind]
                      unfold defR
                      rw [HR21.out]; all_goals dsimp only [Rs.bind]
                      all_goals rfl
          rw [EE]
          exact ⟨rfl, gb_trans HG14.out (gb_trans HG19.out (HG22.out))⟩
      · have HG19 := Lib.hid (gb_trans HG17.out hb)
        clear ho hb HP17 HG17
        go_wp2
        refine ⟨rfl, ?_⟩
        have EE : defF v K pp i = Rs.err a er := by
                  unfold defF
                  rw [HR13.out]; all_goals dsimp only [Rs.bind]
                  rw [if_pos HS16.out]
                  rw [HR18.out]; all_goals dsimp only [Rs.bind]
                  all_goals rfl
        rw [EE]
        exact ⟨rfl, gb_trans HG14.out (HG19.out)⟩
    | false =>
      have HS16 := Lib.hid hS16
      clear hS16
      go_wp2_with fail
      refine (sySkipNo hA.out.k HP14.out HS16.out).mono ?_
      rintro e w37 ⟨rfl, hp, hb⟩
      have HP37 := Lib.hid hp; have HG37 := Lib.hid (gb_trans HG15.out hb)
      clear hp hb HP14 HG15 
      have HROW38 : Hid (RowS w37 l1 none 0 [] []) := Lib.hid (RowS.none _ _); have HRLN38 : Hid (([] : List Nd).length ≤ 100000) := Lib.hid (by decide); have HJ38 : Hid (dps [] ≤ 500000) := Lib.hid (by decide)
      have HLOW : Hid (∀ q, (none : Option Addr) = some ⟨q, 0, none⟩ → l1 + 1 ≤ q) := Lib.hid (fun q hq => by rcases HROW38.out.own.shape with ⟨h1, _⟩ | ⟨q2, cur, h1, h2, _⟩ <;> rw [h1] at hq <;> cases hq; exact h2)
      have HGA := HG37
      obtain ⟨l2, hl2⟩ : ∃ x, x + 1 = w37.heap.size := ⟨w37.heap.size - 1, by have := HP37.out.lt; omega⟩
      have HL2 : Hid (g ≤ l2 ∧ l2 < w37.heap.size) := Lib.hid (by have := HP37.out.lt; omega)
      have HLL2 : Hid (l1 ≤ l2 ∧ l2 + 1 = w37.heap.size) := Lib.hid (by have := (Nat.lt_of_lt_of_le HL1.out.2 HG37.out.size); omega)
      have HG39 : Hid (w37.grownBy w37 (some g)) := Lib.hid (gb_refl _ _)
      clear hl2
      have HQ : Hid (∀ q, (none : Option Addr) = some ⟨q, 0, none⟩ → q ≤ l2) := Lib.hid (fun q hq => by have := HROW38.out.own.low q hq; have := HLL2.out; omega)
      obtain ⟨R40, hR40⟩ : ∃ R, ned v ⟨#[58]⟩ j13 = R := ⟨_, rfl⟩
      have hi40 := ned_iv hA.out.q HP37.out.il (s := ⟨#[58]⟩)
      rw [hR40] at hi40
      have hc40 := syNeed hA.out.k HP37.out ⟨#[58]⟩
      rw [hR40] at hc40
      have HC40 := Lib.hid hc40; have HR40 := Lib.hid hR40
      have HI40 := Lib.hid hi40
      clear hc40 hR40 hi40
      go_wp2_with fail
      refine HC40.out.mono ?_
      intro e w41 ho
      clear HC40
      rcases out_cases ho with ⟨x40, j40, u, rfl, rfl, hv, hp, hb⟩ | ⟨a, er, rfl, rfl, hb⟩
      · have HP41 := Lib.hid hp; have HG41 := Lib.hid (gb_trans HG39.out hb)
        have HJ41 : Hid (j13 < j40 ∧ j40 ≤ v.L.length) := Lib.hid (by have h : T1 v j13 x40 j40 := HI40.out; have h0 := hA.out.k.len; exact ⟨by have := h.1; omega, h.2⟩)
        have HROW42 := Lib.hid (HROW38.out.keep hb HL1.out.1)
        obtain rfl := hv
        clear ho hp hb HP37 HG39 HROW38 HI40
        obtain ⟨R43, hR43⟩ : ∃ R, K.pipe pp j40 = R := ⟨_, rfl⟩
        have hi43 := hI.out.pipe pp j40 HP41.out.il
        rw [hR43] at hi43
        have hc43 := hK.out.pipe _ (by have := HJ0.out; have := HJ14.out; have := HJ41.out; omega) _ _ l2 HL2.out.1 (Nat.lt_of_lt_of_le HL2.out.2 HG41.out.size) HP41.out
        rw [hR43] at hc43
        have HC43 := Lib.hid hc43; have HR43 := Lib.hid hR43
        have HI43 := Lib.hid hi43
        clear hc43 hR43 hi43
        go_wp2_with fail
        refine HC43.out.mono ?_
        intro e w44 ho
        clear HC43
        rcases out_cases ho with ⟨x43, j43, u, rfl, rfl, hv, hp, hb⟩ | ⟨a, er, rfl, rfl, hb⟩
        · have HP44 := Lib.hid hp; have HG44 := Lib.hid (gb_trans HG41.out hb)
          have HJ44 : Hid (j40 < j43 ∧ j43 ≤ v.L.length ∧ dpt x43 ≤ 500000) := Lib.hid (by have h : P1 v 0 j40 x43 j43 := HI43.out; have h0 := hA.out.k.len; exact ⟨h.1, h.2.1, by have h1 := h.2.2.1; have h2 := h.2.1; omega⟩)
          have HROW45 := Lib.hid (HROW42.out.keep hb HL1.out.1)
          obtain ⟨b43, rfl, hx⟩ := hv
          have HX43 := Lib.hid hx
          clear hx
          clear ho hp hb HP41 HG41 HROW42 HI43
          obtain ⟨R46, hR46⟩ : ∃ R, ned v ⟨#[59]⟩ j43 = R := ⟨_, rfl⟩
          have hi46 := ned_iv hA.out.q HP44.out.il (s := ⟨#[59]⟩)
          rw [hR46] at hi46
          have hc46 := syNeed hA.out.k HP44.out ⟨#[59]⟩
          rw [hR46] at hc46
          have HC46 := Lib.hid hc46; have HR46 := Lib.hid hR46
          have HI46 := Lib.hid hi46
          clear hc46 hR46 hi46
          go_wp2_with fail
          refine HC46.out.mono ?_
          intro e w47 ho
          clear HC46
          rcases out_cases ho with ⟨x46, j46, u, rfl, rfl, hv, hp, hb⟩ | ⟨a, er, rfl, rfl, hb⟩
          · have HP47 := Lib.hid hp; have HG47 := Lib.hid (gb_trans HG44.out hb)
            have HJ47 : Hid (j43 < j46 ∧ j46 ≤ v.L.length) := Lib.hid (by have h : T1 v j43 x46 j46 := HI46.out; have h0 := hA.out.k.len; exact ⟨by have := h.1; omega, h.2⟩)
            have HX48 := Lib.hid (HX43.out.keep hb HL2.out.1)
            have HROW49 := Lib.hid (HROW45.out.keep hb HL1.out.1)
            obtain rfl := hv
            clear ho hp hb HP44 HG44 HX43 HROW45 HI46
            obtain ⟨R50, hR50⟩ : ∃ R, K.pipe pp j46 = R := ⟨_, rfl⟩
            have hi50 := hI.out.pipe pp j46 HP47.out.il
            rw [hR50] at hi50
            have hc50 := hK.out.pipe _ (by have := HJ0.out; have := HJ14.out; have := HJ41.out; have := HJ44.out; have := HJ47.out; omega) _ _ l2 HL2.out.1 (Nat.lt_of_lt_of_le HL2.out.2 HG47.out.size) HP47.out
            rw [hR50] at hc50
            have HC50 := Lib.hid hc50; have HR50 := Lib.hid hR50
            have HI50 := Lib.hid hi50
            clear hc50 hR50 hi50
            go_wp2_with fail
            refine HC50.out.mono ?_
            intro e w51 ho
            clear HC50
            rcases out_cases ho with ⟨x50, j50, u, rfl, rfl, hv, hp, hb⟩ | ⟨a, er, rfl, rfl, hb⟩
            · have HP51 := Lib.hid hp; have HG51 := Lib.hid (gb_trans HG47.out hb)
              have HJ51 : Hid (j46 < j50 ∧ j50 ≤ v.L.length ∧ dpt x50 ≤ 500000) := Lib.hid (by have h : P1 v 0 j46 x50 j50 := HI50.out; have h0 := hA.out.k.len; exact ⟨h.1, h.2.1, by have h1 := h.2.2.1; have h2 := h.2.1; omega⟩)
              have HX52 := Lib.hid (HX48.out.keep hb HL2.out.1)
              have HROW53 := Lib.hid (HROW49.out.keep hb HL1.out.1)
              obtain ⟨b50, rfl, hx⟩ := hv
              have HX50 := Lib.hid hx
              clear hx
              clear ho hp hb HP47 HG47 HX48 HROW49 HI50
              have HS1 : Hid (l1 < w51.heap.size) := Lib.hid (by have := HLL2.out; have := (Nat.lt_of_lt_of_le HL2.out.2 HG51.out.size); omega)
              go_wp2_with (at_builtin; refine wp_rowQ _ rfl _ _ rfl _ rfl rfl HROW53.out HX52.out HX50.out HQ.out HLL2.out.1 (by have := HRLN38.out; omega) HS1.out ?_; intro ao54 cap54 w54 e1 e2 e3)
              have HPS54 := Lib.hid e1; have HP54 : Hid (PB v w54 g j50 pp) := Lib.hid (HP51.out.bel2 e2 HL1.out.1)
              have HG54 : Hid (w14.grownBy w54 (some g)) := Lib.hid (gb_appO (gb_trans HGA.out HG51.out) e2 e3 (fun q hq => by have := HLOW.out q hq; have := HLL1.out; omega))
              have HS54 : Hid (l1 < w54.heap.size ∧ dps ([] ++ [x43, x50]) ≤ 10000000 ∧ ([] ++ [x43, x50]).length ≤ 1000000) := Lib.hid ⟨Nat.lt_of_lt_of_le HS1.out e2.size, by rw [dps_two]; have := HJ44.out; have := HJ51.out; have := HJ38.out; omega, by simp only [List.length_append, List.length_cons, List.length_nil]; have := HRLN38.out; omega⟩
              have hc55 := syNewPart 26 x13 ([] ++ [x43, x50]) ao54 cap54 (fun k => l1 < k) w54 HPS54.out HS54.out.1 HS54.out.2.1 HS54.out.2.2
              rw [List.length_append] at hc55
              have HC55 := Lib.hid hc55
              clear e1 e2 e3 hc55 HPS54
              go_wp2_with fail
              refine HC55.out.mono ?_
              rintro e w55 ⟨rfl, hb, hx⟩
              have HF : Hid (PR w55 l (Nd.mk 26 x13 ([] ++ [x43, x50])) w54.heap.size ∧ PB v w55 g j50 pp ∧ w14.grownBy w55 (some g)) := Lib.hid ⟨PRA.to (fun k hk _ => ⟨rfl, by have := HLL1.out; omega⟩) hx, HP54.out.below hb, gb_trans HG54.out (gbOfB hb)⟩
              clear hb hx
              go_wp2
              go_ret
              have EE : defF v K pp i = Rs.ok (Nd.mk 26 x13 ([] ++ [x43, x50])) (j50) := by
                              unfold defF
                              rw [HR13.out]; all_goals dsimp only [Rs.bind]
                              rw [if_neg (by rw [HS16.out]; decide)]
                              unfold defR
                              rw [HR40.out]; all_goals dsimp only [Rs.bind]
                              rw [HR43.out]; all_goals dsimp only [Rs.bind]
                              rw [HR46.out]; all_goals dsimp only [Rs.bind]
                              rw [HR50.out]; all_goals dsimp only [Rs.bind]
                              all_goals rfl
              rw [EE]
              exact ⟨_, rfl, ⟨_, rfl, HF.out.1⟩, HF.out.2.1, gb_trans HG0B.out HF.out.2.2⟩
            · have HG51 := Lib.hid (gb_trans HG47.out hb)
              clear ho hb HP47 HG47
              go_wp2
              refine ⟨rfl, ?_⟩
              have EE : defF v K pp i = Rs.err a er := by
                              unfold defF
                              rw [HR13.out]; all_goals dsimp only [Rs.bind]
                              rw [if_neg (by rw [HS16.out]; decide)]
                              unfold defR
                              rw [HR40.out]; all_goals dsimp only [Rs.bind]
                              rw [HR43.out]; all_goals dsimp only [Rs.bind]
                              rw [HR46.out]; all_goals dsimp only [Rs.bind]
                              rw [HR50.out]; all_goals dsimp only [Rs.bind]
                              all_goals rfl
              rw [EE]
              exact ⟨rfl, gb_trans HG14.out (gb_trans HG37.out (HG51.out))⟩
          · have HG47 := Lib.hid (gb_trans HG44.out hb)
            clear ho hb HP44 HG44
            go_wp2
            refine ⟨rfl, ?_⟩
            have EE : defF v K pp i = Rs.err a er := by
                          unfold defF
                          rw [HR13.out]; all_goals dsimp only [Rs.bind]
                          rw [if_neg (by rw [HS16.out]; decide)]
                          unfold defR
                          rw [HR40.out]; all_goals dsimp only [Rs.bind]
                          rw [HR43.out]; all_goals dsimp only [Rs.bind]
                          rw [HR46.out]; all_goals dsimp only [Rs.bind]
                          all_goals rfl
            rw [EE]
            exact ⟨rfl, gb_trans HG14.out (gb_trans HG37.out (HG47.out))⟩
        · have HG44 := Lib.hid (gb_trans HG41.out hb)
          clear ho hb HP41 HG41
          go_wp2
          refine ⟨rfl, ?_⟩
          have EE : defF v K pp i = Rs.err a er := by
                      unfold defF
                      rw [HR13.out]; all_goals dsimp only [Rs.bind]
                      rw [if_neg (by rw [HS16.out]; decide)]
                      unfold defR
                      rw [HR40.out]; all_goals dsimp only [Rs.bind]
                      rw [HR43.out]; all_goals dsimp only [Rs.bind]
                      all_goals rfl
          rw [EE]
          exact ⟨rfl, gb_trans HG14.out (gb_trans HG37.out (HG44.out))⟩
      · have HG41 := Lib.hid (gb_trans HG39.out hb)
        clear ho hb HP37 HG39
        go_wp2
        refine ⟨rfl, ?_⟩
        have EE : defF v K pp i = Rs.err a er := by
                  unfold defF
                  rw [HR13.out]; all_goals dsimp only [Rs.bind]
                  rw [if_neg (by rw [HS16.out]; decide)]
                  unfold defR
                  rw [HR40.out]; all_goals dsimp only [Rs.bind]
                  all_goals rfl
        rw [EE]
        exact ⟨rfl, gb_trans HG14.out (gb_trans HG37.out (HG41.out))⟩
  · have HG14 := Lib.hid (gb_trans HG0.out hb)
    clear ho hb HP0 HG0
    go_wp2
    refine ⟨rfl, ?_⟩
    have EE : defF v K pp i = Rs.err a er := by
          unfold defF
          rw [HR13.out]; all_goals dsimp only [Rs.bind]
          all_goals rfl
    rw [EE]
    exact ⟨rfl, HG14.out⟩
end Go.Proofs.YtpgiljibicigeaaGreatDoor
