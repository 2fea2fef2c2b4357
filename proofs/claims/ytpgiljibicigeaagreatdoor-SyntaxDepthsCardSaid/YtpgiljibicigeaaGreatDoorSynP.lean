/- syntax: suffixes walked (gensynp.py) -/
import Derived.Test.YtpgiljibicigeaaGreatDoorSynO
set_option linter.unusedVariables false
set_option linter.unusedSimpArgs false
namespace Go.Proofs.YtpgiljibicigeaaGreatDoor
open Go.RowKit SX

set_option maxRecDepth 100000 in
set_option maxHeartbeats 16000000 in
theorem syPost {v : Ev} {g n : Nat} {K : Kn} (hA : Hid (EvA v)) (hK : Hid (HKs v g K n)) (hI : Hid (IvK v K)) {i : Nat} (hn : v.L.length - i < n + 1) : Cn v g 85 (postF v K) i := by
  intro w pp l hgl hlw h
  have HLE := Lib.hid hA.out.k.len
  have HL : Hid (g ≤ l ∧ l < w.heap.size) := Lib.hid ⟨hgl, hlw⟩
  have HJ0 := Lib.hid hn
  have hc := syTerm hA hK hI hn w pp l hgl hlw h
  have hi := termF_iv hA.out.q hI.out pp h.il
  show Calls Tryz.prog 85 #[ptr g] w (Out v g pp w (postF v K pp i) (VN l))
  obtain ⟨R1, hR1⟩ : ∃ R, termF v K pp i = R := ⟨_, rfl⟩
  obtain ⟨R, hR⟩ : ∃ R, postF v K pp i = R := ⟨_, rfl⟩
  rw [hR]
  have hR' := hR
  unfold postF at hR'
  rw [hR1] at hc hi hR'
  have HC := Lib.hid hc; have HI := Lib.hid hi; have HR := Lib.hid hR'
  clear hc hi hR1 hR hR' h hgl hlw hn
  go_enter Tryz.func85, Tryz.ntmps85
  go_wp2_with fail
  refine HC.out.mono ?_
  intro e w1 ho
  clear HC
  rcases out_cases ho with ⟨x, j, u, rfl, rfl, hv, hp, hb⟩ | ⟨a, er, rfl, rfl, hb⟩
  · obtain ⟨b, rfl, hx⟩ := hv
    have ht : P1 v 0 i x j := HI.out
    have HP1 := Lib.hid hp; have HG1 := Lib.hid hb; have HX1 := Lib.hid hx
    have HRL : Hid (postL v K pp (v.L.length + 1) x j = R) := Lib.hid HR.out
    have HD : Hid (i < j ∧ dpt x + 4 * i ≤ 4 * j) := Lib.hid ⟨ht.1, ht.2.2.1⟩
    clear ho hp hb hx ht HI HR
    go_wp2_with fail
    go_loopg [3] (v.L.length + 1) (fun gk s3 wr => ∃ (m : Nd) (bm k : Nat), v.L.length < k + gk ∧ s3 = ptr bm ∧ Hid (PR wr l m bm) ∧ Hid (PB v wr g k pp) ∧ Hid (w.grownBy wr (some g)) ∧ Hid (postL v K pp gk m k = R) ∧ Hid (i < k ∧ dpt m + 4 * i ≤ 4 * k))
    case atStart => exact ⟨x, b, j, by omega, rfl, HX1, HP1, HG1, HRL, HD⟩
    case round =>
      obtain ⟨m, bm, k, hk, rfl, HXM, HP0, HG0, HRL, HD⟩ := hrel
      obtain ⟨f, rfl⟩ : ∃ f, gk = f + 1 := ⟨gk - 1, by have := HP0.out.il; omega⟩
      have HAL : Hid (k ≤ v.L.length ∧ v.L.length < k + (f + 1)) := Lib.hid ⟨HP0.out.il, hk⟩
      have HDM : Hid (dpt m ≤ 500000) := Lib.hid (by have := HD.out.2; have := HP0.out.il; have := HLE.out; omega)
      have HDI : Hid (i < k) := Lib.hid HD.out.1
      have ft := fieldTok0
      clear hk
      have HTX : Hid (∀ (x : Nd) (j : Nat), textF v K pp SX.nil (k + 1) = Rs.ok x j → k < v.L.length → P4 v (k + 1) x j) := Lib.hid (fun x j h hl => by have h2 := textF_iv hA.out.q hI.out pp SX.nil (show k + 1 ≤ v.L.length by omega); rw [h] at h2; exact h2)
      go_wp2_with fail
      refine (syNext hA.out.k HP0.out).mono ?_
      rintro e w101 ⟨rfl, hb⟩
      obtain ⟨w101b, hw101⟩ : ∃ x, w101.alloc (.cells #[.int .i64 ((tkn v k).1 : Int), .string (tkn v k).2.1, .int .i64 ((tkn v k).2.2 : Int)] 75) = x := ⟨_, rfl⟩
      have hb2 : Below wr.heap.size wr w101b := by rw [← hw101]; exact hb.alloc hb.size _
      have HP101 := Lib.hid (HP0.out.below hb2); have HG101 := Lib.hid (gb_trans HG0.out (gbOfB hb2)); have HW101 := Lib.hid hw101
      have HX102 := Lib.hid (HXM.out.keep (gbOfB (g := g) hb2) HL.out.1)
      unfold nxV
      clear hb hb2 hw101 HP0 HG0 HXM
      by_cases hK103 : (tkn v k).1 = 3
      · have HS103 := Lib.hid hK103
        have q103 : (((tkn v k).1 : Int) == 3) = true := by rw [hK103]; rfl
        have qn103 : (((tkn v k).1 : Int) != 3) = false := by rw [hK103]; rfl
        have HJ104 : Hid (k < v.L.length) := Lib.hid (tkn_lt hK103 (by decide))
        clear hK103
        go_wp2_with fail
        rw [HW101.out]
        clear HW101
        have hk105 : (tkn v k).1 = 3 := HS103.out
        have hc105 := syTake hA.out.k HP101.out 3 (by decide)
        rw [show tak v 3 k = .ok (tkn v k).2.1 (k + 1) from if_pos hk105] at hc105
        have HC105 := Lib.hid hc105; have HJ105 : Hid (k < v.L.length) := Lib.hid (tkn_lt hk105 (by decide))
        clear hk105 hc105
        refine HC105.out.mono ?_
        rintro e w106 ⟨u, rfl, hv, hp, hb⟩
        obtain rfl := hv
        have HP106 := Lib.hid hp; have HG106 := Lib.hid (gb_trans HG101.out hb)
        have HX107 := Lib.hid (HX102.out.keep hb HL.out.1)
        clear hp hb HC105 HP101 HG101 HX102
        have hd108 : dpt (pln (tkn v k).2.1) ≤ 2 := by simp [pln, dpt, dps]
        have HJ108 := Lib.hid hd108
        clear hd108
        go_wp2_with fail
        refine (syPlain (Nat.lt_of_lt_of_le HL.out.2 HG106.out.size) (tkn v k).2.1).mono ?_
        rintro e w109 ⟨b108, rfl, hb, hx⟩
        have HP109 := Lib.hid (HP106.out.below hb); have HG109 := Lib.hid (gb_trans HG106.out (gbOfB hb)); have HX108 := Lib.hid hx
        have HX110 := Lib.hid (HX107.out.keep (gbOfB (g := g) hb) HL.out.1)
        clear hb hx HP106 HG106 HX107
        have hd111 : dpt (ixN (m) (pln (tkn v k).2.1)) ≤ 500001 := by simp only [ixN, dpt, dps]; have := HDM.out; have := HJ108.out; omega
        have HJ111 := Lib.hid hd111
        clear hd111
        go_wp2_with fail
        refine (syIndex (Nat.lt_of_lt_of_le HL.out.2 HG109.out.size) HX110.out HX108.out (by have := HDM.out; omega) (by have := HJ108.out; omega)).mono ?_
        rintro e w112 ⟨b111, rfl, hb, hx⟩
        have HP112 := Lib.hid (HP109.out.below hb); have HG112 := Lib.hid (gb_trans HG109.out (gbOfB hb)); have HX111 := Lib.hid hx
        have HX113 := Lib.hid (HX110.out.keep (gbOfB (g := g) hb) HL.out.1)
        have HX114 := Lib.hid (HX108.out.keep (gbOfB (g := g) hb) HL.out.1)
        clear hb hx HP109 HG109 HX110 HX108
        have HRN : Hid (postL v K pp f (ixN (m) (pln (tkn v k).2.1)) (k + 1) = R) := Lib.hid (by
                  rw [← HRL.out]
                  symm
                  rw [postL]
                  rw [if_pos HS103.out]
                  all_goals rfl)
        have HDN : Hid (i < k + 1 ∧ dpt (ixN (m) (pln (tkn v k).2.1)) + 4 * i ≤ 4 * (k + 1)) := Lib.hid (by have := HD.out; simp only [ixN, pln, dpt, dps]; omega)
        go_wp2
        go_roundg f
        case measure => omega
        case rel => exact ⟨ixN (m) (pln (tkn v k).2.1), b111, k + 1, by have := HAL.out; have := HJ0.out; have := HDI.out; have := HJ104.out; have := HJ105.out; omega, rfl, HX111, HP112, HG112, HRN, HDN⟩
      · have HS103 := Lib.hid hK103
        have q103 : (((tkn v k).1 : Int) == 3) = false := by rw [beq_eq_false_iff_ne]; omega
        have qn103 : (((tkn v k).1 : Int) != 3) = true := by rw [bne_iff_ne]; omega
        clear hK103
        go_wp2_with fail
        rw [HW101.out]
        clear HW101
        cases hS116 : isS v k ⟨#[63]⟩ with
        | true =>
          have HS116 := Lib.hid hS116
          have HJ117 : Hid (k < v.L.length) := Lib.hid (isS_lt hS116)
          clear hS116
          refine (sySkipYes hA.out.k HP101.out HS116.out).mono ?_
          rintro e w117 ⟨rfl, hp, hb⟩
          have HP117 := Lib.hid hp; have HG117 := Lib.hid (gb_trans HG101.out hb)
          have HX118 := Lib.hid (HX102.out.keep hb HL.out.1)
          clear hp hb HP101 HG101 HX102
          have hd119 : dpt (Nd.mk 13 SX.nil [m]) ≤ 500001 := by have h0 := hA.out.k.len; simp only [dpt, dps]; have := HDM.out; omega
          have HJ119 := Lib.hid hd119
          clear hd119
          go_wp2_with fail
          refine (syNew1 (Nat.lt_of_lt_of_le HL.out.2 HG117.out.size) HX118.out (by have := HDM.out; omega) 13 SX.nil).mono ?_
          rintro e w120 ⟨b119, rfl, hb, hx⟩
          have HP120 := Lib.hid (HP117.out.below hb); have HG120 := Lib.hid (gb_trans HG117.out (gbOfB hb)); have HX119 := Lib.hid hx
          have HX121 := Lib.hid (HX118.out.keep (gbOfB (g := g) hb) HL.out.1)
          clear hb hx HP117 HG117 HX118
          have HRN : Hid (postL v K pp f (Nd.mk 13 SX.nil [m]) (k + 1) = R) := Lib.hid (by
                      rw [← HRL.out]
                      symm
                      rw [postL]
                      rw [if_neg HS103.out]
                      rw [if_pos HS116.out]
                      all_goals rfl)
          have HDN : Hid (i < k + 1 ∧ dpt (Nd.mk 13 SX.nil [m]) + 4 * i ≤ 4 * (k + 1)) := Lib.hid (by have := HD.out; simp only [dpt, dps]; omega)
          go_wp2
          go_roundg f
          case measure => omega
          case rel => exact ⟨Nd.mk 13 SX.nil [m], b119, k + 1, by have := HAL.out; have := HJ0.out; have := HDI.out; have := HJ117.out; omega, rfl, HX119, HP120, HG120, HRN, HDN⟩
        | false =>
          have HS116 := Lib.hid hS116
          clear hS116
          refine (sySkipNo hA.out.k HP101.out HS116.out).mono ?_
          rintro e w122 ⟨rfl, hp, hb⟩
          have HP122 := Lib.hid hp; have HG122 := Lib.hid (gb_trans HG101.out hb)
          have HX123 := Lib.hid (HX102.out.keep hb HL.out.1)
          clear hp hb HP101 HG101 HX102
          cases hS124 : isS v k ⟨#[91]⟩ with
          | true =>
            have HS124 := Lib.hid hS124
            have HJ125 : Hid (k < v.L.length) := Lib.hid (isS_lt hS124)
            clear hS124
            go_wp2_with fail
            refine (sySkipYes hA.out.k HP122.out HS124.out).mono ?_
            rintro e w125 ⟨rfl, hp, hb⟩
            have HP125 := Lib.hid hp; have HG125 := Lib.hid (gb_trans HG122.out hb)
            have HX126 := Lib.hid (HX123.out.keep hb HL.out.1)
            clear hp hb HP122 HG122 HX123
            obtain ⟨R127, hR127⟩ : ∃ R, innerF v K pp m (k + 1) = R := ⟨_, rfl⟩
            have hi127 := innerF_d hA.out.q hI.out pp m (i0 := i) HP125.out.il (by have := HD.out; omega)
            rw [hR127] at hi127
            have hc127 := syInner hA hK hI m (by have := HDM.out; omega) (by have := HJ0.out; have := HDI.out; have := HJ125.out; omega) w125 pp l HL.out.1 (Nat.lt_of_lt_of_le HL.out.2 HG125.out.size) HP125.out HX126.out
            rw [hR127] at hc127
            have HC127 := Lib.hid hc127; have HR127 := Lib.hid hR127; have HI127 := Lib.hid hi127
            clear hc127 hR127 hi127
            go_wp2_with fail
            refine HC127.out.mono ?_
            intro e w128 ho
            clear HC127
            rcases out_cases ho with ⟨x127, j127, u, rfl, rfl, hv, hp, hb⟩ | ⟨a, er, rfl, rfl, hb⟩
            · have HP128 := Lib.hid hp; have HG128 := Lib.hid (gb_trans HG125.out hb)
              have hpi : IP v (k + 1) i x127 j127 := HI127.out
              have HPI := Lib.hid hpi
              have HJ128 : Hid (k + 1 ≤ j127 ∧ j127 ≤ v.L.length ∧ dpt x127 ≤ 500000) := Lib.hid ⟨Nat.le_of_lt hpi.1, hpi.2.1, by have := hpi.2.2; have := hpi.2.1; have := HLE.out; omega⟩
              have HX129 := Lib.hid (HX126.out.keep hb HL.out.1)
              obtain ⟨b127, rfl, hx⟩ := hv
              have HX127 := Lib.hid hx
              clear ho hp hb hx hpi HP125 HG125 HX126 HI127
              have HRN : Hid (postL v K pp f (x127) (j127) = R) := Lib.hid (by
                              rw [← HRL.out]
                              symm
                              rw [postL]
                              rw [if_neg HS103.out]
                              rw [if_neg (by rw [HS116.out]; decide)]
                              rw [if_pos HS124.out]
                              rw [HR127.out]; all_goals dsimp only [Rs.bind]
                              all_goals rfl)
              have HDN : Hid (i < j127 ∧ dpt (x127) + 4 * i ≤ 4 * (j127)) := Lib.hid (by have h := HPI.out; have := HDI.out; exact ⟨by have := h.1; omega, h.2.2⟩)
              go_wp2
              go_roundg f
              case measure => omega
              case rel => exact ⟨x127, b127, j127, by have := HAL.out; have := HJ0.out; have := HDI.out; have := HJ125.out; have := HJ128.out; omega, rfl, HX127, HP128, HG128, HRN, HDN⟩
            · have HG128 := Lib.hid (gb_trans HG125.out hb)
              clear ho hb HP125 HG125
              go_wp2
              refine ⟨rfl, ?_⟩
              have EE : R = Rs.err a er := by
                              rw [← HRL.out, postL]
                              rw [if_neg HS103.out]
                              rw [if_neg (by rw [HS116.out]; decide)]
                              rw [if_pos HS124.out]
                              rw [HR127.out]; all_goals dsimp only [Rs.bind]
                              all_goals rfl
              rw [EE]
              exact ⟨rfl, HG128.out⟩
          | false =>
            have HS124 := Lib.hid hS124
            clear hS124
            go_wp2_with fail
            refine (sySkipNo hA.out.k HP122.out HS124.out).mono ?_
            rintro e w130 ⟨rfl, hp, hb⟩
            have HP130 := Lib.hid hp; have HG130 := Lib.hid (gb_trans HG122.out hb)
            have HX131 := Lib.hid (HX123.out.keep hb HL.out.1)
            clear hp hb HP122 HG122 HX123
            cases hD132 : isS v k ⟨#[46]⟩ with
            | false =>
              have HS132 := Lib.hid hD132
              have hq := syIs hA.out.k HP130.out ⟨#[46]⟩
              rw [HS132.out] at hq
              have HQ133 := Lib.hid hq
              clear hq hD132
              go_wp2_with fail
              refine (HQ133.out).mono ?_
              rintro e w134 ⟨rfl, hb⟩
              have HP134 := Lib.hid (HP130.out.below hb); have HG134 := Lib.hid (gb_trans HG130.out (gbOfB hb))
              have HX135 := Lib.hid (HX131.out.keep (gbOfB (g := g) hb) HL.out.1)
              clear hb HP130 HG130 HX131
              clear HQ133
              have hq := syIs hA.out.k HP134.out ⟨#[46]⟩
              rw [HS132.out] at hq
              have HQ136 := Lib.hid hq
              clear hq
              go_wp2_with fail
              refine (HQ136.out).mono ?_
              rintro e w137 ⟨rfl, hb⟩
              have HP137 := Lib.hid (HP134.out.below hb); have HG137 := Lib.hid (gb_trans HG134.out (gbOfB hb))
              have HX138 := Lib.hid (HX135.out.keep (gbOfB (g := g) hb) HL.out.1)
              clear hb HP134 HG134 HX135
              clear HQ136
              have HA1 : Hid (¬ (isS v k ⟨#[46]⟩ = true ∧ (tkn v (k + 1)).1 = 7)) := Lib.hid (by rw [HS132.out]; exact fun h => by cases h.1)
              have HA2 : Hid (¬ (isS v k ⟨#[46]⟩ = true ∧ isS v (k + 1) ⟨#[91]⟩ = true)) := Lib.hid (by rw [HS132.out]; exact fun h => by cases h.1)
              go_wp2
              go_ret
              have EE : R = Rs.ok (m) (k) := by
                              rw [← HRL.out, postL]
                              rw [if_neg HS103.out]
                              rw [if_neg (by rw [HS116.out]; decide)]
                              rw [if_neg (by rw [HS124.out]; decide)]
                              rw [if_neg HA1.out]
                              rw [if_neg HA2.out]
                              all_goals rfl
              rw [EE]
              exact ⟨_, rfl, ⟨bm, rfl, HX138.out⟩, HP137.out, HG137.out⟩
            | true =>
              have HS132 := Lib.hid hD132
              have HJ132 : Hid (k < v.L.length) := Lib.hid (isS_lt hD132)
              have hq := syIs hA.out.k HP130.out ⟨#[46]⟩
              rw [HS132.out] at hq
              have HQ139 := Lib.hid hq
              clear hq hD132
              go_wp2_with fail
              refine (HQ139.out).mono ?_
              rintro e w140 ⟨rfl, hb⟩
              have HP140 := Lib.hid (HP130.out.below hb); have HG140 := Lib.hid (gb_trans HG130.out (gbOfB hb))
              have HX141 := Lib.hid (HX131.out.keep (gbOfB (g := g) hb) HL.out.1)
              clear hb HP130 HG130 HX131
              clear HQ139
              by_cases hK132 : (tkn v (k + 1)).1 = 7
              · have HK132 := Lib.hid hK132
                have q132 : (((tkn v (k + 1)).1 : Int) == 7) = true := by rw [hK132]; rfl
                clear hK132
                go_wp2_with fail
                refine (syBehind hA.out.k HP140.out 1 (by decide)).mono ?_
                rintro e w142 ⟨rfl, hb⟩
                have HP142 := Lib.hid (HP140.out.below hb); have HG142 := Lib.hid (gb_trans HG140.out (gbOfB hb))
                have HX143 := Lib.hid (HX141.out.keep (gbOfB (g := g) hb) HL.out.1)
                clear hb HP140 HG140 HX141
                unfold nxV
                have HA1 : Hid (isS v k ⟨#[46]⟩ = true ∧ (tkn v (k + 1)).1 = 7) := Lib.hid ⟨HS132.out, HK132.out⟩
                have hc144 := syNeed hA.out.k HP142.out ⟨#[46]⟩
                rw [show ned v ⟨#[46]⟩ k = .ok () (k + 1) from if_pos HS132.out] at hc144
                have HC144 := Lib.hid hc144
                clear hc144
                go_wp2_with fail
                refine HC144.out.mono ?_
                rintro e w145 ⟨u, rfl, hv, hp, hb⟩
                obtain rfl := hv
                have HP145 := Lib.hid hp; have HG145 := Lib.hid (gb_trans HG142.out hb)
                have HX146 := Lib.hid (HX143.out.keep hb HL.out.1)
                clear hp hb HC144 HP142 HG142 HX143
                obtain ⟨R147, hR147⟩ : ∃ R, textF v K pp SX.nil (k + 1) = R := ⟨_, rfl⟩
                have hi147 := textF_iv hA.out.q hI.out pp SX.nil HP145.out.il
                rw [hR147] at hi147
                have hc147 := syText hA hK hI SX.nil (by have := HJ0.out; have := HDI.out; have := HJ132.out; omega) w145 pp l HL.out.1 (Nat.lt_of_lt_of_le HL.out.2 HG145.out.size) HP145.out
                rw [hR147] at hc147
                have HC147 := Lib.hid hc147; have HR147 := Lib.hid hR147
                have HI147 := Lib.hid hi147
                clear hc147 hR147 hi147
                go_wp2_with fail
                refine HC147.out.mono ?_
                intro e w148 ho
                clear HC147
                rcases out_cases ho with ⟨x147, j147, u, rfl, rfl, hv, hp, hb⟩ | ⟨a, er, rfl, rfl, hb⟩
                · have HP148 := Lib.hid hp; have HG148 := Lib.hid (gb_trans HG145.out hb)
                  have HJ148 : Hid (k + 1 < j147 ∧ j147 ≤ v.L.length ∧ dpt x147 ≤ 500000) := Lib.hid (by have h : P4 v (k + 1) x147 j147 := HI147.out; have h0 := hA.out.k.len; exact ⟨h.1, h.2.1, by have h1 := h.2.2.1; have h2 := h.2.1; omega⟩)
                  have HX149 := Lib.hid (HX146.out.keep hb HL.out.1)
                  obtain ⟨b147, rfl, hx⟩ := hv
                  have HX147 := Lib.hid hx
                  clear hx
                  clear ho hp hb HP145 HG145 HX146 HI147
                  have hd150 : dpt (ixN (m) (x147)) ≤ 500001 := by simp only [ixN, dpt, dps]; have := HDM.out; have := HJ148.out; omega
                  have HJ150 := Lib.hid hd150
                  clear hd150
                  go_wp2_with fail
                  refine (syIndex (Nat.lt_of_lt_of_le HL.out.2 HG148.out.size) HX149.out HX147.out (by have := HDM.out; omega) (by have := HJ148.out; omega)).mono ?_
                  rintro e w151 ⟨b150, rfl, hb, hx⟩
                  have HP151 := Lib.hid (HP148.out.below hb); have HG151 := Lib.hid (gb_trans HG148.out (gbOfB hb)); have HX150 := Lib.hid hx
                  have HX152 := Lib.hid (HX149.out.keep (gbOfB (g := g) hb) HL.out.1)
                  have HX153 := Lib.hid (HX147.out.keep (gbOfB (g := g) hb) HL.out.1)
                  clear hb hx HP148 HG148 HX149 HX147
                  have HRN : Hid (postL v K pp f (ixN (m) (x147)) (j147) = R) := Lib.hid (by
                                      rw [← HRL.out]
                                      symm
                                      rw [postL]
                                      rw [if_neg HS103.out]
                                      rw [if_neg (by rw [HS116.out]; decide)]
                                      rw [if_neg (by rw [HS124.out]; decide)]
                                      rw [if_pos HA1.out]
                                      rw [HR147.out]; all_goals dsimp only [Rs.bind]
                                      all_goals rfl)
                  have HDN : Hid (i < j147 ∧ dpt (ixN (m) (x147)) + 4 * i ≤ 4 * (j147)) := Lib.hid (by have := HD.out; have h : P4 v (k + 1) x147 j147 := HTX.out x147 j147 HR147.out (by have := HJ0.out; have := HDI.out; have := HJ132.out; have := HJ148.out; omega); have h1 := h.2.2.1; have h2 := h.1; simp only [ixN, dpt, dps]; omega)
                  go_wp2
                  go_roundg f
                  case measure => omega
                  case rel => exact ⟨ixN (m) (x147), b150, j147, by have := HAL.out; have := HJ0.out; have := HDI.out; have := HJ132.out; have := HJ148.out; omega, rfl, HX150, HP151, HG151, HRN, HDN⟩
                · have HG148 := Lib.hid (gb_trans HG145.out hb)
                  clear ho hb HP145 HG145
                  go_wp2
                  refine ⟨rfl, ?_⟩
                  have EE : R = Rs.err a er := by
                                      rw [← HRL.out, postL]
                                      rw [if_neg HS103.out]
                                      rw [if_neg (by rw [HS116.out]; decide)]
                                      rw [if_neg (by rw [HS124.out]; decide)]
                                      rw [if_pos HA1.out]
                                      rw [HR147.out]; all_goals dsimp only [Rs.bind]
                                      all_goals rfl
                  rw [EE]
                  exact ⟨rfl, HG148.out⟩
              · have HK132 := Lib.hid hK132
                have q132 : (((tkn v (k + 1)).1 : Int) == 7) = false := by rw [beq_eq_false_iff_ne]; omega
                clear hK132
                go_wp2_with fail
                refine (syBehind hA.out.k HP140.out 1 (by decide)).mono ?_
                rintro e w154 ⟨rfl, hb⟩
                have HP154 := Lib.hid (HP140.out.below hb); have HG154 := Lib.hid (gb_trans HG140.out (gbOfB hb))
                have HX155 := Lib.hid (HX141.out.keep (gbOfB (g := g) hb) HL.out.1)
                clear hb HP140 HG140 HX141
                unfold nxV
                have HA1 : Hid (¬ (isS v k ⟨#[46]⟩ = true ∧ (tkn v (k + 1)).1 = 7)) := Lib.hid (fun h => HK132.out h.2)
                have hq := syIs hA.out.k HP154.out ⟨#[46]⟩
                rw [HS132.out] at hq
                have HQ156 := Lib.hid hq
                clear hq
                go_wp2_with fail
                refine (HQ156.out).mono ?_
                rintro e w157 ⟨rfl, hb⟩
                have HP157 := Lib.hid (HP154.out.below hb); have HG157 := Lib.hid (gb_trans HG154.out (gbOfB hb))
                have HX158 := Lib.hid (HX155.out.keep (gbOfB (g := g) hb) HL.out.1)
                clear hb HP154 HG154 HX155
                clear HQ156
                go_wp2_with fail
                refine (syBehind hA.out.k HP157.out 1 (by decide)).mono ?_
                rintro e w159 ⟨rfl, hb⟩
                have HP159 := Lib.hid (HP157.out.below hb); have HG159 := Lib.hid (gb_trans HG157.out (gbOfB hb))
                have HX160 := Lib.hid (HX158.out.keep (gbOfB (g := g) hb) HL.out.1)
                clear hb HP157 HG157 HX158
                have hg := fun W => syIsSign (tkn v (k + 1)) ⟨#[91]⟩ W
                cases hB132 : isS v (k + 1) ⟨#[91]⟩ with
                | false =>
                  have HB132 := Lib.hid hB132
                  have HGQ : Hid (∀ W, Calls Tryz.prog 78 #[nxV (tkn v (k + 1)), .string ⟨#[91]⟩] W fun e w' => e = .returned (.bool false) ∧ Below W.heap.size W w') := Lib.hid (by rw [← hB132]; exact hg)
                  clear hB132 hg
                  go_wp2_with fail
                  refine (HGQ.out _).mono ?_
                  rintro e w161 ⟨rfl, hb⟩
                  have HP161 := Lib.hid (HP159.out.below hb); have HG161 := Lib.hid (gb_trans HG159.out (gbOfB hb))
                  have HX162 := Lib.hid (HX160.out.keep (gbOfB (g := g) hb) HL.out.1)
                  clear hb HP159 HG159 HX160
                  clear HGQ
                  have HA2 : Hid (¬ (isS v k ⟨#[46]⟩ = true ∧ isS v (k + 1) ⟨#[91]⟩ = true)) := Lib.hid (by rw [HB132.out]; exact fun h => by cases h.2)
                  go_wp2
                  go_ret
                  have EE : R = Rs.ok (m) (k) := by
                                      rw [← HRL.out, postL]
                                      rw [if_neg HS103.out]
                                      rw [if_neg (by rw [HS116.out]; decide)]
                                      rw [if_neg (by rw [HS124.out]; decide)]
                                      rw [if_neg HA1.out]
                                      rw [if_neg HA2.out]
                                      all_goals rfl
                  rw [EE]
                  exact ⟨_, rfl, ⟨bm, rfl, HX162.out⟩, HP161.out, HG161.out⟩
                | true =>
                  have HB132 := Lib.hid hB132
                  have HGQ : Hid (∀ W, Calls Tryz.prog 78 #[nxV (tkn v (k + 1)), .string ⟨#[91]⟩] W fun e w' => e = .returned (.bool true) ∧ Below W.heap.size W w') := Lib.hid (by rw [← hB132]; exact hg)
                  clear hB132 hg
                  go_wp2_with fail
                  refine (HGQ.out _).mono ?_
                  rintro e w163 ⟨rfl, hb⟩
                  have HP163 := Lib.hid (HP159.out.below hb); have HG163 := Lib.hid (gb_trans HG159.out (gbOfB hb))
                  have HX164 := Lib.hid (HX160.out.keep (gbOfB (g := g) hb) HL.out.1)
                  clear hb HP159 HG159 HX160
                  clear HGQ
                  have HA2 : Hid (isS v k ⟨#[46]⟩ = true ∧ isS v (k + 1) ⟨#[91]⟩ = true) := Lib.hid ⟨HS132.out, HB132.out⟩
                  have hc165 := syNeed hA.out.k HP163.out ⟨#[46]⟩
                  rw [show ned v ⟨#[46]⟩ k = .ok () (k + 1) from if_pos HS132.out] at hc165
                  have HC165 := Lib.hid hc165
                  clear hc165
                  go_wp2_with fail
                  refine HC165.out.mono ?_
                  rintro e w166 ⟨u, rfl, hv, hp, hb⟩
                  obtain rfl := hv
                  have HP166 := Lib.hid hp; have HG166 := Lib.hid (gb_trans HG163.out hb)
                  have HX167 := Lib.hid (HX164.out.keep hb HL.out.1)
                  clear hp hb HC165 HP163 HG163 HX164
                  have HRN : Hid (postL v K pp f (m) (k + 1) = R) := Lib.hid (by
                                      rw [← HRL.out]
                                      symm
                                      rw [postL]
                                      rw [if_neg HS103.out]
                                      rw [if_neg (by rw [HS116.out]; decide)]
                                      rw [if_neg (by rw [HS124.out]; decide)]
                                      rw [if_neg HA1.out]
                                      rw [if_pos HA2.out]
                                      all_goals rfl)
                  have HDN : Hid (i < k + 1 ∧ dpt (m) + 4 * i ≤ 4 * (k + 1)) := Lib.hid (by have := HD.out; omega)
                  go_wp2
                  go_roundg f
                  case measure => omega
                  case rel => exact ⟨m, bm, k + 1, by have := HAL.out; have := HJ0.out; have := HDI.out; have := HJ132.out; omega, rfl, HX167, HP166, HG166, HRN, HDN⟩
  · have HG := Lib.hid hb
    have HE : Hid (R = Rs.err a er) := Lib.hid HR.out.symm
    clear ho hb HI HR
    go_wp2
    refine ⟨rfl, ?_⟩
    rw [HE.out]
    exact ⟨rfl, HG.out⟩
end Go.Proofs.YtpgiljibicigeaaGreatDoor
