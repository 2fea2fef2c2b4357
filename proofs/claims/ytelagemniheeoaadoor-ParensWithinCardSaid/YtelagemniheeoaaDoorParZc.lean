/- parens: the document's Enclose, Size walked. -/
import Derived.Test.YtelagemniheeoaaDoorParZb
namespace Go.Proofs.YtelagemniheeoaaDoor
open Go.RowKit BM

set_option maxHeartbeats 4000000 in
theorem REnclose_any (a : Option Addr) (c : Nat) (f : Nat → Bool) (n : Nat) (i : Int) (w : World) (hr : RdF w a f n) (hn : n ≤ 768) : Calls Tryd.prog 27 #[.slice a n c, .int .i64 i] w (ResI (enc f n i) w) := by
  by_cases hi0 : i < 0
  · have HE : Hid (enc f n i = -1) := Lib.hid (by unfold enc hasB; rw [if_neg]; simp; omega)
    rw [HE.out]
    clear hr
    go_enter Tryd.func27, Tryd.ntmps27
    go_wp2
    go_ret
    exact ⟨rfl, Below.refl _ _⟩
  by_cases hin : (n : Int) ≤ i
  · have HE : Hid (enc f n i = -1) := Lib.hid (by unfold enc hasB; rw [if_neg]; simp; omega)
    rw [HE.out]
    clear hr
    go_enter Tryd.func27, Tryd.ntmps27
    go_wp2
    go_ret
    exact ⟨rfl, Below.refl _ _⟩
  obtain ⟨m, rfl⟩ : ∃ m : Nat, i = m := ⟨i.toNat, by omega⟩
  have hm : m < n := by omega
  have HCL := Lib.hid (Closes_any a c f n w hr hn (by omega))
  have HRF0 := Lib.hid (fun W (hb : Below w.heap.size w W) => hr.below hb)
  obtain ⟨b0, off0, rfl, hc0⟩ := hr m hm
  have HIS : Hid (∀ k : Nat, k < m → f k = true → enE f n m < cls f n k → (∀ j : Nat, k < j → j < m → f j = true → cls f n j ≤ enE f n m) → enc f n m = k) := Lib.hid (fun k h1 h2 h3 h4 => enc_is hm h1 h2 h3 h4)
  have HNO : Hid ((∀ j : Nat, j < m → f j = true → cls f n j ≤ enE f n m) → enc f n m = -1) := Lib.hid (fun h => enc_not hm h)
  have hED : enE f n m = if (m : Int) < cls f n m then cls f n m else m := rfl
  have hge := enE_ge f n m
  have hcb : cls f n m < n := by rcases cls_bd f n m with h | ⟨_, _, h, _⟩ <;> omega
  generalize enc f n m = res at *
  generalize enE f n m = E at *
  clear hr hc0
  go_enter Tryd.func27, Tryd.ntmps27
  go_wp2_with fail
  refine HCL.out.mono ?_
  rintro r w1 ⟨la, lc, rfl, hrv, hb1⟩
  have HRF := Lib.hid (HRF0.out w1 hb1)
  have HRV := Lib.hid hrv
  have HB1 := Lib.hid hb1
  obtain ⟨lb, lo, rfl, hcm⟩ := hrv _ _ (iv8_get (clsL_get (f := f) hm))
  clear hb1 hrv HRF0 HCL
  by_cases hmc : (m : Int) < cls f n m
  · rw [if_pos hmc] at hED
    rw [← hED] at hcm hmc hcb
    clear hED
    · go_wp2_with fail

      go_loopw [7] (fun s7 wr => ∃ x : Int, s7 = .int .i64 x ∧ -1 ≤ x ∧ x < m ∧ Hid (∀ j : Nat, x < j → j < m → f j = true → cls f n j ≤ E) ∧ w1 = wr) (fun s7 _ => (intOf s7 + 1).toNat)
      case atStart => exact ⟨(m : Int) - 1, by first | rfl | go_num, by omega, by omega, Lib.hid (fun j h1 h2 => by omega), rfl⟩
      case round =>
        obtain ⟨x, rfl, hx1, hx2, HN, rfl⟩ := hrel
        by_cases hx : 0 ≤ x
        · obtain ⟨j, rfl⟩ : ∃ j : Nat, x = j := ⟨x.toNat, by omega⟩
          have hjm : j < m := by omega
          have hd : decide (j < n) = true := by simp; omega
          obtain ⟨b1, off1, he1, hc⟩ := HRF.out j (by omega)
          obtain ⟨rfl, rfl⟩ : b0 = b1 ∧ off0 = off1 := by simpa using he1
          obtain ⟨lb1, lo1, he2, hcl⟩ := HRV.out _ _ (iv8_get (clsL_get (f := f) (show j < n by omega)))
          obtain ⟨rfl, rfl⟩ : lb = lb1 ∧ lo = lo1 := by simpa using he2
          cases hf : f j with
          | true =>
            rw [hf] at hc
            by_cases hEc : E < cls f n j
            · have HC : Hid (res = (j : Int)) := Lib.hid (HIS.out j hjm hf hEc (fun q h1 h2 h3 => HN.out q (by omega) h2 h3))
              generalize cls f n j = cj at *
              clear hf he1 he2
              go_wp2
              go_ret
              exact ⟨ret_int HC.out.symm, HB1.out⟩
            · have HN2 : Hid (∀ q : Nat, (j : Int) - 1 < q → q < m → f q = true → cls f n q ≤ E) := Lib.hid (fun q h1 h2 h3 => by
                by_cases hq : q = j
                · rw [hq]; omega
                · exact HN.out q (by omega) h2 h3)
              generalize cls f n j = cj at *
              clear hf he1 he2
              go_wp2
              go_roundw
              case rel => exact ⟨(j : Int) - 1, by first | rfl | go_num, by omega, by omega, HN2, by first | rfl | trivial⟩
              case measure => (simp [intOf]; try omega)
          | false =>
            rw [hf] at hc
            have HN2 : Hid (∀ q : Nat, (j : Int) - 1 < q → q < m → f q = true → cls f n q ≤ E) := Lib.hid (fun q h1 h2 h3 => by
              by_cases hq : q = j
              · rw [hq, hf] at h3; cases h3
              · exact HN.out q (by omega) h2 h3)
            generalize cls f n j = cj at *
            clear hf he1 he2
            go_wp2
            go_roundw
            case rel => exact ⟨(j : Int) - 1, by first | rfl | go_num, by omega, by omega, HN2, by first | rfl | trivial⟩
            case measure => (simp [intOf]; try omega)
        · have HC : Hid (res = -1) := Lib.hid (HNO.out (fun q h1 h2 => HN.out q (by omega) h1 h2))
          go_wp2
          go_ret
          exact ⟨ret_int HC.out.symm, HB1.out⟩

  · rw [if_neg hmc] at hED
    subst hED
    generalize cls f n m = cm at *
    · go_wp2_with fail

      go_loopw [7] (fun s7 wr => ∃ x : Int, s7 = .int .i64 x ∧ -1 ≤ x ∧ x < m ∧ Hid (∀ j : Nat, x < j → j < m → f j = true → cls f n j ≤ (m : Int)) ∧ w1 = wr) (fun s7 _ => (intOf s7 + 1).toNat)
      case atStart => exact ⟨(m : Int) - 1, by first | rfl | go_num, by omega, by omega, Lib.hid (fun j h1 h2 => by omega), rfl⟩
      case round =>
        obtain ⟨x, rfl, hx1, hx2, HN, rfl⟩ := hrel
        by_cases hx : 0 ≤ x
        · obtain ⟨j, rfl⟩ : ∃ j : Nat, x = j := ⟨x.toNat, by omega⟩
          have hjm : j < m := by omega
          have hd : decide (j < n) = true := by simp; omega
          obtain ⟨b1, off1, he1, hc⟩ := HRF.out j (by omega)
          obtain ⟨rfl, rfl⟩ : b0 = b1 ∧ off0 = off1 := by simpa using he1
          obtain ⟨lb1, lo1, he2, hcl⟩ := HRV.out _ _ (iv8_get (clsL_get (f := f) (show j < n by omega)))
          obtain ⟨rfl, rfl⟩ : lb = lb1 ∧ lo = lo1 := by simpa using he2
          cases hf : f j with
          | true =>
            rw [hf] at hc
            by_cases hEc : (m : Int) < cls f n j
            · have HC : Hid (res = (j : Int)) := Lib.hid (HIS.out j hjm hf hEc (fun q h1 h2 h3 => HN.out q (by omega) h2 h3))
              generalize cls f n j = cj at *
              clear hf he1 he2
              go_wp2
              go_ret
              exact ⟨ret_int HC.out.symm, HB1.out⟩
            · have HN2 : Hid (∀ q : Nat, (j : Int) - 1 < q → q < m → f q = true → cls f n q ≤ (m : Int)) := Lib.hid (fun q h1 h2 h3 => by
                by_cases hq : q = j
                · rw [hq]; omega
                · exact HN.out q (by omega) h2 h3)
              generalize cls f n j = cj at *
              clear hf he1 he2
              go_wp2
              go_roundw
              case rel => exact ⟨(j : Int) - 1, by first | rfl | go_num, by omega, by omega, HN2, by first | rfl | trivial⟩
              case measure => (simp [intOf]; try omega)
          | false =>
            rw [hf] at hc
            have HN2 : Hid (∀ q : Nat, (j : Int) - 1 < q → q < m → f q = true → cls f n q ≤ (m : Int)) := Lib.hid (fun q h1 h2 h3 => by
              by_cases hq : q = j
              · rw [hq, hf] at h3; cases h3
              · exact HN.out q (by omega) h2 h3)
            generalize cls f n j = cj at *
            clear hf he1 he2
            go_wp2
            go_roundw
            case rel => exact ⟨(j : Int) - 1, by first | rfl | go_num, by omega, by omega, HN2, by first | rfl | trivial⟩
            case measure => (simp [intOf]; try omega)
        · have HC : Hid (res = -1) := Lib.hid (HNO.out (fun q h1 h2 => HN.out q (by omega) h1 h2))
          go_wp2
          go_ret
          exact ⟨ret_int HC.out.symm, HB1.out⟩

set_option maxHeartbeats 1000000 in
theorem RSize_any (a : Option Addr) (c : Nat) (f : Nat → Bool) (n : Nat) (i : Int) (w : World) (hr : RdF w a f n) (hn : n ≤ 768) : Calls Tryd.prog 29 #[.slice a n c, .int .i64 i] w fun e w' => e = .returned (.int .i64 (siz f n i)) ∧ w = w' := by
  have HC := Lib.hid (RClose_any a c f n i w hr hn)
  have HR := Lib.hid hr
  clear hr
  by_cases h0 : cls f n i < 0
  · have HS : Hid (siz f n i = 0) := Lib.hid (by unfold siz; rw [if_pos h0])
    rw [HS.out]
    generalize cls f n i = e at *
    go_enter Tryd.func29, Tryd.ntmps29
    go_wp2_with (refine HC.out.mono ?_; rintro r w2 ⟨rfl, rfl⟩)
    go_ret
    exact ⟨rfl, rfl⟩
  · obtain ⟨k, e, rfl, he, hC⟩ := cls_nat (show 0 ≤ cls f n i by omega)
    have HS := Lib.hid (siz_rk hC)
    have hke := hC.lt
    have hen := hC.ltn
    rw [he] at HC
    generalize siz f n k = res at *
    clear he h0 hC
    go_enter Tryd.func29, Tryd.ntmps29
    go_wp2_with (refine HC.out.mono ?_; rintro r w2 ⟨rfl, rfl⟩)
    go_loopw [6, 7] (fun s6 s7 wr => ∃ (j d : Nat), s7 = .int .i64 j ∧ k ≤ j ∧ j ≤ e ∧ s6 = .int .i64 d ∧ d ≤ 768 ∧ Hid (d + rk f k = rk f j) ∧ w = wr) (fun _ s7 _ => e - (intOf s7).toNat)
    case atStart => exact ⟨k, 0, rfl, Nat.le_refl _, by omega, rfl, by omega, Lib.hid (by omega), rfl⟩
    case round =>
      obtain ⟨j, d, rfl, hkj, hje, rfl, hd7, HD, rfl⟩ := hrel
      by_cases hlt : j < e
      · have hd : decide (j < n) = true := by simp; omega
        obtain ⟨b, off, rfl, hc⟩ := HR.out j (by omega)
        have hb := rk_le f (j + 1)
        have HS1 := rk_succ f j
        have hD := HD.out
        cases hf : f j with
        | true =>
          rw [hf] at hc HS1
          have HD2 : Hid ((d + 1) + rk f k = rk f (j + 1)) := Lib.hid (by rw [HS1]; simp; omega)
          have hd8 : d + 1 ≤ 768 := by have := HD2.out; omega
          clear hf hb HS1 hD
          go_wp2
          go_roundw
          case rel => exact ⟨j + 1, d + 1, by go_num, by omega, by omega, by go_num, hd8, HD2, by first | rfl | trivial⟩
          case measure => simp [intOf]; omega
        | false =>
          rw [hf] at hc HS1
          have HD2 : Hid (d + rk f k = rk f (j + 1)) := Lib.hid (by rw [HS1]; simp; omega)
          clear hf hb HS1 hD
          go_wp2
          go_roundw
          case rel => exact ⟨j + 1, d, by go_num, by omega, by omega, rfl, hd7, HD2, by first | rfl | trivial⟩
          case measure => simp [intOf]; omega
      · obtain rfl : j = e := by omega
        have HQ : Hid (res = (d : Int)) := Lib.hid (by have := HS.out; have := HD.out; omega)
        clear hlt
        go_wp2
        go_ret
        exact ⟨ret_int HQ.out.symm, rfl⟩
end Go.Proofs.YtelagemniheeoaaDoor
