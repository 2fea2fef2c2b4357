/- parens: the document's Child walked. -/
import Derived.Test.YtelagemniheeoaaDoorParZc
namespace Go.Proofs.YtelagemniheeoaaDoor
open Go.RowKit BM

set_option maxHeartbeats 4000000 in
theorem RChild_any (a : Option Addr) (c : Nat) (f : Nat → Bool) (n : Nat) (i k : Int) (w : World) (hr : RdF w a f n) (hn : n ≤ 768) (hk : -9223372036854775808 ≤ k ∧ k ≤ 9223372036854775807) : Calls Tryd.prog 31 #[.slice a n c, .int .i64 i, .int .i64 k] w (ResI (chl f n i k) w) := by
  have HC := Lib.hid (RClose_any a c f n i w hr hn)
  have HR := Lib.hid (fun W (hb : Below w.heap.size w W) => hr.below hb)
  clear hr
  by_cases h0 : cls f n i < 0
  · have HS : Hid (chl f n i k = -1) := Lib.hid (chl_none (Or.inl h0))
    rw [HS.out]
    generalize cls f n i = e at *
    go_enter Tryd.func31, Tryd.ntmps31
    go_wp2_with (refine HC.out.mono ?_; rintro r w2 ⟨rfl, rfl⟩)
    go_ret
    exact ⟨rfl, Below.refl _ _⟩
  by_cases hk0 : k < 0
  · have HS : Hid (chl f n i k = -1) := Lib.hid (chl_none (Or.inr hk0))
    rw [HS.out]
    generalize cls f n i = e at *
    go_enter Tryd.func31, Tryd.ntmps31
    go_wp2_with (refine HC.out.mono ?_; rintro r w2 ⟨rfl, rfl⟩)
    go_ret
    exact ⟨rfl, Below.refl _ _⟩
  obtain ⟨m, e, rfl, he, hC⟩ := cls_nat (show 0 ≤ cls f n i by omega)
  obtain ⟨K, rfl⟩ : ∃ K : Nat, k = K := ⟨k.toNat, by omega⟩
  have HCC := Lib.hid hC
  have hme := hC.lt
  have hen := hC.ltn
  have hK : (K : Int) ≤ 9223372036854775807 := hk.2
  rw [he] at HC
  have HST := Lib.hid (Kds.start (K := K) hC)
  have HCH : Hid (∀ (q : Nat) (kk : Int), Kds f n m e K q kk → q < e → f q = true → enc f n q = m → (kk = 0 → chl f n m K = q) ∧ (kk ≠ 0 → Kds f n m e K (q + 1) (kk - 1))) := Lib.hid (fun q kk h1 h2 h3 h4 => h1.child hC h2 h3 h4)
  have HOV : Hid (∀ kk : Int, Kds f n m e K e kk → chl f n m K = -1) := Lib.hid (fun kk h => h.over hC)
  generalize chl f n m K = res at *
  clear he h0 hC hk hk0
  go_enter Tryd.func31, Tryd.ntmps31
  go_wp2_with (refine HC.out.mono ?_; rintro r w2 ⟨rfl, rfl⟩)
  go_loopw [8, 2] (fun s8 s2 wr => ∃ (q : Nat) (kk : Int), s8 = .int .i64 q ∧ m + 1 ≤ q ∧ q ≤ e ∧ s2 = .int .i64 kk ∧ Hid (Kds f n m e K q kk) ∧ Hid (Below w.heap.size w wr)) (fun s8 _ _ => e - (intOf s8).toNat)
  case atStart => exact ⟨m + 1, K, by go_num, Nat.le_refl _, by omega, rfl, HST, Lib.hid (Below.refl _ _)⟩
  case round =>
    obtain ⟨q, kk, rfl, hmq, hqe, rfl, HKD, HB⟩ := hrel
    have hkk := HKD.out.nn
    have hk1 : kk ≤ 9223372036854775807 := by omega
    have hk2 : 0 ≤ kk := hkk.1
    clear hkk
    by_cases hlt : q < e
    · have hd : decide (q < n) = true := by simp; omega
      obtain ⟨b, off, rfl, hc⟩ := HR.out wr HB.out q (by omega)
      cases hf : f q with
      | true =>
        rw [hf] at hc
        have HE := Lib.hid (REnclose_any (some ⟨b, off, none⟩) c f n q wr (HR.out wr HB.out) hn)
        by_cases he : enc f n q = m
        · obtain ⟨hx0, hx1⟩ := HCH.out q kk HKD.out hlt hf he
          rw [he] at HE
          by_cases hz : kk = 0
          · have HQ := Lib.hid (hx0 hz)
            subst hz
            clear hf he hx0 hx1
            go_wp2_with (refine HE.out.mono ?_; rintro r w3 ⟨rfl, hb3⟩)
            go_ret
            exact ⟨ret_int HQ.out.symm, HB.out.trans (hb3.mono HB.out.size)⟩
          · have HQ := Lib.hid (hx1 hz)
            have hzb : (kk == 0) = false := by simp; omega
            clear hf he hx0 hx1
            go_wp2_with (refine HE.out.mono ?_; rintro r w3 ⟨rfl, hb3⟩)
            have HB3 := Lib.hid (HB.out.trans (hb3.mono HB.out.size))
            go_roundw
            case rel => exact ⟨q + 1, kk - 1, by go_num, by omega, by omega, by first | rfl | go_num, HQ, HB3⟩
            case measure => simp [intOf]; omega
        · have HQ := Lib.hid (HKD.out.skip HCC.out hlt (fun _ => he))
          have hzb : (enc f n q == (m : Int)) = false := by simpa using he
          generalize enc f n q = en at *
          clear hf he
          go_wp2_with (refine HE.out.mono ?_; rintro r w3 ⟨rfl, hb3⟩)
          have HB3 := Lib.hid (HB.out.trans (hb3.mono HB.out.size))
          go_roundw
          case rel => exact ⟨q + 1, kk, by go_num, by omega, by omega, rfl, HQ, HB3⟩
          case measure => simp [intOf]; omega
      | false =>
        rw [hf] at hc
        have HQ := Lib.hid (HKD.out.skip HCC.out hlt (fun h => by rw [hf] at h; cases h))
        clear hf
        go_wp2
        go_roundw
        case rel => exact ⟨q + 1, kk, by go_num, by omega, by omega, rfl, HQ, HB⟩
        case measure => simp [intOf]; omega
    · obtain rfl : q = e := by omega
      have HQ := Lib.hid (HOV.out kk HKD.out)
      clear hlt
      go_wp2
      go_ret
      exact ⟨ret_int HQ.out.symm, HB.out⟩
end Go.Proofs.YtelagemniheeoaaDoor
