/- Walks: math/bits.Div64 in full. -/
import Derived.Test.YtimfpgpomafflaaGreatDoorLimbM
import Derived.Test.YtimfpgpomafflaaGreatDoorLimbMathQ
import Derived.Laws.MathBits
import Derived.Laws.BitsAllLaws
import Derived.Test.YtimfpgpomafflaaGreatDoorShelfQ
import Derived.IntWalk
namespace Go.Proofs.YtimfpgpomafflaaGreatDoor
open Go.RowKit LM LK

/-- how far a divisor is shifted -/
theorem lead {y : Nat} (h0 : 0 < y) (h : y ≤ 18446744073709551615) : ∃ s : Nat, s ≤ 63 ∧ (64 - (Lib.bitLen ((y : Int)).toNat : Int)) = (s : Int) ∧ 9223372036854775808 ≤ y * 2 ^ s ∧ y * 2 ^ s < 18446744073709551616 := by
  have hb := Lib.bitLenAux_bounds 64 y (by rw [show (2 : Nat) ^ 64 = 18446744073709551616 by decide]; omega) (by omega)
  have hle : Lib.bitLenAux 64 y ≤ 64 := by
    rcases Nat.lt_or_ge 64 (Lib.bitLenAux 64 y) with h1 | h1
    · exfalso
      have : 2 ^ 64 ≤ 2 ^ (Lib.bitLenAux 64 y - 1) := Nat.pow_le_pow_right (by omega) (by omega)
      rw [show (2 : Nat) ^ 64 = 18446744073709551616 by decide] at this
      omega
    · exact h1
  obtain ⟨b1, b2, b3⟩ := hb
  have e1 : (Lib.bitLen ((y : Int)).toNat) = Lib.bitLenAux 64 y := by rw [Int.toNat_natCast]; rfl
  rw [e1]
  generalize Lib.bitLenAux 64 y = L at *
  refine ⟨64 - L, by omega, by omega, ?_, ?_⟩
  · have h2 : 2 ^ (L - 1) * 2 ^ (64 - L) ≤ y * 2 ^ (64 - L) := Nat.mul_le_mul_right _ b2
    rw [← Nat.pow_add, show L - 1 + (64 - L) = 63 by omega, show (2 : Nat) ^ 63 = 9223372036854775808 by decide] at h2
    exact h2
  · have h2 : y * 2 ^ (64 - L) < 2 ^ L * 2 ^ (64 - L) := Nat.mul_lt_mul_of_pos_right b3 (Nat.pow_pos (by omega))
    rw [← Nat.pow_add, show L + (64 - L) = 64 by omega, show (2 : Nat) ^ 64 = 18446744073709551616 by decide] at h2
    exact h2

theorem wnn (n : Int) : 0 ≤ IntKind.u64.wrap n := by rw [IntKind.wrap_u64]; exact Int.emod_nonneg _ (by decide)
def DivPost (hi lo y : Nat) (w : World) (e : Ending) (w' : World) : Prop := ∃ q r : Nat, Hid (q = (hi * two64 + lo) / y) ∧ e = .returned (.tuple #[.int .u64 q, .int .u64 r]) ∧ Below w.heap.size w w'
theorem dret {hi lo y q1 q0 : Nat} {w w' : World} {e : Ending} {qI rI : Int} (h : q1 * 4294967296 + q0 = (hi * two64 + lo) / y) (hq : qI = ((q1 * 4294967296 + q0 : Nat) : Int)) (hr : 0 ≤ rI) (he : e = .returned (.tuple #[.int .u64 qI, .int .u64 rI])) (hb : Below w.heap.size w w') :
    DivPost hi lo y w e w' := by
  subst hq he
  exact ⟨_, rI.toNat, h, by rw [Int.toNat_of_nonneg hr], hb⟩

set_option maxHeartbeats 16000000 in
set_option maxRecDepth 100000 in
theorem Div64_full : DivP 18446744073709551615 := by
  intro hi lo y w hT hhy hy64 hlo
  rcases Nat.eq_zero_or_pos hi with h0 | h0
  · exact Div64_zero hi lo y w (by omega) hhy hy64 hlo
  · obtain ⟨s, hs, hsI, hY1, hY2⟩ := lead (y := y) (by omega) hy64
    have hL := fun W => Tryz.bits_LeadingZeros64 (y : Int) W (by omega) (by omega)
    rw [hsI] at hL
    have HL := Lib.hid hL
    have hyI0 : 0 < (y : Int) := by omega
    have hyB : ((y : Int) == 0) = false := by simp; omega
    have hhB : ((hi : Int) == 0) = false := by simp; omega
    have hle : ¬ (y : Int) ≤ (hi : Int) := by omega
    clear hL hsI
    have hU0 := shifted_lt (hi := hi) (lo := lo) (y := y) (s := s) (by omega) hhy (by omega)
    have hlp := low_part (lo := lo) (s := s) (by omega) (by omega)
    have hwh := fun U A u1 u0 q1 R q0 => @whole hi lo y s U A u1 u0 q1 R q0 (by omega) (by omega)
    obtain ⟨Y, hYe⟩ : ∃ Y, Y = y * 2 ^ s := ⟨_, rfl⟩
    obtain ⟨U, hUe⟩ : ∃ U, U = hi * 2 ^ s + lo / 2 ^ (64 - s) := ⟨_, rfl⟩
    obtain ⟨A, hAe⟩ : ∃ A, A = lo * 2 ^ s % 18446744073709551616 := ⟨_, rfl⟩
    have e5 : (y : Int) * 2 ^ s = (Y : Int) := by rw [hYe]; simp
    have e2 : bits BinOp.or IntKind.u64 (IntKind.u64.wrap ((hi : Int) * 2 ^ s)) ((lo : Int) / 2 ^ (64 - s)) = (U : Int) := by
      have hh : hi * 2 ^ s < 18446744073709551616 := by
        have : hi * 2 ^ s ≤ y * 2 ^ s := Nat.mul_le_mul_right _ (Nat.le_of_lt hhy)
        omega
      have hl2 : lo / 2 ^ (64 - s) ≤ lo := Nat.div_le_self _ _
      have e1 : IntKind.u64.wrap ((hi : Int) * 2 ^ s) = ((hi * 2 ^ s : Nat) : Int) := by
        rw [show (hi : Int) * 2 ^ s = ((hi * 2 ^ s : Nat) : Int) by simp]
        rw [IntKind.wrap_u64]; omega
      have e4 : (lo : Int) / 2 ^ (64 - s) = ((lo / 2 ^ (64 - s) : Nat) : Int) := by simp
      rw [e1, e4, u64_or_nat _ _ hh (by omega), or_add hlp, ← hUe]
    have e3 : IntKind.u64.wrap ((lo : Int) * 2 ^ s) = (A : Int) := by
      rw [show (lo : Int) * 2 ^ s = ((lo * 2 ^ s : Nat) : Int) by simp, IntKind.wrap_u64, hAe]; simp
    rw [← hYe] at hY1 hY2 hU0 hwh
    rw [← hUe] at hU0
    have hA64 : A < 18446744073709551616 := by rw [hAe]; exact Nat.mod_lt _ (by decide)
    have HUE := Lib.hid hUe; have HAE := Lib.hid hAe; have HWH := Lib.hid hwh; have HYE := Lib.hid hYe
    clear hUe hAe hwh hYe hlp
    obtain ⟨y1, h1e⟩ : ∃ y1, y1 = Y / 4294967296 := ⟨_, rfl⟩
    obtain ⟨y0, h0e⟩ : ∃ y0, y0 = Y % 4294967296 := ⟨_, rfl⟩
    obtain ⟨u1, h2e⟩ : ∃ u1, u1 = A / 4294967296 := ⟨_, rfl⟩
    obtain ⟨u0, h3e⟩ : ∃ u0, u0 = A % 4294967296 := ⟨_, rfl⟩
    have e6 : (Y : Int) / 4294967296 = (y1 : Int) := by omega
    have e7 : bits BinOp.and IntKind.u64 (Y : Int) 4294967295 = (y0 : Int) := by rw [and_low32 _ (by omega) (by omega)]; omega
    have e8 : (A : Int) / 4294967296 = (u1 : Int) := by omega
    have e9 : bits BinOp.and IntKind.u64 (A : Int) 4294967295 = (u0 : Int) := by rw [and_low32 _ (by omega) (by omega)]; omega
    have hy1a : 2147483648 ≤ y1 := by omega
    have hy1b : y1 ≤ 4294967295 := by omega
    have hy0b : y0 ≤ 4294967295 := by omega
    have hu1b : u1 ≤ 4294967295 := by omega
    have hu0b : u0 ≤ 4294967295 := by omega
    have hYs : Y = y1 * 4294967296 + y0 := by omega
    have HYS := Lib.hid hYs
    have H2E := Lib.hid h2e; have H3E := Lib.hid h3e
    have hUb : U ≤ 18446744073709551615 := by omega
    have hAb : A ≤ 18446744073709551615 := by omega
    have hYb : Y ≤ 18446744073709551615 := by omega
    clear h1e h0e h2e h3e hYs hA64
    obtain ⟨q, hqe⟩ : ∃ q, q = U / y1 := ⟨_, rfl⟩
    obtain ⟨s1, s2, s3, s4⟩ := est_start (b := 4294967296) (U := U) (u1 := u1) HYS.out (by omega) (by omega) hU0 (by omega)
    rw [← hqe] at s1 s2 s3 s4
    have e10 : (U : Int) / (y1 : Int) = (q : Int) := by rw [hqe]; simp
    clear hqe
    have hqle : q * y1 ≤ U := by omega
    obtain ⟨Q1, hQ1⟩ : ∃ Q1, Q1 = (U * 4294967296 + u1) / Y := ⟨_, rfl⟩
    have hQ1b : Q1 ≤ 4294967295 := by have := quo_lt (b := 4294967296) (U := U) (u1 := u1) (y := Y) (by omega) hU0 (by omega); omega
    have hRY := rest_lt (b := 4294967296) (U := U) (u1 := u1) (y := Y) (q1 := Q1) (by omega) hQ1
    have hQle : Q1 * Y ≤ U * 4294967296 + u1 := by rw [hQ1]; exact Nat.div_mul_le_self _ _
    obtain ⟨R, hRe⟩ : ∃ R, R = U * 4294967296 + u1 - Q1 * Y := ⟨_, rfl⟩
    rw [← hRe] at hRY
    have e12 : IntKind.u64.wrap (IntKind.u64.wrap (IntKind.u64.wrap ((U : Int) * 4294967296) + (u1 : Int)) - IntKind.u64.wrap ((Q1 : Int) * (Y : Int))) = (R : Int) := by
      rw [IntKind.wrap_u64, IntKind.wrap_u64, IntKind.wrap_u64, IntKind.wrap_u64]
      refine wrap_rest ?_ (by omega) (by omega)
      rw [← Int.natCast_mul]; omega
    obtain ⟨p, hpe⟩ : ∃ p, p = R / y1 := ⟨_, rfl⟩
    obtain ⟨t1, t2, t3, t4⟩ := est_start (b := 4294967296) (U := R) (u1 := u0) HYS.out (by omega) (by omega) hRY (by omega)
    rw [← hpe] at t1 t2 t3 t4
    have e13 : (R : Int) / (y1 : Int) = (p : Int) := by rw [hpe]; simp
    have hpqle : p * y1 ≤ R := by omega
    obtain ⟨Q0, hQ0⟩ : ∃ Q0, Q0 = (R * 4294967296 + u0) / Y := ⟨_, rfl⟩
    have hQ0b : Q0 ≤ 4294967295 := by have := quo_lt (b := 4294967296) (U := R) (u1 := u0) (y := Y) (by omega) hRY (by omega); omega
    have hwf : Q1 * 4294967296 + Q0 = (hi * two64 + lo) / y := HWH.out U A u1 u0 Q1 R Q0 HUE.out HAE.out H2E.out H3E.out hQ1 hRe hQ0
    have hRb : R ≤ 18446744073709551615 := by omega
    have HQ1 := Lib.hid hQ1; have HQ0 := Lib.hid hQ0; have HWF := Lib.hid hwf; have HT3 := Lib.hid t3
    clear hQ1 hQ0 hRe hpe hwf HWH t3 hQle
    show Calls Tryz.prog 128 #[.int .u64 hi, .int .u64 lo, .int .u64 y] w (DivPost hi lo y w)
    go_enter Tryz.func128, Tryz.ntmps128
    go_wp2_with fail
    refine (HL.out w).mono ?_
    rintro e w1 ⟨rfl, hw1⟩
    subst hw1
    go_wp2_with fail
    go_loop [15, 16] (fun v15 v16 => ∃ q r : Nat, v15 = .int .u64 q ∧ v16 = .int .u64 r ∧ q ≤ 4294967297 ∧ r ≤ 4294967295 ∧ Hid (q * y1 + r = U) ∧ Q1 ≤ q) (fun v15 _ => (intOf v15).toNat)
    case atStart => exact ⟨q, U - q * y1, rfl, by rw [Int.natCast_sub hqle, Int.natCast_mul], by omega, by omega, s3, by rw [HQ1.out]; exact s1⟩
    case round =>
      obtain ⟨q, r, rfl, rfl, hq, hr, HS, hQq⟩ := hrel
      clear e10 hqle s1 s2 s3 s4
      by_cases h1 : q < 4294967296
      · have hgI : ¬ (4294967296 : Int) ≤ (q : Int) := by omega
        have hp0 : (0 : Int) ≤ (q : Int) * (y0 : Int) := by rw [← Int.natCast_mul]; omega
        have hpb : q * y0 ≤ 4294967295 * 4294967295 := Nat.mul_le_mul (by omega) hy0b
        have hp1 : (q : Int) * (y0 : Int) ≤ 18446744073709551615 := by rw [← Int.natCast_mul]; omega
        by_cases h2 : q * y0 ≤ 4294967296 * r + u1
        · have h2I : ¬ 4294967296 * (r : Int) + (u1 : Int) < (q : Int) * (y0 : Int) := by rw [← Int.natCast_mul]; omega
          have hqe : Q1 = q := by rw [HQ1.out]; exact (est_end HYS.out (by omega) HS.out (by rw [← HQ1.out]; exact hQq) h2).symm
          subst hqe
          clear hpb h2 HS
          go_wp2_with fail
          go_loop [16, 18] (fun v16 v18 => ∃ q r : Nat, v18 = .int .u64 q ∧ v16 = .int .u64 r ∧ q ≤ 4294967297 ∧ r ≤ 4294967295 ∧ Hid (q * y1 + r = R) ∧ Q0 ≤ q) (fun _ v18 => (intOf v18).toNat)
          case atStart => exact ⟨p, R - p * y1, rfl, by rw [Int.natCast_sub hpqle, Int.natCast_mul], by omega, by omega, HT3, by rw [HQ0.out]; exact t1⟩
          case round =>
            obtain ⟨q, r, rfl, rfl, hq, hr, HS, hQq⟩ := hrel
            clear e13 hpqle t1 t2 t4 HT3 e12
            by_cases h1 : q < 4294967296
            · have hgI : ¬ (4294967296 : Int) ≤ (q : Int) := by omega
              have hp0 : (0 : Int) ≤ (q : Int) * (y0 : Int) := by rw [← Int.natCast_mul]; omega
              have hpb : q * y0 ≤ 4294967295 * 4294967295 := Nat.mul_le_mul (by omega) hy0b
              have hp1 : (q : Int) * (y0 : Int) ≤ 18446744073709551615 := by rw [← Int.natCast_mul]; omega
              by_cases h2 : q * y0 ≤ 4294967296 * r + u0
              · have h2I : ¬ 4294967296 * (r : Int) + (u0 : Int) < (q : Int) * (y0 : Int) := by rw [← Int.natCast_mul]; omega
                have hqe : Q0 = q := by rw [HQ0.out]; exact (est_end HYS.out (by omega) HS.out (by rw [← HQ0.out]; exact hQq) h2).symm
                subst hqe
                clear hpb h2
                go_wp2
                go_ret2
                exact dret HWF.out (by omega) (Int.ediv_nonneg (wnn _) (Int.pow_nonneg (by decide))) rfl (Below.refl _ _)
              · have h2I : 4294967296 * (r : Int) + (u0 : Int) < (q : Int) * (y0 : Int) := by rw [← Int.natCast_mul]; omega
                obtain ⟨n1, n2⟩ := est_next HYS.out (by omega) HS.out (by rw [← HQ0.out]; exact hQq) (by omega : 4294967296 * r + u0 < q * y0)
                rw [← HQ0.out] at n1
                have hs2 : (q - 1) * y1 + (r + y1) = R := by have h3 := HS.out; have h4 : q = (q - 1) + 1 := (by omega); rw [h4, Nat.add_mul] at h3; omega
                have HS2 := Lib.hid hs2
                have hqb := est_big (b := 4294967296) (u1 := u0) (y0 := y0) (q := q - 1) (r := r + y1) (by omega) (by omega)
                have HQB := Lib.hid hqb
                clear hs2 hpb h2 hqb
                by_cases h3 : r + y1 < 4294967296
                · have h3I : ¬ (4294967296 : Int) ≤ (r : Int) + (y1 : Int) := by omega
                  go_wp2
                  go_round
                  case rel => exact ⟨q - 1, r + y1, by go_num, by go_num, by omega, by omega, HS2, n1⟩
                  case measure => simp [intOf]; omega
                · have h3I : (4294967296 : Int) ≤ (r : Int) + (y1 : Int) := by omega
                  have hqe : q = Q0 + 1 := by
                    have := est_end HYS.out (by omega) HS2.out (by rw [← HQ0.out]; exact n1) (HQB.out (by omega))
                    rw [← HQ0.out] at this; omega
                  have hqgf : (1 : Int) ≤ (q : Int) := by omega
                  have hqgh : (q : Int) ≤ 4294967296 := by omega
                  have HQF := Lib.hid hqe
                  clear n1 n2 hqe
                  go_wp2
                  go_ret2
                  exact dret HWF.out (by have := HQF.out; omega) (Int.ediv_nonneg (wnn _) (Int.pow_nonneg (by decide))) rfl (Below.refl _ _)
            · have hgI : (4294967296 : Int) ≤ (q : Int) := by omega
              have n1 : Q0 ≤ q - 1 := by omega
              have hs2 : (q - 1) * y1 + (r + y1) = R := by have h3 := HS.out; have h4 : q = (q - 1) + 1 := (by omega); rw [h4, Nat.add_mul] at h3; omega
              have HS2 := Lib.hid hs2
              have hqb := est_big (b := 4294967296) (u1 := u0) (y0 := y0) (q := q - 1) (r := r + y1) (by omega) (by omega)
              have HQB := Lib.hid hqb
              clear hs2 hqb
              by_cases h3 : r + y1 < 4294967296
              · have h3I : ¬ (4294967296 : Int) ≤ (r : Int) + (y1 : Int) := by omega
                go_wp2
                go_round
                case rel => exact ⟨q - 1, r + y1, by go_num, by go_num, by omega, by omega, HS2, n1⟩
                case measure => simp [intOf]; omega
              · have h3I : (4294967296 : Int) ≤ (r : Int) + (y1 : Int) := by omega
                have hqe : q = Q0 + 1 := by
                  have := est_end HYS.out (by omega) HS2.out (by rw [← HQ0.out]; exact n1) (HQB.out (by omega))
                  rw [← HQ0.out] at this; omega
                have hqgf : (1 : Int) ≤ (q : Int) := by omega
                have hqgh : (q : Int) ≤ 4294967296 := by omega
                have HQF := Lib.hid hqe
                clear n1 hqe
                go_wp2
                go_ret2
                exact dret HWF.out (by have := HQF.out; omega) (Int.ediv_nonneg (wnn _) (Int.pow_nonneg (by decide))) rfl (Below.refl _ _)
        · have h2I : 4294967296 * (r : Int) + (u1 : Int) < (q : Int) * (y0 : Int) := by rw [← Int.natCast_mul]; omega
          obtain ⟨n1, n2⟩ := est_next HYS.out (by omega) HS.out (by rw [← HQ1.out]; exact hQq) (by omega : 4294967296 * r + u1 < q * y0)
          rw [← HQ1.out] at n1
          have hs2 : (q - 1) * y1 + (r + y1) = U := by have h3 := HS.out; have h4 : q = (q - 1) + 1 := (by omega); rw [h4, Nat.add_mul] at h3; omega
          have HS2 := Lib.hid hs2
          have hqb := est_big (b := 4294967296) (u1 := u1) (y0 := y0) (q := q - 1) (r := r + y1) (by omega) (by omega)
          have HQB := Lib.hid hqb
          clear hs2 hpb h2 hqb
          by_cases h3 : r + y1 < 4294967296
          · have h3I : ¬ (4294967296 : Int) ≤ (r : Int) + (y1 : Int) := by omega
            go_wp2
            go_round
            case rel => exact ⟨q - 1, r + y1, by go_num, by go_num, by omega, by omega, HS2, n1⟩
            case measure => simp [intOf]; omega
          · have h3I : (4294967296 : Int) ≤ (r : Int) + (y1 : Int) := by omega
            have hqe : q = Q1 + 1 := by
              have := est_end HYS.out (by omega) HS2.out (by rw [← HQ1.out]; exact n1) (HQB.out (by omega))
              rw [← HQ1.out] at this; omega
            have e14 : IntKind.u64.wrap (IntKind.u64.wrap (IntKind.u64.wrap ((U : Int) * 4294967296) + (u1 : Int)) - IntKind.u64.wrap (((q : Int) - 1) * (Y : Int))) = (R : Int) := by rw [show (q : Int) - 1 = (Q1 : Int) by omega]; exact e12
            have hqge : (1 : Int) ≤ (q : Int) := by omega
            have hqgi : (q : Int) ≤ 4294967296 := by omega
            have HQE := Lib.hid hqe
            clear n1 n2 HS HS2 HQB hqe
            go_wp2_with fail
            go_loop [16, 18] (fun v16 v18 => ∃ q r : Nat, v18 = .int .u64 q ∧ v16 = .int .u64 r ∧ q ≤ 4294967297 ∧ r ≤ 4294967295 ∧ Hid (q * y1 + r = R) ∧ Q0 ≤ q) (fun _ v18 => (intOf v18).toNat)
            case atStart => exact ⟨p, R - p * y1, rfl, by rw [Int.natCast_sub hpqle, Int.natCast_mul], by omega, by omega, HT3, by rw [HQ0.out]; exact t1⟩
            case round =>
              obtain ⟨q2, r, rfl, rfl, hq, hr, HS, hQq⟩ := hrel
              clear e13 hpqle t1 t2 t4 HT3 e12
              by_cases h1 : q2 < 4294967296
              · have hgI : ¬ (4294967296 : Int) ≤ (q2 : Int) := by omega
                have hp0 : (0 : Int) ≤ (q2 : Int) * (y0 : Int) := by rw [← Int.natCast_mul]; omega
                have hpb : q2 * y0 ≤ 4294967295 * 4294967295 := Nat.mul_le_mul (by omega) hy0b
                have hp1 : (q2 : Int) * (y0 : Int) ≤ 18446744073709551615 := by rw [← Int.natCast_mul]; omega
                by_cases h2 : q2 * y0 ≤ 4294967296 * r + u0
                · have h2I : ¬ 4294967296 * (r : Int) + (u0 : Int) < (q2 : Int) * (y0 : Int) := by rw [← Int.natCast_mul]; omega
                  have hqe : Q0 = q2 := by rw [HQ0.out]; exact (est_end HYS.out (by omega) HS.out (by rw [← HQ0.out]; exact hQq) h2).symm
                  subst hqe
                  clear hpb h2
                  go_wp2
                  go_ret2
                  exact dret HWF.out (by have := HQE.out; omega) (Int.ediv_nonneg (wnn _) (Int.pow_nonneg (by decide))) rfl (Below.refl _ _)
                · have h2I : 4294967296 * (r : Int) + (u0 : Int) < (q2 : Int) * (y0 : Int) := by rw [← Int.natCast_mul]; omega
                  obtain ⟨n1, n2⟩ := est_next HYS.out (by omega) HS.out (by rw [← HQ0.out]; exact hQq) (by omega : 4294967296 * r + u0 < q2 * y0)
                  rw [← HQ0.out] at n1
                  have hs2 : (q2 - 1) * y1 + (r + y1) = R := by have h3 := HS.out; have h4 : q2 = (q2 - 1) + 1 := (by omega); rw [h4, Nat.add_mul] at h3; omega
                  have HS2 := Lib.hid hs2
                  have hqb := est_big (b := 4294967296) (u1 := u0) (y0 := y0) (q := q2 - 1) (r := r + y1) (by omega) (by omega)
                  have HQB := Lib.hid hqb
                  clear hs2 hpb h2 hqb
                  by_cases h3 : r + y1 < 4294967296
                  · have h3I : ¬ (4294967296 : Int) ≤ (r : Int) + (y1 : Int) := by omega
                    go_wp2
                    go_round
                    case rel => exact ⟨q2 - 1, r + y1, by go_num, by go_num, by omega, by omega, HS2, n1⟩
                    case measure => simp [intOf]; omega
                  · have h3I : (4294967296 : Int) ≤ (r : Int) + (y1 : Int) := by omega
                    have hqe : q2 = Q0 + 1 := by
                      have := est_end HYS.out (by omega) HS2.out (by rw [← HQ0.out]; exact n1) (HQB.out (by omega))
                      rw [← HQ0.out] at this; omega
                    have hqgf : (1 : Int) ≤ (q2 : Int) := by omega
                    have hqgh : (q2 : Int) ≤ 4294967296 := by omega
                    have HQF := Lib.hid hqe
                    clear n1 n2 hqe
                    go_wp2
                    go_ret2
                    exact dret HWF.out (by have := HQF.out; have := HQE.out; omega) (Int.ediv_nonneg (wnn _) (Int.pow_nonneg (by decide))) rfl (Below.refl _ _)
              · have hgI : (4294967296 : Int) ≤ (q2 : Int) := by omega
                have n1 : Q0 ≤ q2 - 1 := by omega
                have hs2 : (q2 - 1) * y1 + (r + y1) = R := by have h3 := HS.out; have h4 : q2 = (q2 - 1) + 1 := (by omega); rw [h4, Nat.add_mul] at h3; omega
                have HS2 := Lib.hid hs2
                have hqb := est_big (b := 4294967296) (u1 := u0) (y0 := y0) (q := q2 - 1) (r := r + y1) (by omega) (by omega)
                have HQB := Lib.hid hqb
                clear hs2 hqb
                by_cases h3 : r + y1 < 4294967296
                · have h3I : ¬ (4294967296 : Int) ≤ (r : Int) + (y1 : Int) := by omega
                  go_wp2
                  go_round
                  case rel => exact ⟨q2 - 1, r + y1, by go_num, by go_num, by omega, by omega, HS2, n1⟩
                  case measure => simp [intOf]; omega
                · have h3I : (4294967296 : Int) ≤ (r : Int) + (y1 : Int) := by omega
                  have hqe : q2 = Q0 + 1 := by
                    have := est_end HYS.out (by omega) HS2.out (by rw [← HQ0.out]; exact n1) (HQB.out (by omega))
                    rw [← HQ0.out] at this; omega
                  have hqgf : (1 : Int) ≤ (q2 : Int) := by omega
                  have hqgh : (q2 : Int) ≤ 4294967296 := by omega
                  have HQF := Lib.hid hqe
                  clear n1 hqe
                  go_wp2
                  go_ret2
                  exact dret HWF.out (by have := HQF.out; have := HQE.out; omega) (Int.ediv_nonneg (wnn _) (Int.pow_nonneg (by decide))) rfl (Below.refl _ _)
      · have hgI : (4294967296 : Int) ≤ (q : Int) := by omega
        have n1 : Q1 ≤ q - 1 := by omega
        have hs2 : (q - 1) * y1 + (r + y1) = U := by have h3 := HS.out; have h4 : q = (q - 1) + 1 := (by omega); rw [h4, Nat.add_mul] at h3; omega
        have HS2 := Lib.hid hs2
        have hqb := est_big (b := 4294967296) (u1 := u1) (y0 := y0) (q := q - 1) (r := r + y1) (by omega) (by omega)
        have HQB := Lib.hid hqb
        clear hs2 hqb
        by_cases h3 : r + y1 < 4294967296
        · have h3I : ¬ (4294967296 : Int) ≤ (r : Int) + (y1 : Int) := by omega
          go_wp2
          go_round
          case rel => exact ⟨q - 1, r + y1, by go_num, by go_num, by omega, by omega, HS2, n1⟩
          case measure => simp [intOf]; omega
        · have h3I : (4294967296 : Int) ≤ (r : Int) + (y1 : Int) := by omega
          have hqe : q = Q1 + 1 := by
            have := est_end HYS.out (by omega) HS2.out (by rw [← HQ1.out]; exact n1) (HQB.out (by omega))
            rw [← HQ1.out] at this; omega
          have e14 : IntKind.u64.wrap (IntKind.u64.wrap (IntKind.u64.wrap ((U : Int) * 4294967296) + (u1 : Int)) - IntKind.u64.wrap (((q : Int) - 1) * (Y : Int))) = (R : Int) := by rw [show (q : Int) - 1 = (Q1 : Int) by omega]; exact e12
          have hqge : (1 : Int) ≤ (q : Int) := by omega
          have hqgi : (q : Int) ≤ 4294967296 := by omega
          have HQE := Lib.hid hqe
          clear n1 HS HS2 HQB hqe
          go_wp2_with fail
          go_loop [16, 18] (fun v16 v18 => ∃ q r : Nat, v18 = .int .u64 q ∧ v16 = .int .u64 r ∧ q ≤ 4294967297 ∧ r ≤ 4294967295 ∧ Hid (q * y1 + r = R) ∧ Q0 ≤ q) (fun _ v18 => (intOf v18).toNat)
          case atStart => exact ⟨p, R - p * y1, rfl, by rw [Int.natCast_sub hpqle, Int.natCast_mul], by omega, by omega, HT3, by rw [HQ0.out]; exact t1⟩
          case round =>
            obtain ⟨q2, r, rfl, rfl, hq, hr, HS, hQq⟩ := hrel
            clear e13 hpqle t1 t2 t4 HT3 e12
            by_cases h1 : q2 < 4294967296
            · have hgI : ¬ (4294967296 : Int) ≤ (q2 : Int) := by omega
              have hp0 : (0 : Int) ≤ (q2 : Int) * (y0 : Int) := by rw [← Int.natCast_mul]; omega
              have hpb : q2 * y0 ≤ 4294967295 * 4294967295 := Nat.mul_le_mul (by omega) hy0b
              have hp1 : (q2 : Int) * (y0 : Int) ≤ 18446744073709551615 := by rw [← Int.natCast_mul]; omega
              by_cases h2 : q2 * y0 ≤ 4294967296 * r + u0
              · have h2I : ¬ 4294967296 * (r : Int) + (u0 : Int) < (q2 : Int) * (y0 : Int) := by rw [← Int.natCast_mul]; omega
                have hqe : Q0 = q2 := by rw [HQ0.out]; exact (est_end HYS.out (by omega) HS.out (by rw [← HQ0.out]; exact hQq) h2).symm
                subst hqe
                clear hpb h2
                go_wp2
                go_ret2
                exact dret HWF.out (by have := HQE.out; omega) (Int.ediv_nonneg (wnn _) (Int.pow_nonneg (by decide))) rfl (Below.refl _ _)
              · have h2I : 4294967296 * (r : Int) + (u0 : Int) < (q2 : Int) * (y0 : Int) := by rw [← Int.natCast_mul]; omega
                obtain ⟨n1, n2⟩ := est_next HYS.out (by omega) HS.out (by rw [← HQ0.out]; exact hQq) (by omega : 4294967296 * r + u0 < q2 * y0)
                rw [← HQ0.out] at n1
                have hs2 : (q2 - 1) * y1 + (r + y1) = R := by have h3 := HS.out; have h4 : q2 = (q2 - 1) + 1 := (by omega); rw [h4, Nat.add_mul] at h3; omega
                have HS2 := Lib.hid hs2
                have hqb := est_big (b := 4294967296) (u1 := u0) (y0 := y0) (q := q2 - 1) (r := r + y1) (by omega) (by omega)
                have HQB := Lib.hid hqb
                clear hs2 hpb h2 hqb
                by_cases h3 : r + y1 < 4294967296
                · have h3I : ¬ (4294967296 : Int) ≤ (r : Int) + (y1 : Int) := by omega
                  go_wp2
                  go_round
                  case rel => exact ⟨q2 - 1, r + y1, by go_num, by go_num, by omega, by omega, HS2, n1⟩
                  case measure => simp [intOf]; omega
                · have h3I : (4294967296 : Int) ≤ (r : Int) + (y1 : Int) := by omega
                  have hqe : q2 = Q0 + 1 := by
                    have := est_end HYS.out (by omega) HS2.out (by rw [← HQ0.out]; exact n1) (HQB.out (by omega))
                    rw [← HQ0.out] at this; omega
                  have hqgf : (1 : Int) ≤ (q2 : Int) := by omega
                  have hqgh : (q2 : Int) ≤ 4294967296 := by omega
                  have HQF := Lib.hid hqe
                  clear n1 n2 hqe
                  go_wp2
                  go_ret2
                  exact dret HWF.out (by have := HQF.out; have := HQE.out; omega) (Int.ediv_nonneg (wnn _) (Int.pow_nonneg (by decide))) rfl (Below.refl _ _)
            · have hgI : (4294967296 : Int) ≤ (q2 : Int) := by omega
              have n1 : Q0 ≤ q2 - 1 := by omega
              have hs2 : (q2 - 1) * y1 + (r + y1) = R := by have h3 := HS.out; have h4 : q2 = (q2 - 1) + 1 := (by omega); rw [h4, Nat.add_mul] at h3; omega
              have HS2 := Lib.hid hs2
              have hqb := est_big (b := 4294967296) (u1 := u0) (y0 := y0) (q := q2 - 1) (r := r + y1) (by omega) (by omega)
              have HQB := Lib.hid hqb
              clear hs2 hqb
              by_cases h3 : r + y1 < 4294967296
              · have h3I : ¬ (4294967296 : Int) ≤ (r : Int) + (y1 : Int) := by omega
                go_wp2
                go_round
                case rel => exact ⟨q2 - 1, r + y1, by go_num, by go_num, by omega, by omega, HS2, n1⟩
                case measure => simp [intOf]; omega
              · have h3I : (4294967296 : Int) ≤ (r : Int) + (y1 : Int) := by omega
                have hqe : q2 = Q0 + 1 := by
                  have := est_end HYS.out (by omega) HS2.out (by rw [← HQ0.out]; exact n1) (HQB.out (by omega))
                  rw [← HQ0.out] at this; omega
                have hqgf : (1 : Int) ≤ (q2 : Int) := by omega
                have hqgh : (q2 : Int) ≤ 4294967296 := by omega
                have HQF := Lib.hid hqe
                clear n1 hqe
                go_wp2
                go_ret2
                exact dret HWF.out (by have := HQF.out; have := HQE.out; omega) (Int.ediv_nonneg (wnn _) (Int.pow_nonneg (by decide))) rfl (Below.refl _ _)
end Go.Proofs.YtimfpgpomafflaaGreatDoor
