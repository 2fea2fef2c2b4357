/- Mathematics of a quotient times its divisor. Nothing of the program. -/
import Derived.Test.YtimfpgpomafflaaGreatDoorQuotM
namespace Go.Proofs.YtimfpgpomafflaaGreatDoor
open Go.RowKit LM

theorem rnd_near {X W : Nat} (hW : 0 < W) : 2 * X ≤ 2 * (rnd 4 false (X / W) (X % W) W * W) + W ∧ 2 * (rnd 4 false (X / W) (X % W) W * W) ≤ 2 * X + W := by
  have h1 := Nat.div_add_mod X W
  have h2 := Nat.mod_lt X hW
  have key : away 4 false (X / W) (X % W) W = if 2 * (X % W) = W then decide (X / W % 2 = 1) else decide (W ≤ 2 * (X % W)) := rfl
  rw [Nat.mul_comm] at h1
  unfold rnd
  by_cases h : away 4 false (X / W) (X % W) W = true
  · rw [if_pos h, Nat.add_mul, Nat.one_mul]
    rw [key] at h
    have h3 : W ≤ 2 * (X % W) := by
      by_cases h5 : 2 * (X % W) = W
      · omega
      · rw [if_neg h5] at h; exact of_decide_eq_true h
    generalize X / W * W = t at *
    omega
  · rw [if_neg h]
    rw [key] at h
    have h3 : 2 * (X % W) ≤ W := by
      by_cases h5 : 2 * (X % W) = W
      · omega
      · rw [if_neg h5] at h
        have h6 : ¬ W ≤ 2 * (X % W) := fun k => h (decide_eq_true k)
        omega
    generalize X / W * W = t at *
    omega
theorem pl_e_ge {s : Bool} {v : Nat} {e : Int} : e ≤ (pl s v e).e ∨ (pl s v e).m = 0 := pl_ge
theorem sgn_mul (s t : Bool) (a b : Int) : (if (!(s == t)) = true then -a else a) * (if t = true then -b else b) = if s = true then -(a * b) else a * b := by
  cases s <;> cases t <;> simp [Int.neg_mul, Int.mul_neg]
theorem tellA_zero0 (s : Bool) (e : Int) : tellA s 0 e = ⟨0, zP⟩ := by
  unfold tellA
  rw [show pl s 0 e = zP from if_pos rfl, if_pos zP_in]
theorem tellA_ok {s : Bool} {v : Nat} {e : Int} (h : (tellA s v e).err = 0) : tellA s v e = ⟨0, pl s v e⟩ := by
  unfold tellA at h ⊢
  split
  · rfl
  · rename_i k; rw [if_neg k] at h; cases h
theorem off_zero {p q : Pl} (hp : PlainP p) (h0 : p.m = 0) (hq : 0 < q.m) : (addV p (flipP (mulV (divV p q).p q).p)).p.m = 0 := by
  have hz := zp_of hp h0
  have h1 : divV p q = ⟨0, zP⟩ := by unfold divV; rw [if_neg (by omega), if_pos h0]
  have h2 : mulV zP q = ⟨0, zP⟩ := by unfold mulV; rw [show zP.m * q.m = 0 from Nat.zero_mul _]; exact tellA_zero0 _ _
  rw [h1, h2, hz]
  have h3 : addV zP (flipP zP) = ⟨0, zP⟩ := by
    rw [addV_zl zP_plain (flip_plain zP_plain) rfl]
    unfold tellP
    rw [show flipP zP = zP from rfl, if_pos zP_in]
  rw [h3]; rfl
/-- a quotient times its divisor is off by less than the divisor at the quotient's 33rd digit -/
theorem off_less {p q t : Pl} (hp : PlainP p) (hq : PlainP q) (ip : inR p = true) (iq : inR q = true) (hpm : 0 < p.m) (hqm : 0 < q.m) (ht : t = ⟨false, 1, -33⟩) (h1 : (divV p q).err = 0) (h2 : (mulV (divV p q).p q).err = 0) (h3 : (addV p (flipP (mulV (divV p q).p q).p)).err = 0) (h4 : (mulV (absP p) t).err = 0) :
    cmpP (absP (addV p (flipP (mulV (divV p q).p q).p)).p) (mulV (absP p) t).p < 0 := by
  have bp := inR_bounds ip
  have bq := inR_bounds iq
  obtain ⟨N, hN⟩ : ∃ N : Nat, N = 31000 := ⟨_, rfl⟩
  have hfit := lqE_fit (N := N) hpm hqm (by omega)
  obtain ⟨be1, be2⟩ := lqE_bounds bp.1 bq.1
  have hlv := lqV_scaled (N := N) (u := p.m) (v := q.m) (E := lqE p.m q.m) (by omega)
  have hWp : 0 < q.m * 10 ^ (lqE p.m q.m + N).toNat := Nat.mul_pos hqm (Nat.pow_pos (by omega))
  have hnear := rnd_near (X := p.m * 10 ^ N) hWp
  rw [← hlv] at hnear
  -- the quotient
  have hdv : divV p q = tellA (!(p.neg == q.neg)) (lqV p.m q.m (lqE p.m q.m)) (p.e - q.e + lqE p.m q.m) := by unfold divV; rw [if_neg (by omega), if_neg (by omega)]
  have hQ : (divV p q).p = pl (!(p.neg == q.neg)) (lqV p.m q.m (lqE p.m q.m)) (p.e - q.e + lqE p.m q.m) := by rw [hdv] at h1 ⊢; rw [tellA_ok h1]
  have hQp : PlainP (divV p q).p := by rw [hQ]; exact pl_plain _ _ _
  have hQe : p.e - q.e - N ≤ (divV p q).p.e := by
    refine low_e hQp (by omega) ?_
    rw [hQ]
    rcases pl_e_ge (s := !(p.neg == q.neg)) (v := lqV p.m q.m (lqE p.m q.m)) (e := p.e - q.e + lqE p.m q.m) with k | k
    · exact .inl (by omega)
    · exact .inr k
  have sQ : sv (divV p q).p (p.e - q.e - N) = (if (!(p.neg == q.neg)) = true then -((lqV p.m q.m (lqE p.m q.m) : Nat) : Int) else ((lqV p.m q.m (lqE p.m q.m) : Nat) : Int)) * (10 ^ (lqE p.m q.m + N).toNat : Nat) := by
    rw [hQ, sv_pl (by omega)]
    rw [show (p.e - q.e + lqE p.m q.m - (p.e - q.e - (N : Int))).toNat = (lqE p.m q.m + N).toNat by omega]
  -- the product
  obtain ⟨sP, eP⟩ := sv_mul (p := (divV p q).p) (q := q) (E := p.e - q.e - N) (F := q.e) hQe (Int.le_refl _) h2
  have sP : sv (mulV (divV p q).p q).p (p.e - q.e - N + q.e) = sv (divV p q).p (p.e - q.e - N) * sv q q.e := sP
  have eP : p.e - q.e - N + q.e ≤ (mulV (divV p q).p q).p.e ∨ (mulV (divV p q).p q).p.m = 0 := eP
  have sq : sv q q.e = if q.neg = true then -(q.m : Int) else (q.m : Int) := by unfold sv ual; rw [Int.sub_self]; simp
  rw [show p.e - q.e - N + q.e = p.e - N by omega] at sP eP
  generalize lqV p.m q.m (lqE p.m q.m) = L at *
  have sP2 : sv (mulV (divV p q).p q).p (p.e - N) = if p.neg = true then -((L * (q.m * 10 ^ (lqE p.m q.m + N).toNat) : Nat) : Int) else ((L * (q.m * 10 ^ (lqE p.m q.m + N).toNat) : Nat) : Int) := by
    rw [sP, sQ, sq, Int.mul_assoc, Int.mul_comm ((10 ^ (lqE p.m q.m + N).toNat : Nat) : Int), ← Int.mul_assoc, sgn_mul]
    rw [Int.natCast_mul L, Int.natCast_mul q.m, ← Int.mul_assoc]
    cases p.neg <;> simp [Int.neg_mul]
  have hPp : PlainP (mulV (divV p q).p q).p := mulV_plain _ _
  generalize (mulV (divV p q).p q).p = P at *
  -- the difference
  have hFp := flip_plain hPp
  have hFe : p.e - N ≤ (flipP P).e ∨ (flipP P).m = 0 := by
    rcases flip_e (p := P) with k | k
    · rcases eP with j | j
      · exact .inl (by rw [k]; exact j)
      · exact .inr (by unfold flipP; rw [if_neg (by omega)]; exact j)
    · exact .inr k
  obtain ⟨sD, eD⟩ := sv_add' (E := p.e - N) hp hFp (.inl (by omega)) hFe (by omega) h3
  rw [sv_flip hPp, sP2] at sD
  have sp : sv p (p.e - N) = if p.neg = true then -((p.m * 10 ^ N : Nat) : Int) else ((p.m * 10 ^ N : Nat) : Int) := by
    unfold sv ual; rw [show (p.e - (p.e - (N : Int))).toNat = N by omega]
  rw [sp] at sD
  have hDp := addV_plain p (flipP P)
  have eD2 := low_e hDp (by omega) eD
  generalize (addV p (flipP P)).p = D at *
  have sA : sv (absP D) (p.e - N) = (ual D (p.e - N) : Int) := by unfold sv; rw [if_neg (show ¬ (absP D).neg = true from Bool.false_ne_true)]; rfl
  have sD2 : sv D (p.e - N) = if D.neg = true then -(ual D (p.e - N) : Int) else (ual D (p.e - N) : Int) := rfl
  -- what it is held against
  obtain ⟨sM, eM⟩ := sv_mul (p := absP p) (q := t) (E := p.e - N + 33) (F := -33) (by show p.e - N + 33 ≤ p.e; omega) (by rw [ht]; exact Int.le_refl _) h4
  have sM : sv (mulV (absP p) t).p (p.e - N + 33 + -33) = sv (absP p) (p.e - N + 33) * sv t (-33) := sM
  have eM : p.e - N + 33 + -33 ≤ (mulV (absP p) t).p.e ∨ (mulV (absP p) t).p.m = 0 := eM
  rw [show p.e - N + 33 + -33 = p.e - N by omega] at sM eM
  have st : sv t (-33) = 1 := by rw [ht]; decide
  obtain ⟨M, hM⟩ : ∃ M, N = M + 33 := ⟨N - 33, by omega⟩
  have sa : sv (absP p) (p.e - N + 33) = ((p.m * 10 ^ M : Nat) : Int) := by
    unfold sv ual
    rw [if_neg (show ¬ (absP p).neg = true from Bool.false_ne_true)]
    rw [show ((absP p).e - (p.e - (N : Int) + 33)).toNat = M by show (p.e - (p.e - (N : Int) + 33)).toNat = M; omega]
    rfl
  rw [st, sa, Int.mul_one] at sM
  have hMp : PlainP (mulV (absP p) t).p := mulV_plain _ _
  have eM2 := low_e hMp (by omega) eM
  generalize (mulV (absP p) t).p = Mo at *
  have hX : p.m * 10 ^ N = 10 ^ 33 * (p.m * 10 ^ M) := by rw [hM, Nat.pow_add, ← Nat.mul_assoc, Nat.mul_comm]
  have hY : 0 < p.m * 10 ^ M := Nat.mul_pos hpm (Nat.pow_pos (by omega))
  have hf1 := hfit.1
  rw [hX] at hf1 hnear sD
  generalize q.m * 10 ^ (lqE p.m q.m + N).toNat = W at *
  generalize p.m * 10 ^ M = Y at *
  generalize L * W = LW at *
  rw [sD2] at sD
  generalize ual D (p.e - N) = d at *
  have hd : d < Y := by
    have hWY : W ≤ Y := by omega
    split at sD <;> split at sD <;> omega
  rcases cmp_sv (E := p.e - N) (absP_plain hDp) hMp eD2 eM2 with ⟨k, _⟩ | ⟨_, k⟩ | ⟨_, k⟩
  · omega
  · rw [sA, sM] at k; omega
  · rw [sA, sM] at k; omega
end Go.Proofs.YtimfpgpomafflaaGreatDoor
