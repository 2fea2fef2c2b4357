/- Mathematics of rests, roundings and signs of plain numbers, for the laws of quot. Nothing of the program. -/
import Derived.Test.YtimfpgpomafflaaGreatDoorQuotBx
namespace Go.Proofs.YtimfpgpomafflaaGreatDoor
open Go.RowKit LM

def absP (p : Pl) : Pl := ⟨false, p.m, p.e⟩
theorem absP_plain {p : Pl} (hp : PlainP p) : PlainP (absP p) := by
  rcases hp with ⟨h0, h1⟩ | h
  · exact .inl ⟨h0, by rw [h1]; rfl⟩
  · exact .inr h
theorem absP_in (p : Pl) : inR (absP p) = inR p := rfl
theorem absP_pl (s : Bool) (v : Nat) (e : Int) : absP (pl s v e) = pl false v e := by
  unfold pl
  by_cases h : v = 0
  · rw [if_pos h, if_pos h]; rfl
  · rw [if_neg h, if_neg h]; rfl
theorem norm_abs {p : Pl} (hp : PlainP p) (ip : inR p = true) : normA (dg 1000000000 p.m).length false (vl 1000000000 (dg 1000000000 p.m)) p.e = ⟨0, absP p⟩ := norm_plain' (p := absP p) (absP_plain hp) ip
theorem norm_flip {p : Pl} (hp : PlainP p) (ip : inR p = true) : normA (dg 1000000000 p.m).length (!p.neg) (vl 1000000000 (dg 1000000000 p.m)) p.e = ⟨0, flipP p⟩ := by
  rw [normA_flip, norm_plain' hp ip]; rfl
theorem toWA_ok {way : Nat} {A : Ans} (h : A.err = 0) : toWA way A = ⟨0, cutP way A.p⟩ := if_pos h
theorem toWA_no {way : Nat} {A : Ans} (h : ¬ A.err = 0) : toWA way A = ⟨A.err, zP⟩ := if_neg h
theorem sv0 (p : Pl) : sv p 0 = if p.neg = true then -(whV p : Int) else (whV p : Int) := by
  unfold sv ual whV
  rw [Int.sub_zero]
theorem whV_pl (s : Bool) (v : Nat) : whV (pl s v 0) = v := by
  unfold pl whV
  by_cases h : v = 0
  · rw [if_pos h, h]; rfl
  · rw [if_neg h]
    simp only
    rw [show (0 + (tz v : Int)).toNat = tz v by omega]
    exact (tz_spec v (by omega)).2
theorem pl_e0 (s : Bool) (v : Nat) : 0 ≤ (pl s v 0).e := by
  unfold pl
  split
  · exact Int.le_refl _
  · simp only; omega
theorem pl_neg {s : Bool} {v : Nat} : (pl s v 0).m = 0 ∨ (pl s v 0).neg = s := by
  unfold pl
  split
  · exact .inl rfl
  · exact .inr rfl
theorem dl_shift {m : Nat} (h : 0 < m) (k : Nat) : dl (m * 10 ^ k) = dl m + k := by
  unfold dl
  rw [dg_shift2 h]; simp; omega
theorem dl_mono {u v : Nat} (h : u ≤ v) : dl u ≤ dl v := dl_lt (Nat.lt_of_le_of_lt h (lt_dl v))
theorem hd_whV {p : Pl} (h : 0 < p.m) (he : 0 ≤ p.e) : hd p = (dl (whV p) : Int) - 1 := by
  unfold hd whV
  rw [dl_shift h]; omega
theorem hd_small {p : Pl} (hp : PlainP p) (he : 0 ≤ p.e) (hv : dl (whV p) ≤ 400) : hd p < 400 := by
  rcases Nat.eq_zero_or_pos p.m with h0 | h0
  · rw [zp_of hp h0]; unfold hd dl zP; rw [dg_zero]; decide
  · rw [hd_whV h0 he]; omega
theorem whV_zero {p : Pl} : whV p = 0 ↔ p.m = 0 := by
  unfold whV
  exact ⟨fun h => (Nat.mul_eq_zero.1 h).resolve_right (by have := Nat.pow_pos (n := p.e.toNat) (show 0 < 10 by omega); omega), fun h => by rw [h, Nat.zero_mul]⟩
theorem whole_cut {way : Nat} {p : Pl} (he : 0 ≤ p.e) : cutP way p = p := by unfold cutP; rw [if_pos he]

theorem rem_err {A B : Ans} (h : ¬ (remA A B).err = 0) : (remA A B).p = zP := by
  unfold remA at h ⊢
  by_cases hk : okP A B
  · rw [if_pos hk] at h ⊢
    unfold remV at h ⊢
    split
    · rfl
    · rename_i h1
      rw [if_neg h1] at h
      split
      · rfl
      · rename_i h2; rw [if_neg h2] at h; exact absurd rfl h
  · rw [if_neg hk]
theorem rem_ok {A B : Ans} (h : (remA A B).err = 0) : A.err = 0 ∧ B.err = 0 ∧ hd (cutP 0 A.p) < 400 ∧ hd (cutP 0 B.p) < 400 ∧ 0 < (cutP 0 B.p).m ∧ remA A B = ⟨0, pl (cutP 0 A.p).neg (whV (cutP 0 A.p) % whV (cutP 0 B.p)) 0⟩ := by
  unfold remA at h ⊢
  by_cases hk : okP A B
  · rw [if_pos hk] at h ⊢
    refine ⟨hk.1, hk.2, ?_⟩
    unfold remV at h ⊢
    by_cases h1 : 400 ≤ hd (cutP 0 A.p) ∨ 400 ≤ hd (cutP 0 B.p)
    · rw [if_pos h1] at h; cases h
    · rw [if_neg h1] at h ⊢
      by_cases h2 : (cutP 0 B.p).m = 0
      · rw [if_pos h2] at h; cases h
      · rw [if_neg h2]
        exact ⟨by omega, by omega, by omega, rfl⟩
  · rw [if_neg hk] at h
    exact absurd h (pairE_bad hk)
/-- the rest is nearer to 0 than the divisor -/
theorem rem_less {s : Bool} {r : Nat} {q : Pl} (hq : PlainP q) (he : 0 ≤ q.e) (h : r < whV q) : cmpP (absP (pl s r 0)) (absP q) < 0 := by
  have h1 : sv (absP (pl s r 0)) 0 = (r : Int) := by rw [sv0, absP_pl, whV_pl]; split; exfalso; rename_i k; revert k; unfold pl; split <;> simp [zP]; rfl
  have h2 : sv (absP q) 0 = (whV q : Int) := by rw [sv0]; rfl
  rcases cmp_sv (E := 0) (absP_plain (pl_plain s r 0)) (absP_plain hq) (pl_e0 s r) he with ⟨k, _⟩ | ⟨_, k⟩ | ⟨_, k⟩
  · omega
  · rw [h1, h2] at k; omega
  · rw [h1, h2] at k; omega
/-- what is left of the whole part is a multiple of the divisor -/
theorem rem_left {p q : Pl} (hp : PlainP p) (hq : PlainP q) (he : 0 ≤ p.e) (hqm : 0 < q.m) (h1 : hd p < 400) (h2 : hd q < 400) (hD : (addV p (flipP (pl p.neg (whV p % whV q) 0))).err = 0) :
    remV (cutP 0 (addV p (flipP (pl p.neg (whV p % whV q) 0))).p) q = ⟨0, zP⟩ := by
  obtain ⟨r, hr⟩ : ∃ r, r = whV p % whV q := ⟨_, rfl⟩
  rw [← hr] at hD ⊢
  have hrp := pl_plain p.neg r 0
  have hpos : 0 < whV q := Nat.pos_of_ne_zero fun h => by have := whV_zero.1 h; omega
  have hf := flip_plain hrp
  have hfe : 0 ≤ (flipP (pl p.neg r 0)).e ∨ (flipP (pl p.neg r 0)).m = 0 := by
    rcases flip_e (p := pl p.neg r 0) with h | h
    · exact .inl (by rw [h]; exact pl_e0 _ _)
    · exact .inr h
  obtain ⟨hs, hde⟩ := sv_add' (E := 0) hp hf (.inl he) hfe (Int.le_refl _) hD
  have hdp := addV_plain p (flipP (pl p.neg r 0))
  have hd0 := low_e hdp (Int.le_refl _) hde
  rw [sv_flip hrp] at hs
  generalize (addV p (flipP (pl p.neg r 0))).p = D at *
  rw [sv0, sv0, sv0, whV_pl] at hs
  have hle : r ≤ whV p := by rw [hr]; exact Nat.mod_le _ _
  have hval : whV D = whV p - r := by
    have hpn : r = 0 ∨ (pl p.neg r 0).neg = p.neg := by
      rcases pl_neg (s := p.neg) (v := r) with h | h
      · left
        have := whV_zero.2 h
        rw [whV_pl] at this; exact this
      · exact .inr h
    rcases hpn with h0 | h0
    · rw [h0] at hs
      simp only [Int.natCast_zero, Int.neg_zero, ite_self] at hs
      split at hs <;> split at hs <;> omega
    · rw [h0] at hs
      split at hs <;> split at hs <;> omega
  rw [whole_cut hd0]
  have hk := whV_few hp h1 he
  have hd3 : hd D < 400 := hd_small hdp hd0 (by rw [hval]; exact Nat.le_trans (dl_mono (Nat.sub_le _ _)) hk.2)
  unfold remV
  rw [if_neg (by omega), if_neg (by omega)]
  have hz : whV D % whV q = 0 := by
    rw [hval, hr]
    have h5 := Nat.div_add_mod (whV p) (whV q)
    have h6 : whV p - whV p % whV q = whV q * (whV p / whV q) := by omega
    rw [h6, Nat.mul_mod_right]
  rw [hz]
  rfl
end Go.Proofs.YtimfpgpomafflaaGreatDoor
