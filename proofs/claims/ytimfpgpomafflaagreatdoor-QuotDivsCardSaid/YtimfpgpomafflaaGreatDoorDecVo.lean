/- The order of plain numbers: mathematics for DecOrder. Nothing of the program. -/
import Derived.Test.YtimfpgpomafflaaGreatDoorDecV
namespace Go.Proofs.YtimfpgpomafflaaGreatDoor
open Go.RowKit LM

theorem cmp_turn {p q : Pl} (hp : PlainP p) (hq : PlainP q) : cmpP q p = - cmpP p q := by
  rcases cmp_sv hp hq (mn_le p q).1 (mn_le p q).2 with ⟨a, b⟩ | ⟨a, b⟩ | ⟨a, b⟩ <;>
  rcases cmp_sv hq hp (mn_le p q).2 (mn_le p q).1 with ⟨c, d⟩ | ⟨c, d⟩ | ⟨c, d⟩ <;> omega
theorem cmp_zero {p q : Pl} (hp : PlainP p) (hq : PlainP q) : cmpP p q = 0 ↔ p = q := by
  constructor
  · intro h
    rcases cmp_sv hp hq (mn_le p q).1 (mn_le p q).2 with ⟨a, b⟩ | ⟨a, b⟩ | ⟨a, b⟩
    · omega
    · exact sv_inj hp hq (mn_le p q).1 (mn_le p q).2 b
    · omega
  · intro h
    subst h
    rcases cmp_sv hp hp (E := p.e) (by omega) (by omega) with ⟨a, b⟩ | ⟨a, b⟩ | ⟨a, b⟩ <;> omega
/-- a power below three numbers' -/
def mn3 (p q r : Pl) : Int := min (mn p q) r.e
theorem mn3_le (p q r : Pl) : mn3 p q r ≤ p.e ∧ mn3 p q r ≤ q.e ∧ mn3 p q r ≤ r.e := by
  have := mn_le p q
  unfold mn3; omega
theorem cmp_trans {p q r : Pl} (hp : PlainP p) (hq : PlainP q) (hr : PlainP r) (h1 : cmpP p q ≤ 0) (h2 : cmpP q r ≤ 0) : cmpP p r ≤ 0 := by
  obtain ⟨e1, e2, e3⟩ := mn3_le p q r
  rcases cmp_sv hp hq e1 e2 with ⟨a, b⟩ | ⟨a, b⟩ | ⟨a, b⟩ <;>
  rcases cmp_sv hq hr e2 e3 with ⟨c, d⟩ | ⟨c, d⟩ | ⟨c, d⟩ <;>
  rcases cmp_sv hp hr e1 e3 with ⟨f, g⟩ | ⟨f, g⟩ | ⟨f, g⟩ <;> omega
theorem addV_plain (p q : Pl) : PlainP (addV p q).p := by
  obtain ⟨s, v, h, _⟩ := sv_add0 p q
  rw [h]; exact tellA_plain _ _ _
/-- a number whose worth is nothing, or a sign -/
theorem sv_sign {p : Pl} (hp : PlainP p) (E : Int) : (p.neg = true ∧ sv p E < 0 ∧ 0 < p.m) ∨ (p.neg = false ∧ p.m = 0 ∧ sv p E = 0) ∨ (p.neg = false ∧ 0 < p.m ∧ 0 < sv p E) := by
  rcases hn : p.neg with _ | _
  · rcases Nat.eq_zero_or_pos p.m with h | h
    · exact .inr (.inl ⟨rfl, h, sv_zero h E⟩)
    · have h1 := ual_pos E h
      refine .inr (.inr ⟨rfl, h, ?_⟩)
      unfold sv; rw [hn]; simp only [Bool.false_eq_true, if_false]; omega
  · have h := plain_pos hp hn
    have h1 := ual_pos E h
    refine .inl ⟨rfl, ?_, h⟩
    unfold sv; rw [hn]; simp only [if_true]; omega
theorem flip_e {p : Pl} : (flipP p).e = p.e ∨ (flipP p).m = 0 := by
  unfold flipP
  by_cases h : 0 < p.m
  · rw [if_pos h]; exact .inl rfl
  · rw [if_neg h]; exact .inr (by omega)
theorem sv_add' {p q : Pl} {E : Int} (hp : PlainP p) (hq : PlainP q) (h1 : E ≤ p.e ∨ p.m = 0) (h2 : E ≤ q.e ∨ q.m = 0) (hE : E ≤ 0) (h : (addV p q).err = 0) : sv (addV p q).p E = sv p E + sv q E ∧ (E ≤ (addV p q).p.e ∨ (addV p q).p.m = 0) := by
  refine sv_add ?_ ?_ h
  · rcases h1 with h1 | h1
    · exact h1
    · rw [zp_of hp h1]; exact hE
  · rcases h2 with h2 | h2
    · exact h2
    · rw [zp_of hq h2]; exact hE
theorem low_e {p : Pl} {E : Int} (hp : PlainP p) (hE : E ≤ 0) (h : E ≤ p.e ∨ p.m = 0) : E ≤ p.e := by
  rcases h with h | h
  · exact h
  · rw [zp_of hp h]; exact hE
/-- the difference's sign is the order -/
theorem cmp_diff {p q : Pl} (hp : PlainP p) (hq : PlainP q) (hf : PlainP (flipP q)) (h : (addV p (flipP q)).err = 0) :
    (cmpP p q < 0 ↔ (addV p (flipP q)).p.neg = true) ∧ (cmpP p q = 0 ↔ (addV p (flipP q)).p.m = 0) := by
  obtain ⟨e1, e2⟩ := mn_le p q
  have g0 : min (mn p q) 0 ≤ 0 := by omega
  have g1 : min (mn p q) 0 ≤ p.e := by omega
  have g2 : min (mn p q) 0 ≤ q.e := by omega
  generalize min (mn p q) 0 = E at *
  have g3 : E ≤ (flipP q).e := low_e hf g0 (by rcases flip_e (p := q) with k | k; exact .inl (by omega); exact .inr k)
  obtain ⟨k1, k2⟩ := sv_add g1 g3 h
  rw [sv_flip hq] at k1
  rcases cmp_sv hp hq g1 g2 with ⟨a, b⟩ | ⟨a, b⟩ | ⟨a, b⟩ <;>
  rcases sv_sign (addV_plain p (flipP q)) E with ⟨c, d, f⟩ | ⟨c, d, f⟩ | ⟨c, d, f⟩ <;>
  simp only [c, Bool.false_eq_true, iff_false, iff_true] <;> omega
/-- a sum keeps the order -/
theorem cmp_sum {p q r : Pl} (hp : PlainP p) (hq : PlainP q) (h1 : (addV p r).err = 0) (h2 : (addV q r).err = 0) : cmpP (addV p r).p (addV q r).p = cmpP p q := by
  obtain ⟨e1, e2, e3⟩ := mn3_le p q r
  have g0 : min (mn3 p q r) 0 ≤ 0 := by omega
  have g1 : min (mn3 p q r) 0 ≤ p.e := by omega
  have g2 : min (mn3 p q r) 0 ≤ q.e := by omega
  have g3 : min (mn3 p q r) 0 ≤ r.e := by omega
  generalize min (mn3 p q r) 0 = E at *
  obtain ⟨k1, k2⟩ := sv_add g1 g3 h1
  obtain ⟨k3, k4⟩ := sv_add g2 g3 h2
  have P1 := addV_plain p r
  have P2 := addV_plain q r
  rcases cmp_sv hp hq g1 g2 with ⟨a, b⟩ | ⟨a, b⟩ | ⟨a, b⟩ <;>
  rcases cmp_sv P1 P2 (low_e P1 g0 k2) (low_e P2 g0 k4) with ⟨c, d⟩ | ⟨c, d⟩ | ⟨c, d⟩ <;> omega
end Go.Proofs.YtimfpgpomafflaaGreatDoor
