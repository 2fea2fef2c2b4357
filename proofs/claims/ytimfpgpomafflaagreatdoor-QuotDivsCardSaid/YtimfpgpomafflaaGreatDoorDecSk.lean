/- The sum by the document's cases. Nothing of the program. -/
import Derived.Test.YtimfpgpomafflaaGreatDoorDecAe
import Derived.Test.YtimfpgpomafflaaGreatDoorDecEs
namespace Go.Proofs.YtimfpgpomafflaaGreatDoor
open Go.RowKit LM

theorem pl_ual {p : Pl} {e : Int} (hp : PlainP p) (he : e ≤ p.e) : pl p.neg (ual p e) e = p := by
  rcases hp with ⟨h0, h1⟩ | h
  · unfold ual; rw [h0, Nat.zero_mul]
    show zP = p
    exact h1.symm
  · have hpos : 0 < p.m * 10 ^ (p.e - e).toNat := Nat.mul_pos (by omega) (Nat.pow_pos (by omega))
    unfold pl ual
    rw [if_neg (by omega), core_plain h, tz_plain h, show e + ((p.e - e).toNat : Int) = p.e by omega]
theorem zp_of {p : Pl} (hp : PlainP p) (h : p.m = 0) : p = zP := by
  rcases hp with ⟨_, h1⟩ | h1
  · exact h1
  · exact absurd (show p.m % 10 = 0 by rw [h]) h1
theorem mn_le (p q : Pl) : mn p q ≤ p.e ∧ mn p q ≤ q.e := by unfold mn; omega
theorem addV_zl {p q : Pl} (hp : PlainP p) (hq : PlainP q) (h : p.m = 0) : addV p q = tellP q := by
  have hz := zp_of hp h
  have hu : ual p (mn p q) = 0 := by unfold ual; rw [h, Nat.zero_mul]
  have hk := pl_ual hq (mn_le p q).2
  unfold addV
  rw [hu, Nat.zero_add, Nat.sub_zero]
  by_cases hs : p.neg = q.neg
  · rw [if_pos hs, hs, tellA_P, hk]
  · rw [if_neg hs]
    have hpn : p.neg = false := by rw [hz]; rfl
    have hqn : q.neg = true := by rw [hpn] at hs; cases hn : q.neg; exact absurd hn.symm hs; rfl
    have hq0 : q.m ≠ 0 := fun h0 => by rw [zp_of hq h0] at hqn; cases hqn
    have hpos : 0 < ual q (mn p q) := Nat.mul_pos (by omega) (Nat.pow_pos (by omega))
    rw [if_pos hpos, tellA_P, hk]
theorem addV_zr {p q : Pl} (hp : PlainP p) (hq : PlainP q) (h : q.m = 0) : addV p q = tellP p := by
  have hu : ual q (mn p q) = 0 := by unfold ual; rw [h, Nat.zero_mul]
  have hk := pl_ual hp (mn_le p q).1
  unfold addV
  rw [hu, Nat.add_zero, Nat.sub_zero, if_neg (Nat.not_lt_zero _), tellA_P, hk]
  split <;> rfl

theorem far_one {s : Bool} {v M : Nat} {e : Int} (hv : 10 ^ M ≤ v) (hM : 400 ≤ M) (h10 : v % 10 ≠ 0) : tellA s v e = ⟨3, zP⟩ := by
  have hpl : pl s v e = ⟨s, v, e⟩ := by
    have e1 : core v = v := by have := core_plain h10 0; simpa using this
    unfold pl; rw [if_neg (by omega), e1, tz_no h10]; simp
  have hl : M < (dg 10 v).length := by
    rcases Nat.lt_or_ge M (dg 10 v).length with h | h
    · exact h
    · have h1 := dg_upper (b := 10) (by omega) v
      have h2 : 10 ^ (dg 10 v).length ≤ 10 ^ M := Nat.pow_le_pow_right (by omega) h
      omega
  unfold tellA
  rw [hpl, if_neg]
  intro h
  have := of_decide_eq_true h
  unfold dl at this
  simp only at this
  omega
theorem far_two {u v M L : Nat} (hM : 10 ^ M ≤ u) (hv : v < 10 ^ L) (hL : L ≤ 400) (hMM : 2001 ≤ M) (h10 : u % 10 = 0) (hv10 : v % 10 ≠ 0) (s : Bool) (e : Int) :
    v < u ∧ tellA s (u + v) e = ⟨3, zP⟩ ∧ tellA s (u - v) e = ⟨3, zP⟩ := by
  obtain ⟨N, rfl⟩ : ∃ N, M = N + 1 := ⟨M - 1, by omega⟩
  have h1 : 10 ^ L ≤ 10 ^ N := Nat.pow_le_pow_right (by omega) (by omega)
  rw [Nat.pow_succ] at hM
  generalize hN : 10 ^ N = t at *
  generalize 10 ^ L = l at *
  refine ⟨by omega, far_one (M := N) (by rw [hN]; omega) (by omega) (by omega), far_one (M := N) (by rw [hN]; omega) (by omega) (by omega)⟩
theorem ual_big {p : Pl} {e : Int} (hp : 0 < p.m) (he : e ≤ p.e) : 10 ^ (hd p - e).toNat ≤ ual p e := by
  have h2 := dg_lo10 p.m hp
  have h3 : (dg 10 p.m).length ≠ 0 := by rw [dg_pos (by omega) hp]; simp
  have he2 : (hd p - e).toNat = (dg 10 p.m).length - 1 + (p.e - e).toNat := by unfold hd dl; omega
  rw [he2, Nat.pow_add]; exact Nat.mul_le_mul_right _ h2
theorem addV_far1 {p q : Pl} (hp : Bd p) (hq : Bd q) (hpp : 0 < p.m) (hqp : q.m % 10 ≠ 0) (h : 2000 < hd p - mn p q) : addV p q = ⟨3, zP⟩ := by
  have k1 := hp.1
  have hm : mn p q = q.e := by unfold hd mn at *; omega
  have hlt : mn p q < p.e := by unfold hd at h; omega
  have hu2 : ual q (mn p q) = q.m := by unfold ual; rw [hm]; simp
  have hu1 := ual_big hpp (mn_le p q).1
  have h10 : ual p (mn p q) % 10 = 0 := by
    unfold ual
    obtain ⟨k, hk⟩ : ∃ k, (p.e - mn p q).toNat = k + 1 := ⟨(p.e - mn p q).toNat - 1, by omega⟩
    rw [hk, Nat.pow_succ, ← Nat.mul_assoc, Nat.mul_mod_left]
  have hv := dg_upper (b := 10) (by omega) q.m
  have hL : (dg 10 q.m).length ≤ 400 := hq.1
  have hf := fun s e => far_two hu1 hv hL (by omega) h10 hqp s e
  unfold addV
  rw [hu2]
  split
  · exact (hf _ _).2.1
  · rw [if_neg (by have := (hf true 0).1; omega)]; exact (hf _ _).2.2
theorem addV_far2 {p q : Pl} (hp : Bd p) (hq : Bd q) (hpp : 0 < q.m) (hqp : p.m % 10 ≠ 0) (h : 2000 < hd q - mn p q) : addV p q = ⟨3, zP⟩ := by
  have k1 := hq.1
  have hm : mn p q = p.e := by unfold hd mn at *; omega
  have hlt : mn p q < q.e := by unfold hd at h; omega
  have hu2 : ual p (mn p q) = p.m := by unfold ual; rw [hm]; simp
  have hu1 := ual_big hpp (mn_le p q).2
  have h10 : ual q (mn p q) % 10 = 0 := by
    unfold ual
    obtain ⟨k, hk⟩ : ∃ k, (q.e - mn p q).toNat = k + 1 := ⟨(q.e - mn p q).toNat - 1, by omega⟩
    rw [hk, Nat.pow_succ, ← Nat.mul_assoc, Nat.mul_mod_left]
  have hv := dg_upper (b := 10) (by omega) p.m
  have hL : (dg 10 p.m).length ≤ 400 := hp.1
  have hf := fun s e => far_two hu1 hv hL (by omega) h10 hqp s e
  unfold addV
  rw [hu2]
  split
  · rw [Nat.add_comm]; exact (hf _ _).2.1
  · rw [if_pos (hf true 0).1]; exact (hf _ _).2.2
end Go.Proofs.YtimfpgpomafflaaGreatDoor
