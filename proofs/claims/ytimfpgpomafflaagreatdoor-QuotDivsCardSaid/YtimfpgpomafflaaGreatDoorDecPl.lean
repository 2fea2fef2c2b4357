/- dec's functions at plain numbers (what Norm, Neg, Add and Mul gave): for DecOrder's and DecRing's walks. -/
import Derived.Test.YtimfpgpomafflaaGreatDoorDecAe
import Derived.Test.YtimfpgpomafflaaGreatDoorDecQs
import Derived.Test.YtimfpgpomafflaaGreatDoorDecVr
namespace Go.Proofs.YtimfpgpomafflaaGreatDoor
open Go.RowKit LM

theorem dg9_few' {m : Nat} (h : (dg 10 m).length ≤ 400) : (dg 1000000000 m).length ≤ 200 := by
  rcases Nat.eq_zero_or_pos m with h0 | h0
  · rw [h0, dg_zero]; simp
  · have h1 := dg_lower (b := 1000000000) (by omega) m h0
    have h2 := dg_upper (b := 10) (by omega) m
    have e1 : (1000000000 : Nat) ^ ((dg 1000000000 m).length - 1) = 10 ^ (9 * ((dg 1000000000 m).length - 1)) := by rw [Nat.pow_mul]
    rw [e1] at h1
    rcases Nat.lt_or_ge (9 * ((dg 1000000000 m).length - 1)) (dg 10 m).length with h3 | h3
    · omega
    · have h4 : 10 ^ (dg 10 m).length ≤ 10 ^ (9 * ((dg 1000000000 m).length - 1)) := Nat.pow_le_pow_right (by omega) h3
      omega
theorem norm_plain' {p : Pl} (hp : PlainP p) (hin : inR p = true) : normA (dg 1000000000 p.m).length p.neg (vl 1000000000 (dg 1000000000 p.m)) p.e = ⟨0, p⟩ := by
  obtain ⟨h1, h2, h3⟩ := inR_bounds hin
  have h4 := dg9_few' (m := p.m) h1
  have hn : nearB (dg 1000000000 p.m).length p.e = true := decide_eq_true (by omega)
  rw [vl_dg (by omega)]
  unfold normA
  rw [if_pos hn]
  unfold tellA
  rw [pl_of_plain hp, if_pos hin]
theorem few_pl {p : Pl} (hin : inR p = true) : (dg 1000000000 p.m).length ≤ 9223372036854775807 := by
  have h4 := dg9_few' (m := p.m) (inR_bounds hin).1
  omega
theorem lo_pl (p : Pl) : Lo 4294967296 (dg 1000000000 p.m) := Lo_mono (Lo_dg (by omega) _) (by omega)
theorem addA_pp (A : Ans) (p : Pl) : addA A ⟨0, p⟩ = if A.err = 0 then addV A.p p else ⟨A.err, zP⟩ := by
  unfold addA
  by_cases h : A.err = 0
  · have hk : okP A ⟨0, p⟩ := ⟨h, rfl⟩
    rw [if_pos hk, if_pos h]
  · have hk : ¬ okP A ⟨0, p⟩ := fun k => h k.1
    rw [if_neg hk, if_neg h]
    unfold pairE
    by_cases h1 : A.err = 1
    · rw [if_pos (.inl h1), h1]
    · have h2 : ¬ (A.err = 1 ∨ (⟨0, p⟩ : Ans).err = 1) := by rintro (k | k); exact h1 k; cases k
      rw [if_neg h2, if_pos h]

section
variable {p q : Pl} (hp : PlainP p) (ip : inR p = true) (a1 : Option Addr) (c1 : Nat) (w : World) (r1 : Rd w .u32 a1 (dg 1000000000 p.m)) (htab : Tab w)
include hp ip r1 htab
/-- two plain numbers' sum -/
theorem cAddPP (hq : PlainP q) (iq : inR q = true) (a2 : Option Addr) (c2 : Nat) (r2 : Rd w .u32 a2 (dg 1000000000 q.m)) :
    Calls Tryz.prog 29 #[.agg #[.bool p.neg, .slice a1 (dg 1000000000 p.m).length c1, .int .i64 p.e], .agg #[.bool q.neg, .slice a2 (dg 1000000000 q.m).length c2, .int .i64 q.e]] w (ResA (addV p q) w) := by
  have h := DAdd_any p.neg q.neg a1 a2 c1 c2 _ _ p.e q.e w (few_pl ip) (few_pl iq) (lo_pl p) (lo_pl q) r1 r2 htab
  rw [norm_plain' hp ip, norm_plain' hq iq, addA_pp, if_pos rfl] at h
  exact h
/-- any number's sum with a plain one -/
theorem cAddRP (s : Bool) (a2 : Option Addr) (c2 : Nat) (l : List Nat) (e : Int) (hl : l.length ≤ 9223372036854775807) (hlo : Lo 4294967296 l) (r2 : Rd w .u32 a2 l) :
    Calls Tryz.prog 29 #[.agg #[.bool s, .slice a2 l.length c2, .int .i64 e], .agg #[.bool p.neg, .slice a1 (dg 1000000000 p.m).length c1, .int .i64 p.e]] w (ResA (addA (normA l.length s (vl 1000000000 l) e) ⟨0, p⟩) w) := by
  have h := DAdd_any s p.neg a2 a1 c2 c1 l _ e p.e w hl (few_pl ip) hlo (lo_pl p) r2 r1 htab
  rw [norm_plain' hp ip] at h
  exact h
/-- a plain number's product with any -/
theorem cMulPR (s : Bool) (a2 : Option Addr) (c2 : Nat) (l : List Nat) (e : Int) (hl : l.length ≤ 9223372036854775807) (hlo : Lo 4294967296 l) (r2 : Rd w .u32 a2 l) :
    Calls Tryz.prog 27 #[.agg #[.bool p.neg, .slice a1 (dg 1000000000 p.m).length c1, .int .i64 p.e], .agg #[.bool s, .slice a2 l.length c2, .int .i64 e]] w (ResA (mulA ⟨0, p⟩ (normA l.length s (vl 1000000000 l) e)) w) := by
  have h := DMul_any p.neg s a1 a2 c1 c2 _ l p.e e w (few_pl ip) hl (lo_pl p) hlo r1 r2 htab
  rw [norm_plain' hp ip] at h
  exact h
/-- two plain numbers held against each other -/
theorem cCmpPP (hq : PlainP q) (iq : inR q = true) (a2 : Option Addr) (c2 : Nat) (r2 : Rd w .u32 a2 (dg 1000000000 q.m)) :
    Calls Tryz.prog 30 #[.agg #[.bool p.neg, .slice a1 (dg 1000000000 p.m).length c1, .int .i64 p.e], .agg #[.bool q.neg, .slice a2 (dg 1000000000 q.m).length c2, .int .i64 q.e]] w fun r w' => r = .returned (.tuple #[.int .i64 (cmpP p q), .int .i64 0]) ∧ Below w.heap.size w w' := by
  have h := DCmp_any p.neg q.neg a1 a2 c1 c2 _ _ p.e q.e w (few_pl ip) (few_pl iq) (lo_pl p) (lo_pl q) r1 r2 htab
  rw [norm_plain' hp ip, norm_plain' hq iq] at h
  refine h.mono ?_
  rintro r w' ⟨hb, ⟨_, _, hr⟩ | ⟨hn, _⟩⟩
  · exact ⟨hr, hb⟩
  · exact absurd ⟨rfl, rfl⟩ hn
end
end Go.Proofs.YtimfpgpomafflaaGreatDoor
