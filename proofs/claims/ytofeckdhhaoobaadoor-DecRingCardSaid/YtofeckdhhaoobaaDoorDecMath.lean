/- Plain mathematics of exact decimals: noughts at the end, the plain one of a worth, what fits. Nothing of the program. -/
import Derived.Test.YtofeckdhhaoobaaDoorLimbMaths
namespace Go.Proofs.YtofeckdhhaoobaaDoor.LM

/-- how many noughts a number's digits end with -/
def tz (n : Nat) : Nat := if _h : 0 < n ∧ n % 10 = 0 then tz (n / 10) + 1 else 0
termination_by n
decreasing_by exact Nat.div_lt_self _h.1 (by omega)
theorem tz_no {n : Nat} (h : n % 10 ≠ 0) : tz n = 0 := by rw [tz]; simp [h]
theorem tz_zero : tz 0 = 0 := by rw [tz]; simp
theorem tz_yes {n : Nat} (h0 : 0 < n) (h : n % 10 = 0) : tz n = tz (n / 10) + 1 := by rw [tz]; simp [h0, h]
theorem tz_mul {m : Nat} (hm : 0 < m) : ∀ k, tz (m * 10 ^ k) = tz m + k := by
  intro k
  induction k with
  | zero => simp
  | succ k ih =>
    have hp : 0 < 10 ^ k := Nat.pow_pos (by omega)
    have hmp : 0 < m * 10 ^ k := Nat.mul_pos hm hp
    rw [Nat.pow_succ, ← Nat.mul_assoc, tz_yes (by omega) (Nat.mul_mod_left _ _), Nat.mul_div_left _ (by omega), ih]; omega
theorem tz_plain {m : Nat} (hm : m % 10 ≠ 0) (k : Nat) : tz (m * 10 ^ k) = k := by rw [tz_mul (by omega), tz_no hm, Nat.zero_add]
/-- a number without its noughts at the end -/
def core (n : Nat) : Nat := n / 10 ^ tz n
theorem core_zero : core 0 = 0 := by unfold core; rw [Nat.zero_div]
theorem tz_spec : ∀ n, 0 < n → core n % 10 ≠ 0 ∧ core n * 10 ^ tz n = n := by
  intro n
  induction n using Nat.strongRecOn with
  | _ n ih =>
    intro hn
    unfold core
    by_cases h : n % 10 = 0
    · have h1 := ih (n / 10) (by omega) (by omega)
      unfold core at h1
      rw [tz_yes hn h, Nat.pow_succ, Nat.mul_comm (10 ^ tz (n / 10)) 10, ← Nat.div_div_eq_div_mul]
      refine ⟨h1.1, ?_⟩
      rw [Nat.mul_left_comm, h1.2]; omega
    · rw [tz_no h]; simp [h]
theorem core_plain {m : Nat} (hm : m % 10 ≠ 0) (k : Nat) : core (m * 10 ^ k) = m := by
  unfold core; rw [tz_plain hm, Nat.mul_div_cancel _ (Nat.pow_pos (by omega))]
theorem core_pos {n : Nat} (h : 0 < n) : 0 < core n := by have := (tz_spec n h).1; omega
theorem core_le (n : Nat) : core n ≤ n := Nat.div_le_self _ _
theorem tz_lt {n M : Nat} (h0 : 0 < n) (h : n < 10 ^ M) : tz n < M := by
  have h1 := (tz_spec n h0).2
  have h2 := core_pos h0
  rcases Nat.lt_or_ge (tz n) M with h3 | h3
  · exact h3
  · exfalso
    have h4 : 10 ^ M ≤ 10 ^ tz n := Nat.pow_le_pow_right (by omega) h3
    have h5 := Nat.le_mul_of_pos_left (10 ^ tz n) h2
    omega

/-- a number in sign, digits' worth, and power -/
structure Pl where
  neg : Bool
  m : Nat
  e : Int
def zP : Pl := ⟨false, 0, 0⟩
/-- the plain one -/
def pl (s : Bool) (v : Nat) (e : Int) : Pl := if v = 0 then zP else ⟨s, core v, e + tz v⟩
def dl (m : Nat) : Nat := (dg 10 m).length
def inR (p : Pl) : Bool := decide (dl p.m ≤ 400 ∧ -10000 ≤ p.e + dl p.m - 1 ∧ p.e + dl p.m - 1 ≤ 10000)
/-- an answer: an error's number, and a number -/
structure Ans where
  err : Nat
  p : Pl
def tellA (s : Bool) (v : Nat) (e : Int) : Ans := if inR (pl s v e) = true then ⟨0, pl s v e⟩ else ⟨3, zP⟩
def nearB (n : Nat) (e : Int) : Bool := decide (n ≤ 200 ∧ -30000 ≤ e ∧ e ≤ 30000)
def normA (n : Nat) (s : Bool) (v : Nat) (e : Int) : Ans := if nearB n e = true then tellA s v e else ⟨1, zP⟩
/-- is plain -/
def PlainP (p : Pl) : Prop := (p.m = 0 ∧ p = zP) ∨ p.m % 10 ≠ 0
theorem pl_plain (s : Bool) (v : Nat) (e : Int) : PlainP (pl s v e) := by
  unfold pl
  by_cases h : v = 0
  · rw [if_pos h]; exact .inl ⟨rfl, rfl⟩
  · rw [if_neg h]; exact .inr (tz_spec v (by omega)).1
theorem pl_of_plain {p : Pl} (h : PlainP p) : pl p.neg p.m p.e = p := by
  unfold pl
  rcases h with ⟨h0, h1⟩ | h
  · rw [if_pos h0, h1]
  · rw [if_neg (by omega)]
    have e1 : core p.m = p.m := by have := core_plain h 0; simpa using this
    rw [e1, tz_no h]; simp
theorem zP_in : inR zP = true := by
  unfold inR zP dl
  rw [dg_zero]; rfl
theorem inR_bounds {p : Pl} (h : inR p = true) : dl p.m ≤ 400 ∧ -10400 ≤ p.e ∧ p.e ≤ 10001 := by
  unfold inR at h
  have := of_decide_eq_true h
  omega
theorem tellA_in (s : Bool) (v : Nat) (e : Int) : inR (tellA s v e).p = true := by
  unfold tellA
  by_cases h : inR (pl s v e) = true
  · rw [if_pos h]; exact h
  · rw [if_neg h]; exact zP_in
theorem tellA_plain (s : Bool) (v : Nat) (e : Int) : PlainP (tellA s v e).p := by
  unfold tellA
  by_cases h : inR (pl s v e) = true
  · rw [if_pos h]; exact pl_plain _ _ _
  · rw [if_neg h]; exact .inl ⟨rfl, rfl⟩
theorem normA_in (n : Nat) (s : Bool) (v : Nat) (e : Int) : inR (normA n s v e).p = true := by
  unfold normA
  split
  · exact tellA_in _ _ _
  · exact zP_in
theorem normA_plain (n : Nat) (s : Bool) (v : Nat) (e : Int) : PlainP (normA n s v e).p := by
  unfold normA
  split
  · exact tellA_plain _ _ _
  · exact .inl ⟨rfl, rfl⟩
theorem Ans.z_of_err {n : Nat} {s : Bool} {v : Nat} {e : Int} (h : (normA n s v e).err ≠ 0) : (normA n s v e).p = zP := by
  unfold normA tellA at *
  split at h
  · rename_i h1
    rw [if_pos h1]
    split at h
    · exact absurd rfl h
    · rename_i h2; rw [if_neg h2]
  · rename_i h1; rw [if_neg h1]

/-! Noughts at the end of limbs. -/
theorem tz_limbs {l : List Nat} {k : Nat} (hk : k < l.length) (hz : ∀ j, j < k → l[j]?.getD 0 = 0) (hne : l[k]?.getD 0 ≠ 0) (hlo : Lo 1000000000 l) : tz (vl 1000000000 l) = 9 * k + tz (l[k]?.getD 0) := by
  have h1 : ∀ j, j ≤ k → vl 1000000000 (l.take j) = 0 := by
    intro j
    induction j with
    | zero => intro _; rfl
    | succ j ih => intro hj; rw [take_snoc l j (by omega), vl_append, ih (by omega), vl_one, hz j (by omega)]; simp
  have h2 := vl_drop (b := 1000000000) (l := l) (k := k) (by omega)
  rw [h1 k (Nat.le_refl _), Nat.zero_add, vl_drop_step hk] at h2
  have hx := Lo_get hlo (by omega) k
  generalize l[k]?.getD 0 = x at *
  generalize vl 1000000000 (l.drop (k + 1)) = r at *
  rw [h2, show (1000000000 : Nat) ^ k = 10 ^ (9 * k) by rw [show (1000000000 : Nat) = 10 ^ 9 by decide, ← Nat.pow_mul], Nat.mul_comm, tz_mul (by omega)]
  obtain ⟨c1, c2⟩ := tz_spec x (by omega)
  have ht : tz x < 9 := tz_lt (M := 9) (by omega) (by rw [show (10 : Nat) ^ 9 = 1000000000 by decide]; exact hx)
  have e : x + 1000000000 * r = (core x + 10 ^ (9 - tz x) * r) * 10 ^ tz x := by
    rw [Nat.add_mul, c2, Nat.mul_right_comm, ← Nat.pow_add, show 9 - tz x + tz x = 9 by omega, show (10 : Nat) ^ 9 = 1000000000 by decide]
  have hmod : (core x + 10 ^ (9 - tz x) * r) % 10 ≠ 0 := by
    obtain ⟨q, hq⟩ : ∃ q, 9 - tz x = q + 1 := ⟨9 - tz x - 1, by omega⟩
    rw [hq, Nat.pow_succ, Nat.mul_comm (10 ^ q) 10, Nat.mul_assoc, Nat.add_mul_mod_self_left]; exact c1
  rw [e, tz_plain hmod]; omega
end Go.Proofs.YtofeckdhhaoobaaDoor.LM
