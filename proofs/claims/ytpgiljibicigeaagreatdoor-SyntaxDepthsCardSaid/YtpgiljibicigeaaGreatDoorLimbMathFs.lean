/- Plain mathematics: digits in base 10 and limbs. Nothing of the program. -/
import Derived.Test.YtpgiljibicigeaaGreatDoorLimbKs
import Derived.BigQuiet
import Derived.IntWalk
set_option linter.unusedVariables false
set_option linter.unusedSimpArgs false
namespace Go.Proofs.YtpgiljibicigeaaGreatDoor.LM

end Go.Proofs.YtpgiljibicigeaaGreatDoor.LM

/- Plain mathematics: the document's difference, product, quotient, text, cut. Nothing of the program. -/
namespace Go.Proofs.YtpgiljibicigeaaGreatDoor.LM

/-! The difference -/
/-! The product -/
/-! The cut -/
/-! The quotient -/
/-! The text -/
end Go.Proofs.YtpgiljibicigeaaGreatDoor.LM

/- Plain mathematics of exact decimals: noughts at the end, the plain one of a worth, what fits. Nothing of the program. -/
namespace Go.Proofs.YtpgiljibicigeaaGreatDoor.LM

/-- how many noughts a number's digits end with -/
def tz (n : Nat) : Nat := if _h : 0 < n ∧ n % 10 = 0 then tz (n / 10) + 1 else 0
termination_by n
decreasing_by exact Nat.div_lt_self _h.1 (by omega)
theorem tz_no {n : Nat} (h : n % 10 ≠ 0) : tz n = 0 := by rw [tz]; simp [h]
theorem tz_zero : tz 0 = 0 := by rw [tz]; simp
theorem tz_yes {n : Nat} (h0 : 0 < n) (h : n % 10 = 0) : tz n = tz (n / 10) + 1 := by rw [tz]; simp [h0, h]
theorem tz_mul {m : Nat} (hm : 0 < m) : ∀ k, tz (m * 10 ^ k) = tz m + k := by
  intro k
  induction k with
  | zero => simp
  | succ k ih =>
    have hp : 0 < 10 ^ k := Nat.pow_pos (by omega)
    have hmp : 0 < m * 10 ^ k := Nat.mul_pos hm hp
    rw [Nat.pow_succ, ← Nat.mul_assoc, tz_yes (by omega) (Nat.mul_mod_left _ _), Nat.mul_div_left _ (by omega), ih]; omega
theorem tz_plain {m : Nat} (hm : m % 10 ≠ 0) (k : Nat) : tz (m * 10 ^ k) = k := by rw [tz_mul (by omega), tz_no hm, Nat.zero_add]
/-- a number without its noughts at the end -/
def core (n : Nat) : Nat := n / 10 ^ tz n
theorem tz_spec : ∀ n, 0 < n → core n % 10 ≠ 0 ∧ core n * 10 ^ tz n = n := by
  intro n
  induction n using Nat.strongRecOn with
  | _ n ih =>
    intro hn
    unfold core
    by_cases h : n % 10 = 0
    · have h1 := ih (n / 10) (by omega) (by omega)
      unfold core at h1
      rw [tz_yes hn h, Nat.pow_succ, Nat.mul_comm (10 ^ tz (n / 10)) 10, ← Nat.div_div_eq_div_mul]
      refine ⟨h1.1, ?_⟩
      rw [Nat.mul_left_comm, h1.2]; omega
    · rw [tz_no h]; simp [h]
theorem core_pos {n : Nat} (h : 0 < n) : 0 < core n := by have := (tz_spec n h).1; omega
theorem core_le (n : Nat) : core n ≤ n := Nat.div_le_self _ _
theorem tz_lt {n M : Nat} (h0 : 0 < n) (h : n < 10 ^ M) : tz n < M := by
  have h1 := (tz_spec n h0).2
  have h2 := core_pos h0
  rcases Nat.lt_or_ge (tz n) M with h3 | h3
  · exact h3
  · exfalso
    have h4 : 10 ^ M ≤ 10 ^ tz n := Nat.pow_le_pow_right (by omega) h3
    have h5 := Nat.le_mul_of_pos_left (10 ^ tz n) h2
    omega

/-- a number in sign, digits' worth, and power -/
structure Pl where
  neg : Bool
  m : Nat
  e : Int
def zP : Pl := ⟨false, 0, 0⟩
/-- the plain one -/
def pl (s : Bool) (v : Nat) (e : Int) : Pl := if v = 0 then zP else ⟨s, core v, e + tz v⟩
def dl (m : Nat) : Nat := (dg 10 m).length
def inR (p : Pl) : Bool := decide (dl p.m ≤ 400 ∧ -10000 ≤ p.e + dl p.m - 1 ∧ p.e + dl p.m - 1 ≤ 10000)
/-- an answer: an error's number, and a number -/
structure Ans where
  err : Nat
  p : Pl
def tellA (s : Bool) (v : Nat) (e : Int) : Ans := if inR (pl s v e) = true then ⟨0, pl s v e⟩ else ⟨3, zP⟩
theorem zP_in : inR zP = true := by
  unfold inR zP dl
  rw [dg_zero]; rfl
/-! Noughts at the end of limbs. -/
theorem tz_limbs {l : List Nat} {k : Nat} (hk : k < l.length) (hz : ∀ j, j < k → l[j]?.getD 0 = 0) (hne : l[k]?.getD 0 ≠ 0) (hlo : Lo 1000000000 l) : tz (vl 1000000000 l) = 9 * k + tz (l[k]?.getD 0) := by
  have h1 : ∀ j, j ≤ k → vl 1000000000 (l.take j) = 0 := by
    intro j
    induction j with
    | zero => intro _; rfl
    | succ j ih => intro hj; rw [take_snoc l j (by omega), vl_append, ih (by omega), vl_one, hz j (by omega)]; simp
  have h2 := vl_drop (b := 1000000000) (l := l) (k := k) (by omega)
  rw [h1 k (Nat.le_refl _), Nat.zero_add, vl_drop_step hk] at h2
  have hx := Lo_get hlo (by omega) k
  generalize l[k]?.getD 0 = x at *
  generalize vl 1000000000 (l.drop (k + 1)) = r at *
  rw [h2, show (1000000000 : Nat) ^ k = 10 ^ (9 * k) by rw [show (1000000000 : Nat) = 10 ^ 9 by decide, ← Nat.pow_mul], Nat.mul_comm, tz_mul (by omega)]
  obtain ⟨c1, c2⟩ := tz_spec x (by omega)
  have ht : tz x < 9 := tz_lt (M := 9) (by omega) (by rw [show (10 : Nat) ^ 9 = 1000000000 by decide]; exact hx)
  have e : x + 1000000000 * r = (core x + 10 ^ (9 - tz x) * r) * 10 ^ tz x := by
    rw [Nat.add_mul, c2, Nat.mul_right_comm, ← Nat.pow_add, show 9 - tz x + tz x = 9 by omega, show (10 : Nat) ^ 9 = 1000000000 by decide]
  have hmod : (core x + 10 ^ (9 - tz x) * r) % 10 ≠ 0 := by
    obtain ⟨q, hq⟩ : ∃ q, 9 - tz x = q + 1 := ⟨9 - tz x - 1, by omega⟩
    rw [hq, Nat.pow_succ, Nat.mul_comm (10 ^ q) 10, Nat.mul_assoc, Nat.add_mul_mod_self_left]; exact c1
  rw [e, tz_plain hmod]; omega
end Go.Proofs.YtpgiljibicigeaaGreatDoor.LM

/- Walks of dec: isNear, noughtsAtEnd. -/
namespace Go.Proofs.YtpgiljibicigeaaGreatDoor
open Go.RowKit LM

theorem zeros_worth {l : List Nat} : ∀ k, k ≤ l.length → (∀ j, j < k → l[j]?.getD 0 = 0) → vl 1000000000 (l.take k) = 0 := by
  intro k
  induction k with
  | zero => intro _ _; rfl
  | succ k ih => intro hk h; rw [take_snoc l k (by omega), vl_append, ih (by omega) (fun j hj => h j (by omega)), vl_one, h k (by omega)]; simp
theorem zeros_more {l : List Nat} {k : Nat} (h0 : 0 < vl 1000000000 l) (hk : k < l.length) (hz : ∀ j, j < k → l[j]?.getD 0 = 0) (h : l[k]?.getD 0 = 0) : k + 1 < l.length := by
  rcases Nat.lt_or_ge (k + 1) l.length with h1 | h1
  · exact h1
  · exfalso
    have h2 := zeros_worth (l := l) (k + 1) (by omega) (fun j hj => by
      rcases Nat.lt_or_ge j k with h3 | h3
      · exact hz j h3
      · rw [show j = k by omega]; exact h)
    rw [List.take_of_length_le h1] at h2
    omega

set_option maxHeartbeats 2000000 in
theorem noughtsAtEnd_any (a : Option Addr) (c : Nat) (l : List Nat) (w : World) (hl : l.length ≤ 1000000) (hlo : Lo 1000000000 l) (hv : 0 < vl 1000000000 l) (hrd : Rd w .u32 a l) :
    Calls Tryz.prog 136 #[.slice a l.length c] w fun e w' => e = .returned (.int .i64 (tz (vl 1000000000 l) : Nat)) ∧ w = w' := by
  have HLO := Lib.hid hlo; have HV := Lib.hid hv
  have hpos : 0 < l.length := by
    rcases Nat.eq_zero_or_pos l.length with e | e
    · rw [List.eq_nil_of_length_eq_zero e] at hv; simp [vl] at hv
    · exact e
  clear hlo hv
  go_enter Tryz.func136, Tryz.ntmps136
  go_wp2
  go_loop [3] (fun i => ∃ k : Nat, k < l.length ∧ i = .int .i64 k ∧ Hid (∀ j, j < k → l[j]?.getD 0 = 0)) (fun i => l.length - (intOf i).toNat)
  case atStart => exact ⟨0, hpos, rfl, Lib.hid (fun j hj => by omega)⟩
  case round =>
    obtain ⟨k, hk, rfl, HZ⟩ := hrel
    obtain ⟨b, off, x, e1, HX, hx, hc⟩ := hrd.get HLO.out k hk
    subst e1
    rcases Nat.eq_zero_or_pos x with h0 | h0
    · have hk1 : k + 1 < l.length := zeros_more HV.out hk HZ.out (by rw [← HX.out]; exact h0)
      have HZ1 := Lib.hid (show ∀ j, j < k + 1 → l[j]?.getD 0 = 0 from fun j hj => by
        rcases Nat.lt_or_ge j k with h3 | h3
        · exact HZ.out j h3
        · rw [show j = k by omega, ← HX.out]; exact h0)
      have hxB : ((x : Int) == 0) = true := by simp [h0]
      clear h0
      go_wp2
      go_round
      case rel => exact ⟨k + 1, hk1, by go_num, HZ1⟩
      case measure => simp [intOf]; omega
    · have hxB : ((x : Int) == 0) = false := by simp; omega
      have hT := tz_limbs hk HZ.out (by rw [← HX.out]; omega) HLO.out
      rw [← HX.out] at hT
      have HT := Lib.hid hT
      clear hT
      go_wp2_with fail
      clear hxB hc
      go_loop [4, 5] (fun v4 v5 => ∃ j r : Nat, v4 = .int .i64 ((9 * k + j : Nat) : Int) ∧ v5 = .int .u32 r ∧ 0 < r ∧ r < 1000000000 ∧ j ≤ 9 ∧ r * 10 ^ j ≤ 1000000000 ∧ Hid (tz x = j + tz r)) (fun _ v5 => (intOf v5).toNat)
      case atStart => exact ⟨0, x, by go_num, rfl, h0, hx, by omega, by omega, Lib.hid (by omega)⟩
      case round =>
        obtain ⟨j, r, rfl, rfl, hr0, hr, hj, hrj, HJ⟩ := hrel
        by_cases hm : r % 10 = 0
        · have hmB : ((r : Int) % 10 == 0) = true := by simp; omega
          have hj9 : j + 1 ≤ 9 := by
            rcases Nat.lt_or_ge j 9 with h | h
            · exact h
            · exfalso
              have : j = 9 := by omega
              rw [this] at hrj
              omega
          have hrj2 : r / 10 * 10 ^ (j + 1) ≤ 1000000000 := by
            rw [Nat.pow_succ, Nat.mul_comm (10 ^ j) 10, ← Nat.mul_assoc, show r / 10 * 10 = r by omega]; exact hrj
          have HJ2 := Lib.hid (show tz x = (j + 1) + tz (r / 10) by rw [HJ.out, tz_yes hr0 hm]; omega)
          have hr10 : 0 < r / 10 := by omega
          have hrlt : r / 10 < r := by omega
          clear hm hrj
          go_wp2
          go_round
          case rel => exact ⟨j + 1, r / 10, by go_num, by go_num, hr10, by omega, hj9, hrj2, HJ2⟩
          case measure => simp [intOf]; omega
        · have hmB : ((r : Int) % 10 == 0) = false := by simp; omega
          have hfin := HT.out
          rw [HJ.out, tz_no hm] at hfin
          have HFIN := Lib.hid hfin
          clear hfin hm
          go_wp2
          go_ret
          exact ⟨ret_int (by rw [HFIN.out]; omega), rfl⟩
end Go.Proofs.YtpgiljibicigeaaGreatDoor

/- Walks: the document's answer: trim, digit, Add, Shift. -/
namespace Go.Proofs.YtpgiljibicigeaaGreatDoor
open Go.RowKit LM

end Go.Proofs.YtpgiljibicigeaaGreatDoor

/- Walks: the document's answer: From, To; of, to. -/
namespace Go.Proofs.YtpgiljibicigeaaGreatDoor
open Go.RowKit LM

theorem dg10_le {l : List Nat} (hlo : Lo 4294967296 l) (k : Nat) : (dg 10 (vl 1000000000 (l.take k))).length ≤ 9 * (k + 1) := by
  refine dg_len_of_lt (by omega) ?_
  have h1 := vl_bound (l := l.take k) (fun z hz => hlo z (List.mem_of_mem_take hz))
  rw [show (1000000000 : Nat) = 10 ^ 9 by decide, ← Nat.pow_mul] at h1
  refine Nat.lt_of_lt_of_le (by rw [show (1000000000 : Nat) = 10 ^ 9 by decide]; exact h1) (Nat.pow_le_pow_right (by omega) ?_)
  have : (l.take k).length ≤ k := by rw [List.length_take]; exact Nat.min_le_left _ _
  omega

end Go.Proofs.YtpgiljibicigeaaGreatDoor
