/- Bits taken one by one, the lowest first; bits packed into words: plain mathematics. -/
import Derived.Test.YtelagemniheeoaaDoorMarA
namespace Go.Proofs.YtelagemniheeoaaDoor
open Go.RowKit BM

/-- the bits from j on -/
def hiB (x : BitVec 64) (j : Nat) : BitVec 64 := x &&& (BitVec.allOnes 64 <<< j)
theorem hiB_bit (x : BitVec 64) (j : Nat) {i : Nat} (hi : i < 64) : (hiB x j).getLsbD i = (x.getLsbD i && decide (j ≤ i)) := by
  unfold hiB
  rw [BitVec.getLsbD_and, BitVec.getLsbD_shiftLeft, BitVec.getLsbD_allOnes]
  by_cases h : j ≤ i <;> simp [hi, h]
  intro; omega
theorem hiB_zero (x : BitVec 64) : hiB x 0 = x := by apply BM.ext; intro i hi; rw [hiB_bit _ _ hi]; simp
/-- the lowest bit cleared -/
def lowB (x : BitVec 64) : BitVec 64 := x &&& (x - 1#64)
theorem lowB_bit {x : BitVec 64} (h : x ≠ 0#64) {i : Nat} (_hi : i < 64) : (lowB x).getLsbD i = (x.getLsbD i && decide (i ≠ tz x)) := by
  have h0 : x.toNat ≠ 0 := fun e => h (BitVec.eq_of_toNat_eq (by simpa using e))
  obtain ⟨m, hm, hk⟩ := Lib.ctzFrom_spec 64 x.toNat (by omega) x.isLt
  have e : tz x = Lib.ctzFrom 64 x.toNat := by simp [tz, Lib.ctz, h0]
  rw [e]
  generalize Lib.ctzFrom 64 x.toNat = t at *
  have hp : 0 < 2 ^ t := Nat.two_pow_pos t
  have e1 : x.toNat = 2 ^ (t + 1) * m + 2 ^ t := by rw [hm, Nat.mul_add, Nat.pow_succ, Nat.mul_one, Nat.mul_assoc]
  have e2 : (x - 1#64).toNat = 2 ^ (t + 1) * m + (2 ^ t - 1) := by
    rw [BitVec.toNat_sub]
    have := x.isLt
    show (2 ^ 64 - 1 + x.toNat) % 2 ^ 64 = _
    omega
  have hlt : 2 ^ t < 2 ^ (t + 1) := by rw [Nat.pow_succ]; omega
  unfold lowB
  rw [BitVec.getLsbD_and]
  unfold BitVec.getLsbD
  rw [e1, e2, Nat.testBit_two_pow_mul_add _ hlt, Nat.testBit_two_pow_mul_add _ (by omega)]
  by_cases c : i < t + 1
  · rw [if_pos c, if_pos c, Nat.testBit_two_pow, Nat.testBit_two_pow_sub_one]
    by_cases d : i = t
    · subst d; simp
    · have : ¬ t = i := fun h => d h.symm
      simp [d, this]
  · rw [if_neg c, if_neg c]
    have : i ≠ t := by omega
    simp [this]
theorem hiB_next {x : BitVec 64} {j : Nat} (h : hiB x j ≠ 0#64) : lowB (hiB x j) = hiB x (tz (hiB x j) + 1) ∧ j ≤ tz (hiB x j) ∧ tz (hiB x j) < 64 ∧ x.getLsbD (tz (hiB x j)) = true ∧ ∀ i, j ≤ i → i < tz (hiB x j) → x.getLsbD i = false := by
  obtain ⟨t1, t2, t3⟩ := tz_spec h
  rw [hiB_bit _ _ t1] at t2
  simp only [Bool.and_eq_true, decide_eq_true_iff] at t2
  have low : ∀ i, j ≤ i → i < tz (hiB x j) → x.getLsbD i = false := fun i h1 h2 => by
    have := t3 i h2
    rw [hiB_bit _ _ (by omega)] at this
    simpa [h1] using this
  refine ⟨?_, t2.2, t1, t2.1, low⟩
  apply BM.ext; intro i hi
  rw [lowB_bit h hi, hiB_bit _ _ hi, hiB_bit _ _ hi]
  by_cases c1 : i < j
  · have : ¬ j ≤ i := by omega
    have : ¬ tz (hiB x j) + 1 ≤ i := by omega
    simp [*]
  · by_cases c2 : i < tz (hiB x j)
    · rw [low i (by omega) c2]; simp
    · by_cases c3 : i = tz (hiB x j)
      · simp [c3]
      · have : tz (hiB x j) + 1 ≤ i := by omega
        have : j ≤ i := by omega
        simp [*]
theorem hiB_none {x : BitVec 64} {j : Nat} (h : hiB x j = 0#64) : ∀ i, j ≤ i → i < 64 → x.getLsbD i = false := fun i h1 h2 => by
  have := congrArg (fun y => y.getLsbD i) h
  simp only [hiB_bit _ _ h2, BitVec.getLsbD_zero] at this
  simpa [h1] using this
theorem lowB_lt {x : BitVec 64} (h : x ≠ 0#64) : (lowB x).toNat < x.toNat := by
  have h0 : x.toNat ≠ 0 := fun e => h (BitVec.eq_of_toNat_eq (by simpa using e))
  have h1 : (lowB x).toNat ≤ (x - 1#64).toNat := by unfold lowB; rw [BitVec.toNat_and]; exact Nat.and_le_right
  have h2 : (x - 1#64).toNat = x.toNat - 1 := by
    rw [BitVec.toNat_sub]
    have := x.isLt
    show (2 ^ 64 - 1 + x.toNat) % 2 ^ 64 = _
    omega
  omega
/-- what is told of the places below j at which b holds -/
def pick {α : Type} (b : Nat → Bool) (g : Nat → α) (j : Nat) : List α := (List.range j).flatMap fun i => if b i then [g i] else []
theorem pick_zero {α : Type} (b : Nat → Bool) (g : Nat → α) : pick b g 0 = [] := rfl
theorem pick_succ {α : Type} (b : Nat → Bool) (g : Nat → α) (j : Nat) : pick b g (j + 1) = pick b g j ++ (if b j then [g j] else []) := by simp [pick, List.range_succ]
theorem pick_none {α : Type} {b : Nat → Bool} {g : Nat → α} {j : Nat} : ∀ {n : Nat}, j ≤ n → (∀ i, j ≤ i → i < n → b i = false) → pick b g n = pick b g j := by
  intro n
  induction n with
  | zero => intro h _; rw [show j = 0 by omega]
  | succ n ih =>
    intro h hb
    rcases Nat.eq_or_lt_of_le h with e | e
    · rw [e]
    · rw [pick_succ, hb n (by omega) (by omega), ih (by omega) (fun i h1 h2 => hb i h1 (by omega))]; simp
theorem pick_next {α : Type} {b : Nat → Bool} {g : Nat → α} {j t : Nat} (h : j ≤ t) (ht : b t = true) (hb : ∀ i, j ≤ i → i < t → b i = false) : pick b g (t + 1) = pick b g j ++ [g t] := by
  rw [pick_succ, ht, if_pos rfl, pick_none h hb]
theorem pick_length {α : Type} (b : Nat → Bool) (g : Nat → α) : ∀ j, (pick b g j).length ≤ j
  | 0 => Nat.le_refl _
  | j + 1 => by
    have := pick_length b g j
    rw [pick_succ]
    cases b j <;> simp <;> omega
theorem pick_cong {α : Type} {b c : Nat → Bool} {g f : Nat → α} {j : Nat} (h : ∀ i, i < j → b i = c i ∧ (b i = true → g i = f i)) : pick b g j = pick c f j := by
  induction j with
  | zero => rfl
  | succ j ih =>
    rw [pick_succ, pick_succ, ih (fun i hi => h i (by omega)), (h j (by omega)).1]
    congr 1
    cases hc : c j
    · rfl
    · simp [(h j (by omega)).2 (by rw [(h j (by omega)).1]; exact hc)]
/-- the brackets of a word -/
def MS.br (x : MS) : BitVec 64 := x.o ||| x.c
def bw (x : MS) (j : Nat) : List Bool := pick (fun i => x.br.getLsbD i) (fun i => x.o.getLsbD i) j
def brs (xs : List MS) : List Bool := xs.flatMap fun x => bw x 64
theorem brs_nil : brs [] = [] := rfl
theorem brs_snoc (xs : List MS) (x : MS) : brs (xs ++ [x]) = brs xs ++ bw x 64 := by simp [brs]
theorem brs_length : ∀ (xs : List MS), (brs xs).length ≤ 64 * xs.length
  | [] => Nat.le_refl _
  | x :: xs => by
    have h1 := brs_length xs
    have h2 : (bw x 64).length ≤ 64 := pick_length _ _ 64
    have : brs (x :: xs) = bw x 64 ++ brs xs := by simp [brs]
    rw [this]; simp; omega
theorem take_snoc {xs : List MS} {k : Nat} {x : MS} (h : xs[k]? = some x) : xs.take (k + 1) = xs.take k ++ [x] := by
  rw [List.take_add_one, h]; rfl

/-- bits as words -/
def wb (bs : List Bool) (k : Nat) : BitVec 64 := mk (fun j => bs[64 * k + j]?.getD false) 64
def pkn (bs : List Bool) (n : Nat) : List Nat := (List.range n).map fun k => (wb bs k).toNat
theorem pkn_length (bs : List Bool) (n : Nat) : (pkn bs n).length = n := by simp [pkn]
theorem pkn_get (bs : List Bool) {n k : Nat} (h : k < n) : (pkn bs n)[k]?.getD 0 = (wb bs k).toNat := by simp [pkn, h]
theorem wb_old {bs : List Bool} {b : Bool} {k : Nat} (h : k < bs.length / 64) : wb (bs ++ [b]) k = wb bs k := by
  unfold wb
  refine mk_congr fun j hj => ?_
  rw [List.getElem?_append_left (by omega)]
theorem wb_zero {bs : List Bool} {k : Nat} (h : bs.length ≤ 64 * k) : wb bs k = 0#64 := by
  apply BM.ext; intro i hi
  unfold wb
  rw [mk_bit, List.getElem?_eq_none (by omega)]; simp
theorem wb_new (bs : List Bool) (b : Bool) : wb (bs ++ [b]) (bs.length / 64) = wb bs (bs.length / 64) ||| (bit0 b <<< (bs.length % 64)) := by
  apply BM.ext; intro i hi
  unfold wb
  rw [BitVec.getLsbD_or, mk_bit, mk_bit, BitVec.getLsbD_shiftLeft]
  have hb0 : ∀ j, (bit0 b).getLsbD j = (b && decide (j = 0)) := fun j => by unfold bit0; cases b <;> simp [BitVec.getLsbD_one]
  rw [hb0]
  by_cases c : 64 * (bs.length / 64) + i < bs.length
  · rw [List.getElem?_append_left c]
    have : i < bs.length % 64 := by omega
    simp [hi, this]
  · rw [List.getElem?_append_right (by omega), List.getElem?_eq_none (l := bs) (by omega)]
    by_cases d : i = bs.length % 64
    · subst d
      have : 64 * (bs.length / 64) + bs.length % 64 - bs.length = 0 := by omega
      simp [hi, this]
    · have h1 : 64 * (bs.length / 64) + i - bs.length ≠ 0 := by omega
      have h2 : [b][64 * (bs.length / 64) + i - bs.length]? = none := List.getElem?_eq_none (by simp; omega)
      have h3 : i - bs.length % 64 ≠ 0 := by omega
      rw [h2]; simp [h3]
/-- a word more, if one is needed -/
theorem pkn_room {bs : List Bool} (h : bs.length % 64 = 0) : pkn bs (nw bs.length) ++ [0] = pkn bs (bs.length / 64 + 1) := by
  have e : nw bs.length = bs.length / 64 := by unfold nw; omega
  rw [e]
  have : pkn bs (bs.length / 64 + 1) = pkn bs (bs.length / 64) ++ [(wb bs (bs.length / 64)).toNat] := by simp [pkn, List.range_succ]
  rw [this, wb_zero (by omega)]; rfl
theorem nw_no {n : Nat} (h : ¬ n % 64 = 0) : nw n = n / 64 + 1 := by unfold nw; omega
theorem nw_yes {n : Nat} (h : n % 64 = 0) : nw n + 1 = n / 64 + 1 := by unfold nw; omega
theorem nw_succ (n : Nat) : nw (n + 1) = n / 64 + 1 := by unfold nw; omega
theorem pkn_set (bs : List Bool) (b : Bool) : (pkn bs (bs.length / 64 + 1)).set (bs.length / 64) (wb bs (bs.length / 64) ||| (bit0 b <<< (bs.length % 64))).toNat = pkn (bs ++ [b]) (bs.length / 64 + 1) := by
  rw [← wb_new]
  apply List.ext_getElem
  · simp [pkn]
  · intro j h1 h2
    simp only [pkn, List.getElem_set, List.getElem_map, List.getElem_range]
    by_cases c : bs.length / 64 = j
    · rw [if_pos c, c]
    · rw [if_neg c]
      simp [pkn] at h1
      rw [wb_old (by omega)]
theorem opens_val (x : BitVec 64) (t : Nat) : bits .and .u64 (val x / 2 ^ t) 1 = val (bit0 (bitAt x t)) := by
  rw [u_shr, and_one]
  have h := sr_odd x t
  have h1 := val_nn (sr x t)
  cases hb : bitAt x t
  · rw [hb] at h
    have : ¬ val (sr x t) % 2 = 1 := by simpa using h
    show _ = (0 : Int); omega
  · rw [hb] at h
    have : val (sr x t) % 2 = 1 := by simpa using h
    show _ = (1 : Int); omega
theorem u_low (x : BitVec 64) : bits .and .u64 (val x) (IntKind.u64.wrap (val x - 1)) = val (lowB x) := by
  have : IntKind.u64.wrap (val x - 1) = val (x - 1#64) := by rw [i_1, u_sub]
  rw [this, u_and]; rfl
end Go.Proofs.YtelagemniheeoaaDoor
