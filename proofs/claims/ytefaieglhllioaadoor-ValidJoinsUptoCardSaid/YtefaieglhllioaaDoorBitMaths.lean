/- Masks of 64 bits: plain mathematics. -/
import Derived.IntWalk
import Derived.Test.YtefaieglhllioaaDoorChecked
import Derived.WalkKit
import Derived.Outline
import Derived.Lib.Hide
import Derived.Laws.BitsAllLaws
namespace Go.Proofs.YtefaieglhllioaaDoor.BM

/-- the mask of the first n places at which f holds -/
def mk (f : Nat → Bool) : Nat → BitVec 64
  | 0 => 0#64
  | n + 1 => mk f n + (if f n then 1#64 <<< n else 0#64)

theorem one_shl (n i : Nat) : (1#64 <<< n).getLsbD i = (decide (i < 64) && decide (i = n)) := by
  rw [BitVec.getLsbD_shiftLeft]
  by_cases h : i < 64 <;> by_cases e : i = n <;> simp [h, e, BitVec.getLsbD_one] <;> omega

theorem mk_bit (f : Nat → Bool) (n i : Nat) : (mk f n).getLsbD i = (decide (i < 64) && decide (i < n) && f i) := by
  induction n generalizing i with
  | zero => simp [mk]
  | succ n ih =>
    unfold mk
    by_cases hf : f n = true
    · simp only [hf, if_true]
      rw [BitVec.add_eq_or_of_and_eq_zero]
      · rw [BitVec.getLsbD_or, ih, one_shl]
        by_cases h : i < 64 <;> by_cases e : i = n <;> by_cases l : i < n <;> simp [h, e, l, hf] <;> (try omega)
        all_goals (intro; omega)
      · apply BitVec.eq_of_getLsbD_eq
        intro j hj
        rw [BitVec.getLsbD_and, ih, one_shl]
        by_cases e : j = n <;> simp [e]
    · have hf' : f n = false := by simpa using hf
      simp only [hf', Bool.false_eq_true, if_false]
      rw [BitVec.add_zero, ih]
      by_cases h : i < 64 <;> by_cases e : i = n <;> by_cases l : i < n <;> simp [h, e, l, hf'] <;> (try omega)
      all_goals (intro; omega)

theorem mk_congr {f g : Nat → Bool} {n : Nat} (h : ∀ i, i < n → f i = g i) : mk f n = mk g n := by
  induction n with
  | zero => rfl
  | succ n ih => unfold mk; rw [ih (fun i hi => h i (by omega)), h n (by omega)]
theorem ext {x y : BitVec 64} (h : ∀ i, i < 64 → x.getLsbD i = y.getLsbD i) : x = y := BitVec.eq_of_getLsbD_eq h
/-- a mask is that of its own bits -/
theorem mk_self (x : BitVec 64) : mk (fun i => x.getLsbD i) 64 = x := by
  apply ext; intro i hi; rw [mk_bit]; simp [hi]
theorem eq_mk {x : BitVec 64} {f : Nat → Bool} (h : ∀ i, i < 64 → x.getLsbD i = f i) : x = mk f 64 := by
  apply ext; intro i hi; rw [mk_bit, h i hi]; simp [hi]

/-- a word as a number, behind a name (no rule of simp's turns it) -/
def val (x : BitVec 64) : Int := (x.toNat : Int)
theorem val_nn (x : BitVec 64) : 0 ≤ val x := Int.natCast_nonneg _
theorem val_lt (x : BitVec 64) : val x < 18446744073709551616 := by have := x.isLt; unfold val; omega
def pw (j : Nat) : BitVec 64 := 1#64 <<< j
def sr (x : BitVec 64) (j : Nat) : BitVec 64 := x >>> j
def put (x : BitVec 64) (i : Nat) (on : Bool) : BitVec 64 := x + (if on then 1#64 <<< i else 0#64)
/-- a bit, as a word of its own (no rule of simp's turns it) -/
def bitAt (x : BitVec 64) (k : Nat) : Bool := x.getLsbD k
/-- the sum of the bits 0 to i -/
def par (x : BitVec 64) : Nat → Bool
  | 0 => x.getLsbD 0
  | i + 1 => par x i ^^ x.getLsbD (i + 1)
/-- the sum of the bits below i -/
def parTo (x : BitVec 64) : Nat → Bool
  | 0 => false
  | i + 1 => par x i
theorem parTo_step (x : BitVec 64) (i : Nat) : par x i = (parTo x i ^^ bitAt x i) := by
  cases i with
  | zero => simp [par, parTo, bitAt]
  | succ i => rfl
/-- one doubling -/
def dbl (x : BitVec 64) (k : Nat) : BitVec 64 := x ^^^ (x <<< 2 ^ k)
def dbls (x : BitVec 64) : Nat → BitVec 64
  | 0 => x
  | k + 1 => dbl (dbls x k) k
def pre (x : BitVec 64) : BitVec 64 := dbls x 6
theorem dbls_bit (x : BitVec 64) (k i : Nat) (hi : i < 64) : (dbls x k).getLsbD i = if i < 2 ^ k then par x i else (par x i ^^ par x (i - 2 ^ k)) := by
  induction k generalizing i with
  | zero =>
    cases i with
    | zero => simp [dbls, par]
    | succ i =>
      have : ¬ i + 1 < 2 ^ 0 := by omega
      rw [if_neg this]
      show x.getLsbD (i + 1) = (par x i ^^ x.getLsbD (i + 1) ^^ par x i)
      cases par x i <;> cases x.getLsbD (i + 1) <;> rfl
  | succ k ih =>
    show ((dbls x k) ^^^ ((dbls x k) <<< 2 ^ k)).getLsbD i = _
    rw [BitVec.getLsbD_xor, BitVec.getLsbD_shiftLeft, ih i hi]
    have e2 : 2 ^ (k + 1) = 2 ^ k + 2 ^ k := by omega
    by_cases h1 : i < 2 ^ k
    · rw [if_pos h1, if_pos (by omega)]; simp [h1]
    · rw [if_neg h1]
      rw [ih (i - 2 ^ k) (Nat.lt_of_le_of_lt (Nat.sub_le _ _) hi)]
      by_cases h2 : i < 2 ^ (k + 1)
      · rw [if_pos h2, if_pos (by omega)]; simp [h1, hi]
      · rw [if_neg h2, if_neg (by omega)]
        rw [show i - 2 ^ k - 2 ^ k = i - 2 ^ (k + 1) by omega]
        simp [h1, hi]
theorem pre_bit (x : BitVec 64) (i : Nat) (hi : i < 64) : (pre x).getLsbD i = par x i := by
  unfold pre; rw [dbls_bit x 6 i hi, if_pos (by omega)]
theorem pre_mk (x : BitVec 64) : pre x = mk (par x) 64 := eq_mk fun i hi => pre_bit x i hi
theorem par_xor (x y : BitVec 64) (i : Nat) : par (x ^^^ y) i = (par x i ^^ par y i) := by
  induction i with
  | zero => simp [par]
  | succ i ih => simp only [par, ih, BitVec.getLsbD_xor]; cases par x i <;> cases par y i <;> cases x.getLsbD (i+1) <;> cases y.getLsbD (i+1) <;> rfl
theorem pre_xor (x y : BitVec 64) : pre (x ^^^ y) = pre x ^^^ pre y := by
  apply ext; intro i hi; rw [BitVec.getLsbD_xor, pre_bit _ _ hi, pre_bit _ _ hi, pre_bit _ _ hi, par_xor]
theorem pre_undo (x : BitVec 64) : pre x ^^^ (pre x <<< 1) = x := by
  apply ext; intro i hi
  rw [BitVec.getLsbD_xor, BitVec.getLsbD_shiftLeft, pre_bit _ _ hi]
  cases i with
  | zero => simp [par]
  | succ i => rw [show i + 1 - 1 = i from rfl, pre_bit _ _ (by omega)]; simp only [par]; cases par x i <;> cases x.getLsbD (i + 1) <;> simp [hi]

/-- within strings -/
def ins (x : BitVec 64) (b : Bool) : BitVec 64 := if b then ~~~ pre x else pre x
/-- as the document says: from the left -/
def inAt (x : BitVec 64) (b : Bool) : Nat → Bool
  | 0 => b
  | i + 1 => inAt x b i ^^ x.getLsbD i
def insF (x : BitVec 64) (b : Bool) (i : Nat) : Bool := inAt x b (i + 1)
theorem inAt_par (x : BitVec 64) (b : Bool) (i : Nat) : inAt x b (i + 1) = (b ^^ par x i) := by
  induction i with
  | zero => rfl
  | succ i ih => rw [inAt, ih]; simp [par]
theorem ins_bit (x : BitVec 64) (b : Bool) (i : Nat) (hi : i < 64) : (ins x b).getLsbD i = inAt x b (i + 1) := by
  rw [inAt_par]; unfold ins
  cases b
  · rw [if_neg (by simp), pre_bit x i hi]; simp
  · rw [if_pos rfl, BitVec.getLsbD_not, pre_bit x i hi]; simp [hi]
theorem ins_mk (x : BitVec 64) (b : Bool) : ins x b = mk (insF x b) 64 := eq_mk fun i hi => ins_bit x b i hi
theorem ins_not (x : BitVec 64) : ins x true = ~~~ ins x false := rfl

/-- escaped bytes: as the program does -/
def odds : BitVec 64 := 0xaaaaaaaaaaaaaaaa#64
def bit0 (b : Bool) : BitVec 64 := if b then 1#64 else 0#64
def andNot (x y : BitVec 64) : BitVec 64 := x &&& ~~~ y
def bk (x : BitVec 64) (b : Bool) : BitVec 64 := andNot x (bit0 b)
def begs (x : BitVec 64) : BitVec 64 := andNot x (x <<< 1)
def escs (x : BitVec 64) : BitVec 64 := x &&& ((x + (begs x &&& odds)) ^^^ odds)
def escM (x : BitVec 64) (b : Bool) : BitVec 64 := (escs (bk x b) <<< 1) ||| bit0 b
def escC (x : BitVec 64) (b : Bool) : Bool := bitAt (escs (bk x b)) 63
/-- as the document says: from the left -/
def escAt (x : BitVec 64) (b : Bool) : Nat → Bool
  | 0 => b
  | i + 1 => !escAt x b i && x.getLsbD i

theorem odds_bit (i : Nat) (hi : i < 64) : odds.getLsbD i = (i % 2 == 1) := by
  have : ∀ i : Fin 64, odds.getLsbD i.val = (i.val % 2 == 1) := by decide
  exact this ⟨i, hi⟩
theorem bk_bit (x : BitVec 64) (b : Bool) (i : Nat) (hi : i < 64) : (bk x b).getLsbD i = (x.getLsbD i && !(b && decide (i = 0))) := by
  unfold bk andNot bit0
  rw [BitVec.getLsbD_and, BitVec.getLsbD_not]
  cases b
  · rw [if_neg (by simp), BitVec.getLsbD_zero]; simp [hi]
  · rw [if_pos rfl, BitVec.getLsbD_one]; simp [hi]
theorem escs_bit (x : BitVec 64) (b : Bool) (i : Nat) (hi : i < 64) :
    (escs (bk x b)).getLsbD i = (!escAt x b i && x.getLsbD i) := by
  have key : ∀ i, i < 64 → (((bk x b).getLsbD i = true → escAt x b (i + 1) = (BitVec.carry (i + 1) (bk x b) (begs (bk x b) &&& odds) false ^^ ((i + 1) % 2 == 1))) ∧ ((bk x b).getLsbD i = false → BitVec.carry (i + 1) (bk x b) (begs (bk x b) &&& odds) false = false ∧ escAt x b (i + 1) = false)) ∧ (escs (bk x b)).getLsbD i = escAt x b (i + 1) := by
    intro i
    induction i with
    | zero =>
      intro _
      rw [BitVec.carry_succ]
      have eb : (begs (bk x b) &&& odds).getLsbD 0 = false := by
        rw [BitVec.getLsbD_and, odds_bit 0 (by omega)]; simp
      have es : (escs (bk x b)).getLsbD 0 = (x.getLsbD 0 && !b) := by
        unfold escs
        rw [BitVec.getLsbD_and, BitVec.getLsbD_xor, BitVec.getLsbD_add (by omega), eb, odds_bit 0 (by omega), bk_bit _ _ _ (by omega), BitVec.carry_zero]
        cases x.getLsbD 0 <;> cases b <;> rfl
      rw [es, eb, bk_bit _ _ _ (by omega), BitVec.carry_zero]
      simp only [escAt]
      cases x.getLsbD 0 <;> cases b <;> decide
    | succ i ih =>
      intro hi
      obtain ⟨⟨h1, h2⟩, h3⟩ := ih (by omega)
      have e0 : (bk x b).getLsbD (i + 1) = x.getLsbD (i + 1) := by rw [bk_bit _ _ _ hi]; simp
      have eb : (begs (bk x b) &&& odds).getLsbD (i + 1) = (x.getLsbD (i + 1) && !(bk x b).getLsbD i && ((i + 1) % 2 == 1)) := by
        rw [BitVec.getLsbD_and, odds_bit _ hi]
        unfold begs andNot
        rw [BitVec.getLsbD_and, BitVec.getLsbD_not, BitVec.getLsbD_shiftLeft, e0]
        simp [hi]
      have es : (escs (bk x b)).getLsbD (i + 1) = (x.getLsbD (i + 1) && ((x.getLsbD (i + 1) ^^ ((x.getLsbD (i + 1) && !(bk x b).getLsbD i && ((i + 1) % 2 == 1)) ^^ BitVec.carry (i + 1) (bk x b) (begs (bk x b) &&& odds) false)) ^^ ((i + 1) % 2 == 1))) := by
        unfold escs
        rw [BitVec.getLsbD_and, BitVec.getLsbD_xor, BitVec.getLsbD_add hi, e0, eb, odds_bit _ hi]
      rw [es, BitVec.carry_succ, e0, eb]
      have ee : escAt x b (i + 1 + 1) = (!escAt x b (i + 1) && x.getLsbD (i + 1)) := rfl
      have pp : ((i + 1 + 1) % 2 == 1) = !((i + 1) % 2 == 1) := by
        rcases Nat.mod_two_eq_zero_or_one (i + 1) with h | h
        · have : (i + 1 + 1) % 2 = 1 := by omega
          simp [h, this]
        · have : (i + 1 + 1) % 2 = 0 := by omega
          simp [h, this]
      rw [ee, pp]
      generalize escAt x b (i + 1) = E at *
      generalize BitVec.carry (i + 1) (bk x b) (begs (bk x b) &&& odds) false = C at *
      generalize ((i + 1) % 2 == 1) = P at *
      generalize (bk x b).getLsbD i = B at *
      generalize x.getLsbD (i + 1) = X at *
      clear es eb e0 ee pp h3
      cases B
      · obtain ⟨rfl, rfl⟩ := h2 rfl
        cases P <;> cases X <;> decide
      · have := h1 rfl
        subst this
        cases P <;> cases X <;> cases C <;> decide
  exact (key i hi).2
theorem escM_bit (x : BitVec 64) (b : Bool) (i : Nat) (hi : i < 64) : (escM x b).getLsbD i = escAt x b i := by
  unfold escM bit0
  rw [BitVec.getLsbD_or, BitVec.getLsbD_shiftLeft]
  cases i with
  | zero => cases b <;> simp [escAt]
  | succ i =>
    rw [show i + 1 - 1 = i from rfl, escs_bit _ _ _ (by omega)]
    have : (if b = true then 1#64 else 0#64).getLsbD (i + 1) = false := by cases b <;> simp [BitVec.getLsbD_one]
    rw [this]; simp [hi, escAt]
theorem escM_mk (x : BitVec 64) (b : Bool) : escM x b = mk (escAt x b) 64 := eq_mk fun i hi => escM_bit x b i hi
theorem escC_at (x : BitVec 64) (b : Bool) : escC x b = escAt x b 64 := by
  unfold escC bitAt; rw [escs_bit _ _ _ (by omega)]; rfl
/-- the law on runs -/
theorem runs1 (x : BitVec 64) (b : Bool) : escM x b = (andNot x (escM x b) <<< 1) ||| bit0 b := by
  apply ext; intro i hi
  rw [BitVec.getLsbD_or, BitVec.getLsbD_shiftLeft]
  cases i with
  | zero => rw [escM_bit _ _ _ hi]; unfold bit0; cases b <;> simp [escAt]
  | succ i =>
    rw [show i + 1 - 1 = i from rfl]
    unfold andNot
    rw [BitVec.getLsbD_and, BitVec.getLsbD_not, escM_bit _ _ _ hi, escM_bit _ _ _ (by omega)]
    have : (bit0 b).getLsbD (i + 1) = false := by unfold bit0; cases b <;> simp [BitVec.getLsbD_one]
    rw [this]; simp [hi, escAt, show i < 64 by omega]
    exact Bool.and_comm _ _
theorem runs2 (x : BitVec 64) (b : Bool) : escC x b = (andNot x (escM x b)).getLsbD 63 := by
  rw [escC_at]; unfold andNot
  rw [BitVec.getLsbD_and, BitVec.getLsbD_not, escM_bit _ _ _ (by omega)]
  show (!escAt x b 63 && x.getLsbD 63) = _
  cases escAt x b 63 <;> cases x.getLsbD 63 <;> rfl
theorem runs3 (x : BitVec 64) (b : Bool) : escM x b &&& (escM x b <<< 1) = 0#64 := by
  apply ext; intro i hi
  rw [BitVec.getLsbD_and, BitVec.getLsbD_shiftLeft, escM_bit _ _ _ hi]
  cases i with
  | zero => simp
  | succ i =>
    rw [show i + 1 - 1 = i from rfl, escM_bit _ _ _ (by omega)]
    simp only [escAt]
    cases escAt x b i <;> simp
theorem put_of {f : Nat → Bool} {j : Nat} {b : Bool} (h : f j = b) : put (mk f j) j b = mk f (j + 1) := by subst h; rfl
theorem par_put {x : BitVec 64} {j : Nat} {b : Bool} (h : bitAt x j = b) : put (mk (par x) j) j (parTo x j ^^ b) = mk (par x) (j + 1) := put_of (by rw [parTo_step, h])
theorem ins_put {x : BitVec 64} {b : Bool} {j : Nat} {c : Bool} (h : bitAt x j = c) : put (mk (insF x b) j) j (inAt x b j ^^ c) = mk (insF x b) (j + 1) := put_of (by subst h; rfl)
theorem ins_step {x : BitVec 64} {b : Bool} {j : Nat} {c : Bool} (h : bitAt x j = c) : inAt x b (j + 1) = (inAt x b j ^^ c) := by subst h; rfl
theorem esc_step {x : BitVec 64} {b : Bool} {j : Nat} {c d : Bool} (h : escAt x b j = c) (k : bitAt x j = d) : escAt x b (j + 1) = (!c && d) := by subst h k; rfl
theorem esc_step' {x : BitVec 64} {b : Bool} {j : Nat} (h : escAt x b j = true) : escAt x b (j + 1) = false := by rw [escAt, h]; rfl
end Go.Proofs.YtefaieglhllioaaDoor.BM

/- Words of 64 bits in the walk's spelling. -/
namespace Go.Proofs.YtefaieglhllioaaDoor
open Go.RowKit BM

theorem u_and (x y : BitVec 64) : bits .and .u64 (val x) (val y) = val (x &&& y) := by
  unfold val
  rw [u64_and_nat _ _ (by have := x.isLt; omega) (by have := y.isLt; omega), BitVec.toNat_and]
theorem u_or (x y : BitVec 64) : bits .or .u64 (val x) (val y) = val (x ||| y) := by
  unfold val
  rw [u64_or_nat _ _ (by have := x.isLt; omega) (by have := y.isLt; omega), BitVec.toNat_or]
theorem u_xor (x y : BitVec 64) : bits .xor .u64 (val x) (val y) = val (x ^^^ y) := by
  unfold val
  rw [u64_xor_nat _ _ (by have := x.isLt; omega) (by have := y.isLt; omega), BitVec.toNat_xor]
theorem u_andNot (x y : BitVec 64) : bits .andNot .u64 (val x) (val y) = val (andNot x y) := by
  unfold val
  rw [u64_andNot_nat _ _ (by have := x.isLt; omega) (by have := y.isLt; omega)]
  unfold andNot
  rw [BitVec.toNat_and, BitVec.toNat_not]
theorem u_add (x y : BitVec 64) : IntKind.u64.wrap (val x + val y) = val (x + y) := by
  unfold val
  rw [IntKind.wrap_u64, BitVec.toNat_add]; omega
theorem u_sub (x y : BitVec 64) : IntKind.u64.wrap (val x - val y) = val (x - y) := by
  unfold val
  rw [IntKind.wrap_u64, BitVec.toNat_sub]
  have := x.isLt; have := y.isLt; omega
theorem u_shr (x : BitVec 64) (k : Nat) : val x / 2 ^ k = val (sr x k) := by
  unfold val sr
  rw [BitVec.toNat_ushiftRight, Nat.shiftRight_eq_div_pow]; simp
theorem u_shl (x : BitVec 64) (k : Nat) : IntKind.u64.wrap (val x * 2 ^ k) = val (x <<< k) := by
  unfold val
  rw [IntKind.wrap_u64, BitVec.toNat_shiftLeft, Nat.shiftLeft_eq]; simp
theorem u_one (k : Nat) : IntKind.u64.wrap ((2 : Int) ^ k) = val (pw k) := by
  have := u_shl 1#64 k
  rw [show val 1#64 = 1 from rfl, Int.one_mul] at this
  exact this
theorem u_eq (x y : BitVec 64) : (val x == val y) = (x == y) := by
  unfold val
  rw [Bool.eq_iff_iff, beq_iff_eq, beq_iff_eq, BitVec.toNat_eq]; omega
theorem i_0 : (0 : Int) = val 0#64 := rfl
theorem i_1 : (1 : Int) = val 1#64 := rfl
theorem pw0 : val (pw 0) = 1 := rfl
theorem pw_step (j : Nat) : IntKind.u64.wrap (val (pw j) * 2) = val (pw (j + 1)) := by
  have := u_shl (pw j) 1
  rw [show pw j <<< 1 = pw (j + 1) by unfold pw; rw [← BitVec.shiftLeft_add]] at this
  exact this
theorem sr_step (x : BitVec 64) (j : Nat) : val (sr x j) / 2 = val (sr x (j + 1)) := by
  have := u_shr (sr x j) 1
  rw [show sr (sr x j) 1 = sr x (j + 1) by unfold sr; rw [← BitVec.shiftRight_add]] at this
  exact this
theorem sr_step' (x : BitVec 64) (j : Nat) : IntKind.u64.wrap ((val (sr x j)).tdiv 2) = val (sr x (j + 1)) := by
  rw [Int.tdiv_eq_ediv_of_nonneg (val_nn _), sr_step, IntKind.wrap_u64]
  have := val_nn (sr x (j + 1)); have := val_lt (sr x (j + 1)); omega
theorem sr0 (x : BitVec 64) : sr x 0 = x := by simp [sr]
theorem sr_odd (x : BitVec 64) (j : Nat) : (val (sr x j) % 2 == 1) = bitAt x j := by
  have e : (sr x j).toNat % 2 = if bitAt x j then 1 else 0 := by
    have := BitVec.getLsbD_ushiftRight (x := x) (i := j) (j := 0)
    unfold bitAt sr
    rw [Nat.add_zero] at this
    rw [← this]
    rw [BitVec.getLsbD, Nat.testBit_zero]
    rcases Nat.mod_two_eq_zero_or_one (x >>> j).toNat with h | h <;> rw [h] <;> rfl
  unfold val
  rw [show (((sr x j).toNat : Nat) : Int) % 2 = (((sr x j).toNat % 2 : Nat) : Int) by omega, e]
  cases bitAt x j <;> rfl
theorem ret_bool {a b : Bool} (h : a = b) : Ending.returned (.bool a) = .returned (.bool b) := by rw [h]
theorem ret_int {k : IntKind} {a b : Int} (h : a = b) : Ending.returned (.int k a) = .returned (.int k b) := by rw [h]
theorem and_one (x : BitVec 64) : bits .and .u64 (val x) 1 = val x % 2 := by
  have h : (1 : Int) = ((1 : Nat) : Int) := rfl
  unfold val
  rw [h, u64_and_nat _ _ (by have := x.isLt; omega) (by omega), nat_mask1]; omega
theorem bit_is (x : BitVec 64) (k : Nat) : (bits .and .u64 (val x / 2 ^ k) 1 == 1) = bitAt x k := by
  rw [u_shr, and_one, sr_odd]

def ones (k : Nat) : BitVec 64 := 1#64 <<< k - 1#64
set_option maxRecDepth 100000 in
theorem ones_mk (k : Nat) (hk : k ≤ 64) : ones k = mk (fun i => decide (i < k)) 64 := by
  have : ∀ k : Fin 65, ones k.val = mk (fun i => decide (i < k.val)) 64 := by decide
  exact this ⟨k, by omega⟩
theorem ones_bit (k i : Nat) (hk : k ≤ 64) (hi : i < 64) : (ones k).getLsbD i = decide (i < k) := by
  rw [ones_mk k hk, mk_bit]; simp [hi]
theorem dbl_step (x : BitVec 64) (k : Nat) (hk : k < 6) : bits .xor .u64 (val (dbls x k)) (IntKind.u64.wrap (val (dbls x k) * 2 ^ min (IntKind.u64.wrap (2 ^ k)).toNat 64)) = val (dbls x (k + 1)) := by
  have e : min (IntKind.u64.wrap ((2 : Int) ^ k)).toNat 64 = 2 ^ k := by
    have : ∀ k : Fin 6, min (IntKind.u64.wrap ((2 : Int) ^ k.val)).toNat 64 = 2 ^ k.val := by decide
    exact this ⟨k, hk⟩
  rw [e, u_shl, u_xor]; rfl
theorem ret_tup {a b : Array Value} (h : a = b) : Ending.returned (.tuple a) = .returned (.tuple b) := by rw [h]
theorem k_bk0 (x : BitVec 64) : bits .andNot .u64 (val x) 0 = val (bk x false) := u_andNot x 0#64
theorem k_bk1 (x : BitVec 64) : bits .andNot .u64 (val x) 1 = val (bk x true) := u_andNot x 1#64
theorem u_shl1 (x : BitVec 64) : IntKind.u64.wrap ((val x) * 2) = val (x <<< 1) := u_shl x 1
theorem k_ando (x : BitVec 64) : bits .and .u64 (val x) 12297829382473034410 = val (x &&& odds) := u_and x odds
theorem k_xoro (x : BitVec 64) : bits .xor .u64 (val x) 12297829382473034410 = val (x ^^^ odds) := u_xor x odds
theorem k_or0 (x : BitVec 64) : bits .or .u64 (val x) 0 = val (x ||| bit0 false) := u_or x 0#64
theorem k_or1 (x : BitVec 64) : bits .or .u64 (val x) 1 = val (x ||| bit0 true) := u_or x 1#64
theorem two_of {a b : Int} {c d : Bool} (h : a = b) (k : c = d) : Ending.returned (.tuple #[.int .u64 a, .bool c]) = .returned (.tuple #[.int .u64 b, .bool d]) := by rw [h, k]
theorem k_not (x : BitVec 64) : bits .xor .u64 IntKind.u64.max (val x) = val (~~~x) := by
  have h := u_xor (BitVec.allOnes 64) x
  rw [show BitVec.allOnes 64 ^^^ x = ~~~x by apply BM.ext; intro i hi; rw [BitVec.getLsbD_xor, BitVec.getLsbD_not, BitVec.getLsbD_allOnes]; simp [hi]] at h
  exact h
theorem k_not' (x : BitVec 64) : bits .xor .u64 (if IntKind.u64.signed = true then -1 else IntKind.u64.max) (val x) = val (~~~x) := by
  rw [if_neg (by decide)]; exact k_not x
end Go.Proofs.YtefaieglhllioaaDoor
