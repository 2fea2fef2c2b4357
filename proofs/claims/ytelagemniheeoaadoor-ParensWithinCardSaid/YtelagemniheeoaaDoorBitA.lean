/- Words of 64 bits in the walk's spelling. -/
import Derived.Test.YtelagemniheeoaaDoorBitMath
import Derived.Test.YtelagemniheeoaaDoorChecked
import Derived.WalkKit
import Derived.Outline
import Derived.Lib.Hide
import Derived.Laws.BitsAllLaws
import Derived.IntWalk
namespace Go.Proofs.YtelagemniheeoaaDoor
open Go.RowKit BM

theorem u_and (x y : BitVec 64) : bits .and .u64 (val x) (val y) = val (x &&& y) := by
  unfold val
  rw [u64_and_nat _ _ (by have := x.isLt; omega) (by have := y.isLt; omega), BitVec.toNat_and]
theorem u_or (x y : BitVec 64) : bits .or .u64 (val x) (val y) = val (x ||| y) := by
  unfold val
  rw [u64_or_nat _ _ (by have := x.isLt; omega) (by have := y.isLt; omega), BitVec.toNat_or]
theorem u_xor (x y : BitVec 64) : bits .xor .u64 (val x) (val y) = val (x ^^^ y) := by
  unfold val
  rw [u64_xor_nat _ _ (by have := x.isLt; omega) (by have := y.isLt; omega), BitVec.toNat_xor]
theorem u_andNot (x y : BitVec 64) : bits .andNot .u64 (val x) (val y) = val (andNot x y) := by
  unfold val
  rw [u64_andNot_nat _ _ (by have := x.isLt; omega) (by have := y.isLt; omega)]
  unfold andNot
  rw [BitVec.toNat_and, BitVec.toNat_not]
theorem u_add (x y : BitVec 64) : IntKind.u64.wrap (val x + val y) = val (x + y) := by
  unfold val
  rw [IntKind.wrap_u64, BitVec.toNat_add]; omega
theorem u_sub (x y : BitVec 64) : IntKind.u64.wrap (val x - val y) = val (x - y) := by
  unfold val
  rw [IntKind.wrap_u64, BitVec.toNat_sub]
  have := x.isLt; have := y.isLt; omega
theorem u_shr (x : BitVec 64) (k : Nat) : val x / 2 ^ k = val (sr x k) := by
  unfold val sr
  rw [BitVec.toNat_ushiftRight, Nat.shiftRight_eq_div_pow]; simp
theorem u_shl (x : BitVec 64) (k : Nat) : IntKind.u64.wrap (val x * 2 ^ k) = val (x <<< k) := by
  unfold val
  rw [IntKind.wrap_u64, BitVec.toNat_shiftLeft, Nat.shiftLeft_eq]; simp
theorem u_one (k : Nat) : IntKind.u64.wrap ((2 : Int) ^ k) = val (pw k) := by
  have := u_shl 1#64 k
  rw [show val 1#64 = 1 from rfl, Int.one_mul] at this
  exact this
theorem u_eq (x y : BitVec 64) : (val x == val y) = (x == y) := by
  unfold val
  rw [Bool.eq_iff_iff, beq_iff_eq, beq_iff_eq, BitVec.toNat_eq]; omega
theorem i_0 : (0 : Int) = val 0#64 := rfl
theorem i_1 : (1 : Int) = val 1#64 := rfl
theorem pw0 : val (pw 0) = 1 := rfl
theorem pw_step (j : Nat) : IntKind.u64.wrap (val (pw j) * 2) = val (pw (j + 1)) := by
  have := u_shl (pw j) 1
  rw [show pw j <<< 1 = pw (j + 1) by unfold pw; rw [← BitVec.shiftLeft_add]] at this
  exact this
theorem sr_step (x : BitVec 64) (j : Nat) : val (sr x j) / 2 = val (sr x (j + 1)) := by
  have := u_shr (sr x j) 1
  rw [show sr (sr x j) 1 = sr x (j + 1) by unfold sr; rw [← BitVec.shiftRight_add]] at this
  exact this
theorem sr_step' (x : BitVec 64) (j : Nat) : IntKind.u64.wrap ((val (sr x j)).tdiv 2) = val (sr x (j + 1)) := by
  rw [Int.tdiv_eq_ediv_of_nonneg (val_nn _), sr_step, IntKind.wrap_u64]
  have := val_nn (sr x (j + 1)); have := val_lt (sr x (j + 1)); omega
theorem sr0 (x : BitVec 64) : sr x 0 = x := by simp [sr]
theorem sr_odd (x : BitVec 64) (j : Nat) : (val (sr x j) % 2 == 1) = bitAt x j := by
  have e : (sr x j).toNat % 2 = if bitAt x j then 1 else 0 := by
    have := BitVec.getLsbD_ushiftRight (x := x) (i := j) (j := 0)
    unfold bitAt sr
    rw [Nat.add_zero] at this
    rw [← this]
    rw [BitVec.getLsbD, Nat.testBit_zero]
    rcases Nat.mod_two_eq_zero_or_one (x >>> j).toNat with h | h <;> rw [h] <;> rfl
  unfold val
  rw [show (((sr x j).toNat : Nat) : Int) % 2 = (((sr x j).toNat % 2 : Nat) : Int) by omega, e]
  cases bitAt x j <;> rfl
theorem ret_bool {a b : Bool} (h : a = b) : Ending.returned (.bool a) = .returned (.bool b) := by rw [h]
theorem ret_int {k : IntKind} {a b : Int} (h : a = b) : Ending.returned (.int k a) = .returned (.int k b) := by rw [h]
theorem and_one (x : BitVec 64) : bits .and .u64 (val x) 1 = val x % 2 := by
  have h : (1 : Int) = ((1 : Nat) : Int) := rfl
  unfold val
  rw [h, u64_and_nat _ _ (by have := x.isLt; omega) (by omega), nat_mask1]; omega
theorem bit_is (x : BitVec 64) (k : Nat) : (bits .and .u64 (val x / 2 ^ k) 1 == 1) = bitAt x k := by
  rw [u_shr, and_one, sr_odd]

def ones (k : Nat) : BitVec 64 := 1#64 <<< k - 1#64
set_option maxRecDepth 100000 in
theorem ones_mk (k : Nat) (hk : k ≤ 64) : ones k = mk (fun i => decide (i < k)) 64 := by
  have : ∀ k : Fin 65, ones k.val = mk (fun i => decide (i < k.val)) 64 := by decide
  exact this ⟨k, by omega⟩
theorem ones_bit (k i : Nat) (hk : k ≤ 64) (hi : i < 64) : (ones k).getLsbD i = decide (i < k) := by
  rw [ones_mk k hk, mk_bit]; simp [hi]
theorem dbl_step (x : BitVec 64) (k : Nat) (hk : k < 6) : bits .xor .u64 (val (dbls x k)) (IntKind.u64.wrap (val (dbls x k) * 2 ^ min (IntKind.u64.wrap (2 ^ k)).toNat 64)) = val (dbls x (k + 1)) := by
  have e : min (IntKind.u64.wrap ((2 : Int) ^ k)).toNat 64 = 2 ^ k := by
    have : ∀ k : Fin 6, min (IntKind.u64.wrap ((2 : Int) ^ k.val)).toNat 64 = 2 ^ k.val := by decide
    exact this ⟨k, hk⟩
  rw [e, u_shl, u_xor]; rfl
theorem ret_tup {a b : Array Value} (h : a = b) : Ending.returned (.tuple a) = .returned (.tuple b) := by rw [h]
theorem k_bk0 (x : BitVec 64) : bits .andNot .u64 (val x) 0 = val (bk x false) := u_andNot x 0#64
theorem k_bk1 (x : BitVec 64) : bits .andNot .u64 (val x) 1 = val (bk x true) := u_andNot x 1#64
theorem u_shl1 (x : BitVec 64) : IntKind.u64.wrap ((val x) * 2) = val (x <<< 1) := u_shl x 1
theorem k_ando (x : BitVec 64) : bits .and .u64 (val x) 12297829382473034410 = val (x &&& odds) := u_and x odds
theorem k_xoro (x : BitVec 64) : bits .xor .u64 (val x) 12297829382473034410 = val (x ^^^ odds) := u_xor x odds
theorem k_or0 (x : BitVec 64) : bits .or .u64 (val x) 0 = val (x ||| bit0 false) := u_or x 0#64
theorem k_or1 (x : BitVec 64) : bits .or .u64 (val x) 1 = val (x ||| bit0 true) := u_or x 1#64
theorem two_of {a b : Int} {c d : Bool} (h : a = b) (k : c = d) : Ending.returned (.tuple #[.int .u64 a, .bool c]) = .returned (.tuple #[.int .u64 b, .bool d]) := by rw [h, k]
theorem k_not (x : BitVec 64) : bits .xor .u64 IntKind.u64.max (val x) = val (~~~x) := by
  have h := u_xor (BitVec.allOnes 64) x
  rw [show BitVec.allOnes 64 ^^^ x = ~~~x by apply BM.ext; intro i hi; rw [BitVec.getLsbD_xor, BitVec.getLsbD_not, BitVec.getLsbD_allOnes]; simp [hi]] at h
  exact h
theorem k_not' (x : BitVec 64) : bits .xor .u64 (if IntKind.u64.signed = true then -1 else IntKind.u64.max) (val x) = val (~~~x) := by
  rw [if_neg (by decide)]; exact k_not x
set_option maxHeartbeats 400000 in
theorem Has_any (x : BitVec 64) (i : Nat) (hi : i < 64) (w : World) :
    Calls Tryd.prog 36 #[.int .u64 (val x), .int .i64 i] w fun e w' => e = .returned (.bool (bitAt x i)) ∧ w = w' := by
  go_enter Tryd.func36, Tryd.ntmps36
  go_wp2
  go_loop [0, 5] (fun p k => ∃ j : Nat, j ≤ i ∧ k = .int .i64 j ∧ p = .int .u64 (val (sr x j))) (fun _ k => i - (intOf k).toNat)
  case atStart => exact ⟨0, by omega, rfl, by rw [sr0]⟩
  case round =>
    obtain ⟨j, hj, rfl, rfl⟩ := hrel
    have h0 := val_nn (sr x j)
    by_cases hlt : j < i
    · go_wp2
      go_round
      case rel => exact ⟨j + 1, by omega, by go_num, by rw [sr_step']⟩
      case measure => simp [intOf]; omega
    · go_wp2
      go_ret
      have : j = i := by omega
      subst this
      exact ⟨ret_bool (sr_odd x j), rfl⟩

end Go.Proofs.YtelagemniheeoaaDoor
