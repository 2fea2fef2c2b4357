/- marks: the table of math/bits, the small functions, ctz. -/
import Derived.Test.YtelagemniheeoaaDoorMarMath
import Derived.Shelf.Spec.TrailingZeros
import Derived.Deep.RegionLaw
import Derived.Deep.RegionHeld3
namespace Go.Proofs.YtelagemniheeoaaDoor
open Go.RowKit BM

/-- the table of math/bits holds what its initialiser lays -/
def Tb (w : World) : Prop := TabAt 0 Lib.deBruijn64tab w
theorem Tb.below {w w' : World} (h : Tb w) (hb : Below w.heap.size w w') : Tb w' := fun j hj => by rw [hb.cell (lt_of_cell (h j hj))]; exact h j hj
theorem Tb.pos {w : World} (h : Tb w) : 0 < w.heap.size := lt_of_cell (h 0 (by decide))
theorem Tb.belowB {B : Nat} {w w' : World} (h : Tb w) (hb : Below B w w') (hB : 0 < B) : Tb w' := fun j hj => by rw [hb.cell hB]; exact h j hj
theorem Tb.dN {w : World} (h : Tb w) (n : Nat) : Tb (w.drewN n) := h
def tz (x : BitVec 64) : Nat := Lib.ctz 64 x.toNat
set_option maxHeartbeats 1000000 in
theorem tz_core (x k idx : Nat) (w : World) (hx0 : ((x : Int) == 0) = false)
    (key : IntKind.u64.wrap (bits BinOp.and IntKind.u64 (x : Int) (IntKind.u64.wrap (-(x : Int))) * 285870213051353865) / 288230376151711744 = (idx : Int))
    (hi : idx < 64) (hk : k < 64) (hcell : w.cell? ⟨0, idx, none⟩ = some (.int .u8 k)) :
    Calls Tryd.prog 42 #[.int .u64 x] w fun e w' => e = .returned (.int .i64 k) ∧ w = w' := by
  go_enter Tryd.func42, Tryd.ntmps42
  go_wp2_with (simp only [key])
  go_ret
  exact ⟨rfl, rfl⟩
theorem tz_spec {x : BitVec 64} (h : x ≠ 0#64) : tz x < 64 ∧ x.getLsbD (tz x) = true ∧ ∀ j, j < tz x → x.getLsbD j = false := by
  have h0 : x.toNat ≠ 0 := fun e => h (BitVec.eq_of_toNat_eq (by simpa using e))
  obtain ⟨m, hm, hk⟩ := Lib.ctzFrom_spec 64 x.toNat (by omega) x.isLt
  have e : tz x = Lib.ctzFrom 64 x.toNat := by simp [tz, Lib.ctz, h0]
  rw [e]
  refine ⟨hk, ?_, fun j hj => ?_⟩
  · unfold BitVec.getLsbD
    generalize Lib.ctzFrom 64 x.toNat = z at *
    rw [hm, Nat.mul_comm, Nat.testBit_mul_two_pow]; simp
  · unfold BitVec.getLsbD
    generalize Lib.ctzFrom 64 x.toNat = z at *
    rw [hm, Nat.mul_comm, Nat.testBit_mul_two_pow]; simp; omega
theorem tz_any (x : BitVec 64) (h : x ≠ 0#64) (w : World) (hT : Tb w) :
    Calls Tryd.prog 42 #[.int .u64 (val x)] w fun e w' => e = .returned (.int .i64 (tz x)) ∧ w = w' := by
  have h0 : x.toNat ≠ 0 := fun e => h (BitVec.eq_of_toNat_eq (by simpa using e))
  obtain ⟨hlow, hk⟩ := Lib.lowest_bit 64 x.toNat h0 x.isLt
  obtain ⟨hi, htab⟩ := Lib.deBruijn64_at _ hk
  have hcell := hT _ hi
  rw [htab] at hcell
  exact tz_core x.toNat _ _ w (by simp; omega) (tz64_key x.toNat _ x.isLt h0 hlow) hi hk hcell
/-- the brackets, colons and commas -/
def MS.sg (x : MS) : BitVec 64 := x.o ||| x.c ||| x.k ||| x.m
/-- what is none of them, outside strings -/
def MS.rs (x : MS) : BitVec 64 := ~~~ (x.n ||| x.q ||| x.s ||| x.sg)
/-- the first n bits, or all -/
def fb (n : Nat) : BitVec 64 := ~~~ (BitVec.allOnes 64 <<< n)
theorem fb_bit (n : Nat) {i : Nat} (hi : i < 64) : (fb n).getLsbD i = decide (i < n) := by
  unfold fb
  rw [BitVec.getLsbD_not, BitVec.getLsbD_shiftLeft, BitVec.getLsbD_allOnes]
  by_cases h : i < n <;> simp [h, hi]
  omega
def ResU (x : BitVec 64) (w : World) (e : Ending) (w' : World) : Prop := e = .returned (.int .u64 (val x)) ∧ Below w.heap.size w w'
theorem Mx.mk (W : World) (q0 q1 q2 q3 q4 q5 q6 : BitVec 64) (t : TypeId) (f : Nat × Nat) : Hid (Mx (W.alloc (.cells #[.int .u64 (val q0), .int .u64 (val q1), .int .u64 (val q2), .int .u64 (val q3), .int .u64 (val q4), .int .u64 (val q5), .int .u64 (val q6)] t f)) W.heap.size q0 q1 q2 q3 q4 q5 q6) := Lib.hid ⟨by rw [World.cell?_alloc_mark]; rfl, by rw [World.cell?_alloc_mark]; rfl, by rw [World.cell?_alloc_mark]; rfl, by rw [World.cell?_alloc_mark]; rfl, by rw [World.cell?_alloc_mark]; rfl, by rw [World.cell?_alloc_mark]; rfl, by rw [World.cell?_alloc_mark]; rfl⟩
theorem k_fb (n : Nat) : IntKind.u64.wrap (18446744073709551615 * 2 ^ min n 64) = val (BitVec.allOnes 64 <<< n) := by
  have h := u_shl (BitVec.allOnes 64) (min n 64)
  rw [show val (BitVec.allOnes 64) = 18446744073709551615 from rfl] at h
  rw [h]
  by_cases hn : n ≤ 64
  · rw [show min n 64 = n by omega]
  · rw [show min n 64 = 64 by omega]
    congr 1
    apply BM.ext; intro i hi
    rw [BitVec.getLsbD_shiftLeft, BitVec.getLsbD_shiftLeft]; simp [hi]; omega
end Go.Proofs.YtelagemniheeoaaDoor
