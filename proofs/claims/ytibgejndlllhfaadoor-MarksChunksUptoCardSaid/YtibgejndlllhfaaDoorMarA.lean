/- marks: the table of math/bits, the small functions, ctz. -/
import Derived.Test.YtibgejndlllhfaaDoorMarMath
import Derived.Shelf.Spec.TrailingZeros
import Derived.Deep.RegionLaw
import Derived.Deep.RegionHeld3
namespace Go.Proofs.YtibgejndlllhfaaDoor
open Go.RowKit BM

/-- the table of math/bits holds what its initialiser lays -/
def Tb (w : World) : Prop := TabAt 0 Lib.deBruijn64tab w
theorem Tb.below {w w' : World} (h : Tb w) (hb : Below w.heap.size w w') : Tb w' := fun j hj => by rw [hb.cell (lt_of_cell (h j hj))]; exact h j hj
theorem Tb.pos {w : World} (h : Tb w) : 0 < w.heap.size := lt_of_cell (h 0 (by decide))
theorem Tb.belowB {B : Nat} {w w' : World} (h : Tb w) (hb : Below B w w') (hB : 0 < B) : Tb w' := fun j hj => by rw [hb.cell hB]; exact h j hj
theorem Tb.dN {w : World} (h : Tb w) (n : Nat) : Tb (w.drewN n) := h
def tz (x : BitVec 64) : Nat := Lib.ctz 64 x.toNat
set_option maxHeartbeats 1000000 in
theorem tz_core (x k idx : Nat) (w : World) (hx0 : ((x : Int) == 0) = false)
    (key : IntKind.u64.wrap (bits BinOp.and IntKind.u64 (x : Int) (IntKind.u64.wrap (-(x : Int))) * 285870213051353865) / 288230376151711744 = (idx : Int))
    (hi : idx < 64) (hk : k < 64) (hcell : w.cell? ⟨0, idx, none⟩ = some (.int .u8 k)) :
    Calls Tryd.prog 29 #[.int .u64 x] w fun e w' => e = .returned (.int .i64 k) ∧ w = w' := by
  go_enter Tryd.func29, Tryd.ntmps29
  go_wp2_with (simp only [key])
  go_ret
  exact ⟨rfl, rfl⟩
theorem tz_spec {x : BitVec 64} (h : x ≠ 0#64) : tz x < 64 ∧ x.getLsbD (tz x) = true ∧ ∀ j, j < tz x → x.getLsbD j = false := by
  have h0 : x.toNat ≠ 0 := fun e => h (BitVec.eq_of_toNat_eq (by simpa using e))
  obtain ⟨m, hm, hk⟩ := Lib.ctzFrom_spec 64 x.toNat (by omega) x.isLt
  have e : tz x = Lib.ctzFrom 64 x.toNat := by simp [tz, Lib.ctz, h0]
  rw [e]
  refine ⟨hk, ?_, fun j hj => ?_⟩
  · unfold BitVec.getLsbD
    generalize Lib.ctzFrom 64 x.toNat = z at *
    rw [hm, Nat.mul_comm, Nat.testBit_mul_two_pow]; simp
  · unfold BitVec.getLsbD
    generalize Lib.ctzFrom 64 x.toNat = z at *
    rw [hm, Nat.mul_comm, Nat.testBit_mul_two_pow]; simp; omega
theorem tz_any (x : BitVec 64) (h : x ≠ 0#64) (w : World) (hT : Tb w) :
    Calls Tryd.prog 29 #[.int .u64 (val x)] w fun e w' => e = .returned (.int .i64 (tz x)) ∧ w = w' := by
  have h0 : x.toNat ≠ 0 := fun e => h (BitVec.eq_of_toNat_eq (by simpa using e))
  obtain ⟨hlow, hk⟩ := Lib.lowest_bit 64 x.toNat h0 x.isLt
  obtain ⟨hi, htab⟩ := Lib.deBruijn64_at _ hk
  have hcell := hT _ hi
  rw [htab] at hcell
  exact tz_core x.toNat _ _ w (by simp; omega) (tz64_key x.toNat _ x.isLt h0 hlow) hi hk hcell
/-- the brackets, colons and commas -/
def MS.sg (x : MS) : BitVec 64 := x.o ||| x.c ||| x.k ||| x.m
/-- what is none of them, outside strings -/
def MS.rs (x : MS) : BitVec 64 := ~~~ (x.n ||| x.q ||| x.s ||| x.sg)
/-- the first n bits, or all -/
def fb (n : Nat) : BitVec 64 := ~~~ (BitVec.allOnes 64 <<< n)
theorem fb_bit (n : Nat) {i : Nat} (hi : i < 64) : (fb n).getLsbD i = decide (i < n) := by
  unfold fb
  rw [BitVec.getLsbD_not, BitVec.getLsbD_shiftLeft, BitVec.getLsbD_allOnes]
  by_cases h : i < n <;> simp [h, hi]
  omega
def ResU (x : BitVec 64) (w : World) (e : Ending) (w' : World) : Prop := e = .returned (.int .u64 (val x)) ∧ Below w.heap.size w w'
set_option maxHeartbeats 400000 in
theorem signs_any (x : MS) (w : World) : Calls Tryd.prog 28 #[x.v] w (ResU x.sg w) := by
  have HS := Lib.hid (show val (x.o ||| x.c ||| x.k ||| x.m) = val x.sg from rfl)
  obtain ⟨q, n, o, c, k, m, s⟩ := x
  unfold MS.v MS.cells
  go_enter Tryd.func28, Tryd.ntmps28
  go_wp2
  go_ret
  exact ⟨ret_int (by rw [u_or, u_or, u_or]; exact HS.out), (Below.refl _ _).alloc (Nat.le_refl _) _⟩
theorem Mx.mk (W : World) (q0 q1 q2 q3 q4 q5 q6 : BitVec 64) (t : TypeId) (f : Nat × Nat) : Hid (Mx (W.alloc (.cells #[.int .u64 (val q0), .int .u64 (val q1), .int .u64 (val q2), .int .u64 (val q3), .int .u64 (val q4), .int .u64 (val q5), .int .u64 (val q6)] t f)) W.heap.size q0 q1 q2 q3 q4 q5 q6) := Lib.hid ⟨by rw [World.cell?_alloc_mark]; rfl, by rw [World.cell?_alloc_mark]; rfl, by rw [World.cell?_alloc_mark]; rfl, by rw [World.cell?_alloc_mark]; rfl, by rw [World.cell?_alloc_mark]; rfl, by rw [World.cell?_alloc_mark]; rfl, by rw [World.cell?_alloc_mark]; rfl⟩
set_option maxHeartbeats 400000 in
theorem rest_any (x : MS) (w : World) : Calls Tryd.prog 26 #[x.v] w (ResU x.rs w) := by
  have HS := Lib.hid (show val (~~~ (x.n ||| x.q ||| x.s ||| x.sg)) = val x.rs from rfl)
  have HG := Lib.hid (signs_any x)
  generalize x.sg = g at *
  obtain ⟨q, n, o, c, k, m, s⟩ := x
  unfold MS.v MS.cells at HG
  unfold MS.v MS.cells
  go_enter Tryd.func26, Tryd.ntmps26
  go_wp2_with fail
  have M0 := Mx.mk w q n o c k m s 49 (0, 0)
  have B0 := Lib.hid ((Below.refl w.heap.size w).alloc (Nat.le_refl _) (.cells #[.int .u64 (val q), .int .u64 (val n), .int .u64 (val o), .int .u64 (val c), .int .u64 (val k), .int .u64 (val m), .int .u64 (val s)] 49))
  generalize w.alloc (.cells #[.int .u64 (val q), .int .u64 (val n), .int .u64 (val o), .int .u64 (val c), .int .u64 (val k), .int .u64 (val m), .int .u64 (val s)] 49) = w0 at *
  obtain ⟨m0, m1, m2, m3, m4, m5, m6⟩ := M0.out
  go_region_held3 (fun w' => w'.cell? ⟨w.heap.size, 0, none⟩ = some (.int .u64 (val q)) ∧ w'.cell? ⟨w.heap.size, 1, none⟩ = some (.int .u64 (val n)) ∧ w'.cell? ⟨w.heap.size, 2, none⟩ = some (.int .u64 (val o)) ∧ w'.cell? ⟨w.heap.size, 3, none⟩ = some (.int .u64 (val c)) ∧ w'.cell? ⟨w.heap.size, 4, none⟩ = some (.int .u64 (val k)) ∧ w'.cell? ⟨w.heap.size, 5, none⟩ = some (.int .u64 (val m)) ∧ w'.cell? ⟨w.heap.size, 6, none⟩ = some (.int .u64 (val s)))
    (first | exact M1.out | exact M0.out)
    (first | (go_at_call 28; refine (HG.out _).mono ?_; rintro e w1 ⟨rfl, hb⟩; have hb1 := (Below.refl w0.heap.size w0).drew.trans hb; have M1 := Mx.below M0 hb1))
  have us : IntKind.u64.signed = false := rfl
  go_wp2
  go_ret
  exact ⟨ret_int (by rw [u_or, u_or, u_or, k_not]; exact HS.out), B0.out.trans (hb1.mono B0.out.size)⟩
theorem k_fb (n : Nat) : IntKind.u64.wrap (18446744073709551615 * 2 ^ min n 64) = val (BitVec.allOnes 64 <<< n) := by
  have h := u_shl (BitVec.allOnes 64) (min n 64)
  rw [show val (BitVec.allOnes 64) = 18446744073709551615 from rfl] at h
  rw [h]
  by_cases hn : n ≤ 64
  · rw [show min n 64 = n by omega]
  · rw [show min n 64 = 64 by omega]
    congr 1
    apply BM.ext; intro i hi
    rw [BitVec.getLsbD_shiftLeft, BitVec.getLsbD_shiftLeft]; simp [hi]; omega
set_option maxHeartbeats 400000 in
theorem fb_any (n : Nat) (_hn : n ≤ 9223372036854775807) (w : World) : Calls Tryd.prog 27 #[.int .i64 n] w fun e w' => e = .returned (.int .u64 (val (fb n))) ∧ w = w' := by
  go_enter Tryd.func27, Tryd.ntmps27
  have us : IntKind.u64.signed = false := rfl
  go_wp2
  go_ret
  exact ⟨ret_int (by rw [k_fb, k_not]; rfl), rfl⟩
end Go.Proofs.YtibgejndlllhfaaDoor
