/- Contracts at the level of numbers, for the laws. -/
import Derived.Test.YteipkibaoikilaaDoorLimbS
namespace Go.Proofs.YteipkibaoikilaaDoor
open Go.RowKit LM

/-- the slice is a number's list: v its worth, below base to the K -/
def Nm (w : World) (a : Option Addr) (n v K : Nat) : Prop := ∃ l : List Nat, l.length = n ∧ Lo 4294967296 l ∧ Rd w .u32 a l ∧ vl 1000000000 l = v ∧ n ≤ K ∧ v < 1000000000 ^ K ∧ 1 ≤ K ∧ K ≤ 100000
/-- .. the plain one -/
def Pn (w : World) (a : Option Addr) (n v K : Nat) : Prop := Nm w a n v K ∧ Rd w .u32 a (dg 1000000000 v) ∧ n = (dg 1000000000 v).length
theorem Nm.below {w w' : World} {a : Option Addr} {n v K : Nat} (h : Nm w a n v K) (hb : Below w.heap.size w w') : Nm w' a n v K := by
  obtain ⟨l, h1, h2, h3, h4⟩ := h; exact ⟨l, h1, h2, h3.below hb, h4⟩
theorem Pn.below {w w' : World} {a : Option Addr} {n v K : Nat} (h : Pn w a n v K) (hb : Below w.heap.size w w') : Pn w' a n v K := ⟨h.1.below hb, h.2.1.below hb, h.2.2⟩
theorem Nm.le {w : World} {a : Option Addr} {n v K : Nat} (h : Nm w a n v K) : n ≤ 100000 := by obtain ⟨l, h1, h2, h3, h4, h5, h6, h7, h8⟩ := h; omega
theorem Nm.ofRow {w : World} {a : Option Addr} {l : List Nat} (hlo : Lo 4294967296 l) (hrd : Rd w .u32 a l) (h40 : l.length ≤ 40) : Nm w a l.length (vl 1000000000 l) 41 :=
  ⟨l, rfl, hlo, hrd, rfl, by omega, Nat.lt_of_lt_of_le (vl_bound hlo) (Nat.pow_le_pow_right (by omega) (by omega)), by omega, by omega⟩
theorem Pn.ofOwn {w : World} {B cap : Nat} {e : TypeId} {a : Option Addr} {v K : Nat} (h : Own w B e .u32 a cap (dg 1000000000 v)) (hv : v < 1000000000 ^ K) (h1 : 1 ≤ K) (h2 : K ≤ 100000) : Pn w a (dg 1000000000 v).length v K :=
  ⟨⟨_, rfl, Lo_mono (Lo_dg (by omega) v) (by omega), h.rd, vl_dg (by omega) v, dg_len_of_lt (by omega) hv, hv, h1, h2⟩, h.rd, rfl⟩
theorem powK_add {a b K L : Nat} (h1 : a < 1000000000 ^ K) (h2 : b < 1000000000 ^ L) (hK : 1 ≤ K) (hL : 1 ≤ L) : a + b < 1000000000 ^ (K + L) := by
  rw [Nat.pow_add]
  have e1 : 1000000000 ^ 1 ≤ 1000000000 ^ K := Nat.pow_le_pow_right (by omega) hK
  have e2 : 1000000000 ^ 1 ≤ 1000000000 ^ L := Nat.pow_le_pow_right (by omega) hL
  rw [Nat.pow_one] at e1 e2
  generalize 1000000000 ^ K = p at *
  generalize 1000000000 ^ L = q at *
  have h3 : p * 2 ≤ p * q := Nat.mul_le_mul_left _ (by omega)
  have h4 : 2 * q ≤ p * q := Nat.mul_le_mul_right _ (by omega)
  omega
theorem powK_mul {a b K L : Nat} (h1 : a < 1000000000 ^ K) (h2 : b < 1000000000 ^ L) : a * b < 1000000000 ^ (K + L) := by
  rw [Nat.pow_add]; exact Nat.mul_lt_mul'' h1 h2

def ResP (v K : Nat) (w : World) (e : Ending) (w' : World) : Prop := ∃ a' c' n', e = .returned (.slice a' n' c') ∧ Pn w' a' n' v K ∧ Below w.heap.size w w'

theorem nNorm {w : World} {a : Option Addr} {n v K : Nat} (ca : Nat) (ha : Nm w a n v K) : Calls Tryd.prog 17 #[.slice a n ca] w (ResP v K w) := by
  obtain ⟨l, h1, h2, h3, h4, h5, h6, h7, h8⟩ := ha
  subst h1 h4
  exact (Norm_any a ca l w (by omega) h2 h3).mono fun e w' ⟨a', c', he, ho, hb⟩ => ⟨a', c', _, he, Pn.ofOwn ho h6 h7 h8, hb⟩
theorem nAdd {w : World} {a b : Option Addr} {n m v u K L : Nat} (ca cb : Nat) (ha : Nm w a n v K) (hb : Nm w b m u L) (hKL : K + L ≤ 100000) : Calls Tryd.prog 25 #[.slice a n ca, .slice b m cb] w (ResP (v + u) (K + L) w) := by
  obtain ⟨l, h1, h2, h3, h4, h5, h6, h7, h8⟩ := ha
  obtain ⟨l', g1, g2, g3, g4, g5, g6, g7, g8⟩ := hb
  subst h1 h4 g1 g4
  exact (Add_any a b ca cb l l' w (by omega) (by omega) h2 g2 h3 g3).mono fun e w' ⟨a', c', he, ho, hb⟩ => ⟨a', c', _, he, Pn.ofOwn ho (powK_add h6 g6 h7 g7) (by omega) hKL, hb⟩
theorem nMul {w : World} {a b : Option Addr} {n m v u K L : Nat} (ca cb : Nat) (ha : Nm w a n v K) (hb : Nm w b m u L) (hKL : K + L ≤ 100000) : Calls Tryd.prog 28 #[.slice a n ca, .slice b m cb] w (ResP (v * u) (K + L) w) := by
  obtain ⟨l, h1, h2, h3, h4, h5, h6, h7, h8⟩ := ha
  obtain ⟨l', g1, g2, g3, g4, g5, g6, g7, g8⟩ := hb
  subst h1 h4 g1 g4
  exact (Mul_any a b ca cb l l' w (by omega) (by omega) h2 g2 h3 g3).mono fun e w' ⟨a', c', he, ho, hb⟩ => ⟨a', c', _, he, Pn.ofOwn ho (powK_mul h6 g6) (by omega) hKL, hb⟩
def ResP2 (v K : Nat) (w : World) (e : Ending) (w' : World) : Prop := ∃ a' c' n', e = .returned (.tuple #[.slice a' n' c', .int .i64 0]) ∧ Pn w' a' n' v K ∧ Below w.heap.size w w'
theorem nSub {w : World} {a b : Option Addr} {n m v u K L : Nat} (ca cb : Nat) (ha : Nm w a n v K) (hb : Nm w b m u L) (hle : u ≤ v) : Calls Tryd.prog 24 #[.slice a n ca, .slice b m cb] w (ResP2 (v - u) K w) := by
  obtain ⟨l, h1, h2, h3, h4, h5, h6, h7, h8⟩ := ha
  obtain ⟨l', g1, g2, g3, g4, g5, g6, g7, g8⟩ := hb
  subst h1 h4 g1 g4
  exact (Sub_any a b ca cb l l' w (by omega) (by omega) h2 g2 h3 g3 hle).mono fun e w' ⟨a', c', he, ho, hb⟩ => ⟨a', c', _, he, Pn.ofOwn ho (by omega) h7 h8, hb⟩
theorem nCmp {w : World} {a b : Option Addr} {n m v u K L : Nat} (ca cb : Nat) (ha : Nm w a n v K) (hb : Nm w b m u L) : Calls Tryd.prog 22 #[.slice a n ca, .slice b m cb] w fun e w' => e = .returned (.int .i64 (cmpN v u)) ∧ Below w.heap.size w w' := by
  obtain ⟨l, h1, h2, h3, h4, h5, h6, h7, h8⟩ := ha
  obtain ⟨l', g1, g2, g3, g4, g5, g6, g7, g8⟩ := hb
  subst h1 h4 g1 g4
  exact Cmp_any a b ca cb l l' w (by omega) (by omega) h2 g2 h3 g3
theorem nSame {w : World} {a b : Option Addr} {n m v u K L : Nat} (ca cb : Nat) (ha : Pn w a n v K) (hb : Pn w b m u L) : Calls Tryd.prog 16 #[.slice a n ca, .slice b m cb] w fun e w' => e = .returned (.bool (decide (v = u))) ∧ Below w.heap.size w w' := by
  obtain ⟨h0, h1, h2⟩ := ha
  obtain ⟨g0, g1, g2⟩ := hb
  have l1 := h0.le
  have l2 := g0.le
  subst h2 g2
  have h := same_any a b ca cb _ _ w (by omega) (by omega) h1 g1
  have e : decide (dg 1000000000 v = dg 1000000000 u) = decide (v = u) := decide_eq_decide.2 (dg_inj (by omega))
  rw [e] at h
  exact h
theorem nSameT {w : World} {a b : Option Addr} {n m v u K L : Nat} (ca cb : Nat) (ha : Pn w a n v K) (hb : Pn w b m u L) (hvu : v = u) : Calls Tryd.prog 16 #[.slice a n ca, .slice b m cb] w fun e w' => e = .returned (.bool true) ∧ Below w.heap.size w w' := by
  have h := nSame ca cb ha hb
  rw [decide_eq_true hvu] at h
  exact h

set_option maxHeartbeats 400000 in
theorem great_no (a : Option Addr) (n c : Nat) (w : World) (h : n ≤ 40) : Calls Tryd.prog 15 #[.slice a n c] w fun e w' => e = .returned (.bool false) ∧ w = w' := by
  go_enter Tryd.func15, Tryd.ntmps15
  go_wp2
  go_ret
  exact ⟨ret_bool (by simp; omega), rfl⟩
set_option maxHeartbeats 400000 in
theorem great_yes (a : Option Addr) (n c : Nat) (w : World) (h : 40 < n) : Calls Tryd.prog 15 #[.slice a n c] w fun e w' => e = .returned (.bool true) ∧ w = w' := by
  go_enter Tryd.func15, Tryd.ntmps15
  go_wp2
  go_ret
  exact ⟨ret_bool (by simp; omega), rfl⟩
end Go.Proofs.YteipkibaoikilaaDoor
