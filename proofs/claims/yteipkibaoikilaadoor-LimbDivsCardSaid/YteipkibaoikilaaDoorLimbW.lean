/- Contracts at the level of numbers, for the document's answer. -/
import Derived.Test.YteipkibaoikilaaDoorLimbX
import Derived.Test.YteipkibaoikilaaDoorLimbZ
import Derived.Test.YteipkibaoikilaaDoorLimbYc
namespace Go.Proofs.YteipkibaoikilaaDoor
open Go.RowKit LM

/-- the slice is the digits of v, which is below ten to the M -/
def Dn (w : World) (a : Option Addr) (n v M : Nat) : Prop := Rd w .u8 a (dg 10 v) ∧ n = (dg 10 v).length ∧ v < 10 ^ M ∧ 1 ≤ M ∧ M ≤ 100000
theorem Dn.below {w w' : World} {a : Option Addr} {n v M : Nat} (h : Dn w a n v M) (hb : Below w.heap.size w w') : Dn w' a n v M := ⟨h.1.below hb, h.2⟩
theorem Dn.len {w : World} {a : Option Addr} {n v M : Nat} (h : Dn w a n v M) : (dg 10 v).length ≤ M := dg_len_of_lt (by omega) h.2.2.1
theorem Dn.ofOwn {w : World} {B cap : Nat} {e : TypeId} {a : Option Addr} {v M : Nat} (h : Own w B e .u8 a cap (dg 10 v)) (hv : v < 10 ^ M) (h1 : 1 ≤ M) (h2 : M ≤ 100000) : Dn w a (dg 10 v).length v M := ⟨h.rd, rfl, hv, h1, h2⟩
theorem pow10_add {a b K L : Nat} (h1 : a < 10 ^ K) (h2 : b < 10 ^ L) (hK : 1 ≤ K) (hL : 1 ≤ L) : a + b < 10 ^ (K + L) := by
  rw [Nat.pow_add]
  have e1 : 10 ^ 1 ≤ 10 ^ K := Nat.pow_le_pow_right (by omega) hK
  have e2 : 10 ^ 1 ≤ 10 ^ L := Nat.pow_le_pow_right (by omega) hL
  rw [Nat.pow_one] at e1 e2
  generalize 10 ^ K = p at *
  generalize 10 ^ L = q at *
  have h3 : p * 2 ≤ p * q := Nat.mul_le_mul_left _ (by omega)
  have h4 : 2 * q ≤ p * q := Nat.mul_le_mul_right _ (by omega)
  omega
theorem pow10_mul {a b K L : Nat} (h1 : a < 10 ^ K) (h2 : b < 10 ^ L) : a * b < 10 ^ (K + L) := by rw [Nat.pow_add]; exact Nat.mul_lt_mul'' h1 h2
theorem pow_9 {v M : Nat} (h : v < 10 ^ M) : v < 1000000000 ^ M := Nat.lt_of_lt_of_le h (Nat.pow_le_pow_left (by omega) M)

def ResD (v M : Nat) (w : World) (e : Ending) (w' : World) : Prop := ∃ a' c' n', e = .returned (.slice a' n' c') ∧ Dn w' a' n' v M ∧ Below w.heap.size w w'
theorem Nm.ten {w : World} {a : Option Addr} {n v K : Nat} (h : Nm w a n v K) : v < 10 ^ (9 * K) := by
  obtain ⟨l, h1, h2, h3, h4, h5, h6, h7, h8⟩ := h
  rw [Nat.pow_mul]; exact h6
theorem dOf {w : World} {a : Option Addr} {n v K : Nat} (ca : Nat) (ha : Nm w a n v K) (hK : K ≤ 1000) : Calls Tryd.prog 19 #[.slice a n ca] w (ResD v (9 * K) w) := by
  have ht := ha.ten
  obtain ⟨l, h1, h2, h3, h4, h5, h6, h7, h8⟩ := ha
  subst h1 h4
  exact (of_any a ca l w (by omega) h2 h3).mono fun e w' ⟨a', c', he, ho, hb⟩ => ⟨a', c', _, he, Dn.ofOwn ho ht (by omega) (by omega), hb⟩
def ResDC (v M : Nat) (w : World) (e : Ending) (w' : World) : Prop := ∃ a' c' n', e = .returned (.slice a' n' c') ∧ (Dn w' a' n' v M ∧ (∃ B t, Own w' B t .u8 a' c' (dg 10 v)) ∧ n' ≤ c' ∧ c' ≤ maxLen) ∧ Below w.heap.size w w'
theorem dOfC {w : World} {a : Option Addr} {n v K : Nat} (ca : Nat) (ha : Nm w a n v K) (hK : K ≤ 1000) : Calls Tryd.prog 19 #[.slice a n ca] w (ResDC v (9 * K) w) := by
  have ht := ha.ten
  obtain ⟨l, h1, h2, h3, h4, h5, h6, h7, h8⟩ := ha
  subst h1 h4
  exact (of_any a ca l w (by omega) h2 h3).mono fun e w' ⟨a', c', he, ho, hb⟩ => ⟨a', c', _, he, ⟨Dn.ofOwn ho ht (by omega) (by omega), ⟨_, _, ho⟩, ho.cap⟩, hb⟩
theorem dTo {w : World} {a : Option Addr} {n v M : Nat} (ca : Nat) (ha : Dn w a n v M) : Calls Tryd.prog 18 #[.slice a n ca] w (ResP v M w) := by
  have hl := ha.len
  obtain ⟨h1, h2, h3, h4, h5⟩ := ha
  subst h2
  exact (to_any a ca v w (by omega) h1).mono fun e w' ⟨a', c', he, ho, hb⟩ => ⟨a', c', _, he, Pn.ofOwn ho (pow_9 h3) h4 h5, hb⟩
theorem dAdd {w : World} {a b : Option Addr} {n m v u K L : Nat} (ca cb : Nat) (ha : Dn w a n v K) (hb : Dn w b m u L) (hKL : K + L ≤ 100000) : Calls Tryd.prog 26 #[.slice a n ca, .slice b m cb] w (ResD (v + u) (K + L) w) := by
  have l1 := ha.len; have l2 := hb.len
  obtain ⟨h1, h2, h3, h4, h5⟩ := ha
  obtain ⟨g1, g2, g3, g4, g5⟩ := hb
  subst h2 g2
  have h := RAdd_any a b ca cb (dg 10 v) (dg 10 u) w (by omega) (by omega) (Lo_dg (by omega) _) (Lo_dg (by omega) _) h1 g1
  rw [vl_dg (by omega), vl_dg (by omega)] at h
  exact h.mono fun e w' ⟨a', c', he, ho, hb⟩ => ⟨a', c', _, he, Dn.ofOwn ho (pow10_add h3 g3 h4 g4) (by omega) hKL, hb⟩
theorem dSub {w : World} {a b : Option Addr} {n m v u K L : Nat} (ca cb : Nat) (ha : Dn w a n v K) (hb : Dn w b m u L) (hle : u ≤ v) : Calls Tryd.prog 27 #[.slice a n ca, .slice b m cb] w (ResD (v - u) K w) := by
  have l1 := ha.len; have l2 := hb.len
  obtain ⟨h1, h2, h3, h4, h5⟩ := ha
  obtain ⟨g1, g2, g3, g4, g5⟩ := hb
  subst h2 g2
  have h := RSub_any a b ca cb (dg 10 v) (dg 10 u) w (by omega) (dg_len_le (by omega) hle) (Lo_dg (by omega) _) (Lo_dg (by omega) _) (by rw [vl_dg (by omega), vl_dg (by omega)]; exact hle) h1 g1
  rw [vl_dg (by omega), vl_dg (by omega)] at h
  exact h.mono fun e w' ⟨a', c', he, ho, hb⟩ => ⟨a', c', _, he, Dn.ofOwn ho (by omega) h4 h5, hb⟩
theorem dMul {w : World} {a b : Option Addr} {n m v u K L : Nat} (ca cb : Nat) (ha : Dn w a n v K) (hb : Dn w b m u L) (hKL : K + L ≤ 100000) : Calls Tryd.prog 29 #[.slice a n ca, .slice b m cb] w (ResD (v * u) (K + L) w) := by
  have l1 := ha.len; have l2 := hb.len
  obtain ⟨h1, h2, h3, h4, h5⟩ := ha
  obtain ⟨g1, g2, g3, g4, g5⟩ := hb
  subst h2 g2
  have h := RMul_any a b ca cb (dg 10 v) (dg 10 u) w (by omega) (by omega) (Lo_dg (by omega) _) (Lo_dg (by omega) _) h1 g1
  rw [vl_dg (by omega), vl_dg (by omega)] at h
  exact h.mono fun e w' ⟨a', c', he, ho, hb⟩ => ⟨a', c', _, he, Dn.ofOwn ho (pow10_mul h3 g3) (by omega) hKL, hb⟩
theorem dCmp {w : World} {a b : Option Addr} {n m v u K L : Nat} (ca cb : Nat) (ha : Dn w a n v K) (hb : Dn w b m u L) : Calls Tryd.prog 23 #[.slice a n ca, .slice b m cb] w fun e w' => e = .returned (.int .i64 (cmpN v u)) ∧ Below w.heap.size w w' := by
  have l1 := ha.len; have l2 := hb.len
  obtain ⟨h1, h2, h3, h4, h5⟩ := ha
  obtain ⟨g1, g2, g3, g4, g5⟩ := hb
  subst h2 g2
  exact RCmp_any a b ca cb v u w (by omega) (by omega) h1 g1
theorem dCmpLt {w : World} {a b : Option Addr} {n m v u K L : Nat} (ca cb : Nat) (ha : Dn w a n v K) (hb : Dn w b m u L) (h : v < u) : Calls Tryd.prog 23 #[.slice a n ca, .slice b m cb] w fun e w' => e = .returned (.int .i64 (-1)) ∧ Below w.heap.size w w' := by
  have := dCmp ca cb ha hb
  rw [cmpN_lt h] at this; exact this
theorem dCmpGe {w : World} {a b : Option Addr} {n m v u K L : Nat} (ca cb : Nat) (ha : Dn w a n v K) (hb : Dn w b m u L) (h : u ≤ v) : Calls Tryd.prog 23 #[.slice a n ca, .slice b m cb] w fun e w' => ∃ c : Int, 0 ≤ c ∧ e = .returned (.int .i64 c) ∧ Below w.heap.size w w' :=
  (dCmp ca cb ha hb).mono fun e w' ⟨he, hb⟩ => ⟨_, by unfold cmpN; rw [if_neg (by omega)]; split <;> omega, he, hb⟩
theorem dText {w : World} {a : Option Addr} {n v M : Nat} (ca : Nat) (ha : Dn w a n v M) : Calls Tryd.prog 33 #[.slice a n ca] w fun e w' => e = .returned (.string ⟨(Lib.decDigits v).toArray⟩) ∧ Below w.heap.size w w' := by
  have hl := ha.len
  obtain ⟨h1, h2, h3, h4, h5⟩ := ha
  subst h2
  exact RText_any a ca v w (by omega) h1
theorem nSubLess {w : World} {a b : Option Addr} {n m v u K L : Nat} (ca cb : Nat) (ha : Nm w a n v K) (hb : Nm w b m u L) (hlt : v < u) : Calls Tryd.prog 24 #[.slice a n ca, .slice b m cb] w fun e w' => e = .returned (.tuple #[.slice none 0 0, .int .i64 1]) ∧ Below w.heap.size w w' := by
  obtain ⟨l, h1, h2, h3, h4, h5, h6, h7, h8⟩ := ha
  obtain ⟨l', g1, g2, g3, g4, g5, g6, g7, g8⟩ := hb
  subst h1 h4 g1 g4
  exact Sub_less a b ca cb l l' w (by omega) (by omega) h2 g2 h3 g3 hlt
theorem nText {w : World} {a : Option Addr} {n v K : Nat} (ca : Nat) (ha : Nm w a n v K) (htab : Tab w) : Calls Tryd.prog 32 #[.slice a n ca] w fun e w' => e = .returned (.string ⟨(Lib.decDigits v).toArray⟩) ∧ Below w.heap.size w w' := by
  obtain ⟨l, h1, h2, h3, h4, h5, h6, h7, h8⟩ := ha
  subst h1 h4
  exact Text_any a ca l w (by omega) h2 h3 htab
theorem nDigits {w : World} {a : Option Addr} {n v K : Nat} (ca : Nat) (ha : Nm w a n v K) (htab : Tab w) : Calls Tryd.prog 34 #[.slice a n ca] w fun e w' => e = .returned (.int .i64 ((dg 10 v).length : Nat)) ∧ Below w.heap.size w w' := by
  obtain ⟨l, h1, h2, h3, h4, h5, h6, h7, h8⟩ := ha
  subst h1 h4
  exact Digits_any a ca l w (by omega) h2 h3 htab
theorem dg_shift {v : Nat} (h : 0 < v) : ∀ n, dg 10 (v * 10 ^ n) = List.replicate n 0 ++ dg 10 v := by
  intro n
  induction n with
  | zero => simp
  | succ n ih =>
    have hp : 0 < 10 ^ n := Nat.pow_pos (by omega)
    have hvp : 0 < v * 10 ^ n := Nat.mul_pos h hp
    rw [Nat.pow_succ, ← Nat.mul_assoc, dg_pos (by omega) (by omega), Nat.mul_mod_left, Nat.mul_div_left _ (by omega), ih, List.replicate_succ]; rfl
set_option maxHeartbeats 1000000 in
theorem RShift_nil (a : Option Addr) (ca : Nat) (n : Int) (w : World) :
    Calls Tryd.prog 40 #[.slice a 0 ca, .int .i64 n] w fun e w' => e = .returned (.slice none 0 0) ∧ w = w' := by
  go_enter Tryd.func40, Tryd.ntmps40
  go_wp2
  go_ret
  exact ⟨rfl, rfl⟩
theorem dShift {w : World} {B ca k : Nat} {t : TypeId} {a : Option Addr} {v M : Nat} (n : Nat) (hk : k = (dg 10 v).length) (ha : Own w B t .u8 a ca (dg 10 v)) (hv : v < 10 ^ M) (h1 : 1 ≤ M) (hn : M + n ≤ 100000) : Calls Tryd.prog 40 #[.slice a k ca, .int .i64 n] w (ResD (v * 10 ^ n) (M + n) w) := by
  subst hk
  have hl : (dg 10 v).length ≤ M := dg_len_of_lt (by omega) hv
  have hvn : v * 10 ^ n < 10 ^ (M + n) := by rw [Nat.pow_add]; exact Nat.mul_lt_mul_of_pos_right hv (Nat.pow_pos (by omega))
  rcases Nat.eq_zero_or_pos v with e0 | e0
  · subst e0
    rw [Nat.zero_mul] at hvn ⊢
    rw [dg_zero]
    exact (RShift_nil a ca n w).mono fun e w' ⟨he, hw⟩ => by
      subst hw
      exact ⟨none, 0, 0, he, ⟨by rw [dg_zero]; exact Rd.nil _ _ _, by rw [dg_zero]; rfl, hvn, by omega, hn⟩, Below.refl _ _⟩
  · refine (RShift_any a ca n B t (dg 10 v) w (by omega) (by omega) ha).mono fun e w' ⟨a', c', y, he, hy, ho, hb⟩ => ?_
    have hy2 : y = dg 10 (v * 10 ^ n) := by
      rw [dg_shift e0]
      rcases hy with ⟨_, h⟩ | h
      · exact absurd ((dg_eq_nil (by omega)).1 h) (by omega)
      · exact h
    subst hy2
    exact ⟨a', c', _, he, Dn.ofOwn ho hvn (by omega) hn, hb⟩
def ResCut (v n M : Nat) (w : World) (e : Ending) (w' : World) : Prop := ∃ a1 c1 n1 a2 c2 n2, e = .returned (.tuple #[.slice a1 n1 c1, .slice a2 n2 c2]) ∧ Dn w' a1 n1 (v / 10 ^ n) M ∧ Dn w' a2 n2 (v % 10 ^ n) M ∧ Below w.heap.size w w'
theorem dCut {w : World} {a : Option Addr} {k v M ca : Nat} (n : Nat) (ha : Dn w a k v M) (hc1 : k ≤ ca) (hc2 : ca ≤ maxLen) : Calls Tryd.prog 39 #[.slice a k ca, .int .i64 n] w (ResCut v n M w) := by
  have hl := ha.len
  obtain ⟨h1, h2, h3, h4, h5⟩ := ha
  subst h2
  have hq : v / 10 ^ n < 10 ^ M := Nat.lt_of_le_of_lt (Nat.div_le_self _ _) h3
  have hr : v % 10 ^ n < 10 ^ M := Nat.lt_of_le_of_lt (Nat.mod_le _ _) h3
  rcases Nat.lt_or_ge n (dg 10 v).length with hn | hn
  · exact (RCut_in a ca v n w (by omega) hn hc1 hc2 h1).mono fun e w' ⟨a1, c1, a2, c2, he, r1, o2, hb⟩ => ⟨a1, c1, _, a2, c2, _, he, ⟨r1, rfl, hq, h4, h5⟩, ⟨o2.rd, rfl, hr, h4, h5⟩, hb⟩
  · obtain ⟨e1, e2⟩ := low_all (b := 10) (by omega) hn
    refine (RCut_out a ca v n w (by omega) hn).mono fun e w' ⟨he, hw⟩ => ?_
    subst hw
    unfold ResCut
    rw [e1] at hq
    rw [e1, e2]
    exact ⟨none, 0, 0, a, ca, _, he, ⟨by rw [dg_zero]; exact Rd.nil _ _ _, by rw [dg_zero]; rfl, hq, h4, h5⟩, ⟨h1, rfl, h3, h4, h5⟩, Below.refl _ _⟩
def ResS (v K : Nat) (w : World) (e : Ending) (w' : World) : Prop := ∃ a' c' n', e = .returned (.tuple #[.slice a' n' c', .int .i64 0]) ∧ Pn w' a' n' v K ∧ Below w.heap.size w w'
def ResS2 (v u K : Nat) (w : World) (e : Ending) (w' : World) : Prop := ∃ a1 c1 n1 a2 c2 n2, e = .returned (.tuple #[.slice a1 n1 c1, .slice a2 n2 c2, .int .i64 0]) ∧ Pn w' a1 n1 v K ∧ Pn w' a2 n2 u K ∧ Below w.heap.size w w'
theorem nShift {w : World} {a : Option Addr} {k v K : Nat} (ca n : Nat) (ha : Nm w a k v K) (hn : n ≤ 30000) (hK : K + n ≤ 100000) : Calls Tryd.prog 37 #[.slice a k ca, .int .i64 n] w (ResS (v * 10 ^ n) (K + n) w) := by
  obtain ⟨l, h1, h2, h3, h4, h5, h6, h7, h8⟩ := ha
  subst h1 h4
  have hv : vl 1000000000 l * 10 ^ n < 1000000000 ^ (K + n) := by
    rw [Nat.pow_add]
    exact Nat.lt_of_lt_of_le (Nat.mul_lt_mul_of_pos_right h6 (Nat.pow_pos (by omega))) (Nat.mul_le_mul_left _ (Nat.pow_le_pow_left (by omega) n))
  exact (Shift_any a ca l n w hn (by omega) h2 h3).mono fun e w' ⟨a', c', he, ho, hb⟩ => ⟨a', c', _, he, Pn.ofOwn ho hv (by omega) hK, hb⟩
theorem nCut {w : World} {a : Option Addr} {k v K : Nat} (ca n : Nat) (ha : Nm w a k v K) (hn : n ≤ 30000) : Calls Tryd.prog 38 #[.slice a k ca, .int .i64 n] w (ResS2 (v / 10 ^ n) (v % 10 ^ n) K w) := by
  obtain ⟨l, h1, h2, h3, h4, h5, h6, h7, h8⟩ := ha
  subst h1 h4
  have hq : vl 1000000000 l / 10 ^ n < 1000000000 ^ K := Nat.lt_of_le_of_lt (Nat.div_le_self _ _) h6
  have hr : vl 1000000000 l % 10 ^ n < 1000000000 ^ K := Nat.lt_of_le_of_lt (Nat.mod_le _ _) h6
  exact (Cut_any a ca l n w hn (by omega) h2 h3).mono fun e w' ⟨a1, c1, a2, c2, he, o1, o2, hb⟩ => ⟨a1, c1, _, a2, c2, _, he, Pn.ofOwn o1 hq h7 h8, Pn.ofOwn o2 hr h7 h8, hb⟩
end Go.Proofs.YteipkibaoikilaaDoor
