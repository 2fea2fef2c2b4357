/- Walks of the document's at, low, Order, Compare. -/
import Derived.Test.YtimfpgpomafflaaGreatDoorDecQs
import Derived.Test.YtimfpgpomafflaaGreatDoorLimbXc
namespace Go.Proofs.YtimfpgpomafflaaGreatDoor
open Go.RowKit LM

theorem dg_shift2 {v : Nat} (h : 0 < v) : ∀ n, dg 10 (v * 10 ^ n) = List.replicate n 0 ++ dg 10 v := by
  intro n
  induction n with
  | zero => simp
  | succ n ih =>
    have hp : 0 < 10 ^ n := Nat.pow_pos (by omega)
    have hvp : 0 < v * 10 ^ n := Nat.mul_pos h hp
    rw [Nat.pow_succ, ← Nat.mul_assoc, dg_pos (by omega) (by omega), Nat.mul_mod_left, Nat.mul_div_left _ (by omega), ih, List.replicate_succ]; rfl

def ResDg (v : Nat) (w : World) (r : Ending) (w' : World) : Prop := ∃ a' c', r = .returned (.slice a' (dg 10 v).length c') ∧ RdC w' a' c' v ∧ Below w.heap.size w w'

set_option maxHeartbeats 2000000 in
theorem RShift_rd (m : Nat) (a : Option Addr) (ca : Nat) {N : Int} (n : Nat) (hN : N = (n : Int)) (w : World) (hl : (dg 10 m).length ≤ 1000000) (hn : n ≤ 1000000) (hr : RdC w a ca m) :
    Calls Tryz.prog 48 #[.slice a (dg 10 m).length ca, .int .i64 N] w (ResDg (m * 10 ^ n) w) := by
  subst hN
  rcases Nat.eq_zero_or_pos m with h0 | h0
  · subst h0
    rw [Nat.zero_mul, dg_zero]
    go_enter Tryz.func48, Tryz.ntmps48
    go_wp2
    go_ret
    exact ⟨none, 0, by rw [dg_zero]; rfl, RdC.zero _, Below.refl _ _⟩
  · have hpos : (dg 10 m).length ≠ 0 := by rw [dg_pos (by omega) h0]; simp
    have hs := dg_shift2 h0 n
    have hdl : (dg 10 (m * 10 ^ n)).length = n + (dg 10 m).length := by rw [hs]; simp
    obtain ⟨hrd, hc1, hc2, hnn⟩ := hr
    have hnone : a = none → dg 10 m = [] ∧ ca = 0 := fun h => by obtain ⟨h1, _⟩ := hnn h; omega
    have HNONE := Lib.hid hnone; have HRD := Lib.hid hrd; have HS := Lib.hid hs; have HDL := Lib.hid hdl
    have hrl : (List.replicate n 0).length = n := List.length_replicate
    have hcl : ((List.replicate n 0).length + (dg 10 m).length) * 1 ≤ 140737488355328 := by rw [hrl]; omega
    have hcl2 : (List.replicate n 0).length + (dg 10 m).length ≤ maxLen := by rw [hrl]; unfold maxLen; omega
    have HRL := Lib.hid hrl; have HCL := Lib.hid hcl; have HCL2 := Lib.hid hcl2
    clear hnone hrd hrl hcl hcl2 hc1 hc2 hnn hs hdl
    generalize dg 10 m = x at *
    have h0' : 0 < x.length := by omega
    go_enter Tryz.func48, Tryz.ntmps48
    go_wp2_with (at_make; refine wp_make _ rfl _ _ 51 rfl w.heap.size 5 .u8 1 Tryz.underlying51 infoU8 _ _ _ _ n rfl rfl rfl rfl (by omega) (by unfold maxLen; omega) (Nat.le_refl _) ?_)
    intro w3 hown3 hb3
    have hrd3 := HRD.out.below hb3
    go_wp2_with (at_builtin; refine wp_cat w3 rfl _ _ 51 rfl w.heap.size 5 .u8 1 Tryz.underlying51 infoU8 _ a _ ca n x.length (List.replicate n 0) x HRL.out.symm rfl rfl rfl hown3 hrd3 HNONE.out HCL.out HCL2.out hb3.size ?_)
    intro a4 c4 w4 hown4 hb4 _
    have hbl := hb3.trans hb4
    clear hown3 hb3 hb4 hrd3
    go_wp2
    go_ret
    exact ⟨a4, c4, ret_slice HDL.out.symm, RdC.ofOwn (show Own w4 w.heap.size 5 .u8 a4 c4 (dg 10 (m * 10 ^ n)) by rw [HS.out]; exact hown4), hbl⟩

theorem dg_lo10 : ∀ n, 0 < n → 10 ^ ((dg 10 n).length - 1) ≤ n := fun n h => dg_lower (by omega) n h
/-- where a number's first digit stands -/
def hd (p : Pl) : Int := p.e + dl p.m - 1
theorem ual_lt {p q : Pl} (hp : 0 < p.m) (hq : 0 < q.m) (h : hd p < hd q) : ual p (mn p q) < ual q (mn p q) := by
  unfold hd dl at h
  have h1 := dg_upper (b := 10) (by omega) p.m
  have h2 := dg_lo10 q.m hq
  have h3 : (dg 10 q.m).length ≠ 0 := by rw [dg_pos (by omega) hq]; simp
  unfold ual
  have e1 : p.m * 10 ^ (p.e - mn p q).toNat < 10 ^ ((dg 10 p.m).length + (p.e - mn p q).toNat) := by rw [Nat.pow_add]; exact Nat.mul_lt_mul_of_pos_right h1 (Nat.pow_pos (by omega))
  have e2 : 10 ^ ((dg 10 q.m).length - 1 + (q.e - mn p q).toNat) ≤ q.m * 10 ^ (q.e - mn p q).toNat := by rw [Nat.pow_add]; exact Nat.mul_le_mul_right _ h2
  have e3 : 10 ^ ((dg 10 p.m).length + (p.e - mn p q).toNat) ≤ 10 ^ ((dg 10 q.m).length - 1 + (q.e - mn p q).toNat) := Nat.pow_le_pow_right (by omega) (by unfold mn; omega)
  exact Nat.lt_of_lt_of_le e1 (Nat.le_trans e3 e2)
theorem mn_comm (p q : Pl) : mn p q = mn q p := by unfold mn; omega
theorem cmpN_swap (a b : Nat) : cmpN a b = - cmpN b a := by unfold cmpN; split; split; omega; simp; split; simp; simp
theorem cmpN_zero {a b x y : Nat} (h : a = 0 ∨ b = 0) (hx : 0 < x) (hy : 0 < y) : cmpN (a * x) (b * y) = cmpN a b := by
  rcases h with rfl | rfl
  · rw [Nat.zero_mul]
    unfold cmpN
    rcases Nat.eq_zero_or_pos b with h | h
    · subst h; simp
    · rw [if_pos (Nat.mul_pos h hy), if_pos h]
  · rw [Nat.zero_mul]
    unfold cmpN
    rcases Nat.eq_zero_or_pos a with h | h
    · subst h; simp
    · rw [if_neg (by omega), if_pos (Nat.mul_pos h hx), if_neg (by omega), if_pos h]
/-- the sizes' order -/
def szC (p q : Pl) : Int := cmpN (ual p (mn p q)) (ual q (mn p q))
theorem szC_zero {p q : Pl} (h : p.m = 0 ∨ q.m = 0) : szC p q = cmpN p.m q.m := cmpN_zero h (Nat.pow_pos (by omega)) (Nat.pow_pos (by omega))
theorem szC_lt {p q : Pl} (hp : 0 < p.m) (hq : 0 < q.m) (h : hd p < hd q) : szC p q = -1 := cmpN_lt (ual_lt hp hq h)
theorem szC_gt {p q : Pl} (hp : 0 < p.m) (hq : 0 < q.m) (h : hd q < hd p) : szC p q = 1 := by
  unfold szC; rw [mn_comm]; exact cmpN_gt (ual_lt hq hp h)
theorem cmpP_sz (p q : Pl) : cmpP p q = if p.neg ≠ q.neg then (if p.neg = true then -1 else 1) else if p.neg = true then szC q p else szC p q := by
  unfold cmpP szC
  rw [mn_comm q p]
  rcases p.neg with _ | _ <;> rcases q.neg with _ | _ <;> simp
end Go.Proofs.YtimfpgpomafflaaGreatDoor
