/- Plain mathematics: the highest limbs' bounds. Nothing of the program. -/
import Derived.Test.YtofeckdhhaoobaaDoorLimbMathD
namespace Go.Proofs.YtofeckdhhaoobaaDoor.LM

theorem top2 {y : List Nat} {m : Nat} (h : y.length = m + 2) (hlo : Lo 1000000000 y) :
    ∃ r, r < 1000000000 ^ m ∧ vl 1000000000 y = r + 1000000000 ^ m * (y[m + 1]?.getD 0 * 1000000000 + y[m]?.getD 0) := by
  refine ⟨vl 1000000000 (y.take m), ?_, ?_⟩
  · have := vl_lt (b := 1000000000) (l := y.take m) (fun z hz => hlo z (List.mem_of_mem_take hz))
    rwa [List.length_take, Nat.min_eq_left (by omega)] at this
  · have h1 := vl_drop (b := 1000000000) (l := y) (k := m) (by omega)
    rw [vl_drop_step (by omega), vl_top (by omega)] at h1
    rw [h1, Nat.mul_comm 1000000000, Nat.add_comm (y[m]?.getD 0)]
theorem top3 {W : List Nat} {m : Nat} (h : W.length = m + 3) (hlo : Lo 1000000000 W) :
    ∃ r, r < 1000000000 ^ m ∧ vl 1000000000 W = r + 1000000000 ^ m * ((W[m + 2]?.getD 0 * 1000000000 + W[m + 1]?.getD 0) * 1000000000 + W[m]?.getD 0) := by
  refine ⟨vl 1000000000 (W.take m), ?_, ?_⟩
  · have := vl_lt (b := 1000000000) (l := W.take m) (fun z hz => hlo z (List.mem_of_mem_take hz))
    rwa [List.length_take, Nat.min_eq_left (by omega)] at this
  · have h1 := vl_drop (b := 1000000000) (l := W) (k := m) (by omega)
    rw [vl_drop_step (by omega), vl_drop_step (by omega), vl_top (by omega), show W[m + 1 + 1]? = W[m + 2]? from rfl] at h1
    rw [h1]
    congr 1
    congr 1
    omega
theorem bnd_many {y W : List Nat} {m : Nat} (hym : y.length = m + 2) (hWm : W.length = m + 3) (hyl : Lo 1000000000 y) (hWl : Lo 1000000000 W) (hlt : vl 1000000000 W < 1000000000 * vl 1000000000 y) (hy1 : 1 ≤ y[m + 1]?.getD 0)
    {W3 b : Nat} (hW3 : W3 = (W[m + 2]?.getD 0 * 1000000000 + W[m + 1]?.getD 0) * 1000000000 + W[m]?.getD 0) (hb : b = y[m + 1]?.getD 0 * 1000000000 + y[m]?.getD 0) :
    W3 / (b + 1) ≤ vl 1000000000 W / vl 1000000000 y ∧ vl 1000000000 W / vl 1000000000 y ≤ W3 / b ∧ W3 / b ≤ 1000000000 ∧ (y[m + 1]?.getD 0 ≤ 15 → W3 ≤ 18446744073709551615) := by
  obtain ⟨r, hr, hy⟩ := top2 hym hyl
  obtain ⟨r', hr', hW⟩ := top3 hWm hWl
  rw [← hb] at hy
  rw [← hW3] at hW
  have hz2 := Lo_get hyl (by omega) m
  have hx2 := Lo_get hWl (by omega) m
  have hb0 : 1000000000 ≤ b := by omega
  generalize 1000000000 ^ m = s at *
  have hs : 0 < s := by omega
  have e1 : b * s ≤ vl 1000000000 y := by rw [hy, Nat.mul_comm]; omega
  have e2 : vl 1000000000 y ≤ (b + 1) * s := by rw [hy, Nat.add_mul, Nat.mul_comm b s]; omega
  have e3 : W3 * s ≤ vl 1000000000 W := by rw [hW, Nat.mul_comm]; omega
  have e4 : vl 1000000000 W < (W3 + 1) * s := by rw [hW, Nat.add_mul, Nat.mul_comm W3 s]; omega
  have hW3b : W3 < 1000000000 * (b + 1) := by
    have h1 : W3 * s < 1000000000 * ((b + 1) * s) := by omega
    rw [← Nat.mul_assoc] at h1
    exact Nat.lt_of_mul_lt_mul_right h1
  have hy0 : 0 < vl 1000000000 y := by
    have := Nat.mul_pos (show 0 < b by omega) hs
    omega
  refine ⟨bound_low hy0 e2 e3, bound_high hs e1 e4 (by omega), ?_, ?_⟩
  · have : W3 < (1000000000 + 1) * b := by omega
    have := (Nat.div_lt_iff_lt_mul (show 0 < b by omega)).2 this
    omega
  · intro h15
    omega
theorem bnd_one {y W : List Nat} (hym : y.length = 1) (hWm : W.length = 2) (hyl : Lo 1000000000 y) (hWl : Lo 1000000000 W) (hlt : vl 1000000000 W < 1000000000 * vl 1000000000 y) (hy1 : 1 ≤ y[0]?.getD 0)
    {W3 b : Nat} (hW3 : W3 = (W[1]?.getD 0 * 1000000000 + W[0]?.getD 0) * 1000000000) (hb : b = y[0]?.getD 0 * 1000000000) :
    W3 / (b + 1) ≤ vl 1000000000 W / vl 1000000000 y ∧ vl 1000000000 W / vl 1000000000 y ≤ W3 / b ∧ W3 / b ≤ 1000000000 ∧ (y[0]?.getD 0 ≤ 15 → W3 ≤ 18446744073709551615) := by
  have hy : vl 1000000000 y = y[0]?.getD 0 := by
    have := vl_top (X := y) (h := 0) hym; rwa [List.drop_zero] at this
  have hW : vl 1000000000 W = W[1]?.getD 0 * 1000000000 + W[0]?.getD 0 := by
    have h1 := vl_drop_step (X := W) (k := 0) (by omega)
    rw [List.drop_zero, vl_top (X := W) (h := 1) hWm] at h1
    omega
  rw [← hy] at hb hy1
  rw [← hW] at hW3
  rw [← hy]
  have e : W3 / b = vl 1000000000 W / vl 1000000000 y := by rw [hW3, hb]; exact Nat.mul_div_mul_right _ _ (by omega)
  refine ⟨?_, by omega, ?_, ?_⟩
  · rw [← e]; exact Nat.div_le_div_left (by omega) (by omega)
  · rw [e]
    have := (Nat.div_lt_iff_lt_mul (show 0 < vl 1000000000 y by omega)).2 hlt
    omega
  · intro h; omega
theorem win_lt {Y R : List Nat} {p m : Nat} (hm : Y.length = m) (hYlo : Lo 1000000000 Y) (hRlo : Lo 1000000000 R) (hp : p < R.length) (hr : vl 1000000000 (R.drop (p + 1)) < vl 1000000000 Y) :
    vl 1000000000 ((R.drop p).take (m + 1)) < 1000000000 * vl 1000000000 Y := by
  have hYb := vl_lt hYlo
  rw [hm] at hYb
  have hx0 : R[p]?.getD 0 < 1000000000 := Lo_get hRlo (by omega) p
  have hstep := vl_drop_step (X := R) (k := p) (by omega)
  have hWlt : vl 1000000000 (R.drop p) < 1000000000 * vl 1000000000 Y := by omega
  have hWb : vl 1000000000 (R.drop p) < 1000000000 ^ (m + 1) := by rw [Nat.pow_succ]; omega
  rw [vl_window hWb]; exact hWlt
theorem Lo_window {R : List Nat} {p m : Nat} (h : Lo 1000000000 R) : Lo 1000000000 ((R.drop p).take m) := fun z hz => h z (List.mem_of_mem_drop (List.mem_of_mem_take hz))
theorem Lo_win {R d : List Nat} {p : Nat} (h : Lo 1000000000 R) (hd : Lo 1000000000 d) : Lo 1000000000 (win R d p) :=
  Lo_append (Lo_append (fun z hz => h z (List.mem_of_mem_take hz)) hd) (fun z hz => h z (List.mem_of_mem_drop hz))
end Go.Proofs.YtofeckdhhaoobaaDoor.LM
