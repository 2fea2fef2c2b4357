/- Walks: the document's answer: trim, digit, Add, Shift. -/
import Derived.Test.YtofeckdhhaoobaaDoorLimbMaths
import Derived.Test.YtofeckdhhaoobaaDoorLimbK
namespace Go.Proofs.YtofeckdhhaoobaaDoor
open Go.RowKit LM

set_option maxHeartbeats 400000 in
theorem rtrim_any (a : Option Addr) (cap : Nat) (l : List Nat) (w : World) (hl : l.length ≤ 9223372036854775807) (hrd : Rd w .u8 a l) (hcap : l.length ≤ cap) :
    Calls Tryd.prog 79 #[.slice a l.length cap] w fun e w' => e = .returned (.slice a (tr l).length cap) ∧ w = w' := by
  go_enter Tryd.func79, Tryd.ntmps79
  go_wp2
  go_loop [3] (fun i => ∃ k : Nat, k ≤ l.length ∧ tr (l.take k) = tr l ∧ i = .int .i64 k) (fun i => (intOf i).toNat)
  case atStart => exact ⟨l.length, Nat.le_refl _, by rw [List.take_length], rfl⟩
  case round =>
    obtain ⟨k, hk, ht, rfl⟩ := hrel
    have HT := Lib.hid ht; clear ht
    rcases Nat.eq_zero_or_pos k with h0 | h0
    · subst h0
      go_wp2
      go_ret
      have h := HT.out; simp only [List.take_zero, tr] at h
      exact ⟨by rw [← h]; rfl, rfl⟩
    · obtain ⟨m, rfl⟩ : ∃ m, k = m + 1 := ⟨k - 1, by omega⟩
      obtain ⟨b, off, ha, hc⟩ := hrd m (by omega)
      subst ha
      go_wp2
      · have h : (((l[m]?.getD 0 : Nat) : Int) == 0) = true := by assumption
        go_round
        case rel => exact ⟨m, by omega, by rw [tr_step (by omega) (by simpa using h)]; exact HT.out, rfl⟩
        case measure => simp [intOf]
      · have h : (((l[m]?.getD 0 : Nat) : Int) == 0) = false := by assumption
        go_ret
        refine ⟨?_, rfl⟩
        have e := tr_end (l := l) (k := m) (by omega) (by simpa using h)
        have e2 := HT.out
        rw [← e2, e, List.length_take, Nat.min_eq_left (by omega)]; rfl

set_option maxHeartbeats 400000 in
theorem digit_any (a : Option Addr) (cap i : Nat) (l : List Nat) (w : World) (hl : l.length ≤ 9223372036854775807) (hi : i ≤ 9223372036854775807) (hlo : Lo 10 l) (hrd : Rd w .u8 a l) :
    Calls Tryd.prog 99 #[.slice a l.length cap, .int .i64 i] w fun e w' => ∃ x : Nat, Hid (x = l[i]?.getD 0) ∧ x < 10 ∧ e = .returned (.int .i64 x) ∧ w = w' := by
  by_cases h : i < l.length
  · obtain ⟨b, off, x, e1, HX, hx, hc⟩ := hrd.get hlo i h
    subst e1
    go_enter Tryd.func99, Tryd.ntmps99
    go_wp2
    go_ret
    exact ⟨x, HX, hx, rfl, rfl⟩
  · have h0 : (0 : Nat) = l[i]?.getD 0 := by simp [h]
    have H0 := Lib.hid h0
    clear h0
    go_enter Tryd.func99, Tryd.ntmps99
    go_wp2
    go_ret
    exact ⟨0, H0, by omega, rfl, rfl⟩

set_option maxHeartbeats 4000000 in
/-- the document's sum -/
theorem RAdd_any (a b : Option Addr) (ca cb : Nat) (x y : List Nat) (w : World) (hl : x.length ≤ 1073741824) (hm : y.length ≤ 1073741824) (hxl : Lo 10 x) (hyl : Lo 10 y) (ha : Rd w .u8 a x) (hb : Rd w .u8 b y) :
    Calls Tryd.prog 93 #[.slice a x.length ca, .slice b y.length cb] w fun e w' => ∃ a' cap', e = .returned (.slice a' (dg 10 (vl 10 x + vl 10 y)).length cap') ∧
      Own w' w.heap.size 5 .u8 a' cap' (dg 10 (vl 10 x + vl 10 y)) ∧ Below w.heap.size w w' := by
  have HXL := Lib.hid hxl; have HYL := Lib.hid hyl
  clear hxl hyl
  go_enter Tryd.func93, Tryd.ntmps93
  go_wp2
  go_loopw [5, 6, 7] (fun v5 v6 i wr => ∃ (k c q cap : Nat) (ao : Option Addr) (out : List Nat), k ≤ 2147483649 ∧ (k ≤ max x.length y.length ∨ (k = max x.length y.length + 1 ∧ c = 0)) ∧ i = .int .i64 k ∧ v6 = .int .i64 c ∧ c ≤ 1 ∧ v5 = .slice ao q cap ∧ Hid (q = out.length) ∧ Hid (out.length = k) ∧ Hid (Lo 10 out) ∧
      Hid (vl 10 out + 10 ^ k * c = vl 10 (x.take k) + vl 10 (y.take k)) ∧ Own wr w.heap.size 5 .u8 ao cap out ∧ Below w.heap.size w wr) (fun _ _ i _ => max x.length y.length + 1 - (intOf i).toNat)
  case atStart => exact ⟨0, 0, 0, 0, none, [], by omega, .inl (Nat.zero_le _), rfl, rfl, by omega, rfl, (rfl : (0 : Nat) = [].length), (rfl : ([] : List Nat).length = 0), Lo_nil _, (by simp [vl] : vl 10 [] + 10 ^ 0 * 0 = vl 10 (x.take 0) + vl 10 (y.take 0)), Own.nilNone _ _ _ _, Below.refl _ _⟩
  case round =>
    obtain ⟨k, c, q, cap, ao, out, hk, hkm, rfl, rfl, hc, rfl, HQ, HOL, HOLo, HV, hown, hbl⟩ := hrel
    have hmx1 : x.length ≤ max x.length y.length := Nat.le_max_left _ _
    have hmx2 : y.length ≤ max x.length y.length := Nat.le_max_right _ _
    have hmx3 : max x.length y.length ≤ 1073741824 := Nat.max_le.2 ⟨hl, hm⟩
    by_cases hgo : k < x.length ∨ k < y.length ∨ 0 < c
    · have hkm2 : k ≤ max x.length y.length := by omega
      have hD1 := digit_any a ca k x wr (by omega) (by omega) HXL.out (ha.below hbl)
      have hD2 := digit_any b cb k y wr (by omega) (by omega) HYL.out (hb.below hbl)
      have HD1 := Lib.hid hD1; have HD2 := Lib.hid hD2
      have hb1 : (out.length + 1) * 1 ≤ 140737488355328 := by rw [HOL.out]; omega
      have hb2 : out.length + 1 ≤ maxLen := by rw [HOL.out]; unfold maxLen; omega
      have HB1 := Lib.hid hb1; have HB2 := Lib.hid hb2
      have fin : ∀ x1 y1 : Nat, Hid (x1 = x[k]?.getD 0) → Hid (y1 = y[k]?.getD 0) → Hid (vl 10 (out ++ [(x1 + y1 + c) % 10]) + 10 ^ (k + 1) * ((x1 + y1 + c) / 10) = vl 10 (x.take (k + 1)) + vl 10 (y.take (k + 1))) :=
        fun x1 y1 h1 h2 => radd_step HOL.out (by rw [h1.out, h2.out]) HV.out
      have hz1 : ¬ k < x.length → ∀ x1 : Nat, Hid (x1 = x[k]?.getD 0) → x1 = 0 := by
        intro h x1 h1; rw [h1.out]; simp [h]
      have hz2 : ¬ k < y.length → ∀ x1 : Nat, Hid (x1 = y[k]?.getD 0) → x1 = 0 := by
        intro h x1 h1; rw [h1.out]; simp [h]
      have fin2 : ∀ x1 y1 : Nat, Hid (x1 = x[k]?.getD 0) → Hid (y1 = y[k]?.getD 0) → Hid (k + 1 ≤ max x.length y.length ∨ (k + 1 = max x.length y.length + 1 ∧ (x1 + y1 + c) / 10 = 0)) := by
        intro x1 y1 h1 h2
        show k + 1 ≤ max x.length y.length ∨ (k + 1 = max x.length y.length + 1 ∧ (x1 + y1 + c) / 10 = 0)
        rcases Nat.lt_or_ge k (max x.length y.length) with h | h
        · left; omega
        · right
          have e1 := hz1 (by omega) x1 h1
          have e2 := hz2 (by omega) y1 h2
          omega
      have HFIN := Lib.hid fin; have HKF := Lib.hid fin2
      clear hD1 hD2 hb1 hb2 fin fin2 hz1 hz2 hkm
      rcases Nat.lt_or_ge k x.length with g1 | g1
      all_goals rcases Nat.lt_or_ge k y.length with g2 | g2
      all_goals rcases Nat.lt_or_ge 0 c with g3 | g3
      all_goals first | omega | skip
      all_goals go_wp2_with fail
      all_goals refine HD1.out.mono ?_
      all_goals rintro e w1 ⟨x1, HX1, hx1, rfl, rfl⟩
      all_goals go_wp2_with fail
      all_goals refine HD2.out.mono ?_
      all_goals rintro e w1 ⟨y1, HY1, hy1, rfl, rfl⟩
      all_goals go_wp2_with (at_builtin; refine wp_push wr rfl _ _ 54 rfl w.heap.size 5 .u8 1 Tryd.underlying54 infoU8 ao cap q out HQ.out rfl _ ((x1 + y1 + c) % 10) (by omega) _ rfl hown HB1.out HB2.out (hbl.size) ?_)
      all_goals intro ao' cap' w2 hown2 hb2
      all_goals have hbl2 := hbl.trans hb2
      all_goals have HK2 := HKF.out x1 y1 HX1 HY1
      all_goals clear hb2
      all_goals go_wp2
      all_goals go_roundw
      all_goals first | (case' rel => exact ⟨k + 1, (x1 + y1 + c) / 10, q + 1, cap', ao', out ++ [(x1 + y1 + c) % 10], by omega, HK2.out, by go_num, by go_num, by omega, rfl, (by rw [HQ.out]; simp : q + 1 = (out ++ [(x1 + y1 + c) % 10]).length), (by rw [List.length_append, HOL.out]; rfl : (out ++ [(x1 + y1 + c) % 10]).length = k + 1), (Lo_append HOLo.out (Lo_one (Nat.mod_lt _ (by decide))) : Lo 10 (out ++ [(x1 + y1 + c) % 10])), HFIN.out x1 y1 HX1 HY1, hown2, hbl2⟩) | (case' measure => have hmm : k < max x.length y.length + 1 := (by omega); generalize max x.length y.length = M at *; simp [intOf]; omega)
    · have hc0 : c = 0 := by omega
      subst hc0
      have g1 : ¬ k < x.length := by omega
      have g2 : ¬ k < y.length := by omega
      have hv := HV.out
      rw [Nat.mul_zero, Nat.add_zero, List.take_of_length_le (by omega), List.take_of_length_le (by omega)] at hv
      have htr : tr out = dg 10 (vl 10 x + vl 10 y) := by rw [tr_eq (by omega) HOLo.out, hv]
      have hR := rtrim_any ao cap out wr (by rw [HOL.out]; omega) hown.rd hown.cap.1
      have hown2 := hown.take (tr out).length (by have := tr_take out; rw [this]; simp; omega)
      rw [← tr_take, htr] at hown2
      rw [htr, ← HQ.out] at hR
      have HR := Lib.hid hR
      clear hR htr hv hown
      go_wp2_with fail
      refine HR.out.mono ?_
      rintro e w1 ⟨rfl, rfl⟩
      go_wp2
      go_ret
      exact ⟨_, _, rfl, hown2, hbl⟩

set_option maxHeartbeats 1000000 in
/-- the document's shift -/
theorem RShift_any (a : Option Addr) (ca n B : Nat) (e0 : TypeId) (x : List Nat) (w : World) (hl : x.length ≤ 1073741824) (hn : n ≤ 1073741824) (ha : Own w B e0 .u8 a ca x) :
    Calls Tryd.prog 98 #[.slice a x.length ca, .int .i64 n] w fun e w' => ∃ a' cap' y, e = .returned (.slice a' y.length cap') ∧ (y = [] ∧ x = [] ∨ y = List.replicate n 0 ++ x) ∧ Own w' w.heap.size 5 .u8 a' cap' y ∧ Below w.heap.size w w' := by
  rcases Nat.eq_zero_or_pos x.length with h0 | h0
  · have hx := List.eq_nil_of_length_eq_zero h0
    have HX := Lib.hid hx
    rw [h0]
    clear hx h0
    go_enter Tryd.func98, Tryd.ntmps98
    go_wp2
    go_ret
    exact ⟨none, 0, [], rfl, .inl ⟨rfl, HX.out⟩, Own.nilNone _ _ _ _, Below.refl _ _⟩
  · have hnone := fun h => ha.none_nil h
    have hrd := ha.rd
    have HNONE := Lib.hid hnone; have HRD := Lib.hid hrd
    have hrl : (List.replicate n 0).length = n := List.length_replicate
    have hcl : ((List.replicate n 0).length + x.length) * 1 ≤ 140737488355328 := by rw [hrl]; omega
    have hcl2 : (List.replicate n 0).length + x.length ≤ maxLen := by rw [hrl]; unfold maxLen; omega
    have HRL := Lib.hid hrl; have HCL := Lib.hid hcl; have HCL2 := Lib.hid hcl2
    clear hnone hrd hrl hcl hcl2 ha
    go_enter Tryd.func98, Tryd.ntmps98
    go_wp2_with (at_make; refine wp_make _ rfl _ _ 54 rfl w.heap.size 5 .u8 1 Tryd.underlying54 infoU8 _ _ _ _ n rfl rfl rfl rfl (by omega) (by unfold maxLen; omega) (Nat.le_refl _) ?_)
    intro w3 hown3 hb3
    have hrd3 := HRD.out.below hb3
    go_wp2_with (at_builtin; refine wp_cat w3 rfl _ _ 54 rfl w.heap.size 5 .u8 1 Tryd.underlying54 infoU8 _ a _ ca n x.length (List.replicate n 0) x HRL.out.symm rfl rfl rfl hown3 hrd3 HNONE.out HCL.out HCL2.out hb3.size ?_)
    intro a4 c4 w4 hown4 hb4 _
    have hlen4 : n + x.length = (List.replicate n 0 ++ x).length := by simp
    have HL4 := Lib.hid hlen4
    have hbl := hb3.trans hb4
    clear hlen4 hown3 hb3 hb4 hrd3
    go_wp2
    go_ret
    exact ⟨a4, c4, _, ret_slice HL4.out, .inr rfl, hown4, hbl⟩
end Go.Proofs.YtofeckdhhaoobaaDoor
