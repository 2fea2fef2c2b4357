/- Walks of dec: isNear, noughtsAtEnd. -/
import Derived.Test.YtimfpgpomafflaaGreatDoorLimbGs
import Derived.Test.YtimfpgpomafflaaGreatDoorLimbMaths
import Derived.BigQuiet
import Derived.IntWalk
import Derived.Defers
import Derived.Deep.RegionHeld3
namespace Go.Proofs.YtimfpgpomafflaaGreatDoor
open Go.RowKit LM

set_option maxHeartbeats 1000000 in
theorem isNear_any (s : Bool) (a : Option Addr) (n c : Nat) (e : Int) (w : World) :
    Calls Tryz.prog 61 #[.agg #[.bool s, .slice a n c, .int .i64 e]] w fun r w' => r = .returned (.bool (nearB n e)) ∧ Below w.heap.size w w' := by
  by_cases h1 : n ≤ 200
  · by_cases h2 : -30000 ≤ e
    · have hb : nearB n e = decide (e ≤ 30000) := by unfold nearB; simp [h1, h2]
      have HB := Lib.hid hb
      clear hb
      go_enter Tryz.func61, Tryz.ntmps61
      go_wp2
      go_ret
      exact ⟨ret_bool HB.out.symm, (Below.refl _ _).alloc (Nat.le_refl _) _⟩
    · have hb : nearB n e = false := by unfold nearB; simp [h2]
      have HB := Lib.hid hb
      clear hb
      go_enter Tryz.func61, Tryz.ntmps61
      go_wp2
      go_ret
      exact ⟨ret_bool HB.out.symm, (Below.refl _ _).alloc (Nat.le_refl _) _⟩
  · have hb : nearB n e = false := by unfold nearB; simp [h1]
    have HB := Lib.hid hb
    clear hb
    go_enter Tryz.func61, Tryz.ntmps61
    go_wp2
    go_ret
    exact ⟨ret_bool HB.out.symm, (Below.refl _ _).alloc (Nat.le_refl _) _⟩

theorem zeros_worth {l : List Nat} : ∀ k, k ≤ l.length → (∀ j, j < k → l[j]?.getD 0 = 0) → vl 1000000000 (l.take k) = 0 := by
  intro k
  induction k with
  | zero => intro _ _; rfl
  | succ k ih => intro hk h; rw [take_snoc l k (by omega), vl_append, ih (by omega) (fun j hj => h j (by omega)), vl_one, h k (by omega)]; simp
theorem zeros_more {l : List Nat} {k : Nat} (h0 : 0 < vl 1000000000 l) (hk : k < l.length) (hz : ∀ j, j < k → l[j]?.getD 0 = 0) (h : l[k]?.getD 0 = 0) : k + 1 < l.length := by
  rcases Nat.lt_or_ge (k + 1) l.length with h1 | h1
  · exact h1
  · exfalso
    have h2 := zeros_worth (l := l) (k + 1) (by omega) (fun j hj => by
      rcases Nat.lt_or_ge j k with h3 | h3
      · exact hz j h3
      · rw [show j = k by omega]; exact h)
    rw [List.take_of_length_le h1] at h2
    omega

set_option maxHeartbeats 2000000 in
theorem noughtsAtEnd_any (a : Option Addr) (c : Nat) (l : List Nat) (w : World) (hl : l.length ≤ 1000000) (hlo : Lo 1000000000 l) (hv : 0 < vl 1000000000 l) (hrd : Rd w .u32 a l) :
    Calls Tryz.prog 94 #[.slice a l.length c] w fun e w' => e = .returned (.int .i64 (tz (vl 1000000000 l) : Nat)) ∧ w = w' := by
  have HLO := Lib.hid hlo; have HV := Lib.hid hv
  have hpos : 0 < l.length := by
    rcases Nat.eq_zero_or_pos l.length with e | e
    · rw [List.eq_nil_of_length_eq_zero e] at hv; simp [vl] at hv
    · exact e
  clear hlo hv
  go_enter Tryz.func94, Tryz.ntmps94
  go_wp2
  go_loop [3] (fun i => ∃ k : Nat, k < l.length ∧ i = .int .i64 k ∧ Hid (∀ j, j < k → l[j]?.getD 0 = 0)) (fun i => l.length - (intOf i).toNat)
  case atStart => exact ⟨0, hpos, rfl, Lib.hid (fun j hj => by omega)⟩
  case round =>
    obtain ⟨k, hk, rfl, HZ⟩ := hrel
    obtain ⟨b, off, x, e1, HX, hx, hc⟩ := hrd.get HLO.out k hk
    subst e1
    rcases Nat.eq_zero_or_pos x with h0 | h0
    · have hk1 : k + 1 < l.length := zeros_more HV.out hk HZ.out (by rw [← HX.out]; exact h0)
      have HZ1 := Lib.hid (show ∀ j, j < k + 1 → l[j]?.getD 0 = 0 from fun j hj => by
        rcases Nat.lt_or_ge j k with h3 | h3
        · exact HZ.out j h3
        · rw [show j = k by omega, ← HX.out]; exact h0)
      have hxB : ((x : Int) == 0) = true := by simp [h0]
      clear h0
      go_wp2
      go_round
      case rel => exact ⟨k + 1, hk1, by go_num, HZ1⟩
      case measure => simp [intOf]; omega
    · have hxB : ((x : Int) == 0) = false := by simp; omega
      have hT := tz_limbs hk HZ.out (by rw [← HX.out]; omega) HLO.out
      rw [← HX.out] at hT
      have HT := Lib.hid hT
      clear hT
      go_wp2_with fail
      clear hxB hc
      go_loop [4, 5] (fun v4 v5 => ∃ j r : Nat, v4 = .int .i64 ((9 * k + j : Nat) : Int) ∧ v5 = .int .u32 r ∧ 0 < r ∧ r < 1000000000 ∧ j ≤ 9 ∧ r * 10 ^ j ≤ 1000000000 ∧ Hid (tz x = j + tz r)) (fun _ v5 => (intOf v5).toNat)
      case atStart => exact ⟨0, x, by go_num, rfl, h0, hx, by omega, by omega, Lib.hid (by omega)⟩
      case round =>
        obtain ⟨j, r, rfl, rfl, hr0, hr, hj, hrj, HJ⟩ := hrel
        by_cases hm : r % 10 = 0
        · have hmB : ((r : Int) % 10 == 0) = true := by simp; omega
          have hj9 : j + 1 ≤ 9 := by
            rcases Nat.lt_or_ge j 9 with h | h
            · exact h
            · exfalso
              have : j = 9 := by omega
              rw [this] at hrj
              omega
          have hrj2 : r / 10 * 10 ^ (j + 1) ≤ 1000000000 := by
            rw [Nat.pow_succ, Nat.mul_comm (10 ^ j) 10, ← Nat.mul_assoc, show r / 10 * 10 = r by omega]; exact hrj
          have HJ2 := Lib.hid (show tz x = (j + 1) + tz (r / 10) by rw [HJ.out, tz_yes hr0 hm]; omega)
          have hr10 : 0 < r / 10 := by omega
          have hrlt : r / 10 < r := by omega
          clear hm hrj
          go_wp2
          go_round
          case rel => exact ⟨j + 1, r / 10, by go_num, by go_num, hr10, by omega, hj9, hrj2, HJ2⟩
          case measure => simp [intOf]; omega
        · have hmB : ((r : Int) % 10 == 0) = false := by simp; omega
          have hfin := HT.out
          rw [HJ.out, tz_no hm] at hfin
          have HFIN := Lib.hid hfin
          clear hfin hm
          go_wp2
          go_ret
          exact ⟨ret_int (by rw [HFIN.out]; omega), rfl⟩
end Go.Proofs.YtimfpgpomafflaaGreatDoor

/- Walks: the document's answer: trim, digit, Add, Shift. -/
namespace Go.Proofs.YtimfpgpomafflaaGreatDoor
open Go.RowKit LM

set_option maxHeartbeats 400000 in
theorem rtrim_any (a : Option Addr) (cap : Nat) (l : List Nat) (w : World) (hl : l.length ≤ 9223372036854775807) (hrd : Rd w .u8 a l) (hcap : l.length ≤ cap) :
    Calls Tryz.prog 83 #[.slice a l.length cap] w fun e w' => e = .returned (.slice a (tr l).length cap) ∧ w = w' := by
  go_enter Tryz.func83, Tryz.ntmps83
  go_wp2
  go_loop [3] (fun i => ∃ k : Nat, k ≤ l.length ∧ tr (l.take k) = tr l ∧ i = .int .i64 k) (fun i => (intOf i).toNat)
  case atStart => exact ⟨l.length, Nat.le_refl _, by rw [List.take_length], rfl⟩
  case round =>
    obtain ⟨k, hk, ht, rfl⟩ := hrel
    have HT := Lib.hid ht; clear ht
    rcases Nat.eq_zero_or_pos k with h0 | h0
    · subst h0
      go_wp2
      go_ret
      have h := HT.out; simp only [List.take_zero, tr] at h
      exact ⟨by rw [← h]; rfl, rfl⟩
    · obtain ⟨m, rfl⟩ : ∃ m, k = m + 1 := ⟨k - 1, by omega⟩
      obtain ⟨b, off, ha, hc⟩ := hrd m (by omega)
      subst ha
      go_wp2
      · have h : (((l[m]?.getD 0 : Nat) : Int) == 0) = true := by assumption
        go_round
        case rel => exact ⟨m, by omega, by rw [tr_step (by omega) (by simpa using h)]; exact HT.out, rfl⟩
        case measure => simp [intOf]
      · have h : (((l[m]?.getD 0 : Nat) : Int) == 0) = false := by assumption
        go_ret
        refine ⟨?_, rfl⟩
        have e := tr_end (l := l) (k := m) (by omega) (by simpa using h)
        have e2 := HT.out
        rw [← e2, e, List.length_take, Nat.min_eq_left (by omega)]; rfl

set_option maxHeartbeats 400000 in
theorem digit_any (a : Option Addr) (cap i : Nat) (l : List Nat) (w : World) (hl : l.length ≤ 9223372036854775807) (hi : i ≤ 9223372036854775807) (hlo : Lo 10 l) (hrd : Rd w .u8 a l) :
    Calls Tryz.prog 108 #[.slice a l.length cap, .int .i64 i] w fun e w' => ∃ x : Nat, Hid (x = l[i]?.getD 0) ∧ x < 10 ∧ e = .returned (.int .i64 x) ∧ w = w' := by
  by_cases h : i < l.length
  · obtain ⟨b, off, x, e1, HX, hx, hc⟩ := hrd.get hlo i h
    subst e1
    go_enter Tryz.func108, Tryz.ntmps108
    go_wp2
    go_ret
    exact ⟨x, HX, hx, rfl, rfl⟩
  · have h0 : (0 : Nat) = l[i]?.getD 0 := by simp [h]
    have H0 := Lib.hid h0
    clear h0
    go_enter Tryz.func108, Tryz.ntmps108
    go_wp2
    go_ret
    exact ⟨0, H0, by omega, rfl, rfl⟩

set_option maxHeartbeats 4000000 in
/-- the document's sum -/
theorem RAdd_any (a b : Option Addr) (ca cb : Nat) (x y : List Nat) (w : World) (hl : x.length ≤ 1073741824) (hm : y.length ≤ 1073741824) (hxl : Lo 10 x) (hyl : Lo 10 y) (ha : Rd w .u8 a x) (hb : Rd w .u8 b y) :
    Calls Tryz.prog 76 #[.slice a x.length ca, .slice b y.length cb] w fun e w' => ∃ a' cap', e = .returned (.slice a' (dg 10 (vl 10 x + vl 10 y)).length cap') ∧
      Own w' w.heap.size 5 .u8 a' cap' (dg 10 (vl 10 x + vl 10 y)) ∧ Below w.heap.size w w' := by
  have HXL := Lib.hid hxl; have HYL := Lib.hid hyl
  clear hxl hyl
  go_enter Tryz.func76, Tryz.ntmps76
  go_wp2
  go_loopw [5, 6, 7] (fun v5 v6 i wr => ∃ (k c q cap : Nat) (ao : Option Addr) (out : List Nat), k ≤ 2147483649 ∧ (k ≤ max x.length y.length ∨ (k = max x.length y.length + 1 ∧ c = 0)) ∧ i = .int .i64 k ∧ v6 = .int .i64 c ∧ c ≤ 1 ∧ v5 = .slice ao q cap ∧ Hid (q = out.length) ∧ Hid (out.length = k) ∧ Hid (Lo 10 out) ∧
      Hid (vl 10 out + 10 ^ k * c = vl 10 (x.take k) + vl 10 (y.take k)) ∧ Own wr w.heap.size 5 .u8 ao cap out ∧ Below w.heap.size w wr) (fun _ _ i _ => max x.length y.length + 1 - (intOf i).toNat)
  case atStart => exact ⟨0, 0, 0, 0, none, [], by omega, .inl (Nat.zero_le _), rfl, rfl, by omega, rfl, (rfl : (0 : Nat) = [].length), (rfl : ([] : List Nat).length = 0), Lo_nil _, (by simp [vl] : vl 10 [] + 10 ^ 0 * 0 = vl 10 (x.take 0) + vl 10 (y.take 0)), Own.nilNone _ _ _ _, Below.refl _ _⟩
  case round =>
    obtain ⟨k, c, q, cap, ao, out, hk, hkm, rfl, rfl, hc, rfl, HQ, HOL, HOLo, HV, hown, hbl⟩ := hrel
    have hmx1 : x.length ≤ max x.length y.length := Nat.le_max_left _ _
    have hmx2 : y.length ≤ max x.length y.length := Nat.le_max_right _ _
    have hmx3 : max x.length y.length ≤ 1073741824 := Nat.max_le.2 ⟨hl, hm⟩
    by_cases hgo : k < x.length ∨ k < y.length ∨ 0 < c
    · have hkm2 : k ≤ max x.length y.length := by omega
      have hD1 := digit_any a ca k x wr (by omega) (by omega) HXL.out (ha.below hbl)
      have hD2 := digit_any b cb k y wr (by omega) (by omega) HYL.out (hb.below hbl)
      have HD1 := Lib.hid hD1; have HD2 := Lib.hid hD2
      have hb1 : (out.length + 1) * 1 ≤ 140737488355328 := by rw [HOL.out]; omega
      have hb2 : out.length + 1 ≤ maxLen := by rw [HOL.out]; unfold maxLen; omega
      have HB1 := Lib.hid hb1; have HB2 := Lib.hid hb2
      have fin : ∀ x1 y1 : Nat, Hid (x1 = x[k]?.getD 0) → Hid (y1 = y[k]?.getD 0) → Hid (vl 10 (out ++ [(x1 + y1 + c) % 10]) + 10 ^ (k + 1) * ((x1 + y1 + c) / 10) = vl 10 (x.take (k + 1)) + vl 10 (y.take (k + 1))) :=
        fun x1 y1 h1 h2 => radd_step HOL.out (by rw [h1.out, h2.out]) HV.out
      have hz1 : ¬ k < x.length → ∀ x1 : Nat, Hid (x1 = x[k]?.getD 0) → x1 = 0 := by
        intro h x1 h1; rw [h1.out]; simp [h]
      have hz2 : ¬ k < y.length → ∀ x1 : Nat, Hid (x1 = y[k]?.getD 0) → x1 = 0 := by
        intro h x1 h1; rw [h1.out]; simp [h]
      have fin2 : ∀ x1 y1 : Nat, Hid (x1 = x[k]?.getD 0) → Hid (y1 = y[k]?.getD 0) → Hid (k + 1 ≤ max x.length y.length ∨ (k + 1 = max x.length y.length + 1 ∧ (x1 + y1 + c) / 10 = 0)) := by
        intro x1 y1 h1 h2
        show k + 1 ≤ max x.length y.length ∨ (k + 1 = max x.length y.length + 1 ∧ (x1 + y1 + c) / 10 = 0)
        rcases Nat.lt_or_ge k (max x.length y.length) with h | h
        · left; omega
        · right
          have e1 := hz1 (by omega) x1 h1
          have e2 := hz2 (by omega) y1 h2
          omega
      have HFIN := Lib.hid fin; have HKF := Lib.hid fin2
      clear hD1 hD2 hb1 hb2 fin fin2 hz1 hz2 hkm
      rcases Nat.lt_or_ge k x.length with g1 | g1
      all_goals rcases Nat.lt_or_ge k y.length with g2 | g2
      all_goals rcases Nat.lt_or_ge 0 c with g3 | g3
      all_goals first | omega | skip
      all_goals go_wp2_with fail
      all_goals refine HD1.out.mono ?_
      all_goals rintro e w1 ⟨x1, HX1, hx1, rfl, rfl⟩
      all_goals go_wp2_with fail
      all_goals refine HD2.out.mono ?_
      all_goals rintro e w1 ⟨y1, HY1, hy1, rfl, rfl⟩
      all_goals go_wp2_with (at_builtin; refine wp_push wr rfl _ _ 51 rfl w.heap.size 5 .u8 1 Tryz.underlying51 infoU8 ao cap q out HQ.out rfl _ ((x1 + y1 + c) % 10) (by omega) _ rfl hown HB1.out HB2.out (hbl.size) ?_)
      all_goals intro ao' cap' w2 hown2 hb2
      all_goals have hbl2 := hbl.trans hb2
      all_goals have HK2 := HKF.out x1 y1 HX1 HY1
      all_goals clear hb2
      all_goals go_wp2
      all_goals go_roundw
      all_goals first | (case' rel => exact ⟨k + 1, (x1 + y1 + c) / 10, q + 1, cap', ao', out ++ [(x1 + y1 + c) % 10], by omega, HK2.out, by go_num, by go_num, by omega, rfl, (by rw [HQ.out]; simp : q + 1 = (out ++ [(x1 + y1 + c) % 10]).length), (by rw [List.length_append, HOL.out]; rfl : (out ++ [(x1 + y1 + c) % 10]).length = k + 1), (Lo_append HOLo.out (Lo_one (Nat.mod_lt _ (by decide))) : Lo 10 (out ++ [(x1 + y1 + c) % 10])), HFIN.out x1 y1 HX1 HY1, hown2, hbl2⟩) | (case' measure => have hmm : k < max x.length y.length + 1 := (by omega); generalize max x.length y.length = M at *; simp [intOf]; omega)
    · have hc0 : c = 0 := by omega
      subst hc0
      have g1 : ¬ k < x.length := by omega
      have g2 : ¬ k < y.length := by omega
      have hv := HV.out
      rw [Nat.mul_zero, Nat.add_zero, List.take_of_length_le (by omega), List.take_of_length_le (by omega)] at hv
      have htr : tr out = dg 10 (vl 10 x + vl 10 y) := by rw [tr_eq (by omega) HOLo.out, hv]
      have hR := rtrim_any ao cap out wr (by rw [HOL.out]; omega) hown.rd hown.cap.1
      have hown2 := hown.take (tr out).length (by have := tr_take out; rw [this]; simp; omega)
      rw [← tr_take, htr] at hown2
      rw [htr, ← HQ.out] at hR
      have HR := Lib.hid hR
      clear hR htr hv hown
      go_wp2_with fail
      refine HR.out.mono ?_
      rintro e w1 ⟨rfl, rfl⟩
      go_wp2
      go_ret
      exact ⟨_, _, rfl, hown2, hbl⟩

set_option maxHeartbeats 1000000 in
/-- the document's shift -/
theorem RShift_any (a : Option Addr) (ca n B : Nat) (e0 : TypeId) (x : List Nat) (w : World) (hl : x.length ≤ 1073741824) (hn : n ≤ 1073741824) (ha : Own w B e0 .u8 a ca x) :
    Calls Tryz.prog 48 #[.slice a x.length ca, .int .i64 n] w fun e w' => ∃ a' cap' y, e = .returned (.slice a' y.length cap') ∧ (y = [] ∧ x = [] ∨ y = List.replicate n 0 ++ x) ∧ Own w' w.heap.size 5 .u8 a' cap' y ∧ Below w.heap.size w w' := by
  rcases Nat.eq_zero_or_pos x.length with h0 | h0
  · have hx := List.eq_nil_of_length_eq_zero h0
    have HX := Lib.hid hx
    rw [h0]
    clear hx h0
    go_enter Tryz.func48, Tryz.ntmps48
    go_wp2
    go_ret
    exact ⟨none, 0, [], rfl, .inl ⟨rfl, HX.out⟩, Own.nilNone _ _ _ _, Below.refl _ _⟩
  · have hnone := fun h => ha.none_nil h
    have hrd := ha.rd
    have HNONE := Lib.hid hnone; have HRD := Lib.hid hrd
    have hrl : (List.replicate n 0).length = n := List.length_replicate
    have hcl : ((List.replicate n 0).length + x.length) * 1 ≤ 140737488355328 := by rw [hrl]; omega
    have hcl2 : (List.replicate n 0).length + x.length ≤ maxLen := by rw [hrl]; unfold maxLen; omega
    have HRL := Lib.hid hrl; have HCL := Lib.hid hcl; have HCL2 := Lib.hid hcl2
    clear hnone hrd hrl hcl hcl2 ha
    go_enter Tryz.func48, Tryz.ntmps48
    go_wp2_with (at_make; refine wp_make _ rfl _ _ 51 rfl w.heap.size 5 .u8 1 Tryz.underlying51 infoU8 _ _ _ _ n rfl rfl rfl rfl (by omega) (by unfold maxLen; omega) (Nat.le_refl _) ?_)
    intro w3 hown3 hb3
    have hrd3 := HRD.out.below hb3
    go_wp2_with (at_builtin; refine wp_cat w3 rfl _ _ 51 rfl w.heap.size 5 .u8 1 Tryz.underlying51 infoU8 _ a _ ca n x.length (List.replicate n 0) x HRL.out.symm rfl rfl rfl hown3 hrd3 HNONE.out HCL.out HCL2.out hb3.size ?_)
    intro a4 c4 w4 hown4 hb4 _
    have hlen4 : n + x.length = (List.replicate n 0 ++ x).length := by simp
    have HL4 := Lib.hid hlen4
    have hbl := hb3.trans hb4
    clear hlen4 hown3 hb3 hb4 hrd3
    go_wp2
    go_ret
    exact ⟨a4, c4, _, ret_slice HL4.out, .inr rfl, hown4, hbl⟩
end Go.Proofs.YtimfpgpomafflaaGreatDoor

/- Walks: the document's answer: From, To; of, to. -/
namespace Go.Proofs.YtimfpgpomafflaaGreatDoor
open Go.RowKit LM

theorem shift_vl {x y : List Nat} {n : Nat} (h : y = [] ∧ x = [] ∨ y = List.replicate n 0 ++ x) (hx : Lo 10 x) : vl 10 y = 10 ^ n * vl 10 x ∧ Lo 10 y ∧ y.length ≤ n + x.length := by
  rcases h with ⟨rfl, rfl⟩ | rfl
  · exact ⟨by rw [vl_nil, Nat.mul_zero], Lo_nil _, by simp⟩
  · exact ⟨vl10_shift, Lo_append (Lo_zeros (by omega)) hx, by simp⟩
theorem dg10_le {l : List Nat} (hlo : Lo 4294967296 l) (k : Nat) : (dg 10 (vl 1000000000 (l.take k))).length ≤ 9 * (k + 1) := by
  refine dg_len_of_lt (by omega) ?_
  have h1 := vl_bound (l := l.take k) (fun z hz => hlo z (List.mem_of_mem_take hz))
  rw [show (1000000000 : Nat) = 10 ^ 9 by decide, ← Nat.pow_mul] at h1
  refine Nat.lt_of_lt_of_le (by rw [show (1000000000 : Nat) = 10 ^ 9 by decide]; exact h1) (Nat.pow_le_pow_right (by omega) ?_)
  have : (l.take k).length ≤ k := by rw [List.length_take]; exact Nat.min_le_left _ _
  omega

set_option maxHeartbeats 4000000 in
/-- From: the digits of a list's worth -/
theorem From_any (a : Option Addr) (ca : Nat) (l : List Nat) (w : World) (hl : l.length ≤ 1048576) (hlo : Lo 4294967296 l) (hrd : Rd w .u32 a l) :
    Calls Tryz.prog 86 #[.slice a l.length ca] w fun e w' => ∃ a' cap', e = .returned (.slice a' (dg 10 (vl 1000000000 l)).length cap') ∧ Own w' w.heap.size 5 .u8 a' cap' (dg 10 (vl 1000000000 l)) ∧ Below w.heap.size w w' := by
  have HLO := Lib.hid hlo
  clear hlo
  go_enter Tryz.func86, Tryz.ntmps86
  go_wp2
  go_loopw [3, 4] (fun v3 i wr => ∃ (k q cap : Nat) (ao : Option Addr), k ≤ l.length ∧ i = .int .i64 k ∧ v3 = .slice ao q cap ∧ Hid (q = (dg 10 (vl 1000000000 (l.take k))).length) ∧
      Own wr w.heap.size 5 .u8 ao cap (dg 10 (vl 1000000000 (l.take k))) ∧ Below w.heap.size w wr) (fun _ i _ => l.length - (intOf i).toNat)
  case atStart => exact ⟨0, 0, 0, none, Nat.zero_le _, rfl, rfl, Lib.hid (by rw [List.take_zero, vl_nil, dg_zero]; rfl), by rw [List.take_zero, vl_nil, dg_zero]; exact Own.nilNone _ _ _ _, Below.refl _ _⟩
  case round =>
    obtain ⟨k, q, cap, ao, hk, rfl, rfl, HQ, hown, hbl⟩ := hrel
    by_cases hlt : k < l.length
    · obtain ⟨b, off, x, e1, HX, hx, hc⟩ := (hrd.below hbl).get HLO.out k hlt
      subst e1
      have hS := Small_any x wr (by omega)
      have HS := Lib.hid hS
      clear hS
      go_wp2_with fail
      refine HS.out.mono ?_
      rintro e w1 ⟨a1, c1, rfl, hown1, hb1⟩
      have hR := RShift_any a1 c1 (9 * k) wr.heap.size _ (dg 10 x) w1 (Nat.le_trans (dg_len_of_lt (k := 10) (by omega) (by rw [show (10 : Nat) ^ 10 = 10000000000 by decide]; omega)) (by omega)) (by omega) hown1
      rw [Int.natCast_mul] at hR
      have HR := Lib.hid hR
      have hown0 := hown.below hb1
      have hbl1 := hbl.trans (hb1.mono hbl.size)
      clear hR HS hown hown1 hb1 hbl
      go_wp2_with fail
      refine HR.out.mono ?_
      rintro e w2 ⟨a2, c2, y, rfl, hy, hown2, hb2⟩
      obtain ⟨hyv, hylo, hyl⟩ := shift_vl hy (Lo_dg (by omega) x)
      rw [vl_dg (by omega)] at hyv
      have hown3 := hown0.below hb2
      have hbl2 := hbl1.trans (hb2.mono hbl1.size)
      have hxl : (dg 10 x).length ≤ 10 := dg_len_of_lt (k := 10) (by omega) (by rw [show (10 : Nat) ^ 10 = 10000000000 by decide]; omega)
      have hA := RAdd_any ao a2 cap c2 (dg 10 (vl 1000000000 (l.take k))) y w2 (Nat.le_trans (dg10_le HLO.out k) (by omega)) (by omega) (Lo_dg (by omega) _) hylo hown3.rd hown2.rd
      rw [← HQ.out, vl_dg (by omega), hyv, HX.out, ← from_step hlt] at hA
      have HA := Lib.hid hA
      clear hA HR hown0 hown2 hb2 hbl1 hy hyv hylo hyl hxl hown3
      go_wp2_with fail
      refine HA.out.mono ?_
      rintro e w3 ⟨a3, c3, rfl, hown4, hb4⟩
      have hown5 := hown4.mono hbl2.size
      have hbl3 := hbl2.trans (hb4.mono hbl2.size)
      clear hown4 hb4 hbl2 HA
      go_wp2
      go_roundw
      case rel => exact ⟨k + 1, _, c3, a3, by omega, by go_num, rfl, rfl, hown5, hbl3⟩
      case measure => simp [intOf]; omega
    · obtain rfl : k = l.length := by omega
      rw [List.take_length] at hown
      have hq := HQ.out
      rw [List.take_length] at hq
      have HQ2 := Lib.hid hq
      clear hq
      go_wp2
      go_ret
      exact ⟨ao, cap, ret_slice HQ2.out, hown, hbl⟩

theorem nine_end {x : List Nat} {j : Nat} (h : x.length ≤ 9 * j) : vl 10 (x.drop (9 * j)) = 0 := by rw [List.drop_eq_nil_of_le h, vl_nil]

set_option maxHeartbeats 8000000 in
/-- To: the plain list of a number -/
theorem To_any (a : Option Addr) (ca v : Nat) (w : World) (hl : (dg 10 v).length ≤ 140737488355300) (hrd : Rd w .u8 a (dg 10 v)) :
    Calls Tryz.prog 85 #[.slice a (dg 10 v).length ca] w fun e w' => ∃ a' cap', e = .returned (.slice a' (dg 1000000000 v).length cap') ∧ Own w' w.heap.size 40 .u32 a' cap' (dg 1000000000 v) ∧ Below w.heap.size w w' := by
  have hlo := Lo_dg (b := 10) (by omega) v
  have hv := vl_dg (b := 10) (by omega) v
  have hend := fun L => @to_end v L
  have HLO := Lib.hid hlo; have HV := Lib.hid hv; have HEND := Lib.hid hend
  clear hlo hv hend
  generalize dg 10 v = x at *
  go_enter Tryz.func85, Tryz.ntmps85
  go_wp2
  go_loopw [3, 4] (fun v3 i wr => ∃ (j q cap : Nat) (ao : Option Addr) (L : List Nat), 9 * j < x.length + 9 ∧ i = .int .i64 (9 * (j : Int)) ∧ v3 = .slice ao q cap ∧ Hid (q = L.length) ∧ Hid (L.length = j) ∧ Hid (Lo 1000000000 L) ∧
      Hid (vl 10 x = vl 1000000000 L + 1000000000 ^ j * vl 10 (x.drop (9 * j))) ∧ Own wr w.heap.size 40 .u32 ao cap L ∧ Below w.heap.size w wr) (fun _ i _ => x.length + 9 - (intOf i).toNat)
  case atStart => exact ⟨0, 0, 0, none, [], by omega, by simp, rfl, rfl, rfl, Lo_nil _, Lib.hid (by rw [Nat.mul_zero, List.drop_zero, vl_nil, Nat.pow_zero, Nat.one_mul, Nat.zero_add]), Own.nilNone _ _ _ _, Below.refl _ _⟩
  case round =>
    obtain ⟨j, q, cap, ao, L, hj, rfl, rfl, HQ, HLL, HLo, HW, hown, hbl⟩ := hrel
    by_cases hlt : 9 * j < x.length
    · have HOWN := Lib.hid hown
      have hltI : 9 * (j : Int) < (x.length : Int) := by omega
      have hltB : decide (9 * (j : Int) < (x.length : Int)) = true := by simpa using hltI
      clear hown
      go_wp2_with fail
      go_loop [5, 6] (fun v5 i => ∃ (k m : Nat), k ≤ 9 ∧ i = .int .i64 ((k : Int) - 1) ∧ v5 = .int .u32 m ∧ Hid (m = vl 10 ((x.drop (9 * j + k)).take (9 - k)))) (fun _ i => ((intOf i) + 1).toNat)
      case atStart => exact ⟨9, 0, by omega, rfl, rfl, Lib.hid (by simp [vl])⟩
      case round =>
        obtain ⟨k, m, hk, rfl, rfl, HM⟩ := hrel
        rcases Nat.eq_zero_or_pos k with h0 | h0
        · have hk0 : k ≤ 0 := by omega
          have hM := HM.out
          rw [h0, Nat.add_zero, Nat.sub_zero] at hM
          have hm9 : m < 1000000000 := by
            have := piece_lt HLO.out (9 * j) 9
            rw [show (10 : Nat) ^ 9 = 1000000000 by decide] at this
            omega
          have HM9 := Lib.hid hM
          have hb1 : (L.length + 1) * 4 ≤ 140737488355328 := by rw [HLL.out]; omega
          have hb2 : L.length + 1 ≤ maxLen := by rw [HLL.out]; unfold maxLen; omega
          have HB1 := Lib.hid hb1; have HB2 := Lib.hid hb2
          clear hM h0 hb1 hb2
          go_wp2_with (at_builtin; refine wp_push wr rfl _ _ 22 rfl w.heap.size 40 .u32 4 Tryz.underlying22 infoU32 ao cap q L HQ.out rfl _ m rfl _ rfl HOWN.out HB1.out HB2.out (hbl.size) ?_)
          intro ao' cap' w2 hown2 hb2
          have hbl2 := hbl.trans hb2
          clear hb2
          go_wp2
          go_roundw
          case rel => exact ⟨j + 1, q + 1, cap', ao', L ++ [m], by omega, by go_num, rfl, Lib.hid (by rw [HQ.out]; simp), Lib.hid (by rw [List.length_append, HLL.out]; rfl), Lib.hid (Lo_append HLo.out (Lo_one hm9)), Lib.hid (by rw [HM9.out]; exact to_step HLL.out HW.out), hown2, hbl2⟩
          case measure => simp [intOf]; omega
        · obtain ⟨k', rfl⟩ : ∃ k', k = k' + 1 := ⟨k - 1, by omega⟩
          have hD := digit_any a ca (9 * j + k') x wr (by omega) (by omega) HLO.out (hrd.below hbl)
          have eI : ((9 * j + k' : Nat) : Int) = 9 * (j : Int) + (k' : Int) := by omega
          rw [eI] at hD
          have HD := Lib.hid hD
          clear hD eI
          have hm8 : m < 100000000 := by
            have h1 := piece_lt HLO.out (9 * j + (k' + 1)) (9 - (k' + 1))
            have h2 : 10 ^ (9 - (k' + 1)) ≤ 10 ^ 8 := Nat.pow_le_pow_right (by omega) (by omega)
            rw [show (10 : Nat) ^ 8 = 100000000 by decide] at h2
            have := HM.out
            omega
          go_wp2_with fail
          refine HD.out.mono ?_
          rintro e w1 ⟨z, HZ, hz, rfl, rfl⟩
          have HM2 : Hid (10 * m + z = vl 10 ((x.drop (9 * j + k')).take (9 - k'))) := by
            have h1 := piece_step (x := x) (i := 9 * j) (k := k') (by omega)
            have h2 := HM.out
            rw [show 9 * j + (k' + 1) = 9 * j + k' + 1 by omega, show 9 - (k' + 1) = 8 - k' by omega] at h2
            rw [← HZ.out, ← h2] at h1
            exact (by omega : 10 * m + z = vl 10 ((x.drop (9 * j + k')).take (9 - k')))
          go_wp2
          go_round
          case rel => exact ⟨k', 10 * m + z, by omega, by go_num, by go_num, HM2⟩
          case measure => simp [intOf]
    · have hd := nine_end (x := x) (j := j) (by omega)
      have hW := HW.out
      rw [hd, Nat.mul_zero, Nat.add_zero, HV.out] at hW
      have hL := HEND.out L HLo.out hW.symm (by rw [HLL.out]; exact hj) (by rw [HLL.out]; omega)
      have hq := HQ.out
      rw [hL] at hq hown
      have HQ2 := Lib.hid hq
      clear hq hL hW hd
      go_wp2
      go_ret
      exact ⟨ao, cap, ret_slice HQ2.out, hown, hbl⟩
end Go.Proofs.YtimfpgpomafflaaGreatDoor

/- Walks of dec: isInRange, tell. -/
namespace Go.Proofs.YtimfpgpomafflaaGreatDoor
open Go.RowKit LM

set_option maxHeartbeats 2000000 in
theorem isInRange_any (s : Bool) (a : Option Addr) (c : Nat) (l : List Nat) (e : Int) (w : World) (hl : l.length ≤ 1000000) (he : -1000000 ≤ e) (he2 : e ≤ 1000000) (hlo : Lo 4294967296 l) (hrd : Rd w .u32 a l) (htab : Tab w) :
    Calls Tryz.prog 93 #[.agg #[.bool s, .slice a l.length c, .int .i64 e]] w fun r w' => r = .returned (.bool (inR ⟨s, vl 1000000000 l, e⟩)) ∧ Below w.heap.size w w' := by
  have hd := fun W hb => Digits_any a c l W (by omega) hlo (hrd.below' (w' := W) hb (Nat.le_refl _)) (htab.below hb)
  have hdl : dl (vl 1000000000 l) ≤ 9000009 := by
    have := dg10_le hlo l.length
    rw [List.take_length] at this
    unfold dl; omega
  have hR : ∀ d : Nat, d = dl (vl 1000000000 l) → inR ⟨s, vl 1000000000 l, e⟩ = decide (d ≤ 400 ∧ -10000 ≤ e + d - 1 ∧ e + d - 1 ≤ 10000) := fun d hd => by unfold inR; rw [hd]
  have HD := Lib.hid hd; have HR := Lib.hid hR
  clear hd hR hlo hrd
  go_enter Tryz.func93, Tryz.ntmps93
  go_wp2_with fail
  refine (HD.out _ ((Below.refl _ _).alloc (Nat.le_refl _) _)).mono ?_
  rintro r w1 ⟨rfl, hb1⟩
  have bb := ((Below.refl w.heap.size w).alloc (Nat.le_refl _) (.cells #[.bool s, .slice a l.length c, .int .i64 e] 24)).trans (hb1.mono (by simp))
  have hcell : w1.cell? ⟨w.heap.size, 2, none⟩ = some (.int .i64 e) := by rw [hb1.cell (by simp)]; simp
  obtain ⟨d, hd⟩ : ∃ d, d = (dg 10 (vl 1000000000 l)).length := ⟨_, rfl⟩
  have hdm : d ≤ 9000009 := by rw [hd]; exact hdl
  have hin := HR.out d hd
  rw [← hd]
  have HIN := Lib.hid hin
  clear hin hd hb1
  by_cases h1 : d ≤ 400
  · by_cases h2 : -10000 ≤ e + d - 1
    · have hr : inR ⟨s, vl 1000000000 l, e⟩ = decide (e + d - 1 ≤ 10000) := by rw [HIN.out]; simp [h1, h2]
      have HRR := Lib.hid hr
      clear hr
      go_wp2
      go_ret
      exact ⟨ret_bool HRR.out.symm, bb⟩
    · have hr : inR ⟨s, vl 1000000000 l, e⟩ = false := by rw [HIN.out]; simp [h2]
      have HRR := Lib.hid hr
      clear hr
      go_wp2
      go_ret
      exact ⟨ret_bool HRR.out.symm, bb⟩
  · have hr : inR ⟨s, vl 1000000000 l, e⟩ = false := by rw [HIN.out]; simp [h1]
    have HRR := Lib.hid hr
    clear hr
    go_wp2
    go_ret
    exact ⟨ret_bool HRR.out.symm, bb⟩

set_option maxHeartbeats 2000000 in
/-- the deferred closure, where the number fits -/
theorem tell1_in (g1 g2 : Nat) (s : Bool) (a : Option Addr) (c : Nat) (l : List Nat) (e : Int) (u : FrameMode) (w : World) (hl : l.length ≤ 1000000) (he : -1000000 ≤ e) (he2 : e ≤ 1000000) (hlo : Lo 4294967296 l) (hrd : Rd w .u32 a l) (htab : Tab w)
    (h0 : w.cell? ⟨g1, 0, none⟩ = some (.bool s)) (h1 : w.cell? ⟨g1, 1, none⟩ = some (.slice a l.length c)) (h2 : w.cell? ⟨g1, 2, none⟩ = some (.int .i64 e)) (hin : inR ⟨s, vl 1000000000 l, e⟩ = true) :
    CallsD Tryz.prog 92 #[.pointer (some ⟨g1, 0, none⟩), .pointer (some ⟨g2, 0, none⟩)] u w fun r u' w' => u' = u ∧ r = .returned (.tuple #[]) ∧ Below w.heap.size w w' := by
  have hI := isInRange_any s a c l e w hl he he2 hlo hrd htab
  rw [hin] at hI
  have HI := Lib.hid hI
  clear hI hin hlo hrd
  go_enter_d Tryz.func92, Tryz.ntmps92
  go_wp2_with fail
  refine HI.out.mono ?_
  rintro r w1 ⟨rfl, hb⟩
  go_wp2
  go_end0
  exact ⟨rfl, hb⟩
set_option maxHeartbeats 2000000 in
/-- the deferred closure, where the number doesn't -/
theorem tell1_out (g1 g2 : Nat) (s : Bool) (a : Option Addr) (c : Nat) (l : List Nat) (e : Int) (u : FrameMode) (w : World) (hl : l.length ≤ 1000000) (he : -1000000 ≤ e) (he2 : e ≤ 1000000) (hlo : Lo 4294967296 l) (hrd : Rd w .u32 a l) (htab : Tab w)
    (h0 : w.cell? ⟨g1, 0, none⟩ = some (.bool s)) (h1 : w.cell? ⟨g1, 1, none⟩ = some (.slice a l.length c)) (h2 : w.cell? ⟨g1, 2, none⟩ = some (.int .i64 e)) {x : Value} (h3 : w.cell? ⟨g2, 0, none⟩ = some x) (hne : g1 ≠ g2) (f1 : ∀ j, w.frozen? ⟨g1, j, none⟩ = false) (f2 : w.frozen? ⟨g2, 0, none⟩ = false) (hin : inR ⟨s, vl 1000000000 l, e⟩ = false) :
    CallsD Tryz.prog 92 #[.pointer (some ⟨g1, 0, none⟩), .pointer (some ⟨g2, 0, none⟩)] u w fun r u' w' => u' = u ∧ r = .returned (.tuple #[]) ∧ w'.cell? ⟨g1, 0, none⟩ = some (.bool false) ∧ w'.cell? ⟨g1, 1, none⟩ = some (.slice none 0 0) ∧ w'.cell? ⟨g1, 2, none⟩ = some (.int .i64 0) ∧ w'.cell? ⟨g2, 0, none⟩ = some (.int .i64 3) ∧ (∀ B, B ≤ g1 → B ≤ g2 → Below B w w') := by
  have hI := isInRange_any s a c l e w hl he he2 hlo hrd htab
  rw [hin] at hI
  have HI := Lib.hid hI
  have hg1 := lt_of_cell h0
  have hg2 := lt_of_cell h3
  clear hI hin hlo hrd
  go_enter_d Tryz.func92, Tryz.ntmps92
  go_wp2_with fail
  refine HI.out.mono ?_
  rintro r w1 ⟨rfl, hb⟩
  have k0 : w1.cell? ⟨g1, 0, none⟩ = some (.bool s) := by rw [hb.cell (p := ⟨g1, 0, none⟩) hg1]; exact h0
  have k1 : w1.cell? ⟨g1, 1, none⟩ = some (.slice a l.length c) := by rw [hb.cell (p := ⟨g1, 1, none⟩) hg1]; exact h1
  have k2 : w1.cell? ⟨g1, 2, none⟩ = some (.int .i64 e) := by rw [hb.cell (p := ⟨g1, 2, none⟩) hg1]; exact h2
  have k3 : w1.cell? ⟨g2, 0, none⟩ = some x := by rw [hb.cell (p := ⟨g2, 0, none⟩) hg2]; exact h3
  have j1 : ∀ j, w1.frozen? ⟨g1, j, none⟩ = false := fun j => by rw [hb.frozen (p := ⟨g1, j, none⟩) hg1]; exact f1 j
  have j2 : w1.frozen? ⟨g2, 0, none⟩ = false := by rw [hb.frozen (p := ⟨g2, 0, none⟩) hg2]; exact f2
  clear h0 h1 h2 h3 f1 f2 HI
  go_wp2
  go_end0
  refine ⟨rfl, ?_, ?_, ?_, ?_, fun B hB1 hB2 => ?_⟩
  · rw [World.cell?_setCell_other, World.cell?_setCell_other, World.cell?_setCell_other, World.cell?_setCell_same (u := .bool s)]
    · exact k0
    all_goals (intro h; simp at h; try omega)
  · rw [World.cell?_setCell_other, World.cell?_setCell_other, World.cell?_setCell_same (u := .slice a l.length c)]
    · rw [World.cell?_setCell_other]
      · exact k1
      · intro h; simp at h
    all_goals (intro h; simp at h; try omega)
  · rw [World.cell?_setCell_other, World.cell?_setCell_same (u := .int .i64 e)]
    · rw [World.cell?_setCell_other, World.cell?_setCell_other]
      · exact k2
      all_goals (intro h; simp at h)
    all_goals (intro h; simp at h; try omega)
  · rw [World.cell?_setCell_same (u := x)]
    rw [World.cell?_setCell_other, World.cell?_setCell_other, World.cell?_setCell_other]
    · exact k3
    all_goals (intro h; simp at h; try omega)
  · exact (((((hb.mono (by omega)).setCell hB1 _).setCell hB1 _).setCell hB1 _).setCell hB2 _)
theorem Own.setFar {w : World} {B cap : Nat} {e : TypeId} {k : IntKind} {a : Option Addr} {l : List Nat} {g : Nat} (h : Own w B e k a cap l) (hap : Apart a g) (j : Nat) (v : Value) : Own (w.setCell ⟨g, j, none⟩ v) B e k a cap l := h.gb (gb_set (gb_refl _ _) _ _) hap
theorem Rd.setFar {w : World} {k : IntKind} {a : Option Addr} {l : List Nat} {g : Nat} (h : Rd w k a l) (hap : Apart a g) (j : Nat) (v : Value) : Rd (w.setCell ⟨g, j, none⟩ v) k a l := h.gb (gb_set (gb_refl _ _) _ _) hap

set_option maxHeartbeats 4000000 in
theorem tell_any (s : Bool) (a : Option Addr) (c v : Nat) (e : Int) (w : World) (hz : tz v ≤ 30000) (hl : (dg 1000000000 v).length ≤ 100000) (he : -900000 ≤ e) (he2 : e ≤ 900000) (hrd : Rd w .u32 a (dg 1000000000 v)) (htab : Tab w) :
    Calls Tryz.prog 59 #[.bool s, .slice a (dg 1000000000 v).length c, .int .i64 e] w fun r w' => ∃ a' c', r = .returned (.tuple #[.agg #[.bool (tellA s v e).p.neg, .slice a' (dg 1000000000 (tellA s v e).p.m).length c', .int .i64 (tellA s v e).p.e], .int .i64 ((tellA s v e).err : Nat)]) ∧
      Own w' w.heap.size 40 .u32 a' c' (dg 1000000000 (tellA s v e).p.m) ∧ Below w.heap.size w w' := by
  have hmf : ∀ (fn : Fn) (first cap : Array Value) (w : World), (Instr.makeFunc fn first cap).run Tryz.prog w = .ok (.func fn first cap) w := fun _ _ _ _ => rfl
  rcases Nat.eq_zero_or_pos v with h0 | h0
  · subst h0
    rw [dg_zero]
    go_enter_defers Tryz.func59, Tryz.ntmps59
    go_wp2
    have hA : tellA s 0 e = ⟨0, zP⟩ := by
      have h1 : pl s 0 e = zP := rfl
      unfold tellA; rw [h1, if_pos zP_in]
    rw [hA]
    refine leaves_cons (f := 92) (args := #[.pointer (some ⟨w.heap.size, 0, none⟩), .pointer (some ⟨w.heap.size + 1, 0, none⟩)]) (by simp) (by simp [go_sem]) ?_
    refine (tell1_in w.heap.size (w.heap.size + 1) false none 0 [] 0 .returning _ (by simp) (by omega) (by omega) (Lo_nil _) (Rd.nil _ _ _) (htab.below (((Below.refl _ _).alloc (Nat.le_refl _) _).alloc (by simp) _)) (by simp) (by simp) (by simp) zP_in).mono ?_
    rintro r u' w' ⟨rfl, rfl, hb⟩
    have c0 : w'.cell? ⟨w.heap.size, 0, none⟩ = some (.bool false) := by rw [hb.cell (by simp; omega)]; simp
    have c1 : w'.cell? ⟨w.heap.size, 1, none⟩ = some (.slice none 0 0) := by rw [hb.cell (by simp; omega)]; simp
    have c2 : w'.cell? ⟨w.heap.size, 2, none⟩ = some (.int .i64 0) := by rw [hb.cell (by simp; omega)]; simp
    have c3 : w'.cell? ⟨w.heap.size + 1, 0, none⟩ = some (.int .i64 0) := by rw [hb.cell (by simp)]; simp
    refine ⟨.tuple #[.agg #[.bool false, .slice none 0 0, .int .i64 0], .int .i64 0], by simp [results, Tryz.results59, go_sem, c0, c1, c2, c3], none, 0, ?_, ?_, ?_⟩
    · show _ = Ending.returned (.tuple #[.agg #[.bool false, .slice none (dg 1000000000 0).length 0, .int .i64 0], .int .i64 0])
      rw [dg_zero]; rfl
    · show Own w' _ _ .u32 none 0 (dg 1000000000 0)
      rw [dg_zero]; exact Own.nilNone _ _ _ _
    · exact (((Below.refl _ _).alloc (Nat.le_refl _) _).alloc (by simp) _).trans (hb.mono (by simp; omega))
  · have hT : ∀ W, Below w.heap.size w W → Calls Tryz.prog 94 #[.slice a (dg 1000000000 v).length c] W fun r w' => r = .returned (.int .i64 (tz v : Nat)) ∧ W = w' := fun W hb => by
      have h := noughtsAtEnd_any a c (dg 1000000000 v) W (by omega) (Lo_dg (by omega) _) (by rw [vl_dg (by omega)]; exact h0) (hrd.below hb)
      rw [vl_dg (by omega)] at h; exact h
    have hC : ∀ W, Below w.heap.size w W → Calls Tryz.prog 95 #[.slice a (dg 1000000000 v).length c, .int .i64 (tz v : Nat)] W fun e w' => ∃ a1 c1 a2 c2 n2, e = .returned (.tuple #[.slice a1 (dg 1000000000 (core v)).length c1, .slice a2 n2 c2, .int .i64 0]) ∧
        Own w' W.heap.size 40 .u32 a1 c1 (dg 1000000000 (core v)) ∧ Below W.heap.size W w' := fun W hb => by
      have h := Cut_any a c (dg 1000000000 v) (tz v) W hz (by omega) (Lo_mono (Lo_dg (by omega) _) (by omega)) (hrd.below hb)
      rw [vl_dg (by omega)] at h
      exact h.mono fun e w' ⟨a1, c1, a2, c2, he, o1, o2, hb⟩ => ⟨a1, c1, a2, c2, _, he, o1, hb⟩
    have hpos : 0 < (dg 1000000000 v).length := by rw [dg_pos (by omega) h0]; simp
    obtain ⟨n, hn⟩ : ∃ n, n = (dg 1000000000 v).length := ⟨_, rfl⟩
    obtain ⟨t, ht⟩ : ∃ t, t = tz v := ⟨_, rfl⟩
    rw [← hn] at hpos hl hC hT ⊢
    rw [← ht] at hz hC hT
    have HT := Lib.hid hT; have HC := Lib.hid hC; have HTZ := Lib.hid ht; have HN := Lib.hid hn
    clear hT hC hn ht
    go_enter_defers Tryz.func59, Tryz.ntmps59
    go_wp2_with fail
    refine (HT.out _ (((Below.refl _ _).alloc (Nat.le_refl _) _).alloc (by simp) _)).mono ?_
    rintro r w1 ⟨rfl, rfl⟩
    go_wp2_with fail
    refine (HC.out _ (((Below.refl _ _).alloc (Nat.le_refl _) _).alloc (by simp) _)).mono ?_
    rintro r w2 ⟨a1, c1, a2, c2, n2, rfl, hr1, hb⟩
    have k0 : w2.cell? ⟨w.heap.size, 0, none⟩ = some (.bool s) := by rw [hb.cell (by simp; omega)]; simp
    have k1 : w2.cell? ⟨w.heap.size, 1, none⟩ = some (.slice none 0 0) := by rw [hb.cell (by simp; omega)]; simp
    have k2 : w2.cell? ⟨w.heap.size, 2, none⟩ = some (.int .i64 (e + t)) := by rw [hb.cell (by simp; omega)]; simp
    have k3 : w2.cell? ⟨w.heap.size + 1, 0, none⟩ = some (.int .i64 0) := by rw [hb.cell (by simp)]; simp
    have f1 : ∀ j, w2.frozen? ⟨w.heap.size, j, none⟩ = false := fun j => by rw [hb.frozen (by simp; omega)]; simp
    have f2 : w2.frozen? ⟨w.heap.size + 1, 0, none⟩ = false := by rw [hb.frozen (by simp)]; simp
    have bb := (((Below.refl w.heap.size w).alloc (Nat.le_refl _) (.cells #[.bool s, .slice none 0 0, .int .i64 (e + t)] 24)).alloc (by simp) (.cells #[.int .i64 0] 26)).trans (hb.mono (by simp; omega))
    have hsz : w.heap.size + 1 < w2.heap.size := by have := hb.size; simp at this; omega
    clear hb
    have ap1 : Apart a1 w.heap.size := hr1.apart (by simp; omega)
    have ap2 : Apart a1 (w.heap.size + 1) := hr1.apart (by simp)
    have hrd1 := hr1.mono (show w.heap.size ≤ _ by simp; omega)
    clear hr1
    go_wp2
    have q0 : (((((w2.setCell ⟨w.heap.size, 1, none⟩ (.slice a1 (dg 1000000000 (core v)).length c1)).setCell ⟨w.heap.size, 0, none⟩ (.bool s)).setCell ⟨w.heap.size, 1, none⟩ (.slice a1 (dg 1000000000 (core v)).length c1)).setCell ⟨w.heap.size, 2, none⟩ (.int .i64 (e + (t : Int)))).setCell ⟨w.heap.size + 1, 0, none⟩ (.int .i64 0)).cell? ⟨w.heap.size, 0, none⟩ = some (.bool s) := by simp [go_sem, k0, k1, k2, k3]
    have q1 : (((((w2.setCell ⟨w.heap.size, 1, none⟩ (.slice a1 (dg 1000000000 (core v)).length c1)).setCell ⟨w.heap.size, 0, none⟩ (.bool s)).setCell ⟨w.heap.size, 1, none⟩ (.slice a1 (dg 1000000000 (core v)).length c1)).setCell ⟨w.heap.size, 2, none⟩ (.int .i64 (e + (t : Int)))).setCell ⟨w.heap.size + 1, 0, none⟩ (.int .i64 0)).cell? ⟨w.heap.size, 1, none⟩ = some (.slice a1 (dg 1000000000 (core v)).length c1) := by simp [go_sem, k0, k1, k2, k3]
    have q2 : (((((w2.setCell ⟨w.heap.size, 1, none⟩ (.slice a1 (dg 1000000000 (core v)).length c1)).setCell ⟨w.heap.size, 0, none⟩ (.bool s)).setCell ⟨w.heap.size, 1, none⟩ (.slice a1 (dg 1000000000 (core v)).length c1)).setCell ⟨w.heap.size, 2, none⟩ (.int .i64 (e + (t : Int)))).setCell ⟨w.heap.size + 1, 0, none⟩ (.int .i64 0)).cell? ⟨w.heap.size, 2, none⟩ = some (.int .i64 (e + (t : Int))) := by simp [go_sem, k0, k1, k2, k3]
    have q3 : (((((w2.setCell ⟨w.heap.size, 1, none⟩ (.slice a1 (dg 1000000000 (core v)).length c1)).setCell ⟨w.heap.size, 0, none⟩ (.bool s)).setCell ⟨w.heap.size, 1, none⟩ (.slice a1 (dg 1000000000 (core v)).length c1)).setCell ⟨w.heap.size, 2, none⟩ (.int .i64 (e + (t : Int)))).setCell ⟨w.heap.size + 1, 0, none⟩ (.int .i64 0)).cell? ⟨w.heap.size + 1, 0, none⟩ = some (.int .i64 0) := by simp [go_sem, k0, k1, k2, k3]
    have z1 : ∀ j, (((((w2.setCell ⟨w.heap.size, 1, none⟩ (.slice a1 (dg 1000000000 (core v)).length c1)).setCell ⟨w.heap.size, 0, none⟩ (.bool s)).setCell ⟨w.heap.size, 1, none⟩ (.slice a1 (dg 1000000000 (core v)).length c1)).setCell ⟨w.heap.size, 2, none⟩ (.int .i64 (e + (t : Int)))).setCell ⟨w.heap.size + 1, 0, none⟩ (.int .i64 0)).frozen? ⟨w.heap.size, j, none⟩ = false := fun j => by simp [go_sem, f1]
    have z2 : (((((w2.setCell ⟨w.heap.size, 1, none⟩ (.slice a1 (dg 1000000000 (core v)).length c1)).setCell ⟨w.heap.size, 0, none⟩ (.bool s)).setCell ⟨w.heap.size, 1, none⟩ (.slice a1 (dg 1000000000 (core v)).length c1)).setCell ⟨w.heap.size, 2, none⟩ (.int .i64 (e + (t : Int)))).setCell ⟨w.heap.size + 1, 0, none⟩ (.int .i64 0)).frozen? ⟨w.heap.size + 1, 0, none⟩ = false := by simp [go_sem, f2]
    have b3 : Below w.heap.size w (((((w2.setCell ⟨w.heap.size, 1, none⟩ (.slice a1 (dg 1000000000 (core v)).length c1)).setCell ⟨w.heap.size, 0, none⟩ (.bool s)).setCell ⟨w.heap.size, 1, none⟩ (.slice a1 (dg 1000000000 (core v)).length c1)).setCell ⟨w.heap.size, 2, none⟩ (.int .i64 (e + (t : Int)))).setCell ⟨w.heap.size + 1, 0, none⟩ (.int .i64 0)) := ((((bb.setCell (Nat.le_refl _) _).setCell (Nat.le_refl _) _).setCell (Nat.le_refl _) _).setCell (Nat.le_refl _) _).setCell (Nat.le_succ _) _
    have r3 : Own (((((w2.setCell ⟨w.heap.size, 1, none⟩ (.slice a1 (dg 1000000000 (core v)).length c1)).setCell ⟨w.heap.size, 0, none⟩ (.bool s)).setCell ⟨w.heap.size, 1, none⟩ (.slice a1 (dg 1000000000 (core v)).length c1)).setCell ⟨w.heap.size, 2, none⟩ (.int .i64 (e + (t : Int)))).setCell ⟨w.heap.size + 1, 0, none⟩ (.int .i64 0)) w.heap.size 40 .u32 a1 c1 (dg 1000000000 (core v)) := ((((hrd1.setFar ap1 _ _).setFar ap1 _ _).setFar ap1 _ _).setFar ap1 _ _).setFar ap2 _ _
    generalize (((((w2.setCell ⟨w.heap.size, 1, none⟩ (.slice a1 (dg 1000000000 (core v)).length c1)).setCell ⟨w.heap.size, 0, none⟩ (.bool s)).setCell ⟨w.heap.size, 1, none⟩ (.slice a1 (dg 1000000000 (core v)).length c1)).setCell ⟨w.heap.size, 2, none⟩ (.int .i64 (e + (t : Int)))).setCell ⟨w.heap.size + 1, 0, none⟩ (.int .i64 0)) = w3 at *
    clear k0 k1 k2 k3 f1 f2 bb hrd1
    have hpl : pl s v e = ⟨s, core v, e + (t : Int)⟩ := by unfold pl; rw [if_neg (by omega), HTZ.out]
    have hcl : (dg 1000000000 (core v)).length ≤ 100000 := by
      have h1 := dg_len_le (b := 1000000000) (by omega) (core_le v)
      rw [← HN.out] at h1; omega
    have hvc : vl 1000000000 (dg 1000000000 (core v)) = core v := vl_dg (by omega) _
    have hlc : Lo 4294967296 (dg 1000000000 (core v)) := Lo_mono (Lo_dg (by omega) _) (by omega)
    rcases hin : inR ⟨s, core v, e + (t : Int)⟩ with _ | _
    · have hA : tellA s v e = ⟨3, zP⟩ := by unfold tellA; rw [hpl, if_neg (by rw [hin]; exact Bool.false_ne_true)]
      rw [hA]
      refine leaves_cons (f := 92) (args := #[.pointer (some ⟨w.heap.size, 0, none⟩), .pointer (some ⟨w.heap.size + 1, 0, none⟩)]) (by simp) (by simp [go_sem]) ?_
      refine (tell1_out w.heap.size (w.heap.size + 1) s a1 c1 (dg 1000000000 (core v)) (e + (t : Int)) .returning w3 (by omega) (by omega) (by omega) hlc r3.rd (htab.below b3) q0 q1 q2 q3 (by omega) z1 z2 (by rw [hvc]; exact hin)).mono ?_
      rintro r u' w' ⟨rfl, rfl, c0, c1, c2, c3, hb⟩
      refine ⟨.tuple #[.agg #[.bool false, .slice none 0 0, .int .i64 0], .int .i64 3], by simp [results, Tryz.results59, go_sem, c0, c1, c2, c3], none, 0, ?_, ?_, ?_⟩
      · show _ = Ending.returned (.tuple #[.agg #[.bool false, .slice none (dg 1000000000 0).length 0, .int .i64 0], .int .i64 3])
        rw [dg_zero]; rfl
      · show Own w' _ _ .u32 none 0 (dg 1000000000 0)
        rw [dg_zero]; exact Own.nilNone _ _ _ _
      · exact b3.trans (hb w.heap.size (Nat.le_refl _) (by omega))
    · have hA : tellA s v e = ⟨0, ⟨s, core v, e + (t : Int)⟩⟩ := by unfold tellA; rw [hpl, if_pos hin]
      rw [hA]
      refine leaves_cons (f := 92) (args := #[.pointer (some ⟨w.heap.size, 0, none⟩), .pointer (some ⟨w.heap.size + 1, 0, none⟩)]) (by simp) (by simp [go_sem]) ?_
      refine (tell1_in w.heap.size (w.heap.size + 1) s a1 c1 (dg 1000000000 (core v)) (e + (t : Int)) .returning w3 (by omega) (by omega) (by omega) hlc r3.rd (htab.below b3) q0 q1 q2 (by rw [hvc]; exact hin)).mono ?_
      rintro r u' w' ⟨rfl, rfl, hb⟩
      have g1 := lt_of_cell q0
      have g2 := lt_of_cell q3
      have c0 : w'.cell? ⟨w.heap.size, 0, none⟩ = some (.bool s) := by rw [hb.cell g1]; exact q0
      have c1' : w'.cell? ⟨w.heap.size, 1, none⟩ = some (.slice a1 (dg 1000000000 (core v)).length c1) := by rw [hb.cell (p := ⟨w.heap.size, 1, none⟩) g1]; exact q1
      have c2 : w'.cell? ⟨w.heap.size, 2, none⟩ = some (.int .i64 (e + (t : Int))) := by rw [hb.cell (p := ⟨w.heap.size, 2, none⟩) g1]; exact q2
      have c3 : w'.cell? ⟨w.heap.size + 1, 0, none⟩ = some (.int .i64 0) := by rw [hb.cell g2]; exact q3
      exact ⟨.tuple #[.agg #[.bool s, .slice a1 (dg 1000000000 (core v)).length c1, .int .i64 (e + (t : Int))], .int .i64 0], by simp [results, Tryz.results59, go_sem, c0, c1', c2, c3], a1, c1, rfl, r3.below hb, b3.trans (hb.mono b3.size)⟩
end Go.Proofs.YtimfpgpomafflaaGreatDoor

/- Walks of dec: Norm, Neg. -/
namespace Go.Proofs.YtimfpgpomafflaaGreatDoor
open Go.RowKit LM

def ResA (A : Ans) (w : World) (r : Ending) (w' : World) : Prop := ∃ a' c', r = .returned (.tuple #[.agg #[.bool A.p.neg, .slice a' (dg 1000000000 A.p.m).length c', .int .i64 A.p.e], .int .i64 (A.err : Nat)]) ∧ Own w' w.heap.size 40 .u32 a' c' (dg 1000000000 A.p.m) ∧ Below w.heap.size w w'

theorem bcell {W w1 : World} (hb : Below W.heap.size W w1) : (∀ b o, b < W.heap.size → w1.cell? ⟨b, o, none⟩ = W.cell? ⟨b, o, none⟩) ∧ (∀ b o, b < W.heap.size → w1.frozen? ⟨b, o, none⟩ = W.frozen? ⟨b, o, none⟩) :=
  ⟨fun b o h => hb.cell (p := ⟨b, o, none⟩) h, fun b o h => hb.frozen (p := ⟨b, o, none⟩) h⟩

theorem near_few {l : List Nat} (hlo : Lo 4294967296 l) (h : l.length ≤ 200) : tz (vl 1000000000 l) ≤ 30000 ∧ (dg 1000000000 (vl 1000000000 l)).length ≤ 100000 := by
  have h1 : (dg 1000000000 (vl 1000000000 l)).length ≤ l.length + 1 := nlen hlo
  refine ⟨?_, by omega⟩
  rcases Nat.eq_zero_or_pos (vl 1000000000 l) with e | e
  · rw [e, tz_zero]; omega
  · have h2 : (dg 10 (vl 1000000000 l)).length ≤ 9 * (l.length + 1) := by have := dg10_le hlo l.length; rwa [List.take_length] at this
    have h3 := dg_upper (b := 10) (by omega) (vl 1000000000 l)
    have := tz_lt e h3
    omega

/-- the result's cells behind two calls -/
theorem res3 {w1 w2 w3 : World} {g : Nat} (h : ∀ j, j < 3 → ∃ x, w1.cell? ⟨g, j, none⟩ = some x) (hf : ∀ j, w1.frozen? ⟨g, j, none⟩ = false) (b1 : Below w1.heap.size w1 w2) (b2 : Below w2.heap.size w2 w3) :
    (∃ x, w3.cell? ⟨g, 0, none⟩ = some x) ∧ (∃ x, w3.cell? ⟨g, 1, none⟩ = some x) ∧ (∃ x, w3.cell? ⟨g, 2, none⟩ = some x) ∧ ∀ j, w3.frozen? ⟨g, j, none⟩ = false := by
  have b3 := b1.trans (b2.mono b1.size)
  have hg : g < w1.heap.size := by obtain ⟨x, hx⟩ := h 0 (by omega); exact lt_of_cell hx
  have k : ∀ j, j < 3 → ∃ x, w3.cell? ⟨g, j, none⟩ = some x := fun j hj => by rw [b3.cell (p := ⟨g, j, none⟩) hg]; exact h j hj
  exact ⟨k 0 (by omega), k 1 (by omega), k 2 (by omega), fun j => by rw [b3.frozen (p := ⟨g, j, none⟩) hg]; exact hf j⟩

set_option maxHeartbeats 4000000 in
theorem DNorm_any (s : Bool) (a : Option Addr) (c : Nat) (l : List Nat) (e : Int) (w : World) (hl : l.length ≤ 9223372036854775807) (hlo : Lo 4294967296 l) (hrd : Rd w .u32 a l) (htab : Tab w) :
    Calls Tryz.prog 31 #[.agg #[.bool s, .slice a l.length c, .int .i64 e]] w (ResA (normA l.length s (vl 1000000000 l) e) w) := by
  rcases hnr : nearB l.length e with _ | _
  · have hA : normA l.length s (vl 1000000000 l) e = ⟨1, zP⟩ := by unfold normA; rw [if_neg (by rw [hnr]; exact Bool.false_ne_true)]
    rw [hA]
    have hI := fun W => isNear_any s a l.length c e W
    rw [hnr] at hI
    have HI := Lib.hid hI
    clear hI hnr hA hlo hrd htab
    go_enter Tryz.func31, Tryz.ntmps31
    go_wp2_with fail
    refine (HI.out _).mono ?_
    rintro r w1 ⟨rfl, hb⟩
    obtain ⟨hc, hf⟩ := bcell hb
    have bb := (((Below.refl w.heap.size w).alloc (Nat.le_refl _) (.cells #[.bool s, .slice a l.length c, .int .i64 e] 24)).alloc (by simp) (.cells #[.bool false, .slice none 0 0, .int .i64 0] 24)).trans (hb.mono (by simp; omega))
    clear hb
    go_wp2
    refine bodyPost_ret (v := .tuple #[.agg #[.bool false, .slice none 0 0, .int .i64 0], .int .i64 1]) (by simp [results, Tryz.results31, go_sem, hc, hf]) rfl ?_
    exact ⟨none, 0, by show _ = Ending.returned (.tuple #[.agg #[.bool false, .slice none (dg 1000000000 0).length 0, .int .i64 0], .int .i64 1]); rw [dg_zero]; rfl, by show Own _ _ _ .u32 none 0 (dg 1000000000 0); rw [dg_zero]; exact Own.nilNone _ _ _ _, ((bb.setCell (Nat.le_succ _) _).setCell (Nat.le_succ _) _).setCell (Nat.le_succ _) _⟩
  · have hI := fun W => isNear_any s a l.length c e W
    rw [hnr] at hI
    have HI := Lib.hid hI
    have hA : normA l.length s (vl 1000000000 l) e = tellA s (vl 1000000000 l) e := by unfold normA; rw [if_pos hnr]
    rw [hA]
    have hn := of_decide_eq_true hnr
    have hN := fun W hb => Norm_any a c l W (by omega) hlo (hrd.below' (w' := W) hb (Nat.le_refl _))
    have HN := Lib.hid hN
    obtain ⟨hv1, hv2⟩ := near_few hlo hn.1
    have hTL := fun a1 c1 W hr ht => tell_any s a1 c1 (vl 1000000000 l) e W hv1 hv2 (by omega) (by omega) hr ht
    have HTL := Lib.hid hTL
    clear hI hnr hA hN hTL hv1 hv2
    go_enter Tryz.func31, Tryz.ntmps31
    go_wp2_with fail
    refine (HI.out _).mono ?_
    rintro r w1 ⟨rfl, hb⟩
    obtain ⟨hc, hf⟩ := bcell hb
    have bb := (((Below.refl w.heap.size w).alloc (Nat.le_refl _) (.cells #[.bool s, .slice a l.length c, .int .i64 e] 24)).alloc (by simp) (.cells #[.bool false, .slice none 0 0, .int .i64 0] 24)).trans (hb.mono (by simp; omega))
    have k0 : w1.cell? ⟨w.heap.size, 0, none⟩ = some (.bool s) := by rw [hb.cell (by simp; omega)]; simp
    have k1 : w1.cell? ⟨w.heap.size, 1, none⟩ = some (.slice a l.length c) := by rw [hb.cell (by simp; omega)]; simp
    have k2 : w1.cell? ⟨w.heap.size, 2, none⟩ = some (.int .i64 e) := by rw [hb.cell (by simp; omega)]; simp
    have k3 : ∀ j, j < 3 → ∃ x, w1.cell? ⟨w.heap.size + 1, j, none⟩ = some x := fun j hj => ⟨(#[Value.bool false, .slice none 0 0, .int .i64 0])[j]'(by simpa using hj), by rw [hb.cell (by simp)]; simp⟩
    have k6 : ∀ j, w1.frozen? ⟨w.heap.size + 1, j, none⟩ = false := fun j => by rw [hb.frozen (by simp)]; simp
    clear hb hc hf
    have K3 := Lib.hid k3; have K6 := Lib.hid k6
    clear k3 k6
    go_wp2_with fail
    go_region_held3 (fun w' => w'.cell? ⟨w.heap.size, 0, none⟩ = some (.bool s) ∧ w'.cell? ⟨w.heap.size, 1, none⟩ = some (.slice a l.length c) ∧ w'.cell? ⟨w.heap.size, 2, none⟩ = some (.int .i64 e)) (first | go_keep | exact ⟨j0, j1, j2⟩ | exact ⟨i0, i1, i2⟩)
      (first
        | (go_at_call 62; refine (HN.out _ bb.drew).mono ?_; rintro e w2 ⟨a1, c1, rfl, ho1, hb1⟩; have bb2 := bb.drew.trans (hb1.mono bb.size); have j0 : w2.cell? ⟨w.heap.size, 0, none⟩ = some (.bool s) := (by rw [hb1.cell (lt_of_cell k0)]; exact k0); have j1 : w2.cell? ⟨w.heap.size, 1, none⟩ = some (.slice a l.length c) := (by rw [hb1.cell (lt_of_cell k1)]; exact k1); have j2 : w2.cell? ⟨w.heap.size, 2, none⟩ = some (.int .i64 e) := (by rw [hb1.cell (lt_of_cell k2)]; exact k2))
        | (go_at_call 59; refine (HTL.out a1 c1 _ ho1.rd (htab.below bb2)).mono ?_; rintro e w3 ⟨a3, c3, rfl, hr3, hb3⟩; have i0 : w3.cell? ⟨w.heap.size, 0, none⟩ = some (.bool s) := (by rw [hb3.cell (lt_of_cell j0)]; exact j0); have i1 : w3.cell? ⟨w.heap.size, 1, none⟩ = some (.slice a l.length c) := (by rw [hb3.cell (lt_of_cell j1)]; exact j1); have i2 : w3.cell? ⟨w.heap.size, 2, none⟩ = some (.int .i64 e) := (by rw [hb3.cell (lt_of_cell j2)]; exact j2); obtain ⟨o0, o1, o2, hofr⟩ := res3 (w1 := w1.drew) K3.out K6.out hb1 hb3; obtain ⟨x0, i3⟩ := o0; obtain ⟨x1, i4⟩ := o1; obtain ⟨x2, i5⟩ := o2))
    have hg1 : w.heap.size + 1 < w2.heap.size := Nat.lt_of_lt_of_le (lt_of_cell (K3.out 0 (by omega)).choose_spec) hb1.size
    have ap := hr3.apart hg1
    have bb3 := bb2.trans (hb3.mono bb2.size)
    have hown := hr3.mono bb2.size
    clear hr3 hb3 hb1
    go_wp2
    refine bodyPost_ret (v := .tuple #[.agg #[.bool (tellA s (vl 1000000000 l) e).p.neg, .slice a3 (dg 1000000000 (tellA s (vl 1000000000 l) e).p.m).length c3, .int .i64 (tellA s (vl 1000000000 l) e).p.e], .int .i64 ((tellA s (vl 1000000000 l) e).err : Nat)]) (by simp [results, Tryz.results31, go_sem, i3, i4, i5]) rfl ?_
    exact ⟨a3, c3, rfl, ((hown.setFar ap _ _).setFar ap _ _).setFar ap _ _, ((bb3.setCell (Nat.le_succ _) _).setCell (Nat.le_succ _) _).setCell (Nat.le_succ _) _⟩
end Go.Proofs.YtimfpgpomafflaaGreatDoor

/- Walks: the document's answer: Sub, Text. -/
namespace Go.Proofs.YtimfpgpomafflaaGreatDoor
open Go.RowKit LM

set_option maxHeartbeats 4000000 in
/-- the document's difference -/
theorem RSub_any (a b : Option Addr) (ca cb : Nat) (x y : List Nat) (w : World) (hl : x.length ≤ 1073741824) (hm : y.length ≤ x.length) (hxl : Lo 10 x) (hyl : Lo 10 y) (hle : vl 10 y ≤ vl 10 x) (ha : Rd w .u8 a x) (hb : Rd w .u8 b y) :
    Calls Tryz.prog 84 #[.slice a x.length ca, .slice b y.length cb] w fun e w' => ∃ a' cap', e = .returned (.slice a' (dg 10 (vl 10 x - vl 10 y)).length cap') ∧
      Own w' w.heap.size 5 .u8 a' cap' (dg 10 (vl 10 x - vl 10 y)) ∧ Below w.heap.size w w' := by
  have HXL := Lib.hid hxl; have HYL := Lib.hid hyl; have HLE := Lib.hid hle
  clear hxl hyl hle
  go_enter Tryz.func84, Tryz.ntmps84
  go_wp2
  go_loopw [5, 6, 7] (fun v5 v6 i wr => ∃ (k c q cap : Nat) (ao : Option Addr) (out : List Nat), k ≤ x.length ∧ i = .int .i64 k ∧ v6 = .int .i64 c ∧ c ≤ 1 ∧ v5 = .slice ao q cap ∧ Hid (q = out.length) ∧ Hid (out.length = k) ∧ Hid (Lo 10 out) ∧
      Hid (vl 10 (x.take k) + 10 ^ k * c = vl 10 out + vl 10 (y.take k)) ∧ Own wr w.heap.size 5 .u8 ao cap out ∧ Below w.heap.size w wr) (fun _ _ i _ => x.length - (intOf i).toNat)
  case atStart => exact ⟨0, 0, 0, 0, none, [], Nat.zero_le _, rfl, rfl, by omega, rfl, (rfl : (0 : Nat) = [].length), (rfl : ([] : List Nat).length = 0), Lo_nil _, (by simp [vl] : vl 10 (x.take 0) + 10 ^ 0 * 0 = vl 10 [] + vl 10 (y.take 0)), Own.nilNone _ _ _ _, Below.refl _ _⟩
  case round =>
    obtain ⟨k, c, q, cap, ao, out, hk, rfl, rfl, hc, rfl, HQ, HOL, HOLo, HV, hown, hbl⟩ := hrel
    by_cases hlt : k < x.length
    · obtain ⟨b1, o1, p, e1, HP, hp, cp⟩ := (ha.below hbl).get HXL.out k hlt
      subst e1
      obtain ⟨y1, hy1⟩ : ∃ y1, y1 = y[k]?.getD 0 := ⟨_, rfl⟩
      have hy : y1 < 10 := by rw [hy1]; exact Lo_get HYL.out (by omega) k
      have HY := Lib.hid hy1
      have hD : ∀ n, Calls Tryz.prog 108 #[.slice b y.length cb, .int .i64 k] (wr.drewN n) fun e u => e = .returned (.int .i64 y1) ∧ wr.drewN n = u := fun n =>
        (digit_any b cb k y (wr.drewN n) (by omega) (by omega) HYL.out ((hb.below hbl).dN n)).mono fun e u ⟨z, HZ, _, he, hw⟩ => ⟨by rw [he, HZ.out, HY.out], hw⟩
      have HD := Lib.hid hD
      clear hD hy1
      have hb1 : (out.length + 1) * 1 ≤ 140737488355328 := by rw [HOL.out]; omega
      have hb2 : out.length + 1 ≤ maxLen := by rw [HOL.out]; unfold maxLen; omega
      have HB1 := Lib.hid hb1; have HB2 := Lib.hid hb2
      clear hb1 hb2
      have fin : ∀ v c' : Nat, p + 10 * c' = v + (y1 + c) → Hid (vl 10 (x.take (k + 1)) + 10 ^ (k + 1) * c' = vl 10 (out ++ [v]) + vl 10 (y.take (k + 1))) :=
        fun v c' h => rsub_step HOL.out (by rw [← HP.out, ← HY.out]; exact h) HV.out
      have HFIN := Lib.hid fin
      clear fin
      by_cases hneg : p < y1 + c
      · have hI : (p : Int) - (y1 : Int) - (c : Int) < 0 := by omega
        go_wp2_with fail
        go_quiet ((go_at_call 108; first | exact still (HD.out _) | exact still2 (HD.out _)))
        go_wp2_with (at_builtin; refine wp_push _ rfl _ _ 51 rfl w.heap.size 5 .u8 1 Tryz.underlying51 infoU8 ao cap q out HQ.out rfl _ (p + 10 - (y1 + c)) (by omega) _ rfl (hown.dN _) HB1.out HB2.out (hbl.size) ?_)
        intro ao' cap' w2 hown2 hb2
        have hbl2 := (bdN hbl _).trans hb2
        have HK := HFIN.out (p + 10 - (y1 + c)) 1 (by omega)
        clear hb2
        go_wp2
        go_roundw
        case rel => exact ⟨k + 1, 1, q + 1, cap', ao', out ++ [p + 10 - (y1 + c)], by omega, by go_num, rfl, by omega, rfl, (by rw [HQ.out]; simp : q + 1 = (out ++ [p + 10 - (y1 + c)]).length), (by rw [List.length_append, HOL.out]; rfl : (out ++ [p + 10 - (y1 + c)]).length = k + 1), (Lo_append HOLo.out (Lo_one (by omega)) : Lo 10 (out ++ [p + 10 - (y1 + c)])), HK, hown2, hbl2⟩
        case measure => simp [intOf]; omega
      · have hI : ¬ (p : Int) - (y1 : Int) - (c : Int) < 0 := by omega
        go_wp2_with fail
        go_quiet ((go_at_call 108; first | exact still (HD.out _) | exact still2 (HD.out _)))
        go_wp2_with (at_builtin; refine wp_push _ rfl _ _ 51 rfl w.heap.size 5 .u8 1 Tryz.underlying51 infoU8 ao cap q out HQ.out rfl _ (p - (y1 + c)) (by omega) _ rfl (hown.dN _) HB1.out HB2.out (hbl.size) ?_)
        intro ao' cap' w2 hown2 hb2
        have hbl2 := (bdN hbl _).trans hb2
        have HK := HFIN.out (p - (y1 + c)) 0 (by omega)
        clear hb2
        go_wp2
        go_roundw
        case rel => exact ⟨k + 1, 0, q + 1, cap', ao', out ++ [p - (y1 + c)], by omega, by go_num, rfl, by omega, rfl, (by rw [HQ.out]; simp : q + 1 = (out ++ [p - (y1 + c)]).length), (by rw [List.length_append, HOL.out]; rfl : (out ++ [p - (y1 + c)]).length = k + 1), (Lo_append HOLo.out (Lo_one (by omega)) : Lo 10 (out ++ [p - (y1 + c)])), HK, hown2, hbl2⟩
        case measure => simp [intOf]; omega
    · obtain rfl : k = x.length := by omega
      have htr := rsub_end HOL.out HOLo.out hm HLE.out HV.out
      have hR := rtrim_any ao cap out wr (by rw [HOL.out]; omega) hown.rd hown.cap.1
      have hown2 := hown.take (tr out).length (by have := tr_take out; rw [this]; simp; omega)
      rw [← tr_take, htr] at hown2
      rw [htr, ← HQ.out] at hR
      have HR := Lib.hid hR
      clear hR htr hown
      go_wp2_with fail
      refine HR.out.mono ?_
      rintro e w1 ⟨rfl, rfl⟩
      go_wp2
      go_ret
      exact ⟨_, _, rfl, hown2, hbl⟩

theorem Rd.drop {w : World} {k : IntKind} {b off : Nat} {l : List Nat} (h : Rd w k (some ⟨b, off, none⟩) l) (n : Nat) : Rd w k (some ⟨b, off + n, none⟩) (l.drop n) := by
  intro j hj
  rw [List.length_drop] at hj
  obtain ⟨b', o', e, hc⟩ := h (n + j) (by omega)
  simp only [Option.some.injEq, Addr.mk.injEq, and_true] at e
  obtain ⟨rfl, rfl⟩ := e
  refine ⟨b, off + n, rfl, ?_⟩
  rw [List.getElem?_drop, Nat.add_assoc]; exact hc

theorem ownLit0 (w : World) (e : TypeId) (k : IntKind) : Own (w.alloc (.cells #[] e)) w.heap.size e k (some ⟨w.heap.size, 0, none⟩) 0 [] :=
  ⟨by simp [cs], .inr ⟨w.heap.size, 0, #[], rfl, Nat.le_refl _, heap_alloc_new w _, Nat.le_refl _, by unfold maxLen; omega, rfl, rfl⟩⟩
theorem ownLit1 (w : World) (e : TypeId) (k : IntKind) (x : Nat) {xv : Int} (hx : xv = (x : Int)) : Own (w.alloc (.cells #[.int k xv] e)) w.heap.size e k (some ⟨w.heap.size, 0, none⟩) 1 [x] := by
  subst hx
  exact ⟨by simp [cs], .inr ⟨w.heap.size, 1, #[.int k (x : Int)], rfl, Nat.le_refl _, heap_alloc_new w _, Nat.le_refl _, by unfold maxLen; omega, rfl, rfl⟩⟩
end Go.Proofs.YtimfpgpomafflaaGreatDoor

/- Walks of the document's answer for dec: Make, Head, Fits. -/
namespace Go.Proofs.YtimfpgpomafflaaGreatDoor
open Go.RowKit LM

/-- a number of digits in memory -/
def RdC (w : World) (a : Option Addr) (c m : Nat) : Prop := Rd w .u8 a (dg 10 m) ∧ (dg 10 m).length ≤ c ∧ c ≤ maxLen ∧ (a = none → m = 0 ∧ c = 0)
theorem RdC.below {w w' : World} {a : Option Addr} {c m : Nat} (h : RdC w a c m) (hb : Below w.heap.size w w') : RdC w' a c m := ⟨h.1.below hb, h.2⟩
theorem RdC.ofOwn {w : World} {B c m : Nat} {t : TypeId} {a : Option Addr} (h : Own w B t .u8 a c (dg 10 m)) : RdC w a c m :=
  ⟨h.rd, h.cap.1, h.cap.2, fun hn => by obtain ⟨h1, h2⟩ := h.none_nil hn; exact ⟨(dg_eq_nil (by omega)).1 h1, h2⟩⟩
theorem RdC.zero (w : World) : RdC w none 0 0 := ⟨by rw [dg_zero]; exact Rd.nil _ _ _, by rw [dg_zero]; exact Nat.le_refl _, Nat.zero_le _, fun _ => ⟨rfl, rfl⟩⟩

theorem dg_lowest {v : Nat} {k : Nat} (h : k < (dg 10 v).length) : (dg 10 v)[k]?.getD 0 = v / 10 ^ k % 10 := by
  have h1 := dg_drop (b := 10) (by omega) k v
  have h2 := drop_cons h
  rw [h1] at h2
  have hp : 0 < v / 10 ^ k := by
    rcases Nat.eq_zero_or_pos (v / 10 ^ k) with e | e
    · rw [e, dg_zero] at h2; cases h2
    · exact e
  rw [dg_pos (by omega) hp] at h2
  exact (List.cons.inj h2).1.symm
theorem tz_go {v k : Nat} (h : k ≤ tz v) (h0 : 0 < v) : tz (v / 10 ^ k) = tz v - k ∧ 0 < v / 10 ^ k := by
  obtain ⟨c1, c2⟩ := tz_spec v h0
  have e : v / 10 ^ k = core v * 10 ^ (tz v - k) := by
    have : v = core v * 10 ^ (tz v - k) * 10 ^ k := by rw [Nat.mul_assoc, ← Nat.pow_add, Nat.sub_add_cancel h]; exact c2.symm
    generalize core v * 10 ^ (tz v - k) = q at *
    rw [this, Nat.mul_div_cancel _ (Nat.pow_pos (by omega))]
  rw [e, tz_plain c1]
  exact ⟨rfl, Nat.mul_pos (by omega) (Nat.pow_pos (by omega))⟩
theorem tz_end {v k : Nat} (h : k ≤ tz v) (h0 : 0 < v) (hd : v / 10 ^ k % 10 ≠ 0) : k = tz v := by
  have h1 := (tz_go h h0).1
  rw [tz_no hd] at h1; omega
theorem tz_more {v k : Nat} (h : k ≤ tz v) (h0 : 0 < v) (hd : v / 10 ^ k % 10 = 0) : k + 1 ≤ tz v := by
  obtain ⟨h1, h2⟩ := tz_go h h0
  rw [tz_yes h2 hd] at h1; omega
theorem tz_len {v : Nat} (h0 : 0 < v) : tz v < (dg 10 v).length := tz_lt h0 (dg_upper (by omega) v)

def ResM (p : Pl) (w : World) (r : Ending) (w' : World) : Prop := ∃ a' c', r = .returned (.agg #[.bool p.neg, .slice a' (dg 10 p.m).length c', .int .i64 p.e]) ∧ RdC w' a' c' p.m ∧ Below w.heap.size w w'

set_option maxHeartbeats 4000000 in
theorem Make_any (s : Bool) (a : Option Addr) (c v : Nat) (e : Int) (w : World) (hl : (dg 10 v).length ≤ 1000000) (he : -1000000 ≤ e) (he2 : e ≤ 1000000) (hrd : RdC w a c v) :
    Calls Tryz.prog 50 #[.bool s, .slice a (dg 10 v).length c, .int .i64 e] w (ResM (pl s v e) w) := by
  obtain ⟨hrd, hc1, hc2, hnn⟩ := hrd
  rcases Nat.eq_zero_or_pos v with h0 | h0
  · subst h0
    have hp : pl s 0 e = zP := rfl
    rw [hp, dg_zero]
    clear hp hrd hc1 hl hnn
    go_enter Tryz.func50, Tryz.ntmps50
    go_wp2
    go_loop [7] (fun i => i = .int .i64 0) (fun i => 0)
    case atStart => rfl
    case round =>
      subst hrel
      go_wp2
      refine bodyPost_ret (v := .agg #[.bool false, .slice none 0 0, .int .i64 0]) (by simp [results, Tryz.results50, go_sem]) rfl ?_
      exact ⟨none, 0, by show _ = Ending.returned (.agg #[.bool false, .slice none (dg 10 0).length 0, .int .i64 0]); rw [dg_zero]; rfl, RdC.zero _, (Below.refl _ _).alloc (Nat.le_refl _) _⟩
  · obtain ⟨b, off, rfl, _⟩ := hrd.at (by have := tz_len h0; omega)
    have hlo := Lo_dg (b := 10) (by omega) v
    have hlow : ∀ k, k < (dg 10 v).length → (dg 10 v)[k]?.getD 0 = v / 10 ^ k % 10 := fun k hk => dg_lowest hk
    have htz := tz_len h0
    have hcore : (dg 10 v).drop (tz v) = dg 10 (core v) := dg_drop (by omega) _ _
    have hcl : (dg 10 (core v)).length = (dg 10 v).length - tz v := by rw [← hcore, List.length_drop]
    have hp : pl s v e = ⟨s, core v, e + tz v⟩ := by unfold pl; rw [if_neg (by omega)]
    rw [hp]
    have HLO := Lib.hid hlo; have HLOW := Lib.hid hlow; have HCORE := Lib.hid hcore; have HCL := Lib.hid hcl
    clear hlo hlow hcore hcl hp hnn
    generalize dg 10 v = x at *
    unfold maxLen at hc2
    go_enter Tryz.func50, Tryz.ntmps50
    go_wp2
    go_loop [7] (fun i => ∃ k : Nat, k ≤ tz v ∧ i = .int .i64 k) (fun i => x.length - (intOf i).toNat)
    case atStart => exact ⟨0, Nat.zero_le _, rfl⟩
    case round =>
      obtain ⟨k, hk, rfl⟩ := hrel
      obtain ⟨b1, o1, z, e1, HZ, hz, hcz⟩ := (hrd.alloc (.cells #[.bool false, .slice none 0 0, .int .i64 0] 53)).get HLO.out k (by omega)
      simp only [Option.some.injEq, Addr.mk.injEq, and_true] at e1
      obtain ⟨rfl, rfl⟩ := e1
      have hzv := HZ.out
      rw [HLOW.out k (by omega)] at hzv
      by_cases h10 : z = 0
      · have hm := tz_more hk h0 (by rw [← hzv]; exact h10)
        have hzB : ((z : Int) == 0) = true := by simp [h10]
        clear hzv h10
        go_wp2
        go_round
        case rel => exact ⟨k + 1, hm, by go_num⟩
        case measure => simp [intOf]; omega
      · have hm := tz_end hk h0 (by rw [← hzv]; exact h10)
        have hzB : ((z : Int) == 0) = false := by simp; omega
        subst hm
        clear hzv h10
        have hne : ((tz v : Int) == (x.length : Int)) = false := by simp; omega
        go_wp2
        have hr9 : ∀ W, Below w.heap.size w W → RdC W (some ⟨b, off + tz v, none⟩) (c - tz v) (core v) := fun W hb => by
          refine ⟨?_, by rw [HCL.out]; omega, by unfold maxLen; omega, fun h => by cases h⟩
          have := (hrd.below hb).drop (tz v)
          rw [HCORE.out] at this; exact this
        have HR9 := Lib.hid hr9
        clear hr9
        refine bodyPost_ret (v := .agg #[.bool s, .slice (some ⟨b, off + tz v, none⟩) (x.length - tz v) (c - tz v), .int .i64 (e + (tz v : Int))]) (by simp [results, Tryz.results50, go_sem]) rfl ?_
        have hbl : ∀ o, Below w.heap.size w (w.alloc o) := fun o => (Below.refl _ _).alloc (Nat.le_refl _) _
        exact ⟨_, _, by rw [HCL.out], HR9.out _ (hbl _), hbl _⟩

set_option maxHeartbeats 1000000 in
theorem Head_any (s : Bool) (a : Option Addr) (n c : Nat) (e : Int) (w : World) (hn : n ≤ 10000000) (he : -1000000 ≤ e) (he2 : e ≤ 1000000) :
    Calls Tryz.prog 46 #[.agg #[.bool s, .slice a n c, .int .i64 e]] w fun r w' => r = .returned (.int .i64 (e + n - 1)) ∧ Below w.heap.size w w' := by
  go_enter Tryz.func46, Tryz.ntmps46
  go_wp2
  go_ret
  exact ⟨rfl, (Below.refl _ _).alloc (Nat.le_refl _) _⟩

set_option maxHeartbeats 2000000 in
theorem Fits_any (s : Bool) (a : Option Addr) (c m : Nat) (e : Int) (w : World) (hl : dl m ≤ 1000000) (he : -1000000 ≤ e) (he2 : e ≤ 1000000) (hp : PlainP ⟨s, m, e⟩) :
    Calls Tryz.prog 74 #[.agg #[.bool s, .slice a (dl m) c, .int .i64 e]] w fun r w' => r = .returned (.bool (inR ⟨s, m, e⟩)) ∧ Below w.heap.size w w' := by
  rcases Nat.eq_zero_or_pos m with h0 | h0
  · have hin : inR ⟨s, m, e⟩ = true := by
      rcases hp with ⟨_, h⟩ | h
      · rw [h]; exact zP_in
      · subst h0; simp at h
    have hz : dl m = 0 := by rw [h0]; unfold dl; rw [dg_zero]; rfl
    rw [hz, hin]
    clear hz hin h0 hp hl
    go_enter Tryz.func74, Tryz.ntmps74
    go_wp2
    go_ret
    exact ⟨rfl, (Below.refl _ _).alloc (Nat.le_refl _) _⟩
  · have hpos : 0 < dl m := by unfold dl; rw [dg_pos (by omega) h0]; simp
    have hR : ∀ d : Nat, d = dl m → inR ⟨s, m, e⟩ = decide (d ≤ 400 ∧ -10000 ≤ e + d - 1 ∧ e + d - 1 ≤ 10000) := fun d hd => by unfold inR; rw [hd]
    obtain ⟨d, hd⟩ : ∃ d, d = dl m := ⟨_, rfl⟩
    have hin := hR d hd
    rw [← hd] at hl hpos ⊢
    have HIN := Lib.hid hin
    have hHD := fun W => Head_any s a d c e W (by omega) he he2
    have HHD := Lib.hid hHD
    clear hR hd hin hp h0 hHD
    by_cases h1 : d ≤ 400
    · by_cases h2 : -10000 ≤ e + d - 1
      · have hr : inR ⟨s, m, e⟩ = decide (e + d - 1 ≤ 10000) := by rw [HIN.out]; simp [h1, h2]
        have HRR := Lib.hid hr
        clear hr
        go_enter Tryz.func74, Tryz.ntmps74
        go_wp2_with fail
        refine (HHD.out _).mono ?_
        rintro r w1 ⟨rfl, hb⟩
        have bb := ((Below.refl w.heap.size w).alloc (Nat.le_refl _) (.cells #[.bool s, .slice a d c, .int .i64 e] 53)).trans (hb.mono (by simp))
        obtain ⟨hc, hf⟩ := bcell hb
        clear hb
        go_wp2
        go_ret
        exact ⟨ret_bool HRR.out.symm, bb⟩
      · have hr : inR ⟨s, m, e⟩ = false := by rw [HIN.out]; simp [h2]
        have HRR := Lib.hid hr
        clear hr
        go_enter Tryz.func74, Tryz.ntmps74
        go_wp2_with fail
        refine (HHD.out _).mono ?_
        rintro r w1 ⟨rfl, hb⟩
        have bb := ((Below.refl w.heap.size w).alloc (Nat.le_refl _) (.cells #[.bool s, .slice a d c, .int .i64 e] 53)).trans (hb.mono (by simp))
        obtain ⟨hc, hf⟩ := bcell hb
        clear hb
        go_wp2
        go_ret
        exact ⟨ret_bool HRR.out.symm, bb⟩
    · have hr : inR ⟨s, m, e⟩ = false := by rw [HIN.out]; simp [h1]
      have HRR := Lib.hid hr
      clear hr
      go_enter Tryz.func74, Tryz.ntmps74
      go_wp2_with fail
      refine (HHD.out _).mono ?_
      rintro r w1 ⟨rfl, hb⟩
      have bb := ((Below.refl w.heap.size w).alloc (Nat.le_refl _) (.cells #[.bool s, .slice a d c, .int .i64 e] 53)).trans (hb.mono (by simp))
      obtain ⟨hc, hf⟩ := bcell hb
      clear hb
      go_wp2
      go_ret
      exact ⟨ret_bool HRR.out.symm, bb⟩
end Go.Proofs.YtimfpgpomafflaaGreatDoor
