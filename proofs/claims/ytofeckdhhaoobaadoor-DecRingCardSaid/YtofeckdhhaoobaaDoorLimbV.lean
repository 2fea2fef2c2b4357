/- Walks: the document's answer: From, To; of, to. -/
import Derived.Test.YtofeckdhhaoobaaDoorLimbU
namespace Go.Proofs.YtofeckdhhaoobaaDoor
open Go.RowKit LM

theorem shift_vl {x y : List Nat} {n : Nat} (h : y = [] ∧ x = [] ∨ y = List.replicate n 0 ++ x) (hx : Lo 10 x) : vl 10 y = 10 ^ n * vl 10 x ∧ Lo 10 y ∧ y.length ≤ n + x.length := by
  rcases h with ⟨rfl, rfl⟩ | rfl
  · exact ⟨by rw [vl_nil, Nat.mul_zero], Lo_nil _, by simp⟩
  · exact ⟨vl10_shift, Lo_append (Lo_zeros (by omega)) hx, by simp⟩
theorem dg10_le {l : List Nat} (hlo : Lo 4294967296 l) (k : Nat) : (dg 10 (vl 1000000000 (l.take k))).length ≤ 9 * (k + 1) := by
  refine dg_len_of_lt (by omega) ?_
  have h1 := vl_bound (l := l.take k) (fun z hz => hlo z (List.mem_of_mem_take hz))
  rw [show (1000000000 : Nat) = 10 ^ 9 by decide, ← Nat.pow_mul] at h1
  refine Nat.lt_of_lt_of_le (by rw [show (1000000000 : Nat) = 10 ^ 9 by decide]; exact h1) (Nat.pow_le_pow_right (by omega) ?_)
  have : (l.take k).length ≤ k := by rw [List.length_take]; exact Nat.min_le_left _ _
  omega

set_option maxHeartbeats 4000000 in
/-- From: the digits of a list's worth -/
theorem From_any (a : Option Addr) (ca : Nat) (l : List Nat) (w : World) (hl : l.length ≤ 1048576) (hlo : Lo 4294967296 l) (hrd : Rd w .u32 a l) :
    Calls Tryd.prog 68 #[.slice a l.length ca] w fun e w' => ∃ a' cap', e = .returned (.slice a' (dg 10 (vl 1000000000 l)).length cap') ∧ Own w' w.heap.size 5 .u8 a' cap' (dg 10 (vl 1000000000 l)) ∧ Below w.heap.size w w' := by
  have HLO := Lib.hid hlo
  clear hlo
  go_enter Tryd.func68, Tryd.ntmps68
  go_wp2
  go_loopw [3, 4] (fun v3 i wr => ∃ (k q cap : Nat) (ao : Option Addr), k ≤ l.length ∧ i = .int .i64 k ∧ v3 = .slice ao q cap ∧ Hid (q = (dg 10 (vl 1000000000 (l.take k))).length) ∧
      Own wr w.heap.size 5 .u8 ao cap (dg 10 (vl 1000000000 (l.take k))) ∧ Below w.heap.size w wr) (fun _ i _ => l.length - (intOf i).toNat)
  case atStart => exact ⟨0, 0, 0, none, Nat.zero_le _, rfl, rfl, Lib.hid (by rw [List.take_zero, vl_nil, dg_zero]; rfl), by rw [List.take_zero, vl_nil, dg_zero]; exact Own.nilNone _ _ _ _, Below.refl _ _⟩
  case round =>
    obtain ⟨k, q, cap, ao, hk, rfl, rfl, HQ, hown, hbl⟩ := hrel
    by_cases hlt : k < l.length
    · obtain ⟨b, off, x, e1, HX, hx, hc⟩ := (hrd.below hbl).get HLO.out k hlt
      subst e1
      have hS := Small_any x wr (by omega)
      have HS := Lib.hid hS
      clear hS
      go_wp2_with fail
      refine HS.out.mono ?_
      rintro e w1 ⟨a1, c1, rfl, hown1, hb1⟩
      have hR := RShift_any a1 c1 (9 * k) wr.heap.size _ (dg 10 x) w1 (Nat.le_trans (dg_len_of_lt (k := 10) (by omega) (by rw [show (10 : Nat) ^ 10 = 10000000000 by decide]; omega)) (by omega)) (by omega) hown1
      rw [Int.natCast_mul] at hR
      have HR := Lib.hid hR
      have hown0 := hown.below hb1
      have hbl1 := hbl.trans (hb1.mono hbl.size)
      clear hR HS hown hown1 hb1 hbl
      go_wp2_with fail
      refine HR.out.mono ?_
      rintro e w2 ⟨a2, c2, y, rfl, hy, hown2, hb2⟩
      obtain ⟨hyv, hylo, hyl⟩ := shift_vl hy (Lo_dg (by omega) x)
      rw [vl_dg (by omega)] at hyv
      have hown3 := hown0.below hb2
      have hbl2 := hbl1.trans (hb2.mono hbl1.size)
      have hxl : (dg 10 x).length ≤ 10 := dg_len_of_lt (k := 10) (by omega) (by rw [show (10 : Nat) ^ 10 = 10000000000 by decide]; omega)
      have hA := RAdd_any ao a2 cap c2 (dg 10 (vl 1000000000 (l.take k))) y w2 (Nat.le_trans (dg10_le HLO.out k) (by omega)) (by omega) (Lo_dg (by omega) _) hylo hown3.rd hown2.rd
      rw [← HQ.out, vl_dg (by omega), hyv, HX.out, ← from_step hlt] at hA
      have HA := Lib.hid hA
      clear hA HR hown0 hown2 hb2 hbl1 hy hyv hylo hyl hxl hown3
      go_wp2_with fail
      refine HA.out.mono ?_
      rintro e w3 ⟨a3, c3, rfl, hown4, hb4⟩
      have hown5 := hown4.mono hbl2.size
      have hbl3 := hbl2.trans (hb4.mono hbl2.size)
      clear hown4 hb4 hbl2 HA
      go_wp2
      go_roundw
      case rel => exact ⟨k + 1, _, c3, a3, by omega, by go_num, rfl, rfl, hown5, hbl3⟩
      case measure => simp [intOf]; omega
    · obtain rfl : k = l.length := by omega
      rw [List.take_length] at hown
      have hq := HQ.out
      rw [List.take_length] at hq
      have HQ2 := Lib.hid hq
      clear hq
      go_wp2
      go_ret
      exact ⟨ao, cap, ret_slice HQ2.out, hown, hbl⟩

theorem nine_end {x : List Nat} {j : Nat} (h : x.length ≤ 9 * j) : vl 10 (x.drop (9 * j)) = 0 := by rw [List.drop_eq_nil_of_le h, vl_nil]

set_option maxHeartbeats 8000000 in
/-- To: the plain list of a number -/
theorem To_any (a : Option Addr) (ca v : Nat) (w : World) (hl : (dg 10 v).length ≤ 140737488355300) (hrd : Rd w .u8 a (dg 10 v)) :
    Calls Tryd.prog 70 #[.slice a (dg 10 v).length ca] w fun e w' => ∃ a' cap', e = .returned (.slice a' (dg 1000000000 v).length cap') ∧ Own w' w.heap.size 50 .u32 a' cap' (dg 1000000000 v) ∧ Below w.heap.size w w' := by
  have hlo := Lo_dg (b := 10) (by omega) v
  have hv := vl_dg (b := 10) (by omega) v
  have hend := fun L => @to_end v L
  have HLO := Lib.hid hlo; have HV := Lib.hid hv; have HEND := Lib.hid hend
  clear hlo hv hend
  generalize dg 10 v = x at *
  go_enter Tryd.func70, Tryd.ntmps70
  go_wp2
  go_loopw [3, 4] (fun v3 i wr => ∃ (j q cap : Nat) (ao : Option Addr) (L : List Nat), 9 * j < x.length + 9 ∧ i = .int .i64 (9 * (j : Int)) ∧ v3 = .slice ao q cap ∧ Hid (q = L.length) ∧ Hid (L.length = j) ∧ Hid (Lo 1000000000 L) ∧
      Hid (vl 10 x = vl 1000000000 L + 1000000000 ^ j * vl 10 (x.drop (9 * j))) ∧ Own wr w.heap.size 50 .u32 ao cap L ∧ Below w.heap.size w wr) (fun _ i _ => x.length + 9 - (intOf i).toNat)
  case atStart => exact ⟨0, 0, 0, none, [], by omega, by simp, rfl, rfl, rfl, Lo_nil _, Lib.hid (by rw [Nat.mul_zero, List.drop_zero, vl_nil, Nat.pow_zero, Nat.one_mul, Nat.zero_add]), Own.nilNone _ _ _ _, Below.refl _ _⟩
  case round =>
    obtain ⟨j, q, cap, ao, L, hj, rfl, rfl, HQ, HLL, HLo, HW, hown, hbl⟩ := hrel
    by_cases hlt : 9 * j < x.length
    · have HOWN := Lib.hid hown
      have hltI : 9 * (j : Int) < (x.length : Int) := by omega
      have hltB : decide (9 * (j : Int) < (x.length : Int)) = true := by simpa using hltI
      clear hown
      go_wp2_with fail
      go_loop [5, 6] (fun v5 i => ∃ (k m : Nat), k ≤ 9 ∧ i = .int .i64 ((k : Int) - 1) ∧ v5 = .int .u32 m ∧ Hid (m = vl 10 ((x.drop (9 * j + k)).take (9 - k)))) (fun _ i => ((intOf i) + 1).toNat)
      case atStart => exact ⟨9, 0, by omega, rfl, rfl, Lib.hid (by simp [vl])⟩
      case round =>
        obtain ⟨k, m, hk, rfl, rfl, HM⟩ := hrel
        rcases Nat.eq_zero_or_pos k with h0 | h0
        · have hk0 : k ≤ 0 := by omega
          have hM := HM.out
          rw [h0, Nat.add_zero, Nat.sub_zero] at hM
          have hm9 : m < 1000000000 := by
            have := piece_lt HLO.out (9 * j) 9
            rw [show (10 : Nat) ^ 9 = 1000000000 by decide] at this
            omega
          have HM9 := Lib.hid hM
          have hb1 : (L.length + 1) * 4 ≤ 140737488355328 := by rw [HLL.out]; omega
          have hb2 : L.length + 1 ≤ maxLen := by rw [HLL.out]; unfold maxLen; omega
          have HB1 := Lib.hid hb1; have HB2 := Lib.hid hb2
          clear hM h0 hb1 hb2
          go_wp2_with (at_builtin; refine wp_push wr rfl _ _ 22 rfl w.heap.size 50 .u32 4 Tryd.underlying22 infoU32 ao cap q L HQ.out rfl _ m rfl _ rfl HOWN.out HB1.out HB2.out (hbl.size) ?_)
          intro ao' cap' w2 hown2 hb2
          have hbl2 := hbl.trans hb2
          clear hb2
          go_wp2
          go_roundw
          case rel => exact ⟨j + 1, q + 1, cap', ao', L ++ [m], by omega, by go_num, rfl, Lib.hid (by rw [HQ.out]; simp), Lib.hid (by rw [List.length_append, HLL.out]; rfl), Lib.hid (Lo_append HLo.out (Lo_one hm9)), Lib.hid (by rw [HM9.out]; exact to_step HLL.out HW.out), hown2, hbl2⟩
          case measure => simp [intOf]; omega
        · obtain ⟨k', rfl⟩ : ∃ k', k = k' + 1 := ⟨k - 1, by omega⟩
          have hD := digit_any a ca (9 * j + k') x wr (by omega) (by omega) HLO.out (hrd.below hbl)
          have eI : ((9 * j + k' : Nat) : Int) = 9 * (j : Int) + (k' : Int) := by omega
          rw [eI] at hD
          have HD := Lib.hid hD
          clear hD eI
          have hm8 : m < 100000000 := by
            have h1 := piece_lt HLO.out (9 * j + (k' + 1)) (9 - (k' + 1))
            have h2 : 10 ^ (9 - (k' + 1)) ≤ 10 ^ 8 := Nat.pow_le_pow_right (by omega) (by omega)
            rw [show (10 : Nat) ^ 8 = 100000000 by decide] at h2
            have := HM.out
            omega
          go_wp2_with fail
          refine HD.out.mono ?_
          rintro e w1 ⟨z, HZ, hz, rfl, rfl⟩
          have HM2 : Hid (10 * m + z = vl 10 ((x.drop (9 * j + k')).take (9 - k'))) := by
            have h1 := piece_step (x := x) (i := 9 * j) (k := k') (by omega)
            have h2 := HM.out
            rw [show 9 * j + (k' + 1) = 9 * j + k' + 1 by omega, show 9 - (k' + 1) = 8 - k' by omega] at h2
            rw [← HZ.out, ← h2] at h1
            exact (by omega : 10 * m + z = vl 10 ((x.drop (9 * j + k')).take (9 - k')))
          go_wp2
          go_round
          case rel => exact ⟨k', 10 * m + z, by omega, by go_num, by go_num, HM2⟩
          case measure => simp [intOf]
    · have hd := nine_end (x := x) (j := j) (by omega)
      have hW := HW.out
      rw [hd, Nat.mul_zero, Nat.add_zero, HV.out] at hW
      have hL := HEND.out L HLo.out hW.symm (by rw [HLL.out]; exact hj) (by rw [HLL.out]; omega)
      have hq := HQ.out
      rw [hL] at hq hown
      have HQ2 := Lib.hid hq
      clear hq hL hW hd
      go_wp2
      go_ret
      exact ⟨ao, cap, ret_slice HQ2.out, hown, hbl⟩
end Go.Proofs.YtofeckdhhaoobaaDoor
