/- Walks: great, same, Norm. -/
import Derived.Test.YtofeckdhhaoobaaDoorLimbLaw
import Derived.Test.YtofeckdhhaoobaaDoorLimbA
namespace Go.Proofs.YtofeckdhhaoobaaDoor
open Go.RowKit LM

theorem infoU32 : (Tryd.prog.info? 50).map (fun i => (i.zero, i.size, i.bytes)) = some (some (.int .u32 0), 1, 4) := by kernel_rfl
theorem infoU8 : (Tryd.prog.info? 5).map (fun i => (i.zero, i.size, i.bytes)) = some (some (.int .u8 0), 1, 1) := by kernel_rfl
theorem infoInt : (Tryd.prog.info? 3).map (fun i => (i.zero, i.size, i.bytes)) = some (some (.int .i64 0), 1, 8) := by kernel_rfl

set_option maxHeartbeats 1000000 in
/-- Norm: the plain list of the worth -/
theorem Norm_any (a : Option Addr) (cap : Nat) (l : List Nat) (w : World) (hl : l.length ≤ 35184372088832) (hlo : Lo 4294967296 l) (hrd : Rd w .u32 a l) :
    Calls Tryd.prog 34 #[.slice a l.length cap] w fun e w' => ∃ a' cap', e = .returned (.slice a' (dg 1000000000 (vl 1000000000 l)).length cap') ∧ Own w' w.heap.size 50 .u32 a' cap' (dg 1000000000 (vl 1000000000 l)) ∧ Below w.heap.size w w' := by
  go_enter Tryd.func34, Tryd.ntmps34
  go_wp2_with (at_make; refine wp_make0 _ rfl _ _ 22 rfl w.heap.size 50 .u32 4 Tryd.underlying22 infoU32 _ _ _ (l.length + 1) rfl rfl (by omega) (by omega) (by unfold maxLen; omega) (Nat.le_refl _) ?_)
  intro w1 hown1 hb1
  go_wp2
  go_loopw [3, 4, 13] (fun v3 v4 i wr => ∃ k c : Nat, k ≤ l.length ∧ i = .int .i64 k ∧ Hid (c = ncar l k) ∧ c ≤ 4 ∧ v4 = .int .u64 c ∧ v3 = .slice (some ⟨w.heap.size, 0, none⟩) k (l.length + 1) ∧
     Own wr w.heap.size 50 .u32 (some ⟨w.heap.size, 0, none⟩) (l.length + 1) (nlow l k) ∧ Below w.heap.size w wr) (fun _ _ i _ => l.length - (intOf i).toNat)
  case atStart => exact ⟨0, 0, Nat.zero_le _, rfl, rfl, by omega, rfl, rfl, hown1, hb1⟩
  case round =>
    obtain ⟨k, c, hk, rfl, HC, hc4, rfl, rfl, hown, hbl⟩ := hrel
    by_cases hlt : k < l.length
    · obtain ⟨b, off, x, e1, HX, hx, c1⟩ := (hrd.below hbl).get hlo k hlt
      subst e1
      go_wp2_with (at_builtin; refine wp_pushFits wr rfl _ _ 22 rfl w.heap.size 50 .u32 4 Tryd.underlying22 infoU32 w.heap.size (l.length + 1) k (nlow l k) (by rw [nlow_length]) rfl _ ((x + c) % 1000000000) (by omega) _ rfl hown (by rw [nlow_length]; omega) (hbl.size) ?_)
      intro w2 hown2 hb2
      have hbl2 := hbl.trans hb2
      clear hown hbl hown1 hb1 hb2
      go_wp2
      go_roundw
      case rel => exact ⟨k + 1, (x + c) / 1000000000, by omega, by go_num, by show (x + c) / 1000000000 = ncar l (k + 1); rw [ncar, ← HX.out, ← HC.out], by omega, by go_num, rfl, by rw [nlow, ← HX.out, ← HC.out]; exact hown2, hbl2⟩
      case measure => simp [intOf]; omega
    · obtain rfl : k = l.length := by omega
      go_wp2_with (at_builtin; refine wp_pushFits wr rfl _ _ 22 rfl w.heap.size 50 .u32 4 Tryd.underlying22 infoU32 w.heap.size (l.length + 1) l.length (nlow l l.length) (by rw [nlow_length]) rfl _ c rfl _ rfl hown (by rw [nlow_length]; omega) (hbl.size) ?_)
      intro w2 hown2 hb2
      have hbl2 := hbl.trans hb2
      have hrd2 := hown2.rd
      have hlen2 : (nlow l l.length ++ [c]).length = l.length + 1 := by rw [List.length_append, nlow_length]; rfl
      have ht := trim_any (some ⟨w.heap.size, 0, none⟩) (l.length + 1) _ w2 (by rw [hlen2]; omega) hrd2 (by rw [hlen2]; omega)
      rw [hlen2] at ht
      have htr : tr (nlow l l.length ++ [c]) = dg 1000000000 (vl 1000000000 l) := by rw [HC.out]; exact norm_eq hlo
      rw [htr] at ht
      have ht2 := tr_take (nlow l l.length ++ [c])
      rw [htr] at ht2
      have hle : (dg 1000000000 (vl 1000000000 l)).length ≤ (nlow l l.length ++ [c]).length := by rw [ht2]; simp; omega
      have hown3 := hown2.take _ hle
      rw [← ht2] at hown3
      have HT := Lib.hid ht
      clear ht ht2 htr hle hlen2 hrd2 hown2 hown hb2 hown1 hb1
      go_wp2_with (go_at_call 67; refine HT.out.mono ?_; rintro e w' ⟨rfl, rfl⟩)
      go_ret
      exact ⟨_, _, rfl, hown3, hbl2⟩

theorem dg_more {b : Nat} (hb : 2 ≤ b) {n r : Nat} {d : List Nat} (hr : 0 < r) (h : dg b n = d ++ dg b r) : dg b n = d ++ [r % b] ++ dg b (r / b) := by
  rw [h, dg_pos hb hr]; simp
theorem pow_more {b : Nat} {n r k : Nat} (h : r * b ^ k ≤ n) : r / b * b ^ (k + 1) ≤ n := by
  refine Nat.le_trans ?_ h
  rw [Nat.pow_succ, Nat.mul_comm (b ^ k) b, ← Nat.mul_assoc]
  exact Nat.mul_le_mul_right _ (Nat.div_mul_le_self r b)
theorem len_64 {b : Nat} (hb : 2 ≤ b) {n r k : Nat} (hr : 0 < r) (hn : n < 18446744073709551616) (h : r * b ^ k ≤ n) : k < 64 := by
  rcases Nat.lt_or_ge k 64 with h1 | h1
  · exact h1
  · exfalso
    have h2 : 2 ^ 64 ≤ b ^ k := Nat.le_trans (Nat.pow_le_pow_left hb 64) (Nat.pow_le_pow_right (by omega) h1)
    have h3 : b ^ k ≤ r * b ^ k := Nat.le_mul_of_pos_left _ hr
    have : (2 : Nat) ^ 64 = 18446744073709551616 := by decide
    omega

set_option maxHeartbeats 1000000 in
/-- Of: the plain list of a number -/
theorem Of_any (n : Nat) (w : World) (hn : n < 18446744073709551616) :
    Calls Tryd.prog 40 #[.int .u64 n] w fun e w' => ∃ a' cap', e = .returned (.slice a' (dg 1000000000 n).length cap') ∧ Own w' w.heap.size 50 .u32 a' cap' (dg 1000000000 n) ∧ Below w.heap.size w w' := by
  go_enter Tryd.func40, Tryd.ntmps40
  go_wp2
  go_loopw [3, 4] (fun v3 v4 wr => ∃ (r m cap : Nat) (ao : Option Addr) (d : List Nat), v3 = .slice ao m cap ∧ v4 = .int .u64 r ∧ Hid (dg 1000000000 n = d ++ dg 1000000000 r) ∧ Hid (r * 1000000000 ^ m ≤ n) ∧ Hid (m = d.length) ∧ r ≤ 18446744073709551615 ∧
     Own wr w.heap.size 50 .u32 ao cap d ∧ Below w.heap.size w wr) (fun _ r _ => (intOf r).toNat)
  case atStart => exact ⟨n, 0, 0, none, [], rfl, rfl, (rfl : dg 1000000000 n = [] ++ dg 1000000000 n), (by simp : n * 1000000000 ^ 0 ≤ n), (rfl : (0:Nat) = [].length), by omega, Own.nilNone _ _ _ _, Below.refl _ _⟩
  case round =>
    obtain ⟨r, m, cap, ao, d, rfl, rfl, HD, HP, HM, hr, hown, hbl⟩ := hrel
    rcases Nat.eq_zero_or_pos r with h0 | h0
    · subst h0
      have e := HD.out
      rw [dg_zero, List.append_nil] at e
      have hm := HM.out
      have hown' : Own wr w.heap.size 50 .u32 ao cap (dg 1000000000 n) := by rw [e]; exact hown
      have hm' : m = (dg 1000000000 n).length := by rw [e]; exact hm
      have H := Lib.hid hm'
      clear e hm hm'
      go_wp2
      go_ret
      exact ⟨ao, cap, ret_slice H.out, hown', hbl⟩
    · have hm64 := len_64 (by omega) h0 hn HP.out
      have hl := HM.out
      have hd1 : (d.length + 1) * 4 ≤ 140737488355328 := by omega
      have hd2 : d.length + 1 ≤ maxLen := by unfold maxLen; omega
      have HL := Lib.hid hl; clear hl
      go_wp2_with (at_builtin; refine wp_push wr rfl _ _ 22 rfl w.heap.size 50 .u32 4 Tryd.underlying22 infoU32 ao cap m d HL.out rfl _ (r % 1000000000) (by omega) _ rfl hown hd1 hd2 (hbl.size) ?_)
      intro ao' cap' w2 hown2 hb2
      have hbl2 := hbl.trans hb2
      clear hown hbl hb2
      go_wp2
      go_roundw
      case rel => exact ⟨r / 1000000000, m + 1, cap', ao', d ++ [r % 1000000000], rfl, by go_num, dg_more (by omega) h0 HD.out, pow_more HP.out, (by rw [HL.out]; simp : m + 1 = (d ++ [r % 1000000000]).length), by omega, hown2, hbl2⟩
      case measure => simp [intOf]; omega

set_option maxHeartbeats 1000000 in
/-- Small: the digits of a number -/
theorem Small_any (n : Nat) (w : World) (hn : n < 18446744073709551616) :
    Calls Tryd.prog 41 #[.int .u64 n] w fun e w' => ∃ a' cap', e = .returned (.slice a' (dg 10 n).length cap') ∧ Own w' w.heap.size 5 .u8 a' cap' (dg 10 n) ∧ Below w.heap.size w w' := by
  go_enter Tryd.func41, Tryd.ntmps41
  go_wp2
  go_loopw [3, 0] (fun v3 v4 wr => ∃ (r m cap : Nat) (ao : Option Addr) (d : List Nat), v3 = .slice ao m cap ∧ v4 = .int .u64 r ∧ Hid (dg 10 n = d ++ dg 10 r) ∧ Hid (r * 10 ^ m ≤ n) ∧ Hid (m = d.length) ∧ r ≤ 18446744073709551615 ∧
     Own wr w.heap.size 5 .u8 ao cap d ∧ Below w.heap.size w wr) (fun _ r _ => (intOf r).toNat)
  case atStart => exact ⟨n, 0, 0, none, [], rfl, rfl, (rfl : dg 10 n = [] ++ dg 10 n), (by simp : n * 10 ^ 0 ≤ n), (rfl : (0:Nat) = [].length), by omega, Own.nilNone _ _ _ _, Below.refl _ _⟩
  case round =>
    obtain ⟨r, m, cap, ao, d, rfl, rfl, HD, HP, HM, hr, hown, hbl⟩ := hrel
    rcases Nat.eq_zero_or_pos r with h0 | h0
    · subst h0
      have e := HD.out
      rw [dg_zero, List.append_nil] at e
      have hm := HM.out
      have hown' : Own wr w.heap.size 5 .u8 ao cap (dg 10 n) := by rw [e]; exact hown
      have hm' : m = (dg 10 n).length := by rw [e]; exact hm
      have H := Lib.hid hm'
      clear e hm hm'
      go_wp2
      go_ret
      exact ⟨ao, cap, ret_slice H.out, hown', hbl⟩
    · have hm64 := len_64 (by omega) h0 hn HP.out
      have hl := HM.out
      have hd1 : (d.length + 1) * 1 ≤ 140737488355328 := by omega
      have hd2 : d.length + 1 ≤ maxLen := by unfold maxLen; omega
      have HL := Lib.hid hl; clear hl
      go_wp2_with (at_builtin; refine wp_push wr rfl _ _ 54 rfl w.heap.size 5 .u8 1 Tryd.underlying54 infoU8 ao cap m d HL.out rfl _ (r % 10) (by omega) _ rfl hown hd1 hd2 (hbl.size) ?_)
      intro ao' cap' w2 hown2 hb2
      have hbl2 := hbl.trans hb2
      clear hown hbl hb2
      go_wp2
      go_roundw
      case rel => exact ⟨r / 10, m + 1, cap', ao', d ++ [r % 10], rfl, by go_num, dg_more (by omega) h0 HD.out, pow_more HP.out, (by rw [HL.out]; simp : m + 1 = (d ++ [r % 10]).length), by omega, hown2, hbl2⟩
      case measure => simp [intOf]; omega

theorem pow10_le {k : Nat} (h : k ≤ 8) : 10 ^ k ≤ 100000000 := Nat.le_trans (Nat.pow_le_pow_right (by omega) h) (by decide)

set_option maxHeartbeats 400000 in
theorem tenTo_any (n : Nat) (w : World) (hn : n ≤ 8) :
    Calls Tryd.prog 97 #[.int .i64 n] w fun e w' => ∃ q : Nat, Hid (q = 10 ^ n) ∧ q ≤ 100000000 ∧ e = .returned (.int .u32 q) ∧ w = w' := by
  go_enter Tryd.func97, Tryd.ntmps97
  go_wp2
  go_loop [3, 5] (fun p i => ∃ k q : Nat, k ≤ n ∧ i = .int .i64 k ∧ p = .int .u32 q ∧ Hid (q = 10 ^ k) ∧ q ≤ 100000000) (fun _ i => n - (intOf i).toNat)
  case atStart => exact ⟨0, 1, Nat.zero_le _, rfl, rfl, (rfl : 1 = 10 ^ 0), by omega⟩
  case round =>
    obtain ⟨k, q, hk, rfl, rfl, HQ, hq⟩ := hrel
    by_cases hlt : k < n
    · have h10 : q * 10 ≤ 100000000 := by rw [HQ.out, ← Nat.pow_succ]; exact pow10_le (by omega)
      go_wp2
      go_round
      case rel => exact ⟨k + 1, q * 10, by omega, by go_num, by go_num, (by rw [HQ.out, Nat.pow_succ] : q * 10 = 10 ^ (k + 1)), h10⟩
      case measure => simp [intOf]; omega
    · obtain rfl : k = n := by omega
      go_wp2
      go_ret
      exact ⟨q, HQ, hq, rfl, rfl⟩

set_option maxHeartbeats 400000 in
theorem mayShift_yes (n : Nat) (w : World) (h : n ≤ 30000) :
    Calls Tryd.prog 96 #[.int .i64 n] w fun e w' => e = .returned (.bool true) ∧ w = w' := by
  go_enter Tryd.func96, Tryd.ntmps96
  go_wp2
  go_ret
  exact ⟨ret_bool (by simp; omega), rfl⟩
set_option maxHeartbeats 400000 in
theorem mayShift_no (n : Int) (w : World) (h : n < 0 ∨ 30000 < n) :
    Calls Tryd.prog 96 #[.int .i64 n] w fun e w' => e = .returned (.bool false) ∧ w = w' := by
  rcases h with h | h
  · go_enter Tryd.func96, Tryd.ntmps96
    go_wp2
    go_ret
    exact ⟨rfl, rfl⟩
  · have h2 : ¬ n < 0 := by omega
    have h3 : 0 ≤ n := by omega
    go_enter Tryd.func96, Tryd.ntmps96
    go_wp2
    go_ret
    exact ⟨ret_bool (by simp; omega), rfl⟩
end Go.Proofs.YtofeckdhhaoobaaDoor
