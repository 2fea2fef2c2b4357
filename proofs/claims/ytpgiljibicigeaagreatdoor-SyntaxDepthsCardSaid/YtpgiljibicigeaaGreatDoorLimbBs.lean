/- Walks: great, same, Norm. -/
import Derived.Test.YtpgiljibicigeaaGreatDoorLimbKits
import Derived.Test.YtpgiljibicigeaaGreatDoorLimbMaths
import Derived.BigQuiet
import Derived.Deep.QuietTactic
set_option linter.unusedVariables false
set_option linter.unusedSimpArgs false
namespace Go.Proofs.YtpgiljibicigeaaGreatDoor
open Go.RowKit LM

theorem infoU32 : (Tryz.prog.info? 141).map (fun i => (i.zero, i.size, i.bytes)) = some (some (.int .u32 0), 1, 4) := by kernel_rfl
theorem infoU8L : (Tryz.prog.info? 5).map (fun i => (i.zero, i.size, i.bytes)) = some (some (.int .u8 0), 1, 1) := by kernel_rfl
set_option maxHeartbeats 1000000 in
/-- Norm: the plain list of the worth -/
theorem Norm_any (a : Option Addr) (cap : Nat) (l : List Nat) (w : World) (hl : l.length ≤ 35184372088832) (hlo : Lo 4294967296 l) (hrd : Rd w .u32 a l) :
    Calls Tryz.prog 142 #[.slice a l.length cap] w fun e w' => ∃ a' cap', e = .returned (.slice a' (dg 1000000000 (vl 1000000000 l)).length cap') ∧ Own w' w.heap.size 141 .u32 a' cap' (dg 1000000000 (vl 1000000000 l)) ∧ Below w.heap.size w w' := by
  go_enter Tryz.func142, Tryz.ntmps142
  go_wp2_with (at_make; refine wp_make0 _ rfl _ _ 125 rfl w.heap.size 141 .u32 4 Tryz.underlying125 infoU32 _ _ _ (l.length + 1) rfl rfl (by omega) (by omega) (by unfold maxLen; omega) (Nat.le_refl _) ?_)
  intro w1 hown1 hb1
  go_wp2
  go_loopw [3, 4, 13] (fun v3 v4 i wr => ∃ k c : Nat, k ≤ l.length ∧ i = .int .i64 k ∧ Hid (c = ncar l k) ∧ c ≤ 4 ∧ v4 = .int .u64 c ∧ v3 = .slice (some ⟨w.heap.size, 0, none⟩) k (l.length + 1) ∧
     Own wr w.heap.size 141 .u32 (some ⟨w.heap.size, 0, none⟩) (l.length + 1) (nlow l k) ∧ Below w.heap.size w wr) (fun _ _ i _ => l.length - (intOf i).toNat)
  case atStart => exact ⟨0, 0, Nat.zero_le _, rfl, rfl, by omega, rfl, rfl, hown1, hb1⟩
  case round =>
    obtain ⟨k, c, hk, rfl, HC, hc4, rfl, rfl, hown, hbl⟩ := hrel
    by_cases hlt : k < l.length
    · obtain ⟨b, off, x, e1, HX, hx, c1⟩ := (hrd.below hbl).get hlo k hlt
      subst e1
      go_wp2_with (at_builtin; refine wp_pushFits wr rfl _ _ 125 rfl w.heap.size 141 .u32 4 Tryz.underlying125 infoU32 w.heap.size (l.length + 1) k (nlow l k) (by rw [nlow_length]) rfl _ ((x + c) % 1000000000) (by omega) _ rfl hown (by rw [nlow_length]; omega) (hbl.size) ?_)
      intro w2 hown2 hb2
      have hbl2 := hbl.trans hb2
      clear hown hbl hown1 hb1 hb2
      go_wp2
      go_roundw
      case rel => exact ⟨k + 1, (x + c) / 1000000000, by omega, by go_num, by show (x + c) / 1000000000 = ncar l (k + 1); rw [ncar, ← HX.out, ← HC.out], by omega, by go_num, rfl, by rw [nlow, ← HX.out, ← HC.out]; exact hown2, hbl2⟩
      case measure => simp [intOf]; omega
    · obtain rfl : k = l.length := by omega
      go_wp2_with (at_builtin; refine wp_pushFits wr rfl _ _ 125 rfl w.heap.size 141 .u32 4 Tryz.underlying125 infoU32 w.heap.size (l.length + 1) l.length (nlow l l.length) (by rw [nlow_length]) rfl _ c rfl _ rfl hown (by rw [nlow_length]; omega) (hbl.size) ?_)
      intro w2 hown2 hb2
      have hbl2 := hbl.trans hb2
      have hrd2 := hown2.rd
      have hlen2 : (nlow l l.length ++ [c]).length = l.length + 1 := by rw [List.length_append, nlow_length]; rfl
      have ht := trim_any (some ⟨w.heap.size, 0, none⟩) (l.length + 1) _ w2 (by rw [hlen2]; omega) hrd2 (by rw [hlen2]; omega)
      rw [hlen2] at ht
      have htr : tr (nlow l l.length ++ [c]) = dg 1000000000 (vl 1000000000 l) := by rw [HC.out]; exact norm_eq hlo
      rw [htr] at ht
      have ht2 := tr_take (nlow l l.length ++ [c])
      rw [htr] at ht2
      have hle : (dg 1000000000 (vl 1000000000 l)).length ≤ (nlow l l.length ++ [c]).length := by rw [ht2]; simp; omega
      have hown3 := hown2.take _ hle
      rw [← ht2] at hown3
      have HT := Lib.hid ht
      clear ht ht2 htr hle hlen2 hrd2 hown2 hown hb2 hown1 hb1
      go_wp2_with (go_at_call 133; refine HT.out.mono ?_; rintro e w' ⟨rfl, rfl⟩)
      go_ret
      exact ⟨_, _, rfl, hown3, hbl2⟩

theorem pow10_le {k : Nat} (h : k ≤ 8) : 10 ^ k ≤ 100000000 := Nat.le_trans (Nat.pow_le_pow_right (by omega) h) (by decide)

set_option maxHeartbeats 400000 in
theorem tenTo_any (n : Nat) (w : World) (hn : n ≤ 8) :
    Calls Tryz.prog 143 #[.int .i64 n] w fun e w' => ∃ q : Nat, Hid (q = 10 ^ n) ∧ q ≤ 100000000 ∧ e = .returned (.int .u32 q) ∧ w = w' := by
  go_enter Tryz.func143, Tryz.ntmps143
  go_wp2
  go_loop [3, 5] (fun p i => ∃ k q : Nat, k ≤ n ∧ i = .int .i64 k ∧ p = .int .u32 q ∧ Hid (q = 10 ^ k) ∧ q ≤ 100000000) (fun _ i => n - (intOf i).toNat)
  case atStart => exact ⟨0, 1, Nat.zero_le _, rfl, rfl, (rfl : 1 = 10 ^ 0), by omega⟩
  case round =>
    obtain ⟨k, q, hk, rfl, rfl, HQ, hq⟩ := hrel
    by_cases hlt : k < n
    · have h10 : q * 10 ≤ 100000000 := by rw [HQ.out, ← Nat.pow_succ]; exact pow10_le (by omega)
      go_wp2
      go_round
      case rel => exact ⟨k + 1, q * 10, by omega, by go_num, by go_num, (by rw [HQ.out, Nat.pow_succ] : q * 10 = 10 ^ (k + 1)), h10⟩
      case measure => simp [intOf]; omega
    · obtain rfl : k = n := by omega
      go_wp2
      go_ret
      exact ⟨q, HQ, hq, rfl, rfl⟩

set_option maxHeartbeats 400000 in
theorem mayShift_yes (n : Nat) (w : World) (h : n ≤ 30000) :
    Calls Tryz.prog 141 #[.int .i64 n] w fun e w' => e = .returned (.bool true) ∧ w = w' := by
  go_enter Tryz.func141, Tryz.ntmps141
  go_wp2
  go_ret
  exact ⟨ret_bool (by simp; omega), rfl⟩
end Go.Proofs.YtpgiljibicigeaaGreatDoor

/- Walks: cmp.Compare, Cmp, takeOff. -/
namespace Go.Proofs.YtpgiljibicigeaaGreatDoor
open Go.RowKit LM

theorem vl_bound {l : List Nat} (h : Lo 4294967296 l) : vl 1000000000 l < 1000000000 ^ (l.length + 1) := by
  have h1 := nlow_worth l l.length (Nat.le_refl _)
  rw [List.take_length] at h1
  have h2 := vl_lt (Lo_nlow l l.length)
  rw [nlow_length] at h2
  have h3 := ncar_le h l.length
  have h4 : 1000000000 ^ l.length * ncar l l.length ≤ 1000000000 ^ l.length * 4 := Nat.mul_le_mul_left _ h3
  rw [Nat.pow_succ]
  omega
theorem nlen {l : List Nat} (h : Lo 4294967296 l) : (dg 1000000000 (vl 1000000000 l)).length ≤ l.length + 1 := dg_len_of_lt (by omega) (vl_bound h)

end Go.Proofs.YtpgiljibicigeaaGreatDoor

/- Walks: takeOff. -/
namespace Go.Proofs.YtpgiljibicigeaaGreatDoor
open Go.RowKit LM

end Go.Proofs.YtpgiljibicigeaaGreatDoor

/- Walks: Sub, Add. -/
namespace Go.Proofs.YtpgiljibicigeaaGreatDoor
open Go.RowKit LM

end Go.Proofs.YtpgiljibicigeaaGreatDoor

/- Walks: Mul. -/
namespace Go.Proofs.YtpgiljibicigeaaGreatDoor
open Go.RowKit LM

end Go.Proofs.YtpgiljibicigeaaGreatDoor
