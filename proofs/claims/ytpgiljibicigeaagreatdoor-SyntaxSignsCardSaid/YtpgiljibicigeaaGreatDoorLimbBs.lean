/- Walks: great, same, Norm. -/
import Derived.Test.YtpgiljibicigeaaGreatDoorLimbKits
import Derived.Test.YtpgiljibicigeaaGreatDoorLimbMaths
import Derived.BigQuiet
import Derived.Deep.QuietTactic
set_option linter.unusedVariables false
set_option linter.unusedSimpArgs false
namespace Go.Proofs.YtpgiljibicigeaaGreatDoor
open Go.RowKit LM

theorem infoU32 : (Tryz.prog.info? 141).map (fun i => (i.zero, i.size, i.bytes)) = some (some (.int .u32 0), 1, 4) := by kernel_rfl
theorem infoU8L : (Tryz.prog.info? 5).map (fun i => (i.zero, i.size, i.bytes)) = some (some (.int .u8 0), 1, 1) := by kernel_rfl
theorem infoIntL : (Tryz.prog.info? 3).map (fun i => (i.zero, i.size, i.bytes)) = some (some (.int .i64 0), 1, 8) := by kernel_rfl

set_option maxHeartbeats 1000000 in
/-- Norm: the plain list of the worth -/
theorem Norm_any (a : Option Addr) (cap : Nat) (l : List Nat) (w : World) (hl : l.length ≤ 35184372088832) (hlo : Lo 4294967296 l) (hrd : Rd w .u32 a l) :
    Calls Tryz.prog 142 #[.slice a l.length cap] w fun e w' => ∃ a' cap', e = .returned (.slice a' (dg 1000000000 (vl 1000000000 l)).length cap') ∧ Own w' w.heap.size 141 .u32 a' cap' (dg 1000000000 (vl 1000000000 l)) ∧ Below w.heap.size w w' := by
  go_enter Tryz.func142, Tryz.ntmps142
  go_wp2_with (at_make; refine wp_make0 _ rfl _ _ 125 rfl w.heap.size 141 .u32 4 Tryz.underlying125 infoU32 _ _ _ (l.length + 1) rfl rfl (by omega) (by omega) (by unfold maxLen; omega) (Nat.le_refl _) ?_)
  intro w1 hown1 hb1
  go_wp2
  go_loopw [3, 4, 13] (fun v3 v4 i wr => ∃ k c : Nat, k ≤ l.length ∧ i = .int .i64 k ∧ Hid (c = ncar l k) ∧ c ≤ 4 ∧ v4 = .int .u64 c ∧ v3 = .slice (some ⟨w.heap.size, 0, none⟩) k (l.length + 1) ∧
     Own wr w.heap.size 141 .u32 (some ⟨w.heap.size, 0, none⟩) (l.length + 1) (nlow l k) ∧ Below w.heap.size w wr) (fun _ _ i _ => l.length - (intOf i).toNat)
  case atStart => exact ⟨0, 0, Nat.zero_le _, rfl, rfl, by omega, rfl, rfl, hown1, hb1⟩
  case round =>
    obtain ⟨k, c, hk, rfl, HC, hc4, rfl, rfl, hown, hbl⟩ := hrel
    by_cases hlt : k < l.length
    · obtain ⟨b, off, x, e1, HX, hx, c1⟩ := (hrd.below hbl).get hlo k hlt
      subst e1
      go_wp2_with (at_builtin; refine wp_pushFits wr rfl _ _ 125 rfl w.heap.size 141 .u32 4 Tryz.underlying125 infoU32 w.heap.size (l.length + 1) k (nlow l k) (by rw [nlow_length]) rfl _ ((x + c) % 1000000000) (by omega) _ rfl hown (by rw [nlow_length]; omega) (hbl.size) ?_)
      intro w2 hown2 hb2
      have hbl2 := hbl.trans hb2
      clear hown hbl hown1 hb1 hb2
      go_wp2
      go_roundw
      case rel => exact ⟨k + 1, (x + c) / 1000000000, by omega, by go_num, by show (x + c) / 1000000000 = ncar l (k + 1); rw [ncar, ← HX.out, ← HC.out], by omega, by go_num, rfl, by rw [nlow, ← HX.out, ← HC.out]; exact hown2, hbl2⟩
      case measure => simp [intOf]; omega
    · obtain rfl : k = l.length := by omega
      go_wp2_with (at_builtin; refine wp_pushFits wr rfl _ _ 125 rfl w.heap.size 141 .u32 4 Tryz.underlying125 infoU32 w.heap.size (l.length + 1) l.length (nlow l l.length) (by rw [nlow_length]) rfl _ c rfl _ rfl hown (by rw [nlow_length]; omega) (hbl.size) ?_)
      intro w2 hown2 hb2
      have hbl2 := hbl.trans hb2
      have hrd2 := hown2.rd
      have hlen2 : (nlow l l.length ++ [c]).length = l.length + 1 := by rw [List.length_append, nlow_length]; rfl
      have ht := trim_any (some ⟨w.heap.size, 0, none⟩) (l.length + 1) _ w2 (by rw [hlen2]; omega) hrd2 (by rw [hlen2]; omega)
      rw [hlen2] at ht
      have htr : tr (nlow l l.length ++ [c]) = dg 1000000000 (vl 1000000000 l) := by rw [HC.out]; exact norm_eq hlo
      rw [htr] at ht
      have ht2 := tr_take (nlow l l.length ++ [c])
      rw [htr] at ht2
      have hle : (dg 1000000000 (vl 1000000000 l)).length ≤ (nlow l l.length ++ [c]).length := by rw [ht2]; simp; omega
      have hown3 := hown2.take _ hle
      rw [← ht2] at hown3
      have HT := Lib.hid ht
      clear ht ht2 htr hle hlen2 hrd2 hown2 hown hb2 hown1 hb1
      go_wp2_with (go_at_call 133; refine HT.out.mono ?_; rintro e w' ⟨rfl, rfl⟩)
      go_ret
      exact ⟨_, _, rfl, hown3, hbl2⟩

theorem dg_more {b : Nat} (hb : 2 ≤ b) {n r : Nat} {d : List Nat} (hr : 0 < r) (h : dg b n = d ++ dg b r) : dg b n = d ++ [r % b] ++ dg b (r / b) := by
  rw [h, dg_pos hb hr]; simp
theorem pow_more {b : Nat} {n r k : Nat} (h : r * b ^ k ≤ n) : r / b * b ^ (k + 1) ≤ n := by
  refine Nat.le_trans ?_ h
  rw [Nat.pow_succ, Nat.mul_comm (b ^ k) b, ← Nat.mul_assoc]
  exact Nat.mul_le_mul_right _ (Nat.div_mul_le_self r b)
theorem len_64 {b : Nat} (hb : 2 ≤ b) {n r k : Nat} (hr : 0 < r) (hn : n < 18446744073709551616) (h : r * b ^ k ≤ n) : k < 64 := by
  rcases Nat.lt_or_ge k 64 with h1 | h1
  · exact h1
  · exfalso
    have h2 : 2 ^ 64 ≤ b ^ k := Nat.le_trans (Nat.pow_le_pow_left hb 64) (Nat.pow_le_pow_right (by omega) h1)
    have h3 : b ^ k ≤ r * b ^ k := Nat.le_mul_of_pos_left _ hr
    have : (2 : Nat) ^ 64 = 18446744073709551616 := by decide
    omega

theorem pow10_le {k : Nat} (h : k ≤ 8) : 10 ^ k ≤ 100000000 := Nat.le_trans (Nat.pow_le_pow_right (by omega) h) (by decide)

set_option maxHeartbeats 400000 in
theorem tenTo_any (n : Nat) (w : World) (hn : n ≤ 8) :
    Calls Tryz.prog 143 #[.int .i64 n] w fun e w' => ∃ q : Nat, Hid (q = 10 ^ n) ∧ q ≤ 100000000 ∧ e = .returned (.int .u32 q) ∧ w = w' := by
  go_enter Tryz.func143, Tryz.ntmps143
  go_wp2
  go_loop [3, 5] (fun p i => ∃ k q : Nat, k ≤ n ∧ i = .int .i64 k ∧ p = .int .u32 q ∧ Hid (q = 10 ^ k) ∧ q ≤ 100000000) (fun _ i => n - (intOf i).toNat)
  case atStart => exact ⟨0, 1, Nat.zero_le _, rfl, rfl, (rfl : 1 = 10 ^ 0), by omega⟩
  case round =>
    obtain ⟨k, q, hk, rfl, rfl, HQ, hq⟩ := hrel
    by_cases hlt : k < n
    · have h10 : q * 10 ≤ 100000000 := by rw [HQ.out, ← Nat.pow_succ]; exact pow10_le (by omega)
      go_wp2
      go_round
      case rel => exact ⟨k + 1, q * 10, by omega, by go_num, by go_num, (by rw [HQ.out, Nat.pow_succ] : q * 10 = 10 ^ (k + 1)), h10⟩
      case measure => simp [intOf]; omega
    · obtain rfl : k = n := by omega
      go_wp2
      go_ret
      exact ⟨q, HQ, hq, rfl, rfl⟩

set_option maxHeartbeats 400000 in
theorem mayShift_yes (n : Nat) (w : World) (h : n ≤ 30000) :
    Calls Tryz.prog 141 #[.int .i64 n] w fun e w' => e = .returned (.bool true) ∧ w = w' := by
  go_enter Tryz.func141, Tryz.ntmps141
  go_wp2
  go_ret
  exact ⟨ret_bool (by simp; omega), rfl⟩
set_option maxHeartbeats 400000 in
theorem mayShift_no (n : Int) (w : World) (h : n < 0 ∨ 30000 < n) :
    Calls Tryz.prog 141 #[.int .i64 n] w fun e w' => e = .returned (.bool false) ∧ w = w' := by
  rcases h with h | h
  · go_enter Tryz.func141, Tryz.ntmps141
    go_wp2
    go_ret
    exact ⟨rfl, rfl⟩
  · have h2 : ¬ n < 0 := by omega
    have h3 : 0 ≤ n := by omega
    go_enter Tryz.func141, Tryz.ntmps141
    go_wp2
    go_ret
    exact ⟨ret_bool (by simp; omega), rfl⟩
end Go.Proofs.YtpgiljibicigeaaGreatDoor

/- Walks: cmp.Compare, Cmp, takeOff. -/
namespace Go.Proofs.YtpgiljibicigeaaGreatDoor
open Go.RowKit LM

theorem cmp_part {x y : List Nat} {k u v : Nat} (hx : Lo 1000000000 x) (hy : Lo 1000000000 y) (h1 : k < x.length) (h2 : k < y.length) (hd : x.drop (k + 1) = y.drop (k + 1))
    (hu : u = x[k]?.getD 0) (hv : v = y[k]?.getD 0) (hne : u ≠ v) : cmpN u v = cmpN (vl 1000000000 x) (vl 1000000000 y) := by
  rcases Nat.lt_or_ge u v with h | h
  · rw [cmpN_lt h, cmpN_lt (vl_part hx h1 h2 hd (by omega))]
  · rw [cmpN_gt (by omega), cmpN_gt (vl_part hy h2 h1 hd.symm (by omega))]
theorem cmp_len {m n : Nat} (h : (dg 1000000000 m).length ≠ (dg 1000000000 n).length) : cmpN (dg 1000000000 m).length (dg 1000000000 n).length = cmpN m n := by
  rcases Nat.lt_or_ge (dg 1000000000 m).length (dg 1000000000 n).length with h1 | h1
  · rw [cmpN_lt h1, cmpN_lt (dg_len_lt (by omega) h1)]
  · rw [cmpN_gt (by omega), cmpN_gt (dg_len_lt (b := 1000000000) (by omega) (by omega))]
theorem vl_bound {l : List Nat} (h : Lo 4294967296 l) : vl 1000000000 l < 1000000000 ^ (l.length + 1) := by
  have h1 := nlow_worth l l.length (Nat.le_refl _)
  rw [List.take_length] at h1
  have h2 := vl_lt (Lo_nlow l l.length)
  rw [nlow_length] at h2
  have h3 := ncar_le h l.length
  have h4 : 1000000000 ^ l.length * ncar l l.length ≤ 1000000000 ^ l.length * 4 := Nat.mul_le_mul_left _ h3
  rw [Nat.pow_succ]
  omega
theorem nlen {l : List Nat} (h : Lo 4294967296 l) : (dg 1000000000 (vl 1000000000 l)).length ≤ l.length + 1 := dg_len_of_lt (by omega) (vl_bound h)

end Go.Proofs.YtpgiljibicigeaaGreatDoor

/- Walks: takeOff. -/
namespace Go.Proofs.YtpgiljibicigeaaGreatDoor
open Go.RowKit LM

theorem off_c {c t v : Nat} (hc : c ≤ t + 1) (ht : t ≤ 1000000000) (hv : v < 1000000000) : t * v + t ≤ t * 1000000000 := by
  have : t * (v + 1) ≤ t * 1000000000 := Nat.mul_le_mul_left _ hv
  rw [Nat.mul_add, Nat.mul_one] at this; exact this

theorem own_step {w : World} {B : Nat} {e : TypeId} {ki : IntKind} {g C : Nat} {L d : List Nat} {off k : Nat} (h : Own w B e ki (some ⟨g, 0, none⟩) C (win L d off)) (hk : d.length = k) (hlt : off + k < L.length) (v : Nat) {yv : Int} (hy : yv = (v : Int)) :
    Own (w.setCell ⟨g, off + k, none⟩ (.int ki yv)) B e ki (some ⟨g, 0, none⟩) C (win L (d ++ [v]) off) := by
  have := h.set' (off + k) v hy
  subst hk
  rwa [win_set v hlt] at this
theorem own_step2 {w : World} {B : Nat} {e : TypeId} {ki : IntKind} {g C : Nat} {L d : List Nat} {off k : Nat} (h : Own w B e ki (some ⟨g, 0, none⟩) C (win L d off)) (hk : d.length = k) (hlt : off + k < L.length) (v v1 : Nat) {yv yv1 : Int} (hy : yv = (v : Int)) (hy1 : yv1 = (v1 : Int)) :
    Own ((w.setCell ⟨g, off + k, none⟩ (.int ki yv1)).setCell ⟨g, off + k, none⟩ (.int ki yv)) B e ki (some ⟨g, 0, none⟩) C (win L (d ++ [v]) off) := by
  have := (h.set' (off + k) v1 hy1).set' (off + k) v hy
  subst hk
  rwa [List.set_set, win_set v hlt] at this
theorem low_c {q t : Nat} (hq : q ≤ t * 1000000000 + 1) (ht : 1 ≤ t) : q / 1000000000 + 1 ≤ t + 1 := by omega
/-- the closing of a round: what was and what is -/
theorem off_round {x y d : List Nat} {t c k u v c' z : Nat} (hk : k < x.length) (hd : d.length = k) (hu : u = x[k]?.getD 0) (hv : v = y[k]?.getD 0)
    (h : vl 1000000000 (x.take k) + 1000000000 ^ k * c = vl 1000000000 d + t * vl 1000000000 (y.take k)) (hz : u + 1000000000 * c' = z + (c + t * v)) :
    vl 1000000000 (x.take (k + 1)) + 1000000000 ^ (k + 1) * c' = vl 1000000000 (d ++ [z]) + t * vl 1000000000 (y.take (k + 1)) :=
  off_step hk hd h c' z (c + t * v) (by rw [hv]) (by rw [← hu]; exact hz)

end Go.Proofs.YtpgiljibicigeaaGreatDoor

/- Walks: Sub, Add. -/
namespace Go.Proofs.YtpgiljibicigeaaGreatDoor
open Go.RowKit LM

end Go.Proofs.YtpgiljibicigeaaGreatDoor

/- Walks: Mul. -/
namespace Go.Proofs.YtpgiljibicigeaaGreatDoor
open Go.RowKit LM

theorem mul_bound {p u v c : Nat} (hp : p < 1000000000) (hu : u < 1000000000) (hv : v < 1000000000) (hc : c < 1000000000) : u * v ≤ 999999998000000001 ∧ p + u * v + c ≤ 999999999999999999 ∧ (p + u * v + c) / 1000000000 < 1000000000 := by
  have h : u * v ≤ 999999999 * 999999999 := Nat.mul_le_mul (by omega) (by omega)
  have e : 999999999 * 999999999 = 999999998000000001 := by decide
  omega

end Go.Proofs.YtpgiljibicigeaaGreatDoor
