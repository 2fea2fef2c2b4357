/- Walks of dec: isNear, noughtsAtEnd. -/
import Derived.Test.YtofeckdhhaoobaaDoorLimbK
import Derived.Test.YtofeckdhhaoobaaDoorDecMath
import Derived.BigQuiet
import Derived.IntWalk
namespace Go.Proofs.YtofeckdhhaoobaaDoor
open Go.RowKit LM

set_option maxHeartbeats 1000000 in
theorem isNear_any (s : Bool) (a : Option Addr) (n c : Nat) (e : Int) (w : World) :
    Calls Tryd.prog 32 #[.agg #[.bool s, .slice a n c, .int .i64 e]] w fun r w' => r = .returned (.bool (nearB n e)) ∧ Below w.heap.size w w' := by
  by_cases h1 : n ≤ 200
  · by_cases h2 : -30000 ≤ e
    · have hb : nearB n e = decide (e ≤ 30000) := by unfold nearB; simp [h1, h2]
      have HB := Lib.hid hb
      clear hb
      go_enter Tryd.func32, Tryd.ntmps32
      go_wp2
      go_ret
      exact ⟨ret_bool HB.out.symm, (Below.refl _ _).alloc (Nat.le_refl _) _⟩
    · have hb : nearB n e = false := by unfold nearB; simp [h2]
      have HB := Lib.hid hb
      clear hb
      go_enter Tryd.func32, Tryd.ntmps32
      go_wp2
      go_ret
      exact ⟨ret_bool HB.out.symm, (Below.refl _ _).alloc (Nat.le_refl _) _⟩
  · have hb : nearB n e = false := by unfold nearB; simp [h1]
    have HB := Lib.hid hb
    clear hb
    go_enter Tryd.func32, Tryd.ntmps32
    go_wp2
    go_ret
    exact ⟨ret_bool HB.out.symm, (Below.refl _ _).alloc (Nat.le_refl _) _⟩

theorem zeros_worth {l : List Nat} : ∀ k, k ≤ l.length → (∀ j, j < k → l[j]?.getD 0 = 0) → vl 1000000000 (l.take k) = 0 := by
  intro k
  induction k with
  | zero => intro _ _; rfl
  | succ k ih => intro hk h; rw [take_snoc l k (by omega), vl_append, ih (by omega) (fun j hj => h j (by omega)), vl_one, h k (by omega)]; simp
theorem zeros_more {l : List Nat} {k : Nat} (h0 : 0 < vl 1000000000 l) (hk : k < l.length) (hz : ∀ j, j < k → l[j]?.getD 0 = 0) (h : l[k]?.getD 0 = 0) : k + 1 < l.length := by
  rcases Nat.lt_or_ge (k + 1) l.length with h1 | h1
  · exact h1
  · exfalso
    have h2 := zeros_worth (l := l) (k + 1) (by omega) (fun j hj => by
      rcases Nat.lt_or_ge j k with h3 | h3
      · exact hz j h3
      · rw [show j = k by omega]; exact h)
    rw [List.take_of_length_le h1] at h2
    omega

set_option maxHeartbeats 2000000 in
theorem noughtsAtEnd_any (a : Option Addr) (c : Nat) (l : List Nat) (w : World) (hl : l.length ≤ 1000000) (hlo : Lo 1000000000 l) (hv : 0 < vl 1000000000 l) (hrd : Rd w .u32 a l) :
    Calls Tryd.prog 65 #[.slice a l.length c] w fun e w' => e = .returned (.int .i64 (tz (vl 1000000000 l) : Nat)) ∧ w = w' := by
  have HLO := Lib.hid hlo; have HV := Lib.hid hv
  have hpos : 0 < l.length := by
    rcases Nat.eq_zero_or_pos l.length with e | e
    · rw [List.eq_nil_of_length_eq_zero e] at hv; simp [vl] at hv
    · exact e
  clear hlo hv
  go_enter Tryd.func65, Tryd.ntmps65
  go_wp2
  go_loop [3] (fun i => ∃ k : Nat, k < l.length ∧ i = .int .i64 k ∧ Hid (∀ j, j < k → l[j]?.getD 0 = 0)) (fun i => l.length - (intOf i).toNat)
  case atStart => exact ⟨0, hpos, rfl, Lib.hid (fun j hj => by omega)⟩
  case round =>
    obtain ⟨k, hk, rfl, HZ⟩ := hrel
    obtain ⟨b, off, x, e1, HX, hx, hc⟩ := hrd.get HLO.out k hk
    subst e1
    rcases Nat.eq_zero_or_pos x with h0 | h0
    · have hk1 : k + 1 < l.length := zeros_more HV.out hk HZ.out (by rw [← HX.out]; exact h0)
      have HZ1 := Lib.hid (show ∀ j, j < k + 1 → l[j]?.getD 0 = 0 from fun j hj => by
        rcases Nat.lt_or_ge j k with h3 | h3
        · exact HZ.out j h3
        · rw [show j = k by omega, ← HX.out]; exact h0)
      have hxB : ((x : Int) == 0) = true := by simp [h0]
      clear h0
      go_wp2
      go_round
      case rel => exact ⟨k + 1, hk1, by go_num, HZ1⟩
      case measure => simp [intOf]; omega
    · have hxB : ((x : Int) == 0) = false := by simp; omega
      have hT := tz_limbs hk HZ.out (by rw [← HX.out]; omega) HLO.out
      rw [← HX.out] at hT
      have HT := Lib.hid hT
      clear hT
      go_wp2_with fail
      clear hxB hc
      go_loop [4, 5] (fun v4 v5 => ∃ j r : Nat, v4 = .int .i64 ((9 * k + j : Nat) : Int) ∧ v5 = .int .u32 r ∧ 0 < r ∧ r < 1000000000 ∧ j ≤ 9 ∧ r * 10 ^ j ≤ 1000000000 ∧ Hid (tz x = j + tz r)) (fun _ v5 => (intOf v5).toNat)
      case atStart => exact ⟨0, x, by go_num, rfl, h0, hx, by omega, by omega, Lib.hid (by omega)⟩
      case round =>
        obtain ⟨j, r, rfl, rfl, hr0, hr, hj, hrj, HJ⟩ := hrel
        by_cases hm : r % 10 = 0
        · have hmB : ((r : Int) % 10 == 0) = true := by simp; omega
          have hj9 : j + 1 ≤ 9 := by
            rcases Nat.lt_or_ge j 9 with h | h
            · exact h
            · exfalso
              have : j = 9 := by omega
              rw [this] at hrj
              omega
          have hrj2 : r / 10 * 10 ^ (j + 1) ≤ 1000000000 := by
            rw [Nat.pow_succ, Nat.mul_comm (10 ^ j) 10, ← Nat.mul_assoc, show r / 10 * 10 = r by omega]; exact hrj
          have HJ2 := Lib.hid (show tz x = (j + 1) + tz (r / 10) by rw [HJ.out, tz_yes hr0 hm]; omega)
          have hr10 : 0 < r / 10 := by omega
          have hrlt : r / 10 < r := by omega
          clear hm hrj
          go_wp2
          go_round
          case rel => exact ⟨j + 1, r / 10, by go_num, by go_num, hr10, by omega, hj9, hrj2, HJ2⟩
          case measure => simp [intOf]; omega
        · have hmB : ((r : Int) % 10 == 0) = false := by simp; omega
          have hfin := HT.out
          rw [HJ.out, tz_no hm] at hfin
          have HFIN := Lib.hid hfin
          clear hfin hm
          go_wp2
          go_ret
          exact ⟨ret_int (by rw [HFIN.out]; omega), rfl⟩
end Go.Proofs.YtofeckdhhaoobaaDoor
