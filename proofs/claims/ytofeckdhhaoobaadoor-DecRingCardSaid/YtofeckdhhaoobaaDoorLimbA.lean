/- Walks: trim, same, great. -/
import Derived.Test.YtofeckdhhaoobaaDoorLimbKit
import Derived.Test.YtofeckdhhaoobaaDoorChecked
import Derived.Outline
namespace Go.Proofs.YtofeckdhhaoobaaDoor
open Go.RowKit LM

set_option maxHeartbeats 400000 in
theorem trim_any (a : Option Addr) (cap : Nat) (l : List Nat) (w : World) (hl : l.length ≤ 9223372036854775807) (hrd : Rd w .u32 a l) (hcap : l.length ≤ cap) :
    Calls Tryd.prog 67 #[.slice a l.length cap] w fun e w' => e = .returned (.slice a (tr l).length cap) ∧ w = w' := by
  go_enter Tryd.func67, Tryd.ntmps67
  go_wp2
  go_loop [3] (fun i => ∃ k : Nat, k ≤ l.length ∧ tr (l.take k) = tr l ∧ i = .int .i64 k) (fun i => (intOf i).toNat)
  case atStart => exact ⟨l.length, Nat.le_refl _, by rw [List.take_length], rfl⟩
  case round =>
    obtain ⟨k, hk, ht, rfl⟩ := hrel
    have HT := Lib.hid ht; clear ht
    rcases Nat.eq_zero_or_pos k with h0 | h0
    · subst h0
      go_wp2
      go_ret
      have h := HT.out; simp only [List.take_zero, tr] at h
      exact ⟨by rw [← h]; rfl, rfl⟩
    · obtain ⟨m, rfl⟩ : ∃ m, k = m + 1 := ⟨k - 1, by omega⟩
      obtain ⟨b, off, ha, hc⟩ := hrd m (by omega)
      subst ha
      go_wp2
      · have h : (((l[m]?.getD 0 : Nat) : Int) == 0) = true := by assumption
        go_round
        case rel => exact ⟨m, by omega, by rw [tr_step (by omega) (by simpa using h)]; exact HT.out, rfl⟩
        case measure => simp [intOf]
      · have h : (((l[m]?.getD 0 : Nat) : Int) == 0) = false := by assumption
        go_ret
        refine ⟨?_, rfl⟩
        have e := tr_end (l := l) (k := m) (by omega) (by simpa using h)
        have e2 := HT.out
        rw [← e2, e, List.length_take, Nat.min_eq_left (by omega)]; rfl

theorem same_step {l m : List Nat} {k : Nat} (h1 : k < l.length) (h2 : k < m.length) (h : l.take k = m.take k) (e : l[k]?.getD 0 = m[k]?.getD 0) : l.take (k + 1) = m.take (k + 1) := by
  rw [take_snoc l k h1, take_snoc m k h2, h, e]

set_option maxHeartbeats 400000 in
/-- two lists are the same -/
theorem Same_any (a b : Option Addr) (ca cb : Nat) (l m : List Nat) (w : World) (hl : l.length ≤ 9223372036854775807) (hm : m.length ≤ 9223372036854775807) (ha : Rd w .u32 a l) (hb : Rd w .u32 b m) :
    Calls Tryd.prog 71 #[.slice a l.length ca, .slice b m.length cb] w fun e w' => e = .returned (.bool (decide (l = m))) ∧ Below w.heap.size w w' := by
  go_enter Tryd.func71, Tryd.ntmps71
  by_cases hlen : l.length = m.length
  · have HL := Lib.hid hlen
    have h1 : l.length ≤ m.length := by omega
    have h2 : m.length ≤ l.length := by omega
    clear hlen
    go_wp2
    go_loopw [5] (fun i wr => ∃ k : Nat, k ≤ l.length ∧ Hid (l.take k = m.take k) ∧ i = .int .i64 k ∧ Below w.heap.size w wr) (fun i _ => l.length - (intOf i).toNat)
    case atStart => exact ⟨0, Nat.zero_le _, (by simp : l.take 0 = m.take 0), rfl, Below.refl _ _⟩
    case round =>
      obtain ⟨k, hk, HT, rfl, hbl⟩ := hrel
      by_cases hlt : k < l.length
      · obtain ⟨b1, o1, e1, c1⟩ := ha.below hbl k hlt
        obtain ⟨b2, o2, e2, c2⟩ := hb.below hbl k (by omega)
        subst e1 e2
        go_wp2
        go_region
        all_goals go_wp2
        · have h : (((l[k] : Nat) : Int) != ((m[k]?.getD 0 : Nat) : Int)) = true := by assumption
          go_ret
          exact ⟨ret_bool (by symm; rw [decide_eq_false_iff_not]; intro e; subst e; simp [hlt] at h), hbl.drew⟩
        · have h : (((l[k] : Nat) : Int) != ((m[k]?.getD 0 : Nat) : Int)) = false := by assumption
          go_roundw
          case rel => exact ⟨k + 1, by omega, same_step (by omega) (by omega) HT.out (by simp at h; simp [hlt]; omega), by go_num, hbl.drew⟩
          case measure => simp [intOf]; omega
      · go_wp2
        go_ret
        refine ⟨ret_bool ?_, hbl⟩
        have e := HT.out
        rw [List.take_of_length_le (by omega), List.take_of_length_le (by omega)] at e
        symm; rw [decide_eq_true_eq]; exact e
  · go_wp2
    go_ret
    exact ⟨ret_bool (by simp; intro h; exact hlen (by rw [h])), Below.refl _ _⟩
end Go.Proofs.YtofeckdhhaoobaaDoor
