/- Walks: the document's comparison. -/
import Derived.Test.YtimfpgpomafflaaGreatDoorDecAs
import Derived.BigQuiet
namespace Go.Proofs.YtimfpgpomafflaaGreatDoor
open Go.RowKit LM

set_option maxHeartbeats 4000000 in
theorem RCmp_any (a b : Option Addr) (ca cb v u : Nat) (w : World) (hl : (dg 10 v).length ≤ 1073741824) (hm : (dg 10 u).length ≤ 1073741824) (ha : Rd w .u8 a (dg 10 v)) (hb : Rd w .u8 b (dg 10 u)) :
    Calls Tryz.prog 75 #[.slice a (dg 10 v).length ca, .slice b (dg 10 u).length cb] w fun e w' => e = .returned (.int .i64 (cmpN v u)) ∧ Below w.heap.size w w' := by
  have hlt : (dg 10 v).length < (dg 10 u).length → cmpN v u = -1 := fun h => cmpN_lt (dg_len_lt (by omega) h)
  have hgt : (dg 10 u).length < (dg 10 v).length → cmpN v u = 1 := fun h => cmpN_gt (dg_len_lt (by omega) h)
  have hlx := Lo_dg (b := 10) (by omega) v
  have hly := Lo_dg (b := 10) (by omega) u
  have hvx := vl_dg (b := 10) (by omega) v
  have hvy := vl_dg (b := 10) (by omega) u
  have HLT := Lib.hid hlt; have HGT := Lib.hid hgt; have HLX := Lib.hid hlx; have HLY := Lib.hid hly; have HVX := Lib.hid hvx; have HVY := Lib.hid hvy
  clear hlt hgt hlx hly hvx hvy
  generalize dg 10 v = X at *
  generalize dg 10 u = Y at *
  rcases Nat.lt_trichotomy X.length Y.length with h | h | h
  · have HC := Lib.hid (HLT.out h)
    go_enter Tryz.func75, Tryz.ntmps75
    go_wp2
    go_ret
    exact ⟨ret_int HC.out.symm, Below.refl _ _⟩
  · have h1 : X.length ≤ Y.length := by omega
    have h2 : Y.length ≤ X.length := by omega
    have HLEN := Lib.hid h
    clear h
    go_enter Tryz.func75, Tryz.ntmps75
    go_wp2
    go_loopw [5] (fun i wr => ∃ k : Nat, k ≤ X.length ∧ i = .int .i64 ((k : Int) - 1) ∧ Hid (X.drop k = Y.drop k) ∧ Below w.heap.size w wr) (fun i _ => (intOf i + 1).toNat)
    case atStart => exact ⟨X.length, Nat.le_refl _, rfl, Lib.hid (by rw [List.drop_length, HLEN.out, List.drop_length]), Below.refl _ _⟩
    case round =>
      obtain ⟨k, hk, rfl, HD, hbl⟩ := hrel
      rcases Nat.eq_zero_or_pos k with h0 | h0
      · have hk0 : k ≤ 0 := by omega
        have hd := HD.out
        rw [h0, List.drop_zero, List.drop_zero] at hd
        have hc : cmpN v u = 0 := by rw [← HVX.out, ← HVY.out, hd]; exact cmpN_eq _
        have HC := Lib.hid hc
        clear hd hc h0
        go_wp2
        go_ret
        exact ⟨ret_int HC.out.symm, hbl⟩
      · obtain ⟨k', rfl⟩ : ∃ k', k = k' + 1 := ⟨k - 1, by omega⟩
        obtain ⟨b1, o1, p, e1, HP, hp, cp⟩ := (ha.below hbl).get HLX.out k' (by omega)
        obtain ⟨b2, o2, q, e2, HQ, hq, cq⟩ := (hb.below hbl).get HLY.out k' (by omega)
        subst e1 e2
        rcases Nat.lt_trichotomy p q with hpq | hpq | hpq
        · have hc : cmpN v u = -1 := by rw [← HVX.out, ← HVY.out]; exact cmpN_lt (vl_part HLX.out (by omega) (by omega) HD.out (by rw [← HP.out, ← HQ.out]; exact hpq))
          have HC := Lib.hid hc
          clear hc
          go_wp2_with fail
          go_quiet (fail)
          go_wp2
          go_ret
          exact ⟨ret_int HC.out.symm, bdN hbl _⟩
        · subst hpq
          go_wp2_with fail
          go_quiet (fail)
          go_wp2_with fail
          go_quiet (fail)
          go_wp2
          go_roundw
          case rel => exact ⟨k', by omega, by go_num, Lib.hid (drop_step (by omega) (by omega) HD.out (by rw [← HP.out, ← HQ.out])), (by first | exact bdN hbl _ | exact bdN (bdN hbl _) _)⟩
          case measure => simp [intOf]
        · have hc : cmpN v u = 1 := by rw [← HVX.out, ← HVY.out]; exact cmpN_gt (vl_part HLY.out (by omega) (by omega) HD.out.symm (by rw [← HP.out, ← HQ.out]; exact hpq))
          have HC := Lib.hid hc
          have hnpq : ¬ p < q := by omega
          clear hc
          go_wp2_with fail
          go_quiet (fail)
          go_wp2_with fail
          go_quiet (fail)
          go_wp2
          go_ret
          exact ⟨ret_int HC.out.symm, bdN (bdN hbl _) _⟩
  · have HC := Lib.hid (HGT.out h)
    have hn : ¬ X.length < Y.length := by omega
    go_enter Tryz.func75, Tryz.ntmps75
    go_wp2
    go_ret
    exact ⟨ret_int HC.out.symm, Below.refl _ _⟩
end Go.Proofs.YtimfpgpomafflaaGreatDoor
