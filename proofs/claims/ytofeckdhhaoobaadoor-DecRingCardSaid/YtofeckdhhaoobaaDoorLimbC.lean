/- Walks: cmp.Compare, Cmp, takeOff. -/
import Derived.Test.YtofeckdhhaoobaaDoorLimbMaths
import Derived.Test.YtofeckdhhaoobaaDoorLimbB
import Derived.BigQuiet
import Derived.Deep.QuietTactic
namespace Go.Proofs.YtofeckdhhaoobaaDoor
open Go.RowKit LM

set_option maxHeartbeats 400000 in
theorem CmpInt_any (a b : Nat) (w : World) (_ha : a ≤ 9223372036854775807) (_hb : b ≤ 9223372036854775807) :
    Calls Tryd.prog 87 #[.int .i64 a, .int .i64 b] w fun e w' => e = .returned (.int .i64 (cmpN a b)) ∧ w = w' := by
  rcases Nat.lt_trichotomy a b with h | h | h
  · rw [cmpN_lt h]
    go_enter Tryd.func87, Tryd.ntmps87
    go_wp2
    go_ret
    exact ⟨rfl, rfl⟩
  · subst h
    rw [cmpN_eq]
    go_enter Tryd.func87, Tryd.ntmps87
    go_wp2
    go_ret
    exact ⟨rfl, rfl⟩
  · rw [cmpN_gt h]
    have h2 : ¬ a < b := by omega
    go_enter Tryd.func87, Tryd.ntmps87
    go_wp2
    go_ret
    exact ⟨rfl, rfl⟩

set_option maxHeartbeats 400000 in
theorem CmpU32_any (a b : Nat) (w : World) (_ha : a < 4294967296) (_hb : b < 4294967296) :
    Calls Tryd.prog 88 #[.int .u32 a, .int .u32 b] w fun e w' => e = .returned (.int .i64 (cmpN a b)) ∧ w = w' := by
  rcases Nat.lt_trichotomy a b with h | h | h
  · rw [cmpN_lt h]
    go_enter Tryd.func88, Tryd.ntmps88
    go_wp2
    go_ret
    exact ⟨rfl, rfl⟩
  · subst h
    rw [cmpN_eq]
    go_enter Tryd.func88, Tryd.ntmps88
    go_wp2
    go_ret
    exact ⟨rfl, rfl⟩
  · rw [cmpN_gt h]
    have h2 : ¬ a < b := by omega
    go_enter Tryd.func88, Tryd.ntmps88
    go_wp2
    go_ret
    exact ⟨rfl, rfl⟩

theorem cmp_part {x y : List Nat} {k u v : Nat} (hx : Lo 1000000000 x) (hy : Lo 1000000000 y) (h1 : k < x.length) (h2 : k < y.length) (hd : x.drop (k + 1) = y.drop (k + 1))
    (hu : u = x[k]?.getD 0) (hv : v = y[k]?.getD 0) (hne : u ≠ v) : cmpN u v = cmpN (vl 1000000000 x) (vl 1000000000 y) := by
  rcases Nat.lt_or_ge u v with h | h
  · rw [cmpN_lt h, cmpN_lt (vl_part hx h1 h2 hd (by omega))]
  · rw [cmpN_gt (by omega), cmpN_gt (vl_part hy h2 h1 hd.symm (by omega))]
theorem cmp_len {m n : Nat} (h : (dg 1000000000 m).length ≠ (dg 1000000000 n).length) : cmpN (dg 1000000000 m).length (dg 1000000000 n).length = cmpN m n := by
  rcases Nat.lt_or_ge (dg 1000000000 m).length (dg 1000000000 n).length with h1 | h1
  · rw [cmpN_lt h1, cmpN_lt (dg_len_lt (by omega) h1)]
  · rw [cmpN_gt (by omega), cmpN_gt (dg_len_lt (b := 1000000000) (by omega) (by omega))]
theorem vl_bound {l : List Nat} (h : Lo 4294967296 l) : vl 1000000000 l < 1000000000 ^ (l.length + 1) := by
  have h1 := nlow_worth l l.length (Nat.le_refl _)
  rw [List.take_length] at h1
  have h2 := vl_lt (Lo_nlow l l.length)
  rw [nlow_length] at h2
  have h3 := ncar_le h l.length
  have h4 : 1000000000 ^ l.length * ncar l l.length ≤ 1000000000 ^ l.length * 4 := Nat.mul_le_mul_left _ h3
  rw [Nat.pow_succ]
  omega
theorem nlen {l : List Nat} (h : Lo 4294967296 l) : (dg 1000000000 (vl 1000000000 l)).length ≤ l.length + 1 := dg_len_of_lt (by omega) (vl_bound h)

set_option maxHeartbeats 2000000 in
theorem Cmp_any (a b : Option Addr) (ca cb : Nat) (l m : List Nat) (w : World) (hl : l.length ≤ 1073741824) (hm : m.length ≤ 1073741824) (hlo : Lo 4294967296 l) (hmo : Lo 4294967296 m) (ha : Rd w .u32 a l) (hb : Rd w .u32 b m) :
    Calls Tryd.prog 56 #[.slice a l.length ca, .slice b m.length cb] w fun e w' => e = .returned (.int .i64 (cmpN (vl 1000000000 l) (vl 1000000000 m))) ∧ Below w.heap.size w w' := by
  have hn1 := nlen hlo
  have hn2 := nlen hmo
  have HN1 := Lib.hid hlo; have HN2 := Lib.hid hmo
  clear hlo hmo
  go_enter Tryd.func56, Tryd.ntmps56
  go_wp2_with fail
  refine (Norm_any a ca l w (by omega) HN1.out ha).mono ?_
  rintro e w1 ⟨a1, c1, rfl, hown1, hb1⟩
  go_wp2_with fail
  refine (Norm_any b cb m w1 (by omega) HN2.out (hb.below hb1)).mono ?_
  rintro e w2 ⟨a2, c2, rfl, hown2, hb2⟩
  have hbl : Below w.heap.size w w2 := hb1.trans (hb2.mono hb1.size)
  have hx := (hown1.below hb2).rd
  have hy := hown2.rd
  clear hown1 hown2 hb1 hb2 ha hb
  have hlx := Lo_dg (b := 1000000000) (by omega) (vl 1000000000 l)
  have hly := Lo_dg (b := 1000000000) (by omega) (vl 1000000000 m)
  have HLX := Lib.hid hlx; have HLY := Lib.hid hly
  clear hlx hly
  have hvx := vl_dg (b := 1000000000) (by omega) (vl 1000000000 l)
  have hvy := vl_dg (b := 1000000000) (by omega) (vl 1000000000 m)
  have hclen := @cmp_len (vl 1000000000 l) (vl 1000000000 m)
  have HVX := Lib.hid hvx; have HVY := Lib.hid hvy; have HC := Lib.hid hclen
  clear hvx hvy hclen
  generalize hX : dg 1000000000 (vl 1000000000 l) = X at *
  generalize hY : dg 1000000000 (vl 1000000000 m) = Y at *
  clear hX hY
  by_cases hlen : X.length = Y.length
  · have h1 : X.length ≤ Y.length := by omega
    have h2 : Y.length ≤ X.length := by omega
    clear hlen
    go_wp2_with fail
    go_loopw [25] (fun i wr => ∃ k : Nat, k ≤ X.length ∧ Hid (X.drop (X.length - k) = Y.drop (X.length - k)) ∧ i = .int .i64 k ∧ Below w.heap.size w wr ∧ Rd wr .u32 a1 X ∧ Rd wr .u32 a2 Y) (fun i _ => X.length - (intOf i).toNat)
    case atStart => exact ⟨0, Nat.zero_le _, (by simp [h1, h2] : X.drop (X.length - 0) = Y.drop (X.length - 0)), rfl, hbl, hx, hy⟩
    case round =>
      obtain ⟨k, hk, HD, rfl, hblr, hxr, hyr⟩ := hrel
      by_cases hlt : k < X.length
      · obtain ⟨b1, o1, u, e1, HU, hu, cu⟩ := hxr.get HLX.out (X.length - 1 - k) (by omega)
        obtain ⟨b2, o2, v, e2, HV, hv, cv⟩ := hyr.get HLY.out (X.length - 1 - k) (by omega)
        have hd1 : X.length - 1 - k + 1 = X.length - k := by omega
        have HD1 := Lib.hid hd1; clear hd1
        subst e1 e2
        by_cases huv : u = v
        · subst huv
          go_wp2_with fail
          go_quiet (fail)
          go_wp2
          go_roundw
          case rel => exact ⟨k + 1, by omega, (by rw [show X.length - (k + 1) = X.length - 1 - k by omega]; exact drop_step (by omega) (by omega) (by rw [HD1.out]; exact HD.out) (by rw [← HU.out, ← HV.out]) : X.drop (X.length - (k + 1)) = Y.drop (X.length - (k + 1))), by go_num, bdN hblr _, hxr.dN _, hyr.dN _⟩
          case measure => simp [intOf]; omega
        · have hcmp := cmp_part HLX.out HLY.out (show X.length - 1 - k < X.length by omega) (by omega) (by rw [HD1.out]; exact HD.out) HU.out HV.out huv
          rw [HVX.out, HVY.out] at hcmp
          have HCM := Lib.hid hcmp; clear hcmp
          go_wp2_with fail
          go_quiet (fail)
          go_wp2_with fail
          go_quiet ((go_at_call 88; first | exact still (CmpU32_any u v _ (by omega) (by omega)) | exact still2 (CmpU32_any u v _ (by omega) (by omega))))
          go_wp2
          go_ret
          exact ⟨ret_int HCM.out, bdN (bdN hblr _) _⟩
      · obtain rfl : k = X.length := by omega
        have e := HD.out
        rw [Nat.sub_self, List.drop_zero, List.drop_zero] at e
        have hcmp : cmpN (vl 1000000000 l) (vl 1000000000 m) = 0 := by rw [← HVX.out, ← HVY.out, e, cmpN_eq]
        have HCM := Lib.hid hcmp
        clear e hcmp
        go_wp2
        go_ret
        exact ⟨ret_int HCM.out.symm, hblr⟩
  · have hcmp := HC.out hlen
    have HCM := Lib.hid hcmp; clear hcmp
    go_wp2_with fail
    refine (CmpInt_any X.length Y.length w2 (by omega) (by omega)).mono ?_
    rintro e w' ⟨rfl, rfl⟩
    go_wp2
    go_ret
    exact ⟨ret_int HCM.out, hbl⟩
end Go.Proofs.YtofeckdhhaoobaaDoor
