/- The document's Next walked. -/
import Derived.Test.YtibgejndlllhfaaDoorMarL
namespace Go.Proofs.YtibgejndlllhfaaDoor
open Go.RowKit BM

theorem Has_at {iv : Int} (x : BitVec 64) (i : Nat) (b : Bool) (hb : bitAt x i = b) (hv : iv = (i : Int)) (hi : i < 64) (w : World) :
    Calls Tryd.prog 32 #[.int .u64 (val x), .int .i64 iv] w fun e w' => e = .returned (.bool b) ∧ w = w' := by
  subst hb hv; exact Has_any x i hi w
set_option maxRecDepth 100000 in
set_option maxHeartbeats 2000000 in
theorem stands_any (a : Option Addr) (cap : Nat) (xs : List MS) (len : Int) (i : Nat) (w : World) (hr : RdM w a xs) (hn : xs.length ≤ 2600000000000) (hi : i ≤ 9223372036854775807) :
    Calls Tryd.prog 31 #[.agg #[.slice a xs.length cap, .int .i64 len], .int .i64 i] w fun e w' => e = .returned (.bool (hitAt xs i)) ∧ Below w.heap.size w w' := by
  have HR := Lib.hid hr
  clear hr
  by_cases hlt : i / 64 < xs.length
  · obtain ⟨x, hx⟩ : ∃ x, xs[i / 64]? = some x := ⟨_, List.getElem?_eq_getElem hlt⟩
    have hr64 : i % 64 < 64 := by omega
    have hh : hitAt xs i = x.hit.getLsbD (i % 64) := by unfold hitAt; rw [hx]
    obtain ⟨b0, h0⟩ : ∃ b, bitAt x.q (i % 64) = b := ⟨_, rfl⟩
    obtain ⟨b1, h1⟩ : ∃ b, bitAt x.o (i % 64) = b := ⟨_, rfl⟩
    obtain ⟨b2, h2⟩ : ∃ b, bitAt x.c (i % 64) = b := ⟨_, rfl⟩
    obtain ⟨b3, h3⟩ : ∃ b, bitAt x.k (i % 64) = b := ⟨_, rfl⟩
    obtain ⟨b4, h4⟩ : ∃ b, bitAt x.m (i % 64) = b := ⟨_, rfl⟩
    have HB : Hid (hitAt xs i = (b0 || (b1 || b2 || b3 || b4))) := Lib.hid (by
      rw [hh, ← h0, ← h1, ← h2, ← h3, ← h4]
      unfold MS.hit MS.sg bitAt
      simp only [BitVec.getLsbD_or])
    have hm : ((i : Int) % 64) = ((i % 64 : Nat) : Int) := by omega
    have H0 := Lib.hid (fun w => Has_at x.q (i % 64) b0 h0 hm hr64 w)
    have H1 := Lib.hid (fun w => Has_at x.o (i % 64) b1 h1 hm hr64 w)
    have H2 := Lib.hid (fun w => Has_at x.c (i % 64) b2 h2 hm hr64 w)
    have H3 := Lib.hid (fun w => Has_at x.k (i % 64) b3 h3 hm hr64 w)
    have H4 := Lib.hid (fun w => Has_at x.m (i % 64) b4 h4 hm hr64 w)
    clear h0 h1 h2 h3 h4 hh hm
    have hi2 : (i : Int) / 64 < xs.length := by omega
    obtain ⟨b, off, rfl, hmc⟩ := (HR.out.below ((Below.refl w.heap.size w).alloc (Nat.le_refl _) (.cells #[.slice a xs.length cap, .int .i64 len] 27))) (i / 64) x hx
    clear hx hlt
    go_enter Tryd.func31, Tryd.ntmps31
    go_upto_region 1 with (fail)
    have I0 := Ix.mk w (some ⟨b, off, none⟩) xs.length cap len 27 (0, 0)
    have B0 := Lib.hid ((Below.refl w.heap.size w).alloc (Nat.le_refl _) (.cells #[.slice (some ⟨b, off, none⟩) xs.length cap, .int .i64 len] 27))
    generalize w.alloc (.cells #[.slice (some ⟨b, off, none⟩) xs.length cap, .int .i64 len] 27) = w0 at *
    obtain ⟨m0, m1, m2, m3, m4, m5, m6⟩ := hmc
    obtain ⟨x0, x1⟩ := I0.out
    go_upto_region 4 with (fail)
    clear m0 m1 m2 m3 m4 m5 m6 x0 x1 I0
    have M1 := MbB.mk w0 x (0, 0)
    have B1 := Lib.hid (B0.out.alloc B0.out.size (.cells #[.int .u64 (val x.q), .int .u64 (val x.n), .int .u64 (val x.o), .int .u64 (val x.c), .int .u64 (val x.k), .int .u64 (val x.m), .int .u64 (val x.s)] 49))
    have hsz : w0.heap.size < (w0.alloc (.cells #[.int .u64 (val x.q), .int .u64 (val x.n), .int .u64 (val x.o), .int .u64 (val x.c), .int .u64 (val x.k), .int .u64 (val x.m), .int .u64 (val x.s)] 49)).heap.size := by simp
    generalize w0.alloc (.cells #[.int .u64 (val x.q), .int .u64 (val x.n), .int .u64 (val x.o), .int .u64 (val x.c), .int .u64 (val x.k), .int .u64 (val x.m), .int .u64 (val x.s)] 49) = w1 at *
    obtain ⟨m0, m1, m2, m3, m4, m5, m6⟩ := (MbB.mx M1).out
    have hb : b0 = true ∨ (b0 = false ∧ b1 = true) ∨ (b0 = false ∧ b1 = false ∧ b2 = true) ∨ (b0 = false ∧ b1 = false ∧ b2 = false ∧ b3 = true) ∨ (b0 = false ∧ b1 = false ∧ b2 = false ∧ b3 = false) := by
      cases b0 <;> cases b1 <;> cases b2 <;> cases b3 <;> simp
    rcases hb with rfl | ⟨rfl, rfl⟩ | ⟨rfl, rfl, rfl⟩ | ⟨rfl, rfl, rfl, rfl⟩ | ⟨rfl, rfl, rfl, rfl⟩
    all_goals
      go_wp2_with (first | ((with_reducible refine (H0.out _).mono ?_); rintro e w' ⟨rfl, rfl⟩) | ((with_reducible refine (H1.out _).mono ?_); rintro e w' ⟨rfl, rfl⟩) | ((with_reducible refine (H2.out _).mono ?_); rintro e w' ⟨rfl, rfl⟩) | ((with_reducible refine (H3.out _).mono ?_); rintro e w' ⟨rfl, rfl⟩) | ((with_reducible refine (H4.out _).mono ?_); rintro e w' ⟨rfl, rfl⟩))
      go_ret
      exact ⟨by rw [HB.out]; simp, B1.out⟩
  · have HF : Hid (hitAt xs i = false) := Lib.hid (by unfold hitAt; rw [List.getElem?_eq_none (by omega)])
    have hi2 : ¬ (i : Int) / 64 < xs.length := by omega
    clear hlt
    go_enter Tryd.func31, Tryd.ntmps31
    go_wp2
    go_ret
    exact ⟨by rw [HF.out]; rfl, (Below.refl w.heap.size w).alloc (Nat.le_refl _) _⟩
/-- the document's answer -/
theorem nx_ref {xs : List MS} {len i : Int} {j : Nat} (h0 : i.toNat ≤ j) (h1 : ∀ q, i.toNat ≤ q → q < j → hitAt xs q = false) :
    (j < len.toNat ∧ j < 64 * xs.length ∧ hitAt xs j = true → nxV xs len i = j) ∧ (¬ (j < len.toNat ∧ j < 64 * xs.length) → nxV xs len i = len.toNat) := by
  constructor
  · rintro ⟨a, b, c⟩
    rw [nx_hit h0 b c h1]; omega
  · intro h
    obtain ⟨a, b, c, d⟩ := least_spec (hitAt xs) (64 * xs.length - i.toNat) i.toNat
    unfold nxV
    by_cases hc : least (hitAt xs) i.toNat (64 * xs.length - i.toNat) < 64 * xs.length
    · rw [if_pos hc]
      have hd := d (by omega)
      have : ¬ least (hitAt xs) i.toNat (64 * xs.length - i.toNat) < j := fun hlt => by
        have := h1 _ a hlt
        rw [hd] at this; cases this
      omega
    · rw [if_neg hc]
set_option maxRecDepth 100000 in
set_option maxHeartbeats 2000000 in
theorem NextR_any (a : Option Addr) (cap : Nat) (xs : List MS) (len i : Int) (w : World) (hr : RdM w a xs) (hn : xs.length ≤ 2600000000000) (hl : -9223372036854775808 ≤ len ∧ len ≤ 9223372036854775807) (hi : -9223372036854775808 ≤ i ∧ i ≤ 9223372036854775807) :
    Calls Tryd.prog 19 #[.agg #[.slice a xs.length cap, .int .i64 len], .int .i64 i] w fun e w' => e = .returned (.int .i64 (nxV xs len i)) ∧ Below w.heap.size w w' := by
  have HR := Lib.hid hr
  clear hr
  obtain ⟨i0, hi0⟩ : ∃ n, i.toNat = n := ⟨_, rfl⟩
  have hi1 : i0 ≤ 9223372036854775807 := by omega
  have HNX := Lib.hid (fun j (h0 : i0 ≤ j) (h1 : ∀ q, i0 ≤ q → q < j → hitAt xs q = false) => nx_ref (xs := xs) (len := len) (i := i) (j := j) (by omega) (fun q a b => h1 q (by omega) b))
  have E1 := Lib.hid hi0
  clear hi0
  go_enter Tryd.func19, Tryd.ntmps19
  go_upto_region 1 with (fail)
  have I0 := Ix.mk w a xs.length cap len 27 (0, 0)
  have B0 := Lib.hid ((Below.refl w.heap.size w).alloc (Nat.le_refl _) (.cells #[.slice a xs.length cap, .int .i64 len] 27))
  have hlt0 : w.heap.size < (w.alloc (.cells #[.slice a xs.length cap, .int .i64 len] 27)).heap.size := by simp
  generalize w.alloc (.cells #[.slice a xs.length cap, .int .i64 len] 27) = w0 at *
  go_upto_if 6 with (fail)
  go_cut [1] (fun s wx => s = .int .i64 (i0 : Nat) ∧ w0 = wx)
  case first =>
    by_cases hneg : i < 0
    · have HZ : Hid (i0 = 0) := Lib.hid (by have := E1.out; omega)
      go_wp2
      go_meet
      exact ⟨by rw [HZ.out]; rfl, rfl⟩
    · have HZ : Hid ((i0 : Int) = i) := Lib.hid (by have := E1.out; omega)
      go_wp2
      go_meet
      exact ⟨by rw [HZ.out], rfl⟩
  case rest =>
    obtain ⟨rfl, rfl⟩ := hcut
    go_wp2_with fail
    go_loopw [1] (fun s1 wr => ∃ j : Nat, j ≤ 9223372036854775807 ∧ s1 = .int .i64 j ∧ Hid (i0 ≤ j ∧ ∀ q, i0 ≤ q → q < j → hitAt xs q = false) ∧ Hid (Below w.heap.size w wr) ∧ Hid (Ix wr w.heap.size a xs.length cap len)) (fun s1 _ => 64 * xs.length + 1 - (intOf s1).toNat)
    case atStart => exact ⟨i0, hi1, rfl, Lib.hid ⟨Nat.le_refl _, fun q a b => by omega⟩, B0, I0⟩
    case round =>
      obtain ⟨j, hj, rfl, HJ, BR, IR⟩ := hrel
      obtain ⟨x0, x1⟩ := IR.out
      have hn2 : (64 : Int) * xs.length ≤ 9223372036854775807 := by omega
      by_cases h1 : (j : Int) < len
      · by_cases h2 : (j : Int) < 64 * xs.length
        · have hst := Lib.hid (fun w' (h : RdM w' a xs) => stands_any a cap xs len j w' h hn hj)
          obtain ⟨hb, hhb⟩ : ∃ b, hitAt xs j = b := ⟨_, rfl⟩
          rw [hhb] at hst
          have HR2 := Lib.hid (HR.out.below BR.out)
          cases hb
          · have HJ2 : Hid (i0 ≤ j + 1 ∧ ∀ q, i0 ≤ q → q < j + 1 → hitAt xs q = false) := Lib.hid ⟨by have := HJ.out.1; omega, fun q a b => by
              rcases Nat.eq_or_lt_of_le (Nat.le_of_lt_succ b) with e | e
              · rw [e]; exact hhb
              · exact HJ.out.2 q a e⟩
            clear hhb
            go_wp2_with ((with_reducible refine (hst.out _ HR2.out).mono ?_); rintro e w2 ⟨rfl, hb2⟩; have BR2 := Lib.hid (BR.out.trans (hb2.mono BR.out.size)); have IR2 := Ix.below IR hb2; clear hb2)
            go_roundw
            case rel => exact ⟨j + 1, by omega, by go_num, HJ2, BR2, IR2⟩
            case measure => simp [intOf]; omega
          · have HV : Hid (nxV xs len i = j) := Lib.hid ((HNX.out j HJ.out.1 HJ.out.2).1 ⟨by omega, by omega, hhb⟩)
            clear hhb
            go_wp2_with ((with_reducible refine (hst.out _ HR2.out).mono ?_); rintro e w2 ⟨rfl, hb2⟩; have BR2 := Lib.hid (BR.out.trans (hb2.mono BR.out.size)); clear hb2)
            go_ret
            exact ⟨ret_int (by rw [HV.out]), BR2.out⟩
        · have HV : Hid (nxV xs len i = len.toNat) := Lib.hid ((HNX.out j HJ.out.1 HJ.out.2).2 (by omega))
          have h3 : ¬ len < 0 := by omega
          go_wp2
          go_ret
          exact ⟨ret_int (by rw [HV.out]; omega), BR.out⟩
      · have HV : Hid (nxV xs len i = len.toNat) := Lib.hid ((HNX.out j HJ.out.1 HJ.out.2).2 (by omega))
        by_cases h3 : len < 0
        · go_wp2
          go_ret
          exact ⟨ret_int (by rw [HV.out]; omega), BR.out⟩
        · go_wp2
          go_ret
          exact ⟨ret_int (by rw [HV.out]; omega), BR.out⟩
theorem Tb.drew {w : World} (h : Tb w) : Tb w.drew := h
theorem RdM.drew {w : World} {a : Option Addr} {xs : List MS} (h : RdM w a xs) : RdM w.drew a xs := h
set_option maxRecDepth 100000 in
set_option maxHeartbeats 2000000 in
theorem MarksNexts_any (a : Option Addr) (cap : Nat) (xs : List MS) (len i : Int) (w : World) (hT : Tb w) (hr : RdM w a xs) (hn : xs.length ≤ 2600000000000) (hl : -9223372036854775808 ≤ len ∧ len ≤ 9223372036854775807) (hi : -9223372036854775808 ≤ i ∧ i ≤ 9223372036854775807) :
    Calls Tryd.prog 6 #[.agg #[.slice a xs.length cap, .int .i64 len], .int .i64 i] w fun e w' => e = .returned (.bool true) ∧ Below w.heap.size w w' := by
  have HT := Lib.hid hT
  have HR := Lib.hid hr
  clear hT hr
  go_enter Tryd.func6, Tryd.ntmps6
  go_wp2_with fail
  have I0 := Ix.mk w a xs.length cap len 27 (0, 0)
  have B0 := Lib.hid ((Below.refl w.heap.size w).alloc (Nat.le_refl _) (.cells #[.slice a xs.length cap, .int .i64 len] 27))
  generalize w.alloc (.cells #[.slice a xs.length cap, .int .i64 len] 27) = w0 at *
  refine (shown_any _ (HT.out.below B0.out)).mono ?_
  rintro r w1 ⟨rfl, hb⟩
  have B1 := Lib.hid (B0.out.trans (hb.mono B0.out.size))
  have I1 := Ix.below I0 hb
  clear hb I0 B0
  have HR1 := Lib.hid (HR.out.below B1.out)
  have HT1 := Lib.hid (HT.out.below B1.out)
  have HN1 := Lib.hid (fun w' (hT' : Tb w') (h : RdM w' a xs) => Next_any a cap xs len i w' hT' h hn hl hi)
  have HN2 := Lib.hid (fun w' (h : RdM w' a xs) => NextR_any a cap xs len i w' h hn hl hi)
  generalize nxV xs len i = v at *
  go_wp2_with fail
  obtain ⟨x0, x1⟩ := I1.out
  go_region_held3 (fun w' => w'.cell? ⟨w.heap.size, 0, none⟩ = some (.slice a xs.length cap) ∧ w'.cell? ⟨w.heap.size, 1, none⟩ = some (.int .i64 len))
    (first | exact I3.out | exact I2.out | exact I1.out)
    (first
      | (go_at_call 18; refine (HN1.out _ HT1.out.drew HR1.out.drew).mono ?_; rintro e w2 ⟨rfl, hb⟩; have hb2 := (Below.refl w1.heap.size w1).drew.trans hb; have I2 := Ix.below I1 hb2; have HR2 := Lib.hid (HR1.out.below hb2))
      | (go_at_call 19; refine (HN2.out _ HR2.out).mono ?_; rintro e w3 ⟨rfl, hb3⟩; have I3 := Ix.below I2 hb3))
  have BR := B1.out.trans ((hb2.trans (hb3.mono hb2.size)).mono B1.out.size)
  go_wp2
  go_ret
  exact ⟨by simp, BR⟩
end Go.Proofs.YtibgejndlllhfaaDoor
