/- quot: rounding of a quotient. -/
import Derived.Test.YtimfpgpomafflaaGreatDoorQuotA
import Derived.Deep.RegionHeld3
namespace Go.Proofs.YtimfpgpomafflaaGreatDoor
open Go.RowKit LM

/-- whether the quotient has no rest: the closure over the box -/
theorem isExact_any (b : Nat) (n c : Nat) (a : Option Addr) (w : World) (h1 : w.cell? ⟨b, 1, none⟩ = some (.slice a n c)) : Calls Tryz.prog 106 #[.pointer (some ⟨b, 0, none⟩)] w fun r w' => r = .returned (.bool ((n : Int) == 0)) ∧ w = w' := by
  go_enter Tryz.func106, Tryz.ntmps106
  go_wp2
  go_ret
  exact ⟨by simp, rfl⟩

def ResRd (v : Nat) (w : World) (r : Ending) (w' : World) : Prop := ∃ a c, r = .returned (.slice a (dg 1000000000 v).length c) ∧ Rd w' .u32 a (dg 1000000000 v) ∧ Below w.heap.size w w'
theorem cmpN_ge {u v : Nat} : (0 : Int) ≤ cmpN u v ↔ v ≤ u := by
  unfold cmpN
  by_cases h1 : u < v
  · rw [if_pos h1]; constructor <;> intro h <;> omega
  · rw [if_neg h1]; constructor
    · intro _; omega
    · intro _; split <;> omega
theorem cmpN_eq {u v : Nat} : cmpN u v = 0 ↔ u = v := by
  unfold cmpN
  by_cases h1 : u < v
  · rw [if_pos h1]; constructor <;> intro h <;> omega
  · rw [if_neg h1]
    by_cases h2 : v < u
    · rw [if_pos h2]; constructor <;> intro h <;> omega
    · rw [if_neg h2]; constructor <;> intro h <;> omega
theorem dg_one9 : dg 1000000000 1 = [1] := by rw [dg_pos (by omega) (by omega)]; simp [dg_zero]
set_option maxHeartbeats 8000000 in
theorem round_0 (neg : Bool) (q r d : Nat) (a1 a2 a3 : Option Addr) (c1 c2 c3 : Nat) (w : World) (hr : (dg 1000000000 r).length ≤ 50000) (hrr : (dg 1000000000 (r + r)).length ≤ 100000) (hd : (dg 1000000000 d).length ≤ 100000) (r1 : Rd w .u32 a1 (dg 1000000000 q)) (r2 : Rd w .u32 a2 (dg 1000000000 r)) (r3 : Rd w .u32 a3 (dg 1000000000 d)) :
    Calls Tryz.prog 73 #[.agg #[.slice a1 (dg 1000000000 q).length c1, .slice a2 (dg 1000000000 r).length c2, .slice a3 (dg 1000000000 d).length c3], .int .i64 0, .bool neg] w (ResRd (rnd 0 neg q r d) w) := by
  have e0 : rnd 0 neg q r d = q := rfl
  rw [e0]
  have hA := fun W hb => add9 r r a2 a2 c2 c2 W (by omega) (by omega) (r2.below' (w' := W) hb (Nat.le_refl _)) (r2.below' (w' := W) hb (Nat.le_refl _))
  have hC := fun a c W ra hb => cmp9 (r + r) d a a3 c c3 W hrr hd ra (r3.below' (w' := W) hb (Nat.le_refl _))
  have HA := Lib.hid hA; have HC := Lib.hid hC
  have HR1 := Lib.hid r1
  clear hA hC r1 r2 r3 hr hrr hd
  generalize (dg 1000000000 r).length = nr at *
  generalize (dg 1000000000 d).length = nd at *
  generalize cmpN (r + r) d = half at *
  go_enter Tryz.func73, Tryz.ntmps73
  have k0 : (w.alloc (.cells #[.slice a1 (dg 1000000000 q).length c1, .slice a2 nr c2, .slice a3 nd c3] 95)).cell? ⟨w.heap.size, 0, none⟩ = some (.slice a1 (dg 1000000000 q).length c1) := by simp
  have k1 : (w.alloc (.cells #[.slice a1 (dg 1000000000 q).length c1, .slice a2 nr c2, .slice a3 nd c3] 95)).cell? ⟨w.heap.size, 1, none⟩ = some (.slice a2 nr c2) := by simp
  have k2 : (w.alloc (.cells #[.slice a1 (dg 1000000000 q).length c1, .slice a2 nr c2, .slice a3 nd c3] 95)).cell? ⟨w.heap.size, 2, none⟩ = some (.slice a3 nd c3) := by simp
  have bb := (Below.refl w.heap.size w).alloc (Nat.le_refl _) (.cells #[.slice a1 (dg 1000000000 q).length c1, .slice a2 nr c2, .slice a3 nd c3] 95)
  go_wp2_with fail
  go_region_held3 (fun w' => w'.cell? ⟨w.heap.size, 1, none⟩ = some (.slice a2 nr c2) ∧ w'.cell? ⟨w.heap.size, 2, none⟩ = some (.slice a3 nd c3)) (first | exact ⟨k1, k2⟩ | exact ⟨j1, j2⟩ | exact ⟨i1, i2⟩ | go_keep)
    (first
      | (go_at_call 64; refine (HA.out _ bb.drew).mono ?_; rintro e w2 ⟨a4, c4, rfl, ho, hb⟩; have bb2 := bb.drew.trans (hb.mono bb.size); have j0 : w2.cell? ⟨w.heap.size, 0, none⟩ = some (.slice a1 (dg 1000000000 q).length c1) := (by rw [hb.cell (lt_of_cell k0)]; exact k0); have j1 : w2.cell? ⟨w.heap.size, 1, none⟩ = some (.slice a2 nr c2) := (by rw [hb.cell (lt_of_cell k1)]; exact k1); have j2 : w2.cell? ⟨w.heap.size, 2, none⟩ = some (.slice a3 nd c3) := (by rw [hb.cell (lt_of_cell k2)]; exact k2))
      | (go_at_call 56; refine (HC.out _ _ _ ho.rd bb2).mono ?_; rintro e w3 ⟨rfl, hb3⟩; have bb3 := bb2.trans (hb3.mono bb2.size); have i0 := cellB j0 hb3; have i1 := cellB j1 hb3; have i2 := cellB j2 hb3))
  have B3 := Lib.hid bb3
  clear k0 k1 k2 bb bb2 bb3 j0 j1 j2 hb hb3 ho
  go_wp2
  go_ret
  exact ⟨a1, c1, rfl, HR1.out.below' B3.out (Nat.le_refl _), B3.out⟩
/-- a row that holds 1 -/
theorem addOne (q : Nat) (a1 : Option Addr) (c1 g : Nat) (W : World) (hq : (dg 1000000000 q).length ≤ 100000) (hr : Rd W .u32 a1 (dg 1000000000 q)) (hc : W.cell? ⟨g, 0, none⟩ = some (.int .u32 1)) :
    Calls Tryz.prog 64 #[.slice a1 (dg 1000000000 q).length c1, .slice (some ⟨g, 0, none⟩) 1 1] W (ResRd (q + 1) W) := by
  have h1 : Rd W .u32 (some ⟨g, 0, none⟩) (dg 1000000000 1) := by
    rw [dg_one9]
    intro j hj
    obtain rfl : j = 0 := by simpa using hj
    exact ⟨g, 0, rfl, hc⟩
  have h := add9 q 1 a1 (some ⟨g, 0, none⟩) c1 1 W hq (by rw [dg_one9]; simp) hr h1
  rw [dg_one9] at h
  exact h.mono fun e w' ⟨a, c, he, ho, hb⟩ => ⟨a, c, he, ho.rd, hb⟩

set_option maxHeartbeats 8000000 in
theorem round_1_no (neg : Bool) (q r d : Nat) (a1 a2 a3 : Option Addr) (c1 c2 c3 : Nat) (w : World) (hq : (dg 1000000000 q).length ≤ 100000) (hr : (dg 1000000000 r).length ≤ 50000) (hrr : (dg 1000000000 (r + r)).length ≤ 100000) (hd : (dg 1000000000 d).length ≤ 100000) (r1 : Rd w .u32 a1 (dg 1000000000 q)) (r2 : Rd w .u32 a2 (dg 1000000000 r)) (r3 : Rd w .u32 a3 (dg 1000000000 d)) :
    Calls Tryz.prog 73 #[.agg #[.slice a1 (dg 1000000000 q).length c1, .slice a2 (dg 1000000000 r).length c2, .slice a3 (dg 1000000000 d).length c3], .int .i64 1, .bool false] w (ResRd (rnd 1 false q r d) w) := by
  have e0 : rnd 1 false q r d = q := by unfold rnd away; simp
  rw [e0]
  have hA := fun W hb => add9 r r a2 a2 c2 c2 W (by omega) (by omega) (r2.below' (w' := W) hb (Nat.le_refl _)) (r2.below' (w' := W) hb (Nat.le_refl _))
  have hC := fun a c W ra hb => cmp9 (r + r) d a a3 c c3 W hrr hd ra (r3.below' (w' := W) hb (Nat.le_refl _))
  have HA := Lib.hid hA; have HC := Lib.hid hC
  have HR1 := Lib.hid r1
  clear hA hC r1 r2 r3 hr hrr hd e0
  generalize (dg 1000000000 r).length = nr at *
  generalize (dg 1000000000 d).length = nd at *
  generalize cmpN (r + r) d = half at *
  go_enter Tryz.func73, Tryz.ntmps73
  have k0 : (w.alloc (.cells #[.slice a1 (dg 1000000000 q).length c1, .slice a2 nr c2, .slice a3 nd c3] 95)).cell? ⟨w.heap.size, 0, none⟩ = some (.slice a1 (dg 1000000000 q).length c1) := by simp
  have k1 : (w.alloc (.cells #[.slice a1 (dg 1000000000 q).length c1, .slice a2 nr c2, .slice a3 nd c3] 95)).cell? ⟨w.heap.size, 1, none⟩ = some (.slice a2 nr c2) := by simp
  have k2 : (w.alloc (.cells #[.slice a1 (dg 1000000000 q).length c1, .slice a2 nr c2, .slice a3 nd c3] 95)).cell? ⟨w.heap.size, 2, none⟩ = some (.slice a3 nd c3) := by simp
  have bb := (Below.refl w.heap.size w).alloc (Nat.le_refl _) (.cells #[.slice a1 (dg 1000000000 q).length c1, .slice a2 nr c2, .slice a3 nd c3] 95)
  go_wp2_with fail
  go_region_held3 (fun w' => w'.cell? ⟨w.heap.size, 1, none⟩ = some (.slice a2 nr c2) ∧ w'.cell? ⟨w.heap.size, 2, none⟩ = some (.slice a3 nd c3)) (first | exact ⟨k1, k2⟩ | exact ⟨j1, j2⟩ | exact ⟨i1, i2⟩ | go_keep)
    (first
      | (go_at_call 64; refine (HA.out _ bb.drew).mono ?_; rintro e w2 ⟨a4, c4, rfl, ho, hb⟩; have bb2 := bb.drew.trans (hb.mono bb.size); have j0 : w2.cell? ⟨w.heap.size, 0, none⟩ = some (.slice a1 (dg 1000000000 q).length c1) := (by rw [hb.cell (lt_of_cell k0)]; exact k0); have j1 : w2.cell? ⟨w.heap.size, 1, none⟩ = some (.slice a2 nr c2) := (by rw [hb.cell (lt_of_cell k1)]; exact k1); have j2 : w2.cell? ⟨w.heap.size, 2, none⟩ = some (.slice a3 nd c3) := (by rw [hb.cell (lt_of_cell k2)]; exact k2))
      | (go_at_call 56; refine (HC.out _ _ _ ho.rd bb2).mono ?_; rintro e w3 ⟨rfl, hb3⟩; have bb3 := bb2.trans (hb3.mono bb2.size); have i0 := cellB j0 hb3; have i1 := cellB j1 hb3; have i2 := cellB j2 hb3))
  have B3 := Lib.hid bb3
  clear k0 k1 k2 bb bb2 bb3 j0 j1 j2 hb hb3 ho
  have BL := B3
  go_wp2
  go_ret
  exact ⟨a1, c1, rfl, HR1.out.below' BL.out (Nat.le_refl _), BL.out⟩

set_option maxHeartbeats 8000000 in
theorem round_1_ex (neg : Bool) (q r d : Nat) (a1 a2 a3 : Option Addr) (c1 c2 c3 : Nat) (w : World) (hq : (dg 1000000000 q).length ≤ 100000) (hr : (dg 1000000000 r).length ≤ 50000) (hrr : (dg 1000000000 (r + r)).length ≤ 100000) (hd : (dg 1000000000 d).length ≤ 100000) (r1 : Rd w .u32 a1 (dg 1000000000 q)) (r2 : Rd w .u32 a2 (dg 1000000000 r)) (r3 : Rd w .u32 a3 (dg 1000000000 d)) (h0 : r = 0) :
    Calls Tryz.prog 73 #[.agg #[.slice a1 (dg 1000000000 q).length c1, .slice a2 (dg 1000000000 r).length c2, .slice a3 (dg 1000000000 d).length c3], .int .i64 1, .bool true] w (ResRd (rnd 1 true q r d) w) := by
  have e0 : rnd 1 true q r d = q := by unfold rnd away; simp [h0]
  rw [e0]
  have hA := fun W hb => add9 r r a2 a2 c2 c2 W (by omega) (by omega) (r2.below' (w' := W) hb (Nat.le_refl _)) (r2.below' (w' := W) hb (Nat.le_refl _))
  have hC := fun a c W ra hb => cmp9 (r + r) d a a3 c c3 W hrr hd ra (r3.below' (w' := W) hb (Nat.le_refl _))
  have HA := Lib.hid hA; have HC := Lib.hid hC
  have HR1 := Lib.hid r1
  clear hA hC r1 r2 r3 hr hrr hd e0
  generalize hnr : (dg 1000000000 r).length = nr at *
  generalize (dg 1000000000 d).length = nd at *
  generalize cmpN (r + r) d = half at *
  have hn : nr = 0 := by rw [← hnr, h0, dg_zero]; rfl
  have hx : ((nr : Int) == 0) = true := by rw [hn]; rfl
  clear hn hnr h0
  go_enter Tryz.func73, Tryz.ntmps73
  have k0 : (w.alloc (.cells #[.slice a1 (dg 1000000000 q).length c1, .slice a2 nr c2, .slice a3 nd c3] 95)).cell? ⟨w.heap.size, 0, none⟩ = some (.slice a1 (dg 1000000000 q).length c1) := by simp
  have k1 : (w.alloc (.cells #[.slice a1 (dg 1000000000 q).length c1, .slice a2 nr c2, .slice a3 nd c3] 95)).cell? ⟨w.heap.size, 1, none⟩ = some (.slice a2 nr c2) := by simp
  have k2 : (w.alloc (.cells #[.slice a1 (dg 1000000000 q).length c1, .slice a2 nr c2, .slice a3 nd c3] 95)).cell? ⟨w.heap.size, 2, none⟩ = some (.slice a3 nd c3) := by simp
  have bb := (Below.refl w.heap.size w).alloc (Nat.le_refl _) (.cells #[.slice a1 (dg 1000000000 q).length c1, .slice a2 nr c2, .slice a3 nd c3] 95)
  go_wp2_with fail
  go_region_held3 (fun w' => w'.cell? ⟨w.heap.size, 1, none⟩ = some (.slice a2 nr c2) ∧ w'.cell? ⟨w.heap.size, 2, none⟩ = some (.slice a3 nd c3)) (first | exact ⟨k1, k2⟩ | exact ⟨j1, j2⟩ | exact ⟨i1, i2⟩ | go_keep)
    (first
      | (go_at_call 64; refine (HA.out _ bb.drew).mono ?_; rintro e w2 ⟨a4, c4, rfl, ho, hb⟩; have bb2 := bb.drew.trans (hb.mono bb.size); have j0 : w2.cell? ⟨w.heap.size, 0, none⟩ = some (.slice a1 (dg 1000000000 q).length c1) := (by rw [hb.cell (lt_of_cell k0)]; exact k0); have j1 : w2.cell? ⟨w.heap.size, 1, none⟩ = some (.slice a2 nr c2) := (by rw [hb.cell (lt_of_cell k1)]; exact k1); have j2 : w2.cell? ⟨w.heap.size, 2, none⟩ = some (.slice a3 nd c3) := (by rw [hb.cell (lt_of_cell k2)]; exact k2))
      | (go_at_call 56; refine (HC.out _ _ _ ho.rd bb2).mono ?_; rintro e w3 ⟨rfl, hb3⟩; have bb3 := bb2.trans (hb3.mono bb2.size); have i0 := cellB j0 hb3; have i1 := cellB j1 hb3; have i2 := cellB j2 hb3))
  have B3 := Lib.hid bb3
  clear k0 k1 k2 bb bb2 bb3 j0 j1 j2 hb hb3 ho
  go_wp2_with fail
  refine (isExact_any w.heap.size nr c2 a2 _ i1).mono ?_
  rintro r w5 ⟨rfl, rfl⟩
  have BL := B3
  go_wp2
  go_ret
  exact ⟨a1, c1, rfl, HR1.out.below' BL.out (Nat.le_refl _), BL.out⟩

set_option maxHeartbeats 8000000 in
theorem round_1_aw (neg : Bool) (q r d : Nat) (a1 a2 a3 : Option Addr) (c1 c2 c3 : Nat) (w : World) (hq : (dg 1000000000 q).length ≤ 100000) (hr : (dg 1000000000 r).length ≤ 50000) (hrr : (dg 1000000000 (r + r)).length ≤ 100000) (hd : (dg 1000000000 d).length ≤ 100000) (r1 : Rd w .u32 a1 (dg 1000000000 q)) (r2 : Rd w .u32 a2 (dg 1000000000 r)) (r3 : Rd w .u32 a3 (dg 1000000000 d)) (h0 : ¬ r = 0) :
    Calls Tryz.prog 73 #[.agg #[.slice a1 (dg 1000000000 q).length c1, .slice a2 (dg 1000000000 r).length c2, .slice a3 (dg 1000000000 d).length c3], .int .i64 1, .bool true] w (ResRd (rnd 1 true q r d) w) := by
  have e0 : rnd 1 true q r d = q + 1 := by unfold rnd away; simp [h0]
  rw [e0]
  have hA := fun W hb => add9 r r a2 a2 c2 c2 W (by omega) (by omega) (r2.below' (w' := W) hb (Nat.le_refl _)) (r2.below' (w' := W) hb (Nat.le_refl _))
  have hC := fun a c W ra hb => cmp9 (r + r) d a a3 c c3 W hrr hd ra (r3.below' (w' := W) hb (Nat.le_refl _))
  have HA := Lib.hid hA; have HC := Lib.hid hC
  have HR1 := Lib.hid r1
  clear hA hC r1 r2 r3 hr hrr hd e0
  generalize hnr : (dg 1000000000 r).length = nr at *
  generalize (dg 1000000000 d).length = nd at *
  generalize cmpN (r + r) d = half at *
  have hn : 0 < nr := by rw [← hnr, dg_pos (by omega) (by omega)]; simp
  have hx : ((nr : Int) == 0) = false := by rw [beq_eq_false_iff_ne]; omega
  clear hn hnr h0
  go_enter Tryz.func73, Tryz.ntmps73
  have k0 : (w.alloc (.cells #[.slice a1 (dg 1000000000 q).length c1, .slice a2 nr c2, .slice a3 nd c3] 95)).cell? ⟨w.heap.size, 0, none⟩ = some (.slice a1 (dg 1000000000 q).length c1) := by simp
  have k1 : (w.alloc (.cells #[.slice a1 (dg 1000000000 q).length c1, .slice a2 nr c2, .slice a3 nd c3] 95)).cell? ⟨w.heap.size, 1, none⟩ = some (.slice a2 nr c2) := by simp
  have k2 : (w.alloc (.cells #[.slice a1 (dg 1000000000 q).length c1, .slice a2 nr c2, .slice a3 nd c3] 95)).cell? ⟨w.heap.size, 2, none⟩ = some (.slice a3 nd c3) := by simp
  have bb := (Below.refl w.heap.size w).alloc (Nat.le_refl _) (.cells #[.slice a1 (dg 1000000000 q).length c1, .slice a2 nr c2, .slice a3 nd c3] 95)
  go_wp2_with fail
  go_region_held3 (fun w' => w'.cell? ⟨w.heap.size, 1, none⟩ = some (.slice a2 nr c2) ∧ w'.cell? ⟨w.heap.size, 2, none⟩ = some (.slice a3 nd c3)) (first | exact ⟨k1, k2⟩ | exact ⟨j1, j2⟩ | exact ⟨i1, i2⟩ | go_keep)
    (first
      | (go_at_call 64; refine (HA.out _ bb.drew).mono ?_; rintro e w2 ⟨a4, c4, rfl, ho, hb⟩; have bb2 := bb.drew.trans (hb.mono bb.size); have j0 : w2.cell? ⟨w.heap.size, 0, none⟩ = some (.slice a1 (dg 1000000000 q).length c1) := (by rw [hb.cell (lt_of_cell k0)]; exact k0); have j1 : w2.cell? ⟨w.heap.size, 1, none⟩ = some (.slice a2 nr c2) := (by rw [hb.cell (lt_of_cell k1)]; exact k1); have j2 : w2.cell? ⟨w.heap.size, 2, none⟩ = some (.slice a3 nd c3) := (by rw [hb.cell (lt_of_cell k2)]; exact k2))
      | (go_at_call 56; refine (HC.out _ _ _ ho.rd bb2).mono ?_; rintro e w3 ⟨rfl, hb3⟩; have bb3 := bb2.trans (hb3.mono bb2.size); have i0 := cellB j0 hb3; have i1 := cellB j1 hb3; have i2 := cellB j2 hb3))
  have B3 := Lib.hid bb3
  clear k0 k1 k2 bb bb2 bb3 j0 j1 j2 hb hb3 ho
  go_wp2_with fail
  refine (isExact_any w.heap.size nr c2 a2 _ i1).mono ?_
  rintro r w5 ⟨rfl, rfl⟩
  have BL := B3
  go_wp2_with fail
  refine (addOne q a1 c1 _ _ hq (HR1.out.below' (BL.out.alloc BL.out.size _) (Nat.le_refl _)) (by simp)).mono ?_
  rintro r w9 ⟨a9, c9, rfl, r9, hb9⟩
  have R9 := Lib.hid r9; have B9 := Lib.hid ((BL.out.alloc BL.out.size (.cells #[.int .u32 1] 40)).trans (hb9.mono (by simp; have := BL.out.size; omega)))
  clear r9 hb9
  go_wp2
  go_ret
  exact ⟨a9, c9, rfl, R9.out, B9.out⟩

set_option maxHeartbeats 8000000 in
theorem round_2_no (neg : Bool) (q r d : Nat) (a1 a2 a3 : Option Addr) (c1 c2 c3 : Nat) (w : World) (hq : (dg 1000000000 q).length ≤ 100000) (hr : (dg 1000000000 r).length ≤ 50000) (hrr : (dg 1000000000 (r + r)).length ≤ 100000) (hd : (dg 1000000000 d).length ≤ 100000) (r1 : Rd w .u32 a1 (dg 1000000000 q)) (r2 : Rd w .u32 a2 (dg 1000000000 r)) (r3 : Rd w .u32 a3 (dg 1000000000 d)) :
    Calls Tryz.prog 73 #[.agg #[.slice a1 (dg 1000000000 q).length c1, .slice a2 (dg 1000000000 r).length c2, .slice a3 (dg 1000000000 d).length c3], .int .i64 2, .bool true] w (ResRd (rnd 2 true q r d) w) := by
  have e0 : rnd 2 true q r d = q := by unfold rnd away; simp
  rw [e0]
  have hA := fun W hb => add9 r r a2 a2 c2 c2 W (by omega) (by omega) (r2.below' (w' := W) hb (Nat.le_refl _)) (r2.below' (w' := W) hb (Nat.le_refl _))
  have hC := fun a c W ra hb => cmp9 (r + r) d a a3 c c3 W hrr hd ra (r3.below' (w' := W) hb (Nat.le_refl _))
  have HA := Lib.hid hA; have HC := Lib.hid hC
  have HR1 := Lib.hid r1
  clear hA hC r1 r2 r3 hr hrr hd e0
  generalize (dg 1000000000 r).length = nr at *
  generalize (dg 1000000000 d).length = nd at *
  generalize cmpN (r + r) d = half at *
  go_enter Tryz.func73, Tryz.ntmps73
  have k0 : (w.alloc (.cells #[.slice a1 (dg 1000000000 q).length c1, .slice a2 nr c2, .slice a3 nd c3] 95)).cell? ⟨w.heap.size, 0, none⟩ = some (.slice a1 (dg 1000000000 q).length c1) := by simp
  have k1 : (w.alloc (.cells #[.slice a1 (dg 1000000000 q).length c1, .slice a2 nr c2, .slice a3 nd c3] 95)).cell? ⟨w.heap.size, 1, none⟩ = some (.slice a2 nr c2) := by simp
  have k2 : (w.alloc (.cells #[.slice a1 (dg 1000000000 q).length c1, .slice a2 nr c2, .slice a3 nd c3] 95)).cell? ⟨w.heap.size, 2, none⟩ = some (.slice a3 nd c3) := by simp
  have bb := (Below.refl w.heap.size w).alloc (Nat.le_refl _) (.cells #[.slice a1 (dg 1000000000 q).length c1, .slice a2 nr c2, .slice a3 nd c3] 95)
  go_wp2_with fail
  go_region_held3 (fun w' => w'.cell? ⟨w.heap.size, 1, none⟩ = some (.slice a2 nr c2) ∧ w'.cell? ⟨w.heap.size, 2, none⟩ = some (.slice a3 nd c3)) (first | exact ⟨k1, k2⟩ | exact ⟨j1, j2⟩ | exact ⟨i1, i2⟩ | go_keep)
    (first
      | (go_at_call 64; refine (HA.out _ bb.drew).mono ?_; rintro e w2 ⟨a4, c4, rfl, ho, hb⟩; have bb2 := bb.drew.trans (hb.mono bb.size); have j0 : w2.cell? ⟨w.heap.size, 0, none⟩ = some (.slice a1 (dg 1000000000 q).length c1) := (by rw [hb.cell (lt_of_cell k0)]; exact k0); have j1 : w2.cell? ⟨w.heap.size, 1, none⟩ = some (.slice a2 nr c2) := (by rw [hb.cell (lt_of_cell k1)]; exact k1); have j2 : w2.cell? ⟨w.heap.size, 2, none⟩ = some (.slice a3 nd c3) := (by rw [hb.cell (lt_of_cell k2)]; exact k2))
      | (go_at_call 56; refine (HC.out _ _ _ ho.rd bb2).mono ?_; rintro e w3 ⟨rfl, hb3⟩; have bb3 := bb2.trans (hb3.mono bb2.size); have i0 := cellB j0 hb3; have i1 := cellB j1 hb3; have i2 := cellB j2 hb3))
  have B3 := Lib.hid bb3
  clear k0 k1 k2 bb bb2 bb3 j0 j1 j2 hb hb3 ho
  have BL := B3
  go_wp2
  go_ret
  exact ⟨a1, c1, rfl, HR1.out.below' BL.out (Nat.le_refl _), BL.out⟩

set_option maxHeartbeats 8000000 in
theorem round_2_ex (neg : Bool) (q r d : Nat) (a1 a2 a3 : Option Addr) (c1 c2 c3 : Nat) (w : World) (hq : (dg 1000000000 q).length ≤ 100000) (hr : (dg 1000000000 r).length ≤ 50000) (hrr : (dg 1000000000 (r + r)).length ≤ 100000) (hd : (dg 1000000000 d).length ≤ 100000) (r1 : Rd w .u32 a1 (dg 1000000000 q)) (r2 : Rd w .u32 a2 (dg 1000000000 r)) (r3 : Rd w .u32 a3 (dg 1000000000 d)) (h0 : r = 0) :
    Calls Tryz.prog 73 #[.agg #[.slice a1 (dg 1000000000 q).length c1, .slice a2 (dg 1000000000 r).length c2, .slice a3 (dg 1000000000 d).length c3], .int .i64 2, .bool false] w (ResRd (rnd 2 false q r d) w) := by
  have e0 : rnd 2 false q r d = q := by unfold rnd away; simp [h0]
  rw [e0]
  have hA := fun W hb => add9 r r a2 a2 c2 c2 W (by omega) (by omega) (r2.below' (w' := W) hb (Nat.le_refl _)) (r2.below' (w' := W) hb (Nat.le_refl _))
  have hC := fun a c W ra hb => cmp9 (r + r) d a a3 c c3 W hrr hd ra (r3.below' (w' := W) hb (Nat.le_refl _))
  have HA := Lib.hid hA; have HC := Lib.hid hC
  have HR1 := Lib.hid r1
  clear hA hC r1 r2 r3 hr hrr hd e0
  generalize hnr : (dg 1000000000 r).length = nr at *
  generalize (dg 1000000000 d).length = nd at *
  generalize cmpN (r + r) d = half at *
  have hn : nr = 0 := by rw [← hnr, h0, dg_zero]; rfl
  have hx : ((nr : Int) == 0) = true := by rw [hn]; rfl
  clear hn hnr h0
  go_enter Tryz.func73, Tryz.ntmps73
  have k0 : (w.alloc (.cells #[.slice a1 (dg 1000000000 q).length c1, .slice a2 nr c2, .slice a3 nd c3] 95)).cell? ⟨w.heap.size, 0, none⟩ = some (.slice a1 (dg 1000000000 q).length c1) := by simp
  have k1 : (w.alloc (.cells #[.slice a1 (dg 1000000000 q).length c1, .slice a2 nr c2, .slice a3 nd c3] 95)).cell? ⟨w.heap.size, 1, none⟩ = some (.slice a2 nr c2) := by simp
  have k2 : (w.alloc (.cells #[.slice a1 (dg 1000000000 q).length c1, .slice a2 nr c2, .slice a3 nd c3] 95)).cell? ⟨w.heap.size, 2, none⟩ = some (.slice a3 nd c3) := by simp
  have bb := (Below.refl w.heap.size w).alloc (Nat.le_refl _) (.cells #[.slice a1 (dg 1000000000 q).length c1, .slice a2 nr c2, .slice a3 nd c3] 95)
  go_wp2_with fail
  go_region_held3 (fun w' => w'.cell? ⟨w.heap.size, 1, none⟩ = some (.slice a2 nr c2) ∧ w'.cell? ⟨w.heap.size, 2, none⟩ = some (.slice a3 nd c3)) (first | exact ⟨k1, k2⟩ | exact ⟨j1, j2⟩ | exact ⟨i1, i2⟩ | go_keep)
    (first
      | (go_at_call 64; refine (HA.out _ bb.drew).mono ?_; rintro e w2 ⟨a4, c4, rfl, ho, hb⟩; have bb2 := bb.drew.trans (hb.mono bb.size); have j0 : w2.cell? ⟨w.heap.size, 0, none⟩ = some (.slice a1 (dg 1000000000 q).length c1) := (by rw [hb.cell (lt_of_cell k0)]; exact k0); have j1 : w2.cell? ⟨w.heap.size, 1, none⟩ = some (.slice a2 nr c2) := (by rw [hb.cell (lt_of_cell k1)]; exact k1); have j2 : w2.cell? ⟨w.heap.size, 2, none⟩ = some (.slice a3 nd c3) := (by rw [hb.cell (lt_of_cell k2)]; exact k2))
      | (go_at_call 56; refine (HC.out _ _ _ ho.rd bb2).mono ?_; rintro e w3 ⟨rfl, hb3⟩; have bb3 := bb2.trans (hb3.mono bb2.size); have i0 := cellB j0 hb3; have i1 := cellB j1 hb3; have i2 := cellB j2 hb3))
  have B3 := Lib.hid bb3
  clear k0 k1 k2 bb bb2 bb3 j0 j1 j2 hb hb3 ho
  go_wp2_with fail
  refine (isExact_any w.heap.size nr c2 a2 _ i1).mono ?_
  rintro r w5 ⟨rfl, rfl⟩
  have BL := B3
  go_wp2
  go_ret
  exact ⟨a1, c1, rfl, HR1.out.below' BL.out (Nat.le_refl _), BL.out⟩

set_option maxHeartbeats 8000000 in
theorem round_2_aw (neg : Bool) (q r d : Nat) (a1 a2 a3 : Option Addr) (c1 c2 c3 : Nat) (w : World) (hq : (dg 1000000000 q).length ≤ 100000) (hr : (dg 1000000000 r).length ≤ 50000) (hrr : (dg 1000000000 (r + r)).length ≤ 100000) (hd : (dg 1000000000 d).length ≤ 100000) (r1 : Rd w .u32 a1 (dg 1000000000 q)) (r2 : Rd w .u32 a2 (dg 1000000000 r)) (r3 : Rd w .u32 a3 (dg 1000000000 d)) (h0 : ¬ r = 0) :
    Calls Tryz.prog 73 #[.agg #[.slice a1 (dg 1000000000 q).length c1, .slice a2 (dg 1000000000 r).length c2, .slice a3 (dg 1000000000 d).length c3], .int .i64 2, .bool false] w (ResRd (rnd 2 false q r d) w) := by
  have e0 : rnd 2 false q r d = q + 1 := by unfold rnd away; simp [h0]
  rw [e0]
  have hA := fun W hb => add9 r r a2 a2 c2 c2 W (by omega) (by omega) (r2.below' (w' := W) hb (Nat.le_refl _)) (r2.below' (w' := W) hb (Nat.le_refl _))
  have hC := fun a c W ra hb => cmp9 (r + r) d a a3 c c3 W hrr hd ra (r3.below' (w' := W) hb (Nat.le_refl _))
  have HA := Lib.hid hA; have HC := Lib.hid hC
  have HR1 := Lib.hid r1
  clear hA hC r1 r2 r3 hr hrr hd e0
  generalize hnr : (dg 1000000000 r).length = nr at *
  generalize (dg 1000000000 d).length = nd at *
  generalize cmpN (r + r) d = half at *
  have hn : 0 < nr := by rw [← hnr, dg_pos (by omega) (by omega)]; simp
  have hx : ((nr : Int) == 0) = false := by rw [beq_eq_false_iff_ne]; omega
  clear hn hnr h0
  go_enter Tryz.func73, Tryz.ntmps73
  have k0 : (w.alloc (.cells #[.slice a1 (dg 1000000000 q).length c1, .slice a2 nr c2, .slice a3 nd c3] 95)).cell? ⟨w.heap.size, 0, none⟩ = some (.slice a1 (dg 1000000000 q).length c1) := by simp
  have k1 : (w.alloc (.cells #[.slice a1 (dg 1000000000 q).length c1, .slice a2 nr c2, .slice a3 nd c3] 95)).cell? ⟨w.heap.size, 1, none⟩ = some (.slice a2 nr c2) := by simp
  have k2 : (w.alloc (.cells #[.slice a1 (dg 1000000000 q).length c1, .slice a2 nr c2, .slice a3 nd c3] 95)).cell? ⟨w.heap.size, 2, none⟩ = some (.slice a3 nd c3) := by simp
  have bb := (Below.refl w.heap.size w).alloc (Nat.le_refl _) (.cells #[.slice a1 (dg 1000000000 q).length c1, .slice a2 nr c2, .slice a3 nd c3] 95)
  go_wp2_with fail
  go_region_held3 (fun w' => w'.cell? ⟨w.heap.size, 1, none⟩ = some (.slice a2 nr c2) ∧ w'.cell? ⟨w.heap.size, 2, none⟩ = some (.slice a3 nd c3)) (first | exact ⟨k1, k2⟩ | exact ⟨j1, j2⟩ | exact ⟨i1, i2⟩ | go_keep)
    (first
      | (go_at_call 64; refine (HA.out _ bb.drew).mono ?_; rintro e w2 ⟨a4, c4, rfl, ho, hb⟩; have bb2 := bb.drew.trans (hb.mono bb.size); have j0 : w2.cell? ⟨w.heap.size, 0, none⟩ = some (.slice a1 (dg 1000000000 q).length c1) := (by rw [hb.cell (lt_of_cell k0)]; exact k0); have j1 : w2.cell? ⟨w.heap.size, 1, none⟩ = some (.slice a2 nr c2) := (by rw [hb.cell (lt_of_cell k1)]; exact k1); have j2 : w2.cell? ⟨w.heap.size, 2, none⟩ = some (.slice a3 nd c3) := (by rw [hb.cell (lt_of_cell k2)]; exact k2))
      | (go_at_call 56; refine (HC.out _ _ _ ho.rd bb2).mono ?_; rintro e w3 ⟨rfl, hb3⟩; have bb3 := bb2.trans (hb3.mono bb2.size); have i0 := cellB j0 hb3; have i1 := cellB j1 hb3; have i2 := cellB j2 hb3))
  have B3 := Lib.hid bb3
  clear k0 k1 k2 bb bb2 bb3 j0 j1 j2 hb hb3 ho
  go_wp2_with fail
  refine (isExact_any w.heap.size nr c2 a2 _ i1).mono ?_
  rintro r w5 ⟨rfl, rfl⟩
  have BL := B3
  go_wp2_with fail
  refine (addOne q a1 c1 _ _ hq (HR1.out.below' (BL.out.alloc BL.out.size _) (Nat.le_refl _)) (by simp)).mono ?_
  rintro r w9 ⟨a9, c9, rfl, r9, hb9⟩
  have R9 := Lib.hid r9; have B9 := Lib.hid ((BL.out.alloc BL.out.size (.cells #[.int .u32 1] 40)).trans (hb9.mono (by simp; have := BL.out.size; omega)))
  clear r9 hb9
  go_wp2
  go_ret
  exact ⟨a9, c9, rfl, R9.out, B9.out⟩

set_option maxHeartbeats 8000000 in
theorem round_3_ge (neg : Bool) (q r d : Nat) (a1 a2 a3 : Option Addr) (c1 c2 c3 : Nat) (w : World) (hq : (dg 1000000000 q).length ≤ 100000) (hr : (dg 1000000000 r).length ≤ 50000) (hrr : (dg 1000000000 (r + r)).length ≤ 100000) (hd : (dg 1000000000 d).length ≤ 100000) (r1 : Rd w .u32 a1 (dg 1000000000 q)) (r2 : Rd w .u32 a2 (dg 1000000000 r)) (r3 : Rd w .u32 a3 (dg 1000000000 d)) (h0 : d ≤ 2 * r) :
    Calls Tryz.prog 73 #[.agg #[.slice a1 (dg 1000000000 q).length c1, .slice a2 (dg 1000000000 r).length c2, .slice a3 (dg 1000000000 d).length c3], .int .i64 3, .bool neg] w (ResRd (rnd 3 neg q r d) w) := by
  have e0 : rnd 3 neg q r d = q + 1 := by unfold rnd away; simp [h0]
  rw [e0]
  have hA := fun W hb => add9 r r a2 a2 c2 c2 W (by omega) (by omega) (r2.below' (w' := W) hb (Nat.le_refl _)) (r2.below' (w' := W) hb (Nat.le_refl _))
  have hC := fun a c W ra hb => cmp9 (r + r) d a a3 c c3 W hrr hd ra (r3.below' (w' := W) hb (Nat.le_refl _))
  have HA := Lib.hid hA; have HC := Lib.hid hC
  have HR1 := Lib.hid r1
  clear hA hC r1 r2 r3 hr hrr hd e0
  generalize (dg 1000000000 r).length = nr at *
  generalize (dg 1000000000 d).length = nd at *
  have hg : decide ((0 : Int) ≤ cmpN (r + r) d) = true := decide_eq_true (cmpN_ge.2 (by omega))
  generalize cmpN (r + r) d = half at *
  have hg2 : 0 ≤ half := of_decide_eq_true hg
  clear h0
  go_enter Tryz.func73, Tryz.ntmps73
  have k0 : (w.alloc (.cells #[.slice a1 (dg 1000000000 q).length c1, .slice a2 nr c2, .slice a3 nd c3] 95)).cell? ⟨w.heap.size, 0, none⟩ = some (.slice a1 (dg 1000000000 q).length c1) := by simp
  have k1 : (w.alloc (.cells #[.slice a1 (dg 1000000000 q).length c1, .slice a2 nr c2, .slice a3 nd c3] 95)).cell? ⟨w.heap.size, 1, none⟩ = some (.slice a2 nr c2) := by simp
  have k2 : (w.alloc (.cells #[.slice a1 (dg 1000000000 q).length c1, .slice a2 nr c2, .slice a3 nd c3] 95)).cell? ⟨w.heap.size, 2, none⟩ = some (.slice a3 nd c3) := by simp
  have bb := (Below.refl w.heap.size w).alloc (Nat.le_refl _) (.cells #[.slice a1 (dg 1000000000 q).length c1, .slice a2 nr c2, .slice a3 nd c3] 95)
  go_wp2_with fail
  go_region_held3 (fun w' => w'.cell? ⟨w.heap.size, 1, none⟩ = some (.slice a2 nr c2) ∧ w'.cell? ⟨w.heap.size, 2, none⟩ = some (.slice a3 nd c3)) (first | exact ⟨k1, k2⟩ | exact ⟨j1, j2⟩ | exact ⟨i1, i2⟩ | go_keep)
    (first
      | (go_at_call 64; refine (HA.out _ bb.drew).mono ?_; rintro e w2 ⟨a4, c4, rfl, ho, hb⟩; have bb2 := bb.drew.trans (hb.mono bb.size); have j0 : w2.cell? ⟨w.heap.size, 0, none⟩ = some (.slice a1 (dg 1000000000 q).length c1) := (by rw [hb.cell (lt_of_cell k0)]; exact k0); have j1 : w2.cell? ⟨w.heap.size, 1, none⟩ = some (.slice a2 nr c2) := (by rw [hb.cell (lt_of_cell k1)]; exact k1); have j2 : w2.cell? ⟨w.heap.size, 2, none⟩ = some (.slice a3 nd c3) := (by rw [hb.cell (lt_of_cell k2)]; exact k2))
      | (go_at_call 56; refine (HC.out _ _ _ ho.rd bb2).mono ?_; rintro e w3 ⟨rfl, hb3⟩; have bb3 := bb2.trans (hb3.mono bb2.size); have i0 := cellB j0 hb3; have i1 := cellB j1 hb3; have i2 := cellB j2 hb3))
  have B3 := Lib.hid bb3
  clear k0 k1 k2 bb bb2 bb3 j0 j1 j2 hb hb3 ho
  have BL := B3
  go_wp2_with fail
  refine (addOne q a1 c1 _ _ hq (HR1.out.below' (BL.out.alloc BL.out.size _) (Nat.le_refl _)) (by simp)).mono ?_
  rintro r w9 ⟨a9, c9, rfl, r9, hb9⟩
  have R9 := Lib.hid r9; have B9 := Lib.hid ((BL.out.alloc BL.out.size (.cells #[.int .u32 1] 40)).trans (hb9.mono (by simp; have := BL.out.size; omega)))
  clear r9 hb9
  go_wp2
  go_ret
  exact ⟨a9, c9, rfl, R9.out, B9.out⟩

set_option maxHeartbeats 8000000 in
theorem round_3_lt (neg : Bool) (q r d : Nat) (a1 a2 a3 : Option Addr) (c1 c2 c3 : Nat) (w : World) (hq : (dg 1000000000 q).length ≤ 100000) (hr : (dg 1000000000 r).length ≤ 50000) (hrr : (dg 1000000000 (r + r)).length ≤ 100000) (hd : (dg 1000000000 d).length ≤ 100000) (r1 : Rd w .u32 a1 (dg 1000000000 q)) (r2 : Rd w .u32 a2 (dg 1000000000 r)) (r3 : Rd w .u32 a3 (dg 1000000000 d)) (h0 : ¬ d ≤ 2 * r) :
    Calls Tryz.prog 73 #[.agg #[.slice a1 (dg 1000000000 q).length c1, .slice a2 (dg 1000000000 r).length c2, .slice a3 (dg 1000000000 d).length c3], .int .i64 3, .bool neg] w (ResRd (rnd 3 neg q r d) w) := by
  have e0 : rnd 3 neg q r d = q := by unfold rnd away; simp [h0]
  rw [e0]
  have hA := fun W hb => add9 r r a2 a2 c2 c2 W (by omega) (by omega) (r2.below' (w' := W) hb (Nat.le_refl _)) (r2.below' (w' := W) hb (Nat.le_refl _))
  have hC := fun a c W ra hb => cmp9 (r + r) d a a3 c c3 W hrr hd ra (r3.below' (w' := W) hb (Nat.le_refl _))
  have HA := Lib.hid hA; have HC := Lib.hid hC
  have HR1 := Lib.hid r1
  clear hA hC r1 r2 r3 hr hrr hd e0
  generalize (dg 1000000000 r).length = nr at *
  generalize (dg 1000000000 d).length = nd at *
  have hg : decide ((0 : Int) ≤ cmpN (r + r) d) = false := decide_eq_false (fun h => h0 (by have := cmpN_ge.1 h; omega))
  generalize cmpN (r + r) d = half at *
  have hg2 : ¬ 0 ≤ half := of_decide_eq_false hg
  clear h0
  go_enter Tryz.func73, Tryz.ntmps73
  have k0 : (w.alloc (.cells #[.slice a1 (dg 1000000000 q).length c1, .slice a2 nr c2, .slice a3 nd c3] 95)).cell? ⟨w.heap.size, 0, none⟩ = some (.slice a1 (dg 1000000000 q).length c1) := by simp
  have k1 : (w.alloc (.cells #[.slice a1 (dg 1000000000 q).length c1, .slice a2 nr c2, .slice a3 nd c3] 95)).cell? ⟨w.heap.size, 1, none⟩ = some (.slice a2 nr c2) := by simp
  have k2 : (w.alloc (.cells #[.slice a1 (dg 1000000000 q).length c1, .slice a2 nr c2, .slice a3 nd c3] 95)).cell? ⟨w.heap.size, 2, none⟩ = some (.slice a3 nd c3) := by simp
  have bb := (Below.refl w.heap.size w).alloc (Nat.le_refl _) (.cells #[.slice a1 (dg 1000000000 q).length c1, .slice a2 nr c2, .slice a3 nd c3] 95)
  go_wp2_with fail
  go_region_held3 (fun w' => w'.cell? ⟨w.heap.size, 1, none⟩ = some (.slice a2 nr c2) ∧ w'.cell? ⟨w.heap.size, 2, none⟩ = some (.slice a3 nd c3)) (first | exact ⟨k1, k2⟩ | exact ⟨j1, j2⟩ | exact ⟨i1, i2⟩ | go_keep)
    (first
      | (go_at_call 64; refine (HA.out _ bb.drew).mono ?_; rintro e w2 ⟨a4, c4, rfl, ho, hb⟩; have bb2 := bb.drew.trans (hb.mono bb.size); have j0 : w2.cell? ⟨w.heap.size, 0, none⟩ = some (.slice a1 (dg 1000000000 q).length c1) := (by rw [hb.cell (lt_of_cell k0)]; exact k0); have j1 : w2.cell? ⟨w.heap.size, 1, none⟩ = some (.slice a2 nr c2) := (by rw [hb.cell (lt_of_cell k1)]; exact k1); have j2 : w2.cell? ⟨w.heap.size, 2, none⟩ = some (.slice a3 nd c3) := (by rw [hb.cell (lt_of_cell k2)]; exact k2))
      | (go_at_call 56; refine (HC.out _ _ _ ho.rd bb2).mono ?_; rintro e w3 ⟨rfl, hb3⟩; have bb3 := bb2.trans (hb3.mono bb2.size); have i0 := cellB j0 hb3; have i1 := cellB j1 hb3; have i2 := cellB j2 hb3))
  have B3 := Lib.hid bb3
  clear k0 k1 k2 bb bb2 bb3 j0 j1 j2 hb hb3 ho
  have BL := B3
  go_wp2
  go_ret
  exact ⟨a1, c1, rfl, HR1.out.below' BL.out (Nat.le_refl _), BL.out⟩

set_option maxHeartbeats 8000000 in
theorem round_4_ge (neg : Bool) (q r d : Nat) (a1 a2 a3 : Option Addr) (c1 c2 c3 : Nat) (w : World) (hq : (dg 1000000000 q).length ≤ 100000) (hr : (dg 1000000000 r).length ≤ 50000) (hrr : (dg 1000000000 (r + r)).length ≤ 100000) (hd : (dg 1000000000 d).length ≤ 100000) (r1 : Rd w .u32 a1 (dg 1000000000 q)) (r2 : Rd w .u32 a2 (dg 1000000000 r)) (r3 : Rd w .u32 a3 (dg 1000000000 d)) (h0 : d < 2 * r) :
    Calls Tryz.prog 73 #[.agg #[.slice a1 (dg 1000000000 q).length c1, .slice a2 (dg 1000000000 r).length c2, .slice a3 (dg 1000000000 d).length c3], .int .i64 4, .bool neg] w (ResRd (rnd 4 neg q r d) w) := by
  have e0 : rnd 4 neg q r d = q + 1 := by unfold rnd away; simp [show ¬ 2 * r = d by omega, show d ≤ 2 * r by omega]
  rw [e0]
  have hA := fun W hb => add9 r r a2 a2 c2 c2 W (by omega) (by omega) (r2.below' (w' := W) hb (Nat.le_refl _)) (r2.below' (w' := W) hb (Nat.le_refl _))
  have hC := fun a c W ra hb => cmp9 (r + r) d a a3 c c3 W hrr hd ra (r3.below' (w' := W) hb (Nat.le_refl _))
  have HA := Lib.hid hA; have HC := Lib.hid hC
  have HR1 := Lib.hid r1
  clear hA hC r1 r2 r3 hr hrr hd e0
  generalize (dg 1000000000 r).length = nr at *
  generalize (dg 1000000000 d).length = nd at *
  have hg : decide ((0 : Int) ≤ cmpN (r + r) d) = true := decide_eq_true (cmpN_ge.2 (by omega))
  have hne : (cmpN (r + r) d == 0) = false := by rw [beq_eq_false_iff_ne]; intro h; have := cmpN_eq.1 h; omega
  generalize cmpN (r + r) d = half at *
  have hg2 : 0 ≤ half := of_decide_eq_true hg
  clear h0
  go_enter Tryz.func73, Tryz.ntmps73
  have k0 : (w.alloc (.cells #[.slice a1 (dg 1000000000 q).length c1, .slice a2 nr c2, .slice a3 nd c3] 95)).cell? ⟨w.heap.size, 0, none⟩ = some (.slice a1 (dg 1000000000 q).length c1) := by simp
  have k1 : (w.alloc (.cells #[.slice a1 (dg 1000000000 q).length c1, .slice a2 nr c2, .slice a3 nd c3] 95)).cell? ⟨w.heap.size, 1, none⟩ = some (.slice a2 nr c2) := by simp
  have k2 : (w.alloc (.cells #[.slice a1 (dg 1000000000 q).length c1, .slice a2 nr c2, .slice a3 nd c3] 95)).cell? ⟨w.heap.size, 2, none⟩ = some (.slice a3 nd c3) := by simp
  have bb := (Below.refl w.heap.size w).alloc (Nat.le_refl _) (.cells #[.slice a1 (dg 1000000000 q).length c1, .slice a2 nr c2, .slice a3 nd c3] 95)
  go_wp2_with fail
  go_region_held3 (fun w' => w'.cell? ⟨w.heap.size, 1, none⟩ = some (.slice a2 nr c2) ∧ w'.cell? ⟨w.heap.size, 2, none⟩ = some (.slice a3 nd c3)) (first | exact ⟨k1, k2⟩ | exact ⟨j1, j2⟩ | exact ⟨i1, i2⟩ | go_keep)
    (first
      | (go_at_call 64; refine (HA.out _ bb.drew).mono ?_; rintro e w2 ⟨a4, c4, rfl, ho, hb⟩; have bb2 := bb.drew.trans (hb.mono bb.size); have j0 : w2.cell? ⟨w.heap.size, 0, none⟩ = some (.slice a1 (dg 1000000000 q).length c1) := (by rw [hb.cell (lt_of_cell k0)]; exact k0); have j1 : w2.cell? ⟨w.heap.size, 1, none⟩ = some (.slice a2 nr c2) := (by rw [hb.cell (lt_of_cell k1)]; exact k1); have j2 : w2.cell? ⟨w.heap.size, 2, none⟩ = some (.slice a3 nd c3) := (by rw [hb.cell (lt_of_cell k2)]; exact k2))
      | (go_at_call 56; refine (HC.out _ _ _ ho.rd bb2).mono ?_; rintro e w3 ⟨rfl, hb3⟩; have bb3 := bb2.trans (hb3.mono bb2.size); have i0 := cellB j0 hb3; have i1 := cellB j1 hb3; have i2 := cellB j2 hb3))
  have B3 := Lib.hid bb3
  clear k0 k1 k2 bb bb2 bb3 j0 j1 j2 hb hb3 ho
  have BL := B3
  go_wp2_with fail
  refine (addOne q a1 c1 _ _ hq (HR1.out.below' (BL.out.alloc BL.out.size _) (Nat.le_refl _)) (by simp)).mono ?_
  rintro r w9 ⟨a9, c9, rfl, r9, hb9⟩
  have R9 := Lib.hid r9; have B9 := Lib.hid ((BL.out.alloc BL.out.size (.cells #[.int .u32 1] 40)).trans (hb9.mono (by simp; have := BL.out.size; omega)))
  clear r9 hb9
  go_wp2
  go_ret
  exact ⟨a9, c9, rfl, R9.out, B9.out⟩

set_option maxHeartbeats 8000000 in
theorem round_4_lt (neg : Bool) (q r d : Nat) (a1 a2 a3 : Option Addr) (c1 c2 c3 : Nat) (w : World) (hq : (dg 1000000000 q).length ≤ 100000) (hr : (dg 1000000000 r).length ≤ 50000) (hrr : (dg 1000000000 (r + r)).length ≤ 100000) (hd : (dg 1000000000 d).length ≤ 100000) (r1 : Rd w .u32 a1 (dg 1000000000 q)) (r2 : Rd w .u32 a2 (dg 1000000000 r)) (r3 : Rd w .u32 a3 (dg 1000000000 d)) (h0 : 2 * r < d) :
    Calls Tryz.prog 73 #[.agg #[.slice a1 (dg 1000000000 q).length c1, .slice a2 (dg 1000000000 r).length c2, .slice a3 (dg 1000000000 d).length c3], .int .i64 4, .bool neg] w (ResRd (rnd 4 neg q r d) w) := by
  have e0 : rnd 4 neg q r d = q := by unfold rnd away; simp [show ¬ 2 * r = d by omega, show ¬ d ≤ 2 * r by omega]
  rw [e0]
  have hA := fun W hb => add9 r r a2 a2 c2 c2 W (by omega) (by omega) (r2.below' (w' := W) hb (Nat.le_refl _)) (r2.below' (w' := W) hb (Nat.le_refl _))
  have hC := fun a c W ra hb => cmp9 (r + r) d a a3 c c3 W hrr hd ra (r3.below' (w' := W) hb (Nat.le_refl _))
  have HA := Lib.hid hA; have HC := Lib.hid hC
  have HR1 := Lib.hid r1
  clear hA hC r1 r2 r3 hr hrr hd e0
  generalize (dg 1000000000 r).length = nr at *
  generalize (dg 1000000000 d).length = nd at *
  have hg : decide ((0 : Int) ≤ cmpN (r + r) d) = false := decide_eq_false (fun h => by have := cmpN_ge.1 h; omega)
  have hne : (cmpN (r + r) d == 0) = false := by rw [beq_eq_false_iff_ne]; intro h; have := cmpN_eq.1 h; omega
  generalize cmpN (r + r) d = half at *
  have hg2 : ¬ 0 ≤ half := of_decide_eq_false hg
  clear h0
  go_enter Tryz.func73, Tryz.ntmps73
  have k0 : (w.alloc (.cells #[.slice a1 (dg 1000000000 q).length c1, .slice a2 nr c2, .slice a3 nd c3] 95)).cell? ⟨w.heap.size, 0, none⟩ = some (.slice a1 (dg 1000000000 q).length c1) := by simp
  have k1 : (w.alloc (.cells #[.slice a1 (dg 1000000000 q).length c1, .slice a2 nr c2, .slice a3 nd c3] 95)).cell? ⟨w.heap.size, 1, none⟩ = some (.slice a2 nr c2) := by simp
  have k2 : (w.alloc (.cells #[.slice a1 (dg 1000000000 q).length c1, .slice a2 nr c2, .slice a3 nd c3] 95)).cell? ⟨w.heap.size, 2, none⟩ = some (.slice a3 nd c3) := by simp
  have bb := (Below.refl w.heap.size w).alloc (Nat.le_refl _) (.cells #[.slice a1 (dg 1000000000 q).length c1, .slice a2 nr c2, .slice a3 nd c3] 95)
  go_wp2_with fail
  go_region_held3 (fun w' => w'.cell? ⟨w.heap.size, 1, none⟩ = some (.slice a2 nr c2) ∧ w'.cell? ⟨w.heap.size, 2, none⟩ = some (.slice a3 nd c3)) (first | exact ⟨k1, k2⟩ | exact ⟨j1, j2⟩ | exact ⟨i1, i2⟩ | go_keep)
    (first
      | (go_at_call 64; refine (HA.out _ bb.drew).mono ?_; rintro e w2 ⟨a4, c4, rfl, ho, hb⟩; have bb2 := bb.drew.trans (hb.mono bb.size); have j0 : w2.cell? ⟨w.heap.size, 0, none⟩ = some (.slice a1 (dg 1000000000 q).length c1) := (by rw [hb.cell (lt_of_cell k0)]; exact k0); have j1 : w2.cell? ⟨w.heap.size, 1, none⟩ = some (.slice a2 nr c2) := (by rw [hb.cell (lt_of_cell k1)]; exact k1); have j2 : w2.cell? ⟨w.heap.size, 2, none⟩ = some (.slice a3 nd c3) := (by rw [hb.cell (lt_of_cell k2)]; exact k2))
      | (go_at_call 56; refine (HC.out _ _ _ ho.rd bb2).mono ?_; rintro e w3 ⟨rfl, hb3⟩; have bb3 := bb2.trans (hb3.mono bb2.size); have i0 := cellB j0 hb3; have i1 := cellB j1 hb3; have i2 := cellB j2 hb3))
  have B3 := Lib.hid bb3
  clear k0 k1 k2 bb bb2 bb3 j0 j1 j2 hb hb3 ho
  have BL := B3
  go_wp2
  go_ret
  exact ⟨a1, c1, rfl, HR1.out.below' BL.out (Nat.le_refl _), BL.out⟩

set_option maxHeartbeats 8000000 in
theorem round_4_odd (neg : Bool) (q r d : Nat) (a1 a2 a3 : Option Addr) (c1 c2 c3 : Nat) (w : World) (hq : (dg 1000000000 q).length ≤ 100000) (hr : (dg 1000000000 r).length ≤ 50000) (hrr : (dg 1000000000 (r + r)).length ≤ 100000) (hd : (dg 1000000000 d).length ≤ 100000) (r1 : Rd w .u32 a1 (dg 1000000000 q)) (r2 : Rd w .u32 a2 (dg 1000000000 r)) (r3 : Rd w .u32 a3 (dg 1000000000 d)) (h0 : 2 * r = d) (h1 : q % 2 = 1) :
    Calls Tryz.prog 73 #[.agg #[.slice a1 (dg 1000000000 q).length c1, .slice a2 (dg 1000000000 r).length c2, .slice a3 (dg 1000000000 d).length c3], .int .i64 4, .bool neg] w (ResRd (rnd 4 neg q r d) w) := by
  have e0 : rnd 4 neg q r d = q + 1 := by unfold rnd away; simp [h0, h1]
  rw [e0]
  have hA := fun W hb => add9 r r a2 a2 c2 c2 W (by omega) (by omega) (r2.below' (w' := W) hb (Nat.le_refl _)) (r2.below' (w' := W) hb (Nat.le_refl _))
  have hC := fun a c W ra hb => cmp9 (r + r) d a a3 c c3 W hrr hd ra (r3.below' (w' := W) hb (Nat.le_refl _))
  have HA := Lib.hid hA; have HC := Lib.hid hC
  have HR1 := Lib.hid r1
  clear hA hC r1 r2 r3 hr hrr hd e0
  generalize (dg 1000000000 r).length = nr at *
  generalize (dg 1000000000 d).length = nd at *
  have hz : cmpN (r + r) d = 0 := cmpN_eq.2 (by omega)
  rw [hz] at HC
  have hod : decide (q % 2 = 1) = true := decide_eq_true h1
  clear h0 h1 hz
  go_enter Tryz.func73, Tryz.ntmps73
  have k0 : (w.alloc (.cells #[.slice a1 (dg 1000000000 q).length c1, .slice a2 nr c2, .slice a3 nd c3] 95)).cell? ⟨w.heap.size, 0, none⟩ = some (.slice a1 (dg 1000000000 q).length c1) := by simp
  have k1 : (w.alloc (.cells #[.slice a1 (dg 1000000000 q).length c1, .slice a2 nr c2, .slice a3 nd c3] 95)).cell? ⟨w.heap.size, 1, none⟩ = some (.slice a2 nr c2) := by simp
  have k2 : (w.alloc (.cells #[.slice a1 (dg 1000000000 q).length c1, .slice a2 nr c2, .slice a3 nd c3] 95)).cell? ⟨w.heap.size, 2, none⟩ = some (.slice a3 nd c3) := by simp
  have bb := (Below.refl w.heap.size w).alloc (Nat.le_refl _) (.cells #[.slice a1 (dg 1000000000 q).length c1, .slice a2 nr c2, .slice a3 nd c3] 95)
  go_wp2_with fail
  go_region_held3 (fun w' => w'.cell? ⟨w.heap.size, 1, none⟩ = some (.slice a2 nr c2) ∧ w'.cell? ⟨w.heap.size, 2, none⟩ = some (.slice a3 nd c3)) (first | exact ⟨k1, k2⟩ | exact ⟨j1, j2⟩ | exact ⟨i1, i2⟩ | go_keep)
    (first
      | (go_at_call 64; refine (HA.out _ bb.drew).mono ?_; rintro e w2 ⟨a4, c4, rfl, ho, hb⟩; have bb2 := bb.drew.trans (hb.mono bb.size); have j0 : w2.cell? ⟨w.heap.size, 0, none⟩ = some (.slice a1 (dg 1000000000 q).length c1) := (by rw [hb.cell (lt_of_cell k0)]; exact k0); have j1 : w2.cell? ⟨w.heap.size, 1, none⟩ = some (.slice a2 nr c2) := (by rw [hb.cell (lt_of_cell k1)]; exact k1); have j2 : w2.cell? ⟨w.heap.size, 2, none⟩ = some (.slice a3 nd c3) := (by rw [hb.cell (lt_of_cell k2)]; exact k2))
      | (go_at_call 56; refine (HC.out _ _ _ ho.rd bb2).mono ?_; rintro e w3 ⟨rfl, hb3⟩; have bb3 := bb2.trans (hb3.mono bb2.size); have i0 := cellB j0 hb3; have i1 := cellB j1 hb3; have i2 := cellB j2 hb3))
  have B3 := Lib.hid bb3
  clear k0 k1 k2 bb bb2 bb3 j0 j1 j2 hb hb3 ho
  go_wp2_with fail
  refine (isOdd_any q a1 c1 _ (HR1.out.below' B3.out (Nat.le_refl _))).mono ?_
  rintro r w5 ⟨rfl, rfl⟩
  have BL := B3
  go_wp2_with fail
  refine (addOne q a1 c1 _ _ hq (HR1.out.below' (BL.out.alloc BL.out.size _) (Nat.le_refl _)) (by simp)).mono ?_
  rintro r w9 ⟨a9, c9, rfl, r9, hb9⟩
  have R9 := Lib.hid r9; have B9 := Lib.hid ((BL.out.alloc BL.out.size (.cells #[.int .u32 1] 40)).trans (hb9.mono (by simp; have := BL.out.size; omega)))
  clear r9 hb9
  go_wp2
  go_ret
  exact ⟨a9, c9, rfl, R9.out, B9.out⟩

set_option maxHeartbeats 8000000 in
theorem round_4_even (neg : Bool) (q r d : Nat) (a1 a2 a3 : Option Addr) (c1 c2 c3 : Nat) (w : World) (hq : (dg 1000000000 q).length ≤ 100000) (hr : (dg 1000000000 r).length ≤ 50000) (hrr : (dg 1000000000 (r + r)).length ≤ 100000) (hd : (dg 1000000000 d).length ≤ 100000) (r1 : Rd w .u32 a1 (dg 1000000000 q)) (r2 : Rd w .u32 a2 (dg 1000000000 r)) (r3 : Rd w .u32 a3 (dg 1000000000 d)) (h0 : 2 * r = d) (h1 : ¬ q % 2 = 1) :
    Calls Tryz.prog 73 #[.agg #[.slice a1 (dg 1000000000 q).length c1, .slice a2 (dg 1000000000 r).length c2, .slice a3 (dg 1000000000 d).length c3], .int .i64 4, .bool neg] w (ResRd (rnd 4 neg q r d) w) := by
  have e0 : rnd 4 neg q r d = q := by unfold rnd away; simp [h0, h1]
  rw [e0]
  have hA := fun W hb => add9 r r a2 a2 c2 c2 W (by omega) (by omega) (r2.below' (w' := W) hb (Nat.le_refl _)) (r2.below' (w' := W) hb (Nat.le_refl _))
  have hC := fun a c W ra hb => cmp9 (r + r) d a a3 c c3 W hrr hd ra (r3.below' (w' := W) hb (Nat.le_refl _))
  have HA := Lib.hid hA; have HC := Lib.hid hC
  have HR1 := Lib.hid r1
  clear hA hC r1 r2 r3 hr hrr hd e0
  generalize (dg 1000000000 r).length = nr at *
  generalize (dg 1000000000 d).length = nd at *
  have hz : cmpN (r + r) d = 0 := cmpN_eq.2 (by omega)
  rw [hz] at HC
  have hod : decide (q % 2 = 1) = false := decide_eq_false h1
  clear h0 h1 hz
  go_enter Tryz.func73, Tryz.ntmps73
  have k0 : (w.alloc (.cells #[.slice a1 (dg 1000000000 q).length c1, .slice a2 nr c2, .slice a3 nd c3] 95)).cell? ⟨w.heap.size, 0, none⟩ = some (.slice a1 (dg 1000000000 q).length c1) := by simp
  have k1 : (w.alloc (.cells #[.slice a1 (dg 1000000000 q).length c1, .slice a2 nr c2, .slice a3 nd c3] 95)).cell? ⟨w.heap.size, 1, none⟩ = some (.slice a2 nr c2) := by simp
  have k2 : (w.alloc (.cells #[.slice a1 (dg 1000000000 q).length c1, .slice a2 nr c2, .slice a3 nd c3] 95)).cell? ⟨w.heap.size, 2, none⟩ = some (.slice a3 nd c3) := by simp
  have bb := (Below.refl w.heap.size w).alloc (Nat.le_refl _) (.cells #[.slice a1 (dg 1000000000 q).length c1, .slice a2 nr c2, .slice a3 nd c3] 95)
  go_wp2_with fail
  go_region_held3 (fun w' => w'.cell? ⟨w.heap.size, 1, none⟩ = some (.slice a2 nr c2) ∧ w'.cell? ⟨w.heap.size, 2, none⟩ = some (.slice a3 nd c3)) (first | exact ⟨k1, k2⟩ | exact ⟨j1, j2⟩ | exact ⟨i1, i2⟩ | go_keep)
    (first
      | (go_at_call 64; refine (HA.out _ bb.drew).mono ?_; rintro e w2 ⟨a4, c4, rfl, ho, hb⟩; have bb2 := bb.drew.trans (hb.mono bb.size); have j0 : w2.cell? ⟨w.heap.size, 0, none⟩ = some (.slice a1 (dg 1000000000 q).length c1) := (by rw [hb.cell (lt_of_cell k0)]; exact k0); have j1 : w2.cell? ⟨w.heap.size, 1, none⟩ = some (.slice a2 nr c2) := (by rw [hb.cell (lt_of_cell k1)]; exact k1); have j2 : w2.cell? ⟨w.heap.size, 2, none⟩ = some (.slice a3 nd c3) := (by rw [hb.cell (lt_of_cell k2)]; exact k2))
      | (go_at_call 56; refine (HC.out _ _ _ ho.rd bb2).mono ?_; rintro e w3 ⟨rfl, hb3⟩; have bb3 := bb2.trans (hb3.mono bb2.size); have i0 := cellB j0 hb3; have i1 := cellB j1 hb3; have i2 := cellB j2 hb3))
  have B3 := Lib.hid bb3
  clear k0 k1 k2 bb bb2 bb3 j0 j1 j2 hb hb3 ho
  go_wp2_with fail
  refine (isOdd_any q a1 c1 _ (HR1.out.below' B3.out (Nat.le_refl _))).mono ?_
  rintro r w5 ⟨rfl, rfl⟩
  have BL := B3
  go_wp2
  go_ret
  exact ⟨a1, c1, rfl, HR1.out.below' BL.out (Nat.le_refl _), BL.out⟩
theorem round_any (way : Nat) (hw : way ≤ 4) (neg : Bool) (q r d : Nat) (a1 a2 a3 : Option Addr) (c1 c2 c3 : Nat) (w : World) (hq : (dg 1000000000 q).length ≤ 100000) (hr : (dg 1000000000 r).length ≤ 50000) (hrr : (dg 1000000000 (r + r)).length ≤ 100000) (hd : (dg 1000000000 d).length ≤ 100000) (r1 : Rd w .u32 a1 (dg 1000000000 q)) (r2 : Rd w .u32 a2 (dg 1000000000 r)) (r3 : Rd w .u32 a3 (dg 1000000000 d)) :
    Calls Tryz.prog 73 #[.agg #[.slice a1 (dg 1000000000 q).length c1, .slice a2 (dg 1000000000 r).length c2, .slice a3 (dg 1000000000 d).length c3], .int .i64 way, .bool neg] w (ResRd (rnd way neg q r d) w) := by
  obtain rfl | rfl | rfl | rfl | rfl : way = 0 ∨ way = 1 ∨ way = 2 ∨ way = 3 ∨ way = 4 := by omega
  · exact round_0 neg q r d a1 a2 a3 c1 c2 c3 w hr hrr hd r1 r2 r3
  · rcases neg with _ | _
    · exact round_1_no true q r d a1 a2 a3 c1 c2 c3 w hq hr hrr hd r1 r2 r3
    · by_cases h : r = 0
      · exact round_1_ex true q r d a1 a2 a3 c1 c2 c3 w hq hr hrr hd r1 r2 r3 h
      · exact round_1_aw true q r d a1 a2 a3 c1 c2 c3 w hq hr hrr hd r1 r2 r3 h
  · rcases neg with _ | _
    · by_cases h : r = 0
      · exact round_2_ex true q r d a1 a2 a3 c1 c2 c3 w hq hr hrr hd r1 r2 r3 h
      · exact round_2_aw true q r d a1 a2 a3 c1 c2 c3 w hq hr hrr hd r1 r2 r3 h
    · exact round_2_no true q r d a1 a2 a3 c1 c2 c3 w hq hr hrr hd r1 r2 r3
  · by_cases h : d ≤ 2 * r
    · exact round_3_ge neg q r d a1 a2 a3 c1 c2 c3 w hq hr hrr hd r1 r2 r3 h
    · exact round_3_lt neg q r d a1 a2 a3 c1 c2 c3 w hq hr hrr hd r1 r2 r3 h
  · rcases Nat.lt_trichotomy d (2 * r) with h | h | h
    · exact round_4_ge neg q r d a1 a2 a3 c1 c2 c3 w hq hr hrr hd r1 r2 r3 h
    · by_cases h2 : q % 2 = 1
      · exact round_4_odd neg q r d a1 a2 a3 c1 c2 c3 w hq hr hrr hd r1 r2 r3 h.symm h2
      · exact round_4_even neg q r d a1 a2 a3 c1 c2 c3 w hq hr hrr hd r1 r2 r3 h.symm h2
    · exact round_4_lt neg q r d a1 a2 a3 c1 c2 c3 w hq hr hrr hd r1 r2 r3 h
end Go.Proofs.YtimfpgpomafflaaGreatDoor
