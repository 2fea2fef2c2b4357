/- Walks: timesIn. -/
import Derived.Test.YtimfpgpomafflaaGreatDoorLimbMaths
import Derived.Test.YtimfpgpomafflaaGreatDoorLimbM
namespace Go.Proofs.YtimfpgpomafflaaGreatDoor
open Go.RowKit LM Go.Shelf

set_option maxHeartbeats 1000000 in
theorem closure_any (i lo n m cy cw : Nat) (py pl pw : Addr) (ya wa : Option Addr) (y W : List Nat) (w : World) (hyn : y.length = n) (hWm : W.length = m) (hyW : y.length ≤ W.length) (hWl : W.length ≤ 4294967296) (hil : lo + i + 1 ≤ 1000000000) (hyl : Lo 1000000000 y) (hWlo : Lo 1000000000 W)
    (hlt : (lo + i + 1) * vl 1000000000 y < 1000000000 ^ W.length) (hry : Rd w .u32 ya y) (hrw : Rd w .u32 wa W) (hpy : w.cell? py = some (.slice ya n cy)) (hpl : w.cell? pl = some (.int .u64 lo)) (hpw : w.cell? pw = some (.slice wa m cw)) :
    Calls Tryz.prog 111 #[.int .i64 i, .pointer (some py), .pointer (some pl), .pointer (some pw)] w fun e w' => e = .returned (.bool (decide (vl 1000000000 W < (lo + i + 1) * vl 1000000000 y))) ∧ w = w' := by
  have hA := isAbove_any ya wa cy cw (lo + i + 1) y W w hyW hWl hil hyl hWlo hlt hry hrw
  rw [hyn, hWm] at hA
  have eI : ((lo + i + 1 : Nat) : Int) = (lo : Int) + (i : Int) + 1 := by omega
  rw [eI] at hA
  have HA := Lib.hid hA
  clear hA hyn hWm hyW hlt hyl hWlo eI
  go_enter Tryz.func111, Tryz.ntmps111
  go_wp2_with fail
  refine HA.out.mono ?_
  rintro e w' ⟨rfl, rfl⟩
  go_wp2
  go_ret
  exact ⟨rfl, rfl⟩

theorem grow_cell {w : World} {a : Addr} {v : Value} (m : Nat) (os : Array Obj) (h : w.cell? a = some v) : (Sort.grow (w.drewN m) os).cell? a = some v := by
  have hb : Below w.heap.size w (Sort.grow (w.drewN m) os) := Lib.below_grow w.heap.size w (Nat.le_refl _) m os
  rw [hb.cell (lt_of_cell h)]; exact h

set_option maxHeartbeats 4000000 in
/-- sort.Search at the closure of timesIn -/
theorem Search_at (lo hi n m cy cw : Nat) (py pl pw : Addr) (ya wa : Option Addr) (y W : List Nat) (w : World) (hyn : y.length = n) (hWm : W.length = m) (hyW : y.length + 1 ≤ W.length) (hWl : W.length ≤ 4294967296) (hhi : hi ≤ 1000000000) (hyl : Lo 1000000000 y) (hWlo : Lo 1000000000 W)
    (hy0 : 0 < vl 1000000000 y) (h1 : lo ≤ vl 1000000000 W / vl 1000000000 y) (h2 : vl 1000000000 W / vl 1000000000 y ≤ hi) (hry : Rd w .u32 ya y) (hrw : Rd w .u32 wa W) (hpy : w.cell? py = some (.slice ya n cy)) (hpl : w.cell? pl = some (.int .u64 lo)) (hpw : w.cell? pw = some (.slice wa m cw)) :
    Calls Tryz.prog 110 #[.int .i64 (hi - lo : Nat), .func (.func 111) #[] #[.pointer (some py), .pointer (some pl), .pointer (some pw)]] w fun e w' => e = .returned (.int .i64 (vl 1000000000 W / vl 1000000000 y - lo : Nat)) ∧ Below w.heap.size w w' := by
  have hS := Any.sort_Search Tryz.laysSearch 111 #[.pointer (some py), .pointer (some pl), .pointer (some pw)] (hi - lo) (fun i => decide (vl 1000000000 W < (lo + i + 1) * vl 1000000000 y)) w
    (enters_of Tryz.func111 (by kernel_rfl) rfl) (by omega) ?_ ?_
  · rw [search_count hy0 h1 h2] at hS
    exact hS.mono fun e w' ⟨he, q, os, hw⟩ => ⟨he, by rw [hw]; exact Lib.below_grow w.heap.size w (Nat.le_refl _) q os⟩
  · intro k os i hi'
    have hb : Below w.heap.size w (Sort.grow (w.drewN k) os) := Lib.below_grow w.heap.size w (Nat.le_refl _) k os
    have hlt : (lo + i + 1) * vl 1000000000 y < 1000000000 ^ W.length := by
      have h3 := vl_lt hyl
      have h4 : (lo + i + 1) * vl 1000000000 y ≤ 1000000000 * vl 1000000000 y := Nat.mul_le_mul_right _ (by omega)
      have h5 : 1000000000 * 1000000000 ^ y.length ≤ 1000000000 ^ W.length := by
        rw [Nat.mul_comm, ← Nat.pow_succ]; exact Nat.pow_le_pow_right (by omega) hyW
      have h6 := (Nat.mul_lt_mul_left (show 0 < 1000000000 by omega)).2 h3
      omega
    have hC := closure_any i lo n m cy cw py pl pw ya wa y W (Sort.grow (w.drewN k) os) hyn hWm (by omega) hWl (by omega) hyl hWlo hlt (hry.below hb) (hrw.below hb) (grow_cell k os hpy) (grow_cell k os hpl) (grow_cell k os hpw)
    exact hC.mono fun e w' ⟨he, hw⟩ => ⟨he, 0, #[], by rw [← hw, Sort.grow_empty]; rfl⟩
  · intro a b hab hb ha
    simp only [decide_eq_true_eq] at ha ⊢
    exact Nat.lt_of_lt_of_le ha (Nat.mul_le_mul_right _ (by omega))

theorem small_T {T W3 : Nat} (h : 60000000 ≤ T ∨ W3 ≤ 18446744073709551615) (hW : W3 ≤ 999999999999999999999999999) : W3 / two64 ≤ T := by
  unfold two64
  rcases h with h | h
  · omega
  · have : W3 / 18446744073709551616 = 0 := Nat.div_eq_of_lt (by omega)
    omega

theorem bounds_any (T : Nat) (HD : DivP T) (ya wa : Option Addr) (cy cw n : Nat) (y W : List Nat) (w : World) (hyn : y.length = n + 1) (hWn : W.length = n + 2) (hn : n ≤ 4294967296) (hyl : Lo 1000000000 y) (hWlo : Lo 1000000000 W)
    (hry : Rd w .u32 ya y) (hrw : Rd w .u32 wa W) (hy1 : 1 ≤ y[n]?.getD 0) (hlt : vl 1000000000 W < 1000000000 * vl 1000000000 y) (hT : 60000000 ≤ T ∨ y[n]?.getD 0 ≤ 15) :
    Calls Tryz.prog 109 #[.slice wa (n + 2) cw, .slice ya (n + 1) cy] w fun e w' => ∃ lo hi : Nat, lo ≤ hi ∧ hi ≤ 1000000000 ∧ Hid (lo ≤ vl 1000000000 W / vl 1000000000 y) ∧ Hid (vl 1000000000 W / vl 1000000000 y ≤ hi) ∧ e = .returned (.tuple #[.int .u64 lo, .int .u64 hi]) ∧ Below w.heap.size w w' := by
  cases n with
  | zero =>
    obtain ⟨h1, h2, h3, h4⟩ := bnd_one hyn hWn hyl hWlo hlt hy1 rfl rfl
    have hx0 := Lo_get hWlo (by omega) 1
    have hx1 := Lo_get hWlo (by omega) 0
    have hB := bounds_one T HD ya wa cy cw y W w hyn hWn hyl hWlo hry hrw hy1 _ _ rfl rfl (small_T (hT.imp id (fun h => h4 h)) (by omega))
    refine hB.mono ?_
    rintro e w' ⟨lo, hi, hl, hh, he, hb⟩
    have hl' := hl.out; have hh' := hh.out
    exact ⟨lo, hi, by omega, by omega, (by omega : lo ≤ vl 1000000000 W / vl 1000000000 y), (by omega : vl 1000000000 W / vl 1000000000 y ≤ hi), he, hb⟩
  | succ m =>
    obtain ⟨h1, h2, h3, h4⟩ := bnd_many hyn hWn hyl hWlo hlt hy1 rfl rfl
    have hx0 := Lo_get hWlo (by omega) (m + 2)
    have hx1 := Lo_get hWlo (by omega) (m + 1)
    have hx2 := Lo_get hWlo (by omega) m
    have hB := bounds_many T HD ya wa cy cw m y W w hyn hWn (by omega) hyl hWlo hry hrw hy1 _ _ rfl rfl (small_T (hT.imp id (fun h => h4 h)) (by omega))
    refine hB.mono ?_
    rintro e w' ⟨lo, hi, hl, hh, he, hb⟩
    have hl' := hl.out; have hh' := hh.out
    exact ⟨lo, hi, by omega, by omega, (by omega : lo ≤ vl 1000000000 W / vl 1000000000 y), (by omega : vl 1000000000 W / vl 1000000000 y ≤ hi), he, hb⟩

set_option maxHeartbeats 4000000 in
/-- timesIn: how many times y goes into the window -/
theorem timesIn_any (T : Nat) (HD : DivP T) (ya wa : Option Addr) (cy cw n : Nat) (y W : List Nat) (w : World) (hyn : y.length = n + 1) (hWn : W.length = n + 2) (hn : n ≤ 1073741825) (hyl : Lo 1000000000 y) (hWlo : Lo 1000000000 W)
    (hry : Rd w .u32 ya y) (hrw : Rd w .u32 wa W) (hy1 : 1 ≤ y[n]?.getD 0) (hlt : vl 1000000000 W < 1000000000 * vl 1000000000 y) (hT : 60000000 ≤ T ∨ y[n]?.getD 0 ≤ 15) :
    Calls Tryz.prog 79 #[.slice wa (n + 2) cw, .slice ya (n + 1) cy] w fun e w' => e = .returned (.int .u64 (vl 1000000000 W / vl 1000000000 y : Nat)) ∧ Below w.heap.size w w' := by
  have hy0 : 0 < vl 1000000000 y := by
    rcases Nat.eq_zero_or_pos (vl 1000000000 y) with e | e
    · rw [e] at hlt; omega
    · exact e
  have HB := Lib.hid (fun w h1 h2 => bounds_any T HD ya wa cy cw n y W w hyn hWn (by omega) hyl hWlo h1 h2 hy1 hlt hT)
  have HS := Lib.hid (fun lo hi py pl pw w h1 h2 h3 h4 h5 h6 h7 h8 => Search_at lo hi (n + 1) (n + 2) cy cw py pl pw ya wa y W w hyn hWn (by omega) (by omega) h3 hyl hWlo hy0 h1 h2 h4 h5 h6 h7 h8)
  clear HD hyl hWlo hy1 hT hyn hWn hy0
  have HRY := Lib.hid hry; have HRW := Lib.hid hrw; have HLT := Lib.hid hlt
  clear hry hrw hlt
  go_enter Tryz.func79, Tryz.ntmps79
  go_wp2_with fail
  refine (HB.out _ ((HRY.out.alloc _).alloc _) ((HRW.out.alloc _).alloc _)).mono ?_
  rintro e w1 ⟨lo, hi, hlh, hhi, HL, HH, rfl, hb1⟩
  have hsz : w.heap.size + 2 ≤ w1.heap.size := by have := hb1.size; simpa using this
  have hcw : w1.cell? ⟨w.heap.size, 0, none⟩ = some (.slice wa (n + 2) cw) := by
    rw [hb1.cell (by first | (simp; omega) | simp)]; simp
  have hcy : w1.cell? ⟨w.heap.size + 1, 0, none⟩ = some (.slice ya (n + 1) cy) := by
    rw [hb1.cell (by first | (simp; omega) | simp)]; simp
  have hry1 : Rd w1 .u32 ya y := ((HRY.out.alloc _).alloc _).below hb1
  have hrw1 : Rd w1 .u32 wa W := ((HRW.out.alloc _).alloc _).below hb1
  have hbw : Below w.heap.size w w1 := (((Below.refl w.heap.size w).alloc (Nat.le_refl _) _).alloc (by simp) _).trans (hb1.mono (by simp; omega))
  have hcw2 : ∀ o, (w1.alloc o).cell? ⟨w.heap.size, 0, none⟩ = some (.slice wa (n + 2) cw) := fun o => by rw [World.cell?_alloc_past _ _ _ (by show w.heap.size < w1.heap.size; omega)]; exact hcw
  have hcy2 : ∀ o, (w1.alloc o).cell? ⟨w.heap.size + 1, 0, none⟩ = some (.slice ya (n + 1) cy) := fun o => by rw [World.cell?_alloc_past _ _ _ (by show w.heap.size + 1 < w1.heap.size; omega)]; exact hcy
  have hS := HS.out lo hi ⟨w.heap.size + 1, 0, none⟩ ⟨w1.heap.size, 0, none⟩ ⟨w.heap.size, 0, none⟩ (w1.alloc (.cells #[.int .u64 lo] 74)) HL.out HH.out hhi (hry1.alloc _) (hrw1.alloc _) (hcy2 _) (by simp) (hcw2 _)
  rw [show ((hi - lo : Nat) : Int) = (hi : Int) - (lo : Int) by omega, show ((vl 1000000000 W / vl 1000000000 y - lo : Nat) : Int) = ((vl 1000000000 W / vl 1000000000 y : Nat) : Int) - (lo : Int) by have := HL.out; omega] at hS
  have hq : (((vl 1000000000 W / vl 1000000000 y : Nat)) : Int) ≤ (hi : Int) := by have := HH.out; omega
  have hq0 : (lo : Int) ≤ ((vl 1000000000 W / vl 1000000000 y : Nat) : Int) := by have := HL.out; omega
  obtain ⟨q, hqe⟩ : ∃ q, q = vl 1000000000 W / vl 1000000000 y := ⟨_, rfl⟩
  rw [← hqe] at hS hq hq0
  have HQE := Lib.hid hqe
  clear hqe
  have HSS := Lib.hid hS
  clear hS HS HB hb1 hry1 hrw1 hcy2 hcw2
  go_wp2_with fail
  refine HSS.out.mono ?_
  rintro e w2 ⟨rfl, hb2⟩
  have hlow : w2.cell? ⟨w1.heap.size, 0, none⟩ = some (.int .u64 (lo : Int)) := by rw [hb2.cell (by simp)]; simp
  go_wp2
  go_ret
  exact ⟨ret_int (by rw [← HQE.out]; omega), hbw.trans (((Below.refl w.heap.size w1).alloc hbw.size _).trans (hb2.mono (by simp; omega)))⟩
end Go.Proofs.YtimfpgpomafflaaGreatDoor
