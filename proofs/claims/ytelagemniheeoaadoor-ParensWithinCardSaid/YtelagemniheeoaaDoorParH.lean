/- parens: Child walked. -/
import Derived.Test.YtelagemniheeoaaDoorParG
import Derived.Test.YtelagemniheeoaaDoorParF3
namespace Go.Proofs.YtelagemniheeoaaDoor
open Go.RowKit BM

/-- Child, as the program finds it -/
def chq (f : Nat → Bool) (n i k : Nat) : Int := seek (ex f) (ex f i + 1) (rst true n 0 ((i : Int) + 1)) k
def chl (f : Nat → Bool) (n : Nat) (i k : Int) : Int := if cls f n i < 0 ∨ k < 0 then -1 else if cls f n i ≤ chq f n i.toNat k.toNat then -1 else chq f n i.toNat k.toNat
def ChPre (b : Nat) (v : VD) (i : Int) (w : World) : Prop := VX0 w b v ∧ -9223372036854775808 ≤ i ∧ i ≤ 9223372036854775807
set_option maxHeartbeats 4000000 in
theorem Child_any (b : Nat) (v : VD) (i k : Int) (w : World) (hV : VX0 w b v) (hi : -9223372036854775808 ≤ i ∧ i ≤ 9223372036854775807) (hk : -9223372036854775808 ≤ k ∧ k ≤ 9223372036854775807) :
    Calls Tryd.prog 30 #[.pointer (some ⟨b, 0, none⟩), .int .i64 i, .int .i64 k] w (ResI (chl v.f v.n i k) w) := by
  have hC := fun W (hb : Below w.heap.size w W) => Close_any b v i W ⟨hV.1.below hb, hV.2⟩ hi
  have hn := hV.2.1.1.2.1
  have hb := cls_bd v.f v.n i
  unfold chl
  by_cases hc : cls v.f v.n i < 0
  · rw [if_pos (Or.inl hc)]
    generalize cls v.f v.n i = c at *
    have HC := Lib.hid hC
    clear hC hV hb hn
    have b1 := (Below.refl w.heap.size w).alloc (Nat.le_refl _) (.cells #[.int .i64 k] 3)
    have k0 : (w.alloc (.cells #[.int .i64 k] 3)).cell? ⟨w.heap.size, 0, none⟩ = some (.int .i64 k) := by simp
    have hdc : decide (c < 0) = true := by simpa using hc
    go_enter Tryd.func30, Tryd.ntmps30
    go_wp2_with fail
    refine (HC.out _ b1).mono ?_
    rintro r w1 ⟨rfl, hb1⟩
    replace k0 := cellP hb1 k0
    have b2 := b1.trans (hb1.mono b1.size)
    clear b1 hb1
    go_wp2
    go_ret
    exact ⟨rfl, b2⟩
  · obtain ⟨j, rfl⟩ : ∃ j : Nat, i = j := ⟨i.toNat, by omega⟩
    by_cases hk0 : k < 0
    · rw [if_pos (Or.inr hk0)]
      generalize cls v.f v.n (j : Int) = c at *
      have HC := Lib.hid hC
      clear hC hV hn
      have hdc : decide (c < 0) = false := by simpa using hc
      have b1 := (Below.refl w.heap.size w).alloc (Nat.le_refl _) (.cells #[.int .i64 k] 3)
      have k0 : (w.alloc (.cells #[.int .i64 k] 3)).cell? ⟨w.heap.size, 0, none⟩ = some (.int .i64 k) := by simp
      have hdk : decide (k < 0) = true := by simpa using hk0
      go_enter Tryd.func30, Tryd.ntmps30
      go_wp2_with fail
      refine (HC.out _ b1).mono ?_
      rintro r w1 ⟨rfl, hb1⟩
      replace k0 := cellP hb1 k0
      have b2 := b1.trans (hb1.mono b1.size)
      clear b1 hb1
      go_wp2
      go_ret
      exact ⟨rfl, b2⟩
    · obtain ⟨q, rfl⟩ : ∃ q : Nat, k = q := ⟨k.toNat, by omega⟩
      rw [if_neg (by omega), Int.toNat_natCast, Int.toNat_natCast]
      have hj : j < v.n := by omega
      have hE := fun W (hb : Below w.heap.size w W) => Excess_any b v j W (hV.1.below hb) hV.2.1.1
      rw [clp_nat (by omega)] at hE
      have hx := ex_bd v.f j
      have hF := fun (eb kb : Nat) (W : World) (hb : Below w.heap.size w W) (h1 : w.heap.size ≤ kb) (h2 : kb < W.heap.size) (hS : SS true (ex v.f j + 1) eb kb q W) => findF3_any b v ((j : Int) + 1) (ex v.f j + 1) eb kb q w W hV hb h1 h2 hS (by omega) (by unfold At; simp; omega) (by omega)
      have hq : ∀ kb W, ResF v true ((j : Int) + 1) (ex v.f j + 1) q w.heap.size kb W = fun r w' => r = .returned (.int .i64 (chq v.f v.n j q)) ∧ Rn w.heap.size kb W w' := fun kb W => rfl
      have hF' := fun eb kb W hb h1 h2 hS => (hF eb kb W hb h1 h2 hS)
      simp only [hq] at hF'
      have HC := Lib.hid hC; have HE := Lib.hid hE; have HF := Lib.hid hF'
      clear hF hF' hq hC hE
      generalize cls v.f v.n (j : Int) = c at *
      generalize chq v.f v.n j q = u at *
      generalize ex v.f j = e at *
      have hdc : decide (c < 0) = false := by simpa using hc
      clear hV hb
      generalize v.n = vn at *
      clear v
      have hdk : decide ((q : Int) < 0) = false := by simp
      obtain ⟨res, hres⟩ : ∃ res, (if c ≤ u then -1 else u) = res := ⟨_, rfl⟩
      rw [hres]
      have HRES := Lib.hid hres
      clear hres
      have b1 := (Below.refl w.heap.size w).alloc (Nat.le_refl _) (.cells #[.int .i64 q] 3)
      have k0 : (w.alloc (.cells #[.int .i64 q] 3)).cell? ⟨w.heap.size, 0, none⟩ = some (.int .i64 q) := by simp
      have k1 : (w.alloc (.cells #[.int .i64 q] 3)).frozen? ⟨w.heap.size, 0, none⟩ = false := by simp
      go_enter Tryd.func30, Tryd.ntmps30
      go_wp2_with fail
      refine (HC.out _ b1).mono ?_
      rintro r w1 ⟨rfl, hb1⟩
      have hlt := lt_of_cell k0
      replace k1 : w1.frozen? ⟨w.heap.size, 0, none⟩ = false := by rw [hb1.frozen hlt]; exact k1
      replace k0 := cellP hb1 k0
      have b2 := b1.trans (hb1.mono b1.size)
      clear b1 hb1 hlt
      go_wp2_with fail
      refine (HE.out _ b2).mono ?_
      rintro r w2 ⟨rfl, m, rfl⟩
      have hb2 := Below.dN (B := w1.heap.size) w1 m
      have hlt := lt_of_cell k0
      replace k1 : (w1.drewN m).frozen? ⟨w.heap.size, 0, none⟩ = false := k1
      replace k0 := cellP hb2 k0
      have b3 := b2.trans (hb2.mono b2.size)
      clear b2 hb2
      generalize w1.drewN m = w2 at *
      have hlt2 := lt_of_cell k0
      have bx := (Below.refl w2.heap.size w2).alloc (Nat.le_refl _) (.cells #[.int .i64 (e + 1)] 3)
      have HS1 : Hid (SS true (e + 1) w2.heap.size w.heap.size q (w2.alloc (.cells #[.int .i64 (e + 1)] 3))) := Lib.hid ⟨by simp, by simp only [if_true]; exact ⟨cellP bx k0, by rw [bx.frozen hlt2]; exact k1, by simp at hlt2; omega⟩⟩
      have HB4 := Lib.hid (b3.trans (bx.mono b3.size))
      have HLT : Hid (w.heap.size < (w2.alloc (.cells #[.int .i64 (e + 1)] 3)).heap.size) := Lib.hid (by simp at hlt2 ⊢; omega)
      go_wp2_with fail
      refine (HF.out _ _ _ HB4.out (Nat.le_refl _) HLT.out HS1.out).mono ?_
      rintro r w5 ⟨rfl, hr⟩
      have HB5 := Lib.hid (HB4.out.trans hr.below)
      clear hr k0 k1 b3 bx HS1 HLT HB4 hlt hlt2
      by_cases hcu : c ≤ u
      · go_wp2
        go_ret
        exact ⟨ret_int (by rw [← HRES.out, if_pos hcu]), HB5.out⟩
      · go_wp2
        go_ret
        exact ⟨ret_int (by rw [← HRES.out, if_neg (by omega)]), HB5.out⟩
end Go.Proofs.YtelagemniheeoaaDoor
