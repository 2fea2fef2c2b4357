/- parens: Select walked. -/
import Derived.Test.YtelagemniheeoaaDoorParD
import Derived.Test.YtelagemniheeoaaDoorParSh
import Derived.Test.YtelagemniheeoaaDoorMarMathB
namespace Go.Proofs.YtelagemniheeoaaDoor
open Go.RowKit BM

theorem clp_nat' (n : Nat) : clp n n = n := by unfold clp; omega
/-- the place of the k-th one -/
def selN (f : Nat → Bool) (k : Nat) : Nat → Nat
  | 0 => 0
  | n + 1 => if rk f n ≤ k then n else selN f k n
theorem selN_spec {f : Nat → Bool} {k : Nat} : ∀ {n : Nat}, k < rk f n → selN f k n < n ∧ f (selN f k n) = true ∧ rk f (selN f k n) = k
  | 0, h => by simp [rk] at h
  | n + 1, h => by
    unfold selN
    by_cases h1 : rk f n ≤ k
    · rw [if_pos h1]
      rw [rk_succ] at h
      cases hf : f n with
      | false => rw [hf] at h; simp at h; omega
      | true => rw [hf] at h; simp at h; exact ⟨by omega, rfl, by omega⟩
    · rw [if_neg h1]
      have := selN_spec (f := f) (k := k) (n := n) (by omega)
      exact ⟨by omega, this.2⟩
def sel (f : Nat → Bool) (n : Nat) (k : Int) : Int := if k < 0 ∨ (rk f n : Int) ≤ k then -1 else selN f k.toNat n
theorem count_lt (C m : Nat) (h : m ≤ C) : (List.range C).countP (fun i => decide (i < m)) = m := by
  induction C with
  | zero => simp; omega
  | succ C ih =>
    rw [List.range_succ, List.countP_append]
    by_cases h1 : m ≤ C
    · rw [ih h1]; simp; omega
    · obtain rfl : m = C + 1 := by omega
      rw [show (List.range C).countP (fun i => decide (i < C + 1)) = (List.range C).length by
        rw [List.countP_eq_length]; intro x hx; simp at hx ⊢; omega]
      simp
theorem pc_mono (x : BitVec 64) {i j : Nat} (h : i ≤ j) : pc x i ≤ pc x j := by rw [pc_rk, pc_rk]; exact rk_mono _ h
theorem pc_succ (x : BitVec 64) (i : Nat) : pc x (i + 1) = pc x i + (x.getLsbD i).toNat := rfl
theorem pc_none (x : BitVec 64) {t : Nat} : ∀ {u : Nat}, t ≤ u → (∀ i, t ≤ i → i < u → x.getLsbD i = false) → pc x u = pc x t := by
  intro u h
  induction h with
  | refl => intro _; rfl
  | step h ih =>
    intro hn
    rw [pc_succ, ih (fun i h1 h2 => hn i h1 (Nat.lt_succ_of_lt h2)), hn _ h (Nat.lt_succ_self _)]
    rfl
theorem hiB_ne {x : BitVec 64} {t j : Nat} (h1 : t ≤ j) (h2 : j < 64) (h3 : x.getLsbD j = true) : hiB x t ≠ 0#64 := by
  intro h
  have := congrArg (fun y => y.getLsbD j) h
  simp only [hiB_bit _ _ h2, BitVec.getLsbD_zero] at this
  simp [h3] at this
  omega
/-- one of the lowest ones is struck -/
theorem strike {x : BitVec 64} {t j r : Nat} (h2 : j < 64) (h3 : x.getLsbD j = true) (h1 : t ≤ j) (hr : pc x t = r) (hlt : r < pc x j) : ∃ t', lowB (hiB x t) = hiB x t' ∧ t' ≤ j ∧ pc x t' = r + 1 := by
  obtain ⟨a, b, c, d, e⟩ := hiB_next (hiB_ne h1 h2 h3)
  have hp : pc x (tz (hiB x t)) = r := by rw [pc_none x b e, hr]
  refine ⟨_, a, ?_, by rw [pc_succ, hp, d]; rfl⟩
  rcases Nat.lt_or_ge (tz (hiB x t)) j with h | h
  · exact h
  · have := pc_mono x h; omega
theorem strike_end {x : BitVec 64} {t j : Nat} (h2 : j < 64) (h3 : x.getLsbD j = true) (h1 : t ≤ j) (hr : pc x t = pc x j) : tz (hiB x t) = j := by
  obtain ⟨a, b, c, d, e⟩ := hiB_next (hiB_ne h1 h2 h3)
  rcases Nat.lt_trichotomy (tz (hiB x t)) j with h | h | h
  · have h4 := pc_mono x (show tz (hiB x t) + 1 ≤ j from h)
    rw [pc_succ, d, pc_none x b e, hr] at h4
    simp at h4
    omega
  · exact h
  · have := e j h1 h
    rw [h3] at this; cases this
theorem hiB_0 (x : BitVec 64) : hiB x 0 = x := hiB_zero x
theorem selc_any (b : Nat) (v : VD) (i k : Nat) (pb kb : Nat) (w : World) (hX : VX w b v) (hv : v.rok) (hi : i ≤ v.n / 64) (h1 : w.cell? ⟨pb, 0, none⟩ = some (.pointer (some ⟨b, 0, none⟩))) (h2 : w.cell? ⟨kb, 0, none⟩ = some (.int .i64 k)) :
    Calls Tryd.prog 41 #[.int .i64 i, .pointer (some ⟨pb, 0, none⟩), .pointer (some ⟨kb, 0, none⟩)] w fun e w' => e = .returned (.bool (decide (k < rk v.f (64 * i)))) ∧ ∃ m, w' = w.drewN m := by
  have hr := rs_get hv hi
  obtain ⟨rb, ro, hra, hrc⟩ := hX.2.2.1 _ _ (nv8_get hr)
  have c2 := hX.1.2.2.1
  rw [hra] at c2
  have hrl : i < v.rs.length := (List.getElem?_eq_some_iff.1 hr).1
  have hn := hv.2.1
  generalize rk v.f (64 * i) = r at *
  generalize v.rs.length = nl at *
  generalize v.rc = ncap at *
  generalize v.n = vn at *
  clear hr hra hX hv
  clear v
  by_cases hk : k < r
  · go_enter Tryd.func41, Tryd.ntmps41
    go_upto_region 1 with (fail)
    go_quiet (fail)
    go_wp2
    all_goals go_ret
    all_goals exact ⟨ret_bool (by simp [hk]), _, rfl⟩
  · go_enter Tryd.func41, Tryd.ntmps41
    go_upto_region 1 with (fail)
    go_quiet (fail)
    go_wp2
    all_goals go_ret
    all_goals exact ⟨ret_bool (by simp [hk]), _, rfl⟩
theorem Below.grow {w : World} (m : Nat) (os : Array Obj) : Below w.heap.size w (Sort.grow (w.drewN m) os) := below_grown_sl w.heap.size w m os (Nat.le_refl _)
theorem grow_drewN (w : World) (m : Nat) (os : Array Obj) (q : Nat) : ∃ q' os', (Sort.grow w os).drewN q = Sort.grow ((Sort.grow w os).drewN q') os' := ⟨q, #[], by rw [Sort.grow_empty]⟩
theorem rsearch_any (b : Nat) (v : VD) (k p : Nat) (pb kb : Nat) (w : World) (hX : VX w b v) (hv : v.rok) (h1 : w.cell? ⟨pb, 0, none⟩ = some (.pointer (some ⟨b, 0, none⟩))) (h2 : w.cell? ⟨kb, 0, none⟩ = some (.int .i64 k)) (hp : p < v.n) (hf : v.f p = true) (hk : rk v.f p = k) :
    Calls Tryd.prog 40 #[.int .i64 (v.n / 64 + 1 : Nat), .func (.func 41) #[] #[.pointer (some ⟨pb, 0, none⟩), .pointer (some ⟨kb, 0, none⟩)]] w fun e w' => e = .returned (.int .i64 (p / 64 + 1 : Nat)) ∧ Below w.heap.size w w' := by
  have hn := hv.2.1
  have hS := Any.sort_Search Tryd.laysSearch 41 #[.pointer (some ⟨pb, 0, none⟩), .pointer (some ⟨kb, 0, none⟩)] (v.n / 64 + 1) (fun i => decide (k < rk v.f (64 * i))) w
    (enters_of Tryd.func41 (by kernel_rfl) rfl) (by omega) ?_ ?_
  · have hc : (List.range (v.n / 64 + 1)).countP (fun i => !decide (k < rk v.f (64 * i))) = p / 64 + 1 := by
      rw [show (fun i => !decide (k < rk v.f (64 * i))) = (fun i => decide (i < p / 64 + 1)) from funext fun i => by
        rw [Bool.eq_iff_iff]
        simp only [Bool.not_eq_true', decide_eq_false_iff_not, decide_eq_true_eq]
        constructor
        · intro h
          rcases Nat.lt_or_ge i (p / 64 + 1) with h3 | h3
          · exact h3
          · have := rk_mono v.f (show p + 1 ≤ 64 * i by omega)
            rw [rk_succ, hf, hk] at this
            simp at this
            omega
        · intro h
          have := rk_mono v.f (show 64 * i ≤ p by omega)
          omega]
      exact count_lt _ _ (by omega)
    rw [hc] at hS
    exact hS.mono fun e w' ⟨he, q, os, hw⟩ => ⟨he, by rw [hw]; exact Below.grow q os⟩
  · intro m os i hi
    have hb : Below w.heap.size w (Sort.grow (w.drewN m) os) := Below.grow m os
    exact (selc_any b v i k pb kb (Sort.grow (w.drewN m) os) (hX.below hb) hv (by omega) (cellP hb h1) (cellP hb h2)).mono fun e w' ⟨he, q, hw⟩ => ⟨he, q, #[], by rw [hw, Sort.grow_empty]⟩
  · intro a c hab hc ha
    simp only [decide_eq_true_eq] at ha ⊢
    exact Nat.lt_of_lt_of_le ha (rk_mono _ (by omega))
theorem stillD {P : Program} {f : FuncId} {args : Array Value} {w : World} {n : Nat} {v : Value}
    (h : Calls P f args (w.drewN n) fun e u => e = .returned v ∧ ∃ m, u = (w.drewN n).drewN m) : Calls P f args (w.drewN n) fun e u => e = .returned v ∧ ∃ m, u = w.drewN m :=
  h.mono fun _ _ ⟨h1, m, h2⟩ => ⟨h1, n + m, by rw [h2, World.drewN_drewN]⟩
theorem stillD2 {P : Program} {f : FuncId} {args : Array Value} {w : World} {m n : Nat} {v : Value}
    (h : Calls P f args (w.drewN (m + n)) fun e u => e = .returned v ∧ ∃ q, u = (w.drewN (m + n)).drewN q) : Calls P f args (w.drewN (m + n)) fun e u => e = .returned v ∧ ∃ q, u = w.drewN (m + q) :=
  h.mono fun _ _ ⟨h1, q, h2⟩ => ⟨h1, n + q, by rw [h2, World.drewN_drewN, Nat.add_assoc]⟩
set_option maxHeartbeats 1000000 in
theorem Select_no (p : Option Addr) (n : Nat) (k : Int) (w : World) (x : Nat) (hL : LenIs w p n) (hR : ∀ W, Below w.heap.size w W → Calls Tryd.prog 16 #[.pointer p, .int .i64 n] W fun e w' => e = .returned (.int .i64 x) ∧ ∃ m, w' = W.drewN m) (hk : k < 0 ∨ (x : Int) ≤ k) :
    Calls Tryd.prog 20 #[.pointer p, .int .i64 k] w (ResI (-1) w) := by
  have HL := Lib.hid (fun W (hb : Below w.heap.size w W) => Len_any p n W (hL.below hb))
  have HR := Lib.hid hR
  clear hL hR
  have b1 := ((Below.refl w.heap.size w).alloc (Nat.le_refl _) (.cells #[.pointer p] 25)).alloc (by simp) (.cells #[.int .i64 k] 3)
  have k0 : ((w.alloc (.cells #[.pointer p] 25)).alloc (.cells #[.int .i64 k] 3)).cell? ⟨w.heap.size, 0, none⟩ = some (.pointer p) := by simp
  have k1 : ((w.alloc (.cells #[.pointer p] 25)).alloc (.cells #[.int .i64 k] 3)).cell? ⟨w.heap.size + 1, 0, none⟩ = some (.int .i64 k) := by simp
  by_cases h0 : k < 0
  · have hd : decide (k < 0) = true := by simpa using h0
    clear hk
    go_enter Tryd.func20, Tryd.ntmps20
    go_upto_region 1 with (fail)
    generalize (w.alloc (.cells #[.pointer p] 25)).alloc (.cells #[.int .i64 k] 3) = w1 at *
    go_quiet (fail)
    go_wp2
    go_ret
    exact ⟨rfl, bdN b1 _⟩
  · obtain ⟨q, rfl⟩ : ∃ q : Nat, k = q := ⟨k.toNat, by omega⟩
    have hq : x ≤ q := by omega
    have hd2 : decide (x ≤ q) = true := by simpa using hq
    have hd : decide ((q : Int) < 0) = false := by simp
    clear hk h0 hq
    go_enter Tryd.func20, Tryd.ntmps20
    go_upto_region 1 with (fail)
    generalize (w.alloc (.cells #[.pointer p] 25)).alloc (.cells #[.int .i64 q] 3) = w1 at *
    go_quiet (first | (go_at_call 13; first | exact still (HL.out _ (bdN b1 _)) | exact still2 (HL.out _ (bdN b1 _))) | (go_at_call 16; first | exact stillD (HR.out _ (bdN b1 _)) | exact stillD2 (HR.out _ (bdN b1 _))))
    go_wp2
    go_ret
    exact ⟨rfl, bdN b1 _⟩
set_option maxHeartbeats 4000000 in
theorem Select_yes (b : Nat) (v : VD) (k p : Nat) (w : World) (hT : Tb w) (hX : VX w b v) (hv : v.rok) (hk : k < rk v.f v.n) (hpe : selN v.f k v.n = p) :
    Calls Tryd.prog 20 #[.pointer (some ⟨b, 0, none⟩), .int .i64 k] w (ResI p w) := by
  obtain ⟨p1, p2, p3⟩ := selN_spec hk
  rw [hpe] at p1 p2 p3
  have hn := hv.2.1
  obtain ⟨x, hx, hfx⟩ := word_at hv p1
  rw [p2] at hfx
  have hrl : v.rs.length = v.n / 64 + 1 := by rw [hv.2.2]; simp
  have hrw := rk_word hx (p % 64) (by omega)
  rw [show 64 * (p / 64) + p % 64 = p by omega] at hrw
  have hrw2 : rk v.f (64 * (p / 64)) + pc x (p % 64) = k := by rw [← p3]; exact hrw.symm
  have hpc := pc_le x (p % 64)
  have hgr := rs_get hv (k := p / 64) (by omega)
  have hwl : p / 64 < v.ws.length := (List.getElem?_eq_some_iff.1 hx).1
  have HL := Lib.hid (fun W (hb : Below w.heap.size w W) => Len_any (some ⟨b, 0, none⟩) v.n W (hX.below hb).len)
  have hcl : clp v.n v.n = v.n := clp_nat' v.n
  have HR := Lib.hid (fun W (hb : Below w.heap.size w W) => (by have h := Rank_any b v v.n W (hX.below hb) hv; rw [hcl] at h; exact h : Calls Tryd.prog 16 #[.pointer (some ⟨b, 0, none⟩), .int .i64 v.n] W fun e w' => e = .returned (.int .i64 (rk v.f v.n)) ∧ ∃ m, w' = W.drewN m))
  have HSr := Lib.hid (fun pb kb W (hb : Below w.heap.size w W) h1 h2 => rsearch_any b v k p pb kb W (hX.below hb) hv h1 h2 p1 p2 p3)
  have HX := Lib.hid (fun W (hb : Below w.heap.size w W) => (hX.below hb).1)
  have HRW := Lib.hid (fun W (hb : Below w.heap.size w W) => (hX.below hb).2.1 _ _ (wv8_get hx))
  have HRR := Lib.hid (fun W (hb : Below w.heap.size w W) => (hX.below hb).2.2.1 _ _ (nv8_get hgr))
  have hrn := rk_le v.f v.n
  have hrn2 := rk_le v.f (64 * (p / 64))
  generalize rk v.f (64 * (p / 64)) = r at *
  generalize rk v.f v.n = rn at *
  have hd2 : decide (rn ≤ k) = false := by simpa using hk
  have hd : decide ((k : Int) < 0) = false := by simp
  have HFX := Lib.hid hfx
  have hj : p % 64 < 64 := by omega
  have hpj : p / 64 * 64 + p % 64 = p := by omega
  clear hX hv hpe p2 p3 hx hrw hgr hfx hcl
  have b1 := ((Below.refl w.heap.size w).alloc (Nat.le_refl _) (.cells #[.pointer (some ⟨b, 0, none⟩)] 25)).alloc (by simp) (.cells #[.int .i64 k] 3)
  have k0 : ((w.alloc (.cells #[.pointer (some ⟨b, 0, none⟩)] 25)).alloc (.cells #[.int .i64 k] 3)).cell? ⟨w.heap.size, 0, none⟩ = some (.pointer (some ⟨b, 0, none⟩)) := by simp
  have k1 : ((w.alloc (.cells #[.pointer (some ⟨b, 0, none⟩)] 25)).alloc (.cells #[.int .i64 k] 3)).cell? ⟨w.heap.size + 1, 0, none⟩ = some (.int .i64 k) := by simp
  rw [hrl] at HX
  have hWC : p / 64 < v.n / 64 + 1 := by omega
  generalize v.n / 64 + 1 = C at *
  generalize v.ws.length = nw8 at *
  generalize v.lv.length = nlv at *
  generalize v.wa = wa at *
  generalize v.ra = ra at *
  generalize v.la = la at *
  generalize v.wc = wc at *
  generalize v.rc = rc at *
  generalize v.lc = lc at *
  generalize v.n = vn at *
  clear hrl
  go_enter Tryd.func20, Tryd.ntmps20
  go_upto_region 1 with (fail)
  generalize (w.alloc (.cells #[.pointer (some ⟨b, 0, none⟩)] 25)).alloc (.cells #[.int .i64 k] 3) = w1 at *
  go_quiet (first | (go_at_call 13; first | exact still (HL.out _ (bdN b1 _)) | exact still2 (HL.out _ (bdN b1 _))) | (go_at_call 16; first | exact stillD (HR.out _ (bdN b1 _)) | exact stillD2 (HR.out _ (bdN b1 _))))
  have b2 := bdN b1 nq
  replace k0 : (w1.drewN nq).cell? ⟨w.heap.size, 0, none⟩ = some (.pointer (some ⟨b, 0, none⟩)) := k0
  replace k1 : (w1.drewN nq).cell? ⟨w.heap.size + 1, 0, none⟩ = some (.int .i64 k) := k1
  generalize w1.drewN nq = w2 at *
  clear b1
  obtain ⟨x0, x1, x2, x3⟩ := HX.out w2 b2
  have HSS := Lib.hid (HSr.out _ _ w2 b2 k0 k1)
  generalize p / 64 = W at *
  generalize p % 64 = j at *
  rw [Int.natCast_add, show ((1 : Nat) : Int) = 1 from rfl] at HSS
  obtain ⟨q, hq⟩ : ∃ q, pc x j = q := ⟨_, rfl⟩
  rw [hq] at hrw2 hpc
  have HQ := Lib.hid hq
  have hWb : W ≤ 1125899906842624 := by omega
  clear hq
  go_wp2_with fail
  refine HSS.out.mono ?_
  rintro e3 w3 ⟨rfl, hb3⟩
  have b3 := b2.trans (hb3.mono b2.size)
  replace k0 := cellP hb3 k0
  replace k1 := cellP hb3 k1
  clear hb3 b2 x0 x1 x2 x3 HSS
  obtain ⟨x0, x1, x2, x3⟩ := HX.out w3 b3
  obtain ⟨xb, xo, hwa, hxc⟩ := HRW.out w3 b3
  obtain ⟨yb, yo, hra, hyc⟩ := HRR.out w3 b3
  rw [hwa] at x0
  rw [hra] at x2
  clear hwa hra
  have sq : IntKind.i64.wrap ((k : Int) - r) = q := by rw [show (k : Int) - r = q by omega]; exact IntWalk.i64_in _ (by omega)
  go_upto_region 5 with (fail)
  go_quiet (fail)
  have b4 := bdN b3 nq
  generalize w3.drewN nq = w4 at *
  clear sq k0 k1 x0 x1 x2 x3 hxc hyc b3
  have B4 := Lib.hid b4
  have HT4 := Lib.hid (hT.below b4)
  have hq3 : q ≤ 64 := by omega
  go_wp2_with fail
  have HX0 : Hid (val x = val (hiB x 0)) := Lib.hid (by rw [hiB_0])
  go_loopw [6, 41] (fun s6 s41 wr => ∃ t r2 : Nat, r2 ≤ q ∧ t ≤ j ∧ Hid (pc x t = r2) ∧ s41 = .int .i64 r2 ∧ s6 = .int .u64 (val (hiB x t)) ∧ w4 = wr) (fun _ s41 _ => q - (intOf s41).toNat)
  case atStart => exact ⟨0, 0, by omega, by omega, Lib.hid rfl, rfl, by rw [HX0.out], rfl⟩
  case round =>
    obtain ⟨t, r2, hr2, htj, HP, rfl, rfl, rfl⟩ := hrel
    by_cases hlt : r2 < q
    · obtain ⟨t', h1, h2, h3⟩ := strike hj HFX.out.symm htj HP.out (by rw [HQ.out]; exact hlt)
      have HLW : Hid (bits .and .u64 (val (hiB x t)) (IntKind.u64.wrap (val (hiB x t) - 1)) = val (hiB x t')) := Lib.hid (by rw [i_1, u_sub, u_and, ← h1]; rfl)
      have H3 := Lib.hid h3
      clear h1 h3
      go_wp2
      go_roundw
      case rel => exact ⟨t', r2 + 1, by omega, h2, H3, by go_num, by rw [HLW.out], by first | rfl | trivial⟩
      case measure => simp [intOf]; omega
    · have he : tz (hiB x t) = j := strike_end hj HFX.out.symm htj (by rw [HP.out, HQ.out]; omega)
      have hTZ := tz_any (hiB x t) (hiB_ne htj hj HFX.out.symm) w4 HT4.out
      rw [he] at hTZ
      have HTZ := Lib.hid hTZ
      clear he hTZ
      have hlt2 : ¬ (r2 : Int) < q := by omega
      go_wp2_with (refine HTZ.out.mono ?_; rintro e5 w5 ⟨rfl, rfl⟩)
      go_ret
      exact ⟨ret_int (by omega), B4.out⟩
end Go.Proofs.YtelagemniheeoaaDoor
