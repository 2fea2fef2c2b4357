/- Walks of the document's at, low, Order, Compare. -/
import Derived.Test.YtofeckdhhaoobaaDoorDecAl
import Derived.Test.YtofeckdhhaoobaaDoorLimbXc
namespace Go.Proofs.YtofeckdhhaoobaaDoor
open Go.RowKit LM

theorem dg_shift2 {v : Nat} (h : 0 < v) : ∀ n, dg 10 (v * 10 ^ n) = List.replicate n 0 ++ dg 10 v := by
  intro n
  induction n with
  | zero => simp
  | succ n ih =>
    have hp : 0 < 10 ^ n := Nat.pow_pos (by omega)
    have hvp : 0 < v * 10 ^ n := Nat.mul_pos h hp
    rw [Nat.pow_succ, ← Nat.mul_assoc, dg_pos (by omega) (by omega), Nat.mul_mod_left, Nat.mul_div_left _ (by omega), ih, List.replicate_succ]; rfl

def ResDg (v : Nat) (w : World) (r : Ending) (w' : World) : Prop := ∃ a' c', r = .returned (.slice a' (dg 10 v).length c') ∧ RdC w' a' c' v ∧ Below w.heap.size w w'

set_option maxHeartbeats 2000000 in
theorem RShift_rd (m : Nat) (a : Option Addr) (ca : Nat) {N : Int} (n : Nat) (hN : N = (n : Int)) (w : World) (hl : (dg 10 m).length ≤ 1000000) (hn : n ≤ 1000000) (hr : RdC w a ca m) :
    Calls Tryd.prog 98 #[.slice a (dg 10 m).length ca, .int .i64 N] w (ResDg (m * 10 ^ n) w) := by
  subst hN
  rcases Nat.eq_zero_or_pos m with h0 | h0
  · subst h0
    rw [Nat.zero_mul, dg_zero]
    go_enter Tryd.func98, Tryd.ntmps98
    go_wp2
    go_ret
    exact ⟨none, 0, by rw [dg_zero]; rfl, RdC.zero _, Below.refl _ _⟩
  · have hpos : (dg 10 m).length ≠ 0 := by rw [dg_pos (by omega) h0]; simp
    have hs := dg_shift2 h0 n
    have hdl : (dg 10 (m * 10 ^ n)).length = n + (dg 10 m).length := by rw [hs]; simp
    obtain ⟨hrd, hc1, hc2, hnn⟩ := hr
    have hnone : a = none → dg 10 m = [] ∧ ca = 0 := fun h => by obtain ⟨h1, _⟩ := hnn h; omega
    have HNONE := Lib.hid hnone; have HRD := Lib.hid hrd; have HS := Lib.hid hs; have HDL := Lib.hid hdl
    have hrl : (List.replicate n 0).length = n := List.length_replicate
    have hcl : ((List.replicate n 0).length + (dg 10 m).length) * 1 ≤ 140737488355328 := by rw [hrl]; omega
    have hcl2 : (List.replicate n 0).length + (dg 10 m).length ≤ maxLen := by rw [hrl]; unfold maxLen; omega
    have HRL := Lib.hid hrl; have HCL := Lib.hid hcl; have HCL2 := Lib.hid hcl2
    clear hnone hrd hrl hcl hcl2 hc1 hc2 hnn hs hdl
    generalize dg 10 m = x at *
    have h0' : 0 < x.length := by omega
    go_enter Tryd.func98, Tryd.ntmps98
    go_wp2_with (at_make; refine wp_make _ rfl _ _ 54 rfl w.heap.size 5 .u8 1 Tryd.underlying54 infoU8 _ _ _ _ n rfl rfl rfl rfl (by omega) (by unfold maxLen; omega) (Nat.le_refl _) ?_)
    intro w3 hown3 hb3
    have hrd3 := HRD.out.below hb3
    go_wp2_with (at_builtin; refine wp_cat w3 rfl _ _ 54 rfl w.heap.size 5 .u8 1 Tryd.underlying54 infoU8 _ a _ ca n x.length (List.replicate n 0) x HRL.out.symm rfl rfl rfl hown3 hrd3 HNONE.out HCL.out HCL2.out hb3.size ?_)
    intro a4 c4 w4 hown4 hb4 _
    have hbl := hb3.trans hb4
    clear hown3 hb3 hb4 hrd3
    go_wp2
    go_ret
    exact ⟨a4, c4, ret_slice HDL.out.symm, RdC.ofOwn (show Own w4 w.heap.size 5 .u8 a4 c4 (dg 10 (m * 10 ^ n)) by rw [HS.out]; exact hown4), hbl⟩

set_option maxHeartbeats 2000000 in
set_option maxRecDepth 20000 in
theorem at_any (p : Pl) (a : Option Addr) (c : Nat) (e : Int) (n : Nat) (w : World) (hn : p.e - e = n) (hn2 : n ≤ 100000) (hl : dl p.m ≤ 1000) (h1 : -1000000 ≤ e) (h2 : p.e ≤ 1000000) (hr : RdC w a c p.m) :
    Calls Tryd.prog 92 #[.agg #[.bool p.neg, .slice a (dg 10 p.m).length c, .int .i64 p.e], .int .i64 e] w (ResDg (ual p e) w) := by
  have hu : ual p e = p.m * 10 ^ n := by unfold ual; rw [hn, Int.toNat_natCast]
  rw [hu]
  have hl' : (dg 10 p.m).length ≤ 1000 := hl
  have hS := fun W hb => RShift_rd p.m a c n hn W (by omega) (by omega) (hr.below (w' := W) hb)
  have HS := Lib.hid hS
  obtain ⟨s, m, x⟩ := p
  simp only at *
  have hxe : -1000000 ≤ x := by omega
  have hee : e ≤ 1000000 := by omega
  clear hS hu hr hn
  generalize m * 10 ^ n = v at *
  generalize (dg 10 m).length = l at *
  go_enter Tryd.func92, Tryd.ntmps92
  go_wp2_with fail
  refine (HS.out _ ((Below.refl _ _).alloc (Nat.le_refl _) _)).mono ?_
  rintro r w2 ⟨a2, c2, rfl, hr2, hb2⟩
  have b2 := ((Below.refl w.heap.size w).alloc (Nat.le_refl _) (.cells #[.bool s, .slice a l c, .int .i64 x] 56)).trans (hb2.mono (by simp))
  go_wp2
  go_ret
  exact ⟨a2, c2, rfl, hr2, b2⟩

set_option maxHeartbeats 1000000 in
theorem low_any (a b : Int) (w : World) : Calls Tryd.prog 91 #[.int .i64 a, .int .i64 b] w fun r w' => r = .returned (.int .i64 (min a b)) ∧ w = w' := by
  by_cases h : a < b
  · have hm : min a b = a := by omega
    rw [hm]
    go_enter Tryd.func91, Tryd.ntmps91
    go_wp2
    go_ret
    exact ⟨rfl, rfl⟩
  · have hm : min a b = b := by omega
    rw [hm]
    go_enter Tryd.func91, Tryd.ntmps91
    go_wp2
    go_ret
    exact ⟨rfl, rfl⟩

theorem dg_lo10 : ∀ n, 0 < n → 10 ^ ((dg 10 n).length - 1) ≤ n := fun n h => dg_lower (by omega) n h
/-- where a number's first digit stands -/
def hd (p : Pl) : Int := p.e + dl p.m - 1
theorem ual_lt {p q : Pl} (hp : 0 < p.m) (hq : 0 < q.m) (h : hd p < hd q) : ual p (mn p q) < ual q (mn p q) := by
  unfold hd dl at h
  have h1 := dg_upper (b := 10) (by omega) p.m
  have h2 := dg_lo10 q.m hq
  have h3 : (dg 10 q.m).length ≠ 0 := by rw [dg_pos (by omega) hq]; simp
  unfold ual
  have e1 : p.m * 10 ^ (p.e - mn p q).toNat < 10 ^ ((dg 10 p.m).length + (p.e - mn p q).toNat) := by rw [Nat.pow_add]; exact Nat.mul_lt_mul_of_pos_right h1 (Nat.pow_pos (by omega))
  have e2 : 10 ^ ((dg 10 q.m).length - 1 + (q.e - mn p q).toNat) ≤ q.m * 10 ^ (q.e - mn p q).toNat := by rw [Nat.pow_add]; exact Nat.mul_le_mul_right _ h2
  have e3 : 10 ^ ((dg 10 p.m).length + (p.e - mn p q).toNat) ≤ 10 ^ ((dg 10 q.m).length - 1 + (q.e - mn p q).toNat) := Nat.pow_le_pow_right (by omega) (by unfold mn; omega)
  exact Nat.lt_of_lt_of_le e1 (Nat.le_trans e3 e2)
theorem mn_comm (p q : Pl) : mn p q = mn q p := by unfold mn; omega
theorem cmpN_swap (a b : Nat) : cmpN a b = - cmpN b a := by unfold cmpN; split; split; omega; simp; split; simp; simp
theorem cmpN_zero {a b x y : Nat} (h : a = 0 ∨ b = 0) (hx : 0 < x) (hy : 0 < y) : cmpN (a * x) (b * y) = cmpN a b := by
  rcases h with rfl | rfl
  · rw [Nat.zero_mul]
    unfold cmpN
    rcases Nat.eq_zero_or_pos b with h | h
    · subst h; simp
    · rw [if_pos (Nat.mul_pos h hy), if_pos h]
  · rw [Nat.zero_mul]
    unfold cmpN
    rcases Nat.eq_zero_or_pos a with h | h
    · subst h; simp
    · rw [if_neg (by omega), if_pos (Nat.mul_pos h hx), if_neg (by omega), if_pos h]
/-- the sizes' order -/
def szC (p q : Pl) : Int := cmpN (ual p (mn p q)) (ual q (mn p q))
theorem szC_zero {p q : Pl} (h : p.m = 0 ∨ q.m = 0) : szC p q = cmpN p.m q.m := cmpN_zero h (Nat.pow_pos (by omega)) (Nat.pow_pos (by omega))
theorem szC_lt {p q : Pl} (hp : 0 < p.m) (hq : 0 < q.m) (h : hd p < hd q) : szC p q = -1 := cmpN_lt (ual_lt hp hq h)
theorem szC_gt {p q : Pl} (hp : 0 < p.m) (hq : 0 < q.m) (h : hd q < hd p) : szC p q = 1 := by
  unfold szC; rw [mn_comm]; exact cmpN_gt (ual_lt hq hp h)
theorem cmpP_sz (p q : Pl) : cmpP p q = if p.neg ≠ q.neg then (if p.neg = true then -1 else 1) else if p.neg = true then szC q p else szC p q := by
  unfold cmpP szC
  rw [mn_comm q p]
  rcases p.neg with _ | _ <;> rcases q.neg with _ | _ <;> simp
end Go.Proofs.YtofeckdhhaoobaaDoor

/- Walks of the document's Order, Compare, Cmp. -/
namespace Go.Proofs.YtofeckdhhaoobaaDoor
open Go.RowKit LM

set_option maxHeartbeats 16000000 in
set_option maxRecDepth 20000 in
theorem Order_any (p q : Pl) (a1 a2 : Option Addr) (c1 c2 : Nat) (w : World) (hp : Bd p) (hq : Bd q) (hr1 : RdC w a1 c1 p.m) (hr2 : RdC w a2 c2 q.m) :
    Calls Tryd.prog 89 #[.agg #[.bool p.neg, .slice a1 (dg 10 p.m).length c1, .int .i64 p.e], .agg #[.bool q.neg, .slice a2 (dg 10 q.m).length c2, .int .i64 q.e]] w fun r w' => r = .returned (.int .i64 (szC p q)) ∧ Below w.heap.size w w' := by
  have hC := fun W hb => RCmp_any a1 a2 c1 c2 p.m q.m W (by have : (dg 10 p.m).length ≤ 400 := hp.1; omega) (by have : (dg 10 q.m).length ≤ 400 := hq.1; omega) ((hr1.below (w' := W) hb).1) ((hr2.below hb).1)
  have hH1 := fun W => Head_any p.neg a1 (dg 10 p.m).length c1 p.e W (by have : (dg 10 p.m).length ≤ 400 := hp.1; omega) (by have := hp.2; omega) (by have := hp.2; omega)
  have hH2 := fun W => Head_any q.neg a2 (dg 10 q.m).length c2 q.e W (by have : (dg 10 q.m).length ≤ 400 := hq.1; omega) (by have := hq.2; omega) (by have := hq.2; omega)
  have hd1 : p.e + ((dg 10 p.m).length : Int) - 1 = hd p := rfl
  have hd2 : q.e + ((dg 10 q.m).length : Int) - 1 = hd q := rfl
  rw [hd1] at hH1
  rw [hd2] at hH2
  have hz := fun h => szC_zero (p := p) (q := q) h
  have hlt := fun h1 h2 h => szC_lt (p := p) (q := q) h1 h2 h
  have hgt := fun h1 h2 h => szC_gt (p := p) (q := q) h1 h2 h
  have hA1 : ∀ (E : Int), E = mn p q → ∀ W, Below w.heap.size w W → Calls Tryd.prog 92 #[.agg #[.bool p.neg, .slice a1 (dg 10 p.m).length c1, .int .i64 p.e], .int .i64 E] W (ResDg (ual p (mn p q)) W) := fun E hE W hb => by
    subst hE
    have k1 := hp.2; have k2 := hq.2
    exact at_any p a1 c1 (mn p q) (p.e - mn p q).toNat W (by unfold mn; omega) (by unfold mn; omega) (by have := hp.1; omega) (by unfold mn; omega) (by omega) (hr1.below hb)
  have hA2 : ∀ (E : Int), E = mn p q → ∀ W, Below w.heap.size w W → Calls Tryd.prog 92 #[.agg #[.bool q.neg, .slice a2 (dg 10 q.m).length c2, .int .i64 q.e], .int .i64 E] W (ResDg (ual q (mn p q)) W) := fun E hE W hb => by
    subst hE
    have k1 := hp.2; have k2 := hq.2
    exact at_any q a2 c2 (mn p q) (q.e - mn p q).toNat W (by unfold mn; omega) (by unfold mn; omega) (by have := hq.1; omega) (by unfold mn; omega) (by omega) (hr2.below hb)
  have hu1 : (dg 10 (ual p (mn p q))).length ≤ 100000 := by
    have h1 : ual p (mn p q) < 10 ^ ((dg 10 p.m).length + (p.e - mn p q).toNat) := by
      unfold ual; rw [Nat.pow_add]
      exact Nat.mul_lt_mul_of_pos_right (dg_upper (b := 10) (by omega) p.m) (Nat.pow_pos (by omega))
    have h0 : (dg 10 p.m).length ≤ 400 := hp.1
    have h3 := dg_len_of_lt (b := 10) (by omega) h1
    have k1 := hp.2; have k2 := hq.2
    have k3 : (p.e - mn p q).toNat ≤ 30000 := by unfold mn; omega
    omega
  have hu2 : (dg 10 (ual q (mn p q))).length ≤ 100000 := by
    have h1 : ual q (mn p q) < 10 ^ ((dg 10 q.m).length + (q.e - mn p q).toNat) := by
      unfold ual; rw [Nat.pow_add]
      exact Nat.mul_lt_mul_of_pos_right (dg_upper (b := 10) (by omega) q.m) (Nat.pow_pos (by omega))
    have h0 : (dg 10 q.m).length ≤ 400 := hq.1
    have h3 := dg_len_of_lt (b := 10) (by omega) h1
    have k1 := hp.2; have k2 := hq.2
    have k3 : (q.e - mn p q).toNat ≤ 30000 := by unfold mn; omega
    omega
  have hC2 := fun b1 b2 d1 d2 W (r1 : RdC W b1 d1 (ual p (mn p q))) (r2 : RdC W b2 d2 (ual q (mn p q))) => RCmp_any b1 b2 d1 d2 (ual p (mn p q)) (ual q (mn p q)) W (by omega) (by omega) r1.1 r2.1
  have hsz : szC p q = cmpN (ual p (mn p q)) (ual q (mn p q)) := rfl
  have hmn : mn p q = min p.e q.e := rfl
  have hpm := Lib.hid (show p.m = 0 ↔ (dg 10 p.m).length = 0 from ⟨fun h => by rw [h, dg_zero]; rfl, fun h => (dg_eq_nil (by omega)).1 (List.eq_nil_of_length_eq_zero h)⟩)
  have hqm := Lib.hid (show q.m = 0 ↔ (dg 10 q.m).length = 0 from ⟨fun h => by rw [h, dg_zero]; rfl, fun h => (dg_eq_nil (by omega)).1 (List.eq_nil_of_length_eq_zero h)⟩)
  have hL1 : (dg 10 p.m).length ≤ 400 := hp.1
  have hL2 : (dg 10 q.m).length ≤ 400 := hq.1
  obtain ⟨y1, y2⟩ := hp.2
  obtain ⟨y3, y4⟩ := hq.2
  have hm0 := Lib.hid (show 0 < p.m ↔ p.m ≠ 0 from Nat.pos_iff_ne_zero)
  have hm1 := Lib.hid (show 0 < q.m ↔ q.m ≠ 0 from Nat.pos_iff_ne_zero)
  generalize szC p q = S at *
  generalize mn p q = em at *
  generalize ual p em = u1 at *
  generalize ual q em = u2 at *
  generalize hd p = k1 at *
  generalize hd q = k2 at *
  have HC := Lib.hid hC; have HH1 := Lib.hid hH1; have HH2 := Lib.hid hH2; have HZ := Lib.hid hz; have HLT := Lib.hid hlt; have HGT := Lib.hid hgt; have HA1 := Lib.hid hA1; have HA2 := Lib.hid hA2; have HC2 := Lib.hid hC2; have HSZ := Lib.hid hsz; have HMN := Lib.hid hmn
  clear hC hH1 hH2 hz hlt hgt hA1 hA2 hC2 hsz hmn hp hq hr1 hr2 hd1 hd2 hu1 hu2
  obtain ⟨s1, m1, e1⟩ := p
  obtain ⟨s2, m2, e2⟩ := q
  simp only at *
  generalize (dg 10 m1).length = n1 at *
  generalize (dg 10 m2).length = n2 at *
  have B2 := ((Below.refl w.heap.size w).alloc (Nat.le_refl _) (.cells #[.bool s1, .slice a1 n1 c1, .int .i64 e1] 56)).alloc (by simp) (.cells #[.bool s2, .slice a2 n2 c2, .int .i64 e2] 56)
  by_cases g1 : n1 = 0
  · have HS := Lib.hid ((HZ.out (.inl (hpm.out.2 g1))).symm)
    have t1 : ((n1 : Int) == 0) = true := by simp [g1]
    clear g1
    go_enter Tryd.func89, Tryd.ntmps89
    go_wp2_with fail
    refine (HC.out _ B2).mono ?_
    rintro r w2 ⟨rfl, hb2⟩
    have b2 := B2.trans (hb2.mono B2.size)
    go_wp2
    go_ret
    exact ⟨ret_int HS.out, b2⟩
  · have t1 : ((n1 : Int) == 0) = false := by simp; omega
    by_cases g2 : n2 = 0
    · have HS := Lib.hid ((HZ.out (.inr (hqm.out.2 g2))).symm)
      have t2 : ((n2 : Int) == 0) = true := by simp [g2]
      clear g1 g2
      go_enter Tryd.func89, Tryd.ntmps89
      go_wp2_with fail
      refine (HC.out _ B2).mono ?_
      rintro r w2 ⟨rfl, hb2⟩
      have b2 := B2.trans (hb2.mono B2.size)
      go_wp2
      go_ret
      exact ⟨ret_int HS.out, b2⟩
    · have t2 : ((n2 : Int) == 0) = false := by simp; omega
      have HP1 := Lib.hid (hm0.out.2 (fun h => g1 (hpm.out.1 h)))
      have HP2 := Lib.hid (hm1.out.2 (fun h => g2 (hqm.out.1 h)))
      clear g1 g2
      go_enter Tryd.func89, Tryd.ntmps89
      have r0 : ((w.alloc (.cells #[.bool s1, .slice a1 n1 c1, .int .i64 e1] 56)).alloc (.cells #[.bool s2, .slice a2 n2 c2, .int .i64 e2] 56)).cell? ⟨w.heap.size, 0, none⟩ = some (.bool s1) := by simp
      have r1 : ((w.alloc (.cells #[.bool s1, .slice a1 n1 c1, .int .i64 e1] 56)).alloc (.cells #[.bool s2, .slice a2 n2 c2, .int .i64 e2] 56)).cell? ⟨w.heap.size, 1, none⟩ = some (.slice a1 n1 c1) := by simp
      have r2 : ((w.alloc (.cells #[.bool s1, .slice a1 n1 c1, .int .i64 e1] 56)).alloc (.cells #[.bool s2, .slice a2 n2 c2, .int .i64 e2] 56)).cell? ⟨w.heap.size, 2, none⟩ = some (.int .i64 e1) := by simp
      have r3 : ((w.alloc (.cells #[.bool s1, .slice a1 n1 c1, .int .i64 e1] 56)).alloc (.cells #[.bool s2, .slice a2 n2 c2, .int .i64 e2] 56)).cell? ⟨w.heap.size + 1, 0, none⟩ = some (.bool s2) := by simp
      have r4 : ((w.alloc (.cells #[.bool s1, .slice a1 n1 c1, .int .i64 e1] 56)).alloc (.cells #[.bool s2, .slice a2 n2 c2, .int .i64 e2] 56)).cell? ⟨w.heap.size + 1, 1, none⟩ = some (.slice a2 n2 c2) := by simp
      have r5 : ((w.alloc (.cells #[.bool s1, .slice a1 n1 c1, .int .i64 e1] 56)).alloc (.cells #[.bool s2, .slice a2 n2 c2, .int .i64 e2] 56)).cell? ⟨w.heap.size + 1, 2, none⟩ = some (.int .i64 e2) := by simp
      go_wp2
      generalize ((w.alloc (.cells #[.bool s1, .slice a1 n1 c1, .int .i64 e1] 56)).alloc (.cells #[.bool s2, .slice a2 n2 c2, .int .i64 e2] 56)) = w1 at *
      go_region_held3 (fun w' => w'.cell? ⟨w.heap.size, 0, none⟩ = some (.bool s1) ∧ w'.cell? ⟨w.heap.size, 1, none⟩ = some (.slice a1 n1 c1) ∧ w'.cell? ⟨w.heap.size, 2, none⟩ = some (.int .i64 e1) ∧ w'.cell? ⟨w.heap.size + 1, 0, none⟩ = some (.bool s2) ∧ w'.cell? ⟨w.heap.size + 1, 1, none⟩ = some (.slice a2 n2 c2) ∧ w'.cell? ⟨w.heap.size + 1, 2, none⟩ = some (.int .i64 e2)) (first | go_keep | exact ⟨j0, j1, j2, j3, j4, j5⟩ | exact ⟨i0, i1, i2, i3, i4, i5⟩)
        (first
          | (go_at_call 51; have chk := xw3; refine (HH2.out _).mono ?_; rintro e w4 ⟨rfl, hbw4⟩; have xw4 := xw3.trans (hbw4.mono xw3.size); have j0 := cellB r0 xw4; have j1 := cellB r1 xw4; have j2 := cellB r2 xw4; have j3 := cellB r3 xw4; have j4 := cellB r4 xw4; have j5 := cellB r5 xw4)
          | (go_at_call 51; refine (HH1.out _).mono ?_; rintro e w3 ⟨rfl, hbw3⟩; have xw3 := (Below.refl w1.heap.size w1).drew.trans hbw3; have i0 := cellB r0 xw3; have i1 := cellB r1 xw3; have i2 := cellB r2 xw3; have i3 := cellB r3 xw3; have i4 := cellB r4 xw3; have i5 := cellB r5 xw3))
      have b4 := B2.trans (xw4.mono B2.size)
      clear r0 r1 r2 r3 r4 r5 i0 i1 i2 i3 i4 i5 hbw3 hbw4 xw3 xw4
      by_cases gk : k1 = k2
      · have hB : ((k1 : Int) != k2) = false := by simp [gk]
        clear HLT HGT gk
        go_wp2_with fail
        refine (low_any e1 e2 _).mono ?_
        rintro r w5 ⟨rfl, rfl⟩
        rw [← HMN.out]
        have HE1 := Lib.hid (HA1.out em rfl); have HE2 := Lib.hid (HA2.out em rfl)
        clear HA1 HA2
        go_wp2
        go_region_held3 (fun w' => w'.cell? ⟨w.heap.size, 0, none⟩ = some (.bool s1) ∧ w'.cell? ⟨w.heap.size, 1, none⟩ = some (.slice a1 n1 c1) ∧ w'.cell? ⟨w.heap.size, 2, none⟩ = some (.int .i64 e1) ∧ w'.cell? ⟨w.heap.size + 1, 0, none⟩ = some (.bool s2) ∧ w'.cell? ⟨w.heap.size + 1, 1, none⟩ = some (.slice a2 n2 c2) ∧ w'.cell? ⟨w.heap.size + 1, 2, none⟩ = some (.int .i64 e2)) (first | go_keep | exact ⟨g0, g1, g2, g3, g4, g5⟩ | exact ⟨q0, q1, q2, q3, q4, q5⟩ | exact ⟨p0, p1, p2, p3, p4, p5⟩)
          (first
            | (go_at_call 94; have chk := xw7; refine (HC2.out a6 a7 c6 c7 _ (hr6.below hbw7) hr7).mono ?_; rintro e w8 ⟨rfl, hbw8⟩; have xw8 := xw7.trans (hbw8.mono xw7.size); have g0 := cellB j0 xw8; have g1 := cellB j1 xw8; have g2 := cellB j2 xw8; have g3 := cellB j3 xw8; have g4 := cellB j4 xw8; have g5 := cellB j5 xw8)
            | (go_at_call 92; have chk := xw6; refine (HE2.out _ (b4.trans (xw6.mono b4.size))).mono ?_; rintro e w7 ⟨a7, c7, rfl, hr7, hbw7⟩; have xw7 := xw6.trans (hbw7.mono xw6.size); have q0 := cellB j0 xw7; have q1 := cellB j1 xw7; have q2 := cellB j2 xw7; have q3 := cellB j3 xw7; have q4 := cellB j4 xw7; have q5 := cellB j5 xw7)
            | (go_at_call 92; refine (HE1.out _ b4.drew).mono ?_; rintro e w6 ⟨a6, c6, rfl, hr6, hbw6⟩; have xw6 := (Below.refl w4.heap.size w4).drew.trans hbw6; have p0 := cellB j0 xw6; have p1 := cellB j1 xw6; have p2 := cellB j2 xw6; have p3 := cellB j3 xw6; have p4 := cellB j4 xw6; have p5 := cellB j5 xw6))
        have b8 := b4.trans (xw8.mono b4.size)
        go_wp2
        go_ret
        exact ⟨ret_int HSZ.out.symm, b8⟩
      · have hB : ((k1 : Int) != k2) = true := by simp [gk]
        go_wp2
        go_region_held3 (fun w' => w'.cell? ⟨w.heap.size, 0, none⟩ = some (.bool s1) ∧ w'.cell? ⟨w.heap.size, 1, none⟩ = some (.slice a1 n1 c1) ∧ w'.cell? ⟨w.heap.size, 2, none⟩ = some (.int .i64 e1) ∧ w'.cell? ⟨w.heap.size + 1, 0, none⟩ = some (.bool s2) ∧ w'.cell? ⟨w.heap.size + 1, 1, none⟩ = some (.slice a2 n2 c2) ∧ w'.cell? ⟨w.heap.size + 1, 2, none⟩ = some (.int .i64 e2)) (first | go_keep | exact ⟨q0, q1, q2, q3, q4, q5⟩ | exact ⟨p0, p1, p2, p3, p4, p5⟩)
          (first
          | (go_at_call 51; have chk := xw5; refine (HH2.out _).mono ?_; rintro e w6 ⟨rfl, hbw6⟩; have xw6 := xw5.trans (hbw6.mono xw5.size); have q0 := cellB j0 xw6; have q1 := cellB j1 xw6; have q2 := cellB j2 xw6; have q3 := cellB j3 xw6; have q4 := cellB j4 xw6; have q5 := cellB j5 xw6)
          | (go_at_call 51; refine (HH1.out _).mono ?_; rintro e w5 ⟨rfl, hbw5⟩; have xw5 := (Below.refl w4.heap.size w4).drew.trans hbw5; have p0 := cellB j0 xw5; have p1 := cellB j1 xw5; have p2 := cellB j2 xw5; have p3 := cellB j3 xw5; have p4 := cellB j4 xw5; have p5 := cellB j5 xw5))
        have b6 := b4.trans (xw6.mono b4.size)
        clear j0 j1 j2 j3 j4 j5 p0 p1 p2 p3 p4 p5 hbw5 hbw6 xw5 xw6
        by_cases gl : k1 < k2
        · have HS := Lib.hid (HLT.out HP1.out HP2.out gl).symm
          clear HLT HGT
          go_wp2
          go_ret
          exact ⟨ret_int HS.out, b6⟩
        · have HS := Lib.hid (HGT.out HP1.out HP2.out (by omega)).symm
          clear HLT HGT
          go_wp2
          go_ret
          exact ⟨ret_int HS.out, b6⟩
end Go.Proofs.YtofeckdhhaoobaaDoor

/- Walks of the document's Compare, Cmp. -/
namespace Go.Proofs.YtofeckdhhaoobaaDoor
open Go.RowKit LM

set_option maxHeartbeats 8000000 in
set_option maxRecDepth 20000 in
theorem Compare_any (p q : Pl) (a1 a2 : Option Addr) (c1 c2 : Nat) (w : World) (hp : Bd p) (hq : Bd q) (hr1 : RdC w a1 c1 p.m) (hr2 : RdC w a2 c2 q.m) :
    Calls Tryd.prog 58 #[.agg #[.bool p.neg, .slice a1 (dg 10 p.m).length c1, .int .i64 p.e], .agg #[.bool q.neg, .slice a2 (dg 10 q.m).length c2, .int .i64 q.e]] w fun r w' => r = .returned (.int .i64 (cmpP p q)) ∧ Below w.heap.size w w' := by
  have hO1 := fun W hb => Order_any p q a1 a2 c1 c2 W hp hq (hr1.below (w' := W) hb) (hr2.below hb)
  have hO2 := fun W hb => Order_any q p a2 a1 c2 c1 W hq hp (hr2.below (w' := W) hb) (hr1.below hb)
  have hcp := cmpP_sz p q
  generalize szC p q = S1 at *
  generalize szC q p = S2 at *
  have HO1 := Lib.hid hO1; have HO2 := Lib.hid hO2
  clear hO1 hO2 hp hq hr1 hr2
  obtain ⟨s1, m1, e1⟩ := p
  obtain ⟨s2, m2, e2⟩ := q
  simp only at *
  generalize cmpP ⟨s1, m1, e1⟩ ⟨s2, m2, e2⟩ = V at *
  generalize (dg 10 m1).length = n1 at *
  generalize (dg 10 m2).length = n2 at *
  have HCP := Lib.hid hcp
  clear hcp
  have B2 := ((Below.refl w.heap.size w).alloc (Nat.le_refl _) (.cells #[.bool s1, .slice a1 n1 c1, .int .i64 e1] 56)).alloc (by simp) (.cells #[.bool s2, .slice a2 n2 c2, .int .i64 e2] 56)
  cases s1 <;> cases s2
  · have HV := Lib.hid (show V = S1 by rw [HCP.out]; simp)
    go_enter Tryd.func58, Tryd.ntmps58
    go_wp2_with fail
    refine (HO1.out _ B2).mono ?_
    rintro r w2 ⟨rfl, hb2⟩
    have b2 := B2.trans (hb2.mono B2.size)
    go_wp2
    go_ret
    exact ⟨ret_int HV.out.symm, b2⟩
  · have HV := Lib.hid (show V = 1 by rw [HCP.out]; simp)
    go_enter Tryd.func58, Tryd.ntmps58
    go_wp2
    go_ret
    exact ⟨ret_int HV.out.symm, B2⟩
  · have HV := Lib.hid (show V = -1 by rw [HCP.out]; simp)
    go_enter Tryd.func58, Tryd.ntmps58
    go_wp2
    go_ret
    exact ⟨ret_int HV.out.symm, B2⟩
  · have HV := Lib.hid (show V = S2 by rw [HCP.out]; simp)
    go_enter Tryd.func58, Tryd.ntmps58
    go_wp2_with fail
    refine (HO2.out _ B2).mono ?_
    rintro r w2 ⟨rfl, hb2⟩
    have b2 := B2.trans (hb2.mono B2.size)
    go_wp2
    go_ret
    exact ⟨ret_int HV.out.symm, b2⟩

set_option maxHeartbeats 8000000 in
set_option maxRecDepth 20000 in
theorem RCmpD_any (s1 s2 : Bool) (a1 a2 : Option Addr) (c1 c2 : Nat) (l1 l2 : List Nat) (e1 e2 : Int) (w : World) (h1 : l1.length ≤ 9223372036854775807) (h2 : l2.length ≤ 9223372036854775807) (hlo1 : Lo 4294967296 l1) (hlo2 : Lo 4294967296 l2) (hr1 : Rd w .u32 a1 l1) (hr2 : Rd w .u32 a2 l2) :
    Calls Tryd.prog 25 #[.agg #[.bool s1, .slice a1 l1.length c1, .int .i64 e1], .agg #[.bool s2, .slice a2 l2.length c2, .int .i64 e2]] w (ResCm (normA l1.length s1 (vl 1000000000 l1) e1) (normA l2.length s2 (vl 1000000000 l2) e2) w) := by
  have hT := fun W hb => Two_any s1 s2 a1 a2 c1 c2 l1 l2 e1 e2 W h1 h2 hlo1 hlo2 (hr1.below' (w' := W) hb (Nat.le_refl _)) (hr2.below' hb (Nat.le_refl _))
  have hbA : Bd (normA l1.length s1 (vl 1000000000 l1) e1).p := Bd.of (normA_in _ _ _ _)
  have hbB : Bd (normA l2.length s2 (vl 1000000000 l2) e2).p := Bd.of (normA_in _ _ _ _)
  generalize normA l1.length s1 (vl 1000000000 l1) e1 = A at *
  generalize normA l2.length s2 (vl 1000000000 l2) e2 = B at *
  have HT := Lib.hid hT
  clear hT hlo1 hlo2 hr1 hr2
  have B2 := ((Below.refl w.heap.size w).alloc (Nat.le_refl _) (.cells #[.bool s1, .slice a1 l1.length c1, .int .i64 e1] 24)).alloc (by simp) (.cells #[.bool s2, .slice a2 l2.length c2, .int .i64 e2] 24)
  go_enter Tryd.func25, Tryd.ntmps25
  go_wp2_with fail
  refine (HT.out _ B2).mono ?_
  rintro r w2 ⟨a3, c3, a4, c4, rfl, hr3, hr4, hb2⟩
  have b2 := B2.trans (hb2.mono B2.size)
  clear hb2 B2 HT
  by_cases hok : A.err = 0 ∧ B.err = 0
  · have HA := Lib.hid hok.1; have HB := Lib.hid hok.2
    have hC := fun W hb => Compare_any A.p B.p a3 a4 c3 c4 W hbA hbB (hr3.below (w' := W) hb) (hr4.below hb)
    have HC := Lib.hid hC
    have hz : pairE A B = 0 := pairE_ok hok.1 hok.2
    rw [hz]
    have hqq := ((Below.refl w2.heap.size w2).alloc (Nat.le_refl _) (.cells #[.bool A.p.neg, .slice a3 (dg 10 A.p.m).length c3, .int .i64 A.p.e] 56)).alloc (by simp) (.cells #[.bool B.p.neg, .slice a4 (dg 10 B.p.m).length c4, .int .i64 B.p.e] 56)
    clear hC hz hok hbA hbB hr3 hr4
    go_wp2_with fail
    refine (HC.out _ hqq).mono ?_
    rintro r w4 ⟨rfl, hb4⟩
    have b4 := b2.trans ((hqq.trans (hb4.mono hqq.size)).mono b2.size)
    go_wp2
    refine bodyPost_ret (v := .tuple #[.int .i64 (cmpP A.p B.p), .int .i64 0]) (by simp [results, Tryd.results25, go_sem]) rfl ?_
    exact ⟨b4, .inl ⟨HA.out, HB.out, rfl⟩⟩
  · have HBAD := Lib.hid hok
    have hBB : (((pairE A B : Nat) : Int) != 0) = true := by simp; have := pairE_bad hok; omega
    clear hok hbA hbB hr3 hr4
    go_wp2
    refine bodyPost_ret (v := .tuple #[.int .i64 0, .int .i64 (pairE A B : Nat)]) (by simp [results, Tryd.results25, go_sem]) rfl ?_
    exact ⟨(b2.alloc b2.size _).alloc (by simp; have := b2.size; omega) _, .inr ⟨HBAD.out, rfl⟩⟩
end Go.Proofs.YtofeckdhhaoobaaDoor
