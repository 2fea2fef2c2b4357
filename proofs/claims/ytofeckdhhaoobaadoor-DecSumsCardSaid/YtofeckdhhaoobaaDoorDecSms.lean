/- Walk of the document's Sum. -/
import Derived.Test.YtofeckdhhaoobaaDoorDecAds
import Derived.Test.YtofeckdhhaoobaaDoorDecOds
import Derived.Test.YtofeckdhhaoobaaDoorLimbZ
namespace Go.Proofs.YtofeckdhhaoobaaDoor
open Go.RowKit LM

def ResSm (p q : Pl) (w : World) (r : Ending) (w' : World) : Prop := Below w.heap.size w w' ∧
  ((∃ (s : Pl) (a : Option Addr) (c : Nat), r = .returned (.tuple #[.agg #[.bool s.neg, .slice a (dg 10 s.m).length c, .int .i64 s.e], .bool true]) ∧ RdC w' a c s.m ∧ PlainP s ∧ dl s.m ≤ 1000000 ∧ -1000000 ≤ s.e ∧ s.e ≤ 1000000 ∧ addV p q = tellP s) ∨
   (r = .returned (.tuple #[.agg #[.bool false, .slice none 0 0, .int .i64 0], .bool false]) ∧ addV p q = ⟨3, zP⟩))

theorem add10 (u v : Nat) (a b : Option Addr) (ca cb : Nat) (w : World) (hu : (dg 10 u).length ≤ 30000) (hv : (dg 10 v).length ≤ 30000) (ha : RdC w a ca u) (hb : RdC w b cb v) :
    Calls Tryd.prog 93 #[.slice a (dg 10 u).length ca, .slice b (dg 10 v).length cb] w (ResDg (u + v) w) := by
  have h := RAdd_any a b ca cb (dg 10 u) (dg 10 v) w (by omega) (by omega) (Lo_dg (by omega) _) (Lo_dg (by omega) _) ha.1 hb.1
  rw [vl_dg (by omega), vl_dg (by omega)] at h
  exact h.mono fun e w' ⟨a', c', he, ho, hb⟩ => ⟨a', c', he, RdC.ofOwn ho, hb⟩
theorem sub10 (u v : Nat) (a b : Option Addr) (ca cb : Nat) (w : World) (hu : (dg 10 u).length ≤ 30000) (hle : v ≤ u) (ha : RdC w a ca u) (hb : RdC w b cb v) :
    Calls Tryd.prog 95 #[.slice a (dg 10 u).length ca, .slice b (dg 10 v).length cb] w (ResDg (u - v) w) := by
  have h := RSub_any a b ca cb (dg 10 u) (dg 10 v) w (by omega) (dg_len_le (by omega) hle) (Lo_dg (by omega) _) (Lo_dg (by omega) _) (by rw [vl_dg (by omega), vl_dg (by omega)]; exact hle) ha.1 hb.1
  rw [vl_dg (by omega), vl_dg (by omega)] at h
  exact h.mono fun e w' ⟨a', c', he, ho, hb⟩ => ⟨a', c', he, RdC.ofOwn ho, hb⟩

theorem ual_d10 {p : Pl} {e : Int} (h : Bd p) (he : -10400 ≤ e) : (dg 10 (ual p e)).length ≤ 21000 := by
  have h1 : ual p e < 10 ^ ((dg 10 p.m).length + (p.e - e).toNat) := by
    unfold ual; rw [Nat.pow_add]
    exact Nat.mul_lt_mul_of_pos_right (dg_upper (b := 10) (by omega) p.m) (Nat.pow_pos (by omega))
  have h0 : (dg 10 p.m).length ≤ 400 := h.1
  have h3 := dg_len_of_lt (b := 10) (by omega) h1
  have h5 := h.2
  omega
theorem sum_len {u v N : Nat} (hu : (dg 10 u).length ≤ N) (hv : (dg 10 v).length ≤ N) : (dg 10 (u + v)).length ≤ N + 1 ∧ (dg 10 (u - v)).length ≤ N ∧ (dg 10 (v - u)).length ≤ N := by
  refine ⟨?_, Nat.le_trans (dg_len_le (by omega) (Nat.sub_le _ _)) hu, Nat.le_trans (dg_len_le (by omega) (Nat.sub_le _ _)) hv⟩
  have k1 := dg_upper (b := 10) (by omega) u
  have k2 := dg_upper (b := 10) (by omega) v
  refine dg_len_of_lt (by omega) ?_
  have k3 : 10 ^ (dg 10 u).length ≤ 10 ^ N := Nat.pow_le_pow_right (by omega) hu
  have k4 : 10 ^ (dg 10 v).length ≤ 10 ^ N := Nat.pow_le_pow_right (by omega) hv
  rw [Nat.pow_succ]; omega
theorem made {s : Bool} {v : Nat} {e : Int} (hv : (dg 10 v).length ≤ 21001) (h1 : -10400 ≤ e) (h2 : e ≤ 10001) : PlainP (pl s v e) ∧ dl (pl s v e).m ≤ 1000000 ∧ -1000000 ≤ (pl s v e).e ∧ (pl s v e).e ≤ 1000000 := by
  have h3 := pl_len (s := s) (v := v) (e := e)
  have h4 : tz v ≤ 30000 := by
    rcases Nat.eq_zero_or_pos v with h | h
    · rw [h, tz_zero]; omega
    · have := tz_len h; omega
  obtain ⟨h5, h6⟩ := pl_e (s := s) (v := v) (e := e) (by omega) (by omega) h4
  exact ⟨pl_plain _ _ _, by unfold dl; omega, h5, h6⟩
theorem RdC.three {w : World} {a : Option Addr} {c m g1 : Nat} (h : RdC w a c m) {b1 : Bool} {s1 : Option Addr} {n1 d1 : Nat} {e1 : Int}
    (u0 : w.cell? ⟨g1, 0, none⟩ = some (.bool b1)) (u1 : w.cell? ⟨g1, 1, none⟩ = some (.slice s1 n1 d1)) (u2 : w.cell? ⟨g1, 2, none⟩ = some (.int .i64 e1)) (x0 x1 x2 : Value) :
    RdC (((w.setCell ⟨g1, 0, none⟩ x0).setCell ⟨g1, 1, none⟩ x1).setCell ⟨g1, 2, none⟩ x2) a c m := by
  refine ⟨?_, h.2⟩
  have h1 := h.1.setOther (v := x0) u0 (by intro n h; cases h)
  have h2 := h1.setOther (g := g1) (j := 1) (v := x1) (v0 := .slice s1 n1 d1) (by simp [go_sem, u1]) (by intro n h; cases h)
  exact h2.setOther (g := g1) (j := 2) (v := x2) (v0 := .int .i64 e1) (by simp [go_sem, u2]) (by intro n h; cases h)

set_option maxHeartbeats 16000000 in
set_option maxRecDepth 20000 in
theorem Sum_any (p q : Pl) (a1 a2 : Option Addr) (c1 c2 : Nat) (w : World) (hpp : PlainP p) (hqp : PlainP q) (hp : Bd p) (hq : Bd q) (hr1 : RdC w a1 c1 p.m) (hr2 : RdC w a2 c2 q.m) :
    Calls Tryd.prog 61 #[.agg #[.bool p.neg, .slice a1 (dg 10 p.m).length c1, .int .i64 p.e], .agg #[.bool q.neg, .slice a2 (dg 10 q.m).length c2, .int .i64 q.e]] w (ResSm p q w) := by
  have hH1 := fun W => Head_any p.neg a1 (dg 10 p.m).length c1 p.e W (by have : (dg 10 p.m).length ≤ 400 := hp.1; omega) (by have := hp.2; omega) (by have := hp.2; omega)
  have hH2 := fun W => Head_any q.neg a2 (dg 10 q.m).length c2 q.e W (by have : (dg 10 q.m).length ≤ 400 := hq.1; omega) (by have := hq.2; omega) (by have := hq.2; omega)
  have hd1 : p.e + ((dg 10 p.m).length : Int) - 1 = hd p := rfl
  have hd2 : q.e + ((dg 10 q.m).length : Int) - 1 = hd q := rfl
  have hdb1 : -20000 ≤ hd p ∧ hd p ≤ 20000 := by have k1 := hp.1; have k2 := hp.2; unfold hd; omega
  have hdb2 : -20000 ≤ hd q ∧ hd q ≤ 20000 := by have k1 := hq.1; have k2 := hq.2; unfold hd; omega
  rw [hd1] at hH1
  rw [hd2] at hH2
  have hmn : -10400 ≤ mn p q ∧ mn p q ≤ 10001 := by have := hp.2; have := hq.2; unfold mn; omega
  have hA1 : ∀ W, Below w.heap.size w W → Calls Tryd.prog 92 #[.agg #[.bool p.neg, .slice a1 (dg 10 p.m).length c1, .int .i64 p.e], .int .i64 (mn p q)] W (ResDg (ual p (mn p q)) W) := fun W hb => by
    have k1 := hp.2; have k2 := hq.2
    exact at_any p a1 c1 (mn p q) (p.e - mn p q).toNat W (by unfold mn; omega) (by unfold mn; omega) (by have := hp.1; omega) (by unfold mn; omega) (by omega) (hr1.below hb)
  have hA2 : ∀ W, Below w.heap.size w W → Calls Tryd.prog 92 #[.agg #[.bool q.neg, .slice a2 (dg 10 q.m).length c2, .int .i64 q.e], .int .i64 (mn p q)] W (ResDg (ual q (mn p q)) W) := fun W hb => by
    have k1 := hp.2; have k2 := hq.2
    exact at_any q a2 c2 (mn p q) (q.e - mn p q).toNat W (by unfold mn; omega) (by unfold mn; omega) (by have := hq.1; omega) (by unfold mn; omega) (by omega) (hr2.below hb)
  have hu1 := ual_d10 hp hmn.1
  have hu2 := ual_d10 hq hmn.1
  obtain ⟨hw1, hw2, hw3⟩ := sum_len hu1 hu2
  have hval : addV p q = (if p.neg = q.neg then tellA p.neg (ual p (mn p q) + ual q (mn p q)) (mn p q)
    else if ual p (mn p q) < ual q (mn p q) then tellA q.neg (ual q (mn p q) - ual p (mn p q)) (mn p q) else tellA p.neg (ual p (mn p q) - ual q (mn p q)) (mn p q)) := rfl
  have hzl := fun h => addV_zl hpp hqp h
  have hzr := fun h => addV_zr hpp hqp h
  have hf1 := fun h1 h2 h3 => addV_far1 (p := p) (q := q) hp hq h1 h2 h3
  have hf2 := fun h1 h2 h3 => addV_far2 (p := p) (q := q) hp hq h1 h2 h3
  have hlow : mn p q = min p.e q.e := rfl
  have hpm := Lib.hid (show p.m = 0 ↔ (dg 10 p.m).length = 0 from ⟨fun h => by rw [h, dg_zero]; rfl, fun h => (dg_eq_nil (by omega)).1 (List.eq_nil_of_length_eq_zero h)⟩)
  have hqm := Lib.hid (show q.m = 0 ↔ (dg 10 q.m).length = 0 from ⟨fun h => by rw [h, dg_zero]; rfl, fun h => (dg_eq_nil (by omega)).1 (List.eq_nil_of_length_eq_zero h)⟩)
  have hp10 : p.m ≠ 0 → p.m % 10 ≠ 0 := fun h => by rcases hpp with ⟨h1, _⟩ | h1; exact absurd h1 h; exact h1
  have hq10 : q.m ≠ 0 → q.m % 10 ≠ 0 := fun h => by rcases hqp with ⟨h1, _⟩ | h1; exact absurd h1 h; exact h1
  have hdlp : dl p.m ≤ 1000000 := by have := hp.1; omega
  have hdlq : dl q.m ≤ 1000000 := by have := hq.1; omega
  have hL1 : (dg 10 p.m).length ≤ 400 := hp.1
  have hL2 : (dg 10 q.m).length ≤ 400 := hq.1
  obtain ⟨y1, y2⟩ := hp.2
  obtain ⟨y3, y4⟩ := hq.2
  obtain ⟨y5, y6⟩ := hmn
  obtain ⟨y7, y8⟩ := hdb1
  obtain ⟨y9, y10⟩ := hdb2
  have HPP := Lib.hid hpp; have HQP := Lib.hid hqp; have HR1 := Lib.hid hr1; have HR2 := Lib.hid hr2
  unfold ResSm
  generalize addV p q = T at *
  generalize mn p q = em at *
  generalize ual p em = u1 at *
  generalize ual q em = u2 at *
  generalize hd p = k1 at *
  generalize hd q = k2 at *
  have HH1 := Lib.hid hH1; have HH2 := Lib.hid hH2; have HZL := Lib.hid hzl; have HZR := Lib.hid hzr; have HF1 := Lib.hid hf1; have HF2 := Lib.hid hf2; have HA1 := Lib.hid hA1; have HA2 := Lib.hid hA2; have HV := Lib.hid hval; have HLOW := Lib.hid hlow
  have HU1 := Lib.hid hu1; have HU2 := Lib.hid hu2; have HW1 := Lib.hid hw1; have HW2 := Lib.hid hw2; have HW3 := Lib.hid hw3; have HP10 := Lib.hid hp10; have HQ10 := Lib.hid hq10; have HDP := Lib.hid hdlp; have HDQ := Lib.hid hdlq
  clear hH1 hH2 hzl hzr hf1 hf2 hA1 hA2 hval hlow hp hq hr1 hr2 hd1 hd2 hu1 hu2 hw1 hw2 hw3 hp10 hq10 hdlp hdlq hpp hqp
  obtain ⟨s1, m1, e1⟩ := p
  obtain ⟨s2, m2, e2⟩ := q
  simp only at *
  have hn1 : (dg 10 m1).length = (dg 10 m1).length := rfl
  obtain ⟨n1, hN1⟩ : ∃ n, (dg 10 m1).length = n := ⟨_, rfl⟩
  obtain ⟨n2, hN2⟩ : ∃ n, (dg 10 m2).length = n := ⟨_, rfl⟩
  have HN1 := Lib.hid hN1; have HN2 := Lib.hid hN2
  rw [hN1] at hL1 hpm HH1 HA1 ⊢
  rw [hN2] at hL2 hqm HH2 HA2 ⊢
  have B3 := (((Below.refl w.heap.size w).alloc (Nat.le_refl _) (.cells #[.bool s1, .slice a1 n1 c1, .int .i64 e1] 56)).alloc (by simp) (.cells #[.bool s2, .slice a2 n2 c2, .int .i64 e2] 56)).alloc (by simp; omega) (.cells #[.bool false, .slice none 0 0, .int .i64 0] 56)
  have LE2 := Lib.hid (show w.heap.size ≤ w.heap.size + 1 + 1 by omega)
  clear hN1 hN2 hn1
  go_enter Tryd.func61, Tryd.ntmps61
  by_cases g1 : n1 = 0
  · have HS := Lib.hid (HZL.out (hpm.out.2 g1))
    have t1 : ((n1 : Int) == 0) = true := by simp [g1]
    clear g1
    go_wp2
    refine bodyPost_ret (v := .tuple #[.agg #[.bool s2, .slice a2 n2 c2, .int .i64 e2], .bool true]) (by simp [results, Tryd.results61, go_sem]) rfl ?_
    have BR := (((Below.refl w.heap.size w).alloc (Nat.le_refl _) (.cells #[.bool s1, .slice a1 n1 c1, .int .i64 e1] 56)).alloc (by simp) (.cells #[.bool s2, .slice a2 n2 c2, .int .i64 e2] 56)).alloc (by simp; omega) (.cells #[.bool s2, .slice a2 n2 c2, .int .i64 e2] 56)
    exact ⟨BR, .inl ⟨⟨s2, m2, e2⟩, a2, c2, by rw [HN2.out], HR2.out.below BR, HQP.out, HDQ.out, by show (-1000000 : Int) ≤ e2; omega, by show e2 ≤ (1000000 : Int); omega, HS.out⟩⟩
  · have t1 : ((n1 : Int) == 0) = false := by simp; omega
    by_cases g2 : n2 = 0
    · have HS := Lib.hid (HZR.out (hqm.out.2 g2))
      have t2 : ((n2 : Int) == 0) = true := by simp [g2]
      clear g1 g2
      go_wp2
      refine bodyPost_ret (v := .tuple #[.agg #[.bool s1, .slice a1 n1 c1, .int .i64 e1], .bool true]) (by simp [results, Tryd.results61, go_sem]) rfl ?_
      have BR := (((Below.refl w.heap.size w).alloc (Nat.le_refl _) (.cells #[.bool s1, .slice a1 n1 c1, .int .i64 e1] 56)).alloc (by simp) (.cells #[.bool s2, .slice a2 n2 c2, .int .i64 e2] 56)).alloc (by simp; omega) (.cells #[.bool s1, .slice a1 n1 c1, .int .i64 e1] 56)
      exact ⟨BR, .inl ⟨⟨s1, m1, e1⟩, a1, c1, by rw [HN1.out], HR1.out.below BR, HPP.out, HDP.out, by show (-1000000 : Int) ≤ e1; omega, by show e1 ≤ (1000000 : Int); omega, HS.out⟩⟩
    · have t2 : ((n2 : Int) == 0) = false := by simp; omega
      have HM1 := Lib.hid (show m1 ≠ 0 from fun h => g1 (hpm.out.1 h))
      have HM2 := Lib.hid (show m2 ≠ 0 from fun h => g2 (hqm.out.1 h))
      clear g1 g2
      go_wp2_with fail
      refine (low_any e1 e2 _).mono ?_
      rintro r w2 ⟨rfl, rfl⟩
      rw [← HLOW.out]

      go_wp2_with fail
      refine (HH1.out _).mono ?_
      rintro r w3 ⟨rfl, hb3⟩
      have b3 := B3.trans (hb3.mono B3.size)
      have px0 : w3.cell? ⟨w.heap.size, 0, none⟩ = some (.bool s1) := by rw [hb3.cell (by simp <;> omega)]; simp [go_sem]
      have px1 : w3.cell? ⟨w.heap.size, 1, none⟩ = some (.slice a1 n1 c1) := by rw [hb3.cell (by simp <;> omega)]; simp [go_sem]
      have px2 : w3.cell? ⟨w.heap.size, 2, none⟩ = some (.int .i64 e1) := by rw [hb3.cell (by simp <;> omega)]; simp [go_sem]
      have py0 : w3.cell? ⟨w.heap.size + 1, 0, none⟩ = some (.bool s2) := by rw [hb3.cell (by simp <;> omega)]; simp [go_sem]
      have py1 : w3.cell? ⟨w.heap.size + 1, 1, none⟩ = some (.slice a2 n2 c2) := by rw [hb3.cell (by simp <;> omega)]; simp [go_sem]
      have py2 : w3.cell? ⟨w.heap.size + 1, 2, none⟩ = some (.int .i64 e2) := by rw [hb3.cell (by simp <;> omega)]; simp [go_sem]
      have pr0 : w3.cell? ⟨w.heap.size + 1 + 1, 0, none⟩ = some (.bool false) := by rw [hb3.cell (by simp <;> omega)]; simp [go_sem]
      have pr1 : w3.cell? ⟨w.heap.size + 1 + 1, 1, none⟩ = some (.slice none 0 0) := by rw [hb3.cell (by simp <;> omega)]; simp [go_sem]
      have pr2 : w3.cell? ⟨w.heap.size + 1 + 1, 2, none⟩ = some (.int .i64 0) := by rw [hb3.cell (by simp <;> omega)]; simp [go_sem]
      have pf : ∀ j, w3.frozen? ⟨w.heap.size + 1 + 1, j, none⟩ = false := fun j => by rw [hb3.frozen (by simp)]; simp [go_sem]
      clear hb3
      by_cases f1 : 2000 < k1 - em
      · have HT := Lib.hid (HF1.out (Nat.pos_of_ne_zero HM1.out) (HQ10.out HM2.out) f1)
        go_wp2
        refine bodyPost_ret (v := .tuple #[.agg #[.bool false, .slice none 0 0, .int .i64 0], .bool false]) (by simp [results, Tryd.results61, go_sem, pr0, pr1, pr2]) rfl ?_
        exact ⟨((b3.setCell LE2.out _).setCell LE2.out _).setCell LE2.out _, .inr ⟨rfl, HT.out⟩⟩
      · have f1 : ¬ 2000 < k1 - em := f1
        go_wp2_with fail
        refine (HH2.out _).mono ?_
        rintro r w4 ⟨rfl, hb4⟩
        have b4 := b3.trans (hb4.mono b3.size)
        have qx0 := cellB px0 hb4
        have qx1 := cellB px1 hb4
        have qx2 := cellB px2 hb4
        have qy0 := cellB py0 hb4
        have qy1 := cellB py1 hb4
        have qy2 := cellB py2 hb4
        have qr0 := cellB pr0 hb4
        have qr1 := cellB pr1 hb4
        have qr2 := cellB pr2 hb4
        have qlt := lt_of_cell pr0
        have qf : ∀ j, w4.frozen? ⟨w.heap.size + 1 + 1, j, none⟩ = false := fun j => by rw [hb4.frozen (p := ⟨w.heap.size + 1 + 1, j, none⟩) qlt]; exact pf j
        clear qlt
        clear hb4 b3 pf px0 px1 px2 py0 py1 py2 pr0 pr1 pr2
        by_cases f2 : 2000 < k2 - em
        · have HT := Lib.hid (HF2.out (Nat.pos_of_ne_zero HM2.out) (HP10.out HM1.out) f2)
          go_wp2
          refine bodyPost_ret (v := .tuple #[.agg #[.bool false, .slice none 0 0, .int .i64 0], .bool false]) (by simp [results, Tryd.results61, go_sem, qr0, qr1, qr2]) rfl ?_
          exact ⟨((b4.setCell LE2.out _).setCell LE2.out _).setCell LE2.out _, .inr ⟨rfl, HT.out⟩⟩
        · have f2 : ¬ 2000 < k2 - em := f2
          go_wp2_with fail
          refine (HA1.out _ b4).mono ?_
          rintro r w5 ⟨a5, c5, rfl, hr5, hb5⟩
          have b5 := b4.trans (hb5.mono b4.size)
          have px0 := cellB qx0 hb5
          have px1 := cellB qx1 hb5
          have px2 := cellB qx2 hb5
          have py0 := cellB qy0 hb5
          have py1 := cellB qy1 hb5
          have py2 := cellB qy2 hb5
          have pr0 := cellB qr0 hb5
          have pr1 := cellB qr1 hb5
          have pr2 := cellB qr2 hb5
          have plt := lt_of_cell qr0
          have pf : ∀ j, w5.frozen? ⟨w.heap.size + 1 + 1, j, none⟩ = false := fun j => by rw [hb5.frozen (p := ⟨w.heap.size + 1 + 1, j, none⟩) plt]; exact qf j
          clear plt
          clear hb5 b4 qf qx0 qx1 qx2 qy0 qy1 qy2 qr0 qr1 qr2
          go_wp2_with fail
          refine (HA2.out _ b5).mono ?_
          rintro r w6 ⟨a6, c6, rfl, hr6, hb6⟩
          have b6 := b5.trans (hb6.mono b5.size)
          have hr7 := hr5.below hb6
          have qx0 := cellB px0 hb6
          have qx1 := cellB px1 hb6
          have qx2 := cellB px2 hb6
          have qy0 := cellB py0 hb6
          have qy1 := cellB py1 hb6
          have qy2 := cellB py2 hb6
          have qr0 := cellB pr0 hb6
          have qr1 := cellB pr1 hb6
          have qr2 := cellB pr2 hb6
          have qlt := lt_of_cell pr0
          have qf : ∀ j, w6.frozen? ⟨w.heap.size + 1 + 1, j, none⟩ = false := fun j => by rw [hb6.frozen (p := ⟨w.heap.size + 1 + 1, j, none⟩) qlt]; exact pf j
          clear qlt
          clear hb6 b5 pf hr5 f1 f2 HF1 HF2 HH1 HH2 HA1 HA2 HZL HZR HM1 HM2 HP10 HQ10 px0 px1 px2 py0 py1 py2 pr0 pr1 pr2
          have HX := Lib.hid hr7; have HY := Lib.hid hr6
          clear hr6 hr7
          by_cases hs : s1 = s2
          · have hT : T = tellP (pl s1 (u1 + u2) em) := by rw [HV.out]; exact if_pos hs
            have hsB : (s1 == s2) = true := by simp [hs]
            clear hs
            have HAR := Lib.hid (fun W (hb : Below w6.heap.size w6 W) => add10 u1 u2 a5 a6 c5 c6 W (by have := HU1.out; omega) (by have := HU2.out; omega) (HX.out.below hb) (HY.out.below hb))
            have hvl : (dg 10 (u1 + u2)).length ≤ 21001 := by have := HW1.out; omega
            have hmade := made (s := s1) (v := u1 + u2) (e := em) hvl y5 y6
            have hMk := fun a c W hr => Make_any s1 a c (u1 + u2) em W (by have := hvl; omega) (by omega) (by omega) hr
            have HMK := Lib.hid hMk; have HMD := Lib.hid hmade; have HT := Lib.hid hT
            have x0 := qx0
            have nz1 : ¬ w.heap.size = w.heap.size + 1 + 1 := by omega
            have nz2 : ¬ w.heap.size + 1 + 1 = w.heap.size := by omega
            clear hMk hmade hT hvl
            go_wp2
            have HK0 := Lib.hid qr0; have HK1 := Lib.hid qr1; have HK2 := Lib.hid qr2; have HKF := Lib.hid qf
            have hl3 := lt_of_cell qr0
            clear qx0 qx1 qx2 qy0 qy1 qy2 qr0 qr1 qr2 qf
            go_region_held3 (fun w' => w'.cell? ⟨w.heap.size, 0, none⟩ = some (.bool s1)) (first | exact xj | exact xi | exact x0 | go_keep)
              (first
                | (go_at_call 93; refine (HAR.out _ (Below.refl w6.heap.size w6).drew).mono ?_; rintro e w8 ⟨a8, c8, rfl, hr8, hb8⟩; have h8 := (Below.refl w6.heap.size w6).drew.trans hb8; have xi := cellB x0 h8)
                | (go_at_call 42; refine (HMK.out a8 c8 _ hr8).mono ?_; rintro e w9 ⟨a9, c9, rfl, hr9, hb9⟩; have h9 := h8.trans (hb9.mono h8.size); have xj := cellB x0 h9; have z0 := cellB HK0.out h9; have z1 := cellB HK1.out h9; have z2 := cellB HK2.out h9; have zf : ∀ j, w9.frozen? ⟨w.heap.size + 1 + 1, j, none⟩ = false := (fun j => by rw [h9.frozen (p := ⟨w.heap.size + 1 + 1, j, none⟩) hl3]; exact HKF.out j)))
            have b9 := b6.trans (h9.mono b6.size)
            have HR9 := Lib.hid hr9
            clear hb9 h9 h8 hb8 hr8 hr9
            go_wp2
            refine bodyPost_ret (v := .tuple #[.agg #[.bool (pl s1 (u1 + u2) em).neg, .slice a9 (dg 10 (pl s1 (u1 + u2) em).m).length c9, .int .i64 (pl s1 (u1 + u2) em).e], .bool true]) (by simp [results, Tryd.results61, go_sem, z0, z1, z2]) rfl ?_
            exact ⟨((b9.setCell LE2.out _).setCell LE2.out _).setCell LE2.out _, .inl ⟨pl s1 (u1 + u2) em, a9, c9, rfl, HR9.out.three z0 z1 z2 _ _ _, HMD.out.1, HMD.out.2.1, HMD.out.2.2.1, HMD.out.2.2.2, HT.out⟩⟩
          · have hsB : (s1 == s2) = false := by simp [hs]
            have hC := fun W (hb : Below w6.heap.size w6 W) => RCmp_any a5 a6 c5 c6 u1 u2 W (by have := HU1.out; omega) (by have := HU2.out; omega) ((HX.out.below hb).1) ((HY.out.below hb).1)
            by_cases hlt : u1 < u2
            · have hT : T = tellP (pl s2 (u2 - u1) em) := by rw [HV.out]; exact (if_neg hs).trans (if_pos hlt)
              rw [cmpN_lt hlt] at hC
              have HC := Lib.hid hC
              have HLE := Lib.hid (Nat.le_of_lt hlt)
              clear hs hC hlt
              go_wp2_with fail
              refine (HC.out _ (Below.refl _ _)).mono ?_
              rintro r w7 ⟨rfl, hb7⟩
              have b7 := b6.trans (hb7.mono b6.size)
              have px0 := cellB qx0 hb7
              have px1 := cellB qx1 hb7
              have px2 := cellB qx2 hb7
              have py0 := cellB qy0 hb7
              have py1 := cellB qy1 hb7
              have py2 := cellB qy2 hb7
              have pr0 := cellB qr0 hb7
              have pr1 := cellB qr1 hb7
              have pr2 := cellB qr2 hb7
              have plt := lt_of_cell qr0
              have pf : ∀ j, w7.frozen? ⟨w.heap.size + 1 + 1, j, none⟩ = false := fun j => by rw [hb7.frozen (p := ⟨w.heap.size + 1 + 1, j, none⟩) plt]; exact qf j
              have HX7 := Lib.hid (HX.out.below hb7); have HY7 := Lib.hid (HY.out.below hb7)
              clear plt hb7 b6 qf qx0 qx1 qx2 qy0 qy1 qy2 qr0 qr1 qr2
              have HAR := Lib.hid (fun W (hb : Below w7.heap.size w7 W) => sub10 u2 u1 a6 a5 c6 c5 W (by have := HU2.out; omega) HLE.out (HY7.out.below hb) (HX7.out.below hb))
              have hvl : (dg 10 (u2 - u1)).length ≤ 21001 := by have := HW3.out; omega
              have hmade := made (s := s2) (v := u2 - u1) (e := em) hvl y5 y6
              have hMk := fun a c W hr => Make_any s2 a c (u2 - u1) em W (by have := hvl; omega) (by omega) (by omega) hr
              have HMK := Lib.hid hMk; have HMD := Lib.hid hmade; have HT := Lib.hid hT
              have x0 := py0
              have nz1 : ¬ w.heap.size = w.heap.size + 1 + 1 := by omega
              have nz2 : ¬ w.heap.size + 1 + 1 = w.heap.size := by omega
              clear hMk hmade hT hvl
              go_wp2
              have HK0 := Lib.hid pr0; have HK1 := Lib.hid pr1; have HK2 := Lib.hid pr2; have HKF := Lib.hid pf
              have hl3 := lt_of_cell pr0
              clear px0 px1 px2 py0 py1 py2 pr0 pr1 pr2 pf
              go_region_held3 (fun w' => w'.cell? ⟨w.heap.size + 1, 0, none⟩ = some (.bool s2)) (first | exact xj | exact xi | exact x0 | go_keep)
                (first
                  | (go_at_call 95; refine (HAR.out _ (Below.refl w7.heap.size w7).drew).mono ?_; rintro e w8 ⟨a8, c8, rfl, hr8, hb8⟩; have h8 := (Below.refl w7.heap.size w7).drew.trans hb8; have xi := cellB x0 h8)
                  | (go_at_call 42; refine (HMK.out a8 c8 _ hr8).mono ?_; rintro e w9 ⟨a9, c9, rfl, hr9, hb9⟩; have h9 := h8.trans (hb9.mono h8.size); have xj := cellB x0 h9; have z0 := cellB HK0.out h9; have z1 := cellB HK1.out h9; have z2 := cellB HK2.out h9; have zf : ∀ j, w9.frozen? ⟨w.heap.size + 1 + 1, j, none⟩ = false := (fun j => by rw [h9.frozen (p := ⟨w.heap.size + 1 + 1, j, none⟩) hl3]; exact HKF.out j)))
              have b9 := b7.trans (h9.mono b7.size)
              have HR9 := Lib.hid hr9
              clear hb9 h9 h8 hb8 hr8 hr9
              go_wp2
              refine bodyPost_ret (v := .tuple #[.agg #[.bool (pl s2 (u2 - u1) em).neg, .slice a9 (dg 10 (pl s2 (u2 - u1) em).m).length c9, .int .i64 (pl s2 (u2 - u1) em).e], .bool true]) (by simp [results, Tryd.results61, go_sem, z0, z1, z2]) rfl ?_
              exact ⟨((b9.setCell LE2.out _).setCell LE2.out _).setCell LE2.out _, .inl ⟨pl s2 (u2 - u1) em, a9, c9, rfl, HR9.out.three z0 z1 z2 _ _ _, HMD.out.1, HMD.out.2.1, HMD.out.2.2.1, HMD.out.2.2.2, HT.out⟩⟩
            · have hT : T = tellP (pl s1 (u1 - u2) em) := by rw [HV.out]; exact (if_neg hs).trans (if_neg hlt)
              have hge : 0 ≤ cmpN u1 u2 := by unfold cmpN; rw [if_neg hlt]; split <;> omega
              have HC := Lib.hid hC
              have HLE := Lib.hid (Nat.le_of_not_lt hlt)
              clear hs hC hlt
              generalize cmpN u1 u2 = cv at *
              go_wp2_with fail
              refine (HC.out _ (Below.refl _ _)).mono ?_
              rintro r w7 ⟨rfl, hb7⟩
              have b7 := b6.trans (hb7.mono b6.size)
              have px0 := cellB qx0 hb7
              have px1 := cellB qx1 hb7
              have px2 := cellB qx2 hb7
              have py0 := cellB qy0 hb7
              have py1 := cellB qy1 hb7
              have py2 := cellB qy2 hb7
              have pr0 := cellB qr0 hb7
              have pr1 := cellB qr1 hb7
              have pr2 := cellB qr2 hb7
              have plt := lt_of_cell qr0
              have pf : ∀ j, w7.frozen? ⟨w.heap.size + 1 + 1, j, none⟩ = false := fun j => by rw [hb7.frozen (p := ⟨w.heap.size + 1 + 1, j, none⟩) plt]; exact qf j
              have HX7 := Lib.hid (HX.out.below hb7); have HY7 := Lib.hid (HY.out.below hb7)
              clear plt hb7 b6 qf qx0 qx1 qx2 qy0 qy1 qy2 qr0 qr1 qr2
              have HAR := Lib.hid (fun W (hb : Below w7.heap.size w7 W) => sub10 u1 u2 a5 a6 c5 c6 W (by have := HU1.out; omega) HLE.out (HX7.out.below hb) (HY7.out.below hb))
              have hvl : (dg 10 (u1 - u2)).length ≤ 21001 := by have := HW2.out; omega
              have hmade := made (s := s1) (v := u1 - u2) (e := em) hvl y5 y6
              have hMk := fun a c W hr => Make_any s1 a c (u1 - u2) em W (by have := hvl; omega) (by omega) (by omega) hr
              have HMK := Lib.hid hMk; have HMD := Lib.hid hmade; have HT := Lib.hid hT
              have x0 := px0
              have nz1 : ¬ w.heap.size = w.heap.size + 1 + 1 := by omega
              have nz2 : ¬ w.heap.size + 1 + 1 = w.heap.size := by omega
              clear hMk hmade hT hvl
              go_wp2
              have HK0 := Lib.hid pr0; have HK1 := Lib.hid pr1; have HK2 := Lib.hid pr2; have HKF := Lib.hid pf
              have hl3 := lt_of_cell pr0
              clear px0 px1 px2 py0 py1 py2 pr0 pr1 pr2 pf
              go_region_held3 (fun w' => w'.cell? ⟨w.heap.size, 0, none⟩ = some (.bool s1)) (first | exact xj | exact xi | exact x0 | go_keep)
                (first
                  | (go_at_call 95; refine (HAR.out _ (Below.refl w7.heap.size w7).drew).mono ?_; rintro e w8 ⟨a8, c8, rfl, hr8, hb8⟩; have h8 := (Below.refl w7.heap.size w7).drew.trans hb8; have xi := cellB x0 h8)
                  | (go_at_call 42; refine (HMK.out a8 c8 _ hr8).mono ?_; rintro e w9 ⟨a9, c9, rfl, hr9, hb9⟩; have h9 := h8.trans (hb9.mono h8.size); have xj := cellB x0 h9; have z0 := cellB HK0.out h9; have z1 := cellB HK1.out h9; have z2 := cellB HK2.out h9; have zf : ∀ j, w9.frozen? ⟨w.heap.size + 1 + 1, j, none⟩ = false := (fun j => by rw [h9.frozen (p := ⟨w.heap.size + 1 + 1, j, none⟩) hl3]; exact HKF.out j)))
              have b9 := b7.trans (h9.mono b7.size)
              have HR9 := Lib.hid hr9
              clear hb9 h9 h8 hb8 hr8 hr9
              go_wp2
              refine bodyPost_ret (v := .tuple #[.agg #[.bool (pl s1 (u1 - u2) em).neg, .slice a9 (dg 10 (pl s1 (u1 - u2) em).m).length c9, .int .i64 (pl s1 (u1 - u2) em).e], .bool true]) (by simp [results, Tryd.results61, go_sem, z0, z1, z2]) rfl ?_
              exact ⟨((b9.setCell LE2.out _).setCell LE2.out _).setCell LE2.out _, .inl ⟨pl s1 (u1 - u2) em, a9, c9, rfl, HR9.out.three z0 z1 z2 _ _ _, HMD.out.1, HMD.out.2.1, HMD.out.2.2.1, HMD.out.2.2.2, HT.out⟩⟩
end Go.Proofs.YtofeckdhhaoobaaDoor

/- Walk of the document's Add. -/
namespace Go.Proofs.YtofeckdhhaoobaaDoor
open Go.RowKit LM

set_option maxHeartbeats 16000000 in
set_option maxRecDepth 20000 in
theorem RAddD_any (s1 s2 : Bool) (a1 a2 : Option Addr) (c1 c2 : Nat) (l1 l2 : List Nat) (e1 e2 : Int) (w : World) (h1 : l1.length ≤ 9223372036854775807) (h2 : l2.length ≤ 9223372036854775807) (hlo1 : Lo 4294967296 l1) (hlo2 : Lo 4294967296 l2) (hr1 : Rd w .u32 a1 l1) (hr2 : Rd w .u32 a2 l2) :
    Calls Tryd.prog 29 #[.agg #[.bool s1, .slice a1 l1.length c1, .int .i64 e1], .agg #[.bool s2, .slice a2 l2.length c2, .int .i64 e2]] w (ResN (addA (normA l1.length s1 (vl 1000000000 l1) e1) (normA l2.length s2 (vl 1000000000 l2) e2)) w) := by
  have hT := fun W hb => Two_any s1 s2 a1 a2 c1 c2 l1 l2 e1 e2 W h1 h2 hlo1 hlo2 (hr1.below' (w' := W) hb (Nat.le_refl _)) (hr2.below' hb (Nat.le_refl _))
  have hbA : Bd (normA l1.length s1 (vl 1000000000 l1) e1).p := Bd.of (normA_in _ _ _ _)
  have hbB : Bd (normA l2.length s2 (vl 1000000000 l2) e2).p := Bd.of (normA_in _ _ _ _)
  have hpA := normA_plain l1.length s1 (vl 1000000000 l1) e1
  have hpB := normA_plain l2.length s2 (vl 1000000000 l2) e2
  generalize normA l1.length s1 (vl 1000000000 l1) e1 = A at *
  generalize normA l2.length s2 (vl 1000000000 l2) e2 = B at *
  have hres : addA A B = if okP A B then addV A.p B.p else ⟨pairE A B, zP⟩ := rfl
  generalize addA A B = R at *
  have HT := Lib.hid hT; have HRES := Lib.hid hres
  clear hT hres hlo1 hlo2 hr1 hr2
  have B3 := (((Below.refl w.heap.size w).alloc (Nat.le_refl _) (.cells #[.bool s1, .slice a1 l1.length c1, .int .i64 e1] 24)).alloc (by simp) (.cells #[.bool s2, .slice a2 l2.length c2, .int .i64 e2] 24)).alloc (by simp; omega) (.cells #[.bool false, .slice none 0 0, .int .i64 0] 24)
  go_enter Tryd.func29, Tryd.ntmps29
  go_wp2_with fail
  refine (HT.out _ B3).mono ?_
  rintro r w2 ⟨a3, c3, a4, c4, rfl, hr3, hr4, hb2⟩
  have b2 := B3.trans (hb2.mono B3.size)
  have u0 : w2.cell? ⟨w.heap.size + 1 + 1, 0, none⟩ = some (.bool false) := by rw [hb2.cell (by simp)]; simp [go_sem]
  have u1 : w2.cell? ⟨w.heap.size + 1 + 1, 1, none⟩ = some (.slice none 0 0) := by rw [hb2.cell (by simp)]; simp [go_sem]
  have u2 : w2.cell? ⟨w.heap.size + 1 + 1, 2, none⟩ = some (.int .i64 0) := by rw [hb2.cell (by simp)]; simp [go_sem]
  have uf : ∀ j, w2.frozen? ⟨w.heap.size + 1 + 1, j, none⟩ = false := fun j => by rw [hb2.frozen (by simp)]; simp [go_sem]
  have LE2 := Lib.hid (show w.heap.size ≤ w.heap.size + 1 + 1 by omega)
  have hlt := lt_of_cell u0
  clear hb2 HT B3
  have hqq := ((Below.refl w2.heap.size w2).alloc (Nat.le_refl _) (.cells #[.bool A.p.neg, .slice a3 (dg 10 A.p.m).length c3, .int .i64 A.p.e] 56)).alloc (by simp) (.cells #[.bool B.p.neg, .slice a4 (dg 10 B.p.m).length c4, .int .i64 B.p.e] 56)
  have k0 := cellB u0 hqq
  have k1 := cellB u1 hqq
  have k2 := cellB u2 hqq
  have kf := fun j => (hqq.frozen (p := ⟨w.heap.size + 1 + 1, j, none⟩) hlt).trans (uf j)
  have bq := b2.trans (hqq.mono b2.size)
  by_cases hok : okP A B
  · have hR : R = addV A.p B.p := by rw [HRES.out]; exact if_pos hok
    have hz : pairE A B = 0 := pairE_ok hok.1 hok.2
    rw [hz]
    have hS := fun W hb => Sum_any A.p B.p a3 a4 c3 c4 W hpA hpB hbA hbB (hr3.below (w' := W) hb) (hr4.below hb)
    unfold ResSm at hS
    rw [← hR] at hS
    have HS := Lib.hid hS
    have HLT := Lib.hid (show w.heap.size + 1 + 1 < w2.heap.size from hlt)
    clear hS hR hz hok hbA hbB hpA hpB hr3 hr4 u0 u1 u2 uf hlt
    go_wp2_with fail
    refine (HS.out _ hqq).mono ?_
    rintro r w4 ⟨hb4, h⟩
    have g0 := cellB k0 hb4
    have g1 := cellB k1 hb4
    have g2 := cellB k2 hb4
    have hv := lt_of_cell k0
    have gf : ∀ j, w4.frozen? ⟨w.heap.size + 1 + 1, j, none⟩ = false := fun j => by rw [hb4.frozen (p := ⟨w.heap.size + 1 + 1, j, none⟩) hv]; exact kf j
    have b4 := bq.trans (hb4.mono bq.size)
    have hlt4 := lt_of_cell g0
    clear hb4 hqq k0 k1 k2 kf hv bq
    rcases h with ⟨s, a5, c5, rfl, hr5, hps, hds, he1, he2, hTe⟩ | ⟨rfl, hTe⟩
    · have hT := fun W hb => Tell_any s a5 c5 W hps hds he1 he2 (hr5.below (w' := W) hb)
      rw [← hTe] at hT
      have HT := Lib.hid hT
      have hq2 := (Below.refl w4.heap.size w4).alloc (Nat.le_refl _) (.cells #[.bool s.neg, .slice a5 (dg 10 s.m).length c5, .int .i64 s.e] 56)
      have p0 := cellB g0 hq2
      have p1 := cellB g1 hq2
      have p2 := cellB g2 hq2
      have pf := fun j => (hq2.frozen (p := ⟨w.heap.size + 1 + 1, j, none⟩) hlt4).trans (gf j)
      have b5 := b4.trans (hq2.mono b4.size)
      clear hT hps hds he1 he2 hTe hr5 g0 g1 g2 gf b4
      go_wp2_with fail
      refine (HT.out _ hq2).mono ?_
      rintro r w6 ⟨a6, c6, rfl, ho6, hb6⟩
      have z0 := cellB p0 hb6
      have z1 := cellB p1 hb6
      have z2 := cellB p2 hb6
      have hv := lt_of_cell p0
      have zf : ∀ j, w6.frozen? ⟨w.heap.size + 1 + 1, j, none⟩ = false := fun j => by rw [hb6.frozen (p := ⟨w.heap.size + 1 + 1, j, none⟩) hv]; exact pf j
      have b6 := b5.trans (hb6.mono b5.size)
      have ap := ho6.apart hv
      have hown := ho6.mono b5.size
      clear ho6 hb6 p0 p1 p2 pf hq2 b5
      go_wp2
      refine bodyPost_ret (v := .tuple #[.agg #[.bool R.p.neg, .slice a6 (dg 1000000000 R.p.m).length c6, .int .i64 R.p.e], .int .i64 (R.err : Nat)]) (by simp [results, Tryd.results29, go_sem, z0, z1, z2]) rfl ?_
      exact ⟨a6, c6, rfl, ((hown.setFar ap _ _).setFar ap _ _).setFar ap _ _, ((b6.setCell LE2.out _).setCell LE2.out _).setCell LE2.out _⟩
    · have HTE := Lib.hid hTe
      obtain ⟨z0, z1, z2⟩ := valRes g0 g1 g2 (.bool false) (.slice none 0 0) (.int .i64 0) (.cells #[.bool false, .slice none 0 0, .int .i64 0] 56)
      clear hTe
      go_wp2
      refine bodyPost_ret (v := .tuple #[.agg #[.bool false, .slice none 0 0, .int .i64 0], .int .i64 3]) (by simp [results, Tryd.results29, go_sem, z0, z1, z2]) rfl ?_
      exact resA_err HTE.out ((((b4.setCell LE2.out _).setCell LE2.out _).setCell LE2.out _).alloc (by simp; have := b4.size; omega) _)
  · have hR : R = ⟨pairE A B, zP⟩ := by rw [HRES.out]; exact if_neg hok
    have hBB : (((pairE A B : Nat) : Int) != 0) = true := by simp; have := pairE_bad hok; omega
    have HR := Lib.hid hR
    clear hok hbA hbB hpA hpB hR hqq u0 u1 u2 uf hr3 hr4
    go_wp2
    refine bodyPost_ret (v := .tuple #[.agg #[.bool false, .slice none 0 0, .int .i64 0], .int .i64 (pairE A B : Nat)]) (by simp [results, Tryd.results29, go_sem, k0, k1, k2]) rfl ?_
    exact resA_err HR.out (((bq.setCell LE2.out _).setCell LE2.out _).setCell LE2.out _)
end Go.Proofs.YtofeckdhhaoobaaDoor

/- Walk of the document's Mul. -/
namespace Go.Proofs.YtofeckdhhaoobaaDoor
open Go.RowKit LM

theorem mul10 (u v : Nat) (a b : Option Addr) (ca cb : Nat) (w : World) (hu : (dg 10 u).length ≤ 400) (hv : (dg 10 v).length ≤ 400) (ha : RdC w a ca u) (hb : RdC w b cb v) :
    Calls Tryd.prog 63 #[.slice a (dg 10 u).length ca, .slice b (dg 10 v).length cb] w (ResDg (u * v) w) := by
  have h := RMul_any a b ca cb (dg 10 u) (dg 10 v) w (by omega) (by omega) (Lo_dg (by omega) _) (Lo_dg (by omega) _) ha.1 hb.1
  rw [vl_dg (by omega), vl_dg (by omega)] at h
  exact h.mono fun e w' ⟨a', c', he, ho, hb⟩ => ⟨a', c', he, RdC.ofOwn ho, hb⟩

set_option maxHeartbeats 16000000 in
set_option maxRecDepth 20000 in
theorem RMulD_any (s1 s2 : Bool) (a1 a2 : Option Addr) (c1 c2 : Nat) (l1 l2 : List Nat) (e1 e2 : Int) (w : World) (h1 : l1.length ≤ 9223372036854775807) (h2 : l2.length ≤ 9223372036854775807) (hlo1 : Lo 4294967296 l1) (hlo2 : Lo 4294967296 l2) (hr1 : Rd w .u32 a1 l1) (hr2 : Rd w .u32 a2 l2) :
    Calls Tryd.prog 31 #[.agg #[.bool s1, .slice a1 l1.length c1, .int .i64 e1], .agg #[.bool s2, .slice a2 l2.length c2, .int .i64 e2]] w (ResN (mulA (normA l1.length s1 (vl 1000000000 l1) e1) (normA l2.length s2 (vl 1000000000 l2) e2)) w) := by
  have hT := fun W hb => Two_any s1 s2 a1 a2 c1 c2 l1 l2 e1 e2 W h1 h2 hlo1 hlo2 (hr1.below' (w' := W) hb (Nat.le_refl _)) (hr2.below' hb (Nat.le_refl _))
  have hbA : Bd (normA l1.length s1 (vl 1000000000 l1) e1).p := Bd.of (normA_in _ _ _ _)
  have hbB : Bd (normA l2.length s2 (vl 1000000000 l2) e2).p := Bd.of (normA_in _ _ _ _)
  have hpA := normA_plain l1.length s1 (vl 1000000000 l1) e1
  have hpB := normA_plain l2.length s2 (vl 1000000000 l2) e2
  generalize normA l1.length s1 (vl 1000000000 l1) e1 = A at *
  generalize normA l2.length s2 (vl 1000000000 l2) e2 = B at *
  have hres : mulA A B = if okP A B then tellA (A.p.neg != B.p.neg) (A.p.m * B.p.m) (A.p.e + B.p.e) else ⟨pairE A B, zP⟩ := rfl
  generalize mulA A B = R at *
  have HT := Lib.hid hT; have HRES := Lib.hid hres
  clear hT hres hlo1 hlo2 hr1 hr2
  have B3 := (((Below.refl w.heap.size w).alloc (Nat.le_refl _) (.cells #[.bool s1, .slice a1 l1.length c1, .int .i64 e1] 24)).alloc (by simp) (.cells #[.bool s2, .slice a2 l2.length c2, .int .i64 e2] 24)).alloc (by simp; omega) (.cells #[.bool false, .slice none 0 0, .int .i64 0] 24)
  go_enter Tryd.func31, Tryd.ntmps31
  go_wp2_with fail
  refine (HT.out _ B3).mono ?_
  rintro r w2 ⟨a3, c3, a4, c4, rfl, hr3, hr4, hb2⟩
  have b2 := B3.trans (hb2.mono B3.size)
  have u0 : w2.cell? ⟨w.heap.size + 1 + 1, 0, none⟩ = some (.bool false) := by rw [hb2.cell (by simp)]; simp [go_sem]
  have u1 : w2.cell? ⟨w.heap.size + 1 + 1, 1, none⟩ = some (.slice none 0 0) := by rw [hb2.cell (by simp)]; simp [go_sem]
  have u2 : w2.cell? ⟨w.heap.size + 1 + 1, 2, none⟩ = some (.int .i64 0) := by rw [hb2.cell (by simp)]; simp [go_sem]
  have uf : ∀ j, w2.frozen? ⟨w.heap.size + 1 + 1, j, none⟩ = false := fun j => by rw [hb2.frozen (by simp)]; simp [go_sem]
  have LE2 := Lib.hid (show w.heap.size ≤ w.heap.size + 1 + 1 by omega)
  have hlt := lt_of_cell u0
  clear hb2 HT B3
  have hqq := ((Below.refl w2.heap.size w2).alloc (Nat.le_refl _) (.cells #[.bool A.p.neg, .slice a3 (dg 10 A.p.m).length c3, .int .i64 A.p.e] 56)).alloc (by simp) (.cells #[.bool B.p.neg, .slice a4 (dg 10 B.p.m).length c4, .int .i64 B.p.e] 56)
  have k0 := cellB u0 hqq
  have k1 := cellB u1 hqq
  have k2 := cellB u2 hqq
  have kf := fun j => (hqq.frozen (p := ⟨w.heap.size + 1 + 1, j, none⟩) hlt).trans (uf j)
  have bq := b2.trans (hqq.mono b2.size)
  by_cases hok : okP A B
  · have hR : R = tellP (pl (!(A.p.neg == B.p.neg)) (A.p.m * B.p.m) (A.p.e + B.p.e)) := by rw [HRES.out]; exact if_pos hok
    have hz : pairE A B = 0 := pairE_ok hok.1 hok.2
    rw [hz]
    have d1 : (dg 10 A.p.m).length ≤ 400 := hbA.1
    have d2 : (dg 10 B.p.m).length ≤ 400 := hbB.1
    obtain ⟨x1, x2⟩ := hbA.2
    obtain ⟨y1, y2⟩ := hbB.2
    have hvl : (dg 10 (A.p.m * B.p.m)).length ≤ 800 := by
      have h1 : A.p.m * B.p.m < 10 ^ ((dg 10 A.p.m).length + (dg 10 B.p.m).length) := by rw [Nat.pow_add]; exact Nat.mul_lt_mul'' (dg_upper (by omega) _) (dg_upper (by omega) _)
      have h2 := dg_len_of_lt (b := 10) (by omega) h1
      omega
    have hMl := fun W hb => mul10 A.p.m B.p.m a3 a4 c3 c4 W d1 d2 (hr3.below (w' := W) hb) (hr4.below hb)
    have hMk := fun a c W hr => Make_any (!(A.p.neg == B.p.neg)) a c (A.p.m * B.p.m) (A.p.e + B.p.e) W (by omega) (by omega) (by omega) hr
    have hpl := pl_plain (!(A.p.neg == B.p.neg)) (A.p.m * B.p.m) (A.p.e + B.p.e)
    have hpn := pl_len (s := !(A.p.neg == B.p.neg)) (v := A.p.m * B.p.m) (e := A.p.e + B.p.e)
    have htz : tz (A.p.m * B.p.m) ≤ 30000 := by
      rcases Nat.eq_zero_or_pos (A.p.m * B.p.m) with h | h
      · rw [h, tz_zero]; omega
      · have := tz_len h; omega
    obtain ⟨pe1, pe2⟩ := pl_e (s := !(A.p.neg == B.p.neg)) (v := A.p.m * B.p.m) (e := A.p.e + B.p.e) (by omega) (by omega) htz
    have hTl := fun a c W hr => Tell_any (pl (!(A.p.neg == B.p.neg)) (A.p.m * B.p.m) (A.p.e + B.p.e)) a c W hpl (by unfold dl; omega) pe1 pe2 hr
    rw [← hR] at hTl
    unfold ResDg at hMl
    unfold ResM at hMk
    generalize pl (!(A.p.neg == B.p.neg)) (A.p.m * B.p.m) (A.p.e + B.p.e) = P at *
    generalize A.p.m * B.p.m = v at *
    have HML := Lib.hid hMl; have HMK := Lib.hid hMk; have HTL := Lib.hid hTl
    have qw : IntKind.i64.wrap (A.p.e + B.p.e) = A.p.e + B.p.e := IntWalk.i64_in _ (by omega)
    have hL2 : w.heap.size + 1 + 1 < w2.heap.size := hlt
    have ne1 : ¬ w2.heap.size = w.heap.size + 1 + 1 := by omega
    have ne2 : ¬ w.heap.size + 1 + 1 = w2.heap.size := by omega
    have ne3 : ¬ w2.heap.size = w.heap.size + 1 := by omega
    have ne4 : ¬ w.heap.size + 1 = w2.heap.size := by omega
    have m0 : ((w2.alloc (.cells #[.bool A.p.neg, .slice a3 (dg 10 A.p.m).length c3, .int .i64 A.p.e] 56)).alloc (.cells #[.bool B.p.neg, .slice a4 (dg 10 B.p.m).length c4, .int .i64 B.p.e] 56)).cell? ⟨w2.heap.size, 0, none⟩ = some (.bool A.p.neg) := by simp
    have m1 : ((w2.alloc (.cells #[.bool A.p.neg, .slice a3 (dg 10 A.p.m).length c3, .int .i64 A.p.e] 56)).alloc (.cells #[.bool B.p.neg, .slice a4 (dg 10 B.p.m).length c4, .int .i64 B.p.e] 56)).cell? ⟨w2.heap.size, 1, none⟩ = some (.slice a3 (dg 10 A.p.m).length c3) := by simp
    have m2 : ((w2.alloc (.cells #[.bool A.p.neg, .slice a3 (dg 10 A.p.m).length c3, .int .i64 A.p.e] 56)).alloc (.cells #[.bool B.p.neg, .slice a4 (dg 10 B.p.m).length c4, .int .i64 B.p.e] 56)).cell? ⟨w2.heap.size, 2, none⟩ = some (.int .i64 A.p.e) := by simp
    have n0 : ((w2.alloc (.cells #[.bool A.p.neg, .slice a3 (dg 10 A.p.m).length c3, .int .i64 A.p.e] 56)).alloc (.cells #[.bool B.p.neg, .slice a4 (dg 10 B.p.m).length c4, .int .i64 B.p.e] 56)).cell? ⟨w2.heap.size + 1, 0, none⟩ = some (.bool B.p.neg) := by simp
    have n1 : ((w2.alloc (.cells #[.bool A.p.neg, .slice a3 (dg 10 A.p.m).length c3, .int .i64 A.p.e] 56)).alloc (.cells #[.bool B.p.neg, .slice a4 (dg 10 B.p.m).length c4, .int .i64 B.p.e] 56)).cell? ⟨w2.heap.size + 1, 1, none⟩ = some (.slice a4 (dg 10 B.p.m).length c4) := by simp
    have n2 : ((w2.alloc (.cells #[.bool A.p.neg, .slice a3 (dg 10 A.p.m).length c3, .int .i64 A.p.e] 56)).alloc (.cells #[.bool B.p.neg, .slice a4 (dg 10 B.p.m).length c4, .int .i64 B.p.e] 56)).cell? ⟨w2.heap.size + 1, 2, none⟩ = some (.int .i64 B.p.e) := by simp
    have HQ := Lib.hid hqq
    clear hMl hMk hTl hR hz hok hbA hbB hpA hpB hpl hpn htz pe1 pe2 hvl hr3 hr4 u0 u1 u2 uf hlt hL2 HRES d1 d2 hqq
    go_wp2
    generalize ((w2.alloc (.cells #[.bool A.p.neg, .slice a3 (dg 10 A.p.m).length c3, .int .i64 A.p.e] 56)).alloc (.cells #[.bool B.p.neg, .slice a4 (dg 10 B.p.m).length c4, .int .i64 B.p.e] 56)) = w3 at *
    have hl3 := lt_of_cell k0
    have HK0 := Lib.hid k0; have HK1 := Lib.hid k1; have HK2 := Lib.hid k2; have HKF := Lib.hid kf
    have HML3 := Lib.hid (fun W (hb : Below w3.heap.size w3 W) => HML.out W (HQ.out.trans (hb.mono HQ.out.size)))
    clear k0 k1 k2 kf HML
    go_region_held3 (fun w' => w'.cell? ⟨w2.heap.size, 0, none⟩ = some (.bool A.p.neg) ∧ w'.cell? ⟨w2.heap.size, 1, none⟩ = some (.slice a3 (dg 10 A.p.m).length c3) ∧ w'.cell? ⟨w2.heap.size, 2, none⟩ = some (.int .i64 A.p.e) ∧ w'.cell? ⟨w2.heap.size + 1, 0, none⟩ = some (.bool B.p.neg) ∧ w'.cell? ⟨w2.heap.size + 1, 1, none⟩ = some (.slice a4 (dg 10 B.p.m).length c4) ∧ w'.cell? ⟨w2.heap.size + 1, 2, none⟩ = some (.int .i64 B.p.e)) (first | with_reducible exact ⟨l0, l1, l2, l3, l4, l5⟩ | with_reducible exact ⟨j0, j1, j2, j3, j4, j5⟩ | with_reducible exact ⟨i0, i1, i2, i3, i4, i5⟩ | with_reducible exact ⟨m0, m1, m2, n0, n1, n2⟩ | go_keep)
      (first
        | (go_at_call 63; refine (HML3.out _ (Below.refl w3.heap.size w3).drew).mono ?_; rintro e w5 ⟨a5, c5, rfl, hr5, hb5⟩; have h5 := (Below.refl w3.heap.size w3).drew.trans hb5; have i0 := cellB m0 h5; have i1 := cellB m1 h5; have i2 := cellB m2 h5; have i3 := cellB n0 h5; have i4 := cellB n1 h5; have i5 := cellB n2 h5)
        | (go_at_call 42; refine (HMK.out a5 c5 _ hr5).mono ?_; rintro e w6 ⟨a6, c6, rfl, hr6, hb6⟩; have h6 := h5.trans (hb6.mono h5.size); have j0 := cellB m0 h6; have j1 := cellB m1 h6; have j2 := cellB m2 h6; have j3 := cellB n0 h6; have j4 := cellB n1 h6; have j5 := cellB n2 h6)
        | (go_at_call 47; refine (HTL.out a6 c6 _ hr6).mono ?_; rintro e w7 ⟨a7, c7, rfl, ho7, hb7⟩; have h7 := h6.trans (hb7.mono h6.size); have l0 := cellB m0 h7; have l1 := cellB m1 h7; have l2 := cellB m2 h7; have l3 := cellB n0 h7; have l4 := cellB n1 h7; have l5 := cellB n2 h7; have z0 := cellB HK0.out h7; have z1 := cellB HK1.out h7; have z2 := cellB HK2.out h7; have zf : ∀ j, w7.frozen? ⟨w.heap.size + 1 + 1, j, none⟩ = false := (fun j => by rw [h7.frozen (p := ⟨w.heap.size + 1 + 1, j, none⟩) hl3]; exact HKF.out j)))
    have b7 := bq.trans (h7.mono bq.size)
    have ap := ho7.apart (Nat.lt_of_lt_of_le hl3 h6.size)
    have hown := ho7.mono (Nat.le_trans bq.size h6.size)
    clear ho7 hb7 h7 h6 h5 hb6 hb5
    go_wp2
    refine bodyPost_ret (v := .tuple #[.agg #[.bool R.p.neg, .slice a7 (dg 1000000000 R.p.m).length c7, .int .i64 R.p.e], .int .i64 (R.err : Nat)]) (by simp [results, Tryd.results31, go_sem, z0, z1, z2]) rfl ?_
    exact ⟨a7, c7, rfl, ((hown.setFar ap _ _).setFar ap _ _).setFar ap _ _, ((b7.setCell LE2.out _).setCell LE2.out _).setCell LE2.out _⟩
  · have hR : R = ⟨pairE A B, zP⟩ := by rw [HRES.out]; exact if_neg hok
    have hBB : (((pairE A B : Nat) : Int) != 0) = true := by simp; have := pairE_bad hok; omega
    have HR := Lib.hid hR
    clear hok hbA hbB hpA hpB hR hqq u0 u1 u2 uf hr3 hr4
    go_wp2
    refine bodyPost_ret (v := .tuple #[.agg #[.bool false, .slice none 0 0, .int .i64 0], .int .i64 (pairE A B : Nat)]) (by simp [results, Tryd.results31, go_sem, k0, k1, k2]) rfl ?_
    exact resA_err HR.out (((bq.setCell LE2.out _).setCell LE2.out _).setCell LE2.out _)
end Go.Proofs.YtofeckdhhaoobaaDoor
