/- Walks of dec.aligned, dec.Cmp. -/
import Derived.Test.YtofeckdhhaoobaaDoorDecNg
import Derived.Test.YtofeckdhhaoobaaDoorLimbJ
namespace Go.Proofs.YtofeckdhhaoobaaDoor
open Go.RowKit LM

/-- a number's digits from a power on -/
def ual (p : Pl) (e : Int) : Nat := p.m * 10 ^ (p.e - e).toNat
def mn (p q : Pl) : Int := min p.e q.e
/-- within the limits -/
def Bd (p : Pl) : Prop := dl p.m ≤ 400 ∧ -10400 ≤ p.e ∧ p.e ≤ 10001
theorem Bd.of {p : Pl} (h : inR p = true) : Bd p := inR_bounds h
theorem Bd.dg9 {p : Pl} (h : Bd p) : (dg 1000000000 p.m).length ≤ 400 := Nat.le_trans (dg_len_9 _) h.1

def ResAl (p q : Pl) (w : World) (r : Ending) (w' : World) : Prop := ∃ ap cp aq cq, r = .returned (.tuple #[.slice ap (dg 1000000000 (ual p (mn p q))).length cp, .slice aq (dg 1000000000 (ual q (mn p q))).length cq, .int .i64 (mn p q)]) ∧
  Own w' w.heap.size 50 .u32 ap cp (dg 1000000000 (ual p (mn p q))) ∧ Own w' w.heap.size 50 .u32 aq cq (dg 1000000000 (ual q (mn p q))) ∧ Below w.heap.size w w'

theorem shift_int (v : Nat) (a : Option Addr) (c : Nat) {A : Int} (n : Nat) (hA : A = (n : Int)) (w : World) (hn : n ≤ 30000) (hl : (dg 1000000000 v).length ≤ 536870912) (hr : Rd w .u32 a (dg 1000000000 v)) :
    Calls Tryd.prog 86 #[.slice a (dg 1000000000 v).length c, .int .i64 A] w fun e w' => ∃ a' cap', e = .returned (.tuple #[.slice a' (dg 1000000000 (v * 10 ^ n)).length cap', .int .i64 0]) ∧
      Own w' w.heap.size 50 .u32 a' cap' (dg 1000000000 (v * 10 ^ n)) ∧ Below w.heap.size w w' := by
  subst hA
  have h := Shift_any a c (dg 1000000000 v) n w hn hl (Lo_mono (Lo_dg (by omega) _) (by omega)) hr
  rw [vl_dg (by omega)] at h
  exact h

set_option maxHeartbeats 8000000 in
set_option maxRecDepth 100000 in
theorem aligned_any (p q : Pl) (a1 a2 : Option Addr) (c1 c2 : Nat) (w : World) (hp : Bd p) (hq : Bd q) (hr1 : Rd w .u32 a1 (dg 1000000000 p.m)) (hr2 : Rd w .u32 a2 (dg 1000000000 q.m)) :
    Calls Tryd.prog 55 #[.agg #[.bool p.neg, .slice a1 (dg 1000000000 p.m).length c1, .int .i64 p.e], .agg #[.bool q.neg, .slice a2 (dg 1000000000 q.m).length c2, .int .i64 q.e]] w (ResAl p q w) := by
  have l1 := hp.dg9
  have l2 := hq.dg9
  obtain ⟨e, n1, n2, hE, h1, h2, h3, h4⟩ : ∃ (e : Int) (n1 n2 : Nat), e = mn p q ∧ p.e - e = n1 ∧ q.e - e = n2 ∧ n1 ≤ 30000 ∧ n2 ≤ 30000 := by
    obtain ⟨_, a3, a4⟩ := hp
    obtain ⟨_, b3, b4⟩ := hq
    refine ⟨mn p q, (p.e - mn p q).toNat, (q.e - mn p q).toNat, rfl, ?_, ?_, ?_, ?_⟩ <;> (unfold mn; omega)
  have hu1 : ual p (mn p q) = p.m * 10 ^ n1 := by unfold ual; rw [← hE, h1, Int.toNat_natCast]
  have hu2 : ual q (mn p q) = q.m * 10 ^ n2 := by unfold ual; rw [← hE, h2, Int.toNat_natCast]
  have hS1 := fun W hb => shift_int p.m a1 c1 n1 h1 W h3 (by omega) (hr1.below' (w' := W) hb (Nat.le_refl _))
  have hS2 := fun W hb => shift_int q.m a2 c2 n2 h2 W h4 (by omega) (hr2.below' (w' := W) hb (Nat.le_refl _))
  rw [← hu1] at hS1
  rw [← hu2] at hS2
  have hmin : min p.e q.e = e := hE.symm
  have HEE := Lib.hid hE
  have HS1 := Lib.hid hS1; have HS2 := Lib.hid hS2
  have hb1 : -100000 ≤ p.e ∧ p.e ≤ 100000 ∧ -100000 ≤ q.e ∧ q.e ≤ 100000 ∧ -100000 ≤ e ∧ e ≤ 100000 := by
    obtain ⟨_, a3, a4⟩ := hp
    obtain ⟨_, b3, b4⟩ := hq
    omega
  obtain ⟨k1, k2, k3, k4, k5, k6⟩ := hb1
  unfold ResAl
  rw [← hE]
  rw [← hE] at HS1 HS2
  generalize ual p e = u1 at *
  generalize ual q e = u2 at *
  obtain ⟨s1, m1, e1⟩ := p
  obtain ⟨s2, m2, e2⟩ := q
  simp only at *
  clear hS1 hS2 hu1 hu2 hE hp hq hr1 hr2 l1 l2 h1 h2 h3 h4
  generalize (dg 1000000000 m1).length = x1 at *
  generalize (dg 1000000000 m2).length = x2 at *
  go_enter Tryd.func55, Tryd.ntmps55
  go_wp2_with fail
  refine (HS1.out _ (((Below.refl _ _).alloc (Nat.le_refl _) _).alloc (by simp) _)).mono ?_
  rintro r w2 ⟨a3, c3, rfl, ho3, hb3⟩
  have b3 := (((Below.refl w.heap.size w).alloc (Nat.le_refl _) (.cells #[.bool s1, .slice a1 x1 c1, .int .i64 e1] 24)).alloc (by simp) (.cells #[.bool s2, .slice a2 x2 c2, .int .i64 e2] 24)).trans (hb3.mono (by simp; omega))
  have i0 : w2.cell? ⟨w.heap.size + 1, 0, none⟩ = some (.bool s2) := by rw [hb3.cell (by simp)]; simp
  have i1 : w2.cell? ⟨w.heap.size + 1, 1, none⟩ = some (.slice a2 x2 c2) := by rw [hb3.cell (by simp)]; simp
  have i2 : w2.cell? ⟨w.heap.size + 1, 2, none⟩ = some (.int .i64 e2) := by rw [hb3.cell (by simp)]; simp
  have hown3 := ho3.mono (show w.heap.size ≤ _ by simp; omega)
  clear hb3 ho3
  go_wp2_with fail
  refine (HS2.out _ b3).mono ?_
  rintro r w4 ⟨a4, c4, rfl, ho4, hb4⟩
  have b4 := b3.trans (hb4.mono b3.size)
  have hown4 := ho4.mono b3.size
  have hown5 := hown3.below hb4
  clear hb4 ho4 hown3
  go_wp2
  refine bodyPost_ret (v := .tuple #[.slice a3 (dg 1000000000 u1).length c3, .slice a4 (dg 1000000000 u2).length c4, .int .i64 e]) (by simp [results, Tryd.results55, go_sem]) rfl ?_
  exact ⟨a3, c3, a4, c4, rfl, hown5, hown4, b4⟩

def cmpP (p q : Pl) : Int :=
  if p.neg = true ∧ q.neg = false then -1 else if q.neg = true ∧ p.neg = false then 1
  else if p.neg = true then cmpN (ual q (mn p q)) (ual p (mn p q)) else cmpN (ual p (mn p q)) (ual q (mn p q))
/-- what a comparison answers -/
def ResCm (A B : Ans) (w : World) (r : Ending) (w' : World) : Prop := Below w.heap.size w w' ∧
  ((A.err = 0 ∧ B.err = 0 ∧ r = .returned (.tuple #[.int .i64 (cmpP A.p B.p), .int .i64 0])) ∨ (¬ (A.err = 0 ∧ B.err = 0) ∧ r = .returned (.tuple #[.int .i64 0, .int .i64 (pairE A B : Nat)])))

theorem ual_dg9 {p : Pl} {e : Int} (h : Bd p) (he : -10400 ≤ e) : (dg 1000000000 (ual p e)).length ≤ 100000 := by
  have h1 : ual p e < 10 ^ ((dg 10 p.m).length + (p.e - e).toNat) := by
    unfold ual; rw [Nat.pow_add]
    exact Nat.mul_lt_mul_of_pos_right (dg_upper (b := 10) (by omega) p.m) (Nat.pow_pos (by omega))
  have h0 : (dg 10 p.m).length ≤ 400 := h.1
  have h3 := dg_len_of_lt (b := 10) (by omega) h1
  have h4 := dg_len_9 (ual p e)
  have h5 := h.2
  omega

theorem cmp9 (u v : Nat) (a b : Option Addr) (ca cb : Nat) (w : World) (hu : (dg 1000000000 u).length ≤ 100000) (hv : (dg 1000000000 v).length ≤ 100000) (ha : Rd w .u32 a (dg 1000000000 u)) (hb : Rd w .u32 b (dg 1000000000 v)) :
    Calls Tryd.prog 56 #[.slice a (dg 1000000000 u).length ca, .slice b (dg 1000000000 v).length cb] w fun e w' => e = .returned (.int .i64 (cmpN u v)) ∧ Below w.heap.size w w' := by
  have h := Cmp_any a b ca cb (dg 1000000000 u) (dg 1000000000 v) w (by omega) (by omega) (Lo_mono (Lo_dg (by omega) _) (by omega)) (Lo_mono (Lo_dg (by omega) _) (by omega)) ha hb
  rw [vl_dg (by omega), vl_dg (by omega)] at h
  exact h

set_option maxHeartbeats 16000000 in
set_option maxRecDepth 20000 in
theorem DCmp_any (s1 s2 : Bool) (a1 a2 : Option Addr) (c1 c2 : Nat) (l1 l2 : List Nat) (e1 e2 : Int) (w : World) (h1 : l1.length ≤ 9223372036854775807) (h2 : l2.length ≤ 9223372036854775807) (hlo1 : Lo 4294967296 l1) (hlo2 : Lo 4294967296 l2) (hr1 : Rd w .u32 a1 l1) (hr2 : Rd w .u32 a2 l2) (htab : Tab w) :
    Calls Tryd.prog 24 #[.agg #[.bool s1, .slice a1 l1.length c1, .int .i64 e1], .agg #[.bool s2, .slice a2 l2.length c2, .int .i64 e2]] w (ResCm (normA l1.length s1 (vl 1000000000 l1) e1) (normA l2.length s2 (vl 1000000000 l2) e2) w) := by
  have hP := fun W hb => plainPair_any s1 s2 a1 a2 c1 c2 l1 l2 e1 e2 W h1 h2 hlo1 hlo2 (hr1.below' (w' := W) hb (Nat.le_refl _)) (hr2.below' hb (Nat.le_refl _)) (htab.below hb)
  have hbA : Bd (normA l1.length s1 (vl 1000000000 l1) e1).p := Bd.of (normA_in _ _ _ _)
  have hbB : Bd (normA l2.length s2 (vl 1000000000 l2) e2).p := Bd.of (normA_in _ _ _ _)
  generalize normA l1.length s1 (vl 1000000000 l1) e1 = A at *
  generalize normA l2.length s2 (vl 1000000000 l2) e2 = B at *
  have HP := Lib.hid hP
  clear hP hlo1 hlo2 hr1 hr2 htab
  go_enter Tryd.func24, Tryd.ntmps24
  go_wp2_with fail
  refine (HP.out _ (((Below.refl _ _).alloc (Nat.le_refl _) _).alloc (by simp) _)).mono ?_
  rintro r w2 ⟨hb2, h⟩
  have b2 := (((Below.refl w.heap.size w).alloc (Nat.le_refl _) (.cells #[.bool s1, .slice a1 l1.length c1, .int .i64 e1] 24)).alloc (by simp) (.cells #[.bool s2, .slice a2 l2.length c2, .int .i64 e2] 24)).trans (hb2.mono (by simp; omega))
  clear hb2 HP
  rcases h with ⟨hA, hB, a3, c3, a4, c4, rfl, ho3, ho4⟩ | ⟨hbad, rfl⟩
  · have HA := Lib.hid hA; have HB := Lib.hid hB
    have hAl := fun W r1 r2 => aligned_any A.p B.p a3 a4 c3 c4 W hbA hbB r1 r2
    have hmn : -10400 ≤ mn A.p B.p := by have := hbA.2.1; have := hbB.2.1; unfold mn; omega
    have hC1 := fun a b ca cb W ha hb => cmp9 (ual A.p (mn A.p B.p)) (ual B.p (mn A.p B.p)) a b ca cb W (ual_dg9 hbA hmn) (ual_dg9 hbB hmn) ha hb
    have hC2 := fun a b ca cb W ha hb => cmp9 (ual B.p (mn A.p B.p)) (ual A.p (mn A.p B.p)) a b ca cb W (ual_dg9 hbB hmn) (ual_dg9 hbA hmn) ha hb
    have hcp : cmpP A.p B.p = (if A.p.neg = true ∧ B.p.neg = false then -1 else if B.p.neg = true ∧ A.p.neg = false then 1 else if A.p.neg = true then cmpN (ual B.p (mn A.p B.p)) (ual A.p (mn A.p B.p)) else cmpN (ual A.p (mn A.p B.p)) (ual B.p (mn A.p B.p))) := rfl
    unfold ResAl at hAl
    generalize ual A.p (mn A.p B.p) = u1 at *
    generalize ual B.p (mn A.p B.p) = u2 at *
    generalize mn A.p B.p = em at *
    have HAL := Lib.hid hAl; have HC1 := Lib.hid hC1; have HC2 := Lib.hid hC2
    have q1 := ho3.rd
    have q2 := ho4.rd
    clear hA hB hAl hC1 hC2 hmn hbA hbB ho3 ho4
    obtain ⟨er1, p⟩ := A
    obtain ⟨er2, q⟩ := B
    obtain ⟨n1, m1, x1⟩ := p
    obtain ⟨n2, m2, x2⟩ := q
    simp only at *
    have hqq := ((Below.refl w2.heap.size w2).alloc (Nat.le_refl _) (.cells #[.bool n1, .slice a3 (dg 1000000000 m1).length c3, .int .i64 x1] 24)).alloc (by simp) (.cells #[.bool n2, .slice a4 (dg 1000000000 m2).length c4, .int .i64 x2] 24)
    have bq := b2.trans (hqq.mono b2.size)
    have HQ1 := Lib.hid (q1.below hqq)
    have HQ2 := Lib.hid (q2.below hqq)
    clear q1 q2 hqq
    have HCP := Lib.hid hcp
    clear hcp
    cases n1 <;> cases n2
    · go_wp2_with fail
      refine (HAL.out _ HQ1.out HQ2.out).mono ?_
      rintro r w4 ⟨a5, c5, a6, c6, rfl, ho5, ho6, hb4⟩
      have b4 := bq.trans (hb4.mono bq.size)
      have i0 : w4.cell? ⟨w2.heap.size, 0, none⟩ = some (.bool false) := by rw [hb4.cell (by simp; omega)]; simp
      have r5 := ho5.rd
      have r6 := ho6.rd
      clear hb4 bq ho5 ho6
      go_wp2_with fail
      refine (HC1.out a5 a6 c5 c6 _ r5 r6).mono ?_
      rintro r w5 ⟨rfl, hb5⟩
      have b5 := b4.trans (hb5.mono b4.size)
      go_wp2
      refine bodyPost_ret (v := .tuple #[.int .i64 (cmpN u1 u2), .int .i64 0]) (by simp [results, Tryd.results24, go_sem]) rfl ?_
      exact ⟨b5, .inl ⟨HA.out, HB.out, by rw [show cmpP ⟨false, m1, x1⟩ ⟨false, m2, x2⟩ = cmpN u1 u2 by rw [HCP.out]; simp]⟩⟩
    · go_wp2
      refine bodyPost_ret (v := .tuple #[.int .i64 (1), .int .i64 0]) (by simp [results, Tryd.results24, go_sem]) rfl ?_
      exact ⟨bq, .inl ⟨HA.out, HB.out, by rw [show cmpP ⟨false, m1, x1⟩ ⟨true, m2, x2⟩ = 1 by rw [HCP.out]; simp]⟩⟩
    · go_wp2
      refine bodyPost_ret (v := .tuple #[.int .i64 (-1), .int .i64 0]) (by simp [results, Tryd.results24, go_sem]) rfl ?_
      exact ⟨bq, .inl ⟨HA.out, HB.out, by rw [show cmpP ⟨true, m1, x1⟩ ⟨false, m2, x2⟩ = -1 by rw [HCP.out]; simp]⟩⟩
    · go_wp2_with fail
      refine (HAL.out _ HQ1.out HQ2.out).mono ?_
      rintro r w4 ⟨a5, c5, a6, c6, rfl, ho5, ho6, hb4⟩
      have b4 := bq.trans (hb4.mono bq.size)
      have i0 : w4.cell? ⟨w2.heap.size, 0, none⟩ = some (.bool true) := by rw [hb4.cell (by simp; omega)]; simp
      have r5 := ho5.rd
      have r6 := ho6.rd
      clear hb4 bq ho5 ho6
      go_wp2_with fail
      refine (HC2.out a6 a5 c6 c5 _ r6 r5).mono ?_
      rintro r w5 ⟨rfl, hb5⟩
      have b5 := b4.trans (hb5.mono b4.size)
      go_wp2
      refine bodyPost_ret (v := .tuple #[.int .i64 (cmpN u2 u1), .int .i64 0]) (by simp [results, Tryd.results24, go_sem]) rfl ?_
      exact ⟨b5, .inl ⟨HA.out, HB.out, by rw [show cmpP ⟨true, m1, x1⟩ ⟨true, m2, x2⟩ = cmpN u2 u1 by rw [HCP.out]; simp]⟩⟩
  · have HBAD := Lib.hid hbad
    have hB : ((pairE A B : Nat) : Int) ≠ 0 := by have := pairE_bad hbad; omega
    have hBB : (((pairE A B : Nat) : Int) != 0) = true := by simp; have := pairE_bad hbad; omega
    clear hbad hbA hbB
    go_wp2
    refine bodyPost_ret (v := .tuple #[.int .i64 0, .int .i64 (pairE A B : Nat)]) (by simp [results, Tryd.results24, go_sem]) rfl ?_
    exact ⟨(b2.alloc b2.size _).alloc (by simp; have := b2.size; omega) _, .inr ⟨HBAD.out, rfl⟩⟩
end Go.Proofs.YtofeckdhhaoobaaDoor
