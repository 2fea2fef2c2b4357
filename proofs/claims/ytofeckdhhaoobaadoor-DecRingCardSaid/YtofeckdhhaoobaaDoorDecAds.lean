/- Walks of dec.Mul, dec.Add. -/
import Derived.Test.YtofeckdhhaoobaaDoorDecAl
import Derived.Test.YtofeckdhhaoobaaDoorDecPa
import Derived.Test.YtofeckdhhaoobaaDoorLimbF
import Derived.Test.YtofeckdhhaoobaaDoorDecOd
import Derived.Test.YtofeckdhhaoobaaDoorDecTl
namespace Go.Proofs.YtofeckdhhaoobaaDoor
open Go.RowKit LM

def okP (A B : Ans) : Prop := A.err = 0 ∧ B.err = 0
instance (A B : Ans) : Decidable (okP A B) := by unfold okP; infer_instance
def mulA (A B : Ans) : Ans := if okP A B then tellA (A.p.neg != B.p.neg) (A.p.m * B.p.m) (A.p.e + B.p.e) else ⟨pairE A B, zP⟩
def addV (p q : Pl) : Ans :=
  if p.neg = q.neg then tellA p.neg (ual p (mn p q) + ual q (mn p q)) (mn p q)
  else if ual p (mn p q) < ual q (mn p q) then tellA q.neg (ual q (mn p q) - ual p (mn p q)) (mn p q) else tellA p.neg (ual p (mn p q) - ual q (mn p q)) (mn p q)
def addA (A B : Ans) : Ans := if okP A B then addV A.p B.p else ⟨pairE A B, zP⟩

theorem few_of_len {v N : Nat} (h : (dg 10 v).length ≤ N) (hN : N ≤ 30000) : tz v ≤ 30000 ∧ (dg 1000000000 v).length ≤ 100000 := by
  have h2 := dg_len_9 v
  refine ⟨?_, by omega⟩
  rcases Nat.eq_zero_or_pos v with e | e
  · rw [e, tz_zero]; omega
  · have := tz_len e; omega
theorem mul_few {p q : Pl} (hp : Bd p) (hq : Bd q) : tz (p.m * q.m) ≤ 30000 ∧ (dg 1000000000 (p.m * q.m)).length ≤ 100000 := by
  have h1 : p.m * q.m < 10 ^ ((dg 10 p.m).length + (dg 10 q.m).length) := by rw [Nat.pow_add]; exact Nat.mul_lt_mul'' (dg_upper (by omega) _) (dg_upper (by omega) _)
  have h2 := dg_len_of_lt (b := 10) (by omega) h1
  have h3 : (dg 10 p.m).length ≤ 400 := hp.1
  have h4 : (dg 10 q.m).length ≤ 400 := hq.1
  exact few_of_len (N := 800) (by omega) (by omega)
theorem mul9 (u v : Nat) (a b : Option Addr) (ca cb : Nat) (w : World) (hu : (dg 1000000000 u).length ≤ 100000) (hv : (dg 1000000000 v).length ≤ 100000) (ha : Rd w .u32 a (dg 1000000000 u)) (hb : Rd w .u32 b (dg 1000000000 v)) :
    Calls Tryd.prog 62 #[.slice a (dg 1000000000 u).length ca, .slice b (dg 1000000000 v).length cb] w fun e w' => ∃ a' cap', e = .returned (.slice a' (dg 1000000000 (u * v)).length cap') ∧ Own w' w.heap.size 50 .u32 a' cap' (dg 1000000000 (u * v)) ∧ Below w.heap.size w w' := by
  have h := Mul_any a b ca cb (dg 1000000000 u) (dg 1000000000 v) w (by omega) (by omega) (Lo_mono (Lo_dg (by omega) _) (by omega)) (Lo_mono (Lo_dg (by omega) _) (by omega)) ha hb
  rw [vl_dg (by omega), vl_dg (by omega)] at h
  exact h
theorem add9 (u v : Nat) (a b : Option Addr) (ca cb : Nat) (w : World) (hu : (dg 1000000000 u).length ≤ 100000) (hv : (dg 1000000000 v).length ≤ 100000) (ha : Rd w .u32 a (dg 1000000000 u)) (hb : Rd w .u32 b (dg 1000000000 v)) :
    Calls Tryd.prog 59 #[.slice a (dg 1000000000 u).length ca, .slice b (dg 1000000000 v).length cb] w fun e w' => ∃ a' cap', e = .returned (.slice a' (dg 1000000000 (u + v)).length cap') ∧ Own w' w.heap.size 50 .u32 a' cap' (dg 1000000000 (u + v)) ∧ Below w.heap.size w w' := by
  have h := Add_any a b ca cb (dg 1000000000 u) (dg 1000000000 v) w (by omega) (by omega) (Lo_mono (Lo_dg (by omega) _) (by omega)) (Lo_mono (Lo_dg (by omega) _) (by omega)) ha hb
  rw [vl_dg (by omega), vl_dg (by omega)] at h
  exact h
theorem sub9 (u v : Nat) (a b : Option Addr) (ca cb : Nat) (w : World) (hu : (dg 1000000000 u).length ≤ 100000) (hv : (dg 1000000000 v).length ≤ 100000) (hle : v ≤ u) (ha : Rd w .u32 a (dg 1000000000 u)) (hb : Rd w .u32 b (dg 1000000000 v)) :
    Calls Tryd.prog 60 #[.slice a (dg 1000000000 u).length ca, .slice b (dg 1000000000 v).length cb] w fun e w' => ∃ a' cap', e = .returned (.tuple #[.slice a' (dg 1000000000 (u - v)).length cap', .int .i64 0]) ∧ Own w' w.heap.size 50 .u32 a' cap' (dg 1000000000 (u - v)) ∧ Below w.heap.size w w' := by
  have h := Sub_any a b ca cb (dg 1000000000 u) (dg 1000000000 v) w (by omega) (by omega) (Lo_mono (Lo_dg (by omega) _) (by omega)) (Lo_mono (Lo_dg (by omega) _) (by omega)) ha hb (by rw [vl_dg (by omega), vl_dg (by omega)]; exact hle)
  rw [vl_dg (by omega), vl_dg (by omega)] at h
  exact h
/-- a result's cells behind two boxes more -/
theorem valRes2 {w1 : World} {b : Nat} {x0 x1 x2 : Value} (k0 : w1.cell? ⟨b, 0, none⟩ = some x0) (k1 : w1.cell? ⟨b, 1, none⟩ = some x1) (k2 : w1.cell? ⟨b, 2, none⟩ = some x2) (v0 v1 v2 : Value) (o o2 : Obj) :
    (((((w1.setCell ⟨b, 0, none⟩ v0).setCell ⟨b, 1, none⟩ v1).setCell ⟨b, 2, none⟩ v2).alloc o).alloc o2).cell? ⟨b, 0, none⟩ = some v0 ∧
    (((((w1.setCell ⟨b, 0, none⟩ v0).setCell ⟨b, 1, none⟩ v1).setCell ⟨b, 2, none⟩ v2).alloc o).alloc o2).cell? ⟨b, 1, none⟩ = some v1 ∧
    (((((w1.setCell ⟨b, 0, none⟩ v0).setCell ⟨b, 1, none⟩ v1).setCell ⟨b, 2, none⟩ v2).alloc o).alloc o2).cell? ⟨b, 2, none⟩ = some v2 := by
  obtain ⟨z0, z1, z2⟩ := valRes k0 k1 k2 v0 v1 v2 o
  exact ⟨cellB z0 ((Below.refl _ _).alloc (Nat.le_refl _) o2), cellB z1 ((Below.refl _ _).alloc (Nat.le_refl _) o2), cellB z2 ((Below.refl _ _).alloc (Nat.le_refl _) o2)⟩

set_option maxHeartbeats 16000000 in
set_option maxRecDepth 20000 in
theorem DMul_any (s1 s2 : Bool) (a1 a2 : Option Addr) (c1 c2 : Nat) (l1 l2 : List Nat) (e1 e2 : Int) (w : World) (h1 : l1.length ≤ 9223372036854775807) (h2 : l2.length ≤ 9223372036854775807) (hlo1 : Lo 4294967296 l1) (hlo2 : Lo 4294967296 l2) (hr1 : Rd w .u32 a1 l1) (hr2 : Rd w .u32 a2 l2) (htab : Tab w) :
    Calls Tryd.prog 30 #[.agg #[.bool s1, .slice a1 l1.length c1, .int .i64 e1], .agg #[.bool s2, .slice a2 l2.length c2, .int .i64 e2]] w (ResA (mulA (normA l1.length s1 (vl 1000000000 l1) e1) (normA l2.length s2 (vl 1000000000 l2) e2)) w) := by
  have hP := fun W hb => plainPair_any s1 s2 a1 a2 c1 c2 l1 l2 e1 e2 W h1 h2 hlo1 hlo2 (hr1.below' (w' := W) hb (Nat.le_refl _)) (hr2.below' hb (Nat.le_refl _)) (htab.below hb)
  have hbA : Bd (normA l1.length s1 (vl 1000000000 l1) e1).p := Bd.of (normA_in _ _ _ _)
  have hbB : Bd (normA l2.length s2 (vl 1000000000 l2) e2).p := Bd.of (normA_in _ _ _ _)
  generalize normA l1.length s1 (vl 1000000000 l1) e1 = A at *
  generalize normA l2.length s2 (vl 1000000000 l2) e2 = B at *
  have hres : mulA A B = if okP A B then tellA (A.p.neg != B.p.neg) (A.p.m * B.p.m) (A.p.e + B.p.e) else ⟨pairE A B, zP⟩ := rfl
  generalize mulA A B = R at *
  have HP := Lib.hid hP; have HRES := Lib.hid hres; have HTAB := Lib.hid htab
  clear hP hres hlo1 hlo2 hr1 hr2 htab
  have B3 := (((Below.refl w.heap.size w).alloc (Nat.le_refl _) (.cells #[.bool s1, .slice a1 l1.length c1, .int .i64 e1] 24)).alloc (by simp) (.cells #[.bool s2, .slice a2 l2.length c2, .int .i64 e2] 24)).alloc (by simp; omega) (.cells #[.bool false, .slice none 0 0, .int .i64 0] 24)
  go_enter Tryd.func30, Tryd.ntmps30
  go_wp2_with fail
  refine (HP.out _ B3).mono ?_
  rintro r w2 ⟨hb2, h⟩
  have b2 := B3.trans (hb2.mono B3.size)
  have u0 : w2.cell? ⟨w.heap.size + 1 + 1, 0, none⟩ = some (.bool false) := by rw [hb2.cell (by simp)]; simp [go_sem]
  have u1 : w2.cell? ⟨w.heap.size + 1 + 1, 1, none⟩ = some (.slice none 0 0) := by rw [hb2.cell (by simp)]; simp [go_sem]
  have u2 : w2.cell? ⟨w.heap.size + 1 + 1, 2, none⟩ = some (.int .i64 0) := by rw [hb2.cell (by simp)]; simp [go_sem]
  have uf : ∀ j, w2.frozen? ⟨w.heap.size + 1 + 1, j, none⟩ = false := fun j => by rw [hb2.frozen (by simp)]; simp [go_sem]
  have LE2 := Lib.hid (show w.heap.size ≤ w.heap.size + 1 + 1 by omega)
  clear hb2 HP B3
  rcases h with ⟨hA, hB, a3, c3, a4, c4, rfl, ho3, ho4⟩ | ⟨hbad, rfl⟩
  · have hR : R = tellA (!(A.p.neg == B.p.neg)) (A.p.m * B.p.m) (A.p.e + B.p.e) := by rw [HRES.out, if_pos ⟨hA, hB⟩]; rfl
    obtain ⟨t1, t2⟩ := mul_few hbA hbB
    have hx := hbA.2
    have hy := hbB.2
    have hT := fun a c W hr ht => tell_any (!(A.p.neg == B.p.neg)) a c (A.p.m * B.p.m) (A.p.e + B.p.e) W t1 t2 (by omega) (by omega) hr ht
    have hM := fun W (r1 : Rd W .u32 a3 (dg 1000000000 A.p.m)) (r2 : Rd W .u32 a4 (dg 1000000000 B.p.m)) => mul9 A.p.m B.p.m a3 a4 c3 c4 W (by have := hbA.dg9; omega) (by have := hbB.dg9; omega) r1 r2
    rw [← hR] at hT
    have HT := Lib.hid hT; have HM := Lib.hid hM
    obtain ⟨x1, x2⟩ := hx
    obtain ⟨y1, y2⟩ := hy
    have hqq := ((Below.refl w2.heap.size w2).alloc (Nat.le_refl _) (.cells #[.bool A.p.neg, .slice a3 (dg 1000000000 A.p.m).length c3, .int .i64 A.p.e] 24)).alloc (by simp) (.cells #[.bool B.p.neg, .slice a4 (dg 1000000000 B.p.m).length c4, .int .i64 B.p.e] 24)
    have bq := b2.trans (hqq.mono b2.size)
    have HQ1 := Lib.hid (ho3.rd.below hqq)
    have HQ2 := Lib.hid (ho4.rd.below hqq)
    have hL2 : w.heap.size + 1 + 1 < w2.heap.size := lt_of_cell u0
    have ne1 : ¬ w2.heap.size = w.heap.size + 1 + 1 := by omega
    have ne2 : ¬ w.heap.size + 1 + 1 = w2.heap.size := by omega
    have ne3 : ¬ w2.heap.size = w.heap.size + 1 := by omega
    have ne4 : ¬ w.heap.size + 1 = w2.heap.size := by omega
    clear hL2
    have k0 := cellB u0 hqq
    have k1 := cellB u1 hqq
    have k2 := cellB u2 hqq
    have hlt := lt_of_cell u0
    have kf := fun j => (hqq.frozen (p := ⟨w.heap.size + 1 + 1, j, none⟩) hlt).trans (uf j)
    have m0 : ((w2.alloc (.cells #[.bool A.p.neg, .slice a3 (dg 1000000000 A.p.m).length c3, .int .i64 A.p.e] 24)).alloc (.cells #[.bool B.p.neg, .slice a4 (dg 1000000000 B.p.m).length c4, .int .i64 B.p.e] 24)).cell? ⟨w2.heap.size, 0, none⟩ = some (.bool A.p.neg) := by simp
    have m1 : ((w2.alloc (.cells #[.bool A.p.neg, .slice a3 (dg 1000000000 A.p.m).length c3, .int .i64 A.p.e] 24)).alloc (.cells #[.bool B.p.neg, .slice a4 (dg 1000000000 B.p.m).length c4, .int .i64 B.p.e] 24)).cell? ⟨w2.heap.size, 1, none⟩ = some (.slice a3 (dg 1000000000 A.p.m).length c3) := by simp
    have m2 : ((w2.alloc (.cells #[.bool A.p.neg, .slice a3 (dg 1000000000 A.p.m).length c3, .int .i64 A.p.e] 24)).alloc (.cells #[.bool B.p.neg, .slice a4 (dg 1000000000 B.p.m).length c4, .int .i64 B.p.e] 24)).cell? ⟨w2.heap.size, 2, none⟩ = some (.int .i64 A.p.e) := by simp
    have n0 : ((w2.alloc (.cells #[.bool A.p.neg, .slice a3 (dg 1000000000 A.p.m).length c3, .int .i64 A.p.e] 24)).alloc (.cells #[.bool B.p.neg, .slice a4 (dg 1000000000 B.p.m).length c4, .int .i64 B.p.e] 24)).cell? ⟨w2.heap.size + 1, 0, none⟩ = some (.bool B.p.neg) := by simp
    have n1 : ((w2.alloc (.cells #[.bool A.p.neg, .slice a3 (dg 1000000000 A.p.m).length c3, .int .i64 A.p.e] 24)).alloc (.cells #[.bool B.p.neg, .slice a4 (dg 1000000000 B.p.m).length c4, .int .i64 B.p.e] 24)).cell? ⟨w2.heap.size + 1, 1, none⟩ = some (.slice a4 (dg 1000000000 B.p.m).length c4) := by simp
    have n2 : ((w2.alloc (.cells #[.bool A.p.neg, .slice a3 (dg 1000000000 A.p.m).length c3, .int .i64 A.p.e] 24)).alloc (.cells #[.bool B.p.neg, .slice a4 (dg 1000000000 B.p.m).length c4, .int .i64 B.p.e] 24)).cell? ⟨w2.heap.size + 1, 2, none⟩ = some (.int .i64 B.p.e) := by simp
    have qw : IntKind.i64.wrap (A.p.e + B.p.e) = A.p.e + B.p.e := IntWalk.i64_in _ (by omega)
    clear hR hA hB hT hM ho3 ho4 hbA hbB hqq u0 u1 u2 uf hlt t1 t2
    go_wp2
    generalize ((w2.alloc (.cells #[.bool A.p.neg, .slice a3 (dg 1000000000 A.p.m).length c3, .int .i64 A.p.e] 24)).alloc (.cells #[.bool B.p.neg, .slice a4 (dg 1000000000 B.p.m).length c4, .int .i64 B.p.e] 24)) = w3 at *
    have hl3 := lt_of_cell k0
    have HM3 := Lib.hid (fun W (hb : Below w3.heap.size w3 W) => HM.out W (HQ1.out.below hb) (HQ2.out.below hb))
    clear HM
    have HK0 := Lib.hid k0; have HK1 := Lib.hid k1; have HK2 := Lib.hid k2; have HKF := Lib.hid kf
    clear k0 k1 k2 kf
    go_region_held3 (fun w' => w'.cell? ⟨w2.heap.size, 0, none⟩ = some (.bool A.p.neg) ∧ w'.cell? ⟨w2.heap.size, 1, none⟩ = some (.slice a3 (dg 1000000000 A.p.m).length c3) ∧ w'.cell? ⟨w2.heap.size, 2, none⟩ = some (.int .i64 A.p.e) ∧ w'.cell? ⟨w2.heap.size + 1, 0, none⟩ = some (.bool B.p.neg) ∧ w'.cell? ⟨w2.heap.size + 1, 1, none⟩ = some (.slice a4 (dg 1000000000 B.p.m).length c4) ∧ w'.cell? ⟨w2.heap.size + 1, 2, none⟩ = some (.int .i64 B.p.e)) (first | with_reducible exact ⟨j0, j1, j2, j3, j4, j5⟩ | with_reducible exact ⟨i0, i1, i2, i3, i4, i5⟩ | with_reducible exact ⟨m0, m1, m2, n0, n1, n2⟩ | go_keep)
      (first
        | (go_at_call 62; refine (HM3.out _ (Below.refl w3.heap.size w3).drew).mono ?_; rintro e w5 ⟨a5, c5, rfl, ho5, hb5⟩; have x5 := (Below.refl w3.heap.size w3).drew.trans hb5; have i0 := cellB m0 x5; have i1 := cellB m1 x5; have i2 := cellB m2 x5; have i3 := cellB n0 x5; have i4 := cellB n1 x5; have i5 := cellB n2 x5)
        | (go_at_call 33; refine (HT.out a5 c5 _ ho5.rd (HTAB.out.below (bq.trans (x5.mono bq.size)))).mono ?_; rintro e w6 ⟨a6, c6, rfl, ho6, hb6⟩; have x6 := x5.trans (hb6.mono x5.size); have j0 := cellB m0 x6; have j1 := cellB m1 x6; have j2 := cellB m2 x6; have j3 := cellB n0 x6; have j4 := cellB n1 x6; have j5 := cellB n2 x6; have g0 := cellB HK0.out x6; have g1 := cellB HK1.out x6; have g2 := cellB HK2.out x6; have gf : ∀ j, w6.frozen? ⟨w.heap.size + 1 + 1, j, none⟩ = false := (fun j => by rw [x6.frozen (p := ⟨w.heap.size + 1 + 1, j, none⟩) hl3]; exact HKF.out j)))
    have b6 := bq.trans (x6.mono bq.size)
    have ap := ho6.apart (Nat.lt_of_lt_of_le hl3 x5.size)
    have hown := ho6.mono (Nat.le_trans bq.size x5.size)
    clear ho6 hb6 x6 x5 ho5 hb5
    go_wp2
    refine bodyPost_ret (v := .tuple #[.agg #[.bool R.p.neg, .slice a6 (dg 1000000000 R.p.m).length c6, .int .i64 R.p.e], .int .i64 (R.err : Nat)]) (by simp [results, Tryd.results30, go_sem, g0, g1, g2]) rfl ?_
    exact ⟨a6, c6, rfl, ((hown.setFar ap _ _).setFar ap _ _).setFar ap _ _, ((b6.setCell LE2.out _).setCell LE2.out _).setCell LE2.out _⟩
  · have hR : R = ⟨pairE A B, zP⟩ := by rw [HRES.out]; exact if_neg hbad
    have hlt := lt_of_cell u0
    have hBB : (((pairE A B : Nat) : Int) != 0) = true := by simp; have := pairE_bad hbad; omega
    have hqq := ((Below.refl w2.heap.size w2).alloc (Nat.le_refl _) (.cells #[.bool false, .slice none 0 0, .int .i64 0] 24)).alloc (by simp) (.cells #[.bool false, .slice none 0 0, .int .i64 0] 24)
    have k0 := cellB u0 hqq
    have k1 := cellB u1 hqq
    have k2 := cellB u2 hqq
    have kf := fun j => (hqq.frozen (p := ⟨w.heap.size + 1 + 1, j, none⟩) hlt).trans (uf j)
    have bq := b2.trans (hqq.mono b2.size)
    clear hqq u0 u1 u2 uf
    have HR := Lib.hid hR
    clear hbad hbA hbB hR
    go_wp2
    refine bodyPost_ret (v := .tuple #[.agg #[.bool false, .slice none 0 0, .int .i64 0], .int .i64 (pairE A B : Nat)]) (by simp [results, Tryd.results30, go_sem, k0, k1, k2]) rfl ?_
    exact resA_err HR.out (((bq.setCell LE2.out _).setCell LE2.out _).setCell LE2.out _)
end Go.Proofs.YtofeckdhhaoobaaDoor

/- Walk of dec.Add. -/
namespace Go.Proofs.YtofeckdhhaoobaaDoor
open Go.RowKit LM

theorem add_few {p q : Pl} (hp : Bd p) (hq : Bd q) : (tz (ual p (mn p q) + ual q (mn p q)) ≤ 30000 ∧ (dg 1000000000 (ual p (mn p q) + ual q (mn p q))).length ≤ 100000) ∧ (tz (ual p (mn p q) - ual q (mn p q)) ≤ 30000 ∧ (dg 1000000000 (ual p (mn p q) - ual q (mn p q))).length ≤ 100000) ∧ (tz (ual q (mn p q) - ual p (mn p q)) ≤ 30000 ∧ (dg 1000000000 (ual q (mn p q) - ual p (mn p q))).length ≤ 100000) := by
  have hk : ∀ {p q : Pl}, Bd p → Bd q → (dg 10 (ual p (mn p q))).length ≤ 21000 := fun {p q} hp hq => by
    have h1 : ual p (mn p q) < 10 ^ ((dg 10 p.m).length + (p.e - mn p q).toNat) := by
      unfold ual; rw [Nat.pow_add]
      exact Nat.mul_lt_mul_of_pos_right (dg_upper (b := 10) (by omega) p.m) (Nat.pow_pos (by omega))
    have h0 : (dg 10 p.m).length ≤ 400 := hp.1
    have h3 := dg_len_of_lt (b := 10) (by omega) h1
    have k1 := hp.2; have k2 := hq.2
    have k3 : (p.e - mn p q).toNat ≤ 20401 := by unfold mn; omega
    omega
  have h1 := hk hp hq
  have h2 := hk hq hp
  rw [mn_comm] at h2
  generalize ual p (mn p q) = u at *
  generalize ual q (mn p q) = v at *
  have h3 : (dg 10 (u - v)).length ≤ (dg 10 u).length := dg_len_le (by omega) (Nat.sub_le _ _)
  have h4 : (dg 10 (v - u)).length ≤ (dg 10 v).length := dg_len_le (by omega) (Nat.sub_le _ _)
  have h5 : (dg 10 (u + v)).length ≤ max (dg 10 u).length (dg 10 v).length + 1 := by
    have k1 := dg_upper (b := 10) (by omega) u
    have k2 := dg_upper (b := 10) (by omega) v
    refine dg_len_of_lt (by omega) ?_
    have k3 : 10 ^ (dg 10 u).length ≤ 10 ^ (max (dg 10 u).length (dg 10 v).length) := Nat.pow_le_pow_right (by omega) (by omega)
    have k4 : 10 ^ (dg 10 v).length ≤ 10 ^ (max (dg 10 u).length (dg 10 v).length) := Nat.pow_le_pow_right (by omega) (by omega)
    rw [Nat.pow_succ]; omega
  exact ⟨few_of_len (N := 30000) (by omega) (by omega) |> fun h => ⟨h.1, h.2⟩, few_of_len (N := 30000) (by omega) (by omega), few_of_len (N := 30000) (by omega) (by omega)⟩

set_option maxHeartbeats 16000000 in
set_option maxRecDepth 20000 in
theorem DAdd_any (s1 s2 : Bool) (a1 a2 : Option Addr) (c1 c2 : Nat) (l1 l2 : List Nat) (e1 e2 : Int) (w : World) (h1 : l1.length ≤ 9223372036854775807) (h2 : l2.length ≤ 9223372036854775807) (hlo1 : Lo 4294967296 l1) (hlo2 : Lo 4294967296 l2) (hr1 : Rd w .u32 a1 l1) (hr2 : Rd w .u32 a2 l2) (htab : Tab w) :
    Calls Tryd.prog 28 #[.agg #[.bool s1, .slice a1 l1.length c1, .int .i64 e1], .agg #[.bool s2, .slice a2 l2.length c2, .int .i64 e2]] w (ResA (addA (normA l1.length s1 (vl 1000000000 l1) e1) (normA l2.length s2 (vl 1000000000 l2) e2)) w) := by
  have hP := fun W hb => plainPair_any s1 s2 a1 a2 c1 c2 l1 l2 e1 e2 W h1 h2 hlo1 hlo2 (hr1.below' (w' := W) hb (Nat.le_refl _)) (hr2.below' hb (Nat.le_refl _)) (htab.below hb)
  have hbA : Bd (normA l1.length s1 (vl 1000000000 l1) e1).p := Bd.of (normA_in _ _ _ _)
  have hbB : Bd (normA l2.length s2 (vl 1000000000 l2) e2).p := Bd.of (normA_in _ _ _ _)
  generalize normA l1.length s1 (vl 1000000000 l1) e1 = A at *
  generalize normA l2.length s2 (vl 1000000000 l2) e2 = B at *
  have hres : addA A B = if okP A B then addV A.p B.p else ⟨pairE A B, zP⟩ := rfl
  generalize addA A B = R at *
  have HP := Lib.hid hP; have HRES := Lib.hid hres; have HTAB := Lib.hid htab
  clear hP hres hlo1 hlo2 hr1 hr2 htab
  have B3 := (((Below.refl w.heap.size w).alloc (Nat.le_refl _) (.cells #[.bool s1, .slice a1 l1.length c1, .int .i64 e1] 24)).alloc (by simp) (.cells #[.bool s2, .slice a2 l2.length c2, .int .i64 e2] 24)).alloc (by simp; omega) (.cells #[.bool false, .slice none 0 0, .int .i64 0] 24)
  go_enter Tryd.func28, Tryd.ntmps28
  go_wp2_with fail
  refine (HP.out _ B3).mono ?_
  rintro r w2 ⟨hb2, h⟩
  have b2 := B3.trans (hb2.mono B3.size)
  have u0 : w2.cell? ⟨w.heap.size + 1 + 1, 0, none⟩ = some (.bool false) := by rw [hb2.cell (by simp)]; simp [go_sem]
  have u1 : w2.cell? ⟨w.heap.size + 1 + 1, 1, none⟩ = some (.slice none 0 0) := by rw [hb2.cell (by simp)]; simp [go_sem]
  have u2 : w2.cell? ⟨w.heap.size + 1 + 1, 2, none⟩ = some (.int .i64 0) := by rw [hb2.cell (by simp)]; simp [go_sem]
  have uf : ∀ j, w2.frozen? ⟨w.heap.size + 1 + 1, j, none⟩ = false := fun j => by rw [hb2.frozen (by simp)]; simp [go_sem]
  have LE2 := Lib.hid (show w.heap.size ≤ w.heap.size + 1 + 1 by omega)
  clear hb2 HP B3
  rcases h with ⟨hA, hB, a3, c3, a4, c4, rfl, ho3, ho4⟩ | ⟨hbad, rfl⟩
  · have hR : R = addV A.p B.p := by rw [HRES.out]; exact if_pos ⟨hA, hB⟩
    have hmn : -10400 ≤ mn A.p B.p ∧ mn A.p B.p ≤ 10001 := by have := hbA.2; have := hbB.2; unfold mn; omega
    have hAl := fun W r1 r2 => aligned_any A.p B.p a3 a4 c3 c4 W hbA hbB r1 r2
    obtain ⟨f1, f2, f3⟩ := add_few hbA hbB
    have l1' := ual_dg9 hbA hmn.1
    have l2' := ual_dg9 hbB hmn.1
    have hval : R = (if A.p.neg = B.p.neg then tellA A.p.neg (ual A.p (mn A.p B.p) + ual B.p (mn A.p B.p)) (mn A.p B.p)
  else if ual A.p (mn A.p B.p) < ual B.p (mn A.p B.p) then tellA B.p.neg (ual B.p (mn A.p B.p) - ual A.p (mn A.p B.p)) (mn A.p B.p) else tellA A.p.neg (ual A.p (mn A.p B.p) - ual B.p (mn A.p B.p)) (mn A.p B.p)) := hR
    unfold ResAl at hAl
    generalize ual A.p (mn A.p B.p) = v1 at *
    generalize ual B.p (mn A.p B.p) = v2 at *
    generalize mn A.p B.p = em at *
    obtain ⟨y1, y2⟩ := hmn
    have HAL := Lib.hid hAl; have HVAL := Lib.hid hval
    have hC := fun a b ca cb W ha hb => cmp9 v1 v2 a b ca cb W l1' l2' ha hb
    have hPl := fun a b ca cb W ha hb => add9 v1 v2 a b ca cb W l1' l2' ha hb
    have hM1 := fun (hle : v2 ≤ v1) a b ca cb W ha hb => sub9 v1 v2 a b ca cb W l1' l2' hle ha hb
    have hM2 := fun (hle : v1 ≤ v2) a b ca cb W ha hb => sub9 v2 v1 a b ca cb W l2' l1' hle ha hb
    have hT1 := fun s a c W hr ht => tell_any s a c (v1 + v2) em W f1.1 f1.2 (by omega) (by omega) hr ht
    have hT2 := fun s a c W hr ht => tell_any s a c (v1 - v2) em W f2.1 f2.2 (by omega) (by omega) hr ht
    have hT3 := fun s a c W hr ht => tell_any s a c (v2 - v1) em W f3.1 f3.2 (by omega) (by omega) hr ht
    have HC := Lib.hid hC; have HPL := Lib.hid hPl; have HM1 := Lib.hid hM1; have HM2 := Lib.hid hM2; have HT1 := Lib.hid hT1; have HT2 := Lib.hid hT2; have HT3 := Lib.hid hT3
    have hqq := ((Below.refl w2.heap.size w2).alloc (Nat.le_refl _) (.cells #[.bool A.p.neg, .slice a3 (dg 1000000000 A.p.m).length c3, .int .i64 A.p.e] 24)).alloc (by simp) (.cells #[.bool B.p.neg, .slice a4 (dg 1000000000 B.p.m).length c4, .int .i64 B.p.e] 24)
    have bq := b2.trans (hqq.mono b2.size)
    have HQ1 := Lib.hid (ho3.rd.below hqq)
    have HQ2 := Lib.hid (ho4.rd.below hqq)
    have hL2 : w.heap.size + 1 + 1 < w2.heap.size := lt_of_cell u0
    have ne1 : ¬ w2.heap.size = w.heap.size + 1 + 1 := by omega
    have ne2 : ¬ w.heap.size + 1 + 1 = w2.heap.size := by omega
    have ne3 : ¬ w2.heap.size = w.heap.size + 1 := by omega
    have ne4 : ¬ w.heap.size + 1 = w2.heap.size := by omega
    clear hL2
    have k0 := cellB u0 hqq
    have k1 := cellB u1 hqq
    have k2 := cellB u2 hqq
    have hlt := lt_of_cell u0
    have kf := fun j => (hqq.frozen (p := ⟨w.heap.size + 1 + 1, j, none⟩) hlt).trans (uf j)
    have m0 : ((w2.alloc (.cells #[.bool A.p.neg, .slice a3 (dg 1000000000 A.p.m).length c3, .int .i64 A.p.e] 24)).alloc (.cells #[.bool B.p.neg, .slice a4 (dg 1000000000 B.p.m).length c4, .int .i64 B.p.e] 24)).cell? ⟨w2.heap.size, 0, none⟩ = some (.bool A.p.neg) := by simp
    have m1 : ((w2.alloc (.cells #[.bool A.p.neg, .slice a3 (dg 1000000000 A.p.m).length c3, .int .i64 A.p.e] 24)).alloc (.cells #[.bool B.p.neg, .slice a4 (dg 1000000000 B.p.m).length c4, .int .i64 B.p.e] 24)).cell? ⟨w2.heap.size, 1, none⟩ = some (.slice a3 (dg 1000000000 A.p.m).length c3) := by simp
    have m2 : ((w2.alloc (.cells #[.bool A.p.neg, .slice a3 (dg 1000000000 A.p.m).length c3, .int .i64 A.p.e] 24)).alloc (.cells #[.bool B.p.neg, .slice a4 (dg 1000000000 B.p.m).length c4, .int .i64 B.p.e] 24)).cell? ⟨w2.heap.size, 2, none⟩ = some (.int .i64 A.p.e) := by simp
    have n0 : ((w2.alloc (.cells #[.bool A.p.neg, .slice a3 (dg 1000000000 A.p.m).length c3, .int .i64 A.p.e] 24)).alloc (.cells #[.bool B.p.neg, .slice a4 (dg 1000000000 B.p.m).length c4, .int .i64 B.p.e] 24)).cell? ⟨w2.heap.size + 1, 0, none⟩ = some (.bool B.p.neg) := by simp
    have n1 : ((w2.alloc (.cells #[.bool A.p.neg, .slice a3 (dg 1000000000 A.p.m).length c3, .int .i64 A.p.e] 24)).alloc (.cells #[.bool B.p.neg, .slice a4 (dg 1000000000 B.p.m).length c4, .int .i64 B.p.e] 24)).cell? ⟨w2.heap.size + 1, 1, none⟩ = some (.slice a4 (dg 1000000000 B.p.m).length c4) := by simp
    have n2 : ((w2.alloc (.cells #[.bool A.p.neg, .slice a3 (dg 1000000000 A.p.m).length c3, .int .i64 A.p.e] 24)).alloc (.cells #[.bool B.p.neg, .slice a4 (dg 1000000000 B.p.m).length c4, .int .i64 B.p.e] 24)).cell? ⟨w2.heap.size + 1, 2, none⟩ = some (.int .i64 B.p.e) := by simp
    have xf : ∀ j, ((w2.alloc (.cells #[.bool A.p.neg, .slice a3 (dg 1000000000 A.p.m).length c3, .int .i64 A.p.e] 24)).alloc (.cells #[.bool B.p.neg, .slice a4 (dg 1000000000 B.p.m).length c4, .int .i64 B.p.e] 24)).frozen? ⟨w2.heap.size, j, none⟩ = false := fun j => by simp
    clear hA hB hAl hC hPl hM1 hM2 hT1 hT2 hT3 ho3 ho4 hbA hbB hqq u0 u1 u2 uf hlt hval hR f1 f2 f3 l1' l2'
    go_wp2_with fail
    refine (HAL.out _ HQ1.out HQ2.out).mono ?_
    rintro r w4 ⟨a5, c5, a6, c6, rfl, ho5, ho6, hb4⟩
    have p0 := cellB m0 hb4
    have p1 := cellB m1 hb4
    have p2 := cellB m2 hb4
    have q0 := cellB n0 hb4
    have q1 := cellB n1 hb4
    have q2 := cellB n2 hb4
    have g0 := cellB k0 hb4
    have g1 := cellB k1 hb4
    have g2 := cellB k2 hb4
    have gf : ∀ j, w4.frozen? ⟨w.heap.size + 1 + 1, j, none⟩ = false := fun j => by rw [hb4.frozen (p := ⟨w.heap.size + 1 + 1, j, none⟩) (by have := lt_of_cell k0; exact this)]; exact kf j
    have yf : ∀ j, w4.frozen? ⟨w2.heap.size, j, none⟩ = false := fun j => by rw [hb4.frozen (p := ⟨w2.heap.size, j, none⟩) (by have := lt_of_cell m0; exact this)]; exact xf j
    have b4 := bq.trans (hb4.mono bq.size)
    have r5 := ho5.rd
    have r6 := ho6.rd
    clear hb4 ho5 ho6 m0 m1 m2 n0 n1 n2 k0 k1 k2 kf xf bq HQ1 HQ2
    by_cases hs : A.p.neg = B.p.neg
    · have hsB : (A.p.neg == B.p.neg) = true := by simp [hs]
      have hR : R = tellA A.p.neg (v1 + v2) em := by rw [HVAL.out]; exact if_pos hs
      have hT := HT1.out A.p.neg
      rw [← hR] at hT
      have HT := Lib.hid hT
      have HPL3 := Lib.hid (fun W (hb : Below w4.heap.size w4 W) => HPL.out a5 a6 c5 c6 W (r5.below hb) (r6.below hb))
      have x0 := p0
      have hl3 := lt_of_cell g0
      have HK0 := Lib.hid g0; have HK1 := Lib.hid g1; have HK2 := Lib.hid g2; have HKF := Lib.hid gf
      clear hT hR hs
      go_wp2
      clear g0 g1 g2 gf
      go_region_held3 (fun w' => w'.cell? ⟨w2.heap.size, 0, none⟩ = some (.bool A.p.neg)) (first | exact xj | exact xi | exact x0 | go_keep)
        (first
          | (go_at_call 59; refine (HPL3.out _ (Below.refl w4.heap.size w4).drew).mono ?_; rintro e w5 ⟨a7, c7, rfl, ho7, hb5⟩; have h5 := (Below.refl w4.heap.size w4).drew.trans hb5; have xi := cellB x0 h5)
          | (go_at_call 33; refine (HT.out a7 c7 _ ho7.rd (HTAB.out.below (b4.trans (h5.mono b4.size)))).mono ?_; rintro e w6 ⟨a8, c8, rfl, ho8, hb6⟩; have h6 := h5.trans (hb6.mono h5.size); have xj := cellB x0 h6; have z0 := cellB HK0.out h6; have z1 := cellB HK1.out h6; have z2 := cellB HK2.out h6; have zf : ∀ j, w6.frozen? ⟨w.heap.size + 1 + 1, j, none⟩ = false := (fun j => by rw [h6.frozen (p := ⟨w.heap.size + 1 + 1, j, none⟩) hl3]; exact HKF.out j)))
      have b6 := b4.trans (h6.mono b4.size)
      have ap := ho8.apart (Nat.lt_of_lt_of_le hl3 h5.size)
      have hown := ho8.mono (Nat.le_trans b4.size h5.size)
      clear ho8 hb6 h6 h5 ho7 hb5
      go_wp2
      refine bodyPost_ret (v := .tuple #[.agg #[.bool R.p.neg, .slice a8 (dg 1000000000 R.p.m).length c8, .int .i64 R.p.e], .int .i64 (R.err : Nat)]) (by simp [results, Tryd.results28, go_sem, z0, z1, z2]) rfl ?_
      exact ⟨a8, c8, rfl, ((hown.setFar ap _ _).setFar ap _ _).setFar ap _ _, ((b6.setCell LE2.out _).setCell LE2.out _).setCell LE2.out _⟩
    · have hsB : (A.p.neg == B.p.neg) = false := by simp [hs]
      have hC2 := HC.out a5 a6 c5 c6
      by_cases hlt : v1 < v2
      · have hR : R = tellA B.p.neg (v2 - v1) em := by rw [HVAL.out]; exact (if_neg hs).trans (if_pos hlt)
        rw [cmpN_lt hlt] at hC2
        have HC2 := Lib.hid hC2
        have hT := HT3.out B.p.neg
        rw [← hR] at hT
        have HT := Lib.hid hT
        have HM3 := Lib.hid (fun W ha hb => HM2.out (by omega) a6 a5 c6 c5 W ha hb)
        clear hT hR hs hC2 hlt
        go_wp2_with fail
        refine (HC2.out _ r5 r6).mono ?_
        rintro r w5 ⟨rfl, hb5⟩
        have P0 := cellB p0 hb5
        have P1 := cellB p1 hb5
        have P2 := cellB p2 hb5
        have Q0 := cellB q0 hb5
        have Q1 := cellB q1 hb5
        have Q2 := cellB q2 hb5
        have G0 := cellB g0 hb5
        have G1 := cellB g1 hb5
        have G2 := cellB g2 hb5
        have hg5 := lt_of_cell g0
        have hx5 := lt_of_cell p0
        have GF : ∀ j, w5.frozen? ⟨w.heap.size + 1 + 1, j, none⟩ = false := fun j => by rw [hb5.frozen (p := ⟨w.heap.size + 1 + 1, j, none⟩) hg5]; exact gf j
        have YF : ∀ j, w5.frozen? ⟨w2.heap.size, j, none⟩ = false := fun j => by rw [hb5.frozen (p := ⟨w2.heap.size, j, none⟩) hx5]; exact yf j
        have b5 := b4.trans (hb5.mono b4.size)
        have R5 := Lib.hid (r5.below hb5)
        have R6 := Lib.hid (r6.below hb5)
        clear hb5 b4 p0 p1 p2 q0 q1 q2 g0 g1 g2 gf yf r5 r6 hg5 hx5
        have S5 := Lib.hid (((R5.out.setOther (v := .bool B.p.neg) P0 (by intro n h; cases h)).setOther (g := w2.heap.size) (j := 1) (v := .slice a4 (dg 1000000000 B.p.m).length c4) (v0 := .slice a3 (dg 1000000000 A.p.m).length c3) (by simp [go_sem, P1]) (by intro n h; cases h)).setOther (g := w2.heap.size) (j := 2) (v := .int .i64 B.p.e) (v0 := .int .i64 A.p.e) (by simp [go_sem, P2]) (by intro n h; cases h))
        have S6 := Lib.hid (((R6.out.setOther (v := .bool B.p.neg) P0 (by intro n h; cases h)).setOther (g := w2.heap.size) (j := 1) (v := .slice a4 (dg 1000000000 B.p.m).length c4) (v0 := .slice a3 (dg 1000000000 A.p.m).length c3) (by simp [go_sem, P1]) (by intro n h; cases h)).setOther (g := w2.heap.size) (j := 2) (v := .int .i64 B.p.e) (v0 := .int .i64 A.p.e) (by simp [go_sem, P2]) (by intro n h; cases h))
        have X0 : (((w5.setCell ⟨w2.heap.size, 0, none⟩ (.bool B.p.neg)).setCell ⟨w2.heap.size, 1, none⟩ (.slice a4 (dg 1000000000 B.p.m).length c4)).setCell ⟨w2.heap.size, 2, none⟩ (.int .i64 B.p.e)).cell? ⟨w2.heap.size, 0, none⟩ = some (.bool B.p.neg) := by simp [go_sem, P0, P1, P2]
        have V0 : (((w5.setCell ⟨w2.heap.size, 0, none⟩ (.bool B.p.neg)).setCell ⟨w2.heap.size, 1, none⟩ (.slice a4 (dg 1000000000 B.p.m).length c4)).setCell ⟨w2.heap.size, 2, none⟩ (.int .i64 B.p.e)).cell? ⟨w.heap.size + 1 + 1, 0, none⟩ = some (.bool false) := by simp [go_sem, G0, ne1, ne2]
        have V1 : (((w5.setCell ⟨w2.heap.size, 0, none⟩ (.bool B.p.neg)).setCell ⟨w2.heap.size, 1, none⟩ (.slice a4 (dg 1000000000 B.p.m).length c4)).setCell ⟨w2.heap.size, 2, none⟩ (.int .i64 B.p.e)).cell? ⟨w.heap.size + 1 + 1, 1, none⟩ = some (.slice none 0 0) := by simp [go_sem, G1, ne1, ne2]
        have V2 : (((w5.setCell ⟨w2.heap.size, 0, none⟩ (.bool B.p.neg)).setCell ⟨w2.heap.size, 1, none⟩ (.slice a4 (dg 1000000000 B.p.m).length c4)).setCell ⟨w2.heap.size, 2, none⟩ (.int .i64 B.p.e)).cell? ⟨w.heap.size + 1 + 1, 2, none⟩ = some (.int .i64 0) := by simp [go_sem, G2, ne1, ne2]
        have VF : ∀ j, (((w5.setCell ⟨w2.heap.size, 0, none⟩ (.bool B.p.neg)).setCell ⟨w2.heap.size, 1, none⟩ (.slice a4 (dg 1000000000 B.p.m).length c4)).setCell ⟨w2.heap.size, 2, none⟩ (.int .i64 B.p.e)).frozen? ⟨w.heap.size + 1 + 1, j, none⟩ = false := fun j => by simp [go_sem, GF, ne1, ne2]
        have B5 : Below w.heap.size w (((w5.setCell ⟨w2.heap.size, 0, none⟩ (.bool B.p.neg)).setCell ⟨w2.heap.size, 1, none⟩ (.slice a4 (dg 1000000000 B.p.m).length c4)).setCell ⟨w2.heap.size, 2, none⟩ (.int .i64 B.p.e)) := ((b5.setCell (show w.heap.size ≤ w2.heap.size from b2.size) _).setCell (show w.heap.size ≤ w2.heap.size from b2.size) _).setCell (show w.heap.size ≤ w2.heap.size from b2.size) _
        go_wp2_with fail
        refine (HM3.out _ S6.out S5.out).mono ?_
        rintro r w6 ⟨a7, c7, rfl, ho7, hb6⟩
        have x0 := cellB X0 hb6
        have g0 := cellB V0 hb6
        have g1 := cellB V1 hb6
        have g2 := cellB V2 hb6
        have hv := lt_of_cell V0
        have gf : ∀ j, w6.frozen? ⟨w.heap.size + 1 + 1, j, none⟩ = false := fun j => by rw [hb6.frozen (p := ⟨w.heap.size + 1 + 1, j, none⟩) hv]; exact VF j
        have b6 := B5.trans (hb6.mono B5.size)
        clear hb6 P0 P1 P2 Q0 Q1 Q2 G0 G1 G2 GF YF X0 V0 V1 V2 VF
        go_wp2_with fail
        refine (HT.out a7 c7 _ ho7.rd (HTAB.out.below b6)).mono ?_
        rintro r w7 ⟨a8, c8, rfl, ho8, hb7⟩
        have z0 := cellB g0 hb7
        have z1 := cellB g1 hb7
        have z2 := cellB g2 hb7
        have hv := lt_of_cell g0
        have zf : ∀ j, w7.frozen? ⟨w.heap.size + 1 + 1, j, none⟩ = false := fun j => by rw [hb7.frozen (p := ⟨w.heap.size + 1 + 1, j, none⟩) hv]; exact gf j
        have b7 := b6.trans (hb7.mono b6.size)
        have ap := ho8.apart hv
        have hown := ho8.mono b6.size
        clear ho8 hb7 ho7 g0 g1 g2 gf x0
        go_wp2
        refine bodyPost_ret (v := .tuple #[.agg #[.bool R.p.neg, .slice a8 (dg 1000000000 R.p.m).length c8, .int .i64 R.p.e], .int .i64 (R.err : Nat)]) (by simp [results, Tryd.results28, go_sem, z0, z1, z2]) rfl ?_
        exact ⟨a8, c8, rfl, ((hown.setFar ap _ _).setFar ap _ _).setFar ap _ _, ((b7.setCell LE2.out _).setCell LE2.out _).setCell LE2.out _⟩
      · have hge : 0 ≤ cmpN v1 v2 := by unfold cmpN; rw [if_neg hlt]; split <;> omega
        have hR : R = tellA A.p.neg (v1 - v2) em := by rw [HVAL.out]; exact (if_neg hs).trans (if_neg hlt)
        have HC2 := Lib.hid hC2
        have hT := HT2.out A.p.neg
        rw [← hR] at hT
        have HT := Lib.hid hT
        have HM3 := Lib.hid (fun W ha hb => HM1.out (by omega) a5 a6 c5 c6 W ha hb)
        clear hT hR hs hC2 hlt
        generalize cmpN v1 v2 = cv at *
        go_wp2_with fail
        refine (HC2.out _ r5 r6).mono ?_
        rintro r w5 ⟨rfl, hb5⟩
        have P0 := cellB p0 hb5
        have P1 := cellB p1 hb5
        have P2 := cellB p2 hb5
        have Q0 := cellB q0 hb5
        have Q1 := cellB q1 hb5
        have Q2 := cellB q2 hb5
        have G0 := cellB g0 hb5
        have G1 := cellB g1 hb5
        have G2 := cellB g2 hb5
        have hg5 := lt_of_cell g0
        have hx5 := lt_of_cell p0
        have GF : ∀ j, w5.frozen? ⟨w.heap.size + 1 + 1, j, none⟩ = false := fun j => by rw [hb5.frozen (p := ⟨w.heap.size + 1 + 1, j, none⟩) hg5]; exact gf j
        have YF : ∀ j, w5.frozen? ⟨w2.heap.size, j, none⟩ = false := fun j => by rw [hb5.frozen (p := ⟨w2.heap.size, j, none⟩) hx5]; exact yf j
        have b5 := b4.trans (hb5.mono b4.size)
        have R5 := Lib.hid (r5.below hb5)
        have R6 := Lib.hid (r6.below hb5)
        clear hb5 b4 p0 p1 p2 q0 q1 q2 g0 g1 g2 gf yf r5 r6 hg5 hx5
        go_wp2_with fail
        refine (HM3.out _ R5.out R6.out).mono ?_
        rintro r w6 ⟨a7, c7, rfl, ho7, hb6⟩
        have x0 := cellB P0 hb6
        have g0 := cellB G0 hb6
        have g1 := cellB G1 hb6
        have g2 := cellB G2 hb6
        have hv := lt_of_cell G0
        have gf : ∀ j, w6.frozen? ⟨w.heap.size + 1 + 1, j, none⟩ = false := fun j => by rw [hb6.frozen (p := ⟨w.heap.size + 1 + 1, j, none⟩) hv]; exact GF j
        have b6 := b5.trans (hb6.mono b5.size)
        clear hb6 P0 P1 P2 Q0 Q1 Q2 G0 G1 G2 GF YF
        go_wp2_with fail
        refine (HT.out a7 c7 _ ho7.rd (HTAB.out.below b6)).mono ?_
        rintro r w7 ⟨a8, c8, rfl, ho8, hb7⟩
        have z0 := cellB g0 hb7
        have z1 := cellB g1 hb7
        have z2 := cellB g2 hb7
        have hv := lt_of_cell g0
        have zf : ∀ j, w7.frozen? ⟨w.heap.size + 1 + 1, j, none⟩ = false := fun j => by rw [hb7.frozen (p := ⟨w.heap.size + 1 + 1, j, none⟩) hv]; exact gf j
        have b7 := b6.trans (hb7.mono b6.size)
        have ap := ho8.apart hv
        have hown := ho8.mono b6.size
        clear ho8 hb7 ho7 g0 g1 g2 gf x0
        go_wp2
        refine bodyPost_ret (v := .tuple #[.agg #[.bool R.p.neg, .slice a8 (dg 1000000000 R.p.m).length c8, .int .i64 R.p.e], .int .i64 (R.err : Nat)]) (by simp [results, Tryd.results28, go_sem, z0, z1, z2]) rfl ?_
        exact ⟨a8, c8, rfl, ((hown.setFar ap _ _).setFar ap _ _).setFar ap _ _, ((b7.setCell LE2.out _).setCell LE2.out _).setCell LE2.out _⟩
  · have hR : R = ⟨pairE A B, zP⟩ := by rw [HRES.out]; exact if_neg hbad
    have hlt := lt_of_cell u0
    have hBB : (((pairE A B : Nat) : Int) != 0) = true := by simp; have := pairE_bad hbad; omega
    have hqq := ((Below.refl w2.heap.size w2).alloc (Nat.le_refl _) (.cells #[.bool false, .slice none 0 0, .int .i64 0] 24)).alloc (by simp) (.cells #[.bool false, .slice none 0 0, .int .i64 0] 24)
    have k0 := cellB u0 hqq
    have k1 := cellB u1 hqq
    have k2 := cellB u2 hqq
    have kf := fun j => (hqq.frozen (p := ⟨w.heap.size + 1 + 1, j, none⟩) hlt).trans (uf j)
    have bq := b2.trans (hqq.mono b2.size)
    clear hqq u0 u1 u2 uf
    have HR := Lib.hid hR
    clear hbad hbA hbB hR
    go_wp2
    refine bodyPost_ret (v := .tuple #[.agg #[.bool false, .slice none 0 0, .int .i64 0], .int .i64 (pairE A B : Nat)]) (by simp [results, Tryd.results28, go_sem, k0, k1, k2]) rfl ?_
    exact resA_err HR.out (((bq.setCell LE2.out _).setCell LE2.out _).setCell LE2.out _)
end Go.Proofs.YtofeckdhhaoobaaDoor

/- The sum by the document's cases. Nothing of the program. -/
namespace Go.Proofs.YtofeckdhhaoobaaDoor
open Go.RowKit LM

theorem pl_ual {p : Pl} {e : Int} (hp : PlainP p) (he : e ≤ p.e) : pl p.neg (ual p e) e = p := by
  rcases hp with ⟨h0, h1⟩ | h
  · unfold ual; rw [h0, Nat.zero_mul]
    show zP = p
    exact h1.symm
  · have hpos : 0 < p.m * 10 ^ (p.e - e).toNat := Nat.mul_pos (by omega) (Nat.pow_pos (by omega))
    unfold pl ual
    rw [if_neg (by omega), core_plain h, tz_plain h, show e + ((p.e - e).toNat : Int) = p.e by omega]
theorem zp_of {p : Pl} (hp : PlainP p) (h : p.m = 0) : p = zP := by
  rcases hp with ⟨_, h1⟩ | h1
  · exact h1
  · exact absurd (show p.m % 10 = 0 by rw [h]) h1
theorem mn_le (p q : Pl) : mn p q ≤ p.e ∧ mn p q ≤ q.e := by unfold mn; omega
theorem addV_zl {p q : Pl} (hp : PlainP p) (hq : PlainP q) (h : p.m = 0) : addV p q = tellP q := by
  have hz := zp_of hp h
  have hu : ual p (mn p q) = 0 := by unfold ual; rw [h, Nat.zero_mul]
  have hk := pl_ual hq (mn_le p q).2
  unfold addV
  rw [hu, Nat.zero_add, Nat.sub_zero]
  by_cases hs : p.neg = q.neg
  · rw [if_pos hs, hs, tellA_P, hk]
  · rw [if_neg hs]
    have hpn : p.neg = false := by rw [hz]; rfl
    have hqn : q.neg = true := by rw [hpn] at hs; cases hn : q.neg; exact absurd hn.symm hs; rfl
    have hq0 : q.m ≠ 0 := fun h0 => by rw [zp_of hq h0] at hqn; cases hqn
    have hpos : 0 < ual q (mn p q) := Nat.mul_pos (by omega) (Nat.pow_pos (by omega))
    rw [if_pos hpos, tellA_P, hk]
theorem addV_zr {p q : Pl} (hp : PlainP p) (hq : PlainP q) (h : q.m = 0) : addV p q = tellP p := by
  have hu : ual q (mn p q) = 0 := by unfold ual; rw [h, Nat.zero_mul]
  have hk := pl_ual hp (mn_le p q).1
  unfold addV
  rw [hu, Nat.add_zero, Nat.sub_zero, if_neg (Nat.not_lt_zero _), tellA_P, hk]
  split <;> rfl

theorem far_one {s : Bool} {v M : Nat} {e : Int} (hv : 10 ^ M ≤ v) (hM : 400 ≤ M) (h10 : v % 10 ≠ 0) : tellA s v e = ⟨3, zP⟩ := by
  have hpl : pl s v e = ⟨s, v, e⟩ := by
    have e1 : core v = v := by have := core_plain h10 0; simpa using this
    unfold pl; rw [if_neg (by omega), e1, tz_no h10]; simp
  have hl : M < (dg 10 v).length := by
    rcases Nat.lt_or_ge M (dg 10 v).length with h | h
    · exact h
    · have h1 := dg_upper (b := 10) (by omega) v
      have h2 : 10 ^ (dg 10 v).length ≤ 10 ^ M := Nat.pow_le_pow_right (by omega) h
      omega
  unfold tellA
  rw [hpl, if_neg]
  intro h
  have := of_decide_eq_true h
  unfold dl at this
  simp only at this
  omega
theorem far_two {u v M L : Nat} (hM : 10 ^ M ≤ u) (hv : v < 10 ^ L) (hL : L ≤ 400) (hMM : 2001 ≤ M) (h10 : u % 10 = 0) (hv10 : v % 10 ≠ 0) (s : Bool) (e : Int) :
    v < u ∧ tellA s (u + v) e = ⟨3, zP⟩ ∧ tellA s (u - v) e = ⟨3, zP⟩ := by
  obtain ⟨N, rfl⟩ : ∃ N, M = N + 1 := ⟨M - 1, by omega⟩
  have h1 : 10 ^ L ≤ 10 ^ N := Nat.pow_le_pow_right (by omega) (by omega)
  rw [Nat.pow_succ] at hM
  generalize hN : 10 ^ N = t at *
  generalize 10 ^ L = l at *
  refine ⟨by omega, far_one (M := N) (by rw [hN]; omega) (by omega) (by omega), far_one (M := N) (by rw [hN]; omega) (by omega) (by omega)⟩
theorem ual_big {p : Pl} {e : Int} (hp : 0 < p.m) (he : e ≤ p.e) : 10 ^ (hd p - e).toNat ≤ ual p e := by
  have h2 := dg_lo10 p.m hp
  have h3 : (dg 10 p.m).length ≠ 0 := by rw [dg_pos (by omega) hp]; simp
  have he2 : (hd p - e).toNat = (dg 10 p.m).length - 1 + (p.e - e).toNat := by unfold hd dl; omega
  rw [he2, Nat.pow_add]; exact Nat.mul_le_mul_right _ h2
theorem addV_far1 {p q : Pl} (hp : Bd p) (hq : Bd q) (hpp : 0 < p.m) (hqp : q.m % 10 ≠ 0) (h : 2000 < hd p - mn p q) : addV p q = ⟨3, zP⟩ := by
  have k1 := hp.1
  have hm : mn p q = q.e := by unfold hd mn at *; omega
  have hlt : mn p q < p.e := by unfold hd at h; omega
  have hu2 : ual q (mn p q) = q.m := by unfold ual; rw [hm]; simp
  have hu1 := ual_big hpp (mn_le p q).1
  have h10 : ual p (mn p q) % 10 = 0 := by
    unfold ual
    obtain ⟨k, hk⟩ : ∃ k, (p.e - mn p q).toNat = k + 1 := ⟨(p.e - mn p q).toNat - 1, by omega⟩
    rw [hk, Nat.pow_succ, ← Nat.mul_assoc, Nat.mul_mod_left]
  have hv := dg_upper (b := 10) (by omega) q.m
  have hL : (dg 10 q.m).length ≤ 400 := hq.1
  have hf := fun s e => far_two hu1 hv hL (by omega) h10 hqp s e
  unfold addV
  rw [hu2]
  split
  · exact (hf _ _).2.1
  · rw [if_neg (by have := (hf true 0).1; omega)]; exact (hf _ _).2.2
theorem addV_far2 {p q : Pl} (hp : Bd p) (hq : Bd q) (hpp : 0 < q.m) (hqp : p.m % 10 ≠ 0) (h : 2000 < hd q - mn p q) : addV p q = ⟨3, zP⟩ := by
  have k1 := hq.1
  have hm : mn p q = p.e := by unfold hd mn at *; omega
  have hlt : mn p q < q.e := by unfold hd at h; omega
  have hu2 : ual p (mn p q) = p.m := by unfold ual; rw [hm]; simp
  have hu1 := ual_big hpp (mn_le p q).2
  have h10 : ual q (mn p q) % 10 = 0 := by
    unfold ual
    obtain ⟨k, hk⟩ : ∃ k, (q.e - mn p q).toNat = k + 1 := ⟨(q.e - mn p q).toNat - 1, by omega⟩
    rw [hk, Nat.pow_succ, ← Nat.mul_assoc, Nat.mul_mod_left]
  have hv := dg_upper (b := 10) (by omega) p.m
  have hL : (dg 10 p.m).length ≤ 400 := hp.1
  have hf := fun s e => far_two hu1 hv hL (by omega) h10 hqp s e
  unfold addV
  rw [hu2]
  split
  · rw [Nat.add_comm]; exact (hf _ _).2.1
  · rw [if_pos (hf true 0).1]; exact (hf _ _).2.2
end Go.Proofs.YtofeckdhhaoobaaDoor
