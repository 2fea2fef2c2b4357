/- Walks of dec.Mul, dec.Add. -/
import Derived.Test.YtimfpgpomafflaaGreatDoorDecQs
import Derived.Test.YtimfpgpomafflaaGreatDoorDecRs
import Derived.Test.YtimfpgpomafflaaGreatDoorLimbEs
namespace Go.Proofs.YtimfpgpomafflaaGreatDoor
open Go.RowKit LM

def okP (A B : Ans) : Prop := A.err = 0 ∧ B.err = 0
instance (A B : Ans) : Decidable (okP A B) := by unfold okP; infer_instance
def mulA (A B : Ans) : Ans := if okP A B then tellA (A.p.neg != B.p.neg) (A.p.m * B.p.m) (A.p.e + B.p.e) else ⟨pairE A B, zP⟩
def addV (p q : Pl) : Ans :=
  if p.neg = q.neg then tellA p.neg (ual p (mn p q) + ual q (mn p q)) (mn p q)
  else if ual p (mn p q) < ual q (mn p q) then tellA q.neg (ual q (mn p q) - ual p (mn p q)) (mn p q) else tellA p.neg (ual p (mn p q) - ual q (mn p q)) (mn p q)
def addA (A B : Ans) : Ans := if okP A B then addV A.p B.p else ⟨pairE A B, zP⟩

theorem few_of_len {v N : Nat} (h : (dg 10 v).length ≤ N) (hN : N ≤ 30000) : tz v ≤ 30000 ∧ (dg 1000000000 v).length ≤ 100000 := by
  have h2 := dg_len_9 v
  refine ⟨?_, by omega⟩
  rcases Nat.eq_zero_or_pos v with e | e
  · rw [e, tz_zero]; omega
  · have := tz_len e; omega
theorem mul_few {p q : Pl} (hp : Bd p) (hq : Bd q) : tz (p.m * q.m) ≤ 30000 ∧ (dg 1000000000 (p.m * q.m)).length ≤ 100000 := by
  have h1 : p.m * q.m < 10 ^ ((dg 10 p.m).length + (dg 10 q.m).length) := by rw [Nat.pow_add]; exact Nat.mul_lt_mul'' (dg_upper (by omega) _) (dg_upper (by omega) _)
  have h2 := dg_len_of_lt (b := 10) (by omega) h1
  have h3 : (dg 10 p.m).length ≤ 400 := hp.1
  have h4 : (dg 10 q.m).length ≤ 400 := hq.1
  exact few_of_len (N := 800) (by omega) (by omega)
theorem mul9 (u v : Nat) (a b : Option Addr) (ca cb : Nat) (w : World) (hu : (dg 1000000000 u).length ≤ 100000) (hv : (dg 1000000000 v).length ≤ 100000) (ha : Rd w .u32 a (dg 1000000000 u)) (hb : Rd w .u32 b (dg 1000000000 v)) :
    Calls Tryz.prog 60 #[.slice a (dg 1000000000 u).length ca, .slice b (dg 1000000000 v).length cb] w fun e w' => ∃ a' cap', e = .returned (.slice a' (dg 1000000000 (u * v)).length cap') ∧ Own w' w.heap.size 40 .u32 a' cap' (dg 1000000000 (u * v)) ∧ Below w.heap.size w w' := by
  have h := Mul_any a b ca cb (dg 1000000000 u) (dg 1000000000 v) w (by omega) (by omega) (Lo_mono (Lo_dg (by omega) _) (by omega)) (Lo_mono (Lo_dg (by omega) _) (by omega)) ha hb
  rw [vl_dg (by omega), vl_dg (by omega)] at h
  exact h
theorem add9 (u v : Nat) (a b : Option Addr) (ca cb : Nat) (w : World) (hu : (dg 1000000000 u).length ≤ 100000) (hv : (dg 1000000000 v).length ≤ 100000) (ha : Rd w .u32 a (dg 1000000000 u)) (hb : Rd w .u32 b (dg 1000000000 v)) :
    Calls Tryz.prog 64 #[.slice a (dg 1000000000 u).length ca, .slice b (dg 1000000000 v).length cb] w fun e w' => ∃ a' cap', e = .returned (.slice a' (dg 1000000000 (u + v)).length cap') ∧ Own w' w.heap.size 40 .u32 a' cap' (dg 1000000000 (u + v)) ∧ Below w.heap.size w w' := by
  have h := Add_any a b ca cb (dg 1000000000 u) (dg 1000000000 v) w (by omega) (by omega) (Lo_mono (Lo_dg (by omega) _) (by omega)) (Lo_mono (Lo_dg (by omega) _) (by omega)) ha hb
  rw [vl_dg (by omega), vl_dg (by omega)] at h
  exact h
theorem sub9 (u v : Nat) (a b : Option Addr) (ca cb : Nat) (w : World) (hu : (dg 1000000000 u).length ≤ 100000) (hv : (dg 1000000000 v).length ≤ 100000) (hle : v ≤ u) (ha : Rd w .u32 a (dg 1000000000 u)) (hb : Rd w .u32 b (dg 1000000000 v)) :
    Calls Tryz.prog 65 #[.slice a (dg 1000000000 u).length ca, .slice b (dg 1000000000 v).length cb] w fun e w' => ∃ a' cap', e = .returned (.tuple #[.slice a' (dg 1000000000 (u - v)).length cap', .int .i64 0]) ∧ Own w' w.heap.size 40 .u32 a' cap' (dg 1000000000 (u - v)) ∧ Below w.heap.size w w' := by
  have h := Sub_any a b ca cb (dg 1000000000 u) (dg 1000000000 v) w (by omega) (by omega) (Lo_mono (Lo_dg (by omega) _) (by omega)) (Lo_mono (Lo_dg (by omega) _) (by omega)) ha hb (by rw [vl_dg (by omega), vl_dg (by omega)]; exact hle)
  rw [vl_dg (by omega), vl_dg (by omega)] at h
  exact h
/-- a result's cells behind two boxes more -/
theorem valRes2 {w1 : World} {b : Nat} {x0 x1 x2 : Value} (k0 : w1.cell? ⟨b, 0, none⟩ = some x0) (k1 : w1.cell? ⟨b, 1, none⟩ = some x1) (k2 : w1.cell? ⟨b, 2, none⟩ = some x2) (v0 v1 v2 : Value) (o o2 : Obj) :
    (((((w1.setCell ⟨b, 0, none⟩ v0).setCell ⟨b, 1, none⟩ v1).setCell ⟨b, 2, none⟩ v2).alloc o).alloc o2).cell? ⟨b, 0, none⟩ = some v0 ∧
    (((((w1.setCell ⟨b, 0, none⟩ v0).setCell ⟨b, 1, none⟩ v1).setCell ⟨b, 2, none⟩ v2).alloc o).alloc o2).cell? ⟨b, 1, none⟩ = some v1 ∧
    (((((w1.setCell ⟨b, 0, none⟩ v0).setCell ⟨b, 1, none⟩ v1).setCell ⟨b, 2, none⟩ v2).alloc o).alloc o2).cell? ⟨b, 2, none⟩ = some v2 := by
  obtain ⟨z0, z1, z2⟩ := valRes k0 k1 k2 v0 v1 v2 o
  exact ⟨cellB z0 ((Below.refl _ _).alloc (Nat.le_refl _) o2), cellB z1 ((Below.refl _ _).alloc (Nat.le_refl _) o2), cellB z2 ((Below.refl _ _).alloc (Nat.le_refl _) o2)⟩

set_option maxHeartbeats 16000000 in
set_option maxRecDepth 20000 in
theorem DMul_any (s1 s2 : Bool) (a1 a2 : Option Addr) (c1 c2 : Nat) (l1 l2 : List Nat) (e1 e2 : Int) (w : World) (h1 : l1.length ≤ 9223372036854775807) (h2 : l2.length ≤ 9223372036854775807) (hlo1 : Lo 4294967296 l1) (hlo2 : Lo 4294967296 l2) (hr1 : Rd w .u32 a1 l1) (hr2 : Rd w .u32 a2 l2) (htab : Tab w) :
    Calls Tryz.prog 27 #[.agg #[.bool s1, .slice a1 l1.length c1, .int .i64 e1], .agg #[.bool s2, .slice a2 l2.length c2, .int .i64 e2]] w (ResA (mulA (normA l1.length s1 (vl 1000000000 l1) e1) (normA l2.length s2 (vl 1000000000 l2) e2)) w) := by
  have hP := fun W hb => plainPair_any s1 s2 a1 a2 c1 c2 l1 l2 e1 e2 W h1 h2 hlo1 hlo2 (hr1.below' (w' := W) hb (Nat.le_refl _)) (hr2.below' hb (Nat.le_refl _)) (htab.below hb)
  have hbA : Bd (normA l1.length s1 (vl 1000000000 l1) e1).p := Bd.of (normA_in _ _ _ _)
  have hbB : Bd (normA l2.length s2 (vl 1000000000 l2) e2).p := Bd.of (normA_in _ _ _ _)
  generalize normA l1.length s1 (vl 1000000000 l1) e1 = A at *
  generalize normA l2.length s2 (vl 1000000000 l2) e2 = B at *
  have hres : mulA A B = if okP A B then tellA (A.p.neg != B.p.neg) (A.p.m * B.p.m) (A.p.e + B.p.e) else ⟨pairE A B, zP⟩ := rfl
  generalize mulA A B = R at *
  have HP := Lib.hid hP; have HRES := Lib.hid hres; have HTAB := Lib.hid htab
  clear hP hres hlo1 hlo2 hr1 hr2 htab
  have B3 := (((Below.refl w.heap.size w).alloc (Nat.le_refl _) (.cells #[.bool s1, .slice a1 l1.length c1, .int .i64 e1] 24)).alloc (by simp) (.cells #[.bool s2, .slice a2 l2.length c2, .int .i64 e2] 24)).alloc (by simp; omega) (.cells #[.bool false, .slice none 0 0, .int .i64 0] 24)
  go_enter Tryz.func27, Tryz.ntmps27
  go_wp2_with fail
  refine (HP.out _ B3).mono ?_
  rintro r w2 ⟨hb2, h⟩
  have b2 := B3.trans (hb2.mono B3.size)
  have u0 : w2.cell? ⟨w.heap.size + 1 + 1, 0, none⟩ = some (.bool false) := by rw [hb2.cell (by simp)]; simp [go_sem]
  have u1 : w2.cell? ⟨w.heap.size + 1 + 1, 1, none⟩ = some (.slice none 0 0) := by rw [hb2.cell (by simp)]; simp [go_sem]
  have u2 : w2.cell? ⟨w.heap.size + 1 + 1, 2, none⟩ = some (.int .i64 0) := by rw [hb2.cell (by simp)]; simp [go_sem]
  have uf : ∀ j, w2.frozen? ⟨w.heap.size + 1 + 1, j, none⟩ = false := fun j => by rw [hb2.frozen (by simp)]; simp [go_sem]
  have LE2 := Lib.hid (show w.heap.size ≤ w.heap.size + 1 + 1 by omega)
  clear hb2 HP B3
  rcases h with ⟨hA, hB, a3, c3, a4, c4, rfl, ho3, ho4⟩ | ⟨hbad, rfl⟩
  · have hR : R = tellA (!(A.p.neg == B.p.neg)) (A.p.m * B.p.m) (A.p.e + B.p.e) := by rw [HRES.out, if_pos ⟨hA, hB⟩]; rfl
    obtain ⟨t1, t2⟩ := mul_few hbA hbB
    have hx := hbA.2
    have hy := hbB.2
    have hT := fun a c W hr ht => tell_any (!(A.p.neg == B.p.neg)) a c (A.p.m * B.p.m) (A.p.e + B.p.e) W t1 t2 (by omega) (by omega) hr ht
    have hM := fun W (r1 : Rd W .u32 a3 (dg 1000000000 A.p.m)) (r2 : Rd W .u32 a4 (dg 1000000000 B.p.m)) => mul9 A.p.m B.p.m a3 a4 c3 c4 W (by have := hbA.dg9; omega) (by have := hbB.dg9; omega) r1 r2
    rw [← hR] at hT
    have HT := Lib.hid hT; have HM := Lib.hid hM
    obtain ⟨x1, x2⟩ := hx
    obtain ⟨y1, y2⟩ := hy
    have hqq := ((Below.refl w2.heap.size w2).alloc (Nat.le_refl _) (.cells #[.bool A.p.neg, .slice a3 (dg 1000000000 A.p.m).length c3, .int .i64 A.p.e] 24)).alloc (by simp) (.cells #[.bool B.p.neg, .slice a4 (dg 1000000000 B.p.m).length c4, .int .i64 B.p.e] 24)
    have bq := b2.trans (hqq.mono b2.size)
    have HQ1 := Lib.hid (ho3.rd.below hqq)
    have HQ2 := Lib.hid (ho4.rd.below hqq)
    have hL2 : w.heap.size + 1 + 1 < w2.heap.size := lt_of_cell u0
    have ne1 : ¬ w2.heap.size = w.heap.size + 1 + 1 := by omega
    have ne2 : ¬ w.heap.size + 1 + 1 = w2.heap.size := by omega
    have ne3 : ¬ w2.heap.size = w.heap.size + 1 := by omega
    have ne4 : ¬ w.heap.size + 1 = w2.heap.size := by omega
    clear hL2
    have k0 := cellB u0 hqq
    have k1 := cellB u1 hqq
    have k2 := cellB u2 hqq
    have hlt := lt_of_cell u0
    have kf := fun j => (hqq.frozen (p := ⟨w.heap.size + 1 + 1, j, none⟩) hlt).trans (uf j)
    have m0 : ((w2.alloc (.cells #[.bool A.p.neg, .slice a3 (dg 1000000000 A.p.m).length c3, .int .i64 A.p.e] 24)).alloc (.cells #[.bool B.p.neg, .slice a4 (dg 1000000000 B.p.m).length c4, .int .i64 B.p.e] 24)).cell? ⟨w2.heap.size, 0, none⟩ = some (.bool A.p.neg) := by simp
    have m1 : ((w2.alloc (.cells #[.bool A.p.neg, .slice a3 (dg 1000000000 A.p.m).length c3, .int .i64 A.p.e] 24)).alloc (.cells #[.bool B.p.neg, .slice a4 (dg 1000000000 B.p.m).length c4, .int .i64 B.p.e] 24)).cell? ⟨w2.heap.size, 1, none⟩ = some (.slice a3 (dg 1000000000 A.p.m).length c3) := by simp
    have m2 : ((w2.alloc (.cells #[.bool A.p.neg, .slice a3 (dg 1000000000 A.p.m).length c3, .int .i64 A.p.e] 24)).alloc (.cells #[.bool B.p.neg, .slice a4 (dg 1000000000 B.p.m).length c4, .int .i64 B.p.e] 24)).cell? ⟨w2.heap.size, 2, none⟩ = some (.int .i64 A.p.e) := by simp
    have n0 : ((w2.alloc (.cells #[.bool A.p.neg, .slice a3 (dg 1000000000 A.p.m).length c3, .int .i64 A.p.e] 24)).alloc (.cells #[.bool B.p.neg, .slice a4 (dg 1000000000 B.p.m).length c4, .int .i64 B.p.e] 24)).cell? ⟨w2.heap.size + 1, 0, none⟩ = some (.bool B.p.neg) := by simp
    have n1 : ((w2.alloc (.cells #[.bool A.p.neg, .slice a3 (dg 1000000000 A.p.m).length c3, .int .i64 A.p.e] 24)).alloc (.cells #[.bool B.p.neg, .slice a4 (dg 1000000000 B.p.m).length c4, .int .i64 B.p.e] 24)).cell? ⟨w2.heap.size + 1, 1, none⟩ = some (.slice a4 (dg 1000000000 B.p.m).length c4) := by simp
    have n2 : ((w2.alloc (.cells #[.bool A.p.neg, .slice a3 (dg 1000000000 A.p.m).length c3, .int .i64 A.p.e] 24)).alloc (.cells #[.bool B.p.neg, .slice a4 (dg 1000000000 B.p.m).length c4, .int .i64 B.p.e] 24)).cell? ⟨w2.heap.size + 1, 2, none⟩ = some (.int .i64 B.p.e) := by simp
    have qw : IntKind.i64.wrap (A.p.e + B.p.e) = A.p.e + B.p.e := IntWalk.i64_in _ (by omega)
    clear hR hA hB hT hM ho3 ho4 hbA hbB hqq u0 u1 u2 uf hlt t1 t2
    go_wp2
    generalize ((w2.alloc (.cells #[.bool A.p.neg, .slice a3 (dg 1000000000 A.p.m).length c3, .int .i64 A.p.e] 24)).alloc (.cells #[.bool B.p.neg, .slice a4 (dg 1000000000 B.p.m).length c4, .int .i64 B.p.e] 24)) = w3 at *
    have hl3 := lt_of_cell k0
    have HM3 := Lib.hid (fun W (hb : Below w3.heap.size w3 W) => HM.out W (HQ1.out.below hb) (HQ2.out.below hb))
    clear HM
    have HK0 := Lib.hid k0; have HK1 := Lib.hid k1; have HK2 := Lib.hid k2; have HKF := Lib.hid kf
    clear k0 k1 k2 kf
    go_region_held3 (fun w' => w'.cell? ⟨w2.heap.size, 0, none⟩ = some (.bool A.p.neg) ∧ w'.cell? ⟨w2.heap.size, 1, none⟩ = some (.slice a3 (dg 1000000000 A.p.m).length c3) ∧ w'.cell? ⟨w2.heap.size, 2, none⟩ = some (.int .i64 A.p.e) ∧ w'.cell? ⟨w2.heap.size + 1, 0, none⟩ = some (.bool B.p.neg) ∧ w'.cell? ⟨w2.heap.size + 1, 1, none⟩ = some (.slice a4 (dg 1000000000 B.p.m).length c4) ∧ w'.cell? ⟨w2.heap.size + 1, 2, none⟩ = some (.int .i64 B.p.e)) (first | with_reducible exact ⟨j0, j1, j2, j3, j4, j5⟩ | with_reducible exact ⟨i0, i1, i2, i3, i4, i5⟩ | with_reducible exact ⟨m0, m1, m2, n0, n1, n2⟩ | go_keep)
      (first
        | (go_at_call 60; refine (HM3.out _ (Below.refl w3.heap.size w3).drew).mono ?_; rintro e w5 ⟨a5, c5, rfl, ho5, hb5⟩; have x5 := (Below.refl w3.heap.size w3).drew.trans hb5; have i0 := cellB m0 x5; have i1 := cellB m1 x5; have i2 := cellB m2 x5; have i3 := cellB n0 x5; have i4 := cellB n1 x5; have i5 := cellB n2 x5)
        | (go_at_call 59; refine (HT.out a5 c5 _ ho5.rd (HTAB.out.below (bq.trans (x5.mono bq.size)))).mono ?_; rintro e w6 ⟨a6, c6, rfl, ho6, hb6⟩; have x6 := x5.trans (hb6.mono x5.size); have j0 := cellB m0 x6; have j1 := cellB m1 x6; have j2 := cellB m2 x6; have j3 := cellB n0 x6; have j4 := cellB n1 x6; have j5 := cellB n2 x6; have g0 := cellB HK0.out x6; have g1 := cellB HK1.out x6; have g2 := cellB HK2.out x6; have gf : ∀ j, w6.frozen? ⟨w.heap.size + 1 + 1, j, none⟩ = false := (fun j => by rw [x6.frozen (p := ⟨w.heap.size + 1 + 1, j, none⟩) hl3]; exact HKF.out j)))
    have b6 := bq.trans (x6.mono bq.size)
    have ap := ho6.apart (Nat.lt_of_lt_of_le hl3 x5.size)
    have hown := ho6.mono (Nat.le_trans bq.size x5.size)
    clear ho6 hb6 x6 x5 ho5 hb5
    go_wp2
    refine bodyPost_ret (v := .tuple #[.agg #[.bool R.p.neg, .slice a6 (dg 1000000000 R.p.m).length c6, .int .i64 R.p.e], .int .i64 (R.err : Nat)]) (by simp [results, Tryz.results27, go_sem, g0, g1, g2]) rfl ?_
    exact ⟨a6, c6, rfl, ((hown.setFar ap _ _).setFar ap _ _).setFar ap _ _, ((b6.setCell LE2.out _).setCell LE2.out _).setCell LE2.out _⟩
  · have hR : R = ⟨pairE A B, zP⟩ := by rw [HRES.out]; exact if_neg hbad
    have hlt := lt_of_cell u0
    have hBB : (((pairE A B : Nat) : Int) != 0) = true := by simp; have := pairE_bad hbad; omega
    have hqq := ((Below.refl w2.heap.size w2).alloc (Nat.le_refl _) (.cells #[.bool false, .slice none 0 0, .int .i64 0] 24)).alloc (by simp) (.cells #[.bool false, .slice none 0 0, .int .i64 0] 24)
    have k0 := cellB u0 hqq
    have k1 := cellB u1 hqq
    have k2 := cellB u2 hqq
    have kf := fun j => (hqq.frozen (p := ⟨w.heap.size + 1 + 1, j, none⟩) hlt).trans (uf j)
    have bq := b2.trans (hqq.mono b2.size)
    clear hqq u0 u1 u2 uf
    have HR := Lib.hid hR
    clear hbad hbA hbB hR
    go_wp2
    refine bodyPost_ret (v := .tuple #[.agg #[.bool false, .slice none 0 0, .int .i64 0], .int .i64 (pairE A B : Nat)]) (by simp [results, Tryz.results27, go_sem, k0, k1, k2]) rfl ?_
    exact resA_err HR.out (((bq.setCell LE2.out _).setCell LE2.out _).setCell LE2.out _)
end Go.Proofs.YtimfpgpomafflaaGreatDoor
