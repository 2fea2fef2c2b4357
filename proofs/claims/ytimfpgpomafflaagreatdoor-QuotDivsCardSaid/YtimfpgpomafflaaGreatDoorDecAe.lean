/- Walk of dec.Add. -/
import Derived.Test.YtimfpgpomafflaaGreatDoorDecAd
import Derived.Test.YtimfpgpomafflaaGreatDoorDecOd
namespace Go.Proofs.YtimfpgpomafflaaGreatDoor
open Go.RowKit LM

theorem add_few {p q : Pl} (hp : Bd p) (hq : Bd q) : (tz (ual p (mn p q) + ual q (mn p q)) ≤ 30000 ∧ (dg 1000000000 (ual p (mn p q) + ual q (mn p q))).length ≤ 100000) ∧ (tz (ual p (mn p q) - ual q (mn p q)) ≤ 30000 ∧ (dg 1000000000 (ual p (mn p q) - ual q (mn p q))).length ≤ 100000) ∧ (tz (ual q (mn p q) - ual p (mn p q)) ≤ 30000 ∧ (dg 1000000000 (ual q (mn p q) - ual p (mn p q))).length ≤ 100000) := by
  have hk : ∀ {p q : Pl}, Bd p → Bd q → (dg 10 (ual p (mn p q))).length ≤ 21000 := fun {p q} hp hq => by
    have h1 : ual p (mn p q) < 10 ^ ((dg 10 p.m).length + (p.e - mn p q).toNat) := by
      unfold ual; rw [Nat.pow_add]
      exact Nat.mul_lt_mul_of_pos_right (dg_upper (b := 10) (by omega) p.m) (Nat.pow_pos (by omega))
    have h0 : (dg 10 p.m).length ≤ 400 := hp.1
    have h3 := dg_len_of_lt (b := 10) (by omega) h1
    have k1 := hp.2; have k2 := hq.2
    have k3 : (p.e - mn p q).toNat ≤ 20401 := by unfold mn; omega
    omega
  have h1 := hk hp hq
  have h2 := hk hq hp
  rw [mn_comm] at h2
  generalize ual p (mn p q) = u at *
  generalize ual q (mn p q) = v at *
  have h3 : (dg 10 (u - v)).length ≤ (dg 10 u).length := dg_len_le (by omega) (Nat.sub_le _ _)
  have h4 : (dg 10 (v - u)).length ≤ (dg 10 v).length := dg_len_le (by omega) (Nat.sub_le _ _)
  have h5 : (dg 10 (u + v)).length ≤ max (dg 10 u).length (dg 10 v).length + 1 := by
    have k1 := dg_upper (b := 10) (by omega) u
    have k2 := dg_upper (b := 10) (by omega) v
    refine dg_len_of_lt (by omega) ?_
    have k3 : 10 ^ (dg 10 u).length ≤ 10 ^ (max (dg 10 u).length (dg 10 v).length) := Nat.pow_le_pow_right (by omega) (by omega)
    have k4 : 10 ^ (dg 10 v).length ≤ 10 ^ (max (dg 10 u).length (dg 10 v).length) := Nat.pow_le_pow_right (by omega) (by omega)
    rw [Nat.pow_succ]; omega
  exact ⟨few_of_len (N := 30000) (by omega) (by omega) |> fun h => ⟨h.1, h.2⟩, few_of_len (N := 30000) (by omega) (by omega), few_of_len (N := 30000) (by omega) (by omega)⟩

set_option maxHeartbeats 16000000 in
set_option maxRecDepth 20000 in
theorem DAdd_any (s1 s2 : Bool) (a1 a2 : Option Addr) (c1 c2 : Nat) (l1 l2 : List Nat) (e1 e2 : Int) (w : World) (h1 : l1.length ≤ 9223372036854775807) (h2 : l2.length ≤ 9223372036854775807) (hlo1 : Lo 4294967296 l1) (hlo2 : Lo 4294967296 l2) (hr1 : Rd w .u32 a1 l1) (hr2 : Rd w .u32 a2 l2) (htab : Tab w) :
    Calls Tryz.prog 29 #[.agg #[.bool s1, .slice a1 l1.length c1, .int .i64 e1], .agg #[.bool s2, .slice a2 l2.length c2, .int .i64 e2]] w (ResA (addA (normA l1.length s1 (vl 1000000000 l1) e1) (normA l2.length s2 (vl 1000000000 l2) e2)) w) := by
  have hP := fun W hb => plainPair_any s1 s2 a1 a2 c1 c2 l1 l2 e1 e2 W h1 h2 hlo1 hlo2 (hr1.below' (w' := W) hb (Nat.le_refl _)) (hr2.below' hb (Nat.le_refl _)) (htab.below hb)
  have hbA : Bd (normA l1.length s1 (vl 1000000000 l1) e1).p := Bd.of (normA_in _ _ _ _)
  have hbB : Bd (normA l2.length s2 (vl 1000000000 l2) e2).p := Bd.of (normA_in _ _ _ _)
  generalize normA l1.length s1 (vl 1000000000 l1) e1 = A at *
  generalize normA l2.length s2 (vl 1000000000 l2) e2 = B at *
  have hres : addA A B = if okP A B then addV A.p B.p else ⟨pairE A B, zP⟩ := rfl
  generalize addA A B = R at *
  have HP := Lib.hid hP; have HRES := Lib.hid hres; have HTAB := Lib.hid htab
  clear hP hres hlo1 hlo2 hr1 hr2 htab
  have B3 := (((Below.refl w.heap.size w).alloc (Nat.le_refl _) (.cells #[.bool s1, .slice a1 l1.length c1, .int .i64 e1] 24)).alloc (by simp) (.cells #[.bool s2, .slice a2 l2.length c2, .int .i64 e2] 24)).alloc (by simp; omega) (.cells #[.bool false, .slice none 0 0, .int .i64 0] 24)
  go_enter Tryz.func29, Tryz.ntmps29
  go_wp2_with fail
  refine (HP.out _ B3).mono ?_
  rintro r w2 ⟨hb2, h⟩
  have b2 := B3.trans (hb2.mono B3.size)
  have u0 : w2.cell? ⟨w.heap.size + 1 + 1, 0, none⟩ = some (.bool false) := by rw [hb2.cell (by simp)]; simp [go_sem]
  have u1 : w2.cell? ⟨w.heap.size + 1 + 1, 1, none⟩ = some (.slice none 0 0) := by rw [hb2.cell (by simp)]; simp [go_sem]
  have u2 : w2.cell? ⟨w.heap.size + 1 + 1, 2, none⟩ = some (.int .i64 0) := by rw [hb2.cell (by simp)]; simp [go_sem]
  have uf : ∀ j, w2.frozen? ⟨w.heap.size + 1 + 1, j, none⟩ = false := fun j => by rw [hb2.frozen (by simp)]; simp [go_sem]
  have LE2 := Lib.hid (show w.heap.size ≤ w.heap.size + 1 + 1 by omega)
  clear hb2 HP B3
  rcases h with ⟨hA, hB, a3, c3, a4, c4, rfl, ho3, ho4⟩ | ⟨hbad, rfl⟩
  · have hR : R = addV A.p B.p := by rw [HRES.out]; exact if_pos ⟨hA, hB⟩
    have hmn : -10400 ≤ mn A.p B.p ∧ mn A.p B.p ≤ 10001 := by have := hbA.2; have := hbB.2; unfold mn; omega
    have hAl := fun W r1 r2 => aligned_any A.p B.p a3 a4 c3 c4 W hbA hbB r1 r2
    obtain ⟨f1, f2, f3⟩ := add_few hbA hbB
    have l1' := ual_dg9 hbA hmn.1
    have l2' := ual_dg9 hbB hmn.1
    have hval : R = (if A.p.neg = B.p.neg then tellA A.p.neg (ual A.p (mn A.p B.p) + ual B.p (mn A.p B.p)) (mn A.p B.p)
  else if ual A.p (mn A.p B.p) < ual B.p (mn A.p B.p) then tellA B.p.neg (ual B.p (mn A.p B.p) - ual A.p (mn A.p B.p)) (mn A.p B.p) else tellA A.p.neg (ual A.p (mn A.p B.p) - ual B.p (mn A.p B.p)) (mn A.p B.p)) := hR
    unfold ResAl at hAl
    generalize ual A.p (mn A.p B.p) = v1 at *
    generalize ual B.p (mn A.p B.p) = v2 at *
    generalize mn A.p B.p = em at *
    obtain ⟨y1, y2⟩ := hmn
    have HAL := Lib.hid hAl; have HVAL := Lib.hid hval
    have hC := fun a b ca cb W ha hb => cmp9 v1 v2 a b ca cb W l1' l2' ha hb
    have hPl := fun a b ca cb W ha hb => add9 v1 v2 a b ca cb W l1' l2' ha hb
    have hM1 := fun (hle : v2 ≤ v1) a b ca cb W ha hb => sub9 v1 v2 a b ca cb W l1' l2' hle ha hb
    have hM2 := fun (hle : v1 ≤ v2) a b ca cb W ha hb => sub9 v2 v1 a b ca cb W l2' l1' hle ha hb
    have hT1 := fun s a c W hr ht => tell_any s a c (v1 + v2) em W f1.1 f1.2 (by omega) (by omega) hr ht
    have hT2 := fun s a c W hr ht => tell_any s a c (v1 - v2) em W f2.1 f2.2 (by omega) (by omega) hr ht
    have hT3 := fun s a c W hr ht => tell_any s a c (v2 - v1) em W f3.1 f3.2 (by omega) (by omega) hr ht
    have HC := Lib.hid hC; have HPL := Lib.hid hPl; have HM1 := Lib.hid hM1; have HM2 := Lib.hid hM2; have HT1 := Lib.hid hT1; have HT2 := Lib.hid hT2; have HT3 := Lib.hid hT3
    have hqq := ((Below.refl w2.heap.size w2).alloc (Nat.le_refl _) (.cells #[.bool A.p.neg, .slice a3 (dg 1000000000 A.p.m).length c3, .int .i64 A.p.e] 24)).alloc (by simp) (.cells #[.bool B.p.neg, .slice a4 (dg 1000000000 B.p.m).length c4, .int .i64 B.p.e] 24)
    have bq := b2.trans (hqq.mono b2.size)
    have HQ1 := Lib.hid (ho3.rd.below hqq)
    have HQ2 := Lib.hid (ho4.rd.below hqq)
    have hL2 : w.heap.size + 1 + 1 < w2.heap.size := lt_of_cell u0
    have ne1 : ¬ w2.heap.size = w.heap.size + 1 + 1 := by omega
    have ne2 : ¬ w.heap.size + 1 + 1 = w2.heap.size := by omega
    have ne3 : ¬ w2.heap.size = w.heap.size + 1 := by omega
    have ne4 : ¬ w.heap.size + 1 = w2.heap.size := by omega
    clear hL2
    have k0 := cellB u0 hqq
    have k1 := cellB u1 hqq
    have k2 := cellB u2 hqq
    have hlt := lt_of_cell u0
    have kf := fun j => (hqq.frozen (p := ⟨w.heap.size + 1 + 1, j, none⟩) hlt).trans (uf j)
    have m0 : ((w2.alloc (.cells #[.bool A.p.neg, .slice a3 (dg 1000000000 A.p.m).length c3, .int .i64 A.p.e] 24)).alloc (.cells #[.bool B.p.neg, .slice a4 (dg 1000000000 B.p.m).length c4, .int .i64 B.p.e] 24)).cell? ⟨w2.heap.size, 0, none⟩ = some (.bool A.p.neg) := by simp
    have m1 : ((w2.alloc (.cells #[.bool A.p.neg, .slice a3 (dg 1000000000 A.p.m).length c3, .int .i64 A.p.e] 24)).alloc (.cells #[.bool B.p.neg, .slice a4 (dg 1000000000 B.p.m).length c4, .int .i64 B.p.e] 24)).cell? ⟨w2.heap.size, 1, none⟩ = some (.slice a3 (dg 1000000000 A.p.m).length c3) := by simp
    have m2 : ((w2.alloc (.cells #[.bool A.p.neg, .slice a3 (dg 1000000000 A.p.m).length c3, .int .i64 A.p.e] 24)).alloc (.cells #[.bool B.p.neg, .slice a4 (dg 1000000000 B.p.m).length c4, .int .i64 B.p.e] 24)).cell? ⟨w2.heap.size, 2, none⟩ = some (.int .i64 A.p.e) := by simp
    have n0 : ((w2.alloc (.cells #[.bool A.p.neg, .slice a3 (dg 1000000000 A.p.m).length c3, .int .i64 A.p.e] 24)).alloc (.cells #[.bool B.p.neg, .slice a4 (dg 1000000000 B.p.m).length c4, .int .i64 B.p.e] 24)).cell? ⟨w2.heap.size + 1, 0, none⟩ = some (.bool B.p.neg) := by simp
    have n1 : ((w2.alloc (.cells #[.bool A.p.neg, .slice a3 (dg 1000000000 A.p.m).length c3, .int .i64 A.p.e] 24)).alloc (.cells #[.bool B.p.neg, .slice a4 (dg 1000000000 B.p.m).length c4, .int .i64 B.p.e] 24)).cell? ⟨w2.heap.size + 1, 1, none⟩ = some (.slice a4 (dg 1000000000 B.p.m).length c4) := by simp
    have n2 : ((w2.alloc (.cells #[.bool A.p.neg, .slice a3 (dg 1000000000 A.p.m).length c3, .int .i64 A.p.e] 24)).alloc (.cells #[.bool B.p.neg, .slice a4 (dg 1000000000 B.p.m).length c4, .int .i64 B.p.e] 24)).cell? ⟨w2.heap.size + 1, 2, none⟩ = some (.int .i64 B.p.e) := by simp
    have xf : ∀ j, ((w2.alloc (.cells #[.bool A.p.neg, .slice a3 (dg 1000000000 A.p.m).length c3, .int .i64 A.p.e] 24)).alloc (.cells #[.bool B.p.neg, .slice a4 (dg 1000000000 B.p.m).length c4, .int .i64 B.p.e] 24)).frozen? ⟨w2.heap.size, j, none⟩ = false := fun j => by simp
    clear hA hB hAl hC hPl hM1 hM2 hT1 hT2 hT3 ho3 ho4 hbA hbB hqq u0 u1 u2 uf hlt hval hR f1 f2 f3 l1' l2'
    go_wp2_with fail
    refine (HAL.out _ HQ1.out HQ2.out).mono ?_
    rintro r w4 ⟨a5, c5, a6, c6, rfl, ho5, ho6, hb4⟩
    have p0 := cellB m0 hb4
    have p1 := cellB m1 hb4
    have p2 := cellB m2 hb4
    have q0 := cellB n0 hb4
    have q1 := cellB n1 hb4
    have q2 := cellB n2 hb4
    have g0 := cellB k0 hb4
    have g1 := cellB k1 hb4
    have g2 := cellB k2 hb4
    have gf : ∀ j, w4.frozen? ⟨w.heap.size + 1 + 1, j, none⟩ = false := fun j => by rw [hb4.frozen (p := ⟨w.heap.size + 1 + 1, j, none⟩) (by have := lt_of_cell k0; exact this)]; exact kf j
    have yf : ∀ j, w4.frozen? ⟨w2.heap.size, j, none⟩ = false := fun j => by rw [hb4.frozen (p := ⟨w2.heap.size, j, none⟩) (by have := lt_of_cell m0; exact this)]; exact xf j
    have b4 := bq.trans (hb4.mono bq.size)
    have r5 := ho5.rd
    have r6 := ho6.rd
    clear hb4 ho5 ho6 m0 m1 m2 n0 n1 n2 k0 k1 k2 kf xf bq HQ1 HQ2
    by_cases hs : A.p.neg = B.p.neg
    · have hsB : (A.p.neg == B.p.neg) = true := by simp [hs]
      have hR : R = tellA A.p.neg (v1 + v2) em := by rw [HVAL.out]; exact if_pos hs
      have hT := HT1.out A.p.neg
      rw [← hR] at hT
      have HT := Lib.hid hT
      have HPL3 := Lib.hid (fun W (hb : Below w4.heap.size w4 W) => HPL.out a5 a6 c5 c6 W (r5.below hb) (r6.below hb))
      have x0 := p0
      have hl3 := lt_of_cell g0
      have HK0 := Lib.hid g0; have HK1 := Lib.hid g1; have HK2 := Lib.hid g2; have HKF := Lib.hid gf
      clear hT hR hs
      go_wp2
      clear g0 g1 g2 gf
      go_region_held3 (fun w' => w'.cell? ⟨w2.heap.size, 0, none⟩ = some (.bool A.p.neg)) (first | exact xj | exact xi | exact x0 | go_keep)
        (first
          | (go_at_call 64; refine (HPL3.out _ (Below.refl w4.heap.size w4).drew).mono ?_; rintro e w5 ⟨a7, c7, rfl, ho7, hb5⟩; have h5 := (Below.refl w4.heap.size w4).drew.trans hb5; have xi := cellB x0 h5)
          | (go_at_call 59; refine (HT.out a7 c7 _ ho7.rd (HTAB.out.below (b4.trans (h5.mono b4.size)))).mono ?_; rintro e w6 ⟨a8, c8, rfl, ho8, hb6⟩; have h6 := h5.trans (hb6.mono h5.size); have xj := cellB x0 h6; have z0 := cellB HK0.out h6; have z1 := cellB HK1.out h6; have z2 := cellB HK2.out h6; have zf : ∀ j, w6.frozen? ⟨w.heap.size + 1 + 1, j, none⟩ = false := (fun j => by rw [h6.frozen (p := ⟨w.heap.size + 1 + 1, j, none⟩) hl3]; exact HKF.out j)))
      have b6 := b4.trans (h6.mono b4.size)
      have ap := ho8.apart (Nat.lt_of_lt_of_le hl3 h5.size)
      have hown := ho8.mono (Nat.le_trans b4.size h5.size)
      clear ho8 hb6 h6 h5 ho7 hb5
      go_wp2
      refine bodyPost_ret (v := .tuple #[.agg #[.bool R.p.neg, .slice a8 (dg 1000000000 R.p.m).length c8, .int .i64 R.p.e], .int .i64 (R.err : Nat)]) (by simp [results, Tryz.results29, go_sem, z0, z1, z2]) rfl ?_
      exact ⟨a8, c8, rfl, ((hown.setFar ap _ _).setFar ap _ _).setFar ap _ _, ((b6.setCell LE2.out _).setCell LE2.out _).setCell LE2.out _⟩
    · have hsB : (A.p.neg == B.p.neg) = false := by simp [hs]
      have hC2 := HC.out a5 a6 c5 c6
      by_cases hlt : v1 < v2
      · have hR : R = tellA B.p.neg (v2 - v1) em := by rw [HVAL.out]; exact (if_neg hs).trans (if_pos hlt)
        rw [cmpN_lt hlt] at hC2
        have HC2 := Lib.hid hC2
        have hT := HT3.out B.p.neg
        rw [← hR] at hT
        have HT := Lib.hid hT
        have HM3 := Lib.hid (fun W ha hb => HM2.out (by omega) a6 a5 c6 c5 W ha hb)
        clear hT hR hs hC2 hlt
        go_wp2_with fail
        refine (HC2.out _ r5 r6).mono ?_
        rintro r w5 ⟨rfl, hb5⟩
        have P0 := cellB p0 hb5
        have P1 := cellB p1 hb5
        have P2 := cellB p2 hb5
        have Q0 := cellB q0 hb5
        have Q1 := cellB q1 hb5
        have Q2 := cellB q2 hb5
        have G0 := cellB g0 hb5
        have G1 := cellB g1 hb5
        have G2 := cellB g2 hb5
        have hg5 := lt_of_cell g0
        have hx5 := lt_of_cell p0
        have GF : ∀ j, w5.frozen? ⟨w.heap.size + 1 + 1, j, none⟩ = false := fun j => by rw [hb5.frozen (p := ⟨w.heap.size + 1 + 1, j, none⟩) hg5]; exact gf j
        have YF : ∀ j, w5.frozen? ⟨w2.heap.size, j, none⟩ = false := fun j => by rw [hb5.frozen (p := ⟨w2.heap.size, j, none⟩) hx5]; exact yf j
        have b5 := b4.trans (hb5.mono b4.size)
        have R5 := Lib.hid (r5.below hb5)
        have R6 := Lib.hid (r6.below hb5)
        clear hb5 b4 p0 p1 p2 q0 q1 q2 g0 g1 g2 gf yf r5 r6 hg5 hx5
        have S5 := Lib.hid (((R5.out.setOther (v := .bool B.p.neg) P0 (by intro n h; cases h)).setOther (g := w2.heap.size) (j := 1) (v := .slice a4 (dg 1000000000 B.p.m).length c4) (v0 := .slice a3 (dg 1000000000 A.p.m).length c3) (by simp [go_sem, P1]) (by intro n h; cases h)).setOther (g := w2.heap.size) (j := 2) (v := .int .i64 B.p.e) (v0 := .int .i64 A.p.e) (by simp [go_sem, P2]) (by intro n h; cases h))
        have S6 := Lib.hid (((R6.out.setOther (v := .bool B.p.neg) P0 (by intro n h; cases h)).setOther (g := w2.heap.size) (j := 1) (v := .slice a4 (dg 1000000000 B.p.m).length c4) (v0 := .slice a3 (dg 1000000000 A.p.m).length c3) (by simp [go_sem, P1]) (by intro n h; cases h)).setOther (g := w2.heap.size) (j := 2) (v := .int .i64 B.p.e) (v0 := .int .i64 A.p.e) (by simp [go_sem, P2]) (by intro n h; cases h))
        have X0 : (((w5.setCell ⟨w2.heap.size, 0, none⟩ (.bool B.p.neg)).setCell ⟨w2.heap.size, 1, none⟩ (.slice a4 (dg 1000000000 B.p.m).length c4)).setCell ⟨w2.heap.size, 2, none⟩ (.int .i64 B.p.e)).cell? ⟨w2.heap.size, 0, none⟩ = some (.bool B.p.neg) := by simp [go_sem, P0, P1, P2]
        have V0 : (((w5.setCell ⟨w2.heap.size, 0, none⟩ (.bool B.p.neg)).setCell ⟨w2.heap.size, 1, none⟩ (.slice a4 (dg 1000000000 B.p.m).length c4)).setCell ⟨w2.heap.size, 2, none⟩ (.int .i64 B.p.e)).cell? ⟨w.heap.size + 1 + 1, 0, none⟩ = some (.bool false) := by simp [go_sem, G0, ne1, ne2]
        have V1 : (((w5.setCell ⟨w2.heap.size, 0, none⟩ (.bool B.p.neg)).setCell ⟨w2.heap.size, 1, none⟩ (.slice a4 (dg 1000000000 B.p.m).length c4)).setCell ⟨w2.heap.size, 2, none⟩ (.int .i64 B.p.e)).cell? ⟨w.heap.size + 1 + 1, 1, none⟩ = some (.slice none 0 0) := by simp [go_sem, G1, ne1, ne2]
        have V2 : (((w5.setCell ⟨w2.heap.size, 0, none⟩ (.bool B.p.neg)).setCell ⟨w2.heap.size, 1, none⟩ (.slice a4 (dg 1000000000 B.p.m).length c4)).setCell ⟨w2.heap.size, 2, none⟩ (.int .i64 B.p.e)).cell? ⟨w.heap.size + 1 + 1, 2, none⟩ = some (.int .i64 0) := by simp [go_sem, G2, ne1, ne2]
        have VF : ∀ j, (((w5.setCell ⟨w2.heap.size, 0, none⟩ (.bool B.p.neg)).setCell ⟨w2.heap.size, 1, none⟩ (.slice a4 (dg 1000000000 B.p.m).length c4)).setCell ⟨w2.heap.size, 2, none⟩ (.int .i64 B.p.e)).frozen? ⟨w.heap.size + 1 + 1, j, none⟩ = false := fun j => by simp [go_sem, GF, ne1, ne2]
        have B5 : Below w.heap.size w (((w5.setCell ⟨w2.heap.size, 0, none⟩ (.bool B.p.neg)).setCell ⟨w2.heap.size, 1, none⟩ (.slice a4 (dg 1000000000 B.p.m).length c4)).setCell ⟨w2.heap.size, 2, none⟩ (.int .i64 B.p.e)) := ((b5.setCell (show w.heap.size ≤ w2.heap.size from b2.size) _).setCell (show w.heap.size ≤ w2.heap.size from b2.size) _).setCell (show w.heap.size ≤ w2.heap.size from b2.size) _
        go_wp2_with fail
        refine (HM3.out _ S6.out S5.out).mono ?_
        rintro r w6 ⟨a7, c7, rfl, ho7, hb6⟩
        have x0 := cellB X0 hb6
        have g0 := cellB V0 hb6
        have g1 := cellB V1 hb6
        have g2 := cellB V2 hb6
        have hv := lt_of_cell V0
        have gf : ∀ j, w6.frozen? ⟨w.heap.size + 1 + 1, j, none⟩ = false := fun j => by rw [hb6.frozen (p := ⟨w.heap.size + 1 + 1, j, none⟩) hv]; exact VF j
        have b6 := B5.trans (hb6.mono B5.size)
        clear hb6 P0 P1 P2 Q0 Q1 Q2 G0 G1 G2 GF YF X0 V0 V1 V2 VF
        go_wp2_with fail
        refine (HT.out a7 c7 _ ho7.rd (HTAB.out.below b6)).mono ?_
        rintro r w7 ⟨a8, c8, rfl, ho8, hb7⟩
        have z0 := cellB g0 hb7
        have z1 := cellB g1 hb7
        have z2 := cellB g2 hb7
        have hv := lt_of_cell g0
        have zf : ∀ j, w7.frozen? ⟨w.heap.size + 1 + 1, j, none⟩ = false := fun j => by rw [hb7.frozen (p := ⟨w.heap.size + 1 + 1, j, none⟩) hv]; exact gf j
        have b7 := b6.trans (hb7.mono b6.size)
        have ap := ho8.apart hv
        have hown := ho8.mono b6.size
        clear ho8 hb7 ho7 g0 g1 g2 gf x0
        go_wp2
        refine bodyPost_ret (v := .tuple #[.agg #[.bool R.p.neg, .slice a8 (dg 1000000000 R.p.m).length c8, .int .i64 R.p.e], .int .i64 (R.err : Nat)]) (by simp [results, Tryz.results29, go_sem, z0, z1, z2]) rfl ?_
        exact ⟨a8, c8, rfl, ((hown.setFar ap _ _).setFar ap _ _).setFar ap _ _, ((b7.setCell LE2.out _).setCell LE2.out _).setCell LE2.out _⟩
      · have hge : 0 ≤ cmpN v1 v2 := by unfold cmpN; rw [if_neg hlt]; split <;> omega
        have hR : R = tellA A.p.neg (v1 - v2) em := by rw [HVAL.out]; exact (if_neg hs).trans (if_neg hlt)
        have HC2 := Lib.hid hC2
        have hT := HT2.out A.p.neg
        rw [← hR] at hT
        have HT := Lib.hid hT
        have HM3 := Lib.hid (fun W ha hb => HM1.out (by omega) a5 a6 c5 c6 W ha hb)
        clear hT hR hs hC2 hlt
        generalize cmpN v1 v2 = cv at *
        go_wp2_with fail
        refine (HC2.out _ r5 r6).mono ?_
        rintro r w5 ⟨rfl, hb5⟩
        have P0 := cellB p0 hb5
        have P1 := cellB p1 hb5
        have P2 := cellB p2 hb5
        have Q0 := cellB q0 hb5
        have Q1 := cellB q1 hb5
        have Q2 := cellB q2 hb5
        have G0 := cellB g0 hb5
        have G1 := cellB g1 hb5
        have G2 := cellB g2 hb5
        have hg5 := lt_of_cell g0
        have hx5 := lt_of_cell p0
        have GF : ∀ j, w5.frozen? ⟨w.heap.size + 1 + 1, j, none⟩ = false := fun j => by rw [hb5.frozen (p := ⟨w.heap.size + 1 + 1, j, none⟩) hg5]; exact gf j
        have YF : ∀ j, w5.frozen? ⟨w2.heap.size, j, none⟩ = false := fun j => by rw [hb5.frozen (p := ⟨w2.heap.size, j, none⟩) hx5]; exact yf j
        have b5 := b4.trans (hb5.mono b4.size)
        have R5 := Lib.hid (r5.below hb5)
        have R6 := Lib.hid (r6.below hb5)
        clear hb5 b4 p0 p1 p2 q0 q1 q2 g0 g1 g2 gf yf r5 r6 hg5 hx5
        go_wp2_with fail
        refine (HM3.out _ R5.out R6.out).mono ?_
        rintro r w6 ⟨a7, c7, rfl, ho7, hb6⟩
        have x0 := cellB P0 hb6
        have g0 := cellB G0 hb6
        have g1 := cellB G1 hb6
        have g2 := cellB G2 hb6
        have hv := lt_of_cell G0
        have gf : ∀ j, w6.frozen? ⟨w.heap.size + 1 + 1, j, none⟩ = false := fun j => by rw [hb6.frozen (p := ⟨w.heap.size + 1 + 1, j, none⟩) hv]; exact GF j
        have b6 := b5.trans (hb6.mono b5.size)
        clear hb6 P0 P1 P2 Q0 Q1 Q2 G0 G1 G2 GF YF
        go_wp2_with fail
        refine (HT.out a7 c7 _ ho7.rd (HTAB.out.below b6)).mono ?_
        rintro r w7 ⟨a8, c8, rfl, ho8, hb7⟩
        have z0 := cellB g0 hb7
        have z1 := cellB g1 hb7
        have z2 := cellB g2 hb7
        have hv := lt_of_cell g0
        have zf : ∀ j, w7.frozen? ⟨w.heap.size + 1 + 1, j, none⟩ = false := fun j => by rw [hb7.frozen (p := ⟨w.heap.size + 1 + 1, j, none⟩) hv]; exact gf j
        have b7 := b6.trans (hb7.mono b6.size)
        have ap := ho8.apart hv
        have hown := ho8.mono b6.size
        clear ho8 hb7 ho7 g0 g1 g2 gf x0
        go_wp2
        refine bodyPost_ret (v := .tuple #[.agg #[.bool R.p.neg, .slice a8 (dg 1000000000 R.p.m).length c8, .int .i64 R.p.e], .int .i64 (R.err : Nat)]) (by simp [results, Tryz.results29, go_sem, z0, z1, z2]) rfl ?_
        exact ⟨a8, c8, rfl, ((hown.setFar ap _ _).setFar ap _ _).setFar ap _ _, ((b7.setCell LE2.out _).setCell LE2.out _).setCell LE2.out _⟩
  · have hR : R = ⟨pairE A B, zP⟩ := by rw [HRES.out]; exact if_neg hbad
    have hlt := lt_of_cell u0
    have hBB : (((pairE A B : Nat) : Int) != 0) = true := by simp; have := pairE_bad hbad; omega
    have hqq := ((Below.refl w2.heap.size w2).alloc (Nat.le_refl _) (.cells #[.bool false, .slice none 0 0, .int .i64 0] 24)).alloc (by simp) (.cells #[.bool false, .slice none 0 0, .int .i64 0] 24)
    have k0 := cellB u0 hqq
    have k1 := cellB u1 hqq
    have k2 := cellB u2 hqq
    have kf := fun j => (hqq.frozen (p := ⟨w.heap.size + 1 + 1, j, none⟩) hlt).trans (uf j)
    have bq := b2.trans (hqq.mono b2.size)
    clear hqq u0 u1 u2 uf
    have HR := Lib.hid hR
    clear hbad hbA hbB hR
    go_wp2
    refine bodyPost_ret (v := .tuple #[.agg #[.bool false, .slice none 0 0, .int .i64 0], .int .i64 (pairE A B : Nat)]) (by simp [results, Tryz.results29, go_sem, k0, k1, k2]) rfl ?_
    exact resA_err HR.out (((bq.setCell LE2.out _).setCell LE2.out _).setCell LE2.out _)
end Go.Proofs.YtimfpgpomafflaaGreatDoor
