/- quot: plainPair. -/
import Derived.Test.YtimfpgpomafflaaGreatDoorQuotD
namespace Go.Proofs.YtimfpgpomafflaaGreatDoor
open Go.RowKit LM

/-- what a pair is told as -/
def ResP2 (A B : Ans) (w : World) (r : Ending) (w' : World) : Prop := Below w.heap.size w w' ∧
  ((A.err = 0 ∧ B.err = 0 ∧ ∃ a1 c1 a2 c2, r = .returned (.tuple #[.agg #[.bool A.p.neg, .slice a1 (dg 1000000000 A.p.m).length c1, .int .i64 A.p.e], .agg #[.bool B.p.neg, .slice a2 (dg 1000000000 B.p.m).length c2, .int .i64 B.p.e], .int .i64 0]) ∧
      Rd w' .u32 a1 (dg 1000000000 A.p.m) ∧ Rd w' .u32 a2 (dg 1000000000 B.p.m)) ∨
   (¬ (A.err = 0 ∧ B.err = 0) ∧ r = .returned (.tuple #[.agg #[.bool false, .slice none 0 0, .int .i64 0], .agg #[.bool false, .slice none 0 0, .int .i64 0], .int .i64 (pairE A B : Nat)])))
theorem normA_3 (n : Nat) (s : Bool) (v : Nat) (e : Int) : (normA n s v e).err = 0 ∨ (normA n s v e).err = 1 ∨ (normA n s v e).err = 3 := by
  unfold normA tellA
  split
  · split
    · exact .inl rfl
    · exact .inr (.inr rfl)
  · exact .inr (.inl rfl)
set_option maxHeartbeats 16000000 in
theorem plainPairQ_any (s1 s2 : Bool) (a1 a2 : Option Addr) (c1 c2 : Nat) (l1 l2 : List Nat) (e1 e2 : Int) (w : World) (h1 : l1.length ≤ 9223372036854775807) (h2 : l2.length ≤ 9223372036854775807) (hlo1 : Lo 4294967296 l1) (hlo2 : Lo 4294967296 l2) (hr1 : Rd w .u32 a1 l1) (hr2 : Rd w .u32 a2 l2) (htab : Tab w) :
    Calls Tryz.prog 35 #[.agg #[.bool s1, .slice a1 l1.length c1, .int .i64 e1], .agg #[.bool s2, .slice a2 l2.length c2, .int .i64 e2]] w (ResP2 (normA l1.length s1 (vl 1000000000 l1) e1) (normA l2.length s2 (vl 1000000000 l2) e2) w) := by
  have hN1 := fun W hb => DNorm_any s1 a1 c1 l1 e1 W h1 hlo1 (hr1.below' (w' := W) hb (Nat.le_refl _)) (htab.below hb)
  have hN2 := fun W hb => DNorm_any s2 a2 c2 l2 e2 W h2 hlo2 (hr2.below' (w' := W) hb (Nat.le_refl _)) (htab.below hb)
  have hA3 := normA_3 l1.length s1 (vl 1000000000 l1) e1
  have hB3 := normA_3 l2.length s2 (vl 1000000000 l2) e2
  generalize normA l1.length s1 (vl 1000000000 l1) e1 = A at *
  generalize normA l2.length s2 (vl 1000000000 l2) e2 = B at *
  have HN1 := Lib.hid hN1; have HN2 := Lib.hid hN2; have HA := Lib.hid hA3; have HB := Lib.hid hB3
  clear hN1 hN2 htab hr1 hr2 hlo1 hlo2 hA3 hB3
  go_enter Tryz.func35, Tryz.ntmps35
  have b1 := (((((Below.refl w.heap.size w).alloc (Nat.le_refl _) (.cells #[.bool s1, .slice a1 l1.length c1, .int .i64 e1] 24)).alloc (by simp) (.cells #[.bool s2, .slice a2 l2.length c2, .int .i64 e2] 24)).alloc (by simp; omega) (.cells #[.bool false, .slice none 0 0, .int .i64 0] 24)).alloc (by simp; omega) (.cells #[.bool false, .slice none 0 0, .int .i64 0] 24))
  have X_a := (Qx.below (Qx.below (Qx.below (Qx.new w (.bool s1) (.slice a1 l1.length c1) (.int .i64 e1) 24) ((Below.refl _ _).alloc (Nat.le_refl _) (.cells #[.bool s2, .slice a2 l2.length c2, .int .i64 e2] 24))) ((Below.refl _ _).alloc (Nat.le_refl _) (.cells #[.bool false, .slice none 0 0, .int .i64 0] 24))) ((Below.refl _ _).alloc (Nat.le_refl _) (.cells #[.bool false, .slice none 0 0, .int .i64 0] 24)))
  have F_a := (Qf.below (Qf.below (Qf.below (Qf.new w (.bool s1) (.slice a1 l1.length c1) (.int .i64 e1) 24) (Qx.lt (Qx.new w (.bool s1) (.slice a1 l1.length c1) (.int .i64 e1) 24)) ((Below.refl _ _).alloc (Nat.le_refl _) (.cells #[.bool s2, .slice a2 l2.length c2, .int .i64 e2] 24))) (Qx.lt (Qx.below (Qx.new w (.bool s1) (.slice a1 l1.length c1) (.int .i64 e1) 24) ((Below.refl _ _).alloc (Nat.le_refl _) (.cells #[.bool s2, .slice a2 l2.length c2, .int .i64 e2] 24)))) ((Below.refl _ _).alloc (Nat.le_refl _) (.cells #[.bool false, .slice none 0 0, .int .i64 0] 24))) (Qx.lt (Qx.below (Qx.below (Qx.new w (.bool s1) (.slice a1 l1.length c1) (.int .i64 e1) 24) ((Below.refl _ _).alloc (Nat.le_refl _) (.cells #[.bool s2, .slice a2 l2.length c2, .int .i64 e2] 24))) ((Below.refl _ _).alloc (Nat.le_refl _) (.cells #[.bool false, .slice none 0 0, .int .i64 0] 24)))) ((Below.refl _ _).alloc (Nat.le_refl _) (.cells #[.bool false, .slice none 0 0, .int .i64 0] 24)))
  have X_b := (Qx.below (Qx.below (Qx.new (w.alloc (.cells #[.bool s1, .slice a1 l1.length c1, .int .i64 e1] 24)) (.bool s2) (.slice a2 l2.length c2) (.int .i64 e2) 24) ((Below.refl _ _).alloc (Nat.le_refl _) (.cells #[.bool false, .slice none 0 0, .int .i64 0] 24))) ((Below.refl _ _).alloc (Nat.le_refl _) (.cells #[.bool false, .slice none 0 0, .int .i64 0] 24)))
  have F_b := (Qf.below (Qf.below (Qf.new (w.alloc (.cells #[.bool s1, .slice a1 l1.length c1, .int .i64 e1] 24)) (.bool s2) (.slice a2 l2.length c2) (.int .i64 e2) 24) (Qx.lt (Qx.new (w.alloc (.cells #[.bool s1, .slice a1 l1.length c1, .int .i64 e1] 24)) (.bool s2) (.slice a2 l2.length c2) (.int .i64 e2) 24)) ((Below.refl _ _).alloc (Nat.le_refl _) (.cells #[.bool false, .slice none 0 0, .int .i64 0] 24))) (Qx.lt (Qx.below (Qx.new (w.alloc (.cells #[.bool s1, .slice a1 l1.length c1, .int .i64 e1] 24)) (.bool s2) (.slice a2 l2.length c2) (.int .i64 e2) 24) ((Below.refl _ _).alloc (Nat.le_refl _) (.cells #[.bool false, .slice none 0 0, .int .i64 0] 24)))) ((Below.refl _ _).alloc (Nat.le_refl _) (.cells #[.bool false, .slice none 0 0, .int .i64 0] 24)))
  have z : (w.alloc (.cells #[.bool s1, .slice a1 l1.length c1, .int .i64 e1] 24)).heap.size = w.heap.size + 1 := by simp
  rw [z] at X_b F_b
  clear z
  have X_x := (Qx.below (Qx.new ((w.alloc (.cells #[.bool s1, .slice a1 l1.length c1, .int .i64 e1] 24)).alloc (.cells #[.bool s2, .slice a2 l2.length c2, .int .i64 e2] 24)) (.bool false) (.slice none 0 0) (.int .i64 0) 24) ((Below.refl _ _).alloc (Nat.le_refl _) (.cells #[.bool false, .slice none 0 0, .int .i64 0] 24)))
  have F_x := (Qf.below (Qf.new ((w.alloc (.cells #[.bool s1, .slice a1 l1.length c1, .int .i64 e1] 24)).alloc (.cells #[.bool s2, .slice a2 l2.length c2, .int .i64 e2] 24)) (.bool false) (.slice none 0 0) (.int .i64 0) 24) (Qx.lt (Qx.new ((w.alloc (.cells #[.bool s1, .slice a1 l1.length c1, .int .i64 e1] 24)).alloc (.cells #[.bool s2, .slice a2 l2.length c2, .int .i64 e2] 24)) (.bool false) (.slice none 0 0) (.int .i64 0) 24)) ((Below.refl _ _).alloc (Nat.le_refl _) (.cells #[.bool false, .slice none 0 0, .int .i64 0] 24)))
  have z : ((w.alloc (.cells #[.bool s1, .slice a1 l1.length c1, .int .i64 e1] 24)).alloc (.cells #[.bool s2, .slice a2 l2.length c2, .int .i64 e2] 24)).heap.size = w.heap.size + 1 + 1 := by simp
  rw [z] at X_x F_x
  clear z
  have X_y := (Qx.new (((w.alloc (.cells #[.bool s1, .slice a1 l1.length c1, .int .i64 e1] 24)).alloc (.cells #[.bool s2, .slice a2 l2.length c2, .int .i64 e2] 24)).alloc (.cells #[.bool false, .slice none 0 0, .int .i64 0] 24)) (.bool false) (.slice none 0 0) (.int .i64 0) 24)
  have F_y := (Qf.new (((w.alloc (.cells #[.bool s1, .slice a1 l1.length c1, .int .i64 e1] 24)).alloc (.cells #[.bool s2, .slice a2 l2.length c2, .int .i64 e2] 24)).alloc (.cells #[.bool false, .slice none 0 0, .int .i64 0] 24)) (.bool false) (.slice none 0 0) (.int .i64 0) 24)
  have z : (((w.alloc (.cells #[.bool s1, .slice a1 l1.length c1, .int .i64 e1] 24)).alloc (.cells #[.bool s2, .slice a2 l2.length c2, .int .i64 e2] 24)).alloc (.cells #[.bool false, .slice none 0 0, .int .i64 0] 24)).heap.size = w.heap.size + 1 + 1 + 1 := by simp
  rw [z] at X_y F_y
  clear z
  obtain ⟨ka0, ka1, ka2⟩ := X_a.out
  go_wp2_with fail
  clear ka0 ka1 ka2
  refine (HN1.out _ b1).mono ?_
  rintro r w2 ⟨xp, yp, rfl, ho, hc⟩
  have b2 := b1.trans (hc.mono b1.size)
  replace F_a := Qf.below F_a (Qx.lt X_a) hc
  replace X_a := Qx.below X_a hc
  replace F_b := Qf.below F_b (Qx.lt X_b) hc
  replace X_b := Qx.below X_b hc
  replace F_x := Qf.below F_x (Qx.lt X_x) hc
  replace X_x := Qx.below X_x hc
  replace F_y := Qf.below F_y (Qx.lt X_y) hc
  replace X_y := Qx.below X_y hc
  clear hc b1
  have R_p := Lib.hid ho.rd
  clear ho
  obtain ⟨kx0, kx1, kx2⟩ := X_x.out
  obtain ⟨kb0, kb1, kb2⟩ := X_b.out
  have kf_x := F_x.out
  unfold Qf at kf_x
  go_wp2_with fail
  clear kx0 kx1 kx2 kb0 kb1 kb2
  clear kf_x
  have b4 := Below.box b2 (g := w.heap.size + 1 + 1) (by omega) (.bool A.p.neg) (.slice xp (dg 1000000000 A.p.m).length yp) (.int .i64 A.p.e)
  replace R_p := Lib.hid (Rd.box R_p.out X_x (by decide) (.bool A.p.neg) (.slice xp (dg 1000000000 A.p.m).length yp) (.int .i64 A.p.e))
  replace F_a := Qf.set (g := w.heap.size + 1 + 1) F_a (.bool A.p.neg) (.slice xp (dg 1000000000 A.p.m).length yp) (.int .i64 A.p.e)
  replace F_b := Qf.set (g := w.heap.size + 1 + 1) F_b (.bool A.p.neg) (.slice xp (dg 1000000000 A.p.m).length yp) (.int .i64 A.p.e)
  replace F_x := Qf.set (g := w.heap.size + 1 + 1) F_x (.bool A.p.neg) (.slice xp (dg 1000000000 A.p.m).length yp) (.int .i64 A.p.e)
  replace F_y := Qf.set (g := w.heap.size + 1 + 1) F_y (.bool A.p.neg) (.slice xp (dg 1000000000 A.p.m).length yp) (.int .i64 A.p.e)
  replace X_a := Qx.far (g := w.heap.size + 1 + 1) X_a (by omega) (.bool A.p.neg) (.slice xp (dg 1000000000 A.p.m).length yp) (.int .i64 A.p.e)
  replace X_b := Qx.far (g := w.heap.size + 1 + 1) X_b (by omega) (.bool A.p.neg) (.slice xp (dg 1000000000 A.p.m).length yp) (.int .i64 A.p.e)
  replace X_y := Qx.far (g := w.heap.size + 1 + 1) X_y (by omega) (.bool A.p.neg) (.slice xp (dg 1000000000 A.p.m).length yp) (.int .i64 A.p.e)
  replace X_x := Qx.set X_x (.bool A.p.neg) (.slice xp (dg 1000000000 A.p.m).length yp) (.int .i64 A.p.e)
  clear b2
  refine (HN2.out _ b4).mono ?_
  rintro r w3 ⟨xq, yq, rfl, ho, hc⟩
  have b3 := b4.trans (hc.mono b4.size)
  replace F_a := Qf.below F_a (Qx.lt X_a) hc
  replace X_a := Qx.below X_a hc
  replace F_b := Qf.below F_b (Qx.lt X_b) hc
  replace X_b := Qx.below X_b hc
  replace F_x := Qf.below F_x (Qx.lt X_x) hc
  replace X_x := Qx.below X_x hc
  replace F_y := Qf.below F_y (Qx.lt X_y) hc
  replace X_y := Qx.below X_y hc
  replace R_p := Lib.hid (R_p.out.below hc)
  clear hc b4
  have R_q := Lib.hid ho.rd
  clear ho
  clear X_a F_a
  clear X_b F_b
  by_cases h0 : A.err = 0 ∧ B.err = 0
  · have g1 : ((A.err : Int) == 1) = false := by simp [h0.1]
    have g2 : ((B.err : Int) == 1) = false := by simp [h0.2]
    have g3 : ((A.err : Int) != 0) = false := by simp [h0.1]
    have g4 : ((B.err : Int) != 0) = false := by simp [h0.2]
    have HZ := Lib.hid h0
    clear h0 HA HB
    obtain ⟨ky0, ky1, ky2⟩ := X_y.out
    have kf_y := F_y.out
    unfold Qf at kf_y
    go_wp2
    clear ky0 ky1 ky2
    clear kf_y
    have b5 := Below.box b3 (g := w.heap.size + 1 + 1 + 1) (by omega) (.bool B.p.neg) (.slice xq (dg 1000000000 B.p.m).length yq) (.int .i64 B.p.e)
    replace R_p := Lib.hid (Rd.box R_p.out X_y (by decide) (.bool B.p.neg) (.slice xq (dg 1000000000 B.p.m).length yq) (.int .i64 B.p.e))
    replace R_q := Lib.hid (Rd.box R_q.out X_y (by decide) (.bool B.p.neg) (.slice xq (dg 1000000000 B.p.m).length yq) (.int .i64 B.p.e))
    replace F_x := Qf.set (g := w.heap.size + 1 + 1 + 1) F_x (.bool B.p.neg) (.slice xq (dg 1000000000 B.p.m).length yq) (.int .i64 B.p.e)
    replace F_y := Qf.set (g := w.heap.size + 1 + 1 + 1) F_y (.bool B.p.neg) (.slice xq (dg 1000000000 B.p.m).length yq) (.int .i64 B.p.e)
    replace X_x := Qx.far (g := w.heap.size + 1 + 1 + 1) X_x (by omega) (.bool B.p.neg) (.slice xq (dg 1000000000 B.p.m).length yq) (.int .i64 B.p.e)
    replace X_y := Qx.set X_y (.bool B.p.neg) (.slice xq (dg 1000000000 B.p.m).length yq) (.int .i64 B.p.e)
    clear b3
    generalize (((w3.setCell ⟨w.heap.size + 1 + 1 + 1, 0, none⟩ (.bool B.p.neg)).setCell ⟨w.heap.size + 1 + 1 + 1, 1, none⟩ (.slice xq (dg 1000000000 B.p.m).length yq)).setCell ⟨w.heap.size + 1 + 1 + 1, 2, none⟩ (.int .i64 B.p.e)) = w6 at *
    obtain ⟨kx0, kx1, kx2⟩ := X_x.out
    obtain ⟨ky0, ky1, ky2⟩ := X_y.out
    have kf_x := F_x.out
    unfold Qf at kf_x
    have kf_y := F_y.out
    unfold Qf at kf_y
    go_region
    clear kx0 kx1 kx2 ky0 ky1 ky2
    clear kf_x kf_y
    obtain ⟨kx0, kx1, kx2⟩ := X_x.out
    obtain ⟨ky0, ky1, ky2⟩ := X_y.out
    have kf_x := F_x.out
    unfold Qf at kf_x
    have kf_y := F_y.out
    unfold Qf at kf_y
    go_wp2
    refine bodyPost_ret (v := .tuple #[.agg #[.bool A.p.neg, .slice xp (dg 1000000000 A.p.m).length yp, .int .i64 A.p.e], .agg #[.bool B.p.neg, .slice xq (dg 1000000000 B.p.m).length yq, .int .i64 B.p.e], .int .i64 0]) (by simp [results, Tryz.results35, go_sem, kx0, kx1, kx2, ky0, ky1, ky2]) rfl ?_
    refine ⟨(Below.box (Below.box b5 (g := w.heap.size + 1 + 1) (by omega) _ _ _) (g := w.heap.size + 1 + 1 + 1) (by omega) _ _ _).drew, .inl ⟨HZ.out.1, HZ.out.2, xp, yp, xq, yq, rfl, ?_, ?_⟩⟩
    · exact Rd.drewn (Rd.box (Rd.box R_p.out X_x (by decide) _ _ _) (Qx.far (g := w.heap.size + 1 + 1) X_y (by omega) _ _ _) (by decide) _ _ _)
    · exact Rd.drewn (Rd.box (Rd.box R_q.out X_x (by decide) _ _ _) (Qx.far (g := w.heap.size + 1 + 1) X_y (by omega) _ _ _) (by decide) _ _ _)
  · have HZ := Lib.hid h0
    rcases HA.out with qa | qa | qa <;> rcases HB.out with qb | qb | qb
    · exact absurd ⟨qa, qb⟩ h0
    · have g1 : ((A.err : Int) == 1) = false := by simp [qa]
      have g2 : ((B.err : Int) == 1) = true := by simp [qb]
      have g3 : ((A.err : Int) != 0) = false := by simp [qa]
      have g4 : ((B.err : Int) != 0) = true := by simp [qb]
      have HPE := Lib.hid (show pairE A B = 1 by unfold pairE; simp [qa, qb])
      clear h0 qa qb HA HB
      have ZX := Qx.far (g := w.heap.size + 1 + 1 + 1) (Qx.set (Qx.far (g := w.heap.size + 1 + 1 + 1) X_x (by omega) (.bool B.p.neg) (.slice xq (dg 1000000000 B.p.m).length yq) (.int .i64 B.p.e)) (.bool false) (.slice none 0 0) (.int .i64 0)) (by omega) (.bool false) (.slice none 0 0) (.int .i64 0)
      have ZY := Qx.set (Qx.far (g := w.heap.size + 1 + 1) (Qx.set X_y (.bool B.p.neg) (.slice xq (dg 1000000000 B.p.m).length yq) (.int .i64 B.p.e)) (by omega) (.bool false) (.slice none 0 0) (.int .i64 0)) (.bool false) (.slice none 0 0) (.int .i64 0)
      obtain ⟨zx0, zx1, zx2⟩ := ZX.out
      obtain ⟨zy0, zy1, zy2⟩ := ZY.out
      clear ZX ZY
      obtain ⟨kx0, kx1, kx2⟩ := X_x.out
      obtain ⟨ky0, ky1, ky2⟩ := X_y.out
      have kf_x := F_x.out
      unfold Qf at kf_x
      have kf_y := F_y.out
      unfold Qf at kf_y
      go_wp2
      refine bodyPost_ret (v := .tuple #[.agg #[.bool false, .slice none 0 0, .int .i64 0], .agg #[.bool false, .slice none 0 0, .int .i64 0], .int .i64 1]) (by simp [results, Tryz.results35, go_sem, kx0, kx1, kx2, ky0, ky1, ky2, zx0, zx1, zx2, zy0, zy1, zy2]) rfl ?_
      exact ⟨Below.box (Below.box (Below.box b3 (g := w.heap.size + 1 + 1 + 1) (by omega) _ _ _) (g := w.heap.size + 1 + 1) (by omega) _ _ _) (g := w.heap.size + 1 + 1 + 1) (by omega) _ _ _, .inr ⟨HZ.out, by rw [HPE.out]; rfl⟩⟩
    · have g1 : ((A.err : Int) == 1) = false := by simp [qa]
      have g2 : ((B.err : Int) == 1) = false := by simp [qb]
      have g3 : ((A.err : Int) != 0) = false := by simp [qa]
      have g4 : ((B.err : Int) != 0) = true := by simp [qb]
      have HPE := Lib.hid (show pairE A B = 3 by unfold pairE; simp [qa, qb])
      clear h0 qa qb HA HB
      have ZX := Qx.far (g := w.heap.size + 1 + 1 + 1) (Qx.set (Qx.far (g := w.heap.size + 1 + 1 + 1) X_x (by omega) (.bool B.p.neg) (.slice xq (dg 1000000000 B.p.m).length yq) (.int .i64 B.p.e)) (.bool false) (.slice none 0 0) (.int .i64 0)) (by omega) (.bool false) (.slice none 0 0) (.int .i64 0)
      have ZY := Qx.set (Qx.far (g := w.heap.size + 1 + 1) (Qx.set X_y (.bool B.p.neg) (.slice xq (dg 1000000000 B.p.m).length yq) (.int .i64 B.p.e)) (by omega) (.bool false) (.slice none 0 0) (.int .i64 0)) (.bool false) (.slice none 0 0) (.int .i64 0)
      obtain ⟨zx0, zx1, zx2⟩ := ZX.out
      obtain ⟨zy0, zy1, zy2⟩ := ZY.out
      clear ZX ZY
      obtain ⟨kx0, kx1, kx2⟩ := X_x.out
      obtain ⟨ky0, ky1, ky2⟩ := X_y.out
      have kf_x := F_x.out
      unfold Qf at kf_x
      have kf_y := F_y.out
      unfold Qf at kf_y
      go_wp2
      refine bodyPost_ret (v := .tuple #[.agg #[.bool false, .slice none 0 0, .int .i64 0], .agg #[.bool false, .slice none 0 0, .int .i64 0], .int .i64 3]) (by simp [results, Tryz.results35, go_sem, kx0, kx1, kx2, ky0, ky1, ky2, zx0, zx1, zx2, zy0, zy1, zy2]) rfl ?_
      exact ⟨Below.box (Below.box (Below.box b3 (g := w.heap.size + 1 + 1 + 1) (by omega) _ _ _) (g := w.heap.size + 1 + 1) (by omega) _ _ _) (g := w.heap.size + 1 + 1 + 1) (by omega) _ _ _, .inr ⟨HZ.out, by rw [HPE.out]; rfl⟩⟩
    · have g1 : ((A.err : Int) == 1) = true := by simp [qa]
      have g2 : ((B.err : Int) == 1) = false := by simp [qb]
      have g3 : ((A.err : Int) != 0) = true := by simp [qa]
      have g4 : ((B.err : Int) != 0) = false := by simp [qb]
      have HPE := Lib.hid (show pairE A B = 1 by unfold pairE; simp [qa, qb])
      clear h0 qa qb HA HB
      have ZX := Qx.far (g := w.heap.size + 1 + 1 + 1) (Qx.set (Qx.far (g := w.heap.size + 1 + 1 + 1) X_x (by omega) (.bool B.p.neg) (.slice xq (dg 1000000000 B.p.m).length yq) (.int .i64 B.p.e)) (.bool false) (.slice none 0 0) (.int .i64 0)) (by omega) (.bool false) (.slice none 0 0) (.int .i64 0)
      have ZY := Qx.set (Qx.far (g := w.heap.size + 1 + 1) (Qx.set X_y (.bool B.p.neg) (.slice xq (dg 1000000000 B.p.m).length yq) (.int .i64 B.p.e)) (by omega) (.bool false) (.slice none 0 0) (.int .i64 0)) (.bool false) (.slice none 0 0) (.int .i64 0)
      obtain ⟨zx0, zx1, zx2⟩ := ZX.out
      obtain ⟨zy0, zy1, zy2⟩ := ZY.out
      clear ZX ZY
      obtain ⟨kx0, kx1, kx2⟩ := X_x.out
      obtain ⟨ky0, ky1, ky2⟩ := X_y.out
      have kf_x := F_x.out
      unfold Qf at kf_x
      have kf_y := F_y.out
      unfold Qf at kf_y
      go_wp2
      refine bodyPost_ret (v := .tuple #[.agg #[.bool false, .slice none 0 0, .int .i64 0], .agg #[.bool false, .slice none 0 0, .int .i64 0], .int .i64 1]) (by simp [results, Tryz.results35, go_sem, kx0, kx1, kx2, ky0, ky1, ky2, zx0, zx1, zx2, zy0, zy1, zy2]) rfl ?_
      exact ⟨Below.box (Below.box (Below.box b3 (g := w.heap.size + 1 + 1 + 1) (by omega) _ _ _) (g := w.heap.size + 1 + 1) (by omega) _ _ _) (g := w.heap.size + 1 + 1 + 1) (by omega) _ _ _, .inr ⟨HZ.out, by rw [HPE.out]; rfl⟩⟩
    · have g1 : ((A.err : Int) == 1) = true := by simp [qa]
      have g2 : ((B.err : Int) == 1) = true := by simp [qb]
      have g3 : ((A.err : Int) != 0) = true := by simp [qa]
      have g4 : ((B.err : Int) != 0) = true := by simp [qb]
      have HPE := Lib.hid (show pairE A B = 1 by unfold pairE; simp [qa, qb])
      clear h0 qa qb HA HB
      have ZX := Qx.far (g := w.heap.size + 1 + 1 + 1) (Qx.set (Qx.far (g := w.heap.size + 1 + 1 + 1) X_x (by omega) (.bool B.p.neg) (.slice xq (dg 1000000000 B.p.m).length yq) (.int .i64 B.p.e)) (.bool false) (.slice none 0 0) (.int .i64 0)) (by omega) (.bool false) (.slice none 0 0) (.int .i64 0)
      have ZY := Qx.set (Qx.far (g := w.heap.size + 1 + 1) (Qx.set X_y (.bool B.p.neg) (.slice xq (dg 1000000000 B.p.m).length yq) (.int .i64 B.p.e)) (by omega) (.bool false) (.slice none 0 0) (.int .i64 0)) (.bool false) (.slice none 0 0) (.int .i64 0)
      obtain ⟨zx0, zx1, zx2⟩ := ZX.out
      obtain ⟨zy0, zy1, zy2⟩ := ZY.out
      clear ZX ZY
      obtain ⟨kx0, kx1, kx2⟩ := X_x.out
      obtain ⟨ky0, ky1, ky2⟩ := X_y.out
      have kf_x := F_x.out
      unfold Qf at kf_x
      have kf_y := F_y.out
      unfold Qf at kf_y
      go_wp2
      refine bodyPost_ret (v := .tuple #[.agg #[.bool false, .slice none 0 0, .int .i64 0], .agg #[.bool false, .slice none 0 0, .int .i64 0], .int .i64 1]) (by simp [results, Tryz.results35, go_sem, kx0, kx1, kx2, ky0, ky1, ky2, zx0, zx1, zx2, zy0, zy1, zy2]) rfl ?_
      exact ⟨Below.box (Below.box (Below.box b3 (g := w.heap.size + 1 + 1 + 1) (by omega) _ _ _) (g := w.heap.size + 1 + 1) (by omega) _ _ _) (g := w.heap.size + 1 + 1 + 1) (by omega) _ _ _, .inr ⟨HZ.out, by rw [HPE.out]; rfl⟩⟩
    · have g1 : ((A.err : Int) == 1) = true := by simp [qa]
      have g2 : ((B.err : Int) == 1) = false := by simp [qb]
      have g3 : ((A.err : Int) != 0) = true := by simp [qa]
      have g4 : ((B.err : Int) != 0) = true := by simp [qb]
      have HPE := Lib.hid (show pairE A B = 1 by unfold pairE; simp [qa, qb])
      clear h0 qa qb HA HB
      have ZX := Qx.far (g := w.heap.size + 1 + 1 + 1) (Qx.set (Qx.far (g := w.heap.size + 1 + 1 + 1) X_x (by omega) (.bool B.p.neg) (.slice xq (dg 1000000000 B.p.m).length yq) (.int .i64 B.p.e)) (.bool false) (.slice none 0 0) (.int .i64 0)) (by omega) (.bool false) (.slice none 0 0) (.int .i64 0)
      have ZY := Qx.set (Qx.far (g := w.heap.size + 1 + 1) (Qx.set X_y (.bool B.p.neg) (.slice xq (dg 1000000000 B.p.m).length yq) (.int .i64 B.p.e)) (by omega) (.bool false) (.slice none 0 0) (.int .i64 0)) (.bool false) (.slice none 0 0) (.int .i64 0)
      obtain ⟨zx0, zx1, zx2⟩ := ZX.out
      obtain ⟨zy0, zy1, zy2⟩ := ZY.out
      clear ZX ZY
      obtain ⟨kx0, kx1, kx2⟩ := X_x.out
      obtain ⟨ky0, ky1, ky2⟩ := X_y.out
      have kf_x := F_x.out
      unfold Qf at kf_x
      have kf_y := F_y.out
      unfold Qf at kf_y
      go_wp2
      refine bodyPost_ret (v := .tuple #[.agg #[.bool false, .slice none 0 0, .int .i64 0], .agg #[.bool false, .slice none 0 0, .int .i64 0], .int .i64 1]) (by simp [results, Tryz.results35, go_sem, kx0, kx1, kx2, ky0, ky1, ky2, zx0, zx1, zx2, zy0, zy1, zy2]) rfl ?_
      exact ⟨Below.box (Below.box (Below.box b3 (g := w.heap.size + 1 + 1 + 1) (by omega) _ _ _) (g := w.heap.size + 1 + 1) (by omega) _ _ _) (g := w.heap.size + 1 + 1 + 1) (by omega) _ _ _, .inr ⟨HZ.out, by rw [HPE.out]; rfl⟩⟩
    · have g1 : ((A.err : Int) == 1) = false := by simp [qa]
      have g2 : ((B.err : Int) == 1) = false := by simp [qb]
      have g3 : ((A.err : Int) != 0) = true := by simp [qa]
      have g4 : ((B.err : Int) != 0) = false := by simp [qb]
      have HPE := Lib.hid (show pairE A B = 3 by unfold pairE; simp [qa, qb])
      clear h0 qa qb HA HB
      have ZX := Qx.far (g := w.heap.size + 1 + 1 + 1) (Qx.set (Qx.far (g := w.heap.size + 1 + 1 + 1) X_x (by omega) (.bool B.p.neg) (.slice xq (dg 1000000000 B.p.m).length yq) (.int .i64 B.p.e)) (.bool false) (.slice none 0 0) (.int .i64 0)) (by omega) (.bool false) (.slice none 0 0) (.int .i64 0)
      have ZY := Qx.set (Qx.far (g := w.heap.size + 1 + 1) (Qx.set X_y (.bool B.p.neg) (.slice xq (dg 1000000000 B.p.m).length yq) (.int .i64 B.p.e)) (by omega) (.bool false) (.slice none 0 0) (.int .i64 0)) (.bool false) (.slice none 0 0) (.int .i64 0)
      obtain ⟨zx0, zx1, zx2⟩ := ZX.out
      obtain ⟨zy0, zy1, zy2⟩ := ZY.out
      clear ZX ZY
      obtain ⟨kx0, kx1, kx2⟩ := X_x.out
      obtain ⟨ky0, ky1, ky2⟩ := X_y.out
      have kf_x := F_x.out
      unfold Qf at kf_x
      have kf_y := F_y.out
      unfold Qf at kf_y
      go_wp2
      refine bodyPost_ret (v := .tuple #[.agg #[.bool false, .slice none 0 0, .int .i64 0], .agg #[.bool false, .slice none 0 0, .int .i64 0], .int .i64 3]) (by simp [results, Tryz.results35, go_sem, kx0, kx1, kx2, ky0, ky1, ky2, zx0, zx1, zx2, zy0, zy1, zy2]) rfl ?_
      exact ⟨Below.box (Below.box (Below.box b3 (g := w.heap.size + 1 + 1 + 1) (by omega) _ _ _) (g := w.heap.size + 1 + 1) (by omega) _ _ _) (g := w.heap.size + 1 + 1 + 1) (by omega) _ _ _, .inr ⟨HZ.out, by rw [HPE.out]; rfl⟩⟩
    · have g1 : ((A.err : Int) == 1) = false := by simp [qa]
      have g2 : ((B.err : Int) == 1) = true := by simp [qb]
      have g3 : ((A.err : Int) != 0) = true := by simp [qa]
      have g4 : ((B.err : Int) != 0) = true := by simp [qb]
      have HPE := Lib.hid (show pairE A B = 1 by unfold pairE; simp [qa, qb])
      clear h0 qa qb HA HB
      have ZX := Qx.far (g := w.heap.size + 1 + 1 + 1) (Qx.set (Qx.far (g := w.heap.size + 1 + 1 + 1) X_x (by omega) (.bool B.p.neg) (.slice xq (dg 1000000000 B.p.m).length yq) (.int .i64 B.p.e)) (.bool false) (.slice none 0 0) (.int .i64 0)) (by omega) (.bool false) (.slice none 0 0) (.int .i64 0)
      have ZY := Qx.set (Qx.far (g := w.heap.size + 1 + 1) (Qx.set X_y (.bool B.p.neg) (.slice xq (dg 1000000000 B.p.m).length yq) (.int .i64 B.p.e)) (by omega) (.bool false) (.slice none 0 0) (.int .i64 0)) (.bool false) (.slice none 0 0) (.int .i64 0)
      obtain ⟨zx0, zx1, zx2⟩ := ZX.out
      obtain ⟨zy0, zy1, zy2⟩ := ZY.out
      clear ZX ZY
      obtain ⟨kx0, kx1, kx2⟩ := X_x.out
      obtain ⟨ky0, ky1, ky2⟩ := X_y.out
      have kf_x := F_x.out
      unfold Qf at kf_x
      have kf_y := F_y.out
      unfold Qf at kf_y
      go_wp2
      refine bodyPost_ret (v := .tuple #[.agg #[.bool false, .slice none 0 0, .int .i64 0], .agg #[.bool false, .slice none 0 0, .int .i64 0], .int .i64 1]) (by simp [results, Tryz.results35, go_sem, kx0, kx1, kx2, ky0, ky1, ky2, zx0, zx1, zx2, zy0, zy1, zy2]) rfl ?_
      exact ⟨Below.box (Below.box (Below.box b3 (g := w.heap.size + 1 + 1 + 1) (by omega) _ _ _) (g := w.heap.size + 1 + 1) (by omega) _ _ _) (g := w.heap.size + 1 + 1 + 1) (by omega) _ _ _, .inr ⟨HZ.out, by rw [HPE.out]; rfl⟩⟩
    · have g1 : ((A.err : Int) == 1) = false := by simp [qa]
      have g2 : ((B.err : Int) == 1) = false := by simp [qb]
      have g3 : ((A.err : Int) != 0) = true := by simp [qa]
      have g4 : ((B.err : Int) != 0) = true := by simp [qb]
      have HPE := Lib.hid (show pairE A B = 3 by unfold pairE; simp [qa, qb])
      clear h0 qa qb HA HB
      have ZX := Qx.far (g := w.heap.size + 1 + 1 + 1) (Qx.set (Qx.far (g := w.heap.size + 1 + 1 + 1) X_x (by omega) (.bool B.p.neg) (.slice xq (dg 1000000000 B.p.m).length yq) (.int .i64 B.p.e)) (.bool false) (.slice none 0 0) (.int .i64 0)) (by omega) (.bool false) (.slice none 0 0) (.int .i64 0)
      have ZY := Qx.set (Qx.far (g := w.heap.size + 1 + 1) (Qx.set X_y (.bool B.p.neg) (.slice xq (dg 1000000000 B.p.m).length yq) (.int .i64 B.p.e)) (by omega) (.bool false) (.slice none 0 0) (.int .i64 0)) (.bool false) (.slice none 0 0) (.int .i64 0)
      obtain ⟨zx0, zx1, zx2⟩ := ZX.out
      obtain ⟨zy0, zy1, zy2⟩ := ZY.out
      clear ZX ZY
      obtain ⟨kx0, kx1, kx2⟩ := X_x.out
      obtain ⟨ky0, ky1, ky2⟩ := X_y.out
      have kf_x := F_x.out
      unfold Qf at kf_x
      have kf_y := F_y.out
      unfold Qf at kf_y
      go_wp2
      refine bodyPost_ret (v := .tuple #[.agg #[.bool false, .slice none 0 0, .int .i64 0], .agg #[.bool false, .slice none 0 0, .int .i64 0], .int .i64 3]) (by simp [results, Tryz.results35, go_sem, kx0, kx1, kx2, ky0, ky1, ky2, zx0, zx1, zx2, zy0, zy1, zy2]) rfl ?_
      exact ⟨Below.box (Below.box (Below.box b3 (g := w.heap.size + 1 + 1 + 1) (by omega) _ _ _) (g := w.heap.size + 1 + 1) (by omega) _ _ _) (g := w.heap.size + 1 + 1 + 1) (by omega) _ _ _, .inr ⟨HZ.out, by rw [HPE.out]; rfl⟩⟩
end Go.Proofs.YtimfpgpomafflaaGreatDoor
