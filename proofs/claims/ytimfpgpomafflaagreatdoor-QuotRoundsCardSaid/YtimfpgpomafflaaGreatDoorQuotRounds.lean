/- Walk of the law QuotRounds. -/
import Derived.Test.YtimfpgpomafflaaGreatDoorQuotR
import Derived.Test.YtimfpgpomafflaaGreatDoorQuotT
namespace Go.Proofs.YtimfpgpomafflaaGreatDoor
open Go.RowKit LM

theorem toWA_in (way n : Nat) (s : Bool) (v : Nat) (e : Int) : inR (toWA way (normA n s v e)).p = true := by
  unfold toWA
  split
  · exact cutP_in (normA_in _ _ _ _)
  · exact zP_in
set_option maxHeartbeats 16000000 in
set_option maxRecDepth 20000 in
theorem rounds_main (s1 : Bool) (a1 : Option Addr) (c1 : Nat) (l1 : List Nat) (e1 : Int) (w : World) (h1 : l1.length ≤ 9223372036854775807) (hlo1 : Lo 4294967296 l1) (hr1 : Rd w .u32 a1 l1) (htab : Tab w)  :
    Calls Tryz.prog 5 #[.agg #[.bool s1, .slice a1 l1.length c1, .int .i64 e1]] w fun r w' => r = .returned (.bool true) ∧ Below w.heap.size w w' := by
  have hS := fun W (hb : Below w.heap.size w W) => shown_any W (htab.below hb)
  have hTr := fun W (hb : Below w.heap.size w W) => Trunc_any s1 a1 c1 l1 e1 W h1 hlo1 (hr1.below' (w' := W) hb (Nat.le_refl _)) (htab.below hb)
  have hFl := fun W (hb : Below w.heap.size w W) => Floor_any s1 a1 c1 l1 e1 W h1 hlo1 (hr1.below' (w' := W) hb (Nat.le_refl _)) (htab.below hb)
  have hCe := fun W (hb : Below w.heap.size w W) => Ceil_any s1 a1 c1 l1 e1 W h1 hlo1 (hr1.below' (w' := W) hb (Nat.le_refl _)) (htab.below hb)
  have hRo := fun W (hb : Below w.heap.size w W) => Round_any s1 a1 c1 l1 e1 W h1 hlo1 (hr1.below' (w' := W) hb (Nat.le_refl _)) (htab.below hb)
  have hAb := fun W (hb : Below w.heap.size w W) => Abs_any s1 a1 c1 l1 e1 W h1 hlo1 (hr1.below' (w' := W) hb (Nat.le_refl _)) (htab.below hb)
  have r0 := fun W (hb : Below w.heap.size w W) => RRound_any 0 (by omega) s1 a1 c1 l1 e1 W h1 hlo1 (hr1.below' (w' := W) hb (Nat.le_refl _))
  have r1 := fun W (hb : Below w.heap.size w W) => RRound_any 1 (by omega) s1 a1 c1 l1 e1 W h1 hlo1 (hr1.below' (w' := W) hb (Nat.le_refl _))
  have r2 := fun W (hb : Below w.heap.size w W) => RRound_any 2 (by omega) s1 a1 c1 l1 e1 W h1 hlo1 (hr1.below' (w' := W) hb (Nat.le_refl _))
  have r3 := fun W (hb : Below w.heap.size w W) => RRound_any 3 (by omega) s1 a1 c1 l1 e1 W h1 hlo1 (hr1.below' (w' := W) hb (Nat.le_refl _))
  have r4 := fun W (hb : Below w.heap.size w W) => RAbs_any s1 a1 c1 l1 e1 W h1 hlo1 (hr1.below' (w' := W) hb (Nat.le_refl _))
  have i0 := toWA_in 0 l1.length s1 (vl 1000000000 l1) e1
  have i1 := toWA_in 1 l1.length s1 (vl 1000000000 l1) e1
  have i2 := toWA_in 2 l1.length s1 (vl 1000000000 l1) e1
  have i3 := toWA_in 3 l1.length s1 (vl 1000000000 l1) e1
  have i4 := normA_in l1.length false (vl 1000000000 l1) e1
  generalize toWA 0 (normA l1.length s1 (vl 1000000000 l1) e1) = R0 at *
  generalize toWA 1 (normA l1.length s1 (vl 1000000000 l1) e1) = R1 at *
  generalize toWA 2 (normA l1.length s1 (vl 1000000000 l1) e1) = R2 at *
  generalize toWA 3 (normA l1.length s1 (vl 1000000000 l1) e1) = R3 at *
  generalize normA l1.length false (vl 1000000000 l1) e1 = R4 at *
  have s10 := fun x y c d W q1 q2 => cSamePP i0 i0 x y c d W q1 q2
  rw [decide_eq_true rfl] at s10
  have s11 := fun x y c d W q1 q2 => cSamePP i1 i1 x y c d W q1 q2
  rw [decide_eq_true rfl] at s11
  have s12 := fun x y c d W q1 q2 => cSamePP i2 i2 x y c d W q1 q2
  rw [decide_eq_true rfl] at s12
  have s13 := fun x y c d W q1 q2 => cSamePP i3 i3 x y c d W q1 q2
  rw [decide_eq_true rfl] at s13
  have s14 := fun x y c d W q1 q2 => cSamePP i4 i4 x y c d W q1 q2
  rw [decide_eq_true rfl] at s14
  have HS := Lib.hid hS; have HTr := Lib.hid hTr; have HFl := Lib.hid hFl; have HCe := Lib.hid hCe; have HRo := Lib.hid hRo; have HAb := Lib.hid hAb; have HR0 := Lib.hid r0; have HQ0 := Lib.hid s10; have HR1 := Lib.hid r1; have HQ1 := Lib.hid s11; have HR2 := Lib.hid r2; have HQ2 := Lib.hid s12; have HR3 := Lib.hid r3; have HQ3 := Lib.hid s13; have HR4 := Lib.hid r4; have HQ4 := Lib.hid s14
  clear hS hTr hFl hCe hRo hAb r0 r1 r2 r3 r4 i0 i1 i2 i3 i4 s10 s11 s12 s13 s14 htab hr1 hlo1
  go_enter Tryz.func5, Tryz.ntmps5
  have b1 := ((Below.refl w.heap.size w).alloc (Nat.le_refl _) (.cells #[.bool s1, .slice a1 l1.length c1, .int .i64 e1] 24))
  have X_d := (Qx.new w (.bool s1) (.slice a1 l1.length c1) (.int .i64 e1) 24)
  have F_d := (Qf.new w (.bool s1) (.slice a1 l1.length c1) (.int .i64 e1) 24)
  clear F_d
  go_wp2_with fail
  refine (HS.out _ b1).mono ?_
  rintro r w2 ⟨rfl, hc⟩
  have b2 := b1.trans (hc.mono b1.size)
  replace X_d := Qx.below X_d hc
  clear hc b1
  obtain ⟨kd0, kd1, kd2⟩ := X_d.out
  go_wp2_with fail
  clear kd0 kd1 kd2
  refine (HTr.out _ b2).mono ?_
  rintro r w3 ⟨xp0, yp0, rfl, ho, hc⟩
  have b3 := b2.trans (hc.mono b2.size)
  replace X_d := Qx.below X_d hc
  clear hc b2
  have R_p0 := Lib.hid ho
  clear ho
  have z_p0 := b3.size
  have hd := (Below.refl w3.heap.size w3).alloc (Nat.le_refl _) (.cells #[.bool R0.p.neg, .slice xp0 (dg 1000000000 R0.p.m).length yp0, .int .i64 R0.p.e] 24)
  have b4 := b3.trans (hd.mono b3.size)
  replace X_d := Qx.below X_d hd
  replace R_p0 := Lib.hid (R_p0.out.below hd)
  have X_p0 := Qx.new w3 (.bool R0.p.neg) (.slice xp0 (dg 1000000000 R0.p.m).length yp0) (.int .i64 R0.p.e) 24
  have F_p0 := Qf.new w3 (.bool R0.p.neg) (.slice xp0 (dg 1000000000 R0.p.m).length yp0) (.int .i64 R0.p.e) 24
  clear hd b3
  clear F_p0
  obtain ⟨kd0, kd1, kd2⟩ := X_d.out
  go_wp2_with fail
  clear kd0 kd1 kd2
  refine (HFl.out _ b4).mono ?_
  rintro r w5 ⟨xp1, yp1, rfl, ho, hc⟩
  have b5 := b4.trans (hc.mono b4.size)
  replace X_d := Qx.below X_d hc
  replace X_p0 := Qx.below X_p0 hc
  replace R_p0 := Lib.hid (R_p0.out.below hc)
  clear hc b4
  have R_p1 := Lib.hid ho
  clear ho
  have z_p1 := b5.size
  have hd := (Below.refl w5.heap.size w5).alloc (Nat.le_refl _) (.cells #[.bool R1.p.neg, .slice xp1 (dg 1000000000 R1.p.m).length yp1, .int .i64 R1.p.e] 24)
  have b6 := b5.trans (hd.mono b5.size)
  replace X_d := Qx.below X_d hd
  replace X_p0 := Qx.below X_p0 hd
  replace R_p0 := Lib.hid (R_p0.out.below hd)
  replace R_p1 := Lib.hid (R_p1.out.below hd)
  have X_p1 := Qx.new w5 (.bool R1.p.neg) (.slice xp1 (dg 1000000000 R1.p.m).length yp1) (.int .i64 R1.p.e) 24
  have F_p1 := Qf.new w5 (.bool R1.p.neg) (.slice xp1 (dg 1000000000 R1.p.m).length yp1) (.int .i64 R1.p.e) 24
  clear hd b5
  clear F_p1
  obtain ⟨kd0, kd1, kd2⟩ := X_d.out
  go_wp2_with fail
  clear kd0 kd1 kd2
  refine (HCe.out _ b6).mono ?_
  rintro r w7 ⟨xp2, yp2, rfl, ho, hc⟩
  have b7 := b6.trans (hc.mono b6.size)
  replace X_d := Qx.below X_d hc
  replace X_p0 := Qx.below X_p0 hc
  replace X_p1 := Qx.below X_p1 hc
  replace R_p0 := Lib.hid (R_p0.out.below hc)
  replace R_p1 := Lib.hid (R_p1.out.below hc)
  clear hc b6
  have R_p2 := Lib.hid ho
  clear ho
  have z_p2 := b7.size
  have hd := (Below.refl w7.heap.size w7).alloc (Nat.le_refl _) (.cells #[.bool R2.p.neg, .slice xp2 (dg 1000000000 R2.p.m).length yp2, .int .i64 R2.p.e] 24)
  have b8 := b7.trans (hd.mono b7.size)
  replace X_d := Qx.below X_d hd
  replace X_p0 := Qx.below X_p0 hd
  replace X_p1 := Qx.below X_p1 hd
  replace R_p0 := Lib.hid (R_p0.out.below hd)
  replace R_p1 := Lib.hid (R_p1.out.below hd)
  replace R_p2 := Lib.hid (R_p2.out.below hd)
  have X_p2 := Qx.new w7 (.bool R2.p.neg) (.slice xp2 (dg 1000000000 R2.p.m).length yp2) (.int .i64 R2.p.e) 24
  have F_p2 := Qf.new w7 (.bool R2.p.neg) (.slice xp2 (dg 1000000000 R2.p.m).length yp2) (.int .i64 R2.p.e) 24
  clear hd b7
  clear F_p2
  obtain ⟨kd0, kd1, kd2⟩ := X_d.out
  go_wp2_with fail
  clear kd0 kd1 kd2
  refine (HRo.out _ b8).mono ?_
  rintro r w9 ⟨xp3, yp3, rfl, ho, hc⟩
  have b9 := b8.trans (hc.mono b8.size)
  replace X_d := Qx.below X_d hc
  replace X_p0 := Qx.below X_p0 hc
  replace X_p1 := Qx.below X_p1 hc
  replace X_p2 := Qx.below X_p2 hc
  replace R_p0 := Lib.hid (R_p0.out.below hc)
  replace R_p1 := Lib.hid (R_p1.out.below hc)
  replace R_p2 := Lib.hid (R_p2.out.below hc)
  clear hc b8
  have R_p3 := Lib.hid ho
  clear ho
  have z_p3 := b9.size
  have hd := (Below.refl w9.heap.size w9).alloc (Nat.le_refl _) (.cells #[.bool R3.p.neg, .slice xp3 (dg 1000000000 R3.p.m).length yp3, .int .i64 R3.p.e] 24)
  have b10 := b9.trans (hd.mono b9.size)
  replace X_d := Qx.below X_d hd
  replace X_p0 := Qx.below X_p0 hd
  replace X_p1 := Qx.below X_p1 hd
  replace X_p2 := Qx.below X_p2 hd
  replace R_p0 := Lib.hid (R_p0.out.below hd)
  replace R_p1 := Lib.hid (R_p1.out.below hd)
  replace R_p2 := Lib.hid (R_p2.out.below hd)
  replace R_p3 := Lib.hid (R_p3.out.below hd)
  have X_p3 := Qx.new w9 (.bool R3.p.neg) (.slice xp3 (dg 1000000000 R3.p.m).length yp3) (.int .i64 R3.p.e) 24
  have F_p3 := Qf.new w9 (.bool R3.p.neg) (.slice xp3 (dg 1000000000 R3.p.m).length yp3) (.int .i64 R3.p.e) 24
  clear hd b9
  clear F_p3
  obtain ⟨kd0, kd1, kd2⟩ := X_d.out
  go_wp2_with fail
  clear kd0 kd1 kd2
  refine (HAb.out _ b10).mono ?_
  rintro r w11 ⟨xp4, yp4, rfl, ho, hc⟩
  have b11 := b10.trans (hc.mono b10.size)
  replace X_d := Qx.below X_d hc
  replace X_p0 := Qx.below X_p0 hc
  replace X_p1 := Qx.below X_p1 hc
  replace X_p2 := Qx.below X_p2 hc
  replace X_p3 := Qx.below X_p3 hc
  replace R_p0 := Lib.hid (R_p0.out.below hc)
  replace R_p1 := Lib.hid (R_p1.out.below hc)
  replace R_p2 := Lib.hid (R_p2.out.below hc)
  replace R_p3 := Lib.hid (R_p3.out.below hc)
  clear hc b10
  have R_p4 := Lib.hid ho
  clear ho
  have z_p4 := b11.size
  have hd := (Below.refl w11.heap.size w11).alloc (Nat.le_refl _) (.cells #[.bool R4.p.neg, .slice xp4 (dg 1000000000 R4.p.m).length yp4, .int .i64 R4.p.e] 24)
  have b12 := b11.trans (hd.mono b11.size)
  replace X_d := Qx.below X_d hd
  replace X_p0 := Qx.below X_p0 hd
  replace X_p1 := Qx.below X_p1 hd
  replace X_p2 := Qx.below X_p2 hd
  replace X_p3 := Qx.below X_p3 hd
  replace R_p0 := Lib.hid (R_p0.out.below hd)
  replace R_p1 := Lib.hid (R_p1.out.below hd)
  replace R_p2 := Lib.hid (R_p2.out.below hd)
  replace R_p3 := Lib.hid (R_p3.out.below hd)
  replace R_p4 := Lib.hid (R_p4.out.below hd)
  have X_p4 := Qx.new w11 (.bool R4.p.neg) (.slice xp4 (dg 1000000000 R4.p.m).length yp4) (.int .i64 R4.p.e) 24
  have F_p4 := Qf.new w11 (.bool R4.p.neg) (.slice xp4 (dg 1000000000 R4.p.m).length yp4) (.int .i64 R4.p.e) 24
  clear hd b11
  clear F_p4
  obtain ⟨kd0, kd1, kd2⟩ := X_d.out
  go_wp2_with fail
  clear kd0 kd1 kd2
  refine (HR0.out _ b12).mono ?_
  rintro r w13 ⟨xq0, yq0, rfl, ho, hc⟩
  have b13 := b12.trans (hc.mono b12.size)
  replace X_d := Qx.below X_d hc
  replace X_p0 := Qx.below X_p0 hc
  replace X_p1 := Qx.below X_p1 hc
  replace X_p2 := Qx.below X_p2 hc
  replace X_p3 := Qx.below X_p3 hc
  replace X_p4 := Qx.below X_p4 hc
  replace R_p0 := Lib.hid (R_p0.out.below hc)
  replace R_p1 := Lib.hid (R_p1.out.below hc)
  replace R_p2 := Lib.hid (R_p2.out.below hc)
  replace R_p3 := Lib.hid (R_p3.out.below hc)
  replace R_p4 := Lib.hid (R_p4.out.below hc)
  clear hc b12
  have R_q0 := Lib.hid ho
  clear ho
  have z_q0 := b13.size
  have hd := (Below.refl w13.heap.size w13).alloc (Nat.le_refl _) (.cells #[.bool R0.p.neg, .slice xq0 (dg 1000000000 R0.p.m).length yq0, .int .i64 R0.p.e] 24)
  have b14 := b13.trans (hd.mono b13.size)
  replace X_d := Qx.below X_d hd
  replace X_p0 := Qx.below X_p0 hd
  replace X_p1 := Qx.below X_p1 hd
  replace X_p2 := Qx.below X_p2 hd
  replace X_p3 := Qx.below X_p3 hd
  replace X_p4 := Qx.below X_p4 hd
  replace R_p0 := Lib.hid (R_p0.out.below hd)
  replace R_p1 := Lib.hid (R_p1.out.below hd)
  replace R_p2 := Lib.hid (R_p2.out.below hd)
  replace R_p3 := Lib.hid (R_p3.out.below hd)
  replace R_p4 := Lib.hid (R_p4.out.below hd)
  replace R_q0 := Lib.hid (R_q0.out.below hd)
  have X_q0 := Qx.new w13 (.bool R0.p.neg) (.slice xq0 (dg 1000000000 R0.p.m).length yq0) (.int .i64 R0.p.e) 24
  have F_q0 := Qf.new w13 (.bool R0.p.neg) (.slice xq0 (dg 1000000000 R0.p.m).length yq0) (.int .i64 R0.p.e) 24
  clear hd b13
  clear F_q0
  obtain ⟨kd0, kd1, kd2⟩ := X_d.out
  go_wp2_with fail
  clear kd0 kd1 kd2
  refine (HR1.out _ b14).mono ?_
  rintro r w15 ⟨xq1, yq1, rfl, ho, hc⟩
  have b15 := b14.trans (hc.mono b14.size)
  replace X_d := Qx.below X_d hc
  replace X_p0 := Qx.below X_p0 hc
  replace X_p1 := Qx.below X_p1 hc
  replace X_p2 := Qx.below X_p2 hc
  replace X_p3 := Qx.below X_p3 hc
  replace X_p4 := Qx.below X_p4 hc
  replace X_q0 := Qx.below X_q0 hc
  replace R_p0 := Lib.hid (R_p0.out.below hc)
  replace R_p1 := Lib.hid (R_p1.out.below hc)
  replace R_p2 := Lib.hid (R_p2.out.below hc)
  replace R_p3 := Lib.hid (R_p3.out.below hc)
  replace R_p4 := Lib.hid (R_p4.out.below hc)
  replace R_q0 := Lib.hid (R_q0.out.below hc)
  clear hc b14
  have R_q1 := Lib.hid ho
  clear ho
  have z_q1 := b15.size
  have hd := (Below.refl w15.heap.size w15).alloc (Nat.le_refl _) (.cells #[.bool R1.p.neg, .slice xq1 (dg 1000000000 R1.p.m).length yq1, .int .i64 R1.p.e] 24)
  have b16 := b15.trans (hd.mono b15.size)
  replace X_d := Qx.below X_d hd
  replace X_p0 := Qx.below X_p0 hd
  replace X_p1 := Qx.below X_p1 hd
  replace X_p2 := Qx.below X_p2 hd
  replace X_p3 := Qx.below X_p3 hd
  replace X_p4 := Qx.below X_p4 hd
  replace X_q0 := Qx.below X_q0 hd
  replace R_p0 := Lib.hid (R_p0.out.below hd)
  replace R_p1 := Lib.hid (R_p1.out.below hd)
  replace R_p2 := Lib.hid (R_p2.out.below hd)
  replace R_p3 := Lib.hid (R_p3.out.below hd)
  replace R_p4 := Lib.hid (R_p4.out.below hd)
  replace R_q0 := Lib.hid (R_q0.out.below hd)
  replace R_q1 := Lib.hid (R_q1.out.below hd)
  have X_q1 := Qx.new w15 (.bool R1.p.neg) (.slice xq1 (dg 1000000000 R1.p.m).length yq1) (.int .i64 R1.p.e) 24
  have F_q1 := Qf.new w15 (.bool R1.p.neg) (.slice xq1 (dg 1000000000 R1.p.m).length yq1) (.int .i64 R1.p.e) 24
  clear hd b15
  clear F_q1
  obtain ⟨kd0, kd1, kd2⟩ := X_d.out
  go_wp2_with fail
  clear kd0 kd1 kd2
  refine (HR2.out _ b16).mono ?_
  rintro r w17 ⟨xq2, yq2, rfl, ho, hc⟩
  have b17 := b16.trans (hc.mono b16.size)
  replace X_d := Qx.below X_d hc
  replace X_p0 := Qx.below X_p0 hc
  replace X_p1 := Qx.below X_p1 hc
  replace X_p2 := Qx.below X_p2 hc
  replace X_p3 := Qx.below X_p3 hc
  replace X_p4 := Qx.below X_p4 hc
  replace X_q0 := Qx.below X_q0 hc
  replace X_q1 := Qx.below X_q1 hc
  replace R_p0 := Lib.hid (R_p0.out.below hc)
  replace R_p1 := Lib.hid (R_p1.out.below hc)
  replace R_p2 := Lib.hid (R_p2.out.below hc)
  replace R_p3 := Lib.hid (R_p3.out.below hc)
  replace R_p4 := Lib.hid (R_p4.out.below hc)
  replace R_q0 := Lib.hid (R_q0.out.below hc)
  replace R_q1 := Lib.hid (R_q1.out.below hc)
  clear hc b16
  have R_q2 := Lib.hid ho
  clear ho
  have z_q2 := b17.size
  have hd := (Below.refl w17.heap.size w17).alloc (Nat.le_refl _) (.cells #[.bool R2.p.neg, .slice xq2 (dg 1000000000 R2.p.m).length yq2, .int .i64 R2.p.e] 24)
  have b18 := b17.trans (hd.mono b17.size)
  replace X_d := Qx.below X_d hd
  replace X_p0 := Qx.below X_p0 hd
  replace X_p1 := Qx.below X_p1 hd
  replace X_p2 := Qx.below X_p2 hd
  replace X_p3 := Qx.below X_p3 hd
  replace X_p4 := Qx.below X_p4 hd
  replace X_q0 := Qx.below X_q0 hd
  replace X_q1 := Qx.below X_q1 hd
  replace R_p0 := Lib.hid (R_p0.out.below hd)
  replace R_p1 := Lib.hid (R_p1.out.below hd)
  replace R_p2 := Lib.hid (R_p2.out.below hd)
  replace R_p3 := Lib.hid (R_p3.out.below hd)
  replace R_p4 := Lib.hid (R_p4.out.below hd)
  replace R_q0 := Lib.hid (R_q0.out.below hd)
  replace R_q1 := Lib.hid (R_q1.out.below hd)
  replace R_q2 := Lib.hid (R_q2.out.below hd)
  have X_q2 := Qx.new w17 (.bool R2.p.neg) (.slice xq2 (dg 1000000000 R2.p.m).length yq2) (.int .i64 R2.p.e) 24
  have F_q2 := Qf.new w17 (.bool R2.p.neg) (.slice xq2 (dg 1000000000 R2.p.m).length yq2) (.int .i64 R2.p.e) 24
  clear hd b17
  clear F_q2
  obtain ⟨kd0, kd1, kd2⟩ := X_d.out
  go_wp2_with fail
  clear kd0 kd1 kd2
  refine (HR3.out _ b18).mono ?_
  rintro r w19 ⟨xq3, yq3, rfl, ho, hc⟩
  have b19 := b18.trans (hc.mono b18.size)
  replace X_d := Qx.below X_d hc
  replace X_p0 := Qx.below X_p0 hc
  replace X_p1 := Qx.below X_p1 hc
  replace X_p2 := Qx.below X_p2 hc
  replace X_p3 := Qx.below X_p3 hc
  replace X_p4 := Qx.below X_p4 hc
  replace X_q0 := Qx.below X_q0 hc
  replace X_q1 := Qx.below X_q1 hc
  replace X_q2 := Qx.below X_q2 hc
  replace R_p0 := Lib.hid (R_p0.out.below hc)
  replace R_p1 := Lib.hid (R_p1.out.below hc)
  replace R_p2 := Lib.hid (R_p2.out.below hc)
  replace R_p3 := Lib.hid (R_p3.out.below hc)
  replace R_p4 := Lib.hid (R_p4.out.below hc)
  replace R_q0 := Lib.hid (R_q0.out.below hc)
  replace R_q1 := Lib.hid (R_q1.out.below hc)
  replace R_q2 := Lib.hid (R_q2.out.below hc)
  clear hc b18
  have R_q3 := Lib.hid ho
  clear ho
  have z_q3 := b19.size
  have hd := (Below.refl w19.heap.size w19).alloc (Nat.le_refl _) (.cells #[.bool R3.p.neg, .slice xq3 (dg 1000000000 R3.p.m).length yq3, .int .i64 R3.p.e] 24)
  have b20 := b19.trans (hd.mono b19.size)
  replace X_d := Qx.below X_d hd
  replace X_p0 := Qx.below X_p0 hd
  replace X_p1 := Qx.below X_p1 hd
  replace X_p2 := Qx.below X_p2 hd
  replace X_p3 := Qx.below X_p3 hd
  replace X_p4 := Qx.below X_p4 hd
  replace X_q0 := Qx.below X_q0 hd
  replace X_q1 := Qx.below X_q1 hd
  replace X_q2 := Qx.below X_q2 hd
  replace R_p0 := Lib.hid (R_p0.out.below hd)
  replace R_p1 := Lib.hid (R_p1.out.below hd)
  replace R_p2 := Lib.hid (R_p2.out.below hd)
  replace R_p3 := Lib.hid (R_p3.out.below hd)
  replace R_p4 := Lib.hid (R_p4.out.below hd)
  replace R_q0 := Lib.hid (R_q0.out.below hd)
  replace R_q1 := Lib.hid (R_q1.out.below hd)
  replace R_q2 := Lib.hid (R_q2.out.below hd)
  replace R_q3 := Lib.hid (R_q3.out.below hd)
  have X_q3 := Qx.new w19 (.bool R3.p.neg) (.slice xq3 (dg 1000000000 R3.p.m).length yq3) (.int .i64 R3.p.e) 24
  have F_q3 := Qf.new w19 (.bool R3.p.neg) (.slice xq3 (dg 1000000000 R3.p.m).length yq3) (.int .i64 R3.p.e) 24
  clear hd b19
  clear F_q3
  obtain ⟨kd0, kd1, kd2⟩ := X_d.out
  go_wp2_with fail
  clear kd0 kd1 kd2
  refine (HR4.out _ b20).mono ?_
  rintro r w21 ⟨xq4, yq4, rfl, ho, hc⟩
  have b21 := b20.trans (hc.mono b20.size)
  replace X_d := Qx.below X_d hc
  replace X_p0 := Qx.below X_p0 hc
  replace X_p1 := Qx.below X_p1 hc
  replace X_p2 := Qx.below X_p2 hc
  replace X_p3 := Qx.below X_p3 hc
  replace X_p4 := Qx.below X_p4 hc
  replace X_q0 := Qx.below X_q0 hc
  replace X_q1 := Qx.below X_q1 hc
  replace X_q2 := Qx.below X_q2 hc
  replace X_q3 := Qx.below X_q3 hc
  replace R_p0 := Lib.hid (R_p0.out.below hc)
  replace R_p1 := Lib.hid (R_p1.out.below hc)
  replace R_p2 := Lib.hid (R_p2.out.below hc)
  replace R_p3 := Lib.hid (R_p3.out.below hc)
  replace R_p4 := Lib.hid (R_p4.out.below hc)
  replace R_q0 := Lib.hid (R_q0.out.below hc)
  replace R_q1 := Lib.hid (R_q1.out.below hc)
  replace R_q2 := Lib.hid (R_q2.out.below hc)
  replace R_q3 := Lib.hid (R_q3.out.below hc)
  clear hc b20
  have R_q4 := Lib.hid ho
  clear ho
  have z_q4 := b21.size
  have hd := (Below.refl w21.heap.size w21).alloc (Nat.le_refl _) (.cells #[.bool R4.p.neg, .slice xq4 (dg 1000000000 R4.p.m).length yq4, .int .i64 R4.p.e] 24)
  have b22 := b21.trans (hd.mono b21.size)
  replace X_d := Qx.below X_d hd
  replace X_p0 := Qx.below X_p0 hd
  replace X_p1 := Qx.below X_p1 hd
  replace X_p2 := Qx.below X_p2 hd
  replace X_p3 := Qx.below X_p3 hd
  replace X_p4 := Qx.below X_p4 hd
  replace X_q0 := Qx.below X_q0 hd
  replace X_q1 := Qx.below X_q1 hd
  replace X_q2 := Qx.below X_q2 hd
  replace X_q3 := Qx.below X_q3 hd
  replace R_p0 := Lib.hid (R_p0.out.below hd)
  replace R_p1 := Lib.hid (R_p1.out.below hd)
  replace R_p2 := Lib.hid (R_p2.out.below hd)
  replace R_p3 := Lib.hid (R_p3.out.below hd)
  replace R_p4 := Lib.hid (R_p4.out.below hd)
  replace R_q0 := Lib.hid (R_q0.out.below hd)
  replace R_q1 := Lib.hid (R_q1.out.below hd)
  replace R_q2 := Lib.hid (R_q2.out.below hd)
  replace R_q3 := Lib.hid (R_q3.out.below hd)
  replace R_q4 := Lib.hid (R_q4.out.below hd)
  have X_q4 := Qx.new w21 (.bool R4.p.neg) (.slice xq4 (dg 1000000000 R4.p.m).length yq4) (.int .i64 R4.p.e) 24
  have F_q4 := Qf.new w21 (.bool R4.p.neg) (.slice xq4 (dg 1000000000 R4.p.m).length yq4) (.int .i64 R4.p.e) 24
  clear hd b21
  clear F_q4
  clear X_d
  obtain ⟨kp00, kp01, kp02⟩ := X_p0.out
  obtain ⟨kq00, kq01, kq02⟩ := X_q0.out
  go_wp2_with fail
  clear kp00 kp01 kp02 kq00 kq01 kq02
  refine (HQ0.out _ _ _ _ _ R_p0.out R_q0.out).mono ?_
  rintro r w23 ⟨rfl, hc⟩
  have b23 := b22.trans (hc.mono b22.size)
  replace X_p0 := Qx.below X_p0 hc
  replace X_p1 := Qx.below X_p1 hc
  replace X_p2 := Qx.below X_p2 hc
  replace X_p3 := Qx.below X_p3 hc
  replace X_p4 := Qx.below X_p4 hc
  replace X_q0 := Qx.below X_q0 hc
  replace X_q1 := Qx.below X_q1 hc
  replace X_q2 := Qx.below X_q2 hc
  replace X_q3 := Qx.below X_q3 hc
  replace X_q4 := Qx.below X_q4 hc
  replace R_p0 := Lib.hid (R_p0.out.below hc)
  replace R_p1 := Lib.hid (R_p1.out.below hc)
  replace R_p2 := Lib.hid (R_p2.out.below hc)
  replace R_p3 := Lib.hid (R_p3.out.below hc)
  replace R_p4 := Lib.hid (R_p4.out.below hc)
  replace R_q0 := Lib.hid (R_q0.out.below hc)
  replace R_q1 := Lib.hid (R_q1.out.below hc)
  replace R_q2 := Lib.hid (R_q2.out.below hc)
  replace R_q3 := Lib.hid (R_q3.out.below hc)
  replace R_q4 := Lib.hid (R_q4.out.below hc)
  clear hc b22
  clear X_p0
  clear R_p0
  clear X_q0
  clear R_q0
  obtain ⟨kp10, kp11, kp12⟩ := X_p1.out
  obtain ⟨kq10, kq11, kq12⟩ := X_q1.out
  go_wp2_with fail
  clear kp10 kp11 kp12 kq10 kq11 kq12
  refine (HQ1.out _ _ _ _ _ R_p1.out R_q1.out).mono ?_
  rintro r w24 ⟨rfl, hc⟩
  have b24 := b23.trans (hc.mono b23.size)
  replace X_p1 := Qx.below X_p1 hc
  replace X_p2 := Qx.below X_p2 hc
  replace X_p3 := Qx.below X_p3 hc
  replace X_p4 := Qx.below X_p4 hc
  replace X_q1 := Qx.below X_q1 hc
  replace X_q2 := Qx.below X_q2 hc
  replace X_q3 := Qx.below X_q3 hc
  replace X_q4 := Qx.below X_q4 hc
  replace R_p1 := Lib.hid (R_p1.out.below hc)
  replace R_p2 := Lib.hid (R_p2.out.below hc)
  replace R_p3 := Lib.hid (R_p3.out.below hc)
  replace R_p4 := Lib.hid (R_p4.out.below hc)
  replace R_q1 := Lib.hid (R_q1.out.below hc)
  replace R_q2 := Lib.hid (R_q2.out.below hc)
  replace R_q3 := Lib.hid (R_q3.out.below hc)
  replace R_q4 := Lib.hid (R_q4.out.below hc)
  clear hc b23
  clear X_p1
  clear R_p1
  clear X_q1
  clear R_q1
  obtain ⟨kp20, kp21, kp22⟩ := X_p2.out
  obtain ⟨kq20, kq21, kq22⟩ := X_q2.out
  go_wp2_with fail
  clear kp20 kp21 kp22 kq20 kq21 kq22
  refine (HQ2.out _ _ _ _ _ R_p2.out R_q2.out).mono ?_
  rintro r w25 ⟨rfl, hc⟩
  have b25 := b24.trans (hc.mono b24.size)
  replace X_p2 := Qx.below X_p2 hc
  replace X_p3 := Qx.below X_p3 hc
  replace X_p4 := Qx.below X_p4 hc
  replace X_q2 := Qx.below X_q2 hc
  replace X_q3 := Qx.below X_q3 hc
  replace X_q4 := Qx.below X_q4 hc
  replace R_p2 := Lib.hid (R_p2.out.below hc)
  replace R_p3 := Lib.hid (R_p3.out.below hc)
  replace R_p4 := Lib.hid (R_p4.out.below hc)
  replace R_q2 := Lib.hid (R_q2.out.below hc)
  replace R_q3 := Lib.hid (R_q3.out.below hc)
  replace R_q4 := Lib.hid (R_q4.out.below hc)
  clear hc b24
  clear X_p2
  clear R_p2
  clear X_q2
  clear R_q2
  obtain ⟨kp30, kp31, kp32⟩ := X_p3.out
  obtain ⟨kq30, kq31, kq32⟩ := X_q3.out
  go_wp2_with fail
  clear kp30 kp31 kp32 kq30 kq31 kq32
  refine (HQ3.out _ _ _ _ _ R_p3.out R_q3.out).mono ?_
  rintro r w26 ⟨rfl, hc⟩
  have b26 := b25.trans (hc.mono b25.size)
  replace X_p3 := Qx.below X_p3 hc
  replace X_p4 := Qx.below X_p4 hc
  replace X_q3 := Qx.below X_q3 hc
  replace X_q4 := Qx.below X_q4 hc
  replace R_p3 := Lib.hid (R_p3.out.below hc)
  replace R_p4 := Lib.hid (R_p4.out.below hc)
  replace R_q3 := Lib.hid (R_q3.out.below hc)
  replace R_q4 := Lib.hid (R_q4.out.below hc)
  clear hc b25
  clear X_p3
  clear R_p3
  clear X_q3
  clear R_q3
  obtain ⟨kp40, kp41, kp42⟩ := X_p4.out
  obtain ⟨kq40, kq41, kq42⟩ := X_q4.out
  go_wp2_with fail
  clear kp40 kp41 kp42 kq40 kq41 kq42
  refine (HQ4.out _ _ _ _ _ R_p4.out R_q4.out).mono ?_
  rintro r w27 ⟨rfl, hc⟩
  have b27 := b26.trans (hc.mono b26.size)
  replace X_p4 := Qx.below X_p4 hc
  replace X_q4 := Qx.below X_q4 hc
  replace R_p4 := Lib.hid (R_p4.out.below hc)
  replace R_q4 := Lib.hid (R_q4.out.below hc)
  clear hc b26
  clear X_p4
  clear R_p4
  clear X_q4
  clear R_q4
  have t0 : ((R0.err : Int) == (R0.err : Int)) = true := by simp
  have t1 : ((R1.err : Int) == (R1.err : Int)) = true := by simp
  have t2 : ((R2.err : Int) == (R2.err : Int)) = true := by simp
  have t3 : ((R3.err : Int) == (R3.err : Int)) = true := by simp
  have t4 : ((R4.err : Int) == (R4.err : Int)) = true := by simp
  have B_ := Lib.hid b27
  clear b27
  go_wp2
  go_ret
  exact ⟨rfl, B_.out⟩
theorem rounds_walk {s1 : Bool} {a1 : Option Addr} {n1 ca1 : Nat} {e1 : Int} (w : World) (htab : Tab w) (ha : IsRow w a1 n1 ca1) (_ : (Lit.int .i64 e1).wf = true) :
    Calls Tryz.prog 5 #[.agg #[.bool s1, .slice a1 n1 ca1, .int .i64 e1]] w fun r w' => r = .returned (.bool true) ∧ Below w.heap.size w w' := by
  obtain ⟨l1, rfl, lo1, rd1, hm1⟩ := ha
  unfold maxLen at hm1
  exact rounds_main s1 a1 ca1 l1 e1 w (by omega) lo1 rd1 htab
end Go.Proofs.YtimfpgpomafflaaGreatDoor
