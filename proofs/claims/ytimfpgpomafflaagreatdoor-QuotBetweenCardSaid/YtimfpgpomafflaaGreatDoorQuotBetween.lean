/- Walk of the law QuotBetween. -/
import Derived.Test.YtimfpgpomafflaaGreatDoorQuotMb
import Derived.Test.YtimfpgpomafflaaGreatDoorQuotT
import Derived.Deep.AppendLies
import Derived.Deep.DeepCutAuto
namespace Go.Proofs.YtimfpgpomafflaaGreatDoor
open Go.RowKit LM

/-- what the region leaves: a box that holds the sum -/
def MeetD (D : Ans) (W : World) (s16 s17 : Value) (wx : World) : Prop := ∃ B xd yd, s16 = .pointer (some ⟨B, 0, none⟩) ∧ s17 = .int .i64 (D.err : Nat) ∧ Hid (Qx wx B (.bool D.p.neg) (.slice xd (dg 1000000000 D.p.m).length yd) (.int .i64 D.p.e)) ∧ Hid (Rd wx .u32 xd (dg 1000000000 D.p.m)) ∧ Below W.heap.size W wx
def ResZ (n : Nat) (w : World) (r : Ending) (w' : World) : Prop := ∃ a' c', r = .returned (.tuple #[.agg #[.bool zP.neg, .slice a' (dg 1000000000 zP.m).length c', .int .i64 zP.e], .int .i64 (n : Nat)]) ∧ Rd w' .u32 a' (dg 1000000000 zP.m) ∧ Below w.heap.size w w'
set_option maxHeartbeats 16000000 in
set_option maxRecDepth 20000 in
theorem between_no (s1 : Bool) (a1 : Option Addr) (c1 : Nat) (l1 : List Nat) (e1 : Int) (w : World) (h1 : l1.length ≤ 9223372036854775807) (hlo1 : Lo 4294967296 l1) (hr1 : Rd w .u32 a1 l1) (htab : Tab w) (h0 : ¬ (normA l1.length s1 (vl 1000000000 l1) e1).err = 0) :
    Calls Tryz.prog 8 #[.agg #[.bool s1, .slice a1 l1.length c1, .int .i64 e1]] w fun r w' => r = .returned (.bool true) ∧ Below w.heap.size w w' := by
  have hS := fun W (hb : Below w.heap.size w W) => shown_any W (htab.below hb)
  have hN := fun W (hb : Below w.heap.size w W) => DNorm_any s1 a1 c1 l1 e1 W h1 hlo1 (hr1.below' (w' := W) hb (Nat.le_refl _)) (htab.below hb)
  have hLo := fun W (hb : Below w.heap.size w W) => Floor_any s1 a1 c1 l1 e1 W h1 hlo1 (hr1.below' (w' := W) hb (Nat.le_refl _)) (htab.below hb)
  have hHi := fun W (hb : Below w.heap.size w W) => Ceil_any s1 a1 c1 l1 e1 W h1 hlo1 (hr1.below' (w' := W) hb (Nat.le_refl _)) (htab.below hb)
  have hCu := fun W (hb : Below w.heap.size w W) => Trunc_any s1 a1 c1 l1 e1 W h1 hlo1 (hr1.below' (w' := W) hb (Nat.le_refl _)) (htab.below hb)
  have hNe := fun W (hb : Below w.heap.size w W) => Round_any s1 a1 c1 l1 e1 W h1 hlo1 (hr1.below' (w' := W) hb (Nat.le_refl _)) (htab.below hb)
  have hNg := fun W (hb : Below w.heap.size w W) => DNeg_any s1 a1 c1 l1 e1 W h1 hlo1 (hr1.below' (w' := W) hb (Nat.le_refl _)) (htab.below hb)
  generalize normA l1.length (!s1) (vl 1000000000 l1) e1 = NG at *
  generalize (normA l1.length s1 (vl 1000000000 l1) e1) = A at *
  rw [toWA_no h0] at hLo hHi hCu hNe
  have t0 : ((A.err : Int) != 0) = true := by simp [h0]
  have t1 : ((A.err : Int) == (A.err : Int)) = true := by simp
  have hLo := fun W hb => (hLo W hb).mono fun _ _ h => (h : ResZ A.err _ _ _)
  have hHi := fun W hb => (hHi W hb).mono fun _ _ h => (h : ResZ A.err _ _ _)
  have hCu := fun W hb => (hCu W hb).mono fun _ _ h => (h : ResZ A.err _ _ _)
  have hNe := fun W hb => (hNe W hb).mono fun _ _ h => (h : ResZ A.err _ _ _)
  have HS := Lib.hid hS; have HN := Lib.hid hN; have HLo := Lib.hid hLo; have HHi := Lib.hid hHi; have HCu := Lib.hid hCu; have HNe := Lib.hid hNe; have HNg := Lib.hid hNg
  clear hS hN hLo hHi hCu hNe hNg htab hr1 hlo1 h0
  go_enter Tryz.func8, Tryz.ntmps8
  have b1 := ((Below.refl w.heap.size w).alloc (Nat.le_refl _) (.cells #[.bool s1, .slice a1 l1.length c1, .int .i64 e1] 24))
  have X_d := (Qx.new w (.bool s1) (.slice a1 l1.length c1) (.int .i64 e1) 24)
  have F_d := (Qf.new w (.bool s1) (.slice a1 l1.length c1) (.int .i64 e1) 24)
  go_wp2_with fail
  refine (HS.out _ b1).mono ?_
  rintro r w2 ⟨rfl, hc⟩
  have b2 := b1.trans (hc.mono b1.size)
  replace F_d := Qf.below F_d (Qx.lt X_d) hc
  replace X_d := Qx.below X_d hc
  clear hc b1
  obtain ⟨kd0, kd1, kd2⟩ := X_d.out
  go_wp2_with fail
  clear kd0 kd1 kd2
  refine (HN.out _ b2).mono ?_
  rintro r w3 ⟨xx, yx, rfl, ho, hc⟩
  have b3 := b2.trans (hc.mono b2.size)
  replace F_d := Qf.below F_d (Qx.lt X_d) hc
  replace X_d := Qx.below X_d hc
  clear hc b2
  have R_x := Lib.hid ho.rd
  clear ho
  have z_x := b3.size
  have hd := (Below.refl w3.heap.size w3).alloc (Nat.le_refl _) (.cells #[.bool A.p.neg, .slice xx (dg 1000000000 A.p.m).length yx, .int .i64 A.p.e] 24)
  have b4 := b3.trans (hd.mono b3.size)
  have l_d_x := Qx.lt X_d
  have m_d_x := not_eq_lt l_d_x
  have m_x_d := not_eq_gt l_d_x
  clear l_d_x
  replace F_d := Qf.below F_d (Qx.lt X_d) hd
  replace X_d := Qx.below X_d hd
  replace R_x := Lib.hid (R_x.out.below hd)
  have X_x := Qx.new w3 (.bool A.p.neg) (.slice xx (dg 1000000000 A.p.m).length yx) (.int .i64 A.p.e) 24
  have F_x := Qf.new w3 (.bool A.p.neg) (.slice xx (dg 1000000000 A.p.m).length yx) (.int .i64 A.p.e) 24
  clear hd b3
  clear X_x F_x
  clear R_x
  obtain ⟨kd0, kd1, kd2⟩ := X_d.out
  go_wp2_with fail
  clear kd0 kd1 kd2
  refine (HLo.out _ b4).mono ?_
  rintro r w5 ⟨xlo, ylo, rfl, ho, hc⟩
  have b5 := b4.trans (hc.mono b4.size)
  replace F_d := Qf.below F_d (Qx.lt X_d) hc
  replace X_d := Qx.below X_d hc
  clear hc b4
  clear ho
  have z_lo := b5.size
  have hd := (Below.refl w5.heap.size w5).alloc (Nat.le_refl _) (.cells #[.bool zP.neg, .slice xlo (dg 1000000000 zP.m).length ylo, .int .i64 zP.e] 24)
  have b6 := b5.trans (hd.mono b5.size)
  have l_d_lo := Qx.lt X_d
  have m_d_lo := not_eq_lt l_d_lo
  have m_lo_d := not_eq_gt l_d_lo
  clear l_d_lo
  replace F_d := Qf.below F_d (Qx.lt X_d) hd
  replace X_d := Qx.below X_d hd
  have X_lo := Qx.new w5 (.bool zP.neg) (.slice xlo (dg 1000000000 zP.m).length ylo) (.int .i64 zP.e) 24
  have F_lo := Qf.new w5 (.bool zP.neg) (.slice xlo (dg 1000000000 zP.m).length ylo) (.int .i64 zP.e) 24
  clear hd b5
  clear X_lo F_lo
  obtain ⟨kd0, kd1, kd2⟩ := X_d.out
  go_wp2_with fail
  clear kd0 kd1 kd2
  refine (HHi.out _ b6).mono ?_
  rintro r w7 ⟨xhi, yhi, rfl, ho, hc⟩
  have b7 := b6.trans (hc.mono b6.size)
  replace F_d := Qf.below F_d (Qx.lt X_d) hc
  replace X_d := Qx.below X_d hc
  clear hc b6
  clear ho
  have z_hi := b7.size
  have hd := (Below.refl w7.heap.size w7).alloc (Nat.le_refl _) (.cells #[.bool zP.neg, .slice xhi (dg 1000000000 zP.m).length yhi, .int .i64 zP.e] 24)
  have b8 := b7.trans (hd.mono b7.size)
  have l_d_hi := Qx.lt X_d
  have m_d_hi := not_eq_lt l_d_hi
  have m_hi_d := not_eq_gt l_d_hi
  clear l_d_hi
  replace F_d := Qf.below F_d (Qx.lt X_d) hd
  replace X_d := Qx.below X_d hd
  have X_hi := Qx.new w7 (.bool zP.neg) (.slice xhi (dg 1000000000 zP.m).length yhi) (.int .i64 zP.e) 24
  have F_hi := Qf.new w7 (.bool zP.neg) (.slice xhi (dg 1000000000 zP.m).length yhi) (.int .i64 zP.e) 24
  clear hd b7
  clear X_hi F_hi
  obtain ⟨kd0, kd1, kd2⟩ := X_d.out
  go_wp2_with fail
  clear kd0 kd1 kd2
  refine (HCu.out _ b8).mono ?_
  rintro r w9 ⟨xcu, ycu, rfl, ho, hc⟩
  have b9 := b8.trans (hc.mono b8.size)
  replace F_d := Qf.below F_d (Qx.lt X_d) hc
  replace X_d := Qx.below X_d hc
  clear hc b8
  clear ho
  have z_cu := b9.size
  have hd := (Below.refl w9.heap.size w9).alloc (Nat.le_refl _) (.cells #[.bool zP.neg, .slice xcu (dg 1000000000 zP.m).length ycu, .int .i64 zP.e] 24)
  have b10 := b9.trans (hd.mono b9.size)
  have l_d_cu := Qx.lt X_d
  have m_d_cu := not_eq_lt l_d_cu
  have m_cu_d := not_eq_gt l_d_cu
  clear l_d_cu
  replace F_d := Qf.below F_d (Qx.lt X_d) hd
  replace X_d := Qx.below X_d hd
  have X_cu := Qx.new w9 (.bool zP.neg) (.slice xcu (dg 1000000000 zP.m).length ycu) (.int .i64 zP.e) 24
  have F_cu := Qf.new w9 (.bool zP.neg) (.slice xcu (dg 1000000000 zP.m).length ycu) (.int .i64 zP.e) 24
  clear hd b9
  clear X_cu F_cu
  obtain ⟨kd0, kd1, kd2⟩ := X_d.out
  go_wp2_with fail
  clear kd0 kd1 kd2
  refine (HNe.out _ b10).mono ?_
  rintro r w11 ⟨xne, yne, rfl, ho, hc⟩
  have b11 := b10.trans (hc.mono b10.size)
  replace F_d := Qf.below F_d (Qx.lt X_d) hc
  replace X_d := Qx.below X_d hc
  clear hc b10
  clear ho
  have z_ne := b11.size
  have hd := (Below.refl w11.heap.size w11).alloc (Nat.le_refl _) (.cells #[.bool zP.neg, .slice xne (dg 1000000000 zP.m).length yne, .int .i64 zP.e] 24)
  have b12 := b11.trans (hd.mono b11.size)
  have l_d_ne := Qx.lt X_d
  have m_d_ne := not_eq_lt l_d_ne
  have m_ne_d := not_eq_gt l_d_ne
  clear l_d_ne
  replace F_d := Qf.below F_d (Qx.lt X_d) hd
  replace X_d := Qx.below X_d hd
  have X_ne := Qx.new w11 (.bool zP.neg) (.slice xne (dg 1000000000 zP.m).length yne) (.int .i64 zP.e) 24
  have F_ne := Qf.new w11 (.bool zP.neg) (.slice xne (dg 1000000000 zP.m).length yne) (.int .i64 zP.e) 24
  clear hd b11
  clear X_ne F_ne
  obtain ⟨kd0, kd1, kd2⟩ := X_d.out
  go_wp2_with fail
  clear kd0 kd1 kd2
  refine (HNg.out _ b12).mono ?_
  rintro r w13 ⟨xg, yg, rfl, ho, hc⟩
  have b13 := b12.trans (hc.mono b12.size)
  replace F_d := Qf.below F_d (Qx.lt X_d) hc
  replace X_d := Qx.below X_d hc
  clear hc b12
  clear ho
  have z_g := b13.size
  have hd := (Below.refl w13.heap.size w13).alloc (Nat.le_refl _) (.cells #[.bool NG.p.neg, .slice xg (dg 1000000000 NG.p.m).length yg, .int .i64 NG.p.e] 24)
  have b14 := b13.trans (hd.mono b13.size)
  have l_d_g := Qx.lt X_d
  have m_d_g := not_eq_lt l_d_g
  have m_g_d := not_eq_gt l_d_g
  clear l_d_g
  replace F_d := Qf.below F_d (Qx.lt X_d) hd
  replace X_d := Qx.below X_d hd
  have X_g := Qx.new w13 (.bool NG.p.neg) (.slice xg (dg 1000000000 NG.p.m).length yg) (.int .i64 NG.p.e) 24
  have F_g := Qf.new w13 (.bool NG.p.neg) (.slice xg (dg 1000000000 NG.p.m).length yg) (.int .i64 NG.p.e) 24
  clear hd b13
  clear X_g F_g
  have B_ := Lib.hid b14
  clear b14
  go_wp2
  go_ret
  exact ⟨rfl, B_.out⟩
set_option maxHeartbeats 16000000 in
set_option maxRecDepth 20000 in
theorem between_whole (s1 : Bool) (a1 : Option Addr) (c1 : Nat) (l1 : List Nat) (e1 : Int) (w : World) (h1 : l1.length ≤ 9223372036854775807) (hlo1 : Lo 4294967296 l1) (hr1 : Rd w .u32 a1 l1) (htab : Tab w) (h0 : (normA l1.length s1 (vl 1000000000 l1) e1).err = 0) (h9 : 0 ≤ (normA l1.length s1 (vl 1000000000 l1) e1).p.e) :
    Calls Tryz.prog 8 #[.agg #[.bool s1, .slice a1 l1.length c1, .int .i64 e1]] w fun r w' => r = .returned (.bool true) ∧ Below w.heap.size w w' := by
  have hS := fun W (hb : Below w.heap.size w W) => shown_any W (htab.below hb)
  have hN := fun W (hb : Below w.heap.size w W) => DNorm_any s1 a1 c1 l1 e1 W h1 hlo1 (hr1.below' (w' := W) hb (Nat.le_refl _)) (htab.below hb)
  have hLo := fun W (hb : Below w.heap.size w W) => Floor_any s1 a1 c1 l1 e1 W h1 hlo1 (hr1.below' (w' := W) hb (Nat.le_refl _)) (htab.below hb)
  have hHi := fun W (hb : Below w.heap.size w W) => Ceil_any s1 a1 c1 l1 e1 W h1 hlo1 (hr1.below' (w' := W) hb (Nat.le_refl _)) (htab.below hb)
  have hCu := fun W (hb : Below w.heap.size w W) => Trunc_any s1 a1 c1 l1 e1 W h1 hlo1 (hr1.below' (w' := W) hb (Nat.le_refl _)) (htab.below hb)
  have hNe := fun W (hb : Below w.heap.size w W) => Round_any s1 a1 c1 l1 e1 W h1 hlo1 (hr1.below' (w' := W) hb (Nat.le_refl _)) (htab.below hb)
  have hNg := fun W (hb : Below w.heap.size w W) => DNeg_any s1 a1 c1 l1 e1 W h1 hlo1 (hr1.below' (w' := W) hb (Nat.le_refl _)) (htab.below hb)
  have pA := normA_plain l1.length s1 (vl 1000000000 l1) e1
  have iA := normA_in l1.length s1 (vl 1000000000 l1) e1
  rw [normA_flip, if_pos h0, h0] at hNg
  have hA0 : (normA l1.length s1 (vl 1000000000 l1) e1) = ⟨0, (normA l1.length s1 (vl 1000000000 l1) e1).p⟩ := by
    cases hq : (normA l1.length s1 (vl 1000000000 l1) e1) with
    | mk er pp => rw [hq] at h0; cases h0; rfl
  rw [hA0] at hN hLo hHi hCu hNe
  generalize (normA l1.length s1 (vl 1000000000 l1) e1).p = p at *
  rw [toWA_ok rfl] at hLo hHi hCu hNe
  have hN := fun W hb => (hN W hb).mono fun _ _ h => (ResA.y h).ok
  have hNg := fun W hb => (hNg W hb).mono fun _ _ h => (ResA.y h).ok
  have hLo := fun W hb => (hLo W hb).mono fun _ _ h => ResY.ok h
  have hHi := fun W hb => (hHi W hb).mono fun _ _ h => ResY.ok h
  have hCu := fun W hb => (hCu W hb).mono fun _ _ h => ResY.ok h
  have hNe := fun W hb => (hNe W hb).mono fun _ _ h => ResY.ok h
  have hWh := fun W (hb : Below w.heap.size w W) => Whole_any s1 a1 c1 l1 e1 W h1 hlo1 (hr1.below' (w' := W) hb (Nat.le_refl _)) (htab.below hb)
  rw [hA0] at hWh
  dsimp only at hLo hHi hCu hNe
  rw [whole_cut h9] at hLo hHi hCu hNe
  rw [show (decide ((0 : Nat) = 0) && decide (0 ≤ p.e)) = true by simp [h9]] at hWh
  have hSm := fun a b c d W r1 r2 => cSamePP iA iA a b c d W r1 r2
  rw [decide_eq_true rfl] at hSm
  generalize flipP p = fp at *
  have HS := Lib.hid hS; have HN := Lib.hid hN; have HLo := Lib.hid hLo; have HHi := Lib.hid hHi; have HCu := Lib.hid hCu; have HNe := Lib.hid hNe; have HNg := Lib.hid hNg; have HWh := Lib.hid hWh; have HT := Lib.hid htab
  have HSm := Lib.hid hSm
  clear hS hN hLo hHi hCu hNe hNg hWh hSm htab hr1 hlo1 h0 h9 hA0 pA iA
  go_enter Tryz.func8, Tryz.ntmps8
  have b1 := ((Below.refl w.heap.size w).alloc (Nat.le_refl _) (.cells #[.bool s1, .slice a1 l1.length c1, .int .i64 e1] 24))
  have X_d := (Qx.new w (.bool s1) (.slice a1 l1.length c1) (.int .i64 e1) 24)
  have F_d := (Qf.new w (.bool s1) (.slice a1 l1.length c1) (.int .i64 e1) 24)
  go_wp2_with fail
  refine (HS.out _ b1).mono ?_
  rintro r w2 ⟨rfl, hc⟩
  have b2 := b1.trans (hc.mono b1.size)
  replace F_d := Qf.below F_d (Qx.lt X_d) hc
  replace X_d := Qx.below X_d hc
  clear hc b1
  obtain ⟨kd0, kd1, kd2⟩ := X_d.out
  go_wp2_with fail
  clear kd0 kd1 kd2
  refine (HN.out _ b2).mono ?_
  rintro r w3 ⟨xx, yx, rfl, ho, hc⟩
  have b3 := b2.trans (hc.mono b2.size)
  replace F_d := Qf.below F_d (Qx.lt X_d) hc
  replace X_d := Qx.below X_d hc
  clear hc b2
  have R_x := Lib.hid ho
  clear ho
  have z_x := b3.size
  have hd := (Below.refl w3.heap.size w3).alloc (Nat.le_refl _) (.cells #[.bool p.neg, .slice xx (dg 1000000000 p.m).length yx, .int .i64 p.e] 24)
  have b4 := b3.trans (hd.mono b3.size)
  have l_d_x := Qx.lt X_d
  have m_d_x := not_eq_lt l_d_x
  have m_x_d := not_eq_gt l_d_x
  clear l_d_x
  replace F_d := Qf.below F_d (Qx.lt X_d) hd
  replace X_d := Qx.below X_d hd
  replace R_x := Lib.hid (R_x.out.below hd)
  have X_x := Qx.new w3 (.bool p.neg) (.slice xx (dg 1000000000 p.m).length yx) (.int .i64 p.e) 24
  have F_x := Qf.new w3 (.bool p.neg) (.slice xx (dg 1000000000 p.m).length yx) (.int .i64 p.e) 24
  clear hd b3
  obtain ⟨kd0, kd1, kd2⟩ := X_d.out
  go_wp2_with fail
  clear kd0 kd1 kd2
  refine (HLo.out _ b4).mono ?_
  rintro r w5 ⟨xlo, ylo, rfl, ho, hc⟩
  have b5 := b4.trans (hc.mono b4.size)
  replace F_d := Qf.below F_d (Qx.lt X_d) hc
  replace X_d := Qx.below X_d hc
  replace F_x := Qf.below F_x (Qx.lt X_x) hc
  replace X_x := Qx.below X_x hc
  replace R_x := Lib.hid (R_x.out.below hc)
  clear hc b4
  have R_lo := Lib.hid ho
  clear ho
  have z_lo := b5.size
  have hd := (Below.refl w5.heap.size w5).alloc (Nat.le_refl _) (.cells #[.bool p.neg, .slice xlo (dg 1000000000 p.m).length ylo, .int .i64 p.e] 24)
  have b6 := b5.trans (hd.mono b5.size)
  have l_d_lo := Qx.lt X_d
  have m_d_lo := not_eq_lt l_d_lo
  have m_lo_d := not_eq_gt l_d_lo
  clear l_d_lo
  have l_x_lo := Qx.lt X_x
  have m_x_lo := not_eq_lt l_x_lo
  have m_lo_x := not_eq_gt l_x_lo
  clear l_x_lo
  replace F_d := Qf.below F_d (Qx.lt X_d) hd
  replace X_d := Qx.below X_d hd
  replace F_x := Qf.below F_x (Qx.lt X_x) hd
  replace X_x := Qx.below X_x hd
  replace R_x := Lib.hid (R_x.out.below hd)
  replace R_lo := Lib.hid (R_lo.out.below hd)
  have X_lo := Qx.new w5 (.bool p.neg) (.slice xlo (dg 1000000000 p.m).length ylo) (.int .i64 p.e) 24
  have F_lo := Qf.new w5 (.bool p.neg) (.slice xlo (dg 1000000000 p.m).length ylo) (.int .i64 p.e) 24
  clear hd b5
  obtain ⟨kd0, kd1, kd2⟩ := X_d.out
  go_wp2_with fail
  clear kd0 kd1 kd2
  refine (HHi.out _ b6).mono ?_
  rintro r w7 ⟨xhi, yhi, rfl, ho, hc⟩
  have b7 := b6.trans (hc.mono b6.size)
  replace F_d := Qf.below F_d (Qx.lt X_d) hc
  replace X_d := Qx.below X_d hc
  replace F_x := Qf.below F_x (Qx.lt X_x) hc
  replace X_x := Qx.below X_x hc
  replace F_lo := Qf.below F_lo (Qx.lt X_lo) hc
  replace X_lo := Qx.below X_lo hc
  replace R_x := Lib.hid (R_x.out.below hc)
  replace R_lo := Lib.hid (R_lo.out.below hc)
  clear hc b6
  have R_hi := Lib.hid ho
  clear ho
  have z_hi := b7.size
  have hd := (Below.refl w7.heap.size w7).alloc (Nat.le_refl _) (.cells #[.bool p.neg, .slice xhi (dg 1000000000 p.m).length yhi, .int .i64 p.e] 24)
  have b8 := b7.trans (hd.mono b7.size)
  have l_d_hi := Qx.lt X_d
  have m_d_hi := not_eq_lt l_d_hi
  have m_hi_d := not_eq_gt l_d_hi
  clear l_d_hi
  have l_x_hi := Qx.lt X_x
  have m_x_hi := not_eq_lt l_x_hi
  have m_hi_x := not_eq_gt l_x_hi
  clear l_x_hi
  have l_lo_hi := Qx.lt X_lo
  have m_lo_hi := not_eq_lt l_lo_hi
  have m_hi_lo := not_eq_gt l_lo_hi
  clear l_lo_hi
  replace F_d := Qf.below F_d (Qx.lt X_d) hd
  replace X_d := Qx.below X_d hd
  replace F_x := Qf.below F_x (Qx.lt X_x) hd
  replace X_x := Qx.below X_x hd
  replace F_lo := Qf.below F_lo (Qx.lt X_lo) hd
  replace X_lo := Qx.below X_lo hd
  replace R_x := Lib.hid (R_x.out.below hd)
  replace R_lo := Lib.hid (R_lo.out.below hd)
  replace R_hi := Lib.hid (R_hi.out.below hd)
  have X_hi := Qx.new w7 (.bool p.neg) (.slice xhi (dg 1000000000 p.m).length yhi) (.int .i64 p.e) 24
  have F_hi := Qf.new w7 (.bool p.neg) (.slice xhi (dg 1000000000 p.m).length yhi) (.int .i64 p.e) 24
  clear hd b7
  obtain ⟨kd0, kd1, kd2⟩ := X_d.out
  go_wp2_with fail
  clear kd0 kd1 kd2
  refine (HCu.out _ b8).mono ?_
  rintro r w9 ⟨xcu, ycu, rfl, ho, hc⟩
  have b9 := b8.trans (hc.mono b8.size)
  replace F_d := Qf.below F_d (Qx.lt X_d) hc
  replace X_d := Qx.below X_d hc
  replace F_x := Qf.below F_x (Qx.lt X_x) hc
  replace X_x := Qx.below X_x hc
  replace F_lo := Qf.below F_lo (Qx.lt X_lo) hc
  replace X_lo := Qx.below X_lo hc
  replace F_hi := Qf.below F_hi (Qx.lt X_hi) hc
  replace X_hi := Qx.below X_hi hc
  replace R_x := Lib.hid (R_x.out.below hc)
  replace R_lo := Lib.hid (R_lo.out.below hc)
  replace R_hi := Lib.hid (R_hi.out.below hc)
  clear hc b8
  have R_cu := Lib.hid ho
  clear ho
  have z_cu := b9.size
  have hd := (Below.refl w9.heap.size w9).alloc (Nat.le_refl _) (.cells #[.bool p.neg, .slice xcu (dg 1000000000 p.m).length ycu, .int .i64 p.e] 24)
  have b10 := b9.trans (hd.mono b9.size)
  have l_d_cu := Qx.lt X_d
  have m_d_cu := not_eq_lt l_d_cu
  have m_cu_d := not_eq_gt l_d_cu
  clear l_d_cu
  have l_x_cu := Qx.lt X_x
  have m_x_cu := not_eq_lt l_x_cu
  have m_cu_x := not_eq_gt l_x_cu
  clear l_x_cu
  have l_lo_cu := Qx.lt X_lo
  have m_lo_cu := not_eq_lt l_lo_cu
  have m_cu_lo := not_eq_gt l_lo_cu
  clear l_lo_cu
  have l_hi_cu := Qx.lt X_hi
  have m_hi_cu := not_eq_lt l_hi_cu
  have m_cu_hi := not_eq_gt l_hi_cu
  clear l_hi_cu
  replace F_d := Qf.below F_d (Qx.lt X_d) hd
  replace X_d := Qx.below X_d hd
  replace F_x := Qf.below F_x (Qx.lt X_x) hd
  replace X_x := Qx.below X_x hd
  replace F_lo := Qf.below F_lo (Qx.lt X_lo) hd
  replace X_lo := Qx.below X_lo hd
  replace F_hi := Qf.below F_hi (Qx.lt X_hi) hd
  replace X_hi := Qx.below X_hi hd
  replace R_x := Lib.hid (R_x.out.below hd)
  replace R_lo := Lib.hid (R_lo.out.below hd)
  replace R_hi := Lib.hid (R_hi.out.below hd)
  replace R_cu := Lib.hid (R_cu.out.below hd)
  have X_cu := Qx.new w9 (.bool p.neg) (.slice xcu (dg 1000000000 p.m).length ycu) (.int .i64 p.e) 24
  have F_cu := Qf.new w9 (.bool p.neg) (.slice xcu (dg 1000000000 p.m).length ycu) (.int .i64 p.e) 24
  clear hd b9
  obtain ⟨kd0, kd1, kd2⟩ := X_d.out
  go_wp2_with fail
  clear kd0 kd1 kd2
  refine (HNe.out _ b10).mono ?_
  rintro r w11 ⟨xne, yne, rfl, ho, hc⟩
  have b11 := b10.trans (hc.mono b10.size)
  replace F_d := Qf.below F_d (Qx.lt X_d) hc
  replace X_d := Qx.below X_d hc
  replace F_x := Qf.below F_x (Qx.lt X_x) hc
  replace X_x := Qx.below X_x hc
  replace F_lo := Qf.below F_lo (Qx.lt X_lo) hc
  replace X_lo := Qx.below X_lo hc
  replace F_hi := Qf.below F_hi (Qx.lt X_hi) hc
  replace X_hi := Qx.below X_hi hc
  replace F_cu := Qf.below F_cu (Qx.lt X_cu) hc
  replace X_cu := Qx.below X_cu hc
  replace R_x := Lib.hid (R_x.out.below hc)
  replace R_lo := Lib.hid (R_lo.out.below hc)
  replace R_hi := Lib.hid (R_hi.out.below hc)
  replace R_cu := Lib.hid (R_cu.out.below hc)
  clear hc b10
  have R_ne := Lib.hid ho
  clear ho
  have z_ne := b11.size
  have hd := (Below.refl w11.heap.size w11).alloc (Nat.le_refl _) (.cells #[.bool p.neg, .slice xne (dg 1000000000 p.m).length yne, .int .i64 p.e] 24)
  have b12 := b11.trans (hd.mono b11.size)
  have l_d_ne := Qx.lt X_d
  have m_d_ne := not_eq_lt l_d_ne
  have m_ne_d := not_eq_gt l_d_ne
  clear l_d_ne
  have l_x_ne := Qx.lt X_x
  have m_x_ne := not_eq_lt l_x_ne
  have m_ne_x := not_eq_gt l_x_ne
  clear l_x_ne
  have l_lo_ne := Qx.lt X_lo
  have m_lo_ne := not_eq_lt l_lo_ne
  have m_ne_lo := not_eq_gt l_lo_ne
  clear l_lo_ne
  have l_hi_ne := Qx.lt X_hi
  have m_hi_ne := not_eq_lt l_hi_ne
  have m_ne_hi := not_eq_gt l_hi_ne
  clear l_hi_ne
  have l_cu_ne := Qx.lt X_cu
  have m_cu_ne := not_eq_lt l_cu_ne
  have m_ne_cu := not_eq_gt l_cu_ne
  clear l_cu_ne
  replace F_d := Qf.below F_d (Qx.lt X_d) hd
  replace X_d := Qx.below X_d hd
  replace F_x := Qf.below F_x (Qx.lt X_x) hd
  replace X_x := Qx.below X_x hd
  replace F_lo := Qf.below F_lo (Qx.lt X_lo) hd
  replace X_lo := Qx.below X_lo hd
  replace F_hi := Qf.below F_hi (Qx.lt X_hi) hd
  replace X_hi := Qx.below X_hi hd
  replace F_cu := Qf.below F_cu (Qx.lt X_cu) hd
  replace X_cu := Qx.below X_cu hd
  replace R_x := Lib.hid (R_x.out.below hd)
  replace R_lo := Lib.hid (R_lo.out.below hd)
  replace R_hi := Lib.hid (R_hi.out.below hd)
  replace R_cu := Lib.hid (R_cu.out.below hd)
  replace R_ne := Lib.hid (R_ne.out.below hd)
  have X_ne := Qx.new w11 (.bool p.neg) (.slice xne (dg 1000000000 p.m).length yne) (.int .i64 p.e) 24
  have F_ne := Qf.new w11 (.bool p.neg) (.slice xne (dg 1000000000 p.m).length yne) (.int .i64 p.e) 24
  clear hd b11
  obtain ⟨kd0, kd1, kd2⟩ := X_d.out
  go_wp2_with fail
  clear kd0 kd1 kd2
  refine (HNg.out _ b12).mono ?_
  rintro r w13 ⟨xng, yng, rfl, ho, hc⟩
  have b13 := b12.trans (hc.mono b12.size)
  replace F_d := Qf.below F_d (Qx.lt X_d) hc
  replace X_d := Qx.below X_d hc
  replace F_x := Qf.below F_x (Qx.lt X_x) hc
  replace X_x := Qx.below X_x hc
  replace F_lo := Qf.below F_lo (Qx.lt X_lo) hc
  replace X_lo := Qx.below X_lo hc
  replace F_hi := Qf.below F_hi (Qx.lt X_hi) hc
  replace X_hi := Qx.below X_hi hc
  replace F_cu := Qf.below F_cu (Qx.lt X_cu) hc
  replace X_cu := Qx.below X_cu hc
  replace F_ne := Qf.below F_ne (Qx.lt X_ne) hc
  replace X_ne := Qx.below X_ne hc
  replace R_x := Lib.hid (R_x.out.below hc)
  replace R_lo := Lib.hid (R_lo.out.below hc)
  replace R_hi := Lib.hid (R_hi.out.below hc)
  replace R_cu := Lib.hid (R_cu.out.below hc)
  replace R_ne := Lib.hid (R_ne.out.below hc)
  clear hc b12
  have R_ng := Lib.hid ho
  clear ho
  have z_ng := b13.size
  have hd := (Below.refl w13.heap.size w13).alloc (Nat.le_refl _) (.cells #[.bool fp.neg, .slice xng (dg 1000000000 fp.m).length yng, .int .i64 fp.e] 24)
  have b14 := b13.trans (hd.mono b13.size)
  have l_d_ng := Qx.lt X_d
  have m_d_ng := not_eq_lt l_d_ng
  have m_ng_d := not_eq_gt l_d_ng
  clear l_d_ng
  have l_x_ng := Qx.lt X_x
  have m_x_ng := not_eq_lt l_x_ng
  have m_ng_x := not_eq_gt l_x_ng
  clear l_x_ng
  have l_lo_ng := Qx.lt X_lo
  have m_lo_ng := not_eq_lt l_lo_ng
  have m_ng_lo := not_eq_gt l_lo_ng
  clear l_lo_ng
  have l_hi_ng := Qx.lt X_hi
  have m_hi_ng := not_eq_lt l_hi_ng
  have m_ng_hi := not_eq_gt l_hi_ng
  clear l_hi_ng
  have l_cu_ng := Qx.lt X_cu
  have m_cu_ng := not_eq_lt l_cu_ng
  have m_ng_cu := not_eq_gt l_cu_ng
  clear l_cu_ng
  have l_ne_ng := Qx.lt X_ne
  have m_ne_ng := not_eq_lt l_ne_ng
  have m_ng_ne := not_eq_gt l_ne_ng
  clear l_ne_ng
  replace F_d := Qf.below F_d (Qx.lt X_d) hd
  replace X_d := Qx.below X_d hd
  replace F_x := Qf.below F_x (Qx.lt X_x) hd
  replace X_x := Qx.below X_x hd
  replace F_lo := Qf.below F_lo (Qx.lt X_lo) hd
  replace X_lo := Qx.below X_lo hd
  replace F_hi := Qf.below F_hi (Qx.lt X_hi) hd
  replace X_hi := Qx.below X_hi hd
  replace F_cu := Qf.below F_cu (Qx.lt X_cu) hd
  replace X_cu := Qx.below X_cu hd
  replace F_ne := Qf.below F_ne (Qx.lt X_ne) hd
  replace X_ne := Qx.below X_ne hd
  replace R_x := Lib.hid (R_x.out.below hd)
  replace R_lo := Lib.hid (R_lo.out.below hd)
  replace R_hi := Lib.hid (R_hi.out.below hd)
  replace R_cu := Lib.hid (R_cu.out.below hd)
  replace R_ne := Lib.hid (R_ne.out.below hd)
  replace R_ng := Lib.hid (R_ng.out.below hd)
  have X_ng := Qx.new w13 (.bool fp.neg) (.slice xng (dg 1000000000 fp.m).length yng) (.int .i64 fp.e) 24
  have F_ng := Qf.new w13 (.bool fp.neg) (.slice xng (dg 1000000000 fp.m).length yng) (.int .i64 fp.e) 24
  clear hd b13
  obtain ⟨kd0, kd1, kd2⟩ := X_d.out
  go_wp2_with fail
  clear kd0 kd1 kd2
  refine (HWh.out _ b14).mono ?_
  rintro r w15 ⟨rfl, hc⟩
  have b15 := b14.trans (hc.mono b14.size)
  replace F_d := Qf.below F_d (Qx.lt X_d) hc
  replace X_d := Qx.below X_d hc
  replace F_x := Qf.below F_x (Qx.lt X_x) hc
  replace X_x := Qx.below X_x hc
  replace F_lo := Qf.below F_lo (Qx.lt X_lo) hc
  replace X_lo := Qx.below X_lo hc
  replace F_hi := Qf.below F_hi (Qx.lt X_hi) hc
  replace X_hi := Qx.below X_hi hc
  replace F_cu := Qf.below F_cu (Qx.lt X_cu) hc
  replace X_cu := Qx.below X_cu hc
  replace F_ne := Qf.below F_ne (Qx.lt X_ne) hc
  replace X_ne := Qx.below X_ne hc
  replace F_ng := Qf.below F_ng (Qx.lt X_ng) hc
  replace X_ng := Qx.below X_ng hc
  replace R_x := Lib.hid (R_x.out.below hc)
  replace R_lo := Lib.hid (R_lo.out.below hc)
  replace R_hi := Lib.hid (R_hi.out.below hc)
  replace R_cu := Lib.hid (R_cu.out.below hc)
  replace R_ne := Lib.hid (R_ne.out.below hc)
  replace R_ng := Lib.hid (R_ng.out.below hc)
  clear hc b14
  clear X_d F_d
  clear X_ng F_ng
  clear R_ng
  obtain ⟨klo0, klo1, klo2⟩ := X_lo.out
  obtain ⟨kx0, kx1, kx2⟩ := X_x.out
  go_wp2_with fail
  clear klo0 klo1 klo2 kx0 kx1 kx2
  refine (HSm.out _ _ _ _ _ R_lo.out R_x.out).mono ?_
  rintro r w16 ⟨rfl, hc⟩
  have b16 := b15.trans (hc.mono b15.size)
  replace F_x := Qf.below F_x (Qx.lt X_x) hc
  replace X_x := Qx.below X_x hc
  replace F_lo := Qf.below F_lo (Qx.lt X_lo) hc
  replace X_lo := Qx.below X_lo hc
  replace F_hi := Qf.below F_hi (Qx.lt X_hi) hc
  replace X_hi := Qx.below X_hi hc
  replace F_cu := Qf.below F_cu (Qx.lt X_cu) hc
  replace X_cu := Qx.below X_cu hc
  replace F_ne := Qf.below F_ne (Qx.lt X_ne) hc
  replace X_ne := Qx.below X_ne hc
  replace R_x := Lib.hid (R_x.out.below hc)
  replace R_lo := Lib.hid (R_lo.out.below hc)
  replace R_hi := Lib.hid (R_hi.out.below hc)
  replace R_cu := Lib.hid (R_cu.out.below hc)
  replace R_ne := Lib.hid (R_ne.out.below hc)
  clear hc b15
  clear X_lo F_lo
  clear R_lo
  obtain ⟨khi0, khi1, khi2⟩ := X_hi.out
  obtain ⟨kx0, kx1, kx2⟩ := X_x.out
  go_wp2_with fail
  clear khi0 khi1 khi2 kx0 kx1 kx2
  refine (HSm.out _ _ _ _ _ R_hi.out R_x.out).mono ?_
  rintro r w17 ⟨rfl, hc⟩
  have b17 := b16.trans (hc.mono b16.size)
  replace F_x := Qf.below F_x (Qx.lt X_x) hc
  replace X_x := Qx.below X_x hc
  replace F_hi := Qf.below F_hi (Qx.lt X_hi) hc
  replace X_hi := Qx.below X_hi hc
  replace F_cu := Qf.below F_cu (Qx.lt X_cu) hc
  replace X_cu := Qx.below X_cu hc
  replace F_ne := Qf.below F_ne (Qx.lt X_ne) hc
  replace X_ne := Qx.below X_ne hc
  replace R_x := Lib.hid (R_x.out.below hc)
  replace R_hi := Lib.hid (R_hi.out.below hc)
  replace R_cu := Lib.hid (R_cu.out.below hc)
  replace R_ne := Lib.hid (R_ne.out.below hc)
  clear hc b16
  clear X_hi F_hi
  clear R_hi
  obtain ⟨kcu0, kcu1, kcu2⟩ := X_cu.out
  obtain ⟨kx0, kx1, kx2⟩ := X_x.out
  go_wp2_with fail
  clear kcu0 kcu1 kcu2 kx0 kx1 kx2
  refine (HSm.out _ _ _ _ _ R_cu.out R_x.out).mono ?_
  rintro r w18 ⟨rfl, hc⟩
  have b18 := b17.trans (hc.mono b17.size)
  replace F_x := Qf.below F_x (Qx.lt X_x) hc
  replace X_x := Qx.below X_x hc
  replace F_cu := Qf.below F_cu (Qx.lt X_cu) hc
  replace X_cu := Qx.below X_cu hc
  replace F_ne := Qf.below F_ne (Qx.lt X_ne) hc
  replace X_ne := Qx.below X_ne hc
  replace R_x := Lib.hid (R_x.out.below hc)
  replace R_cu := Lib.hid (R_cu.out.below hc)
  replace R_ne := Lib.hid (R_ne.out.below hc)
  clear hc b17
  clear X_cu F_cu
  clear R_cu
  obtain ⟨kne0, kne1, kne2⟩ := X_ne.out
  obtain ⟨kx0, kx1, kx2⟩ := X_x.out
  go_wp2_with fail
  clear kne0 kne1 kne2 kx0 kx1 kx2
  refine (HSm.out _ _ _ _ _ R_ne.out R_x.out).mono ?_
  rintro r w19 ⟨rfl, hc⟩
  have b19 := b18.trans (hc.mono b18.size)
  replace F_x := Qf.below F_x (Qx.lt X_x) hc
  replace X_x := Qx.below X_x hc
  replace F_ne := Qf.below F_ne (Qx.lt X_ne) hc
  replace X_ne := Qx.below X_ne hc
  replace R_x := Lib.hid (R_x.out.below hc)
  replace R_ne := Lib.hid (R_ne.out.below hc)
  clear hc b18
  clear X_ne F_ne
  clear R_ne
  have B_ := Lib.hid b19
  clear b19
  go_wp2
  go_ret
  exact ⟨rfl, B_.out⟩
set_option maxHeartbeats 16000000 in
set_option maxRecDepth 20000 in
theorem between_part (s1 : Bool) (a1 : Option Addr) (c1 : Nat) (l1 : List Nat) (e1 : Int) (w : World) (h1 : l1.length ≤ 9223372036854775807) (hlo1 : Lo 4294967296 l1) (hr1 : Rd w .u32 a1 l1) (htab : Tab w) (h0 : (normA l1.length s1 (vl 1000000000 l1) e1).err = 0) (h9 : (normA l1.length s1 (vl 1000000000 l1) e1).p.e < 0) :
    Calls Tryz.prog 8 #[.agg #[.bool s1, .slice a1 l1.length c1, .int .i64 e1]] w fun r w' => r = .returned (.bool true) ∧ Below w.heap.size w w' := by
  have hS := fun W (hb : Below w.heap.size w W) => shown_any W (htab.below hb)
  have hN := fun W (hb : Below w.heap.size w W) => DNorm_any s1 a1 c1 l1 e1 W h1 hlo1 (hr1.below' (w' := W) hb (Nat.le_refl _)) (htab.below hb)
  have hLo := fun W (hb : Below w.heap.size w W) => Floor_any s1 a1 c1 l1 e1 W h1 hlo1 (hr1.below' (w' := W) hb (Nat.le_refl _)) (htab.below hb)
  have hHi := fun W (hb : Below w.heap.size w W) => Ceil_any s1 a1 c1 l1 e1 W h1 hlo1 (hr1.below' (w' := W) hb (Nat.le_refl _)) (htab.below hb)
  have hCu := fun W (hb : Below w.heap.size w W) => Trunc_any s1 a1 c1 l1 e1 W h1 hlo1 (hr1.below' (w' := W) hb (Nat.le_refl _)) (htab.below hb)
  have hNe := fun W (hb : Below w.heap.size w W) => Round_any s1 a1 c1 l1 e1 W h1 hlo1 (hr1.below' (w' := W) hb (Nat.le_refl _)) (htab.below hb)
  have hNg := fun W (hb : Below w.heap.size w W) => DNeg_any s1 a1 c1 l1 e1 W h1 hlo1 (hr1.below' (w' := W) hb (Nat.le_refl _)) (htab.below hb)
  have pA := normA_plain l1.length s1 (vl 1000000000 l1) e1
  have iA := normA_in l1.length s1 (vl 1000000000 l1) e1
  rw [normA_flip, if_pos h0, h0] at hNg
  have hA0 : (normA l1.length s1 (vl 1000000000 l1) e1) = ⟨0, (normA l1.length s1 (vl 1000000000 l1) e1).p⟩ := by
    cases hq : (normA l1.length s1 (vl 1000000000 l1) e1) with
    | mk er pp => rw [hq] at h0; cases h0; rfl
  rw [hA0] at hN hLo hHi hCu hNe
  generalize (normA l1.length s1 (vl 1000000000 l1) e1).p = p at *
  rw [toWA_ok rfl] at hLo hHi hCu hNe
  have hN := fun W hb => (hN W hb).mono fun _ _ h => (ResA.y h).ok
  have hNg := fun W hb => (hNg W hb).mono fun _ _ h => (ResA.y h).ok
  have hLo := fun W hb => (hLo W hb).mono fun _ _ h => ResY.ok h
  have hHi := fun W hb => (hHi W hb).mono fun _ _ h => ResY.ok h
  have hCu := fun W hb => (hCu W hb).mono fun _ _ h => ResY.ok h
  have hNe := fun W hb => (hNe W hb).mono fun _ _ h => ResY.ok h
  have hWh := fun W (hb : Below w.heap.size w W) => Whole_any s1 a1 c1 l1 e1 W h1 hlo1 (hr1.below' (w' := W) hb (Nat.le_refl _)) (htab.below hb)
  rw [hA0] at hWh
  dsimp only at hLo hHi hCu hNe
  rw [show (decide ((0 : Nat) = 0) && decide (0 ≤ p.e)) = false by simp; omega] at hWh
  obtain ⟨hl1, hl2⟩ := cut_lt pA h9
  obtain ⟨ho1, ho2⟩ := cut_one pA h9
  have hnx := cut_next pA h9 (q := k1) rfl
  have hfl := cut_flip pA h9
  have pL := cutP_plain (way := 1) pA
  have iL := cutP_in (way := 1) iA
  have wL := cutP_whole 1 p
  have pH := cutP_plain (way := 2) pA
  have iH := cutP_in (way := 2) iA
  have wH := cutP_whole 2 p
  have iC := cutP_in (way := 0) iA
  have iE := cutP_in (way := 3) iA
  have pF := flip_plain pA
  have iF : inR (flipP p) = true := by rw [inR_flip]; exact iA
  have hFl := fun a c W r ht => Floor_any (flipP p).neg a c (dg 1000000000 (flipP p).m) (flipP p).e W (few_pl iF) (lo_pl _) r ht
  rw [norm_plain' pF iF, toWA_ok rfl] at hFl
  dsimp only at hFl
  rw [hfl] at hFl
  have hFl := fun a c W r ht => (hFl a c W r ht).mono fun _ _ h => ResY.ok h
  have hNh := fun a c W r ht => DNeg_any (cutP 2 p).neg a c (dg 1000000000 (cutP 2 p).m) (cutP 2 p).e W (few_pl iH) (lo_pl _) r ht
  rw [norm_flip pH iH] at hNh
  have hNh := fun a c W r ht => (hNh a c W r ht).mono fun _ _ h => (ResA.y h).ok
  have hAd := fun a c b d W r1 ht r2 => cAddPP pL iL a c W r1 ht k1_ok.1 k1_ok.2 b d r2
  have iN := (by have h := addA_in' ⟨0, cutP 1 p⟩ ⟨0, k1⟩; unfold addA at h; rw [if_pos (okP0 _ _)] at h; exact h : inR (addV (cutP 1 p) k1).p = true)
  have hC1 := fun a c b d W r1 ht r2 => cCmpPP pL iL a c W r1 ht pA iA b d r2
  have hC2 := fun a c b d W r1 ht r2 => cCmpPP pA iA a c W r1 ht pH iH b d r2
  have hWl := fun a c W r ht => Whole_any (cutP 1 p).neg a c (dg 1000000000 (cutP 1 p).m) (cutP 1 p).e W (few_pl iL) (lo_pl _) r ht
  rw [norm_plain' pL iL, show (decide ((⟨0, cutP 1 p⟩ : Ans).err = 0) && decide (0 ≤ (⟨0, cutP 1 p⟩ : Ans).p.e)) = true by simp [wL]] at hWl
  have hWu := fun a c W r ht => Whole_any (cutP 2 p).neg a c (dg 1000000000 (cutP 2 p).m) (cutP 2 p).e W (few_pl iH) (lo_pl _) r ht
  rw [norm_plain' pH iH, show (decide ((⟨0, cutP 2 p⟩ : Ans).err = 0) && decide (0 ≤ (⟨0, cutP 2 p⟩ : Ans).p.e)) = true by simp [wH]] at hWu
  have iFH : inR (flipP (cutP 2 p)) = true := by rw [inR_flip]; exact iH
  have hSm := fun (u v : Pl) (iu : inR u = true) (iv : inR v = true) a b c d W r1 r2 => cSamePP iu iv a b c d W r1 r2
  generalize flipP (cutP 2 p) = FH at *
  generalize cutP 0 p = CU at *
  generalize cutP 1 p = LO at *
  generalize cutP 2 p = HI at *
  generalize cutP 3 p = NE at *
  generalize addV LO k1 = D at *
  generalize flipP p = FP at *
  generalize cmpP LO p = m1 at *
  generalize cmpP p HI = m2 at *
  have hSc := fun a b c d W r1 r2 => hSm CU LO iC iL a b c d W r1 r2
  have hSc2 := fun a b c d W r1 r2 => hSm CU HI iC iH a b c d W r1 r2
  have hSe := fun a b c d W r1 r2 => hSm NE LO iE iL a b c d W r1 r2
  have hSe2 := fun a b c d W r1 r2 => hSm NE HI iE iH a b c d W r1 r2
  have hSn := fun a b c d W r1 r2 => hSm D.p HI iN iH a b c d W r1 r2
  have hSf := fun a b c d W r1 r2 => hSm FH FH iFH iFH a b c d W r1 r2
  rw [decide_eq_true rfl] at hSf
  have f1 : decide (CU = LO) = true ∨ (decide (CU = LO) = false ∧ decide (CU = HI) = true) := by
    by_cases h : CU = LO
    · exact .inl (decide_eq_true h)
    · exact .inr ⟨decide_eq_false h, decide_eq_true (ho1.resolve_left h)⟩
  have f2 : decide (NE = LO) = true ∨ (decide (NE = LO) = false ∧ decide (NE = HI) = true) := by
    by_cases h : NE = LO
    · exact .inl (decide_eq_true h)
    · exact .inr ⟨decide_eq_false h, decide_eq_true (ho2.resolve_left h)⟩
  have f3 : ((D.err : Int) != 0) = true ∨ (((D.err : Int) != 0) = false ∧ decide (D.p = HI) = true) := by
    by_cases h : D.err = 0
    · exact .inr ⟨by simp [h], decide_eq_true (hnx h)⟩
    · exact .inl (by simp [h])
  generalize decide (CU = LO) = u1 at *
  generalize decide (CU = HI) = u2 at *
  generalize decide (NE = LO) = u3 at *
  generalize decide (NE = HI) = u4 at *
  generalize decide (D.p = HI) = u5 at *
  have hO1 := fun W ht => sOf1 W ht
  have HS := Lib.hid hS; have HN := Lib.hid hN; have HLo := Lib.hid hLo; have HHi := Lib.hid hHi; have HCu := Lib.hid hCu; have HNe := Lib.hid hNe; have HNg := Lib.hid hNg; have HWh := Lib.hid hWh; have HT := Lib.hid htab
  have HFl := Lib.hid hFl; have HNh := Lib.hid hNh; have HAd := Lib.hid hAd; have HC1 := Lib.hid hC1; have HC2 := Lib.hid hC2; have HWl := Lib.hid hWl; have HWu := Lib.hid hWu; have HSc := Lib.hid hSc; have HSc2 := Lib.hid hSc2; have HSe := Lib.hid hSe; have HSe2 := Lib.hid hSe2; have HSn := Lib.hid hSn; have HSf := Lib.hid hSf; have HF1 := Lib.hid f1; have HF2 := Lib.hid f2; have HF3 := Lib.hid f3
  clear hS hN hLo hHi hCu hNe hNg hWh hFl hNh hAd hC1 hC2 hWl hWu hSc hSc2 hSe hSe2 hSn hSf hSm f1 f2 f3 hnx hfl ho1 ho2 hO1 htab hr1 hlo1 h0 h9 hA0 pA iA pL iL wL pH iH wH iC iE pF iF iN iFH
  go_enter Tryz.func8, Tryz.ntmps8
  have b1 := ((Below.refl w.heap.size w).alloc (Nat.le_refl _) (.cells #[.bool s1, .slice a1 l1.length c1, .int .i64 e1] 24))
  have X_d := (Qx.new w (.bool s1) (.slice a1 l1.length c1) (.int .i64 e1) 24)
  have F_d := (Qf.new w (.bool s1) (.slice a1 l1.length c1) (.int .i64 e1) 24)
  go_wp2_with fail
  refine (HS.out _ b1).mono ?_
  rintro r w2 ⟨rfl, hc⟩
  have b2 := b1.trans (hc.mono b1.size)
  replace F_d := Qf.below F_d (Qx.lt X_d) hc
  replace X_d := Qx.below X_d hc
  clear hc b1
  obtain ⟨kd0, kd1, kd2⟩ := X_d.out
  go_wp2_with fail
  clear kd0 kd1 kd2
  refine (HN.out _ b2).mono ?_
  rintro r w3 ⟨xx, yx, rfl, ho, hc⟩
  have b3 := b2.trans (hc.mono b2.size)
  replace F_d := Qf.below F_d (Qx.lt X_d) hc
  replace X_d := Qx.below X_d hc
  clear hc b2
  have R_x := Lib.hid ho
  clear ho
  have z_x := b3.size
  have hd := (Below.refl w3.heap.size w3).alloc (Nat.le_refl _) (.cells #[.bool p.neg, .slice xx (dg 1000000000 p.m).length yx, .int .i64 p.e] 24)
  have b4 := b3.trans (hd.mono b3.size)
  have l_d_x := Qx.lt X_d
  have m_d_x := not_eq_lt l_d_x
  have m_x_d := not_eq_gt l_d_x
  clear l_d_x
  replace F_d := Qf.below F_d (Qx.lt X_d) hd
  replace X_d := Qx.below X_d hd
  replace R_x := Lib.hid (R_x.out.below hd)
  have X_x := Qx.new w3 (.bool p.neg) (.slice xx (dg 1000000000 p.m).length yx) (.int .i64 p.e) 24
  have F_x := Qf.new w3 (.bool p.neg) (.slice xx (dg 1000000000 p.m).length yx) (.int .i64 p.e) 24
  clear hd b3
  obtain ⟨kd0, kd1, kd2⟩ := X_d.out
  go_wp2_with fail
  clear kd0 kd1 kd2
  refine (HLo.out _ b4).mono ?_
  rintro r w5 ⟨xlo, ylo, rfl, ho, hc⟩
  have b5 := b4.trans (hc.mono b4.size)
  replace F_d := Qf.below F_d (Qx.lt X_d) hc
  replace X_d := Qx.below X_d hc
  replace F_x := Qf.below F_x (Qx.lt X_x) hc
  replace X_x := Qx.below X_x hc
  replace R_x := Lib.hid (R_x.out.below hc)
  clear hc b4
  have R_lo := Lib.hid ho
  clear ho
  have z_lo := b5.size
  have hd := (Below.refl w5.heap.size w5).alloc (Nat.le_refl _) (.cells #[.bool LO.neg, .slice xlo (dg 1000000000 LO.m).length ylo, .int .i64 LO.e] 24)
  have b6 := b5.trans (hd.mono b5.size)
  have l_d_lo := Qx.lt X_d
  have m_d_lo := not_eq_lt l_d_lo
  have m_lo_d := not_eq_gt l_d_lo
  clear l_d_lo
  have l_x_lo := Qx.lt X_x
  have m_x_lo := not_eq_lt l_x_lo
  have m_lo_x := not_eq_gt l_x_lo
  clear l_x_lo
  replace F_d := Qf.below F_d (Qx.lt X_d) hd
  replace X_d := Qx.below X_d hd
  replace F_x := Qf.below F_x (Qx.lt X_x) hd
  replace X_x := Qx.below X_x hd
  replace R_x := Lib.hid (R_x.out.below hd)
  replace R_lo := Lib.hid (R_lo.out.below hd)
  have X_lo := Qx.new w5 (.bool LO.neg) (.slice xlo (dg 1000000000 LO.m).length ylo) (.int .i64 LO.e) 24
  have F_lo := Qf.new w5 (.bool LO.neg) (.slice xlo (dg 1000000000 LO.m).length ylo) (.int .i64 LO.e) 24
  clear hd b5
  obtain ⟨kd0, kd1, kd2⟩ := X_d.out
  go_wp2_with fail
  clear kd0 kd1 kd2
  refine (HHi.out _ b6).mono ?_
  rintro r w7 ⟨xhi, yhi, rfl, ho, hc⟩
  have b7 := b6.trans (hc.mono b6.size)
  replace F_d := Qf.below F_d (Qx.lt X_d) hc
  replace X_d := Qx.below X_d hc
  replace F_x := Qf.below F_x (Qx.lt X_x) hc
  replace X_x := Qx.below X_x hc
  replace F_lo := Qf.below F_lo (Qx.lt X_lo) hc
  replace X_lo := Qx.below X_lo hc
  replace R_x := Lib.hid (R_x.out.below hc)
  replace R_lo := Lib.hid (R_lo.out.below hc)
  clear hc b6
  have R_hi := Lib.hid ho
  clear ho
  have z_hi := b7.size
  have hd := (Below.refl w7.heap.size w7).alloc (Nat.le_refl _) (.cells #[.bool HI.neg, .slice xhi (dg 1000000000 HI.m).length yhi, .int .i64 HI.e] 24)
  have b8 := b7.trans (hd.mono b7.size)
  have l_d_hi := Qx.lt X_d
  have m_d_hi := not_eq_lt l_d_hi
  have m_hi_d := not_eq_gt l_d_hi
  clear l_d_hi
  have l_x_hi := Qx.lt X_x
  have m_x_hi := not_eq_lt l_x_hi
  have m_hi_x := not_eq_gt l_x_hi
  clear l_x_hi
  have l_lo_hi := Qx.lt X_lo
  have m_lo_hi := not_eq_lt l_lo_hi
  have m_hi_lo := not_eq_gt l_lo_hi
  clear l_lo_hi
  replace F_d := Qf.below F_d (Qx.lt X_d) hd
  replace X_d := Qx.below X_d hd
  replace F_x := Qf.below F_x (Qx.lt X_x) hd
  replace X_x := Qx.below X_x hd
  replace F_lo := Qf.below F_lo (Qx.lt X_lo) hd
  replace X_lo := Qx.below X_lo hd
  replace R_x := Lib.hid (R_x.out.below hd)
  replace R_lo := Lib.hid (R_lo.out.below hd)
  replace R_hi := Lib.hid (R_hi.out.below hd)
  have X_hi := Qx.new w7 (.bool HI.neg) (.slice xhi (dg 1000000000 HI.m).length yhi) (.int .i64 HI.e) 24
  have F_hi := Qf.new w7 (.bool HI.neg) (.slice xhi (dg 1000000000 HI.m).length yhi) (.int .i64 HI.e) 24
  clear hd b7
  obtain ⟨kd0, kd1, kd2⟩ := X_d.out
  go_wp2_with fail
  clear kd0 kd1 kd2
  refine (HCu.out _ b8).mono ?_
  rintro r w9 ⟨xcu, ycu, rfl, ho, hc⟩
  have b9 := b8.trans (hc.mono b8.size)
  replace F_d := Qf.below F_d (Qx.lt X_d) hc
  replace X_d := Qx.below X_d hc
  replace F_x := Qf.below F_x (Qx.lt X_x) hc
  replace X_x := Qx.below X_x hc
  replace F_lo := Qf.below F_lo (Qx.lt X_lo) hc
  replace X_lo := Qx.below X_lo hc
  replace F_hi := Qf.below F_hi (Qx.lt X_hi) hc
  replace X_hi := Qx.below X_hi hc
  replace R_x := Lib.hid (R_x.out.below hc)
  replace R_lo := Lib.hid (R_lo.out.below hc)
  replace R_hi := Lib.hid (R_hi.out.below hc)
  clear hc b8
  have R_cu := Lib.hid ho
  clear ho
  have z_cu := b9.size
  have hd := (Below.refl w9.heap.size w9).alloc (Nat.le_refl _) (.cells #[.bool CU.neg, .slice xcu (dg 1000000000 CU.m).length ycu, .int .i64 CU.e] 24)
  have b10 := b9.trans (hd.mono b9.size)
  have l_d_cu := Qx.lt X_d
  have m_d_cu := not_eq_lt l_d_cu
  have m_cu_d := not_eq_gt l_d_cu
  clear l_d_cu
  have l_x_cu := Qx.lt X_x
  have m_x_cu := not_eq_lt l_x_cu
  have m_cu_x := not_eq_gt l_x_cu
  clear l_x_cu
  have l_lo_cu := Qx.lt X_lo
  have m_lo_cu := not_eq_lt l_lo_cu
  have m_cu_lo := not_eq_gt l_lo_cu
  clear l_lo_cu
  have l_hi_cu := Qx.lt X_hi
  have m_hi_cu := not_eq_lt l_hi_cu
  have m_cu_hi := not_eq_gt l_hi_cu
  clear l_hi_cu
  replace F_d := Qf.below F_d (Qx.lt X_d) hd
  replace X_d := Qx.below X_d hd
  replace F_x := Qf.below F_x (Qx.lt X_x) hd
  replace X_x := Qx.below X_x hd
  replace F_lo := Qf.below F_lo (Qx.lt X_lo) hd
  replace X_lo := Qx.below X_lo hd
  replace F_hi := Qf.below F_hi (Qx.lt X_hi) hd
  replace X_hi := Qx.below X_hi hd
  replace R_x := Lib.hid (R_x.out.below hd)
  replace R_lo := Lib.hid (R_lo.out.below hd)
  replace R_hi := Lib.hid (R_hi.out.below hd)
  replace R_cu := Lib.hid (R_cu.out.below hd)
  have X_cu := Qx.new w9 (.bool CU.neg) (.slice xcu (dg 1000000000 CU.m).length ycu) (.int .i64 CU.e) 24
  have F_cu := Qf.new w9 (.bool CU.neg) (.slice xcu (dg 1000000000 CU.m).length ycu) (.int .i64 CU.e) 24
  clear hd b9
  obtain ⟨kd0, kd1, kd2⟩ := X_d.out
  go_wp2_with fail
  clear kd0 kd1 kd2
  refine (HNe.out _ b10).mono ?_
  rintro r w11 ⟨xne, yne, rfl, ho, hc⟩
  have b11 := b10.trans (hc.mono b10.size)
  replace F_d := Qf.below F_d (Qx.lt X_d) hc
  replace X_d := Qx.below X_d hc
  replace F_x := Qf.below F_x (Qx.lt X_x) hc
  replace X_x := Qx.below X_x hc
  replace F_lo := Qf.below F_lo (Qx.lt X_lo) hc
  replace X_lo := Qx.below X_lo hc
  replace F_hi := Qf.below F_hi (Qx.lt X_hi) hc
  replace X_hi := Qx.below X_hi hc
  replace F_cu := Qf.below F_cu (Qx.lt X_cu) hc
  replace X_cu := Qx.below X_cu hc
  replace R_x := Lib.hid (R_x.out.below hc)
  replace R_lo := Lib.hid (R_lo.out.below hc)
  replace R_hi := Lib.hid (R_hi.out.below hc)
  replace R_cu := Lib.hid (R_cu.out.below hc)
  clear hc b10
  have R_ne := Lib.hid ho
  clear ho
  have z_ne := b11.size
  have hd := (Below.refl w11.heap.size w11).alloc (Nat.le_refl _) (.cells #[.bool NE.neg, .slice xne (dg 1000000000 NE.m).length yne, .int .i64 NE.e] 24)
  have b12 := b11.trans (hd.mono b11.size)
  have l_d_ne := Qx.lt X_d
  have m_d_ne := not_eq_lt l_d_ne
  have m_ne_d := not_eq_gt l_d_ne
  clear l_d_ne
  have l_x_ne := Qx.lt X_x
  have m_x_ne := not_eq_lt l_x_ne
  have m_ne_x := not_eq_gt l_x_ne
  clear l_x_ne
  have l_lo_ne := Qx.lt X_lo
  have m_lo_ne := not_eq_lt l_lo_ne
  have m_ne_lo := not_eq_gt l_lo_ne
  clear l_lo_ne
  have l_hi_ne := Qx.lt X_hi
  have m_hi_ne := not_eq_lt l_hi_ne
  have m_ne_hi := not_eq_gt l_hi_ne
  clear l_hi_ne
  have l_cu_ne := Qx.lt X_cu
  have m_cu_ne := not_eq_lt l_cu_ne
  have m_ne_cu := not_eq_gt l_cu_ne
  clear l_cu_ne
  replace F_d := Qf.below F_d (Qx.lt X_d) hd
  replace X_d := Qx.below X_d hd
  replace F_x := Qf.below F_x (Qx.lt X_x) hd
  replace X_x := Qx.below X_x hd
  replace F_lo := Qf.below F_lo (Qx.lt X_lo) hd
  replace X_lo := Qx.below X_lo hd
  replace F_hi := Qf.below F_hi (Qx.lt X_hi) hd
  replace X_hi := Qx.below X_hi hd
  replace F_cu := Qf.below F_cu (Qx.lt X_cu) hd
  replace X_cu := Qx.below X_cu hd
  replace R_x := Lib.hid (R_x.out.below hd)
  replace R_lo := Lib.hid (R_lo.out.below hd)
  replace R_hi := Lib.hid (R_hi.out.below hd)
  replace R_cu := Lib.hid (R_cu.out.below hd)
  replace R_ne := Lib.hid (R_ne.out.below hd)
  have X_ne := Qx.new w11 (.bool NE.neg) (.slice xne (dg 1000000000 NE.m).length yne) (.int .i64 NE.e) 24
  have F_ne := Qf.new w11 (.bool NE.neg) (.slice xne (dg 1000000000 NE.m).length yne) (.int .i64 NE.e) 24
  clear hd b11
  obtain ⟨kd0, kd1, kd2⟩ := X_d.out
  go_wp2_with fail
  clear kd0 kd1 kd2
  refine (HNg.out _ b12).mono ?_
  rintro r w13 ⟨xng, yng, rfl, ho, hc⟩
  have b13 := b12.trans (hc.mono b12.size)
  replace F_d := Qf.below F_d (Qx.lt X_d) hc
  replace X_d := Qx.below X_d hc
  replace F_x := Qf.below F_x (Qx.lt X_x) hc
  replace X_x := Qx.below X_x hc
  replace F_lo := Qf.below F_lo (Qx.lt X_lo) hc
  replace X_lo := Qx.below X_lo hc
  replace F_hi := Qf.below F_hi (Qx.lt X_hi) hc
  replace X_hi := Qx.below X_hi hc
  replace F_cu := Qf.below F_cu (Qx.lt X_cu) hc
  replace X_cu := Qx.below X_cu hc
  replace F_ne := Qf.below F_ne (Qx.lt X_ne) hc
  replace X_ne := Qx.below X_ne hc
  replace R_x := Lib.hid (R_x.out.below hc)
  replace R_lo := Lib.hid (R_lo.out.below hc)
  replace R_hi := Lib.hid (R_hi.out.below hc)
  replace R_cu := Lib.hid (R_cu.out.below hc)
  replace R_ne := Lib.hid (R_ne.out.below hc)
  clear hc b12
  have R_ng := Lib.hid ho
  clear ho
  have z_ng := b13.size
  have hd := (Below.refl w13.heap.size w13).alloc (Nat.le_refl _) (.cells #[.bool FP.neg, .slice xng (dg 1000000000 FP.m).length yng, .int .i64 FP.e] 24)
  have b14 := b13.trans (hd.mono b13.size)
  have l_d_ng := Qx.lt X_d
  have m_d_ng := not_eq_lt l_d_ng
  have m_ng_d := not_eq_gt l_d_ng
  clear l_d_ng
  have l_x_ng := Qx.lt X_x
  have m_x_ng := not_eq_lt l_x_ng
  have m_ng_x := not_eq_gt l_x_ng
  clear l_x_ng
  have l_lo_ng := Qx.lt X_lo
  have m_lo_ng := not_eq_lt l_lo_ng
  have m_ng_lo := not_eq_gt l_lo_ng
  clear l_lo_ng
  have l_hi_ng := Qx.lt X_hi
  have m_hi_ng := not_eq_lt l_hi_ng
  have m_ng_hi := not_eq_gt l_hi_ng
  clear l_hi_ng
  have l_cu_ng := Qx.lt X_cu
  have m_cu_ng := not_eq_lt l_cu_ng
  have m_ng_cu := not_eq_gt l_cu_ng
  clear l_cu_ng
  have l_ne_ng := Qx.lt X_ne
  have m_ne_ng := not_eq_lt l_ne_ng
  have m_ng_ne := not_eq_gt l_ne_ng
  clear l_ne_ng
  replace F_d := Qf.below F_d (Qx.lt X_d) hd
  replace X_d := Qx.below X_d hd
  replace F_x := Qf.below F_x (Qx.lt X_x) hd
  replace X_x := Qx.below X_x hd
  replace F_lo := Qf.below F_lo (Qx.lt X_lo) hd
  replace X_lo := Qx.below X_lo hd
  replace F_hi := Qf.below F_hi (Qx.lt X_hi) hd
  replace X_hi := Qx.below X_hi hd
  replace F_cu := Qf.below F_cu (Qx.lt X_cu) hd
  replace X_cu := Qx.below X_cu hd
  replace F_ne := Qf.below F_ne (Qx.lt X_ne) hd
  replace X_ne := Qx.below X_ne hd
  replace R_x := Lib.hid (R_x.out.below hd)
  replace R_lo := Lib.hid (R_lo.out.below hd)
  replace R_hi := Lib.hid (R_hi.out.below hd)
  replace R_cu := Lib.hid (R_cu.out.below hd)
  replace R_ne := Lib.hid (R_ne.out.below hd)
  replace R_ng := Lib.hid (R_ng.out.below hd)
  have X_ng := Qx.new w13 (.bool FP.neg) (.slice xng (dg 1000000000 FP.m).length yng) (.int .i64 FP.e) 24
  have F_ng := Qf.new w13 (.bool FP.neg) (.slice xng (dg 1000000000 FP.m).length yng) (.int .i64 FP.e) 24
  clear hd b13
  obtain ⟨kd0, kd1, kd2⟩ := X_d.out
  go_wp2_with fail
  clear kd0 kd1 kd2
  refine (HWh.out _ b14).mono ?_
  rintro r w15 ⟨rfl, hc⟩
  have b15 := b14.trans (hc.mono b14.size)
  replace F_d := Qf.below F_d (Qx.lt X_d) hc
  replace X_d := Qx.below X_d hc
  replace F_x := Qf.below F_x (Qx.lt X_x) hc
  replace X_x := Qx.below X_x hc
  replace F_lo := Qf.below F_lo (Qx.lt X_lo) hc
  replace X_lo := Qx.below X_lo hc
  replace F_hi := Qf.below F_hi (Qx.lt X_hi) hc
  replace X_hi := Qx.below X_hi hc
  replace F_cu := Qf.below F_cu (Qx.lt X_cu) hc
  replace X_cu := Qx.below X_cu hc
  replace F_ne := Qf.below F_ne (Qx.lt X_ne) hc
  replace X_ne := Qx.below X_ne hc
  replace F_ng := Qf.below F_ng (Qx.lt X_ng) hc
  replace X_ng := Qx.below X_ng hc
  replace R_x := Lib.hid (R_x.out.below hc)
  replace R_lo := Lib.hid (R_lo.out.below hc)
  replace R_hi := Lib.hid (R_hi.out.below hc)
  replace R_cu := Lib.hid (R_cu.out.below hc)
  replace R_ne := Lib.hid (R_ne.out.below hc)
  replace R_ng := Lib.hid (R_ng.out.below hc)
  clear hc b14
  clear X_d F_d
  obtain ⟨klo0, klo1, klo2⟩ := X_lo.out
  go_wp2_with fail
  clear klo0 klo1 klo2
  go_cut [16, 17] (fun s16 s17 wx => MeetD D w15 s16 s17 wx)
  case first =>
    obtain ⟨klo0, klo1, klo2⟩ := X_lo.out
    have bb := b15
    have bw := Below.refl w15.heap.size w15
    have mm1 := not_eq_lt (Qx.lt X_lo)
    have mm2 := not_eq_gt (Qx.lt X_lo)
    have kb0 := cellB klo0 (bw.alloc (Nat.le_refl _) (.cells #[.bool false, .slice none 0 0, .int .i64 0] 24))
    have kb1 := cellB klo1 (bw.alloc (Nat.le_refl _) (.cells #[.bool false, .slice none 0 0, .int .i64 0] 24))
    have kb2 := cellB klo2 (bw.alloc (Nat.le_refl _) (.cells #[.bool false, .slice none 0 0, .int .i64 0] 24))
    have bwa := (bw.alloc (Nat.le_refl _) (.cells #[.bool false, .slice none 0 0, .int .i64 0] 24)).drew
    go_region_law
      (first
        | (go_simp; go_at_call 29; have zx := zc; refine (HAd.out _ _ _ _ _ (R_lo.out.below zc) (HT.out.below (bb.trans (zc.mono bb.size))) roc).mono ?_; rintro e wd ⟨xd, yd, rfl, hod, hbd⟩; have zd := zx.trans (hbd.mono zx.size); try (have kz := Qz.below kz0 hbd; have z0 := kz.1.1; have z1 := kz.1.2.1; have z2 := kz.1.2.2; have zf0 := kz.2; clear kz))
        | (go_simp; go_at_call 29; have zx := zc.alloc zc.size (.cells #[.bool false, .slice none 0 0, .int .i64 0] 24); refine (HAd.out _ _ _ _ _ (R_lo.out.below zx) (HT.out.below (bb.trans (zx.mono bb.size))) (roc.alloc _)).mono ?_; rintro e wd ⟨xd, yd, rfl, hod, hbd⟩; have zd := zx.trans (hbd.mono zx.size); have kz := Qz.new2 hbd; have z0 := kz.1.1; have z1 := kz.1.2.1; have z2 := kz.1.2.2; have zf0 := kz.2; clear kz)
        | (go_simp; go_at_call 32; refine (sOf1 _ (HT.out.below (bb.trans (bw.drew.mono bb.size)))).mono ?_; rintro e wq ⟨xc, yc, rfl, roc, hbc⟩; have zc := bw.drew.trans hbc; have kc0 := cellB klo0 zc; have kc1 := cellB klo1 zc; have kc2 := cellB klo2 zc; have mc1 : ¬ w5.heap.size = wq.heap.size := not_eq_lt (lt_of_cell kc0); have mc2 : ¬ wq.heap.size = w5.heap.size := not_eq_gt (lt_of_cell kc0); have ka0 := cellB kc0 ((Below.refl wq.heap.size wq).alloc (Nat.le_refl _) (.cells #[.bool false, .slice none 0 0, .int .i64 0] 24)); have ka1 := cellB kc1 ((Below.refl wq.heap.size wq).alloc (Nat.le_refl _) (.cells #[.bool false, .slice none 0 0, .int .i64 0] 24)); have ka2 := cellB kc2 ((Below.refl wq.heap.size wq).alloc (Nat.le_refl _) (.cells #[.bool false, .slice none 0 0, .int .i64 0] 24)))
        | (go_simp; go_at_call 32; refine (sOf1 _ (HT.out.below (bb.trans (bwa.mono bb.size)))).mono ?_; rintro e wq ⟨xc, yc, rfl, roc, hbc⟩; have zc := bwa.trans (hbc.mono bwa.size); have kc0 := cellB klo0 zc; have kc1 := cellB klo1 zc; have kc2 := cellB klo2 zc; have mc1 : ¬ w5.heap.size = wq.heap.size := not_eq_lt (lt_of_cell kc0); have mc2 : ¬ wq.heap.size = w5.heap.size := not_eq_gt (lt_of_cell kc0); have ka0 := cellB kc0 ((Below.refl wq.heap.size wq).alloc (Nat.le_refl _) (.cells #[.bool false, .slice none 0 0, .int .i64 0] 24)); have ka1 := cellB kc1 ((Below.refl wq.heap.size wq).alloc (Nat.le_refl _) (.cells #[.bool false, .slice none 0 0, .int .i64 0] 24)); have ka2 := cellB kc2 ((Below.refl wq.heap.size wq).alloc (Nat.le_refl _) (.cells #[.bool false, .slice none 0 0, .int .i64 0] 24)); have kz0 : Qz wq w15.heap.size := Qz.new2 ((Below.refl _ _).drew.trans hbc)))
    all_goals first
      | (have X_d := Qx.set (Lib.hid (⟨(z0 : wd.cell? ⟨wq.heap.size, 0, none⟩ = some (.bool false)), z1, z2⟩ : Qx wd wq.heap.size (.bool false) (.slice none 0 0) (.int .i64 0))) (.bool D.p.neg) (.slice xd (dg 1000000000 D.p.m).length yd) (.int .i64 D.p.e); have zf := Below.box zd (g := wq.heap.size) zc.size (.bool D.p.neg) (.slice xd (dg 1000000000 D.p.m).length yd) (.int .i64 D.p.e); have R_d := Lib.hid (Rd.box hod.rd (Lib.hid (⟨(z0 : wd.cell? ⟨wq.heap.size, 0, none⟩ = some (.bool false)), z1, z2⟩ : Qx wd wq.heap.size (.bool false) (.slice none 0 0) (.int .i64 0))) (by decide) (.bool D.p.neg) (.slice xd (dg 1000000000 D.p.m).length yd) (.int .i64 D.p.e)); go_wp2_with fail; go_meet; exact ⟨_, xd, yd, rfl, rfl, X_d, R_d, zf⟩)
      | (have X_d := Qx.set (Lib.hid (⟨(z0 : wd.cell? ⟨w15.heap.size, 0, none⟩ = some (.bool false)), z1, z2⟩ : Qx wd w15.heap.size (.bool false) (.slice none 0 0) (.int .i64 0))) (.bool D.p.neg) (.slice xd (dg 1000000000 D.p.m).length yd) (.int .i64 D.p.e); have zf := Below.box zd (g := w15.heap.size) (Nat.le_refl _) (.bool D.p.neg) (.slice xd (dg 1000000000 D.p.m).length yd) (.int .i64 D.p.e); have R_d := Lib.hid (Rd.box hod.rd (Lib.hid (⟨(z0 : wd.cell? ⟨w15.heap.size, 0, none⟩ = some (.bool false)), z1, z2⟩ : Qx wd w15.heap.size (.bool false) (.slice none 0 0) (.int .i64 0))) (by decide) (.bool D.p.neg) (.slice xd (dg 1000000000 D.p.m).length yd) (.int .i64 D.p.e)); go_wp2_with fail; go_meet; exact ⟨_, xd, yd, rfl, rfl, X_d, R_d, zf⟩)
      | (have X_d := Qx.new wd (.bool D.p.neg) (.slice xd (dg 1000000000 D.p.m).length yd) (.int .i64 D.p.e) 24; have zf := zd.alloc zd.size (.cells #[.bool D.p.neg, .slice xd (dg 1000000000 D.p.m).length yd, .int .i64 D.p.e] 24); have R_d := Lib.hid (hod.rd.alloc (.cells #[.bool D.p.neg, .slice xd (dg 1000000000 D.p.m).length yd, .int .i64 D.p.e] 24)); go_wp2_with fail; go_meet; exact ⟨_, xd, yd, rfl, rfl, X_d, R_d, zf⟩)
  case rest =>
  obtain ⟨Bd, xd, yd, rfl, rfl, X_d, R_d, zf⟩ := hcut
  have bb := b15
  clear F_x
  clear F_lo
  clear F_hi
  clear F_cu
  clear F_ne
  clear F_ng
  have b16 := bb.trans (zf.mono bb.size)
  replace X_x := Qx.below X_x zf
  replace X_lo := Qx.below X_lo zf
  replace X_hi := Qx.below X_hi zf
  replace X_cu := Qx.below X_cu zf
  replace X_ne := Qx.below X_ne zf
  replace X_ng := Qx.below X_ng zf
  replace R_x := Lib.hid (R_x.out.below zf)
  replace R_lo := Lib.hid (R_lo.out.below zf)
  replace R_hi := Lib.hid (R_hi.out.below zf)
  replace R_cu := Lib.hid (R_cu.out.below zf)
  replace R_ne := Lib.hid (R_ne.out.below zf)
  replace R_ng := Lib.hid (R_ng.out.below zf)
  clear zf bb
  obtain ⟨kng0, kng1, kng2⟩ := X_ng.out
  go_wp2_with fail
  clear kng0 kng1 kng2
  refine (HFl.out _ _ _ R_ng.out (HT.out.below b16)).mono ?_
  rintro r w17 ⟨xfb, yfb, rfl, ho, hc⟩
  have b17 := b16.trans (hc.mono b16.size)
  replace X_x := Qx.below X_x hc
  replace X_lo := Qx.below X_lo hc
  replace X_hi := Qx.below X_hi hc
  replace X_cu := Qx.below X_cu hc
  replace X_ne := Qx.below X_ne hc
  replace X_ng := Qx.below X_ng hc
  replace X_d := Qx.below X_d hc
  replace R_x := Lib.hid (R_x.out.below hc)
  replace R_lo := Lib.hid (R_lo.out.below hc)
  replace R_hi := Lib.hid (R_hi.out.below hc)
  replace R_cu := Lib.hid (R_cu.out.below hc)
  replace R_ne := Lib.hid (R_ne.out.below hc)
  replace R_ng := Lib.hid (R_ng.out.below hc)
  replace R_d := Lib.hid (R_d.out.below hc)
  clear hc b16
  have R_fb := Lib.hid ho
  clear ho
  have z_fb := b17.size
  have hd := (Below.refl w17.heap.size w17).alloc (Nat.le_refl _) (.cells #[.bool FH.neg, .slice xfb (dg 1000000000 FH.m).length yfb, .int .i64 FH.e] 24)
  have b18 := b17.trans (hd.mono b17.size)
  replace X_x := Qx.below X_x hd
  replace X_lo := Qx.below X_lo hd
  replace X_hi := Qx.below X_hi hd
  replace X_cu := Qx.below X_cu hd
  replace X_ne := Qx.below X_ne hd
  replace X_ng := Qx.below X_ng hd
  replace X_d := Qx.below X_d hd
  replace R_x := Lib.hid (R_x.out.below hd)
  replace R_lo := Lib.hid (R_lo.out.below hd)
  replace R_hi := Lib.hid (R_hi.out.below hd)
  replace R_cu := Lib.hid (R_cu.out.below hd)
  replace R_ne := Lib.hid (R_ne.out.below hd)
  replace R_ng := Lib.hid (R_ng.out.below hd)
  replace R_d := Lib.hid (R_d.out.below hd)
  replace R_fb := Lib.hid (R_fb.out.below hd)
  have X_fb := Qx.new w17 (.bool FH.neg) (.slice xfb (dg 1000000000 FH.m).length yfb) (.int .i64 FH.e) 24
  have F_fb := Qf.new w17 (.bool FH.neg) (.slice xfb (dg 1000000000 FH.m).length yfb) (.int .i64 FH.e) 24
  clear hd b17
  clear X_ng
  clear R_ng
  obtain ⟨khi0, khi1, khi2⟩ := X_hi.out
  go_wp2_with fail
  clear khi0 khi1 khi2
  refine (HNh.out _ _ _ R_hi.out (HT.out.below b18)).mono ?_
  rintro r w19 ⟨xot, yot, rfl, ho, hc⟩
  have b19 := b18.trans (hc.mono b18.size)
  replace X_x := Qx.below X_x hc
  replace X_lo := Qx.below X_lo hc
  replace X_hi := Qx.below X_hi hc
  replace X_cu := Qx.below X_cu hc
  replace X_ne := Qx.below X_ne hc
  replace X_d := Qx.below X_d hc
  replace F_fb := Qf.below F_fb (Qx.lt X_fb) hc
  replace X_fb := Qx.below X_fb hc
  replace R_x := Lib.hid (R_x.out.below hc)
  replace R_lo := Lib.hid (R_lo.out.below hc)
  replace R_hi := Lib.hid (R_hi.out.below hc)
  replace R_cu := Lib.hid (R_cu.out.below hc)
  replace R_ne := Lib.hid (R_ne.out.below hc)
  replace R_d := Lib.hid (R_d.out.below hc)
  replace R_fb := Lib.hid (R_fb.out.below hc)
  clear hc b18
  have R_ot := Lib.hid ho
  clear ho
  have z_ot := b19.size
  have hd := (Below.refl w19.heap.size w19).alloc (Nat.le_refl _) (.cells #[.bool FH.neg, .slice xot (dg 1000000000 FH.m).length yot, .int .i64 FH.e] 24)
  have b20 := b19.trans (hd.mono b19.size)
  have l_fb_ot := Qx.lt X_fb
  have m_fb_ot := not_eq_lt l_fb_ot
  have m_ot_fb := not_eq_gt l_fb_ot
  clear l_fb_ot
  replace X_x := Qx.below X_x hd
  replace X_lo := Qx.below X_lo hd
  replace X_hi := Qx.below X_hi hd
  replace X_cu := Qx.below X_cu hd
  replace X_ne := Qx.below X_ne hd
  replace X_d := Qx.below X_d hd
  replace F_fb := Qf.below F_fb (Qx.lt X_fb) hd
  replace X_fb := Qx.below X_fb hd
  replace R_x := Lib.hid (R_x.out.below hd)
  replace R_lo := Lib.hid (R_lo.out.below hd)
  replace R_hi := Lib.hid (R_hi.out.below hd)
  replace R_cu := Lib.hid (R_cu.out.below hd)
  replace R_ne := Lib.hid (R_ne.out.below hd)
  replace R_d := Lib.hid (R_d.out.below hd)
  replace R_fb := Lib.hid (R_fb.out.below hd)
  replace R_ot := Lib.hid (R_ot.out.below hd)
  have X_ot := Qx.new w19 (.bool FH.neg) (.slice xot (dg 1000000000 FH.m).length yot) (.int .i64 FH.e) 24
  have F_ot := Qf.new w19 (.bool FH.neg) (.slice xot (dg 1000000000 FH.m).length yot) (.int .i64 FH.e) 24
  clear hd b19
  obtain ⟨klo0, klo1, klo2⟩ := X_lo.out
  obtain ⟨kx0, kx1, kx2⟩ := X_x.out
  go_wp2_with fail
  clear klo0 klo1 klo2 kx0 kx1 kx2
  refine (HC1.out _ _ _ _ _ R_lo.out (HT.out.below b20) R_x.out).mono ?_
  rintro r w21 ⟨rfl, hc⟩
  have b21 := b20.trans (hc.mono b20.size)
  replace X_x := Qx.below X_x hc
  replace X_lo := Qx.below X_lo hc
  replace X_hi := Qx.below X_hi hc
  replace X_cu := Qx.below X_cu hc
  replace X_ne := Qx.below X_ne hc
  replace X_d := Qx.below X_d hc
  replace F_fb := Qf.below F_fb (Qx.lt X_fb) hc
  replace X_fb := Qx.below X_fb hc
  replace F_ot := Qf.below F_ot (Qx.lt X_ot) hc
  replace X_ot := Qx.below X_ot hc
  replace R_x := Lib.hid (R_x.out.below hc)
  replace R_lo := Lib.hid (R_lo.out.below hc)
  replace R_hi := Lib.hid (R_hi.out.below hc)
  replace R_cu := Lib.hid (R_cu.out.below hc)
  replace R_ne := Lib.hid (R_ne.out.below hc)
  replace R_d := Lib.hid (R_d.out.below hc)
  replace R_fb := Lib.hid (R_fb.out.below hc)
  replace R_ot := Lib.hid (R_ot.out.below hc)
  clear hc b20
  obtain ⟨kx0, kx1, kx2⟩ := X_x.out
  obtain ⟨khi0, khi1, khi2⟩ := X_hi.out
  go_wp2_with fail
  clear kx0 kx1 kx2 khi0 khi1 khi2
  refine (HC2.out _ _ _ _ _ R_x.out (HT.out.below b21) R_hi.out).mono ?_
  rintro r w22 ⟨rfl, hc⟩
  have b22 := b21.trans (hc.mono b21.size)
  replace X_x := Qx.below X_x hc
  replace X_lo := Qx.below X_lo hc
  replace X_hi := Qx.below X_hi hc
  replace X_cu := Qx.below X_cu hc
  replace X_ne := Qx.below X_ne hc
  replace X_d := Qx.below X_d hc
  replace F_fb := Qf.below F_fb (Qx.lt X_fb) hc
  replace X_fb := Qx.below X_fb hc
  replace F_ot := Qf.below F_ot (Qx.lt X_ot) hc
  replace X_ot := Qx.below X_ot hc
  replace R_x := Lib.hid (R_x.out.below hc)
  replace R_lo := Lib.hid (R_lo.out.below hc)
  replace R_hi := Lib.hid (R_hi.out.below hc)
  replace R_cu := Lib.hid (R_cu.out.below hc)
  replace R_ne := Lib.hid (R_ne.out.below hc)
  replace R_d := Lib.hid (R_d.out.below hc)
  replace R_fb := Lib.hid (R_fb.out.below hc)
  replace R_ot := Lib.hid (R_ot.out.below hc)
  clear hc b21
  clear X_x
  clear R_x
  obtain ⟨kcu0, kcu1, kcu2⟩ := X_cu.out
  obtain ⟨klo0, klo1, klo2⟩ := X_lo.out
  go_wp2_with fail
  clear kcu0 kcu1 kcu2 klo0 klo1 klo2
  refine (HSc.out _ _ _ _ _ R_cu.out R_lo.out).mono ?_
  rintro r w23 ⟨rfl, hc⟩
  have b23 := b22.trans (hc.mono b22.size)
  replace X_lo := Qx.below X_lo hc
  replace X_hi := Qx.below X_hi hc
  replace X_cu := Qx.below X_cu hc
  replace X_ne := Qx.below X_ne hc
  replace X_d := Qx.below X_d hc
  replace F_fb := Qf.below F_fb (Qx.lt X_fb) hc
  replace X_fb := Qx.below X_fb hc
  replace F_ot := Qf.below F_ot (Qx.lt X_ot) hc
  replace X_ot := Qx.below X_ot hc
  replace R_lo := Lib.hid (R_lo.out.below hc)
  replace R_hi := Lib.hid (R_hi.out.below hc)
  replace R_cu := Lib.hid (R_cu.out.below hc)
  replace R_ne := Lib.hid (R_ne.out.below hc)
  replace R_d := Lib.hid (R_d.out.below hc)
  replace R_fb := Lib.hid (R_fb.out.below hc)
  replace R_ot := Lib.hid (R_ot.out.below hc)
  clear hc b22
  have f3 := HF3.out
  clear HF3
  rcases HF1.out with j1 | ⟨j1, j2⟩
  · clear X_cu
    clear R_cu
    obtain ⟨kne0, kne1, kne2⟩ := X_ne.out
    obtain ⟨klo0, klo1, klo2⟩ := X_lo.out
    go_wp2_with fail
    clear kne0 kne1 kne2 klo0 klo1 klo2
    refine (HSe.out _ _ _ _ _ R_ne.out R_lo.out).mono ?_
    rintro r w24 ⟨rfl, hc⟩
    have b24 := b23.trans (hc.mono b23.size)
    replace X_lo := Qx.below X_lo hc
    replace X_hi := Qx.below X_hi hc
    replace X_ne := Qx.below X_ne hc
    replace X_d := Qx.below X_d hc
    replace F_fb := Qf.below F_fb (Qx.lt X_fb) hc
    replace X_fb := Qx.below X_fb hc
    replace F_ot := Qf.below F_ot (Qx.lt X_ot) hc
    replace X_ot := Qx.below X_ot hc
    replace R_lo := Lib.hid (R_lo.out.below hc)
    replace R_hi := Lib.hid (R_hi.out.below hc)
    replace R_ne := Lib.hid (R_ne.out.below hc)
    replace R_d := Lib.hid (R_d.out.below hc)
    replace R_fb := Lib.hid (R_fb.out.below hc)
    replace R_ot := Lib.hid (R_ot.out.below hc)
    clear hc b23
    rcases HF2.out with j3 | ⟨j3, j4⟩
    · clear X_ne
      clear R_ne
      obtain ⟨klo0, klo1, klo2⟩ := X_lo.out
      go_wp2_with fail
      clear klo0 klo1 klo2
      refine (HWl.out _ _ _ R_lo.out (HT.out.below b24)).mono ?_
      rintro r w25 ⟨rfl, hc⟩
      have b25 := b24.trans (hc.mono b24.size)
      replace X_lo := Qx.below X_lo hc
      replace X_hi := Qx.below X_hi hc
      replace X_d := Qx.below X_d hc
      replace F_fb := Qf.below F_fb (Qx.lt X_fb) hc
      replace X_fb := Qx.below X_fb hc
      replace F_ot := Qf.below F_ot (Qx.lt X_ot) hc
      replace X_ot := Qx.below X_ot hc
      replace R_lo := Lib.hid (R_lo.out.below hc)
      replace R_hi := Lib.hid (R_hi.out.below hc)
      replace R_d := Lib.hid (R_d.out.below hc)
      replace R_fb := Lib.hid (R_fb.out.below hc)
      replace R_ot := Lib.hid (R_ot.out.below hc)
      clear hc b24
      clear X_lo
      clear R_lo
      obtain ⟨khi0, khi1, khi2⟩ := X_hi.out
      go_wp2_with fail
      clear khi0 khi1 khi2
      refine (HWu.out _ _ _ R_hi.out (HT.out.below b25)).mono ?_
      rintro r w26 ⟨rfl, hc⟩
      have b26 := b25.trans (hc.mono b25.size)
      replace X_hi := Qx.below X_hi hc
      replace X_d := Qx.below X_d hc
      replace F_fb := Qf.below F_fb (Qx.lt X_fb) hc
      replace X_fb := Qx.below X_fb hc
      replace F_ot := Qf.below F_ot (Qx.lt X_ot) hc
      replace X_ot := Qx.below X_ot hc
      replace R_hi := Lib.hid (R_hi.out.below hc)
      replace R_d := Lib.hid (R_d.out.below hc)
      replace R_fb := Lib.hid (R_fb.out.below hc)
      replace R_ot := Lib.hid (R_ot.out.below hc)
      clear hc b25
      rcases f3 with j5 | ⟨j5, j6⟩
      · clear X_d
        clear R_d
        clear X_hi
        clear R_hi
        obtain ⟨kfb0, kfb1, kfb2⟩ := X_fb.out
        obtain ⟨kot0, kot1, kot2⟩ := X_ot.out
        go_wp2_with fail
        clear kfb0 kfb1 kfb2 kot0 kot1 kot2
        refine (HSf.out _ _ _ _ _ R_fb.out R_ot.out).mono ?_
        rintro r w27 ⟨rfl, hc⟩
        have b27 := b26.trans (hc.mono b26.size)
        replace F_fb := Qf.below F_fb (Qx.lt X_fb) hc
        replace X_fb := Qx.below X_fb hc
        replace F_ot := Qf.below F_ot (Qx.lt X_ot) hc
        replace X_ot := Qx.below X_ot hc
        replace R_fb := Lib.hid (R_fb.out.below hc)
        replace R_ot := Lib.hid (R_ot.out.below hc)
        clear hc b26
        have B_ := Lib.hid b27
        clear b27
        go_wp2
        go_ret
        exact ⟨rfl, B_.out⟩
      · obtain ⟨kd0, kd1, kd2⟩ := X_d.out
        obtain ⟨khi0, khi1, khi2⟩ := X_hi.out
        go_wp2_with fail
        clear kd0 kd1 kd2 khi0 khi1 khi2
        refine (HSn.out _ _ _ _ _ R_d.out R_hi.out).mono ?_
        rintro r w27 ⟨rfl, hc⟩
        have b27 := b26.trans (hc.mono b26.size)
        replace X_hi := Qx.below X_hi hc
        replace X_d := Qx.below X_d hc
        replace F_fb := Qf.below F_fb (Qx.lt X_fb) hc
        replace X_fb := Qx.below X_fb hc
        replace F_ot := Qf.below F_ot (Qx.lt X_ot) hc
        replace X_ot := Qx.below X_ot hc
        replace R_hi := Lib.hid (R_hi.out.below hc)
        replace R_d := Lib.hid (R_d.out.below hc)
        replace R_fb := Lib.hid (R_fb.out.below hc)
        replace R_ot := Lib.hid (R_ot.out.below hc)
        clear hc b26
        clear X_d
        clear R_d
        clear X_hi
        clear R_hi
        obtain ⟨kfb0, kfb1, kfb2⟩ := X_fb.out
        obtain ⟨kot0, kot1, kot2⟩ := X_ot.out
        go_wp2_with fail
        clear kfb0 kfb1 kfb2 kot0 kot1 kot2
        refine (HSf.out _ _ _ _ _ R_fb.out R_ot.out).mono ?_
        rintro r w28 ⟨rfl, hc⟩
        have b28 := b27.trans (hc.mono b27.size)
        replace F_fb := Qf.below F_fb (Qx.lt X_fb) hc
        replace X_fb := Qx.below X_fb hc
        replace F_ot := Qf.below F_ot (Qx.lt X_ot) hc
        replace X_ot := Qx.below X_ot hc
        replace R_fb := Lib.hid (R_fb.out.below hc)
        replace R_ot := Lib.hid (R_ot.out.below hc)
        clear hc b27
        have B_ := Lib.hid b28
        clear b28
        go_wp2
        go_ret
        exact ⟨rfl, B_.out⟩
    · obtain ⟨kne0, kne1, kne2⟩ := X_ne.out
      obtain ⟨khi0, khi1, khi2⟩ := X_hi.out
      go_wp2_with fail
      clear kne0 kne1 kne2 khi0 khi1 khi2
      refine (HSe2.out _ _ _ _ _ R_ne.out R_hi.out).mono ?_
      rintro r w25 ⟨rfl, hc⟩
      have b25 := b24.trans (hc.mono b24.size)
      replace X_lo := Qx.below X_lo hc
      replace X_hi := Qx.below X_hi hc
      replace X_ne := Qx.below X_ne hc
      replace X_d := Qx.below X_d hc
      replace F_fb := Qf.below F_fb (Qx.lt X_fb) hc
      replace X_fb := Qx.below X_fb hc
      replace F_ot := Qf.below F_ot (Qx.lt X_ot) hc
      replace X_ot := Qx.below X_ot hc
      replace R_lo := Lib.hid (R_lo.out.below hc)
      replace R_hi := Lib.hid (R_hi.out.below hc)
      replace R_ne := Lib.hid (R_ne.out.below hc)
      replace R_d := Lib.hid (R_d.out.below hc)
      replace R_fb := Lib.hid (R_fb.out.below hc)
      replace R_ot := Lib.hid (R_ot.out.below hc)
      clear hc b24
      clear X_ne
      clear R_ne
      obtain ⟨klo0, klo1, klo2⟩ := X_lo.out
      go_wp2_with fail
      clear klo0 klo1 klo2
      refine (HWl.out _ _ _ R_lo.out (HT.out.below b25)).mono ?_
      rintro r w26 ⟨rfl, hc⟩
      have b26 := b25.trans (hc.mono b25.size)
      replace X_lo := Qx.below X_lo hc
      replace X_hi := Qx.below X_hi hc
      replace X_d := Qx.below X_d hc
      replace F_fb := Qf.below F_fb (Qx.lt X_fb) hc
      replace X_fb := Qx.below X_fb hc
      replace F_ot := Qf.below F_ot (Qx.lt X_ot) hc
      replace X_ot := Qx.below X_ot hc
      replace R_lo := Lib.hid (R_lo.out.below hc)
      replace R_hi := Lib.hid (R_hi.out.below hc)
      replace R_d := Lib.hid (R_d.out.below hc)
      replace R_fb := Lib.hid (R_fb.out.below hc)
      replace R_ot := Lib.hid (R_ot.out.below hc)
      clear hc b25
      clear X_lo
      clear R_lo
      obtain ⟨khi0, khi1, khi2⟩ := X_hi.out
      go_wp2_with fail
      clear khi0 khi1 khi2
      refine (HWu.out _ _ _ R_hi.out (HT.out.below b26)).mono ?_
      rintro r w27 ⟨rfl, hc⟩
      have b27 := b26.trans (hc.mono b26.size)
      replace X_hi := Qx.below X_hi hc
      replace X_d := Qx.below X_d hc
      replace F_fb := Qf.below F_fb (Qx.lt X_fb) hc
      replace X_fb := Qx.below X_fb hc
      replace F_ot := Qf.below F_ot (Qx.lt X_ot) hc
      replace X_ot := Qx.below X_ot hc
      replace R_hi := Lib.hid (R_hi.out.below hc)
      replace R_d := Lib.hid (R_d.out.below hc)
      replace R_fb := Lib.hid (R_fb.out.below hc)
      replace R_ot := Lib.hid (R_ot.out.below hc)
      clear hc b26
      rcases f3 with j5 | ⟨j5, j6⟩
      · clear X_d
        clear R_d
        clear X_hi
        clear R_hi
        obtain ⟨kfb0, kfb1, kfb2⟩ := X_fb.out
        obtain ⟨kot0, kot1, kot2⟩ := X_ot.out
        go_wp2_with fail
        clear kfb0 kfb1 kfb2 kot0 kot1 kot2
        refine (HSf.out _ _ _ _ _ R_fb.out R_ot.out).mono ?_
        rintro r w28 ⟨rfl, hc⟩
        have b28 := b27.trans (hc.mono b27.size)
        replace F_fb := Qf.below F_fb (Qx.lt X_fb) hc
        replace X_fb := Qx.below X_fb hc
        replace F_ot := Qf.below F_ot (Qx.lt X_ot) hc
        replace X_ot := Qx.below X_ot hc
        replace R_fb := Lib.hid (R_fb.out.below hc)
        replace R_ot := Lib.hid (R_ot.out.below hc)
        clear hc b27
        have B_ := Lib.hid b28
        clear b28
        go_wp2
        go_ret
        exact ⟨rfl, B_.out⟩
      · obtain ⟨kd0, kd1, kd2⟩ := X_d.out
        obtain ⟨khi0, khi1, khi2⟩ := X_hi.out
        go_wp2_with fail
        clear kd0 kd1 kd2 khi0 khi1 khi2
        refine (HSn.out _ _ _ _ _ R_d.out R_hi.out).mono ?_
        rintro r w28 ⟨rfl, hc⟩
        have b28 := b27.trans (hc.mono b27.size)
        replace X_hi := Qx.below X_hi hc
        replace X_d := Qx.below X_d hc
        replace F_fb := Qf.below F_fb (Qx.lt X_fb) hc
        replace X_fb := Qx.below X_fb hc
        replace F_ot := Qf.below F_ot (Qx.lt X_ot) hc
        replace X_ot := Qx.below X_ot hc
        replace R_hi := Lib.hid (R_hi.out.below hc)
        replace R_d := Lib.hid (R_d.out.below hc)
        replace R_fb := Lib.hid (R_fb.out.below hc)
        replace R_ot := Lib.hid (R_ot.out.below hc)
        clear hc b27
        clear X_d
        clear R_d
        clear X_hi
        clear R_hi
        obtain ⟨kfb0, kfb1, kfb2⟩ := X_fb.out
        obtain ⟨kot0, kot1, kot2⟩ := X_ot.out
        go_wp2_with fail
        clear kfb0 kfb1 kfb2 kot0 kot1 kot2
        refine (HSf.out _ _ _ _ _ R_fb.out R_ot.out).mono ?_
        rintro r w29 ⟨rfl, hc⟩
        have b29 := b28.trans (hc.mono b28.size)
        replace F_fb := Qf.below F_fb (Qx.lt X_fb) hc
        replace X_fb := Qx.below X_fb hc
        replace F_ot := Qf.below F_ot (Qx.lt X_ot) hc
        replace X_ot := Qx.below X_ot hc
        replace R_fb := Lib.hid (R_fb.out.below hc)
        replace R_ot := Lib.hid (R_ot.out.below hc)
        clear hc b28
        have B_ := Lib.hid b29
        clear b29
        go_wp2
        go_ret
        exact ⟨rfl, B_.out⟩
  · obtain ⟨kcu0, kcu1, kcu2⟩ := X_cu.out
    obtain ⟨khi0, khi1, khi2⟩ := X_hi.out
    go_wp2_with fail
    clear kcu0 kcu1 kcu2 khi0 khi1 khi2
    refine (HSc2.out _ _ _ _ _ R_cu.out R_hi.out).mono ?_
    rintro r w24 ⟨rfl, hc⟩
    have b24 := b23.trans (hc.mono b23.size)
    replace X_lo := Qx.below X_lo hc
    replace X_hi := Qx.below X_hi hc
    replace X_cu := Qx.below X_cu hc
    replace X_ne := Qx.below X_ne hc
    replace X_d := Qx.below X_d hc
    replace F_fb := Qf.below F_fb (Qx.lt X_fb) hc
    replace X_fb := Qx.below X_fb hc
    replace F_ot := Qf.below F_ot (Qx.lt X_ot) hc
    replace X_ot := Qx.below X_ot hc
    replace R_lo := Lib.hid (R_lo.out.below hc)
    replace R_hi := Lib.hid (R_hi.out.below hc)
    replace R_cu := Lib.hid (R_cu.out.below hc)
    replace R_ne := Lib.hid (R_ne.out.below hc)
    replace R_d := Lib.hid (R_d.out.below hc)
    replace R_fb := Lib.hid (R_fb.out.below hc)
    replace R_ot := Lib.hid (R_ot.out.below hc)
    clear hc b23
    clear X_cu
    clear R_cu
    obtain ⟨kne0, kne1, kne2⟩ := X_ne.out
    obtain ⟨klo0, klo1, klo2⟩ := X_lo.out
    go_wp2_with fail
    clear kne0 kne1 kne2 klo0 klo1 klo2
    refine (HSe.out _ _ _ _ _ R_ne.out R_lo.out).mono ?_
    rintro r w25 ⟨rfl, hc⟩
    have b25 := b24.trans (hc.mono b24.size)
    replace X_lo := Qx.below X_lo hc
    replace X_hi := Qx.below X_hi hc
    replace X_ne := Qx.below X_ne hc
    replace X_d := Qx.below X_d hc
    replace F_fb := Qf.below F_fb (Qx.lt X_fb) hc
    replace X_fb := Qx.below X_fb hc
    replace F_ot := Qf.below F_ot (Qx.lt X_ot) hc
    replace X_ot := Qx.below X_ot hc
    replace R_lo := Lib.hid (R_lo.out.below hc)
    replace R_hi := Lib.hid (R_hi.out.below hc)
    replace R_ne := Lib.hid (R_ne.out.below hc)
    replace R_d := Lib.hid (R_d.out.below hc)
    replace R_fb := Lib.hid (R_fb.out.below hc)
    replace R_ot := Lib.hid (R_ot.out.below hc)
    clear hc b24
    rcases HF2.out with j3 | ⟨j3, j4⟩
    · clear X_ne
      clear R_ne
      obtain ⟨klo0, klo1, klo2⟩ := X_lo.out
      go_wp2_with fail
      clear klo0 klo1 klo2
      refine (HWl.out _ _ _ R_lo.out (HT.out.below b25)).mono ?_
      rintro r w26 ⟨rfl, hc⟩
      have b26 := b25.trans (hc.mono b25.size)
      replace X_lo := Qx.below X_lo hc
      replace X_hi := Qx.below X_hi hc
      replace X_d := Qx.below X_d hc
      replace F_fb := Qf.below F_fb (Qx.lt X_fb) hc
      replace X_fb := Qx.below X_fb hc
      replace F_ot := Qf.below F_ot (Qx.lt X_ot) hc
      replace X_ot := Qx.below X_ot hc
      replace R_lo := Lib.hid (R_lo.out.below hc)
      replace R_hi := Lib.hid (R_hi.out.below hc)
      replace R_d := Lib.hid (R_d.out.below hc)
      replace R_fb := Lib.hid (R_fb.out.below hc)
      replace R_ot := Lib.hid (R_ot.out.below hc)
      clear hc b25
      clear X_lo
      clear R_lo
      obtain ⟨khi0, khi1, khi2⟩ := X_hi.out
      go_wp2_with fail
      clear khi0 khi1 khi2
      refine (HWu.out _ _ _ R_hi.out (HT.out.below b26)).mono ?_
      rintro r w27 ⟨rfl, hc⟩
      have b27 := b26.trans (hc.mono b26.size)
      replace X_hi := Qx.below X_hi hc
      replace X_d := Qx.below X_d hc
      replace F_fb := Qf.below F_fb (Qx.lt X_fb) hc
      replace X_fb := Qx.below X_fb hc
      replace F_ot := Qf.below F_ot (Qx.lt X_ot) hc
      replace X_ot := Qx.below X_ot hc
      replace R_hi := Lib.hid (R_hi.out.below hc)
      replace R_d := Lib.hid (R_d.out.below hc)
      replace R_fb := Lib.hid (R_fb.out.below hc)
      replace R_ot := Lib.hid (R_ot.out.below hc)
      clear hc b26
      rcases f3 with j5 | ⟨j5, j6⟩
      · clear X_d
        clear R_d
        clear X_hi
        clear R_hi
        obtain ⟨kfb0, kfb1, kfb2⟩ := X_fb.out
        obtain ⟨kot0, kot1, kot2⟩ := X_ot.out
        go_wp2_with fail
        clear kfb0 kfb1 kfb2 kot0 kot1 kot2
        refine (HSf.out _ _ _ _ _ R_fb.out R_ot.out).mono ?_
        rintro r w28 ⟨rfl, hc⟩
        have b28 := b27.trans (hc.mono b27.size)
        replace F_fb := Qf.below F_fb (Qx.lt X_fb) hc
        replace X_fb := Qx.below X_fb hc
        replace F_ot := Qf.below F_ot (Qx.lt X_ot) hc
        replace X_ot := Qx.below X_ot hc
        replace R_fb := Lib.hid (R_fb.out.below hc)
        replace R_ot := Lib.hid (R_ot.out.below hc)
        clear hc b27
        have B_ := Lib.hid b28
        clear b28
        go_wp2
        go_ret
        exact ⟨rfl, B_.out⟩
      · obtain ⟨kd0, kd1, kd2⟩ := X_d.out
        obtain ⟨khi0, khi1, khi2⟩ := X_hi.out
        go_wp2_with fail
        clear kd0 kd1 kd2 khi0 khi1 khi2
        refine (HSn.out _ _ _ _ _ R_d.out R_hi.out).mono ?_
        rintro r w28 ⟨rfl, hc⟩
        have b28 := b27.trans (hc.mono b27.size)
        replace X_hi := Qx.below X_hi hc
        replace X_d := Qx.below X_d hc
        replace F_fb := Qf.below F_fb (Qx.lt X_fb) hc
        replace X_fb := Qx.below X_fb hc
        replace F_ot := Qf.below F_ot (Qx.lt X_ot) hc
        replace X_ot := Qx.below X_ot hc
        replace R_hi := Lib.hid (R_hi.out.below hc)
        replace R_d := Lib.hid (R_d.out.below hc)
        replace R_fb := Lib.hid (R_fb.out.below hc)
        replace R_ot := Lib.hid (R_ot.out.below hc)
        clear hc b27
        clear X_d
        clear R_d
        clear X_hi
        clear R_hi
        obtain ⟨kfb0, kfb1, kfb2⟩ := X_fb.out
        obtain ⟨kot0, kot1, kot2⟩ := X_ot.out
        go_wp2_with fail
        clear kfb0 kfb1 kfb2 kot0 kot1 kot2
        refine (HSf.out _ _ _ _ _ R_fb.out R_ot.out).mono ?_
        rintro r w29 ⟨rfl, hc⟩
        have b29 := b28.trans (hc.mono b28.size)
        replace F_fb := Qf.below F_fb (Qx.lt X_fb) hc
        replace X_fb := Qx.below X_fb hc
        replace F_ot := Qf.below F_ot (Qx.lt X_ot) hc
        replace X_ot := Qx.below X_ot hc
        replace R_fb := Lib.hid (R_fb.out.below hc)
        replace R_ot := Lib.hid (R_ot.out.below hc)
        clear hc b28
        have B_ := Lib.hid b29
        clear b29
        go_wp2
        go_ret
        exact ⟨rfl, B_.out⟩
    · obtain ⟨kne0, kne1, kne2⟩ := X_ne.out
      obtain ⟨khi0, khi1, khi2⟩ := X_hi.out
      go_wp2_with fail
      clear kne0 kne1 kne2 khi0 khi1 khi2
      refine (HSe2.out _ _ _ _ _ R_ne.out R_hi.out).mono ?_
      rintro r w26 ⟨rfl, hc⟩
      have b26 := b25.trans (hc.mono b25.size)
      replace X_lo := Qx.below X_lo hc
      replace X_hi := Qx.below X_hi hc
      replace X_ne := Qx.below X_ne hc
      replace X_d := Qx.below X_d hc
      replace F_fb := Qf.below F_fb (Qx.lt X_fb) hc
      replace X_fb := Qx.below X_fb hc
      replace F_ot := Qf.below F_ot (Qx.lt X_ot) hc
      replace X_ot := Qx.below X_ot hc
      replace R_lo := Lib.hid (R_lo.out.below hc)
      replace R_hi := Lib.hid (R_hi.out.below hc)
      replace R_ne := Lib.hid (R_ne.out.below hc)
      replace R_d := Lib.hid (R_d.out.below hc)
      replace R_fb := Lib.hid (R_fb.out.below hc)
      replace R_ot := Lib.hid (R_ot.out.below hc)
      clear hc b25
      clear X_ne
      clear R_ne
      obtain ⟨klo0, klo1, klo2⟩ := X_lo.out
      go_wp2_with fail
      clear klo0 klo1 klo2
      refine (HWl.out _ _ _ R_lo.out (HT.out.below b26)).mono ?_
      rintro r w27 ⟨rfl, hc⟩
      have b27 := b26.trans (hc.mono b26.size)
      replace X_lo := Qx.below X_lo hc
      replace X_hi := Qx.below X_hi hc
      replace X_d := Qx.below X_d hc
      replace F_fb := Qf.below F_fb (Qx.lt X_fb) hc
      replace X_fb := Qx.below X_fb hc
      replace F_ot := Qf.below F_ot (Qx.lt X_ot) hc
      replace X_ot := Qx.below X_ot hc
      replace R_lo := Lib.hid (R_lo.out.below hc)
      replace R_hi := Lib.hid (R_hi.out.below hc)
      replace R_d := Lib.hid (R_d.out.below hc)
      replace R_fb := Lib.hid (R_fb.out.below hc)
      replace R_ot := Lib.hid (R_ot.out.below hc)
      clear hc b26
      clear X_lo
      clear R_lo
      obtain ⟨khi0, khi1, khi2⟩ := X_hi.out
      go_wp2_with fail
      clear khi0 khi1 khi2
      refine (HWu.out _ _ _ R_hi.out (HT.out.below b27)).mono ?_
      rintro r w28 ⟨rfl, hc⟩
      have b28 := b27.trans (hc.mono b27.size)
      replace X_hi := Qx.below X_hi hc
      replace X_d := Qx.below X_d hc
      replace F_fb := Qf.below F_fb (Qx.lt X_fb) hc
      replace X_fb := Qx.below X_fb hc
      replace F_ot := Qf.below F_ot (Qx.lt X_ot) hc
      replace X_ot := Qx.below X_ot hc
      replace R_hi := Lib.hid (R_hi.out.below hc)
      replace R_d := Lib.hid (R_d.out.below hc)
      replace R_fb := Lib.hid (R_fb.out.below hc)
      replace R_ot := Lib.hid (R_ot.out.below hc)
      clear hc b27
      rcases f3 with j5 | ⟨j5, j6⟩
      · clear X_d
        clear R_d
        clear X_hi
        clear R_hi
        obtain ⟨kfb0, kfb1, kfb2⟩ := X_fb.out
        obtain ⟨kot0, kot1, kot2⟩ := X_ot.out
        go_wp2_with fail
        clear kfb0 kfb1 kfb2 kot0 kot1 kot2
        refine (HSf.out _ _ _ _ _ R_fb.out R_ot.out).mono ?_
        rintro r w29 ⟨rfl, hc⟩
        have b29 := b28.trans (hc.mono b28.size)
        replace F_fb := Qf.below F_fb (Qx.lt X_fb) hc
        replace X_fb := Qx.below X_fb hc
        replace F_ot := Qf.below F_ot (Qx.lt X_ot) hc
        replace X_ot := Qx.below X_ot hc
        replace R_fb := Lib.hid (R_fb.out.below hc)
        replace R_ot := Lib.hid (R_ot.out.below hc)
        clear hc b28
        have B_ := Lib.hid b29
        clear b29
        go_wp2
        go_ret
        exact ⟨rfl, B_.out⟩
      · obtain ⟨kd0, kd1, kd2⟩ := X_d.out
        obtain ⟨khi0, khi1, khi2⟩ := X_hi.out
        go_wp2_with fail
        clear kd0 kd1 kd2 khi0 khi1 khi2
        refine (HSn.out _ _ _ _ _ R_d.out R_hi.out).mono ?_
        rintro r w29 ⟨rfl, hc⟩
        have b29 := b28.trans (hc.mono b28.size)
        replace X_hi := Qx.below X_hi hc
        replace X_d := Qx.below X_d hc
        replace F_fb := Qf.below F_fb (Qx.lt X_fb) hc
        replace X_fb := Qx.below X_fb hc
        replace F_ot := Qf.below F_ot (Qx.lt X_ot) hc
        replace X_ot := Qx.below X_ot hc
        replace R_hi := Lib.hid (R_hi.out.below hc)
        replace R_d := Lib.hid (R_d.out.below hc)
        replace R_fb := Lib.hid (R_fb.out.below hc)
        replace R_ot := Lib.hid (R_ot.out.below hc)
        clear hc b28
        clear X_d
        clear R_d
        clear X_hi
        clear R_hi
        obtain ⟨kfb0, kfb1, kfb2⟩ := X_fb.out
        obtain ⟨kot0, kot1, kot2⟩ := X_ot.out
        go_wp2_with fail
        clear kfb0 kfb1 kfb2 kot0 kot1 kot2
        refine (HSf.out _ _ _ _ _ R_fb.out R_ot.out).mono ?_
        rintro r w30 ⟨rfl, hc⟩
        have b30 := b29.trans (hc.mono b29.size)
        replace F_fb := Qf.below F_fb (Qx.lt X_fb) hc
        replace X_fb := Qx.below X_fb hc
        replace F_ot := Qf.below F_ot (Qx.lt X_ot) hc
        replace X_ot := Qx.below X_ot hc
        replace R_fb := Lib.hid (R_fb.out.below hc)
        replace R_ot := Lib.hid (R_ot.out.below hc)
        clear hc b29
        have B_ := Lib.hid b30
        clear b30
        go_wp2
        go_ret
        exact ⟨rfl, B_.out⟩
theorem between_walk {s1 : Bool} {a1 : Option Addr} {n1 ca1 : Nat} {e1 : Int} (w : World) (htab : Tab w) (ha : IsRow w a1 n1 ca1) (_ : (Lit.int .i64 e1).wf = true) :
    Calls Tryz.prog 8 #[.agg #[.bool s1, .slice a1 n1 ca1, .int .i64 e1]] w fun r w' => r = .returned (.bool true) ∧ Below w.heap.size w w' := by
  obtain ⟨l1, rfl, lo1, rd1, hm1⟩ := ha
  unfold maxLen at hm1
  by_cases h0 : (normA l1.length s1 (vl 1000000000 l1) e1).err = 0
  · by_cases h9 : 0 ≤ (normA l1.length s1 (vl 1000000000 l1) e1).p.e
    · exact between_whole s1 a1 ca1 l1 e1 w (by omega) lo1 rd1 htab h0 h9
    · exact between_part s1 a1 ca1 l1 e1 w (by omega) lo1 rd1 htab h0 (by omega)
  · exact between_no s1 a1 ca1 l1 e1 w (by omega) lo1 rd1 htab h0
end Go.Proofs.YtimfpgpomafflaaGreatDoor
