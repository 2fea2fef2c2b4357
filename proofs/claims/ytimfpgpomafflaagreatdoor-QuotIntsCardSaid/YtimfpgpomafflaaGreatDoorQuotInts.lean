/- Walk of the law QuotInts. -/
import Derived.Test.YtimfpgpomafflaaGreatDoorQuotW
import Derived.Test.YtimfpgpomafflaaGreatDoorQuotT
namespace Go.Proofs.YtimfpgpomafflaaGreatDoor
open Go.RowKit LM

set_option maxHeartbeats 16000000 in
set_option maxRecDepth 20000 in
theorem ints_main (s1 : Bool) (a1 : Option Addr) (c1 : Nat) (l1 : List Nat) (e1 : Int) (w : World) (h1 : l1.length ≤ 9223372036854775807) (hlo1 : Lo 4294967296 l1) (hr1 : Rd w .u32 a1 l1) (htab : Tab w)  :
    Calls Tryz.prog 6 #[.agg #[.bool s1, .slice a1 l1.length c1, .int .i64 e1]] w fun r w' => r = .returned (.bool true) ∧ Below w.heap.size w w' := by
  have hS := fun W (hb : Below w.heap.size w W) => shown_any W (htab.below hb)
  have hI := fun W (hb : Below w.heap.size w W) => Int_any s1 a1 c1 l1 e1 W h1 hlo1 (hr1.below' (w' := W) hb (Nat.le_refl _)) (htab.below hb)
  have hJ := fun W (hb : Below w.heap.size w W) => RInt_any s1 a1 c1 l1 e1 W h1 hlo1 (hr1.below' (w' := W) hb (Nat.le_refl _))
  have hW := fun W (hb : Below w.heap.size w W) => Whole_any s1 a1 c1 l1 e1 W h1 hlo1 (hr1.below' (w' := W) hb (Nat.le_refl _)) (htab.below hb)
  have hV := fun W (hb : Below w.heap.size w W) => RWhole_any s1 a1 c1 l1 e1 W h1 hlo1 (hr1.below' (w' := W) hb (Nat.le_refl _))
  generalize (decide ((normA l1.length s1 (vl 1000000000 l1) e1).err = 0) && decide (0 ≤ (normA l1.length s1 (vl 1000000000 l1) e1).p.e)) = bb at *
  generalize intB (normA l1.length s1 (vl 1000000000 l1) e1) = X at *
  obtain ⟨x1, x2⟩ := X
  have hI : ∀ W, Below w.heap.size w W → Calls Tryz.prog 23 #[.agg #[.bool s1, .slice a1 l1.length c1, .int .i64 e1]] W fun r w' => r = .returned (.tuple #[.int .i64 x1, .int .i64 (x2 : Nat)]) ∧ Below W.heap.size W w' := hI
  have hJ : ∀ W, Below w.heap.size w W → Calls Tryz.prog 24 #[.agg #[.bool s1, .slice a1 l1.length c1, .int .i64 e1]] W fun r w' => r = .returned (.tuple #[.int .i64 x1, .int .i64 (x2 : Nat)]) ∧ Below W.heap.size W w' := hJ
  have HS := Lib.hid hS; have HI := Lib.hid hI; have HJ := Lib.hid hJ; have HW := Lib.hid hW; have HV := Lib.hid hV
  have t0 : (x1 == x1) = true := by simp
  have t1 : ((x2 : Int) == (x2 : Int)) = true := by simp
  have t2 : (bb == bb) = true := by simp
  clear hS hI hJ hW hV htab hr1 hlo1
  go_enter Tryz.func6, Tryz.ntmps6
  have b1 := ((Below.refl w.heap.size w).alloc (Nat.le_refl _) (.cells #[.bool s1, .slice a1 l1.length c1, .int .i64 e1] 24))
  have X_d := (Qx.new w (.bool s1) (.slice a1 l1.length c1) (.int .i64 e1) 24)
  have F_d := (Qf.new w (.bool s1) (.slice a1 l1.length c1) (.int .i64 e1) 24)
  go_wp2_with fail
  refine (HS.out _ b1).mono ?_
  rintro r w2 ⟨rfl, hc⟩
  have b2 := b1.trans (hc.mono b1.size)
  replace F_d := Qf.below F_d (Qx.lt X_d) hc
  replace X_d := Qx.below X_d hc
  clear hc b1
  obtain ⟨kd0, kd1, kd2⟩ := X_d.out
  go_wp2_with fail
  clear kd0 kd1 kd2
  refine (HI.out _ b2).mono ?_
  rintro r w3 ⟨rfl, hc⟩
  have b3 := b2.trans (hc.mono b2.size)
  replace F_d := Qf.below F_d (Qx.lt X_d) hc
  replace X_d := Qx.below X_d hc
  clear hc b2
  obtain ⟨kd0, kd1, kd2⟩ := X_d.out
  go_wp2_with fail
  clear kd0 kd1 kd2
  refine (HJ.out _ b3).mono ?_
  rintro r w4 ⟨rfl, hc⟩
  have b4 := b3.trans (hc.mono b3.size)
  replace F_d := Qf.below F_d (Qx.lt X_d) hc
  replace X_d := Qx.below X_d hc
  clear hc b3
  obtain ⟨kd0, kd1, kd2⟩ := X_d.out
  have bw := Below.refl w4.heap.size w4
  go_wp2_with fail
  go_region_held3 (fun w' => w'.cell? ⟨w.heap.size, 0, none⟩ = some (.bool s1) ∧ w'.cell? ⟨w.heap.size, 1, none⟩ = some (.slice a1 l1.length c1) ∧ w'.cell? ⟨w.heap.size, 2, none⟩ = some (.int .i64 e1)) (first | with_reducible exact ⟨j0, j1, j2⟩ | with_reducible exact ⟨i0, i1, i2⟩ | with_reducible exact ⟨kd0, kd1, kd2⟩ | exact ⟨kd0, kd1, kd2⟩ | go_keep)
    (first
      | (go_at_call 26; have chk := zc; refine (HV.out _ (b4.trans (zc.mono b4.size))).mono ?_; rintro e wd ⟨rfl, hbd⟩; have zd := zc.trans (hbd.mono zc.size); have j0 := cellB kd0 zd; have j1 := cellB kd1 zd; have j2 := cellB kd2 zd)
      | (go_at_call 25; refine (HW.out _ (b4.trans (bw.drew.mono b4.size))).mono ?_; rintro e wc ⟨rfl, hbc⟩; have zc := bw.drew.trans hbc; have i0 := cellB kd0 zc; have i1 := cellB kd1 zc; have i2 := cellB kd2 zc))
  have BL := b4.trans (zd.mono b4.size)
  go_wp2
  go_ret
  exact ⟨by simp, BL⟩
theorem ints_walk {s1 : Bool} {a1 : Option Addr} {n1 ca1 : Nat} {e1 : Int} (w : World) (htab : Tab w) (ha : IsRow w a1 n1 ca1) (_ : (Lit.int .i64 e1).wf = true) :
    Calls Tryz.prog 6 #[.agg #[.bool s1, .slice a1 n1 ca1, .int .i64 e1]] w fun r w' => r = .returned (.bool true) ∧ Below w.heap.size w w' := by
  obtain ⟨l1, rfl, lo1, rd1, hm1⟩ := ha
  unfold maxLen at hm1
  exact ints_main s1 a1 ca1 l1 e1 w (by omega) lo1 rd1 htab
end Go.Proofs.YtimfpgpomafflaaGreatDoor
