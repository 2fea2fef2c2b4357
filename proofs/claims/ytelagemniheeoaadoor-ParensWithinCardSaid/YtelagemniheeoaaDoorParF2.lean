/- parens: find walked (made by genparw.py). -/
import Derived.Test.YtelagemniheeoaaDoorParW2
import Derived.WalkMore
namespace Go.Proofs.YtelagemniheeoaaDoor
open Go.RowKit BM

set_option maxRecDepth 100000 in
set_option maxHeartbeats 8000000 in
theorem findF2_any (b : Nat) (v : VD) (i : Int) (e : Int) (eb kb k : Nat) (w0 w : World) (hV : VX0 w0 b v) (hb0 : Below w0.heap.size w0 w) (hB : w0.heap.size ≤ kb) (hkw : kb < w.heap.size) (hS : SS false e eb kb k w) (hk : k ≤ 9223372036854775807)
    (hat : At false v.n 0 i) (hi : -1 ≤ i ∧ i ≤ v.n) :
    Calls Tryd.prog 45 #[.pointer (some ⟨b, 0, none⟩), .int .i64 i, .int .i64 (-1), .func (.func 49) #[] #[.pointer (some ⟨eb, 0, none⟩)]] w (ResF v false i e k w0.heap.size kb w) := by
  have hV0 := hV
  obtain ⟨hX, hok, h100⟩ := hV
  have hn := hok.1.2.1
  have HL := Lib.hid (fun (d y : Nat) (W : World) (hb : Below w0.heap.size w0 W) (hd : d ≤ v.lv.length) (hy : lo d y ≤ v.n) => least_any b v d y W (hX.below hb) hok hd h100 (by have := lo_cn.1 hy; exact this))
  have HA := Lib.hid (fun (d y : Nat) (hd : d ≤ v.lv.length) (hy : lo d y ≤ v.n) => lst_agg hok (d := d) (i := y) hd (by have := lo_cn.1 hy; exact this))
  have HC := Lib.hid (fun (d : Nat) (W : World) (hb : Below w0.heap.size w0 W) (hd : d ≤ v.lv.length) => count_any b v d W (hX.below hb) hok hd h100)
  have HS := Lib.hid (fun (k : Nat) (l : Int) (m : Nat) (W : World) (hS : SS false e eb kb k W) (hm : 1 ≤ m) (hk : k ≤ 9223372036854775807) (hm2 : m ≤ 9223372036854775807) => (less_any e eb kb k l m W hS hm))
  have HSH := Lib.hid (fun d W => shift_any d W)
  have HX3 := Lib.hid (fun W (hb : Below w0.heap.size w0 W) => (hX.below hb).1.2.2.2)
  have HW := Lib.hid (fun (d i k : Nat) (W : World) (hb : Below w0.heap.size w0 W) (hkw : kb < W.heap.size) (hd : d < v.lv.length) (hS : SS false e eb kb k W) (hk : k ≤ 9223372036854775807) hh (hf : Ful false v.n (d + 1) i) hi => withinW2_any b v d i e eb kb k w0 W hV0 hb hB hkw hd hS hk hh hf hi)
  have HB0 := Lib.hid hb0; have HSS := Lib.hid hS
  have hSz : w0.heap.size ≤ w.heap.size := hb0.size
  have HAT := Lib.hid hat
  have hEB := hS.ltE
  have NE1 := Lib.hid (two_ne hEB (Nat.le_refl w.heap.size))
  have NE2 := Lib.hid (two_ne hkw (Nat.le_refl w.heap.size))
  clear hX hS hb0 hok hV0 hat
  obtain ⟨B, hBe⟩ : ∃ B, w0.heap.size = B := ⟨_, rfl⟩
  rw [hBe] at HL HB0 hB hSz HC HX3 HW ⊢
  have HBE := Lib.hid hBe
  clear hBe
  generalize hlk : v.lv.length = kl at *
  have HLK := Lib.hid hlk
  clear hlk hEB
  generalize v.lc = lcap at *
  generalize v.la = la at *
  go_enter Tryd.func45, Tryd.ntmps45
  go_wp2_with fail
  go_step3
  go_wp2_with fail
  go_step3
  go_wp2_with fail
  have N0 := Lib.hid (Nd.new w 0 i 61)
  have b1 := (Below.refl w.heap.size w).alloc (Nat.le_refl _) (.cells #[.int .i64 0, .int .i64 i] 61)
  generalize w.alloc (.cells #[.int .i64 0, .int .i64 i] 61) = w1 at *
  have R1 := Lib.hid (Rn.of (kb := kb) b1 hSz)
  have S1 := Lib.hid (HSS.out.below b1)
  clear b1 HSS
  have HE0 : Hid (seek (ex v.f) e (rst false v.n 0 i) k = seek (ex v.f) e (rst false v.n 0 i) k) := Lib.hid rfl
  go_loopw [10] (fun s10 wr => ∃ (dn : Nat) (z : Int) (k' : Nat), dn ≤ kl ∧ k' ≤ k ∧ (-1 ≤ z ∧ z ≤ v.n + 1) ∧ Hid (At false v.n dn z) ∧ Hid (seek (ex v.f) e (rst false v.n 0 i) k = seek (ex v.f) e (rst false v.n dn z) k') ∧ Hid (SS false e eb kb k' wr) ∧ Hid (Rn B kb w wr) ∧ Hid (Nd wr w.heap.size dn z)) (fun _ wr => mF false v.n wr w.heap.size)
  case atStart => exact ⟨0, i, k, by omega, by omega, by omega, HAT, HE0, S1, R1, N0⟩
  case round =>
    obtain ⟨dn, z, k', hdn, hk', hzb, HT, HE, SR, RR, N1⟩ := hrel
    have HCd := Lib.hid (HC.out dn wr (HB0.out.trans RR.out.below) hdn)
    by_cases hz : z < 0
    · have hend := rst_end HT.out (Or.inl hz)
      have HE1 : Hid (seek (ex v.f) e (rst false v.n 0 i) k = -1) := Lib.hid (by rw [HE.out, hend]; rfl)
      have hz1 : decide (z < 0) = true := by simpa using hz
      obtain ⟨c0, c1, c2⟩ := N1.out
      clear hend
      go_upto_region 2 with (fail)
      go_quiet ((go_at_call 50; fail))
      go_wp2
      try rw [Exit.noGoto_ret]
      go_ret
      exact ⟨ret_int HE1.out.symm, Rn.dN RR.out _⟩
    · obtain ⟨y, rfl⟩ : ∃ y : Nat, z = y := ⟨z.toNat, by omega⟩
      by_cases hy : cn v.n dn ≤ y
      · have hend := rst_end HT.out (Or.inr (by have : ((cn v.n dn : Nat) : Int) ≤ (y : Nat) := by omega
                                                exact this))
        have HE1 : Hid (seek (ex v.f) e (rst false v.n 0 i) k = -1) := Lib.hid (by rw [HE.out, hend]; rfl)
        have hy1 : decide (cn v.n dn ≤ y) = true := by simpa using hy
        have HCe := Lib.hid (fun m => HC.out dn (wr.drewN m) ((HB0.out.trans RR.out.below).trans (bdN (Below.refl _ _) m)) hdn)
        obtain ⟨c0, c1, c2⟩ := N1.out
        clear hend hz
        generalize cn v.n dn = cc at *
        go_upto_region 2 with (fail)
        go_quiet ((go_at_call 50; first | exact still (HCe.out _) | exact still2 (HCe.out _)))
        go_wp2
        try rw [Exit.noGoto_ret]
        go_ret
        exact ⟨ret_int HE1.out.symm, Rn.dN RR.out _⟩
      · have hyc : y < cn v.n dn := by omega
        have hly : lo dn y ≤ v.n := lo_cn.2 hyc
        have hy1 : decide (cn v.n dn ≤ y) = false := by simpa using hyc
        have HCe := Lib.hid (fun m => HC.out dn (wr.drewN m) ((HB0.out.trans RR.out.below).trans (Below.dN wr m)) hdn)
        have hag := HA.out dn y hdn hly
        have hbd := agg_bd hag
        obtain ⟨hsp, hat', hlen, hful⟩ := rst_step HT.out hly
        have hblk := seek_block (iv_agg (up := false) hag) e k' (rst false v.n dn (y + (if false then 1 else -1)))
        have hhit := agg_hit (iv_agg (up := false) hag) e k'
        rw [show iv false (lo dn y) (hi_ v.n dn y) = blk false v.n dn y from rfl, ← hsp] at hblk
        rw [show iv false (lo dn y) (hi_ v.n dn y) = blk false v.n dn y from rfl] at hhit
        have HLy := Lib.hid (fun W hb => HL.out dn y W hb hdn hly)
        obtain ⟨l, hl⟩ : ∃ l, (lst v dn y).1 = l := ⟨_, rfl⟩
        obtain ⟨m, hm⟩ : ∃ m, (lst v dn y).2 = m := ⟨_, rfl⟩
        rw [hl, hm] at HLy hbd hblk hhit
        have hm1 : 1 ≤ m := hbd.2.2.1
        have hm2 : m ≤ 9223372036854775807 := by omega
        have HBLK := Lib.hid hblk; have HHIT := Lib.hid hhit; have HLYY := Lib.hid hly
        have HSP := Lib.hid hsp; have HAT' := Lib.hid hat'; have HLEN := Lib.hid hlen; have HFUL : Hid (Ful false v.n dn y) := Lib.hid hful
        have HMC := Lib.hid (N1.out.mF false v.n)
        have hyn : y ≤ v.n := Nat.le_trans (Nat.le_mul_of_pos_right _ (sh_pos dn)) hly
        clear hl hm hag hbd hblk hhit hly hsp hat' hlen hful hz hyc
        obtain ⟨c0, c1, c2⟩ := N1.out
        generalize cn v.n dn = cc at *
        go_upto_region 2 with (fail)
        go_quiet ((go_at_call 50; first | exact still (HCe.out _) | exact still2 (HCe.out _)))
        clear c0 c1 c2 hy1 hy HCe HCd
        have R2 := Lib.hid (Rn.dN RR.out nq)
        have S2 : Hid (SS false e eb kb k' (wr.drewN nq)) := SR
        have N2 : Hid (Nd (wr.drewN nq) w.heap.size dn y) := N1
        generalize wr.drewN nq = w2 at *
        clear RR SR N1
        obtain ⟨c0, c1, c2⟩ := N2.out
        go_wp2_with fail
        clear c0 c1 c2
        refine (HLy.out w2 (HB0.out.trans R2.out.below)).mono ?_
        rintro r w3 ⟨rfl, hb3⟩
        have hz3 := R2.out.size
        have R3 := Lib.hid (R2.out.trans (Rn.of (kb := kb) hb3 (Nat.le_trans hSz hz3)))
        have S3 := Lib.hid (S2.out.below hb3)
        have N3 := Lib.hid (N2.out.below hb3)
        clear hb3 R2 S2 N2 HLy hz3
        go_wp2_with fail
        refine (HS.out k' l m _ S3.out hm1 (by omega) hm2).mono ?_
        rintro r w4 ⟨rfl, hss, hkp⟩
        have hz4 := R3.out.size
        have R4 := Lib.hid (R3.out.trans (Rn.kp hkp (Nat.le_trans hSz hz4) hB))
        have N4 := Lib.hid (N3.out.kp hkp (Ne.symm NE2.out))
        clear hkp R3 S3 N3 hz4
        rcases Bool.eq_false_or_eq_true (stop e k' l m) with hs | hs
        · rw [hs, if_pos rfl] at hss
          rw [hs]
          have S4 := Lib.hid hss
          have HHT := Lib.hid (HHIT.out.1 hs)
          have HEQ : Hid (seek (ex v.f) e (rst false v.n 0 i) k = seek (ex v.f) e (blk false v.n dn y) k') := Lib.hid (HE.out.trans (HBLK.out.1 hs).1)
          clear hs hss HE HSP HBLK HHIT HLEN HAT' HMC HT
          go_wp2_with fail
          go_loopw [72] (fun s72 wq => ∃ (d2 y2 k2 : Nat), d2 ≤ kl ∧ k2 ≤ k ∧ y2 ≤ v.n ∧ Hid (lo d2 y2 ≤ v.n) ∧ Hid (seek (ex v.f) e (rst false v.n 0 i) k = seek (ex v.f) e (blk false v.n d2 y2) k2) ∧ Hid (hit (ex v.f) e k2 (blk false v.n d2 y2)) ∧ Hid (Ful false v.n d2 y2) ∧ Hid (SS false e eb kb k2 wq) ∧ Hid (Rn B kb w wq) ∧ Hid (Nd wq w.heap.size d2 y2)) (fun _ wq => cellN wq ⟨w.heap.size, 0, none⟩)
          case atStart => exact ⟨dn, y, k', by omega, by omega, hyn, HLYY, HEQ, HHT, HFUL, S4, R4, N4⟩
          case round =>
            obtain ⟨d2, y2, k2, hd2, hk2, hy2, HLO, HEQ2, HH2, HF2, S5, R5, N5⟩ := hrel
            rcases Nat.eq_zero_or_pos d2 with h0 | h0
            · subst h0
              have hb0 := blk0 false hy2
              have HRES : Hid (seek (ex v.f) e (rst false v.n 0 i) k = y2) := Lib.hid (by rw [HEQ2.out, hb0]; rw [hb0] at HH2; exact hit_one HH2.out)
              clear hb0
              obtain ⟨c0, c1, c2⟩ := N5.out
              go_wp2
              try rw [Exit.noGoto_ret]
              go_ret
              exact ⟨ret_int HRES.out.symm, R5.out⟩
            · obtain ⟨d3, rfl⟩ : ∃ d3, d2 = d3 + 1 := ⟨d2 - 1, by omega⟩
              have hz5 := R5.out.size
              have HWc := Lib.hid (HW.out d3 y2 k2 wr (HB0.out.trans R5.out.below) (by omega) (by omega) S5.out (by omega) HH2.out HF2.out HLO.out)
              have HDC := Lib.hid N5.out.dep
              obtain ⟨c0, c1, c2⟩ := N5.out
              have c20 := c2 0
              have c21 := c2 1
              rw [Int.natCast_add, show ((1 : Nat) : Int) = 1 from rfl] at c0
              go_wp2_with fail
              clear c0 c1 c2 c20 c21
              refine HWc.out.mono ?_
              rintro r w6 ⟨y', k3, rfl, hlo', hE', hH', hF', hS', hk3, hR'⟩
              have N6 := Lib.hid (N5.out.rn hR' (Ne.symm NE2.out))
              have HLO6 := Lib.hid hlo'; have HE6 := Lib.hid (HEQ2.out.trans hE'); have HH6 := Lib.hid hH'; have HF6 : Hid (Ful false v.n d3 y') := Lib.hid hF'; have S6 := Lib.hid hS'; have R6 := Lib.hid (R5.out.trans hR')
              have hy6 : y' ≤ v.n := Nat.le_trans (Nat.le_mul_of_pos_right _ (sh_pos d3)) hlo'
              clear hlo' hE' hH' hF' hS' hR' HWc
              obtain ⟨c0, c1, c2⟩ := N6.out
              have c20 := c2 0
              have c21 := c2 1
              go_wp2
              clear c0 c1 c2 c20 c21
              have N7 := Nd.set1 (y' : Int) (Nd.set0 (d3 : Int) N6.out)
              go_roundw
              case rel => exact ⟨d3, y', k3, by omega, by omega, hy6, HLO6, HE6, HH6, HF6, Lib.hid ((S6.out.set NE1.out NE2.out).set NE1.out NE2.out), Lib.hid ((R6.out.set (Nat.le_refl _) hSz _ _).set (Nat.le_refl _) hSz _ _), Lib.hid N7⟩
              case measure => rw [HDC.out, N7.dep]; omega
        · rw [hs, if_neg (by simp)] at hss
          rw [hs]
          have S4 := Lib.hid hss
          have HE2 : Hid (seek (ex v.f) e (rst false v.n 0 i) k = seek (ex v.f) e (rst false v.n dn (y + (if false then 1 else -1))) (nxt e k' l m)) := Lib.hid (HE.out.trans (HBLK.out.2 hs))
          have hnl := nxt_le e k' l m
          clear hs hss
          generalize nxt e k' l m = k2 at *
          have hby : (if dn = 0 then (6 : Int) else 3) = (by_ dn : Nat) := by unfold by_; split <;> rfl
          have HSHd := Lib.hid (fun W => shift_any dn W)
          rw [hby] at HSHd
          clear hby
          simp only [Bool.false_eq_true, if_false] at HE2 HSP HAT' HLEN
          obtain ⟨z2, hz2⟩ : ∃ z2, (y : Int) + -1 = z2 := ⟨_, rfl⟩
          have s1 : IntKind.i64.wrap ((y : Int) + -1) = z2 := by rw [← hz2]; exact IntWalk.i64_in _ (by omega)
          have hpar := rst_parent (up := false) (n := v.n) (d := dn) (y := y)
          simp only [Bool.false_eq_true, if_false] at hpar
          have hzb2 : -1 ≤ z2 ∧ z2 ≤ v.n + 1 := by omega
          rw [hz2] at HE2 HAT' HLEN hpar
          have HZ2 := Lib.hid hz2
          have HPAR := Lib.hid (hpar HAT'.out)
          clear hz2 hpar
          obtain ⟨c0, c1, c2⟩ := N4.out
          go_upto_region 5 with (fail)
          go_quiet ((go_at_call 52; first | exact still (HSHd.out _) | exact still2 (HSHd.out _)))
          try rw [s1]
          clear c0 c1 c2 s1 HSHd
          have R5 := Lib.hid (Rn.dN R4.out nq)
          have S5 : Hid (SS false e eb kb k2 (w4.drewN nq)) := S4
          have N5 : Hid (Nd (w4.drewN nq) w.heap.size dn y) := N4
          generalize w4.drewN nq = w5 at *
          clear R4 S4 N4
          have hsz5 := R5.out.size
          have hx3 := HX3.out w5 (HB0.out.trans R5.out.below)
          obtain ⟨pw, hpw⟩ : ∃ pw : Int, (2 : Int) ^ min (by_ dn) 64 = pw := ⟨_, rfl⟩
          rw [show (2 : Int) ^ by_ dn = pw by rw [← hpw]; congr 1; unfold by_; split <;> rfl] at HPAR
          by_cases hd1 : dn < kl
          · have hd2 : decide (dn < kl) = true := by simpa using hd1
            by_cases hq : z2 / pw = (y : Int) / pw
            · have hq1 : (z2 / pw == (y : Int) / pw) = true := by simpa using hq
              have hq2 : (!(z2 / pw == (y : Int) / pw)) = false := by rw [hq1]; rfl
              rw [← hpw] at hq1 hq2
              clear hq hpw
              obtain ⟨c0, c1, c2⟩ := N5.out
              go_upto_region 6 with (fail)
              go_quiet (fail)
              clear c0 c1 c2 hx3
              have R6 := Lib.hid (Rn.dN R5.out nq)
              have S6 : Hid (SS false e eb kb k2 (w5.drewN nq)) := S5
              have N6 : Hid (Nd (w5.drewN nq) w.heap.size dn y) := N5
              generalize w5.drewN nq = w6 at *
              clear R5 S5 N5
              obtain ⟨c0, c1, c2⟩ := N6.out
              have c21 := c2 1
              go_wp2
              clear c0 c1 c2 c21
              have N7 := Nd.set1 z2 N6.out
              go_roundw
              case rel => exact ⟨dn, z2, k2, by omega, by omega, by omega, HAT', HE2, Lib.hid (S6.out.set NE1.out NE2.out), Lib.hid (R6.out.set (Nat.le_refl _) hSz _ _), Lib.hid N7⟩
              case measure => rw [HMC.out, N7.mF]; exact HLEN.out
            · have hq1 : (z2 / pw == (y : Int) / pw) = false := by simpa using hq
              have hq2 : (z2 / pw != (y : Int) / pw) = true := by rw [bne, hq1]; rfl
              have hpn := HPAR.out hq
              have HP1 := Lib.hid hpn.1; have HP2 := Lib.hid hpn.2
              have hpb : pw = 64 ∨ pw = 8 := by rw [← hpw]; unfold by_; split <;> simp
              have hqb : -1 ≤ z2 / pw ∧ z2 / pw ≤ v.n + 1 := by rcases hpb with h | h <;> rw [h] <;> omega
              rw [← hpw] at hq1 hq2 hqb HP1 HP2
              clear hq hpw hpn hpb
              obtain ⟨c0, c1, c2⟩ := N5.out
              go_upto_region 6 with (fail)
              go_quiet (fail)
              clear c0 c1 c2 hx3
              have R6 := Lib.hid (Rn.dN R5.out nq)
              have S6 : Hid (SS false e eb kb k2 (w5.drewN nq)) := S5
              have N6 : Hid (Nd (w5.drewN nq) w.heap.size dn y) := N5
              generalize w5.drewN nq = w6 at *
              clear R5 S5 N5
              obtain ⟨c0, c1, c2⟩ := N6.out
              have c20 := c2 0
              have c21 := c2 1
              have sd : IntKind.i64.wrap ((dn : Int) + 1) = (dn : Int) + 1 := IntWalk.i64_in _ (by omega)
              go_upto_region 7 with (fail)
              clear hq1 hq2
              go_region
              clear c0 c1 c2 c20 c21 sd
              have N7 := Lib.hid (Nd.set1 ((y : Int) / 2 ^ min (by_ dn) 64) (Nd.set0 ((dn : Int) + 1) N6.out))
              have S7 := Lib.hid ((S6.out.set (g := w.heap.size) (j := 0) (u := .int .i64 ((dn : Int) + 1)) NE1.out NE2.out).set (g := w.heap.size) (j := 1) (u := .int .i64 ((y : Int) / 2 ^ min (by_ dn) 64)) NE1.out NE2.out)
              have R7 := Lib.hid ((R6.out.set (Nat.le_refl _) hSz 0 (.int .i64 ((dn : Int) + 1))).set (Nat.le_refl _) hSz 1 (.int .i64 ((y : Int) / 2 ^ min (by_ dn) 64)))
              replace N7 : Hid (Nd ((w6.setCell ⟨w.heap.size, 0, none⟩ (.int .i64 ((dn : Int) + 1))).setCell ⟨w.heap.size, 1, none⟩ (.int .i64 ((y : Int) / 2 ^ min (by_ dn) 64))).drew w.heap.size ((dn : Int) + 1) ((y : Int) / 2 ^ min (by_ dn) 64)) := N7
              replace S7 : Hid (SS false e eb kb k2 ((w6.setCell ⟨w.heap.size, 0, none⟩ (.int .i64 ((dn : Int) + 1))).setCell ⟨w.heap.size, 1, none⟩ (.int .i64 ((y : Int) / 2 ^ min (by_ dn) 64))).drew) := S7
              replace R7 : Hid (Rn B kb w ((w6.setCell ⟨w.heap.size, 0, none⟩ (.int .i64 ((dn : Int) + 1))).setCell ⟨w.heap.size, 1, none⟩ (.int .i64 ((y : Int) / 2 ^ min (by_ dn) 64))).drew) := Lib.hid ⟨R7.out.below.drew, R7.out.size, R7.out.block⟩
              generalize ((w6.setCell ⟨w.heap.size, 0, none⟩ (.int .i64 ((dn : Int) + 1))).setCell ⟨w.heap.size, 1, none⟩ (.int .i64 ((y : Int) / 2 ^ min (by_ dn) 64))).drew = w7 at *
              clear R6 S6 N6
              obtain ⟨c0, c1, c2⟩ := N7.out
              have c21 := c2 1
              go_wp2
              clear c0 c1 c2 c21
              have N8 := Nd.set1 (z2 / 2 ^ min (by_ dn) 64) N7.out
              rw [show (dn : Int) + 1 = ((dn + 1 : Nat) : Int) by omega] at N8
              have HE8 : Hid (seek (ex v.f) e (rst false v.n 0 i) k = seek (ex v.f) e (rst false v.n (dn + 1) (z2 / 2 ^ min (by_ dn) 64)) k2) := Lib.hid (by rw [HP1.out]; exact HE2.out)
              have S8 := Lib.hid (S7.out.set (g := w.heap.size) (j := 1) (u := .int .i64 (z2 / 2 ^ min (by_ dn) 64)) NE1.out NE2.out)
              have R8 := Lib.hid (R7.out.set (Nat.le_refl _) hSz 1 (.int .i64 (z2 / 2 ^ min (by_ dn) 64)))
              have hk28 : k2 ≤ k := by omega
              have hd28 : dn + 1 ≤ kl := by omega
              go_roundw
              case rel => exact ⟨dn + 1, z2 / 2 ^ min (by_ dn) 64, k2, hd28, hk28, hqb, HP2, HE8, S8, R8, Lib.hid N8⟩
              case measure => rw [HMC.out, N8.mF, HP1.out]; exact HLEN.out
          · have hd2 : decide (dn < kl) = false := by simpa using hd1
            obtain ⟨c0, c1, c2⟩ := N5.out
            go_upto_region 6 with (fail)
            go_quiet (fail)
            clear c0 c1 c2 hx3
            have R6 := Lib.hid (Rn.dN R5.out nq)
            have S6 : Hid (SS false e eb kb k2 (w5.drewN nq)) := S5
            have N6 : Hid (Nd (w5.drewN nq) w.heap.size dn y) := N5
            generalize w5.drewN nq = w6 at *
            clear R5 S5 N5
            obtain ⟨c0, c1, c2⟩ := N6.out
            have c21 := c2 1
            go_wp2
            clear c0 c1 c2 c21
            have N7 := Nd.set1 z2 N6.out
            go_roundw
            case rel => exact ⟨dn, z2, k2, by omega, by omega, by omega, HAT', HE2, Lib.hid (S6.out.set NE1.out NE2.out), Lib.hid (R6.out.set (Nat.le_refl _) hSz _ _), Lib.hid N7⟩
            case measure => rw [HMC.out, N7.mF]; exact HLEN.out
end Go.Proofs.YtelagemniheeoaaDoor
