/- parens: within walked (made by genparw.py). -/
import Derived.Test.YtelagemniheeoaaDoorParF
namespace Go.Proofs.YtelagemniheeoaaDoor
open Go.RowKit BM

set_option maxRecDepth 100000 in
set_option maxHeartbeats 4000000 in
theorem withinW1_any (b : Nat) (v : VD) (d i : Nat) (e : Int) (eb kb k : Nat) (w0 w : World) (hV : VX0 w0 b v) (hb0 : Below w0.heap.size w0 w) (hB : w0.heap.size ≤ kb) (hkw : kb < w.heap.size) (hd : d < v.lv.length) (hS : SS false e eb kb k w) (hk : k ≤ 9223372036854775807)
    (hh : hit (ex v.f) e k (blk true v.n (d + 1) i)) (hf : true = false → (i + 1) * 2 ^ sh (d + 1) ≤ v.n + 1) (hi : lo (d + 1) i ≤ v.n) :
    Calls Tryd.prog 53 #[.pointer (some ⟨b, 0, none⟩), .agg #[.int .i64 (d + 1 : Nat), .int .i64 i], .int .i64 1, .func (.func 49) #[] #[.pointer (some ⟨eb, 0, none⟩)]] w (ResW v false true d i e eb kb k w0.heap.size w) := by
  obtain ⟨hX, hok, h100⟩ := hV
  have hn := hok.1.2.1
  have HL := Lib.hid (fun (y : Nat) (W : World) (hb : Below w0.heap.size w0 W) (hy : lo d y ≤ v.n) => least_any b v d y W (hX.below hb) hok (by omega) h100 (by have := lo_cn.1 hy; exact this))
  have HA := Lib.hid (fun (y : Nat) (hy : lo d y ≤ v.n) => lst_agg hok (d := d) (i := y) (by omega) (by have := lo_cn.1 hy; exact this))
  have HS := Lib.hid (fun (k : Nat) (l : Int) (m : Nat) (W : World) (hS : SS false e eb kb k W) (hm : 1 ≤ m) (hk : k ≤ 9223372036854775807) (hm2 : m ≤ 9223372036854775807) => (less_any e eb kb k l m W hS hm))
  have HSH := Lib.hid (fun W => shift_any d W)
  have hby : (if d = 0 then (6 : Int) else 3) = (by_ d : Nat) := by unfold by_; split <;> rfl
  have hby2 : by_ d ≤ 6 := by unfold by_; split <;> omega
  have hpw : (2 ^ by_ d : Nat) = 64 ∨ (2 ^ by_ d : Nat) = 8 := by_two d
  have hchild : i * 2 ^ by_ d ≤ v.n := by
    have h1 : lo d (i * 2 ^ by_ d) ≤ v.n := by rw [lo_up]; exact hi
    exact Nat.le_trans (Nat.le_mul_of_pos_right _ (sh_pos d)) h1
  rw [hby] at HSH
  have HB0 := Lib.hid hb0; have HSS := Lib.hid hS
  have hSz : w0.heap.size ≤ w.heap.size := hb0.size
  have HW0 := Lib.hid (Win.start_up hh)
  have HE0 : Hid (seek (ex v.f) e (blk true v.n (d + 1) i) k = seek (ex v.f) e (rin true v.n d i (i * 2 ^ by_ d)) k) := Lib.hid (by rw [rin_start_up])
  clear hX hS hh hf hb0 hby hok
  obtain ⟨B, hBe⟩ : ∃ B, w0.heap.size = B := ⟨_, rfl⟩
  rw [hBe] at HL HB0 hB hSz ⊢
  have HBE := Lib.hid hBe
  clear hBe
  have e1 : (((2 ^ by_ d : Nat) : Int)) = (2 : Int) ^ by_ d := by rw [Int.natCast_pow]; rfl
  have s2 : IntKind.i64.wrap ((i : Int) * (2 : Int) ^ by_ d) = ((i * 2 ^ by_ d : Nat) : Int) := by rw [← e1, ← Int.natCast_mul]; exact IntWalk.i64_in _ (by omega)
  have s3 : IntKind.i64.wrap ((2 : Int) ^ by_ d) = ((2 ^ by_ d : Nat) : Int) := by rw [← e1]; exact IntWalk.i64_in _ (by omega)
  have S2 := Lib.hid s2
  have S3 := Lib.hid s3
  clear e1 s2 s3
  rw [Int.natCast_add, show ((1 : Nat) : Int) = 1 from rfl]
  have hsub : IntKind.i64.wrap ((d : Int) + 1 - 1) = d := by rw [Int.add_sub_cancel]; exact IntWalk.i64_in _ (by omega)
  go_enter Tryd.func53, Tryd.ntmps53
  go_wp2_with fail
  refine (HSH.out _).mono ?_
  rintro r w2 ⟨rfl, rfl⟩
  go_wp2_with fail
  have hw64 : wrap64 ((i : Int) * (2 : Int) ^ by_ d) = ((i * 2 ^ by_ d : Nat) : Int) := by rw [← IntWalk.i64_left]; exact S2.out
  rw [hw64]
  clear hw64 S2
  obtain ⟨y0, hy0⟩ : ∃ y0, i * 2 ^ by_ d = y0 := ⟨_, rfl⟩
  rw [hy0] at hchild HW0 HE0 ⊢
  clear hy0
  obtain ⟨N2, N1, b1⟩ := three_new w ((d : Int) + 1) i d y0 61
  generalize ((w.alloc (.cells #[.int .i64 ((d : Int) + 1), .int .i64 i] 61)).alloc (.cells #[.int .i64 0, .int .i64 0] 61)).alloc (.cells #[.int .i64 d, .int .i64 y0] 61) = w1 at *
  have R1 := Lib.hid (Rn.of (kb := kb) b1 hSz)
  have S1 := Lib.hid (HSS.out.below b1)
  have H2 := Lib.hid N2; have H1 := Lib.hid N1
  have hEB := HSS.out.ltE
  have NE1 := Lib.hid (two_ne hEB (Nat.le_succ w.heap.size))
  have NE2 := Lib.hid (two_ne hkw (Nat.le_succ w.heap.size))
  have NE4 := Lib.hid (two_ne hEB (Nat.le_succ_of_le (Nat.le_succ w.heap.size)))
  have NE3 := Lib.hid (two_ne hkw (Nat.le_succ_of_le (Nat.le_succ w.heap.size)))
  clear N1 N2 b1 HSS hsub hi hEB
  go_loopw [39] (fun s9 wr => ∃ y k' : Nat, k' ≤ k ∧ Hid (Win (ex v.f) e true v.n d i y k') ∧ Hid (seek (ex v.f) e (blk true v.n (d + 1) i) k = seek (ex v.f) e (rin true v.n d i y) k') ∧ Hid (SS false e eb kb k' wr) ∧ Hid (Rn B kb w wr) ∧ Hid (Nd wr (w.heap.size + 1 + 1) d y) ∧ Hid (Nd wr (w.heap.size + 1) 0 0)) (fun _ wr => (i + 1) * 2 ^ by_ d - cellN wr ⟨w.heap.size + 1 + 1, 1, none⟩)
  case atStart => exact ⟨y0, k, Nat.le_refl _, HW0, HE0, S1, R1, H2, H1⟩
  case round =>
    obtain ⟨y, k', hk', HW, HE, SR, RR, N2, N1⟩ := hrel
    obtain ⟨hly, hst, hgo⟩ := HW.out.step (l := (lst v d y).1) (m := (lst v d y).2) (HA.out y)
    have hbd := agg_bd (HA.out y hly)
    have hBR := RR.out.below
    have HLy := Lib.hid (HL.out y wr (HB0.out.trans hBR) hly)
    have HSTOP := Lib.hid hst; have HGO := Lib.hid hgo; have HLY := Lib.hid hly
    obtain ⟨l, hl⟩ : ∃ l, (lst v d y).1 = l := ⟨_, rfl⟩
    obtain ⟨m, hm⟩ : ∃ m, (lst v d y).2 = m := ⟨_, rfl⟩
    rw [hl, hm] at HLy hbd HSTOP HGO
    clear hl hm hst hgo hly hBR
    have hm1 : 1 ≤ m := hbd.2.2.1
    have hm2 : m ≤ 9223372036854775807 := by omega
    have HMC := Lib.hid N2.out.at_
    obtain ⟨c0, c1, c2⟩ := N2.out
    go_wp2_with fail
    clear c0 c1 c2
    refine HLy.out.mono ?_
    rintro r w3 ⟨rfl, hb3⟩
    have hz3 := RR.out.size
    have R3 := Lib.hid (RR.out.trans (Rn.of (kb := kb) hb3 (Nat.le_trans hSz hz3)))
    have S3' := Lib.hid (SR.out.below hb3)
    have M2 := Lib.hid (N2.out.below hb3)
    have M1 := Lib.hid (N1.out.below hb3)
    clear hb3 RR SR N2 N1 HLy hz3
    go_wp2_with fail
    refine (HS.out k' l m _ S3'.out hm1 (by omega) hm2).mono ?_
    rintro r w4 ⟨rfl, hss, hkp⟩
    have hz4 := R3.out.size
    have R4 := Lib.hid (R3.out.trans (Rn.kp hkp (Nat.le_trans hSz hz4) hB))
    have P2 := Lib.hid (M2.out.kp hkp (by omega))
    have P1 := Lib.hid (M1.out.kp hkp (by omega))
    clear hkp R3 S3' M2 M1 hz4
    rcases Bool.eq_false_or_eq_true (stop e k' l m) with hs | hs
    · have hq := HSTOP.out hs
      have HQ1 := Lib.hid hq.1; have HQ2 := Lib.hid hq.2
      rw [hs, if_pos rfl] at hss
      rw [hs]
      have S4 := Lib.hid hss
      clear hs hss hq HSTOP HGO
      obtain ⟨c0, c1, c2⟩ := P2.out
      obtain ⟨d0, d1, d2⟩ := P1.out
      have d20 := d2 0
      have d21 := d2 1
      go_wp2
      clear c0 c1 c2 d0 d1 d2 d20 d21
      have F1 := Nd.set1 (y : Int) (Nd.set0 (d : Int) P1.out)
      have f0 := F1.1
      have f1 := F1.2.1
      refine bodyPost_ret (v := .agg #[.int .i64 d, .int .i64 y]) (by simp [results, Tryd.results53, go_sem, f0, f1]) rfl ?_
      exact ⟨y, k', rfl, HLY.out, HE.out.trans HQ1.out, HQ2.out, fun hu => win_full HW.out hu, (S4.out.set NE1.out NE2.out).set NE1.out NE2.out, hk', (R4.out.set (Nat.le_succ _) hSz _ _).set (Nat.le_succ _) hSz _ _⟩
    · obtain ⟨y', hy', hE', hW'⟩ := HGO.out hs
      rw [hs, if_neg (by simp)] at hss
      rw [hs]
      have S4 := Lib.hid hss
      have HE2 : Hid (seek (ex v.f) e (blk true v.n (d + 1) i) k = seek (ex v.f) e (rin true v.n d i y') (nxt e k' l m)) := Lib.hid (HE.out.trans hE')
      have hnl := nxt_le e k' l m
      have HW2 := Lib.hid hW'
      simp only [if_true] at hy'
      have hlw := hW'.low
      have hhg := hW'.high
      clear hs hss hW' hE' HSTOP HGO
      generalize nxt e k' l m = k2 at *
      have hyn : y ≤ v.n := Nat.le_trans (Nat.le_mul_of_pos_right _ (sh_pos d)) HLY.out
      obtain ⟨c0, c1, c2⟩ := P2.out
      have c21 := c2 1
      go_wp2
      clear c0 c1 c2 c21
      go_roundw
      case rel =>
        refine ⟨y', k2, by omega, HW2, HE2, Lib.hid (S4.out.set NE4.out NE3.out), Lib.hid (R4.out.set (by omega) hSz _ _), Lib.hid ?_, Lib.hid (Nd.other P1.out (by omega))⟩
        rw [hy']
        exact Nd.set1 _ P2.out
      case measure =>
        have h5 := (Nd.set1 (y' : Int) P2.out).at_
        rw [hy'] at h5
        rw [HMC.out, h5]
        omega
end Go.Proofs.YtelagemniheeoaaDoor
