/- ParensBack walked. -/
import Derived.Test.YtelagemniheeoaaDoorParensChildren
namespace Go.Proofs.YtelagemniheeoaaDoor
open Go.RowKit BM

theorem sel_in {f : Nat → Bool} {n k : Nat} (h : k < rk f n) : ∃ t : Nat, sel f n k = t ∧ t < n ∧ f t = true ∧ rk f t = k := by
  obtain ⟨h1, h2, h3⟩ := selN_spec h
  refine ⟨selN f k n, ?_, h1, h2, h3⟩
  unfold sel
  rw [if_neg (by omega), Int.toNat_natCast]
theorem sel_out {f : Nat → Bool} {n : Nat} : sel f n (rk f n : Nat) = -1 := by unfold sel; rw [if_pos (by omega)]
set_option maxRecDepth 100000 in
set_option maxHeartbeats 8000000 in
theorem back_walk (a : Option Addr) (cap : Nat) (bits : List (BitVec 64)) (n : Int) (w : World) (hT : Tb w) (hr : RdV w a (wv8 bits)) (h0 : a = none → bits = [] ∧ cap = 0) (hcap : bits.length ≤ cap) (hl : bits.length ≤ 17592186044416) (hn : -9223372036854775808 ≤ n ∧ n ≤ 9223372036854775807) :
    Calls Tryd.prog 6 #[.slice a bits.length cap, .int .i64 n] w (ResB true w) := by
  have HSH := Lib.hid (shown_any w hT)
  have HNW := Lib.hid (fun W (hb : Below w.heap.size w W) => New_any a cap bits n W (hr.below hb) h0 hcap hl hn)
  have HGR := Lib.hid (fun W => great_any a bits.length cap W)
  have HT := Lib.hid hT
  by_cases hg : 12 < bits.length
  · have hgb : greatB bits.length = true := by unfold greatB; simpa using hg
    rw [hgb] at HGR
    clear hr h0 hcap hl hn hT hgb hg HNW
    go_enter Tryd.func6, Tryd.ntmps6
    go_wp2_with fail
    refine HSH.out.mono ?_
    rintro r w1 ⟨rfl, hb1⟩
    go_wp2_with fail
    refine (HGR.out w1).mono ?_
    rintro r w2 ⟨rfl, rfl⟩
    go_wp2
    go_ret
    exact ⟨rfl, hb1⟩
  · have hgb : greatB bits.length = false := by unfold greatB; simpa using hg
    have hsm := newN_small hg n
    rw [hgb] at HGR
    clear hr h0 hcap hl hn hT hgb hg
    go_enter Tryd.func6, Tryd.ntmps6
    go_wp2_with fail
    refine HSH.out.mono ?_
    rintro r w1 ⟨rfl, hb1⟩
    go_wp2_with fail
    refine (HGR.out w1).mono ?_
    rintro r w2 ⟨rfl, rfl⟩
    go_wp2_with fail
    refine (HNW.out w1 hb1).mono ?_
    rintro r w2 ⟨vb, v, rfl, hV, hvn, -, -, hb2, -⟩
    have B2 := Lib.hid (hb1.trans (hb2.mono hb1.size))
    have HV := Lib.hid (fun W (hb : Below w2.heap.size w2 W) => (⟨hV.1.below hb, hV.2⟩ : VX0 W vb v))
    have hvs : v.n ≤ 768 := by rw [hvn]; exact hsm
    have HLn := Lib.hid (fun W hb => Len_any _ v.n W (HV.out W hb).1.len)
    have HCl := Lib.hid (fun j (hj : -9223372036854775808 ≤ j ∧ j ≤ 9223372036854775807) W hb => Close_any vb v j W (HV.out W hb) hj)
    have HOp := Lib.hid (fun j (hj : -9223372036854775808 ≤ j ∧ j ≤ 9223372036854775807) W hb => Open_any vb v j W (HV.out W hb) hj)
    have HOs := Lib.hid (fun j W hb => Opens_any vb v j W (HV.out W hb).1 (HV.out W hb).2.1.1)
    have HRk := Lib.hid (fun j W hb => Rank_any vb v j W (HV.out W hb).1 (HV.out W hb).2.1.1)
    have HEx := Lib.hid (fun j W hb => Excess_any vb v j W (HV.out W hb).1 (HV.out W hb).2.1.1)
    have HSe := Lib.hid (fun j W (hb : Below w2.heap.size w2 W) => Select_any vb v j W (HT.out.below (B2.out.trans (hb.mono B2.out.size))) (HV.out W hb))
    clear hV hvn hsm hb1 hb2 HSH HNW HGR HV HT
    generalize v.f = f at *
    generalize v.n = vn at *
    have hrb := rk_le f vn
    have HRn := Lib.hid (by have h := HRk.out (vn : Int); rw [clp_nat'] at h; exact h)
    obtain ⟨ones, hones⟩ : ∃ o, rk f vn = o := ⟨_, rfl⟩
    have HON := Lib.hid hones
    rw [hones] at HRn hrb
    clear hones
    have b0 := Below.refl w2.heap.size w2
    go_wp2_with fail
    refine (HLn.out w2 b0).mono ?_
    rintro r w3 ⟨rfl, rfl⟩
    go_wp2_with fail
    refine (HRn.out w2 b0).mono ?_
    rintro r w3 ⟨rfl, m3, rfl⟩
    have B3 := Lib.hid (bdN b0 m3)
    clear b0
    go_wp2_with fail
    generalize w2.drewN m3 = w3 at *
    go_loopw [8, 9, 10] (fun s8 _ _ wr => ∃ k : Nat, s8 = .int .i64 k ∧ k ≤ ones ∧ Hid (Below w2.heap.size w2 wr)) (fun s8 _ _ _ => ones - (intOf s8).toNat)
    case atStart => exact ⟨0, rfl, by omega, B3⟩
    case round =>
      obtain ⟨k, rfl, hk, BR⟩ := hrel
      by_cases hlt : k < ones
      · obtain ⟨t, h1, h2, h3, h4⟩ := sel_in (f := f) (n := vn) (k := k) (by rw [HON.out]; exact hlt)
        have HX1 := Lib.hid (HSe.out (k : Int) wr BR.out)
        rw [h1] at HX1
        have hot : opn f vn t = true := by unfold opn hasB; simp [h3]; omega
        have HX2 := Lib.hid (fun W hb => HOs.out (t : Int) W hb)
        rw [hot] at HX2
        have HX3 := Lib.hid (fun W hb => HRk.out (t : Int) W hb)
        rw [clp_nat (by omega), h4] at HX3
        have HX4 := Lib.hid (fun W hb => HCl.out (t : Int) (by omega) W hb)
        rcases cls_spec h2 h3 with ⟨hc, -⟩ | ⟨c, hc, hC⟩
        · rw [hc] at HX4
          clear h1 h3 h4 hot hc
          go_wp2_with fail
          refine HX1.out.mono ?_
          rintro r w4 ⟨rfl, hb4⟩
          have b4 := BR.out.trans (hb4.mono BR.out.size)
          clear hb4
          go_wp2_with fail
          refine (HX2.out w4 b4).mono ?_
          rintro r w5 ⟨rfl, rfl⟩
          go_wp2_with fail
          refine (HX3.out w4 b4).mono ?_
          rintro r w5 ⟨rfl, m5, rfl⟩
          have b5 := bdN b4 m5
          generalize w4.drewN m5 = w5 at *
          clear b4
          go_wp2_with fail
          refine (HX4.out w5 b5).mono ?_
          rintro r w6 ⟨rfl, hb6⟩
          have b6 := b5.trans (hb6.mono b5.size)
          clear b5 hb6
          go_wp2
          go_roundw
          case rel => exact ⟨k + 1, by go_num, by omega, Lib.hid b6⟩
          case measure => simp [intOf]; omega
        · have hcn := hC.ltn
          have htc := hC.lt
          have hodd := hC.odd
          have hoc : opn f vn c = false := by unfold opn; rw [Int.toNat_natCast, hC.off, Bool.and_false]
          have HX5 := Lib.hid (fun W hb => HOs.out (c : Int) W hb)
          rw [hoc] at HX5
          have HX6 := Lib.hid (fun W hb => HOp.out (c : Int) (by omega) W hb)
          rw [hC.open_] at HX6
          have HX7 := Lib.hid (fun W hb => HEx.out ((c : Int) + 1) W hb)
          rw [show clp vn ((c : Int) + 1) = c + 1 by unfold clp; omega, hC.eq] at HX7
          have HX8 := Lib.hid (fun W hb => HEx.out (t : Int) W hb)
          rw [clp_nat (by omega)] at HX8
          rw [hc] at HX4
          generalize ex f t = e at *
          have hmod : IntKind.i64.wrap (((c : Int) - t).tmod 2) = 1 := by rw [show ((c : Int) - t).tmod 2 = 1 by rw [show (c : Int) - t = ((c - t : Nat) : Int) by omega]; have := Int.ofNat_tmod (c - t) 2; rw [hodd] at this; exact this.symm]; rfl
          have hmod2 : ((c : Int) - t).tmod 2 = 1 := by rw [show (c : Int) - t = ((c - t : Nat) : Int) by omega]; have := Int.ofNat_tmod (c - t) 2; rw [hodd] at this; exact this.symm
          have hmod3 : ((c : Int) - t) % 2 = 1 := by omega
          clear h1 h3 h4 hot hc hC hoc
          go_wp2_with fail
          refine HX1.out.mono ?_
          rintro r w4 ⟨rfl, hb4⟩
          have b4 := BR.out.trans (hb4.mono BR.out.size)
          clear hb4
          go_wp2_with fail
          refine (HX2.out w4 b4).mono ?_
          rintro r w5 ⟨rfl, rfl⟩
          go_wp2_with fail
          refine (HX3.out w4 b4).mono ?_
          rintro r w5 ⟨rfl, m5, rfl⟩
          have b5 := bdN b4 m5
          generalize w4.drewN m5 = w5 at *
          clear b4
          go_wp2_with fail
          refine (HX4.out w5 b5).mono ?_
          rintro r w6 ⟨rfl, hb6⟩
          have b6 := b5.trans (hb6.mono b5.size)
          clear b5 hb6
          go_wp2_with fail
          refine (HX5.out w6 b6).mono ?_
          rintro r w7 ⟨rfl, rfl⟩
          go_wp2_with fail
          refine (HX6.out w6 b6).mono ?_
          rintro r w7 ⟨rfl, hb7⟩
          have b7 := b6.trans (hb7.mono b6.size)
          clear b6 hb7
          go_wp2_with fail
          refine (HX7.out w7 b7).mono ?_
          rintro r w8 ⟨rfl, m8, rfl⟩
          have b8 := bdN b7 m8
          generalize w7.drewN m8 = w8 at *
          clear b7
          go_wp2_with fail
          refine (HX8.out w8 b8).mono ?_
          rintro r w9 ⟨rfl, m9, rfl⟩
          have b9 := bdN b8 m9
          generalize w8.drewN m9 = w9 at *
          clear b8
          go_wp2
          go_roundw
          case rel => exact ⟨k + 1, by go_num, by omega, Lib.hid b9⟩
          case measure => simp [intOf]; omega
      · obtain rfl : k = ones := by omega
        have HX1 := Lib.hid (HSe.out (k : Int) wr BR.out)
        rw [← HON.out, sel_out, HON.out] at HX1
        have hex : ex f vn = 2 * (k : Int) - vn := by unfold ex; rw [HON.out]
        have HX2 := Lib.hid (fun W hb => HEx.out (vn : Int) W hb)
        rw [clp_nat', hex] at HX2
        clear hex
        go_wp2_with fail
        refine HX1.out.mono ?_
        rintro r w4 ⟨rfl, hb4⟩
        have b4 := BR.out.trans (hb4.mono BR.out.size)
        clear hb4
        go_wp2_with fail
        refine (HLn.out w4 b4).mono ?_
        rintro r w5 ⟨rfl, rfl⟩
        go_wp2_with fail
        refine (HX2.out w4 b4).mono ?_
        rintro r w5 ⟨rfl, m5, rfl⟩
        have b5 := bdN b4 m5
        generalize w4.drewN m5 = w5 at *
        clear b4
        go_wp2_with fail
        refine (HLn.out w5 b5).mono ?_
        rintro r w6 ⟨rfl, rfl⟩
        go_wp2
        go_ret
        exact ⟨rfl, B2.out.trans (b5.mono B2.out.size)⟩
end Go.Proofs.YtelagemniheeoaaDoor
