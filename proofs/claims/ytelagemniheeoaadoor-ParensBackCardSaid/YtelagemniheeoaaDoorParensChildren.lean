/- ParensChildren walked. -/
import Derived.Test.YtelagemniheeoaaDoorParU
import Derived.Test.YtelagemniheeoaaDoorParX
namespace Go.Proofs.YtelagemniheeoaaDoor
open Go.RowKit BM

/-- what a law08 statement does ahead of its own words -/
def VW (bits : List (BitVec 64)) (n : Int) (w2 : World) (vb : Nat) (v : VD) : Prop := VX0 w2 vb v ∧ v.n = newN bits.length n ∧ (∀ i, i < v.n → v.f i = BM.wb bits i)
theorem newN_small {l : Nat} (h : ¬ 12 < l) (n : Int) : newN l n ≤ 768 := by unfold newN; omega
set_option maxRecDepth 100000 in
set_option maxHeartbeats 8000000 in
theorem children_walk (a : Option Addr) (cap : Nat) (bits : List (BitVec 64)) (n i : Int) (w : World) (hT : Tb w) (hr : RdV w a (wv8 bits)) (h0 : a = none → bits = [] ∧ cap = 0) (hcap : bits.length ≤ cap) (hl : bits.length ≤ 17592186044416) (hn : -9223372036854775808 ≤ n ∧ n ≤ 9223372036854775807) (hi : -9223372036854775808 ≤ i ∧ i ≤ 9223372036854775807) :
    Calls Tryd.prog 7 #[.slice a bits.length cap, .int .i64 n, .int .i64 i] w (ResB true w) := by
  have HSH := Lib.hid (shown_any w hT)
  have HNW := Lib.hid (fun W (hb : Below w.heap.size w W) => New_any a cap bits n W (hr.below hb) h0 hcap hl hn)
  have HGR := Lib.hid (fun W => great_any a bits.length cap W)
  by_cases hg : 12 < bits.length
  · have hgb : greatB bits.length = true := by unfold greatB; simpa using hg
    rw [hgb] at HGR
    clear hr h0 hcap hl hn hT hgb hg HNW
    go_enter Tryd.func7, Tryd.ntmps7
    go_wp2_with fail
    refine HSH.out.mono ?_
    rintro r w1 ⟨rfl, hb1⟩
    go_wp2_with fail
    refine (HGR.out w1).mono ?_
    rintro r w2 ⟨rfl, rfl⟩
    go_wp2
    go_ret
    exact ⟨rfl, hb1⟩
  · have hgb : greatB bits.length = false := by unfold greatB; simpa using hg
    have hsm := newN_small hg n
    rw [hgb] at HGR
    clear hr h0 hcap hl hn hT hgb hg
    go_enter Tryd.func7, Tryd.ntmps7
    go_wp2_with fail
    refine HSH.out.mono ?_
    rintro r w1 ⟨rfl, hb1⟩
    go_wp2_with fail
    refine (HGR.out w1).mono ?_
    rintro r w2 ⟨rfl, rfl⟩
    go_wp2_with fail
    refine (HNW.out w1 hb1).mono ?_
    rintro r w2 ⟨vb, v, rfl, hV, hvn, -, -, hb2, -⟩
    have B2 := Lib.hid (hb1.trans (hb2.mono hb1.size))
    have HV := Lib.hid (fun W (hb : Below w2.heap.size w2 W) => (⟨hV.1.below hb, hV.2⟩ : VX0 W vb v))
    have hvs : v.n ≤ 768 := by rw [hvn]; exact hsm
    have HLn := Lib.hid (fun W hb => Len_any _ v.n W (HV.out W hb).1.len)
    have HCl := Lib.hid (fun j (hj : -9223372036854775808 ≤ j ∧ j ≤ 9223372036854775807) W hb => Close_any vb v j W (HV.out W hb) hj)
    have HCh := Lib.hid (fun j k (hj : -9223372036854775808 ≤ j ∧ j ≤ 9223372036854775807) (hk : -9223372036854775808 ≤ k ∧ k ≤ 9223372036854775807) W hb => Child_any vb v j k W (HV.out W hb) hj hk)
    have HEn := Lib.hid (fun j (hj : -9223372036854775808 ≤ j ∧ j ≤ 9223372036854775807) W hb => Enclose_any vb v j W (HV.out W hb) hj)
    have HSi := Lib.hid (fun j (hj : -9223372036854775808 ≤ j ∧ j ≤ 9223372036854775807) W hb => Size_any vb v j W (HV.out W hb) hj)
    clear hV hvn hsm hb1 hb2 HSH HNW HGR HV
    generalize v.f = f at *
    generalize v.n = vn at *
    have b0 := Below.refl w2.heap.size w2
    go_wp2_with fail
    refine (HCl.out i hi w2 b0).mono ?_
    rintro r w3 ⟨rfl, hb3⟩
    clear b0
    by_cases hc : cls f vn i < 0
    · have hch : chl f vn i 0 = -1 := by unfold chl; rw [if_pos (Or.inl hc)]
      have hsz : siz f vn i = 0 := by unfold siz; rw [if_pos hc]
      have H1 := Lib.hid (HCh.out i 0 hi (by omega) w3 hb3)
      have H2 := Lib.hid (fun W hb => HSi.out i hi W hb)
      rw [hch] at H1
      rw [hsz] at H2
      generalize cls f vn i = c at *
      clear hch hsz
      go_wp2_with fail
      refine H1.out.mono ?_
      rintro r w4 ⟨rfl, hb4⟩
      have b4 := hb3.trans (hb4.mono hb3.size)
      clear hb3 hb4
      go_wp2_with fail
      refine (H2.out w4 b4).mono ?_
      rintro r w5 ⟨rfl, hb5⟩
      have b5 := b4.trans (hb5.mono b4.size)
      clear b4 hb5
      go_wp2
      go_ret
      exact ⟨rfl, B2.out.trans (b5.mono B2.out.size)⟩
    · obtain ⟨q, c, rfl, hcc, hCl⟩ := cls_nat (Int.not_lt.1 hc)
      have hcn := hCl.ltn
      have hqc := hCl.lt
      have HC := Lib.hid hCl
      rw [hcc]
      have K0 : Hid (Kid f q c 0 (q + 1)) := Lib.hid (Kid.start hCl)
      have B3 := Lib.hid hb3
      clear hc hcc hCl hb3 hi
      go_wp2_with fail
      go_loopw [10, 11, 12, 13] (fun s10 s11 s12 _ wr => ∃ k t z : Nat, s12 = .int .i64 k ∧ s10 = .int .i64 t ∧ s11 = .int .i64 z ∧ q + 1 + 2 * k ≤ t ∧ t ≤ c ∧ 2 * z = t - q + 1 ∧ q + 1 ≤ t ∧ Hid (Kid f q c k t) ∧ Hid (Below w2.heap.size w2 wr)) (fun _ _ s12 _ _ => c - (intOf s12).toNat)
      case atStart => exact ⟨0, q + 1, 1, rfl, by go_num, rfl, by omega, by omega, by omega, by omega, K0, B3⟩
      case round =>
        obtain ⟨k, t, z, rfl, rfl, rfl, h1, h2, h3, h4, HK, BR⟩ := hrel
        have hkb : (k : Int) < vn := by omega
        have hch := HK.out.chl HC.out
        have HX1 := Lib.hid (HLn.out wr BR.out)
        have HX2 := Lib.hid (HCh.out q k (by omega) (by omega) wr BR.out)
        rw [hch] at HX2
        by_cases he : t = c
        · rw [if_pos he] at HX2
          subst he
          have hsz := siz_is HC.out
          have HSS : Hid (siz f vn q = (z : Int)) := Lib.hid (by rw [hsz]; omega)
          have HX3 := Lib.hid (fun W hb => HSi.out (q : Int) (by omega) W hb)
          rw [HSS.out] at HX3
          clear hch hsz
          go_wp2_with fail
          refine HX1.out.mono ?_
          rintro r w4 ⟨rfl, rfl⟩
          go_wp2_with fail
          refine HX2.out.mono ?_
          rintro r w4 ⟨rfl, hb4⟩
          have b4 := BR.out.trans (hb4.mono BR.out.size)
          clear hb4
          go_wp2_with fail
          refine (HX3.out w4 b4).mono ?_
          rintro r w5 ⟨rfl, hb5⟩
          have b5 := b4.trans (hb5.mono b4.size)
          clear b4 hb5
          go_wp2
          go_ret
          exact ⟨rfl, B2.out.trans (b5.mono B2.out.size)⟩
        · rw [if_neg he] at HX2
          obtain ⟨p, hp, hpc, hen, hk2⟩ := HK.out.step HC.out (by omega)
          have hpt := hp.lt
          have hodd := hp.odd
          have HK2 := Lib.hid hk2
          have HX3 := Lib.hid (fun W hb => HEn.out (t : Int) (by omega) W hb)
          have HX4 := Lib.hid (fun W hb => HCl.out (t : Int) (by omega) W hb)
          have HX5 := Lib.hid (fun W hb => HSi.out (t : Int) (by omega) W hb)
          rw [hen] at HX3
          rw [hp.is] at HX4
          obtain ⟨y, hy⟩ : ∃ y : Nat, siz f vn t = y := ⟨(p - t + 1) / 2, by rw [siz_is hp]; omega⟩
          have hyv : (p : Int) - t + 1 = 2 * y := by have := siz_is hp; omega
          rw [hy] at HX5
          clear hch he hp hen hk2 hy
          go_wp2_with fail
          refine HX1.out.mono ?_
          rintro r w4 ⟨rfl, rfl⟩
          go_wp2_with fail
          refine HX2.out.mono ?_
          rintro r w4 ⟨rfl, hb4⟩
          have b4 := BR.out.trans (hb4.mono BR.out.size)
          clear hb4
          go_wp2_with fail
          refine (HX3.out w4 b4).mono ?_
          rintro r w5 ⟨rfl, hb5⟩
          have b5 := b4.trans (hb5.mono b4.size)
          clear b4 hb5
          go_wp2_with fail
          refine (HX4.out w5 b5).mono ?_
          rintro r w6 ⟨rfl, hb6⟩
          have b6 := b5.trans (hb6.mono b5.size)
          clear b5 hb6
          go_wp2_with fail
          refine (HX4.out w6 b6).mono ?_
          rintro r w7 ⟨rfl, hb7⟩
          have b7 := b6.trans (hb7.mono b6.size)
          clear b6 hb7
          go_wp2_with fail
          refine (HX5.out w7 b7).mono ?_
          rintro r w8 ⟨rfl, hb8⟩
          have b8 := b7.trans (hb8.mono b7.size)
          clear b7 hb8
          go_wp2_with fail
          refine (HX4.out w8 b8).mono ?_
          rintro r w9 ⟨rfl, hb9⟩
          have b9 := b8.trans (hb9.mono b8.size)
          clear b8 hb9
          go_wp2
          go_roundw
          case rel => exact ⟨k + 1, p + 1, z + y, by go_num, by go_num, by go_num, by omega, by omega, by omega, by omega, HK2, Lib.hid b9⟩
          case measure => simp [intOf]; omega
end Go.Proofs.YtelagemniheeoaaDoor
