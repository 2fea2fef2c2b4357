/- ParensWithin walked. -/
import Derived.Test.YtelagemniheeoaaDoorParU
import Derived.Test.YtelagemniheeoaaDoorParZd
namespace Go.Proofs.YtelagemniheeoaaDoor
open Go.RowKit BM

theorem newN_smallW {l : Nat} (h : ¬ 12 < l) (n : Int) : newN l n ≤ 768 := by unfold newN; omega
set_option maxRecDepth 100000 in
set_option maxHeartbeats 8000000 in
theorem within_walk (a : Option Addr) (cap : Nat) (bits : List (BitVec 64)) (n i k : Int) (w : World) (hT : Tb w) (hr : RdV w a (wv8 bits)) (h0 : a = none → bits = [] ∧ cap = 0) (hcap : bits.length ≤ cap) (hl : bits.length ≤ 17592186044416) (hn : -9223372036854775808 ≤ n ∧ n ≤ 9223372036854775807) (hi : -9223372036854775808 ≤ i ∧ i ≤ 9223372036854775807) (hk : -9223372036854775808 ≤ k ∧ k ≤ 9223372036854775807) :
    Calls Tryd.prog 5 #[.slice a bits.length cap, .int .i64 n, .int .i64 i, .int .i64 k] w (ResB true w) := by
  have HSH := Lib.hid (shown_any w hT)
  have HNW := Lib.hid (fun W (hb : Below w.heap.size w W) => New_any a cap bits n W (hr.below hb) h0 hcap hl hn)
  have HGR := Lib.hid (fun W => great_any a bits.length cap W)
  by_cases hg : 12 < bits.length
  · have hgb : greatB bits.length = true := by unfold greatB; simpa using hg
    rw [hgb] at HGR
    clear hr h0 hcap hl hn hT hgb hg HNW
    go_enter Tryd.func5, Tryd.ntmps5
    go_wp2_with fail
    refine HSH.out.mono ?_
    rintro r w1 ⟨rfl, hb1⟩
    go_wp2_with fail
    refine (HGR.out w1).mono ?_
    rintro r w2 ⟨rfl, rfl⟩
    go_wp2
    go_ret
    exact ⟨rfl, hb1⟩
  · have hgb : greatB bits.length = false := by unfold greatB; simpa using hg
    have hsm := newN_smallW hg n
    have HMK := Lib.hid (fun W (hb : Below w.heap.size w W) => Make_any a cap bits n W (hr.below hb) (by omega) hn)
    rw [hgb] at HGR
    clear hr h0 hcap hl hn hT hgb hg
    go_enter Tryd.func5, Tryd.ntmps5
    go_wp2_with fail
    refine HSH.out.mono ?_
    rintro r w1 ⟨rfl, hb1⟩
    go_wp2_with fail
    refine (HGR.out w1).mono ?_
    rintro r w2 ⟨rfl, rfl⟩
    go_wp2_with fail
    refine (HNW.out w1 hb1).mono ?_
    rintro r w2 ⟨vb, v, rfl, hV, hvn, hvf, -, hb2, -⟩
    have B2 := Lib.hid (hb1.trans (hb2.mono hb1.size))
    have HV := Lib.hid (fun W (hb : Below w2.heap.size w2 W) => (⟨hV.1.below hb, hV.2⟩ : VX0 W vb v))
    have hvs : v.n ≤ 768 := by rw [hvn]; exact hsm
    have HAG : Hid (Agr v.f (BM.wb bits) v.n) := Lib.hid hvf
    have hmk := HMK.out w2 B2.out
    rw [← hvn] at hmk
    have HMK2 := Lib.hid hmk
    clear hmk hV hvn hvf hsm hb1 hb2 HSH HNW HGR HMK
    go_wp2_with fail
    refine HMK2.out.mono ?_
    rintro r w3 ⟨ra, rc, rfl, hrf, hb3⟩
    have HRF := Lib.hid (fun W (hb : Below w3.heap.size w3 W) => hrf.below hb)
    have B3 := Lib.hid (B2.out.trans (hb3.mono B2.out.size))
    have HV3 := Lib.hid (fun W (hb : Below w3.heap.size w3 W) => HV.out W (hb3.trans (hb.mono hb3.size)))
    have HC1 := Lib.hid (fun W hb => by have h := Enclose_any vb v i W (HV3.out W hb) hi; rw [HAG.out.enc] at h; exact h)
    have HC2 := Lib.hid (fun W hb => REnclose_any ra rc (BM.wb bits) v.n i W (HRF.out W hb) hvs)
    have HO1 := Lib.hid (fun W hb => by have h := Size_any vb v i W (HV3.out W hb) hi; rw [HAG.out.siz] at h; exact h)
    have HO2 := Lib.hid (fun W hb => RSize_any ra rc (BM.wb bits) v.n i W (HRF.out W hb) hvs)
    have HD1 := Lib.hid (fun W hb => by have h := Child_any vb v i k W (HV3.out W hb) hi hk; rw [HAG.out.chl] at h; exact h)
    have HD2 := Lib.hid (fun W hb => RChild_any ra rc (BM.wb bits) v.n i k W (HRF.out W hb) hvs hk)
    have b3 := Below.refl w3.heap.size w3
    generalize enc (BM.wb bits) v.n i = c1 at *
    generalize siz (BM.wb bits) v.n i = c2 at *
    generalize chl (BM.wb bits) v.n i k = c3 at *
    clear hrf hb3 HV HMK2 HAG
    go_wp2_with fail
    refine (HC1.out w3 b3).mono ?_
    rintro r w4 ⟨rfl, hb4⟩
    have b4 := b3.trans (hb4.mono b3.size)
    go_wp2_with fail
    refine (HC2.out w4 b4).mono ?_
    rintro r w5 ⟨rfl, hb5⟩
    have b5 := b4.trans (hb5.mono b4.size)
    go_wp2_with fail
    refine (HO1.out w5 b5).mono ?_
    rintro r w6 ⟨rfl, hb6⟩
    have b6 := b5.trans (hb6.mono b5.size)
    go_wp2_with fail
    refine (HO2.out w6 b6).mono ?_
    rintro r w7 ⟨rfl, rfl⟩
    go_wp2_with fail
    refine (HD1.out w6 b6).mono ?_
    rintro r w7 ⟨rfl, hb7⟩
    have b7 := b6.trans (hb7.mono b6.size)
    go_wp2_with fail
    refine (HD2.out w7 b7).mono ?_
    rintro r w8 ⟨rfl, hb8⟩
    have b8 := b7.trans (hb8.mono b7.size)
    go_wp2
    go_ret
    exact ⟨rfl, B3.out.trans (b8.mono B3.out.size)⟩
end Go.Proofs.YtelagemniheeoaaDoor
