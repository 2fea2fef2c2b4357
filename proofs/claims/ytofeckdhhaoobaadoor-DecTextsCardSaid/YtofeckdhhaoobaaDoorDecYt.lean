/- Walk of the document's Text. -/
import Derived.Test.YtofeckdhhaoobaaDoorDecY
namespace Go.Proofs.YtofeckdhhaoobaaDoor
open Go.RowKit LM

theorem wtx_err {A : Ans} (h : A.err ≠ 0) : wtx A = [] := by unfold wtx; rw [if_neg h]
theorem wtx_ok {A : Ans} {s : Bool} {m : Nat} {e : Int} (h : A.err = 0) (hp : A.p = ⟨s, m, e⟩) : wtx A = if s = true then 45 :: wos (Lib.decDigits m) e else wos (Lib.decDigits m) e := by
  unfold wtx; rw [if_pos h, hp]

theorem tcons (c : UInt8) (l : List UInt8) : txt (c :: l) = (⟨#[c]⟩ : ByteArray) ++ txt l := by apply ba_ext; simp [txt]

set_option maxHeartbeats 8000000 in
set_option maxRecDepth 20000 in
theorem RTextD_any (s : Bool) (a : Option Addr) (c : Nat) (l : List Nat) (e : Int) (w : World) (hl : l.length ≤ 9223372036854775807) (hlo : Lo 4294967296 l) (hrd : Rd w .u32 a l) :
    Calls Tryd.prog 23 #[.agg #[.bool s, .slice a l.length c, .int .i64 e]] w fun r w' => r = .returned (.tuple #[.string (txt (wtx (normA l.length s (vl 1000000000 l) e))), .int .i64 ((normA l.length s (vl 1000000000 l) e).err : Nat)]) ∧ Below w.heap.size w w' := by
  have hT := fun W hb => Take_any s a c l e W hl hlo (hrd.below' (w' := W) hb (Nat.le_refl _))
  obtain ⟨hd, he1, he2⟩ := inR_bounds (normA_in l.length s (vl 1000000000 l) e)
  have hpl := normA_plain l.length s (vl 1000000000 l) e
  generalize normA l.length s (vl 1000000000 l) e = A at *
  have HT := Lib.hid hT; have HPL := Lib.hid hpl
  clear hT hlo hrd hpl
  go_enter Tryd.func23, Tryd.ntmps23
  go_wp2_with fail
  refine (HT.out _ ((Below.refl _ _).alloc (Nat.le_refl _) _)).mono ?_
  rintro r w2 ⟨a1, c1, rfl, hr1, hb1⟩
  have bb := ((Below.refl w.heap.size w).alloc (Nat.le_refl _) (.cells #[.bool s, .slice a l.length c, .int .i64 e] 24)).trans (hb1.mono (by simp))
  by_cases h0 : A.err = 0
  · have hB : ((A.err : Int) != 0) = false := by simp [h0]
    have HE := Lib.hid h0
    obtain ⟨er, p⟩ := A
    obtain ⟨sg, m, x⟩ := p
    simp only at hd he1 he2 hr1 hB h0 ⊢
    have hwt := wtx_ok (A := ⟨er, ⟨sg, m, x⟩⟩) h0 rfl
    have HWT := Lib.hid hwt
    clear hwt hb1
    subst h0
    rcases Nat.eq_zero_or_pos m with hm | hm
    · have hz : sg = false ∧ m = 0 ∧ x = 0 := by
        rcases HPL.out with ⟨_, h⟩ | h
        · unfold zP at h; injection h with h1 h2 h3; exact ⟨h1, h2, h3⟩
        · exact absurd (show m % 10 = 0 by rw [hm]) h
      obtain ⟨rfl, rfl, rfl⟩ := hz
      rw [dg_zero] at *
      have hv : txt (wtx ⟨0, ⟨false, 0, 0⟩⟩) = ⟨#[48]⟩ := by
        rw [HWT.out, if_neg (by decide), Lib.decDigits_one (by omega)]; rfl
      have HV := Lib.hid hv
      clear hv hr1
      go_wp2
      refine bodyPost_ret (v := .tuple #[.string ⟨#[48]⟩, .int .i64 0]) (by simp [results, Tryd.results23, go_sem]) rfl ?_
      exact ⟨by rw [HV.out], bb.alloc (by simpa using bb.size) _⟩
    · have hD : (Lib.decDigits m).length = (dg 10 m).length := by
        rw [dec_len2]
        have : (dg 10 m).length ≠ 0 := by rw [dg_pos (by omega) hm]; simp
        omega
      have hn0 : ¬ (dg 10 m).length = 0 := by rw [dg_pos (by omega) hm]; simp
      have hdn : (dg 10 m).length ≤ 400 := hd
      have hRT := fun W hb => RText_any a1 c1 m W (by omega) ((hr1.below (w' := W) hb).1)
      have HRT := Lib.hid hRT
      have hHd := fun W => Head_any sg a1 (dg 10 m).length c1 x W (by omega) (by omega) (by omega)
      have HHD := Lib.hid hHd
      clear hRT hHd hd hm hr1
      obtain ⟨D, hDe⟩ : ∃ D, D = Lib.decDigits m := ⟨_, rfl⟩
      have ht : (⟨(Lib.decDigits m).toArray⟩ : ByteArray) = txt D := by rw [hDe]; rfl
      rw [ht, ] at HRT
      rw [← hDe] at HWT hD
      have hsz := txt_size D
      rw [hD] at hsz
      have HDL := Lib.hid hD
      generalize (dg 10 m).length = n at *
      clear hDe ht hD
      have hnB : ((n : Int) == 0) = false := by simp; exact hn0
      have b2 := bb.alloc bb.size (.cells #[.bool sg, .slice a1 n c1, .int .i64 x] 56)
      go_wp2_with fail
      refine (HRT.out _ ((Below.refl _ _).alloc (Nat.le_refl _) _)).mono ?_
      rintro r w3 ⟨rfl, hb3⟩
      have b3 := b2.trans (hb3.mono b2.size)
      have k0 : w3.cell? ⟨w2.heap.size, 0, none⟩ = some (.bool sg) := by rw [hb3.cell (by simp)]; simp
      have k1 : w3.cell? ⟨w2.heap.size, 1, none⟩ = some (.slice a1 n c1) := by rw [hb3.cell (by simp)]; simp
      have k2 : w3.cell? ⟨w2.heap.size, 2, none⟩ = some (.int .i64 x) := by rw [hb3.cell (by simp)]; simp
      clear hb3 bb b2
      have HY := Lib.hid (show (txt D).data.toList = D from rfl)
      have hyb : (txt D).size ≤ 400 := by rw [hsz]; exact hdn
      have hy1 : 1 ≤ (txt D).size := by rw [hsz]; omega
      generalize txt D = y at *
      have b3 := b3
      by_cases g0 : 0 ≤ x
      · by_cases g1 : x + n - 1 ≤ 20
        · obtain ⟨k, rfl⟩ : ∃ k : Nat, x = k := ⟨x.toNat, by omega⟩
          have hS : y ++ txt (List.replicate k 48) = txt (wos D k) := by
            apply ba_ext; rw [ba_app, HY.out, wos_1 g0 (by rw [HDL.out]; exact g1)]; simp [txt]
          have hN := fun W => noughts_any k W (by omega)
          have hzs : (txt (List.replicate k 48)).size ≤ 20 := by rw [txt_size, List.length_replicate]; omega
          generalize txt (List.replicate k 48) = z at *
          have HN := Lib.hid hN; have HS := Lib.hid hS
          clear hN hS
          go_wp2_with fail
          refine (HHD.out _).mono ?_
          rintro r w4 ⟨rfl, hb4⟩
          have b4 := b3.trans (hb4.mono b3.size)
          have i0 := cellB k0 hb4
          have i1 := cellB k1 hb4
          have i2 := cellB k2 hb4
          clear hb4 b3 k0 k1 k2
          go_wp2_with fail
          refine (HN.out _).mono ?_
          rintro r w5 ⟨rfl, rfl⟩
          rcases hsg : sg with _ | _
          · rw [hsg] at i0
            have HSG := Lib.hid hsg
            clear hsg
            go_wp2
            refine bodyPost_ret (v := .tuple #[.string (y ++ z), .int .i64 0]) (by simp [results, Tryd.results23, go_sem]) rfl ?_
            exact ⟨by rw [HWT.out, HSG.out, if_neg (by decide), ← HS.out], b4⟩
          · rw [hsg] at i0
            have HSG := Lib.hid hsg
            clear hsg
            go_wp2
            refine bodyPost_ret (v := .tuple #[.string ((⟨#[45]⟩ : ByteArray) ++ (y ++ z)), .int .i64 0]) (by simp [results, Tryd.results23, go_sem]) rfl ?_
            exact ⟨by rw [HWT.out, HSG.out, if_pos rfl, tcons, ← HS.out], b4⟩
        · have hS := wos_4 (D := D) (e := x) (by rw [HDL.out]; omega) (by omega)
          have hW := fun W => Whole_any (x + n - 1) W (by omega) (by omega)
          have gx : ¬ x < 0 := by omega
          rw [HDL.out] at hS
          generalize hh : x + (n : Int) - 1 = h at *
          have hlen : (Lib.itoa h).length ≤ 21 := Lib.itoa_length_le h (by omega) (by omega)
          have hzs : (txt (Lib.itoa h)).size ≤ 21 := by rw [txt_size]; exact hlen
          obtain ⟨z, hz⟩ : ∃ z, z = txt (Lib.itoa h) := ⟨_, rfl⟩
          have HZ := Lib.hid (show z.data.toList = Lib.itoa h by rw [hz]; rfl)
          rw [← hz] at hW hzs
          have HW := Lib.hid hW
          clear hW hz hlen
          by_cases g5 : 1 < y.size
          · have hS2 : y.extract 0 1 ++ (⟨#[46]⟩ : ByteArray) ++ y.extract 1 n ++ (⟨#[101]⟩ : ByteArray) ++ z = txt (wos D x) := by
              apply ba_ext
              rw [hS, wpow_more (by rw [HDL.out]; omega)]
              simp only [ba_app, Lib.extract_data, HY.out, txt_list, HZ.out, hsz]
              rw [List.drop_zero, Nat.sub_zero, List.take_of_length_le (l := List.drop 1 D) (by rw [List.length_drop, HDL.out]; omega)]
              simp
            have HS := Lib.hid hS2
            clear hS2 hS
            go_wp2_with fail
            refine (HHD.out _).mono ?_
            rintro r w4 ⟨rfl, hb4⟩
            have b4 := b3.trans (hb4.mono b3.size)
            have i0 := cellB k0 hb4
            have i1 := cellB k1 hb4
            have i2 := cellB k2 hb4
            clear hb4 b3 k0 k1 k2
            go_wp2_with fail
            refine (HW.out _).mono ?_
            rintro r w5 ⟨rfl, hb5⟩
            have b5 := b4.trans (hb5.mono b4.size)
            have i0 := cellB i0 hb5
            rcases hsg : sg with _ | _
            · rw [hsg] at i0
              have HSG := Lib.hid hsg
              clear hsg
              go_wp2
              refine bodyPost_ret (v := .tuple #[.string (y.extract 0 1 ++ (⟨#[46]⟩ : ByteArray) ++ y.extract 1 n ++ (⟨#[101]⟩ : ByteArray) ++ z), .int .i64 0]) (by simp [results, Tryd.results23, go_sem]) rfl ?_
              exact ⟨by rw [HWT.out, HSG.out, if_neg (by decide), ← HS.out], b5⟩
            · rw [hsg] at i0
              have HSG := Lib.hid hsg
              clear hsg
              go_wp2
              refine bodyPost_ret (v := .tuple #[.string ((⟨#[45]⟩ : ByteArray) ++ (y.extract 0 1 ++ (⟨#[46]⟩ : ByteArray) ++ y.extract 1 n ++ (⟨#[101]⟩ : ByteArray) ++ z)), .int .i64 0]) (by simp [results, Tryd.results23, go_sem]) rfl ?_
              exact ⟨by rw [HWT.out, HSG.out, if_pos rfl, tcons, ← HS.out], b5⟩
          · have hS2 : y.extract 0 1 ++ (⟨#[101]⟩ : ByteArray) ++ z = txt (wos D x) := by
              apply ba_ext
              rw [hS, wpow_one (by rw [HDL.out]; omega)]
              simp only [ba_app, Lib.extract_data, HY.out, txt_list, HZ.out, hsz]
              simp
            have HS := Lib.hid hS2
            clear hS2 hS
            go_wp2_with fail
            refine (HHD.out _).mono ?_
            rintro r w4 ⟨rfl, hb4⟩
            have b4 := b3.trans (hb4.mono b3.size)
            have i0 := cellB k0 hb4
            have i1 := cellB k1 hb4
            have i2 := cellB k2 hb4
            clear hb4 b3 k0 k1 k2
            go_wp2_with fail
            refine (HW.out _).mono ?_
            rintro r w5 ⟨rfl, hb5⟩
            have b5 := b4.trans (hb5.mono b4.size)
            have i0 := cellB i0 hb5
            rcases hsg : sg with _ | _
            · rw [hsg] at i0
              have HSG := Lib.hid hsg
              clear hsg
              go_wp2
              refine bodyPost_ret (v := .tuple #[.string (y.extract 0 1 ++ (⟨#[101]⟩ : ByteArray) ++ z), .int .i64 0]) (by simp [results, Tryd.results23, go_sem]) rfl ?_
              exact ⟨by rw [HWT.out, HSG.out, if_neg (by decide), ← HS.out], b5⟩
            · rw [hsg] at i0
              have HSG := Lib.hid hsg
              clear hsg
              go_wp2
              refine bodyPost_ret (v := .tuple #[.string ((⟨#[45]⟩ : ByteArray) ++ (y.extract 0 1 ++ (⟨#[101]⟩ : ByteArray) ++ z)), .int .i64 0]) (by simp [results, Tryd.results23, go_sem]) rfl ?_
              exact ⟨by rw [HWT.out, HSG.out, if_pos rfl, tcons, ← HS.out], b5⟩
      · have gx : x < 0 := by omega
        by_cases g1 : 0 ≤ x + n - 1
        · obtain ⟨k, hk⟩ : ∃ k : Nat, x + n - 1 = k := ⟨(x + n - 1).toNat, by omega⟩
          have hS : y.extract 0 (k + 1) ++ (⟨#[46]⟩ : ByteArray) ++ y.extract (k + 1) n = txt (wos D x) := by
            apply ba_ext
            rw [wos_2 gx (by rw [HDL.out]; exact g1), show (x + (D.length : Int)).toNat = k + 1 by rw [HDL.out]; omega]
            simp only [ba_app, Lib.extract_data, HY.out, txt_list, hsz]
            rw [List.drop_zero, Nat.sub_zero, List.take_of_length_le (l := List.drop (k + 1) D) (by rw [List.length_drop, HDL.out]; omega)]
            simp
          rw [hk] at HHD
          have hky : k + 1 ≤ n := by omega
          have HS := Lib.hid hS
          clear hS hk g1
          go_wp2_with fail
          refine (HHD.out _).mono ?_
          rintro r w4 ⟨rfl, hb4⟩
          have b4 := b3.trans (hb4.mono b3.size)
          have i0 := cellB k0 hb4
          have i1 := cellB k1 hb4
          have i2 := cellB k2 hb4
          clear hb4 b3 k0 k1 k2
          have q1 : IntKind.i64.wrap ((k : Int) + 1) = (k : Int) + 1 := IntWalk.i64_in _ (by omega)
          have q2 : ((k : Int) + 1).toNat = k + 1 := by omega
          go_wp2_with fail
          go_quiet (fail)
          rcases hsg : sg with _ | _
          · rw [hsg] at i0
            have HSG := Lib.hid hsg
            clear hsg
            go_wp2
            refine bodyPost_ret (v := .tuple #[.string (y.extract 0 (k + 1) ++ (⟨#[46]⟩ : ByteArray) ++ y.extract (k + 1) n), .int .i64 0]) (by simp [results, Tryd.results23, go_sem]) rfl ?_
            exact ⟨by rw [HWT.out, HSG.out, if_neg (by decide), ← HS.out], bdN b4 _⟩
          · rw [hsg] at i0
            have HSG := Lib.hid hsg
            clear hsg
            go_wp2
            refine bodyPost_ret (v := .tuple #[.string ((⟨#[45]⟩ : ByteArray) ++ (y.extract 0 (k + 1) ++ (⟨#[46]⟩ : ByteArray) ++ y.extract (k + 1) n)), .int .i64 0]) (by simp [results, Tryd.results23, go_sem]) rfl ?_
            exact ⟨by rw [HWT.out, HSG.out, if_pos rfl, tcons, ← HS.out], bdN b4 _⟩
        · by_cases g2 : -7 ≤ x + n - 1
          · obtain ⟨k, hk⟩ : ∃ k : Nat, x + n - 1 = -((k : Int) + 1) := ⟨(-(x + n - 1) - 1).toNat, by omega⟩
            have hS : (⟨#[48, 46]⟩ : ByteArray) ++ txt (List.replicate k 48) ++ y = txt (wos D x) := by
              apply ba_ext
              rw [wos_3 gx (by rw [HDL.out]; omega) (by rw [HDL.out]; exact g2), show (-(x + (D.length : Int) - 1) - 1).toNat = k by rw [HDL.out]; omega]
              simp only [ba_app, HY.out, txt_list]
            have hN := fun W => noughts_any k W (by omega)
            have hzs : (txt (List.replicate k 48)).size ≤ 20 := by rw [txt_size, List.length_replicate]; omega
            generalize txt (List.replicate k 48) = z at *
            rw [hk] at HHD
            have hk6 : k ≤ 6 := by omega
            have HN := Lib.hid hN; have HS := Lib.hid hS
            clear hN hS hk g1 g2
            go_wp2_with fail
            refine (HHD.out _).mono ?_
            rintro r w4 ⟨rfl, hb4⟩
            have b4 := b3.trans (hb4.mono b3.size)
            have i0 := cellB k0 hb4
            have i1 := cellB k1 hb4
            have i2 := cellB k2 hb4
            clear hb4 b3 k0 k1 k2
            go_wp2_with fail
            refine (HN.out _).mono ?_
            rintro r w5 ⟨rfl, rfl⟩
            rcases hsg : sg with _ | _
            · rw [hsg] at i0
              have HSG := Lib.hid hsg
              clear hsg
              go_wp2
              refine bodyPost_ret (v := .tuple #[.string ((⟨#[48, 46]⟩ : ByteArray) ++ z ++ y), .int .i64 0]) (by simp [results, Tryd.results23, go_sem]) rfl ?_
              exact ⟨by rw [HWT.out, HSG.out, if_neg (by decide), ← HS.out], b4⟩
            · rw [hsg] at i0
              have HSG := Lib.hid hsg
              clear hsg
              go_wp2
              refine bodyPost_ret (v := .tuple #[.string ((⟨#[45]⟩ : ByteArray) ++ ((⟨#[48, 46]⟩ : ByteArray) ++ z ++ y)), .int .i64 0]) (by simp [results, Tryd.results23, go_sem]) rfl ?_
              exact ⟨by rw [HWT.out, HSG.out, if_pos rfl, tcons, ← HS.out], b4⟩
          · have hS := wos_4 (D := D) (e := x) (by omega) (by rw [HDL.out]; omega)
            have hW := fun W => Whole_any (x + n - 1) W (by omega) (by omega)
            have gx0 : ¬ 0 ≤ x := g0
            rw [HDL.out] at hS
            generalize hh : x + (n : Int) - 1 = h at *
            have hlen : (Lib.itoa h).length ≤ 21 := Lib.itoa_length_le h (by omega) (by omega)
            have hzs : (txt (Lib.itoa h)).size ≤ 21 := by rw [txt_size]; exact hlen
            obtain ⟨z, hz⟩ : ∃ z, z = txt (Lib.itoa h) := ⟨_, rfl⟩
            have HZ := Lib.hid (show z.data.toList = Lib.itoa h by rw [hz]; rfl)
            rw [← hz] at hW hzs
            have HW := Lib.hid hW
            clear hW hz hlen
            by_cases g5 : 1 < y.size
            · have hS2 : y.extract 0 1 ++ (⟨#[46]⟩ : ByteArray) ++ y.extract 1 n ++ (⟨#[101]⟩ : ByteArray) ++ z = txt (wos D x) := by
                apply ba_ext
                rw [hS, wpow_more (by rw [HDL.out]; omega)]
                simp only [ba_app, Lib.extract_data, HY.out, txt_list, HZ.out, hsz]
                rw [List.drop_zero, Nat.sub_zero, List.take_of_length_le (l := List.drop 1 D) (by rw [List.length_drop, HDL.out]; omega)]
                simp
              have HS := Lib.hid hS2
              clear hS2 hS
              go_wp2_with fail
              refine (HHD.out _).mono ?_
              rintro r w4 ⟨rfl, hb4⟩
              have b4 := b3.trans (hb4.mono b3.size)
              have i0 := cellB k0 hb4
              have i1 := cellB k1 hb4
              have i2 := cellB k2 hb4
              clear hb4 b3 k0 k1 k2
              go_wp2_with fail
              refine (HW.out _).mono ?_
              rintro r w5 ⟨rfl, hb5⟩
              have b5 := b4.trans (hb5.mono b4.size)
              have i0 := cellB i0 hb5
              rcases hsg : sg with _ | _
              · rw [hsg] at i0
                have HSG := Lib.hid hsg
                clear hsg
                go_wp2
                refine bodyPost_ret (v := .tuple #[.string (y.extract 0 1 ++ (⟨#[46]⟩ : ByteArray) ++ y.extract 1 n ++ (⟨#[101]⟩ : ByteArray) ++ z), .int .i64 0]) (by simp [results, Tryd.results23, go_sem]) rfl ?_
                exact ⟨by rw [HWT.out, HSG.out, if_neg (by decide), ← HS.out], b5⟩
              · rw [hsg] at i0
                have HSG := Lib.hid hsg
                clear hsg
                go_wp2
                refine bodyPost_ret (v := .tuple #[.string ((⟨#[45]⟩ : ByteArray) ++ (y.extract 0 1 ++ (⟨#[46]⟩ : ByteArray) ++ y.extract 1 n ++ (⟨#[101]⟩ : ByteArray) ++ z)), .int .i64 0]) (by simp [results, Tryd.results23, go_sem]) rfl ?_
                exact ⟨by rw [HWT.out, HSG.out, if_pos rfl, tcons, ← HS.out], b5⟩
            · have hS2 : y.extract 0 1 ++ (⟨#[101]⟩ : ByteArray) ++ z = txt (wos D x) := by
                apply ba_ext
                rw [hS, wpow_one (by rw [HDL.out]; omega)]
                simp only [ba_app, Lib.extract_data, HY.out, txt_list, HZ.out, hsz]
                simp
              have HS := Lib.hid hS2
              clear hS2 hS
              go_wp2_with fail
              refine (HHD.out _).mono ?_
              rintro r w4 ⟨rfl, hb4⟩
              have b4 := b3.trans (hb4.mono b3.size)
              have i0 := cellB k0 hb4
              have i1 := cellB k1 hb4
              have i2 := cellB k2 hb4
              clear hb4 b3 k0 k1 k2
              go_wp2_with fail
              refine (HW.out _).mono ?_
              rintro r w5 ⟨rfl, hb5⟩
              have b5 := b4.trans (hb5.mono b4.size)
              have i0 := cellB i0 hb5
              rcases hsg : sg with _ | _
              · rw [hsg] at i0
                have HSG := Lib.hid hsg
                clear hsg
                go_wp2
                refine bodyPost_ret (v := .tuple #[.string (y.extract 0 1 ++ (⟨#[101]⟩ : ByteArray) ++ z), .int .i64 0]) (by simp [results, Tryd.results23, go_sem]) rfl ?_
                exact ⟨by rw [HWT.out, HSG.out, if_neg (by decide), ← HS.out], b5⟩
              · rw [hsg] at i0
                have HSG := Lib.hid hsg
                clear hsg
                go_wp2
                refine bodyPost_ret (v := .tuple #[.string ((⟨#[45]⟩ : ByteArray) ++ (y.extract 0 1 ++ (⟨#[101]⟩ : ByteArray) ++ z)), .int .i64 0]) (by simp [results, Tryd.results23, go_sem]) rfl ?_
                exact ⟨by rw [HWT.out, HSG.out, if_pos rfl, tcons, ← HS.out], b5⟩
  · have hB : ((A.err : Int) != 0) = true := by simp [h0]
    have hv := wtx_err h0
    have HV := Lib.hid hv
    clear hv h0 hr1
    go_wp2
    refine bodyPost_ret (v := .tuple #[.string ⟨#[]⟩, .int .i64 (A.err : Nat)]) (by simp [results, Tryd.results23, go_sem]) rfl ?_
    exact ⟨by rw [HV.out]; rfl, bb.alloc (by simpa using bb.size) _⟩
end Go.Proofs.YtofeckdhhaoobaaDoor
