/- law03's shown: the examples are met. -/
import Derived.Test.YtimfpgpomafflaaGreatDoorQuotS
namespace Go.Proofs.YtimfpgpomafflaaGreatDoor
open Go.RowKit LM

def k1 : Pl := ⟨false, 1, 0⟩
def k3 : Pl := ⟨false, 3, 0⟩
def kA : Pl := ⟨true, 79, -1⟩
def kB : Pl := ⟨false, 25, -1⟩
def km1 : Pl := ⟨true, 1, 0⟩
def km3 : Pl := ⟨true, 3, 0⟩
theorem k_ok {s : Bool} {v : Nat} {e : Int} (h10 : v % 10 ≠ 0) (hv : v < 100) (h1 : -100 ≤ e) (h2 : e ≤ 100) : PlainP ⟨s, v, e⟩ ∧ inR ⟨s, v, e⟩ = true := ⟨.inr h10, (tell_small2 (s := s) h10 hv h1 h2).2⟩
theorem k1_ok : PlainP k1 ∧ inR k1 = true := k_ok (by decide) (by decide) (by decide) (by decide)
theorem k3_ok : PlainP k3 ∧ inR k3 = true := k_ok (by decide) (by decide) (by decide) (by decide)
theorem kA_ok : PlainP kA ∧ inR kA = true := k_ok (by decide) (by decide) (by decide) (by decide)
theorem kB_ok : PlainP kB ∧ inR kB = true := k_ok (by decide) (by decide) (by decide) (by decide)
theorem km1_ok : PlainP km1 ∧ inR km1 = true := k_ok (by decide) (by decide) (by decide) (by decide)
theorem km3_ok : PlainP km3 ∧ inR km3 = true := k_ok (by decide) (by decide) (by decide) (by decide)
theorem sOf1 (W : World) (ht : Tab W) : Calls Tryz.prog 32 #[.int .i64 1] W (ResV0 k1 W) := by
  have h := DOf_any 1 W (by omega) (by omega) ht
  rw [of_1] at h
  exact h.mono fun _ _ h => ResV.r (p := k1) h
theorem sOf3 (W : World) (ht : Tab W) : Calls Tryz.prog 32 #[.int .i64 3] W (ResV0 k3 W) := by
  have h := DOf_any 3 W (by omega) (by omega) ht
  rw [of_3] at h
  exact h.mono fun _ _ h => ResV.r (p := k3) h
theorem sOfm1 (W : World) (ht : Tab W) : Calls Tryz.prog 32 #[.int .i64 (-1)] W (ResV0 km1 W) := by
  have h := DOf_any (-1) W (by omega) (by omega) ht
  rw [of_m1] at h
  exact h.mono fun _ _ h => ResV.r (p := km1) h
theorem sOfm3 (W : World) (ht : Tab W) : Calls Tryz.prog 32 #[.int .i64 (-3)] W (ResV0 km3 W) := by
  have h := DOf_any (-3) W (by omega) (by omega) ht
  rw [of_m3] at h
  exact h.mono fun _ _ h => ResV.r (p := km3) h
theorem sDiv (a b : Option Addr) (c d : Nat) (W : World) (ra : Rd W .u32 a (dg 1000000000 k1.m)) (rb : Rd W .u32 b (dg 1000000000 k3.m)) (ht : Tab W) :
    Calls Tryz.prog 11 #[.agg #[.bool k1.neg, .slice a (dg 1000000000 k1.m).length c, .int .i64 k1.e], .agg #[.bool k3.neg, .slice b (dg 1000000000 k3.m).length d, .int .i64 k3.e]] W (ResP0 pT W) := by
  have h := cDivPP k1_ok.1 k1_ok.2 k3_ok.1 k3_ok.2 a b c d W ra rb ht
  rw [show divV k1 k3 = ⟨0, pT⟩ from div_13] at h
  exact h.mono fun _ _ h => h.ok
theorem sText (a : Option Addr) (c : Nat) (W : World) (ra : Rd W .u32 a (dg 1000000000 pT.m)) (ht : Tab W) :
    Calls Tryz.prog 33 #[.agg #[.bool pT.neg, .slice a (dg 1000000000 pT.m).length c, .int .i64 pT.e]] W fun r w' => r = .returned (.tuple #[.string ⟨#[48, 46, 51, 51, 51, 51, 51, 51, 51, 51, 51, 51, 51, 51, 51, 51, 51, 51, 51, 51, 51, 51, 51, 51, 51, 51, 51, 51, 51, 51, 51, 51, 51, 51, 51, 51]⟩, .int .i64 0]) ∧ Below W.heap.size W w' := by
  have h := DText_any pT.neg a c _ pT.e W (few_pl pT_in) (lo_pl pT) ra ht
  rw [norm_plain' (.inr rp_mod) pT_in, wtx_T] at h
  exact h
theorem sParseA (W : World) (ht : Tab W) : Calls Tryz.prog 34 #[.string ⟨#[45, 55, 46, 57]⟩] W (ResP0 kA W) := by
  have h := Parse_D sP W (by decide) ht
  rw [prsP] at h
  exact h.mono fun _ _ h => (ResA.y h).ok
theorem sParseB (W : World) (ht : Tab W) : Calls Tryz.prog 34 #[.string ⟨#[50, 46, 53]⟩] W (ResP0 kB W) := by
  have h := Parse_D sQ W (by decide) ht
  rw [prsQ] at h
  exact h.mono fun _ _ h => (ResA.y h).ok
theorem sRem (a b : Option Addr) (c d : Nat) (W : World) (ra : Rd W .u32 a (dg 1000000000 kA.m)) (rb : Rd W .u32 b (dg 1000000000 kB.m)) (ht : Tab W) :
    Calls Tryz.prog 14 #[.agg #[.bool kA.neg, .slice a (dg 1000000000 kA.m).length c, .int .i64 kA.e], .agg #[.bool kB.neg, .slice b (dg 1000000000 kB.m).length d, .int .i64 kB.e]] W (ResP0 km1 W) := by
  have h := cRemPP kA_ok.1 kA_ok.2 kB_ok.1 kB_ok.2 a b c d W ra rb ht
  rw [show remV (cutP 0 kA) (cutP 0 kB) = ⟨0, km1⟩ from rem_ex] at h
  exact h.mono fun _ _ h => h.ok
theorem Rd_1 {w : World} {b x : Nat} (h : w.cell? ⟨b, 0, none⟩ = some (.int .u32 (x : Int))) : Rd w .u32 (some ⟨b, 0, none⟩) [x] := by
  intro j hj
  obtain rfl : j = 0 := by simpa using hj
  exact ⟨b, 0, rfl, h⟩
theorem sRound (b : Nat) (W : World) (h1 : W.cell? ⟨b, 0, none⟩ = some (.int .u32 25)) (ht : Tab W) :
    Calls Tryz.prog 19 #[.agg #[.bool true, .slice (some ⟨b, 0, none⟩) 1 1, .int .i64 (-1)]] W (ResP0 km3 W) := by
  have h := Round_any true (some ⟨b, 0, none⟩) 1 [25] (-1) W (by simp) (by intro x hx; rw [List.mem_singleton.1 hx]; omega) (Rd_1 h1) ht
  rw [vl_one, show [25].length = 1 from rfl, round_ex] at h
  exact h.mono fun _ _ h => ResY.ok (p := km3) h
theorem sInt (b : Nat) (W : World) (h1 : W.cell? ⟨b, 0, none⟩ = some (.int .u32 1)) (ht : Tab W) :
    Calls Tryz.prog 23 #[.agg #[.bool false, .slice (some ⟨b, 0, none⟩) 1 1, .int .i64 3]] W fun r w' => r = .returned (.tuple #[.int .i64 1000, .int .i64 0]) ∧ Below W.heap.size W w' := by
  have h := Int_any false (some ⟨b, 0, none⟩) 1 [1] 3 W (by simp) (by intro x hx; rw [List.mem_singleton.1 hx]; omega) (Rd_1 h1) ht
  rw [vl_one, show [1].length = 1 from rfl, int_ex] at h
  exact h
theorem sSame1 (a b : Option Addr) (c d : Nat) (W : World) (ra : Rd W .u32 a (dg 1000000000 km1.m)) (rb : Rd W .u32 b (dg 1000000000 km1.m)) :
    Calls Tryz.prog 13 #[.agg #[.bool km1.neg, .slice a (dg 1000000000 km1.m).length c, .int .i64 km1.e], .agg #[.bool km1.neg, .slice b (dg 1000000000 km1.m).length d, .int .i64 km1.e]] W fun r w' => r = .returned (.bool true) ∧ Below W.heap.size W w' := by
  have h := cSamePP km1_ok.2 km1_ok.2 a b c d W ra rb
  rw [decide_eq_true rfl] at h
  exact h
theorem sSame3 (a b : Option Addr) (c d : Nat) (W : World) (ra : Rd W .u32 a (dg 1000000000 km3.m)) (rb : Rd W .u32 b (dg 1000000000 km3.m)) :
    Calls Tryz.prog 13 #[.agg #[.bool km3.neg, .slice a (dg 1000000000 km3.m).length c, .int .i64 km3.e], .agg #[.bool km3.neg, .slice b (dg 1000000000 km3.m).length d, .int .i64 km3.e]] W fun r w' => r = .returned (.bool true) ∧ Below W.heap.size W w' := by
  have h := cSamePP km3_ok.2 km3_ok.2 a b c d W ra rb
  rw [decide_eq_true rfl] at h
  exact h
set_option maxHeartbeats 16000000 in
set_option maxRecDepth 20000 in
theorem shown_any (w : World) (htab : Tab w) : Calls Tryz.prog 10 #[] w fun r w' => r = .returned (.bool true) ∧ Below w.heap.size w w' := by
  have HT := Lib.hid htab
  clear htab
  go_enter Tryz.func10, Tryz.ntmps10
  have b1 := Below.refl w.heap.size w
  go_wp2_with fail
  refine (sOf1 _ (HT.out.below b1)).mono ?_
  rintro r w2 ⟨xa, ya, rfl, ho, hc⟩
  have b2 := b1.trans (hc.mono b1.size)
  clear hc b1
  have R_a := Lib.hid ho
  clear ho
  go_wp2_with fail
  refine (sOf3 _ (HT.out.below b2)).mono ?_
  rintro r w3 ⟨xb, yb, rfl, ho, hc⟩
  have b3 := b2.trans (hc.mono b2.size)
  replace R_a := Lib.hid (R_a.out.below hc)
  clear hc b2
  have R_b := Lib.hid ho
  clear ho
  go_wp2_with fail
  refine (sDiv _ _ _ _ _ R_a.out R_b.out (HT.out.below b3)).mono ?_
  rintro r w4 ⟨xt, yt, rfl, ho, hc⟩
  have b4 := b3.trans (hc.mono b3.size)
  replace R_a := Lib.hid (R_a.out.below hc)
  replace R_b := Lib.hid (R_b.out.below hc)
  clear hc b3
  clear R_a
  clear R_b
  have R_t := Lib.hid ho
  clear ho
  have z_t := b4.size
  have hd := (Below.refl w4.heap.size w4).alloc (Nat.le_refl _) (.cells #[.bool pT.neg, .slice xt (dg 1000000000 pT.m).length yt, .int .i64 pT.e] 24)
  have b5 := b4.trans (hd.mono b4.size)
  replace R_t := Lib.hid (R_t.out.below hd)
  have X_t := Qx.new w4 (.bool pT.neg) (.slice xt (dg 1000000000 pT.m).length yt) (.int .i64 pT.e) 24
  have F_t := Qf.new w4 (.bool pT.neg) (.slice xt (dg 1000000000 pT.m).length yt) (.int .i64 pT.e) 24
  clear hd b4
  obtain ⟨kt0, kt1, kt2⟩ := X_t.out
  go_wp2_with fail
  clear kt0 kt1 kt2
  refine (sText _ _ _ R_t.out (HT.out.below b5)).mono ?_
  rintro r w6 ⟨rfl, hc⟩
  have b6 := b5.trans (hc.mono b5.size)
  replace F_t := Qf.below F_t (Qx.lt X_t) hc
  replace X_t := Qx.below X_t hc
  replace R_t := Lib.hid (R_t.out.below hc)
  clear hc b5
  clear X_t F_t
  clear R_t
  go_wp2_with fail
  refine (sParseA _ (HT.out.below b6)).mono ?_
  rintro r w7 ⟨xp, yp, rfl, ho, hc⟩
  have b7 := b6.trans (hc.mono b6.size)
  clear hc b6
  have R_p := Lib.hid ho
  clear ho
  have z_p := b7.size
  have hd := (Below.refl w7.heap.size w7).alloc (Nat.le_refl _) (.cells #[.bool kA.neg, .slice xp (dg 1000000000 kA.m).length yp, .int .i64 kA.e] 24)
  have b8 := b7.trans (hd.mono b7.size)
  replace R_p := Lib.hid (R_p.out.below hd)
  have X_p := Qx.new w7 (.bool kA.neg) (.slice xp (dg 1000000000 kA.m).length yp) (.int .i64 kA.e) 24
  have F_p := Qf.new w7 (.bool kA.neg) (.slice xp (dg 1000000000 kA.m).length yp) (.int .i64 kA.e) 24
  clear hd b7
  go_wp2_with fail
  refine (sParseB _ (HT.out.below b8)).mono ?_
  rintro r w9 ⟨xq, yq, rfl, ho, hc⟩
  have b9 := b8.trans (hc.mono b8.size)
  replace F_p := Qf.below F_p (Qx.lt X_p) hc
  replace X_p := Qx.below X_p hc
  replace R_p := Lib.hid (R_p.out.below hc)
  clear hc b8
  have R_q := Lib.hid ho
  clear ho
  have z_q := b9.size
  have hd := (Below.refl w9.heap.size w9).alloc (Nat.le_refl _) (.cells #[.bool kB.neg, .slice xq (dg 1000000000 kB.m).length yq, .int .i64 kB.e] 24)
  have b10 := b9.trans (hd.mono b9.size)
  have l_p_q := Qx.lt X_p
  have m_p_q := not_eq_lt l_p_q
  have m_q_p := not_eq_gt l_p_q
  clear l_p_q
  replace F_p := Qf.below F_p (Qx.lt X_p) hd
  replace X_p := Qx.below X_p hd
  replace R_p := Lib.hid (R_p.out.below hd)
  replace R_q := Lib.hid (R_q.out.below hd)
  have X_q := Qx.new w9 (.bool kB.neg) (.slice xq (dg 1000000000 kB.m).length yq) (.int .i64 kB.e) 24
  have F_q := Qf.new w9 (.bool kB.neg) (.slice xq (dg 1000000000 kB.m).length yq) (.int .i64 kB.e) 24
  clear hd b9
  obtain ⟨kp0, kp1, kp2⟩ := X_p.out
  obtain ⟨kq0, kq1, kq2⟩ := X_q.out
  go_wp2_with fail
  clear kp0 kp1 kp2 kq0 kq1 kq2
  refine (sRem _ _ _ _ _ R_p.out R_q.out (HT.out.below b10)).mono ?_
  rintro r w11 ⟨xr, yr, rfl, ho, hc⟩
  have b11 := b10.trans (hc.mono b10.size)
  replace F_p := Qf.below F_p (Qx.lt X_p) hc
  replace X_p := Qx.below X_p hc
  replace F_q := Qf.below F_q (Qx.lt X_q) hc
  replace X_q := Qx.below X_q hc
  replace R_p := Lib.hid (R_p.out.below hc)
  replace R_q := Lib.hid (R_q.out.below hc)
  clear hc b10
  clear X_p F_p
  clear R_p
  clear X_q F_q
  clear R_q
  have R_r := Lib.hid ho
  clear ho
  have z_r := b11.size
  have hd := (Below.refl w11.heap.size w11).alloc (Nat.le_refl _) (.cells #[.bool km1.neg, .slice xr (dg 1000000000 km1.m).length yr, .int .i64 km1.e] 24)
  have b12 := b11.trans (hd.mono b11.size)
  replace R_r := Lib.hid (R_r.out.below hd)
  have X_r := Qx.new w11 (.bool km1.neg) (.slice xr (dg 1000000000 km1.m).length yr) (.int .i64 km1.e) 24
  have F_r := Qf.new w11 (.bool km1.neg) (.slice xr (dg 1000000000 km1.m).length yr) (.int .i64 km1.e) 24
  clear hd b11
  have hl := (Below.refl (w11.alloc (.cells #[.bool km1.neg, .slice xr (dg 1000000000 km1.m).length yr, .int .i64 km1.e] 24)).heap.size (w11.alloc (.cells #[.bool km1.neg, .slice xr (dg 1000000000 km1.m).length yr, .int .i64 km1.e] 24))).alloc (Nat.le_refl _) (.cells #[.int .u32 25] 40)
  have b13 := b12.trans (hl.mono b12.size)
  replace F_r := Qf.below F_r (Qx.lt X_r) hl
  replace X_r := Qx.below X_r hl
  replace R_r := Lib.hid (R_r.out.below hl)
  clear hl b12
  go_wp2_with fail
  refine (sRound _ _ (by simp) (HT.out.below b13)).mono ?_
  rintro r w14 ⟨xn, yn, rfl, ho, hc⟩
  have b14 := b13.trans (hc.mono b13.size)
  replace F_r := Qf.below F_r (Qx.lt X_r) hc
  replace X_r := Qx.below X_r hc
  replace R_r := Lib.hid (R_r.out.below hc)
  clear hc b13
  have R_n := Lib.hid ho
  clear ho
  have z_n := b14.size
  have hd := (Below.refl w14.heap.size w14).alloc (Nat.le_refl _) (.cells #[.bool km3.neg, .slice xn (dg 1000000000 km3.m).length yn, .int .i64 km3.e] 24)
  have b15 := b14.trans (hd.mono b14.size)
  have l_r_n := Qx.lt X_r
  have m_r_n := not_eq_lt l_r_n
  have m_n_r := not_eq_gt l_r_n
  clear l_r_n
  replace F_r := Qf.below F_r (Qx.lt X_r) hd
  replace X_r := Qx.below X_r hd
  replace R_r := Lib.hid (R_r.out.below hd)
  replace R_n := Lib.hid (R_n.out.below hd)
  have X_n := Qx.new w14 (.bool km3.neg) (.slice xn (dg 1000000000 km3.m).length yn) (.int .i64 km3.e) 24
  have F_n := Qf.new w14 (.bool km3.neg) (.slice xn (dg 1000000000 km3.m).length yn) (.int .i64 km3.e) 24
  clear hd b14
  have hl := (Below.refl (w14.alloc (.cells #[.bool km3.neg, .slice xn (dg 1000000000 km3.m).length yn, .int .i64 km3.e] 24)).heap.size (w14.alloc (.cells #[.bool km3.neg, .slice xn (dg 1000000000 km3.m).length yn, .int .i64 km3.e] 24))).alloc (Nat.le_refl _) (.cells #[.int .u32 1] 40)
  have b16 := b15.trans (hl.mono b15.size)
  replace F_r := Qf.below F_r (Qx.lt X_r) hl
  replace X_r := Qx.below X_r hl
  replace F_n := Qf.below F_n (Qx.lt X_n) hl
  replace X_n := Qx.below X_n hl
  replace R_r := Lib.hid (R_r.out.below hl)
  replace R_n := Lib.hid (R_n.out.below hl)
  clear hl b15
  go_wp2_with fail
  refine (sInt _ _ (by simp) (HT.out.below b16)).mono ?_
  rintro r w17 ⟨rfl, hc⟩
  have b17 := b16.trans (hc.mono b16.size)
  replace F_r := Qf.below F_r (Qx.lt X_r) hc
  replace X_r := Qx.below X_r hc
  replace F_n := Qf.below F_n (Qx.lt X_n) hc
  replace X_n := Qx.below X_n hc
  replace R_r := Lib.hid (R_r.out.below hc)
  replace R_n := Lib.hid (R_n.out.below hc)
  clear hc b16
  obtain ⟨kr0, kr1, kr2⟩ := X_r.out
  obtain ⟨kn0, kn1, kn2⟩ := X_n.out
  have bb := b17
  have bw := Below.refl w17.heap.size w17
  go_wp2_with fail
  go_region_held3 (fun w' => w'.cell? ⟨w11.heap.size, 0, none⟩ = some (.bool km1.neg) ∧ w'.cell? ⟨w11.heap.size, 1, none⟩ = some (.slice xr (dg 1000000000 km1.m).length yr) ∧ w'.cell? ⟨w11.heap.size, 2, none⟩ = some (.int .i64 km1.e) ∧ w'.cell? ⟨w14.heap.size, 0, none⟩ = some (.bool km3.neg) ∧ w'.cell? ⟨w14.heap.size, 1, none⟩ = some (.slice xn (dg 1000000000 km3.m).length yn) ∧ w'.cell? ⟨w14.heap.size, 2, none⟩ = some (.int .i64 km3.e)) (first | with_reducible exact ⟨m0, m1, m2, m3, m4, m5⟩ | with_reducible exact ⟨j0, j1, j2, j3, j4, j5⟩ | with_reducible exact ⟨i0, i1, i2, i3, i4, i5⟩ | with_reducible exact ⟨h0, h1, h2, h3, h4, h5⟩ | with_reducible exact ⟨kr0, kr1, kr2, kn0, kn1, kn2⟩ | exact ⟨kr0, kr1, kr2, kn0, kn1, kn2⟩ | go_keep)
    (first
      | (go_at_call 13; have chk := ze; refine (sSame3 _ _ _ _ _ (R_n.out.below ze) roe).mono ?_; rintro e wf ⟨rfl, hbf⟩; have zf := ze.trans (hbf.mono ze.size); have m0 := cellB kr0 zf; have m1 := cellB kr1 zf; have m2 := cellB kr2 zf; have m3 := cellB kn0 zf; have m4 := cellB kn1 zf; have m5 := cellB kn2 zf;)
      | (go_at_call 32; have chk := zd; refine (sOfm3 _ (HT.out.below (bb.trans (zd.mono bb.size)))).mono ?_; rintro e we ⟨xe, ye, rfl, roe, hbe⟩; have ze := zd.trans (hbe.mono zd.size); have j0 := cellB kr0 ze; have j1 := cellB kr1 ze; have j2 := cellB kr2 ze; have j3 := cellB kn0 ze; have j4 := cellB kn1 ze; have j5 := cellB kn2 ze;)
      | (go_at_call 13; have chk := zc; refine (sSame1 _ _ _ _ _ (R_r.out.below zc) roc).mono ?_; rintro e wd ⟨rfl, hbd⟩; have zd := zc.trans (hbd.mono zc.size); have i0 := cellB kr0 zd; have i1 := cellB kr1 zd; have i2 := cellB kr2 zd; have i3 := cellB kn0 zd; have i4 := cellB kn1 zd; have i5 := cellB kn2 zd;)
      | (go_at_call 32; refine (sOfm1 _ (HT.out.below (bb.trans (bw.drew.mono bb.size)))).mono ?_; rintro e wc ⟨xc, yc, rfl, roc, hbc⟩; have zc := bw.drew.trans hbc; have h0 := cellB kr0 zc; have h1 := cellB kr1 zc; have h2 := cellB kr2 zc; have h3 := cellB kn0 zc; have h4 := cellB kn1 zc; have h5 := cellB kn2 zc;))
  have BL := bb.trans (zf.mono bb.size)
  go_wp2
  go_ret
  exact ⟨rfl, BL⟩
end Go.Proofs.YtimfpgpomafflaaGreatDoor
