/- Walk of the law DecBack. -/
import Derived.Test.YtofeckdhhaoobaaDoorDecU
import Derived.Test.YtofeckdhhaoobaaDoorDecL
import Derived.Test.YtofeckdhhaoobaaDoorDecH
import Derived.Test.YtofeckdhhaoobaaDoorDecBm
namespace Go.Proofs.YtofeckdhhaoobaaDoor
open Go.RowKit LM

theorem sameB_self6 (s : Bool) (e : Int) (l : List Nat) : sameB s s e e l l = true := by simp [sameB]
theorem dg9_few {m : Nat} (h : (dg 10 m).length ≤ 400) : (dg 1000000000 m).length ≤ 200 := by
  rcases Nat.eq_zero_or_pos m with h0 | h0
  · rw [h0, dg_zero]; simp
  · have h1 := dg_lower (b := 1000000000) (by omega) m h0
    have h2 := dg_upper (b := 10) (by omega) m
    have e1 : (1000000000 : Nat) ^ ((dg 1000000000 m).length - 1) = 10 ^ (9 * ((dg 1000000000 m).length - 1)) := by rw [Nat.pow_mul]
    rw [e1] at h1
    rcases Nat.lt_or_ge (9 * ((dg 1000000000 m).length - 1)) (dg 10 m).length with h3 | h3
    · omega
    · have h4 : 10 ^ (dg 10 m).length ≤ 10 ^ (9 * ((dg 1000000000 m).length - 1)) := Nat.pow_le_pow_right (by omega) h3
      omega
theorem norm_plain {p : Pl} (hp : PlainP p) (hin : inR p = true) : normA (dg 1000000000 p.m).length p.neg (vl 1000000000 (dg 1000000000 p.m)) p.e = ⟨0, p⟩ := by
  obtain ⟨h1, h2, h3⟩ := inR_bounds hin
  have h4 := dg9_few (m := p.m) h1
  have hn : nearB (dg 1000000000 p.m).length p.e = true := decide_eq_true (by omega)
  rw [vl_dg (by omega)]
  unfold normA
  rw [if_pos hn]
  unfold tellA
  rw [pl_of_plain hp, if_pos hin]

def ResP (p : Pl) (w : World) (r : Ending) (w' : World) : Prop := ∃ a' c', r = .returned (.tuple #[.agg #[.bool p.neg, .slice a' (dg 1000000000 p.m).length c', .int .i64 p.e], .int .i64 0]) ∧ Own w' w.heap.size 50 .u32 a' c' (dg 1000000000 p.m) ∧ Below w.heap.size w w'
theorem cParse {p : Pl} (hp : PlainP p) (hin : inR p = true) (w : World) (htab : Tab w) : Calls Tryd.prog 20 #[.string (txt (wtx ⟨0, p⟩))] w (ResP p w) := by
  obtain ⟨h1, h2⟩ := read_back hp hin
  have h := Parse_D (txt (wtx ⟨0, p⟩)) w (by rw [txt_size]; omega) htab
  rw [h1] at h
  exact h
theorem cText {p : Pl} (hp : PlainP p) (hin : inR p = true) (a : Option Addr) (c : Nat) (w : World) (hr : Rd w .u32 a (dg 1000000000 p.m)) (htab : Tab w) :
    Calls Tryd.prog 22 #[.agg #[.bool p.neg, .slice a (dg 1000000000 p.m).length c, .int .i64 p.e]] w fun r w' => r = .returned (.tuple #[.string (txt (wtx ⟨0, p⟩)), .int .i64 0]) ∧ Below w.heap.size w w' := by
  have h4 := dg9_few (m := p.m) (inR_bounds hin).1
  have h := DText_any p.neg a c (dg 1000000000 p.m) p.e w (by omega) (Lo_mono (Lo_dg (by omega) _) (by omega)) hr htab
  rw [norm_plain hp hin] at h
  exact h
theorem cMay {p : Pl} (hp : PlainP p) (hin : inR p = true) (a : Option Addr) (c : Nat) (w : World) (hr : Rd w .u32 a (dg 1000000000 p.m)) (htab : Tab w) :
    Calls Tryd.prog 16 #[.agg #[.bool p.neg, .slice a (dg 1000000000 p.m).length c, .int .i64 p.e]] w fun r w' => r = .returned (.bool true) ∧ Below w.heap.size w w' := by
  have h4 := dg9_few (m := p.m) (inR_bounds hin).1
  have h := May_any p.neg a c (dg 1000000000 p.m) p.e w (by omega) (Lo_mono (Lo_dg (by omega) _) (by omega)) hr htab
  rw [may_eq, norm_plain hp hin] at h
  have e1 : (decide ((⟨0, p⟩ : Ans).err = 0) && sameB (⟨0, p⟩ : Ans).p.neg p.neg (⟨0, p⟩ : Ans).p.e p.e (dg 1000000000 (⟨0, p⟩ : Ans).p.m) (dg 1000000000 p.m)) = true := by simp [sameB]
  rw [e1] at h
  exact h
theorem cSame {p : Pl} (hin : inR p = true) (a1 a2 : Option Addr) (c1 c2 : Nat) (w : World) (r1 : Rd w .u32 a1 (dg 1000000000 p.m)) (r2 : Rd w .u32 a2 (dg 1000000000 p.m)) :
    Calls Tryd.prog 15 #[.agg #[.bool p.neg, .slice a1 (dg 1000000000 p.m).length c1, .int .i64 p.e], .agg #[.bool p.neg, .slice a2 (dg 1000000000 p.m).length c2, .int .i64 p.e]] w fun r w' => r = .returned (.bool true) ∧ Below w.heap.size w w' := by
  have h4 := dg9_few (m := p.m) (inR_bounds hin).1
  have h := sameD_any p.neg p.neg a1 a2 c1 c2 _ _ p.e p.e w (by omega) (by omega) r1 r2
  rw [sameB_self6] at h
  exact h

set_option maxHeartbeats 16000000 in
set_option maxRecDepth 20000 in
theorem back2_main (s1 : Bool) (a1 : Option Addr) (c1 : Nat) (l1 : List Nat) (e1 : Int) (s : ByteArray) (w : World) (h1 : l1.length ≤ 9223372036854775807) (hs : s.size ≤ 140737488351232) (hlo1 : Lo 4294967296 l1) (hr1 : Rd w .u32 a1 l1) (htab : Tab w) :
    Calls Tryd.prog 9 #[.agg #[.bool s1, .slice a1 l1.length c1, .int .i64 e1], .string s] w fun r w' => r = .returned (.bool true) ∧ Below w.heap.size w w' := by
  have hN := fun W hb => DNorm_any s1 a1 c1 l1 e1 W h1 hlo1 (hr1.below' (w' := W) hb (Nat.le_refl _)) (htab.below hb)
  have hT := fun W hb => DText_any s1 a1 c1 l1 e1 W h1 hlo1 (hr1.below' (w' := W) hb (Nat.le_refl _)) (htab.below hb)
  have hPS := fun W ht => Parse_D s W hs ht
  have hA1 := normA_plain l1.length s1 (vl 1000000000 l1) e1
  have hA2 := normA_in l1.length s1 (vl 1000000000 l1) e1
  obtain ⟨hX2, hX1⟩ := prs_good s
  have hX0 := fun h => prs_zero s h
  generalize normA l1.length s1 (vl 1000000000 l1) e1 = A at *
  generalize prsA s = X at *
  have hPA := fun W ht => cParse hA1 hA2 W ht
  have hMA := fun a c W hr ht => cMay hA1 hA2 a c W hr ht
  have hSA := fun a b c d W r1 r2 => cSame hA2 a b c d W r1 r2
  have hPX := fun W ht => cParse hX1 hX2 W ht
  have hTX := fun a c W hr ht => cText hX1 hX2 a c W hr ht
  have hMX := fun a c W hr ht => cMay hX1 hX2 a c W hr ht
  have hSX := fun a b c d W r1 r2 => cSame hX2 a b c d W r1 r2
  have HN := Lib.hid hN; have HT := Lib.hid hT; have HPS := Lib.hid hPS; have HX0 := Lib.hid hX0; have HPA := Lib.hid hPA; have HMA := Lib.hid hMA; have HSA := Lib.hid hSA; have HPX := Lib.hid hPX; have HTX := Lib.hid hTX; have HMX := Lib.hid hMX; have HSX := Lib.hid hSX; have HTAB := Lib.hid htab
  clear hN hT hPS hX0 hPA hMA hSA hPX hTX hMX hSX hA1 hA2 hX1 hX2 htab hr1 hlo1
  go_enter Tryd.func9, Tryd.ntmps9
  have hb0 := (Below.refl w.heap.size w).alloc (Nat.le_refl _) (.cells #[.bool s1, .slice a1 l1.length c1, .int .i64 e1] 24)
  have k0 : (w.alloc (.cells #[.bool s1, .slice a1 l1.length c1, .int .i64 e1] 24)).cell? ⟨w.heap.size, 0, none⟩ = some (.bool s1) := by simp
  have k1 : (w.alloc (.cells #[.bool s1, .slice a1 l1.length c1, .int .i64 e1] 24)).cell? ⟨w.heap.size, 1, none⟩ = some (.slice a1 l1.length c1) := by simp
  have k2 : (w.alloc (.cells #[.bool s1, .slice a1 l1.length c1, .int .i64 e1] 24)).cell? ⟨w.heap.size, 2, none⟩ = some (.int .i64 e1) := by simp
  go_wp2_with fail
  refine (shown_any _ (HTAB.out.below hb0)).mono ?_
  rintro r w1 ⟨rfl, hb1⟩
  have b1 := hb0.trans (hb1.mono hb0.size)
  have i0 := cellB k0 hb1
  have i1 := cellB k1 hb1
  have i2 := cellB k2 hb1
  clear hb0 hb1 k0 k1 k2
  go_wp2_with fail
  refine (HN.out _ b1).mono ?_
  rintro r w2 ⟨a2, c2, rfl, ho2, hb2⟩
  have hd := (Below.refl w2.heap.size w2).alloc (Nat.le_refl _) (.cells #[.bool A.p.neg, .slice a2 (dg 1000000000 A.p.m).length c2, .int .i64 A.p.e] 24)
  have hbd := hb2.trans (hd.mono hb2.size)
  have k0 := cellB i0 hbd
  have k1 := cellB i1 hbd
  have k2 := cellB i2 hbd
  have m0 : (w2.alloc (.cells #[.bool A.p.neg, .slice a2 (dg 1000000000 A.p.m).length c2, .int .i64 A.p.e] 24)).cell? ⟨w2.heap.size, 0, none⟩ = some (.bool A.p.neg) := by simp
  have m1 : (w2.alloc (.cells #[.bool A.p.neg, .slice a2 (dg 1000000000 A.p.m).length c2, .int .i64 A.p.e] 24)).cell? ⟨w2.heap.size, 1, none⟩ = some (.slice a2 (dg 1000000000 A.p.m).length c2) := by simp
  have m2 : (w2.alloc (.cells #[.bool A.p.neg, .slice a2 (dg 1000000000 A.p.m).length c2, .int .i64 A.p.e] 24)).cell? ⟨w2.heap.size, 2, none⟩ = some (.int .i64 A.p.e) := by simp
  have b2 := b1.trans (hbd.mono b1.size)
  have r2 := ho2.rd.below hd
  clear hb2 hd hbd b1 ho2 i0 i1 i2
  go_wp2_with fail
  refine (HT.out _ b2).mono ?_
  rintro r w3 ⟨rfl, hb3⟩
  have b3 := b2.trans (hb3.mono b2.size)
  have n0 := cellB m0 hb3
  have n1 := cellB m1 hb3
  have n2 := cellB m2 hb3
  have r3 := r2.below hb3
  clear hb3 b2 r2 m0 m1 m2 k0 k1 k2 HN HT
  by_cases hA : A.err = 0
  · have hAB : ((A.err : Int) == 0) = true := by simp [hA]
    have hAe : wtx A = wtx ⟨0, A.p⟩ := by obtain ⟨er, p⟩ := A; simp only at hA; subst hA; rfl
    rw [hAe]
    clear hAe
    go_wp2_with fail
    refine (HPA.out _ (HTAB.out.below b3)).mono ?_
    rintro r w4 ⟨a4, c4, rfl, ho4, hb4⟩
    have hd := (Below.refl w4.heap.size w4).alloc (Nat.le_refl _) (.cells #[.bool A.p.neg, .slice a4 (dg 1000000000 A.p.m).length c4, .int .i64 A.p.e] 24)
    have hbd := hb4.trans (hd.mono hb4.size)
    have m0 := cellB n0 hbd
    have m1 := cellB n1 hbd
    have m2 := cellB n2 hbd
    have p0 : (w4.alloc (.cells #[.bool A.p.neg, .slice a4 (dg 1000000000 A.p.m).length c4, .int .i64 A.p.e] 24)).cell? ⟨w4.heap.size, 0, none⟩ = some (.bool A.p.neg) := by simp
    have p1 : (w4.alloc (.cells #[.bool A.p.neg, .slice a4 (dg 1000000000 A.p.m).length c4, .int .i64 A.p.e] 24)).cell? ⟨w4.heap.size, 1, none⟩ = some (.slice a4 (dg 1000000000 A.p.m).length c4) := by simp
    have p2 : (w4.alloc (.cells #[.bool A.p.neg, .slice a4 (dg 1000000000 A.p.m).length c4, .int .i64 A.p.e] 24)).cell? ⟨w4.heap.size, 2, none⟩ = some (.int .i64 A.p.e) := by simp
    have b4 := b3.trans (hbd.mono b3.size)
    have r4 := r3.below hbd
    have r5 := ho4.rd.below hd
    clear hb4 hd b3 r3 ho4 n0 n1 n2
    go_wp2_with fail
    refine (HSA.out a2 a4 c2 c4 _ r4 r5).mono ?_
    rintro r w5 ⟨rfl, hb5⟩
    have b5 := b4.trans (hb5.mono b4.size)
    have n0 := cellB m0 hb5
    have n1 := cellB m1 hb5
    have n2 := cellB m2 hb5
    have r6 := r4.below hb5
    clear hb5 b4 r4 r5 m0 m1 m2 p0 p1 p2 hbd
    go_wp2_with fail
    refine (HMA.out a2 c2 _ r6 (HTAB.out.below b5)).mono ?_
    rintro r w6 ⟨rfl, hb6⟩
    have b6 := b5.trans (hb6.mono b5.size)
    clear hb6 b5 r6 n0 n1 n2
    go_wp2_with fail
    refine (HPS.out _ (HTAB.out.below b6)).mono ?_
    rintro r v1 ⟨x0, y0, rfl, hox, hv1⟩
    have c1 := b6.trans (hv1.mono b6.size)
    by_cases hX : X.err = 0
    · have hXB : ((X.err : Int) != 0) = false := by simp [hX]
      have hXC : (⟨0, X.p⟩ : Ans) = ⟨0, X.p⟩ := rfl
      have hvd := (Below.refl v1.heap.size v1).alloc (Nat.le_refl _) (.cells #[.bool X.p.neg, .slice x0 (dg 1000000000 X.p.m).length y0, .int .i64 X.p.e] 24)
      have m0 : (v1.alloc (.cells #[.bool X.p.neg, .slice x0 (dg 1000000000 X.p.m).length y0, .int .i64 X.p.e] 24)).cell? ⟨v1.heap.size, 0, none⟩ = some (.bool X.p.neg) := by simp
      have m1 : (v1.alloc (.cells #[.bool X.p.neg, .slice x0 (dg 1000000000 X.p.m).length y0, .int .i64 X.p.e] 24)).cell? ⟨v1.heap.size, 1, none⟩ = some (.slice x0 (dg 1000000000 X.p.m).length y0) := by simp
      have m2 : (v1.alloc (.cells #[.bool X.p.neg, .slice x0 (dg 1000000000 X.p.m).length y0, .int .i64 X.p.e] 24)).cell? ⟨v1.heap.size, 2, none⟩ = some (.int .i64 X.p.e) := by simp
      have c2 := c1.trans (hvd.mono c1.size)
      have q1 := hox.rd.below hvd
      clear hvd hv1 hox c1 hXC
      go_wp2_with fail
      refine (HTX.out x0 y0 _ q1 (HTAB.out.below c2)).mono ?_
      rintro r v2 ⟨rfl, hv2⟩
      have c3 := c2.trans (hv2.mono c2.size)
      have k0 := cellB m0 hv2
      have k1 := cellB m1 hv2
      have k2 := cellB m2 hv2
      have q2 := q1.below hv2
      clear hv2 c2 q1 m0 m1 m2
      go_wp2_with fail
      refine (HPX.out _ (HTAB.out.below c3)).mono ?_
      rintro r v3 ⟨x1, y1, rfl, hoy, hv3⟩
      have hvd := (Below.refl v3.heap.size v3).alloc (Nat.le_refl _) (.cells #[.bool X.p.neg, .slice x1 (dg 1000000000 X.p.m).length y1, .int .i64 X.p.e] 24)
      have hv4 := hv3.trans (hvd.mono hv3.size)
      have m0 := cellB k0 hv4
      have m1 := cellB k1 hv4
      have m2 := cellB k2 hv4
      have p0 : (v3.alloc (.cells #[.bool X.p.neg, .slice x1 (dg 1000000000 X.p.m).length y1, .int .i64 X.p.e] 24)).cell? ⟨v3.heap.size, 0, none⟩ = some (.bool X.p.neg) := by simp
      have p1 : (v3.alloc (.cells #[.bool X.p.neg, .slice x1 (dg 1000000000 X.p.m).length y1, .int .i64 X.p.e] 24)).cell? ⟨v3.heap.size, 1, none⟩ = some (.slice x1 (dg 1000000000 X.p.m).length y1) := by simp
      have p2 : (v3.alloc (.cells #[.bool X.p.neg, .slice x1 (dg 1000000000 X.p.m).length y1, .int .i64 X.p.e] 24)).cell? ⟨v3.heap.size, 2, none⟩ = some (.int .i64 X.p.e) := by simp
      have c4 := c3.trans (hv4.mono c3.size)
      have q3 := q2.below hv4
      have q4 := hoy.rd.below hvd
      have HQ3 := Lib.hid q3
      clear hv3 hvd c3 q2 hoy k0 k1 k2
      go_wp2_with fail
      refine (HSX.out x0 x1 y0 y1 _ q3 q4).mono ?_
      rintro r v5 ⟨rfl, hv5⟩
      have c5 := c4.trans (hv5.mono c4.size)
      have k0 := cellB m0 hv5
      have k1 := cellB m1 hv5
      have k2 := cellB m2 hv5
      have q5 := q3.below hv5
      clear hv4 q3 q4 m0 m1 m2 p0 p1 p2 hv5 c4 HQ3
      go_wp2_with fail
      refine (HMX.out x0 y0 _ q5 (HTAB.out.below c5)).mono ?_
      rintro r v6 ⟨rfl, hv6⟩
      have c6 := c5.trans (hv6.mono c5.size)
      go_wp2
      go_ret
      exact ⟨rfl, c6⟩
    · have hXB : ((X.err : Int) != 0) = true := by simp [hX]
      have hz := HX0.out hX
      have hl : (((dg 1000000000 X.p.m).length : Int) == 0) = true := by rw [hz]; show (((dg 1000000000 0).length : Int) == 0) = true; rw [dg_zero]; rfl
      clear hz hX hox
      have c2 := c1.alloc c1.size (.cells #[.bool X.p.neg, .slice x0 (dg 1000000000 X.p.m).length y0, .int .i64 X.p.e] 24)
      go_wp2
      go_ret
      exact ⟨rfl, c2⟩
  · have hAB : ((A.err : Int) == 0) = false := by simp [hA]
    clear r3 n0 n1 n2
    go_wp2_with fail
    refine (HPS.out _ (HTAB.out.below b3)).mono ?_
    rintro r v1 ⟨x0, y0, rfl, hox, hv1⟩
    have c1 := b3.trans (hv1.mono b3.size)
    by_cases hX : X.err = 0
    · have hXB : ((X.err : Int) != 0) = false := by simp [hX]
      have hXC : (⟨0, X.p⟩ : Ans) = ⟨0, X.p⟩ := rfl
      have hvd := (Below.refl v1.heap.size v1).alloc (Nat.le_refl _) (.cells #[.bool X.p.neg, .slice x0 (dg 1000000000 X.p.m).length y0, .int .i64 X.p.e] 24)
      have m0 : (v1.alloc (.cells #[.bool X.p.neg, .slice x0 (dg 1000000000 X.p.m).length y0, .int .i64 X.p.e] 24)).cell? ⟨v1.heap.size, 0, none⟩ = some (.bool X.p.neg) := by simp
      have m1 : (v1.alloc (.cells #[.bool X.p.neg, .slice x0 (dg 1000000000 X.p.m).length y0, .int .i64 X.p.e] 24)).cell? ⟨v1.heap.size, 1, none⟩ = some (.slice x0 (dg 1000000000 X.p.m).length y0) := by simp
      have m2 : (v1.alloc (.cells #[.bool X.p.neg, .slice x0 (dg 1000000000 X.p.m).length y0, .int .i64 X.p.e] 24)).cell? ⟨v1.heap.size, 2, none⟩ = some (.int .i64 X.p.e) := by simp
      have c2 := c1.trans (hvd.mono c1.size)
      have q1 := hox.rd.below hvd
      clear hvd hv1 hox c1 hXC
      go_wp2_with fail
      refine (HTX.out x0 y0 _ q1 (HTAB.out.below c2)).mono ?_
      rintro r v2 ⟨rfl, hv2⟩
      have c3 := c2.trans (hv2.mono c2.size)
      have k0 := cellB m0 hv2
      have k1 := cellB m1 hv2
      have k2 := cellB m2 hv2
      have q2 := q1.below hv2
      clear hv2 c2 q1 m0 m1 m2
      go_wp2_with fail
      refine (HPX.out _ (HTAB.out.below c3)).mono ?_
      rintro r v3 ⟨x1, y1, rfl, hoy, hv3⟩
      have hvd := (Below.refl v3.heap.size v3).alloc (Nat.le_refl _) (.cells #[.bool X.p.neg, .slice x1 (dg 1000000000 X.p.m).length y1, .int .i64 X.p.e] 24)
      have hv4 := hv3.trans (hvd.mono hv3.size)
      have m0 := cellB k0 hv4
      have m1 := cellB k1 hv4
      have m2 := cellB k2 hv4
      have p0 : (v3.alloc (.cells #[.bool X.p.neg, .slice x1 (dg 1000000000 X.p.m).length y1, .int .i64 X.p.e] 24)).cell? ⟨v3.heap.size, 0, none⟩ = some (.bool X.p.neg) := by simp
      have p1 : (v3.alloc (.cells #[.bool X.p.neg, .slice x1 (dg 1000000000 X.p.m).length y1, .int .i64 X.p.e] 24)).cell? ⟨v3.heap.size, 1, none⟩ = some (.slice x1 (dg 1000000000 X.p.m).length y1) := by simp
      have p2 : (v3.alloc (.cells #[.bool X.p.neg, .slice x1 (dg 1000000000 X.p.m).length y1, .int .i64 X.p.e] 24)).cell? ⟨v3.heap.size, 2, none⟩ = some (.int .i64 X.p.e) := by simp
      have c4 := c3.trans (hv4.mono c3.size)
      have q3 := q2.below hv4
      have q4 := hoy.rd.below hvd
      have HQ3 := Lib.hid q3
      clear hv3 hvd c3 q2 hoy k0 k1 k2
      go_wp2_with fail
      refine (HSX.out x0 x1 y0 y1 _ q3 q4).mono ?_
      rintro r v5 ⟨rfl, hv5⟩
      have c5 := c4.trans (hv5.mono c4.size)
      have k0 := cellB m0 hv5
      have k1 := cellB m1 hv5
      have k2 := cellB m2 hv5
      have q5 := q3.below hv5
      clear hv4 q3 q4 m0 m1 m2 p0 p1 p2 hv5 c4 HQ3
      go_wp2_with fail
      refine (HMX.out x0 y0 _ q5 (HTAB.out.below c5)).mono ?_
      rintro r v6 ⟨rfl, hv6⟩
      have c6 := c5.trans (hv6.mono c5.size)
      go_wp2
      go_ret
      exact ⟨rfl, c6⟩
    · have hXB : ((X.err : Int) != 0) = true := by simp [hX]
      have hz := HX0.out hX
      have hl : (((dg 1000000000 X.p.m).length : Int) == 0) = true := by rw [hz]; show (((dg 1000000000 0).length : Int) == 0) = true; rw [dg_zero]; rfl
      clear hz hX hox
      have c2 := c1.alloc c1.size (.cells #[.bool X.p.neg, .slice x0 (dg 1000000000 X.p.m).length y0, .int .i64 X.p.e] 24)
      go_wp2
      go_ret
      exact ⟨rfl, c2⟩

theorem back2_walk {s1 : Bool} {a1 : Option Addr} {n1 ca1 : Nat} {e1 : Int} {s : ByteArray} (w : World) (htab : Tab w) (ha : IsRow w a1 n1 ca1) (_ : (Lit.int .i64 e1).wf = true) (hs : s.data.toList.length ≤ reachBytes) :
    Calls Tryd.prog 9 #[.agg #[.bool s1, .slice a1 n1 ca1, .int .i64 e1], .string s] w fun r w' => r = .returned (.bool true) ∧ Below w.heap.size w w' := by
  obtain ⟨l1, rfl, lo1, rd1, hm1⟩ := ha
  unfold maxLen at hm1
  have h1 : s.size ≤ 140737488351232 := by
    have h2 : s.data.toList.length = s.size := by rw [Array.length_toList]; rfl
    rw [h2] at hs
    exact Nat.le_trans hs (by decide)
  exact back2_main s1 a1 ca1 l1 e1 s w (by omega) h1 lo1 rd1 htab
end Go.Proofs.YtofeckdhhaoobaaDoor
