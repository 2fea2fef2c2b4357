/- Walk of the law ValidJoins. -/
import Derived.Test.YtefaieglhllioaaDoorValidDeepers
namespace Go.Proofs.YtefaieglhllioaaDoor
open Go.RowKit UM QM VM

/-- a box of two ints, written -/
theorem set2 {w W : World} {bs : Nat} {x y u v : Int} (z0 : w.cell? ⟨bs, 0, none⟩ = some (.int .i64 x)) (z1 : w.cell? ⟨bs, 1, none⟩ = some (.int .i64 y)) (hf : ∀ j, w.frozen? ⟨bs, j, none⟩ = false) (hW : W = (w.setCell ⟨bs, 0, none⟩ (.int .i64 u)).setCell ⟨bs, 1, none⟩ (.int .i64 v)) :
    W.cell? ⟨bs, 0, none⟩ = some (.int .i64 u) ∧ W.cell? ⟨bs, 1, none⟩ = some (.int .i64 v) ∧ (∀ j, W.frozen? ⟨bs, j, none⟩ = false) ∧ (∀ b o, b ≠ bs → W.cell? ⟨b, o, none⟩ = w.cell? ⟨b, o, none⟩) ∧ (∀ B, B ≤ bs → Below B w W) := by
  subst hW
  refine ⟨?_, ?_, fun j => by simp [go_sem, hf j], fun b o hb => ?_, fun B hB => ((Below.refl B w).setCell hB _).setCell hB _⟩
  · rw [cellsP (by decide)]
    exact World.cell?_setCell_same' _ _ _ (by rw [z0]; rfl)
  · refine World.cell?_setCell_same' _ _ _ ?_
    rw [cellsP (by decide), z1]; rfl
  · rw [World.cell?_setCell_other _ _ _ _ (by intro e; simp at e <;> omega), World.cell?_setCell_other _ _ _ _ (by intro e; simp at e <;> omega)]
set_option maxRecDepth 100000 in
set_option maxHeartbeats 8000000 in
theorem joins_walk {a1 a2 : Option Addr} {cap1 cap2 : Nat} {depth : Int} {l m : List Nat} (w : World) (ht : Sh w) (hl : l.length ≤ 1048576) (hlo : LM.Lo 256 l) (hcp : l.length ≤ cap1) (hr : Rd w .u8 a1 l) (hnil : a1 = none → l.length = 0 ∧ cap1 = 0)
    (hl2 : m.length ≤ 1048576) (hlo2 : LM.Lo 256 m) (hcp2 : m.length ≤ cap2) (hr2 : Rd w .u8 a2 m) (hnil2 : a2 = none → m.length = 0 ∧ cap2 = 0) :
    Calls Tryd.prog 5 #[.slice a1 l.length cap1, .slice a2 m.length cap2, .int .i64 depth] w fun r w' => r = .returned (.bool true) ∧ Below w.heap.size w w' := by
  have HT := Lib.hid ht; have HR := Lib.hid hr; have HLO := Lib.hid hlo; have HR2 := Lib.hid hr2; have HLO2 := Lib.hid hlo2; have HNIL := Lib.hid hnil; have HNIL2 := Lib.hid hnil2
  have HC1 := Lib.hid (fun W (h : Rd W .u8 a1 l) (t : Sh W) => Check_any depth a1 cap1 l W (by omega) hlo h t hcp)
  have HC2 := Lib.hid (fun W (h : Rd W .u8 a2 m) (t : Sh W) => Check_any depth a2 cap2 m W (by omega) hlo2 h t hcp2)
  clear ht hr hlo hr2 hlo2 hnil hnil2
  go_enter Tryd.func5, Tryd.ntmps5
  go_wp2_with fail
  refine (vshown_any _ HT.out).mono ?_
  rintro r w1 ⟨rfl, hb⟩
  have G1 : Hid (Goes w w1) := Lib.hid ⟨hb, HT.out.below hb⟩
  have R1 := Lib.hid (HR.out.below hb)
  have S1 := Lib.hid (HR2.out.below hb)
  clear hb HT HR HR2
  go_wp2_with fail
  refine (HC1.out _ R1.out G1.out.2).mono ?_
  rintro r w2 ⟨sp, j, y, ao, ca, hck, rfl, ho, hb⟩
  have G2 := Lib.hid (G1.out.next hb)
  have R2 := Lib.hid (R1.out.below hb)
  have S2 := Lib.hid (S1.out.below hb)
  have O2 := Lib.hid (OwnV.rdV ho)
  have K := Lib.hid hck
  have hj := (Ck.ge quo_ok hck (Nat.zero_le _)).2
  have hspl := Ck.len hck (Nat.zero_le _)
  clear hb ho hck HC1 G1 R1 S1
  go_upto_region 3 with (fail)
  obtain ⟨hbA, z0, z1⟩ := boxF (w := w2) (x := (j : Int)) (y := (y : Int)) rfl
  have G3 := Lib.hid (G2.out.next hbA)
  have R3 := Lib.hid (R2.out.below hbA)
  have S3 := Lib.hid (S2.out.below hbA)
  have O3 := Lib.hid (O2.out.below hbA)
  have Z3 := Lib.hid z1
  clear hbA G2 R2 S2 O2 z0 z1
  generalize hbx : w2.heap.size = bx at *
  clear hbx
  generalize w2.alloc (.cells #[.int .i64 (j : Int), .int .i64 (y : Int)] 26) = w3 at *
  go_wp2_with fail
  refine (HC2.out _ S3.out G3.out.2).mono ?_
  rintro r w4 ⟨sp2, j2, y2, ao2, ca2, hck2, rfl, ho2, hb⟩
  have G4 := Lib.hid (G3.out.next hb)
  have R4 := Lib.hid (R3.out.below hb)
  have S4 := Lib.hid (S3.out.below hb)
  have O4 := Lib.hid (O3.out.below hb)
  have P4 := Lib.hid (OwnV.rdV ho2)
  have K2 := Lib.hid hck2
  have hj2 := (Ck.ge quo_ok hck2 (Nat.zero_le _)).2
  have hspl2 := Ck.len hck2 (Nat.zero_le _)
  have SP := Lib.hid (Ck.spans quo_law hck2 (Nat.zero_le _))
  have Z4 := Lib.hid (cellP hb Z3.out)
  clear hb ho2 hck2 HC2 G3 R3 S3 O3 Z3
  go_upto_region 4 with (fail)
  obtain ⟨hbA, y0, y1⟩ := boxF (w := w4) (x := (j2 : Int)) (y := (y2 : Int)) rfl
  have G5 := Lib.hid (G4.out.next hbA)
  have R5 := Lib.hid (R4.out.below hbA)
  have S5 := Lib.hid (S4.out.below hbA)
  have O5 := Lib.hid (O4.out.below hbA)
  have P5 := Lib.hid (P4.out.below hbA)
  have z1 := cellP hbA Z4.out
  clear hbA G4 R4 S4 O4 P4 Z4
  generalize hbx : w4.heap.size = bx2 at *
  clear hbx
  generalize w4.alloc (.cells #[.int .i64 (j2 : Int), .int .i64 (y2 : Int)] 26) = w5 at *
  by_cases hy : y = 0
  · have q0 : ((y : Int) != 0) = false := by rw [bne_eq_false_iff_eq]; omega
    have hck3 := Ck.join quo_law K.out K2.out (Nat.zero_le _) hy
    have hLL : l ++ 32 :: m = (([] ++ l) ++ [32]) ++ m := by simp
    rw [hLL] at hck3
    have HLEN : Hid (((([] ++ l) ++ [32]) ++ m).length = l.length + 1 + m.length) := Lib.hid (by simp; omega)
    have HLOb : Hid (LM.Lo 256 ((([] ++ l) ++ [32]) ++ m)) := Lib.hid (lo_appV (lo_appV (lo_appV (fun x h => by cases h) HLO.out) (fun x h => by simp at h; omega)) HLO2.out)
    have HC3 := Lib.hid (fun a3 c3 W (h : Rd W .u8 a3 ((([] ++ l) ++ [32]) ++ m)) (t : Sh W) (hc : ((([] ++ l) ++ [32]) ++ m).length ≤ c3) => Check_at (depth := depth) (a := a3) (cap := c3) (n := l.length + 1 + m.length) hck3 HLEN.out.symm (by rw [HLEN.out]; omega) HLOb.out h t hc)
    have HS3 : Hid ((sp ++ sp2.map (shp (l.length + 1))).length = sp.length + sp2.length) := Lib.hid (by simp)
    have HE3 : Hid (((l.length + 1 + j2 : Nat) : Int) = (j2 : Int) + (l.length : Int) + 1) := Lib.hid (by omega)
    clear hck3 hLL hy K K2 HLO HLO2 HLOb
    have b1 := hl; have b2 := hl2
    go_upto_region 6 with (fail)
    have O0 : Hid (Own (w5.alloc (.cells #[] 5)) w5.heap.size 5 .u8 (some ⟨w5.heap.size, 0, none⟩) 0 []) := Lib.hid (World.ownsRow_lit w5 #[] 0 (Nat.le_refl _) (by decide) rfl)
    have B0 : Below w5.heap.size w5 (w5.alloc (.cells #[] 5)) := (Below.refl _ _).alloc (Nat.le_refl _) _
    have RA := Lib.hid (R5.out.below B0)
    have BA := Lib.hid B0
    have L1 : Hid (([] ++ l).length = l.length) := Lib.hid (by simp)
    have L2 : Hid ((([] ++ l) ++ [32]).length = l.length + 1) := Lib.hid (by simp)
    clear B0
    go_upto_region 7 with (first | (at_builtin; refine wp_ownarg w9 rfl _ _ 22 rfl w5.heap.size 5 Tryd.underlying22 infoU8 a8 c8 _ (([] ++ l) ++ [32]) L2.out.symm rfl O9.out HB9.out.size a2 _ cap2 m rfl rfl (S5.out.below HB9.out) HNIL2.out (by rw [L2.out]; omega) ?_; intro aX cX wX h1 h2; have HBX : Hid (Below w5.heap.size w5 wX) := Lib.hid (HB9.out.trans h2); have OX : Hid (Own wX w5.heap.size 5 .u8 aX cX ((([] ++ l) ++ [32]) ++ m)) := Lib.hid h1; rw [HLEN.out]; clear h1 h2 HB9 O9) | (at_builtin; refine wp_push w7 rfl _ _ 22 rfl w5.heap.size 5 .u8 1 Tryd.underlying22 infoU8 a7 c7 _ ([] ++ l) L1.out.symm rfl 32 32 rfl _ rfl O7.out (by rw [L1.out]; omega) (by rw [L1.out]; unfold maxLen; omega) HB7.out.size ?_; intro a8 c8 w9 h1 h2; have HB9 : Hid (Below w5.heap.size w5 w9) := Lib.hid (HB7.out.trans h2); have O9 : Hid (Own w9 w5.heap.size 5 .u8 a8 c8 (([] ++ l) ++ [32])) := Lib.hid h1; clear h1 h2 HB7 O7) | (at_builtin; refine wp_ownarg (w5.alloc (.cells #[] 5)) rfl _ _ 22 rfl w5.heap.size 5 Tryd.underlying22 infoU8 _ 0 _ [] rfl rfl O0.out (by simp) a1 _ cap1 l rfl rfl RA.out HNIL.out (by simp; omega) ?_; intro a7 c7 w7 h1 h2; have HB7 : Hid (Below w5.heap.size w5 w7) := Lib.hid (BA.out.trans (h2.mono (Nat.le_refl _))); have O7 : Hid (Own w7 w5.heap.size 5 .u8 a7 c7 ([] ++ l)) := Lib.hid h1; rw [L1.out]; clear h1 h2))
    have GX := Lib.hid (G5.out.next HBX.out)
    have HOC : Hid (Calls Tryd.prog 8 #[.slice aX (l.length + 1 + m.length) cX, .int .i64 depth] wX (ResCs (sp ++ sp2.map (shp (l.length + 1))) (l.length + 1 + j2) y2 wX)) := Lib.hid (HC3.out aX cX wX OX.out.rd GX.out.2 OX.out.cap.1)
    unfold ResCs at HOC
    rw [HS3.out, HE3.out] at HOC
    have OX1 := Lib.hid (O5.out.below HBX.out)
    have PX1 := Lib.hid (P5.out.below HBX.out)
    have x0 := cellP HBX.out y0
    have x1 := cellP HBX.out y1
    clear HC3 G5 R5 S5 O5 P5 y0 y1 z1 HBX OX RA BA O0 L1 L2 HLEN HE3 HNIL HNIL2
    go_wp2_with fail
    refine HOC.out.mono ?_
    rintro r w6 ⟨ao3, ca3, rfl, ho3, hb⟩
    have G6 := Lib.hid (GX.out.next hb)
    have O6 := Lib.hid (OX1.out.below hb)
    have P6 := Lib.hid (PX1.out.below hb)
    have Q6 := Lib.hid (OwnV.rdV ho3)
    have X6 := Lib.hid (show _ ∧ _ from ⟨cellP hb x0, cellP hb x1⟩)
    clear hb ho3 HOC GX OX1 PX1 x0 x1
    go_upto_region 8 with (fail)
    obtain ⟨hbA, v0, v1⟩ := boxF (w := w6) (x := (j2 : Int) + (l.length : Int) + 1) (y := (y2 : Int)) rfl
    have GB := Lib.hid (G6.out.next hbA)
    have OB := Lib.hid (O6.out.below hbA)
    have PB := Lib.hid (P6.out.below hbA)
    have QB := Lib.hid (Q6.out.below hbA)
    have x0 := cellP hbA X6.out.1
    have x1 := cellP hbA X6.out.2
    clear hbA G6 O6 P6 Q6 X6
    generalize hbx : w6.heap.size = bx3 at *
    clear hbx
    generalize w6.alloc (.cells #[.int .i64 ((j2 : Int) + (l.length : Int) + 1), .int .i64 (y2 : Int)] 26) = wB at *
    have hsum : Hid ((sp.length + sp2.length : Nat) = sp.length + sp2.length) := Lib.hid rfl
    go_wp2_with fail
    clear x0 x1 v0 v1
    go_loopw [15] (fun s15 wr => ∃ i : Nat, i ≤ sp.length + sp2.length ∧ s15 = .int .i64 i ∧ Hid (Below wB.heap.size wB wr)) (fun s15 _ => sp.length + sp2.length - (intOf s15).toNat)
    case atStart => exact ⟨0, Nat.zero_le _, rfl, Lib.hid (Below.refl _ _)⟩
    case round =>
      obtain ⟨i, hi, rfl, HB⟩ := hrel
      by_cases hlt : i < sp.length + sp2.length
      · have hlt' : (i : Int) < (sp.length : Int) + (sp2.length : Int) := by omega
        by_cases hc : i < sp.length
        · have hp := List.getElem?_eq_getElem hc
          generalize sp[i] = p at *
          obtain ⟨b1', o1, rfl, a0, a1'⟩ := RdV.span (OB.out.below HB.out) hp
          have hp3 : (sp ++ sp2.map (shp (l.length + 1)))[i]? = some p := by rw [List.getElem?_append_left hc]; exact hp
          obtain ⟨b3, o3, rfl, c0, c1⟩ := RdV.span (QB.out.below HB.out) hp3
          obtain ⟨pa, pb⟩ := p
          simp only at a0 a1' c0 c1
          have hc' : (i : Int) < (sp.length : Int) := by omega
          clear hp hp3
          go_upto_region 15 with (fail)
          obtain ⟨hbA, e0, e1⟩ := boxS (w := wr) (x := 0) (y := 0) rfl
          have ef : ∀ j, (wr.alloc (.cells #[.int .i64 0, .int .i64 0] 31)).frozen? ⟨wr.heap.size, j, none⟩ = false := fun j => by simp
          have d0 := cellP hbA c0
          have d1 := cellP hbA c1
          have f0 := cellP hbA a0
          have f1 := cellP hbA a1'
          have HB2 := Lib.hid (HB.out.trans (hbA.mono HB.out.size))
          have hbs : wB.heap.size ≤ wr.heap.size := HB.out.size
          have n3 : b3 ≠ wr.heap.size := by have := lt_of_cell c0; simp only at this; omega
          have n1 : b1' ≠ wr.heap.size := by have := lt_of_cell a0; simp only at this; omega
          clear hbA c0 c1 a0 a1' HB
          generalize hbx : wr.heap.size = bs at *
          clear hbx
          generalize wr.alloc (.cells #[.int .i64 0, .int .i64 0] 31) = w7 at *
          go_upto_region 19 with (fail)
          obtain ⟨g0, g1, gf, go, gb⟩ := set2 (u := (pa : Int)) (v := (pb : Int)) e0 e1 ef rfl
          have h0 := (go b3 _ n3).trans d0
          have h1 := (go b3 _ n3).trans d1
          have HB3 := Lib.hid (HB2.out.trans (gb _ hbs))
          clear go gb d0 d1 f0 f1 e0 e1 HB2
          generalize (w7.setCell ⟨bs, 0, none⟩ (.int .i64 (pa : Int))).setCell ⟨bs, 1, none⟩ (.int .i64 (pb : Int)) = w8 at *
          have n3' : ¬ b3 = bs := n3
          have n3'' : ¬ bs = b3 := fun e => n3 e.symm
          clear n3 n1 ef
          go_wp2_with fail
          go_quiet (fail)
          go_wp2
          go_roundw
          case rel => exact ⟨i + 1, by omega, by go_num, Lib.hid (bdN HB3.out _)⟩
          case measure => simp [intOf]; omega
        · have hk : i - sp.length < sp2.length := by omega
          have hp := List.getElem?_eq_getElem hk
          generalize sp2[i - sp.length] = p at *
          obtain ⟨b1', o1, rfl, a0, a1'⟩ := RdV.span (PB.out.below HB.out) hp
          have hp3 : (sp ++ sp2.map (shp (l.length + 1)))[i]? = some (shp (l.length + 1) p) := by rw [List.getElem?_append_right (by omega), List.getElem?_map, hp]; rfl
          obtain ⟨b3, o3, rfl, c0, c1⟩ := RdV.span (QB.out.below HB.out) hp3
          obtain ⟨pa, pb⟩ := p
          have hq : pa ≤ m.length ∧ pb ≤ m.length := by
            have := (SP.out.1 _ _ hp).2.2.1
            have := (SP.out.1 _ _ hp).2.1
            simp only at *
            omega
          simp only [shp] at a0 a1' c0 c1
          rw [show ((l.length + 1 + pa : Nat) : Int) = (pa : Int) + (l.length : Int) + 1 by omega] at c0
          rw [show ((l.length + 1 + pb : Nat) : Int) = (pb : Int) + (l.length : Int) + 1 by omega] at c1
          obtain ⟨k, hkk⟩ : ∃ k, i - sp.length = k := ⟨_, rfl⟩
          rw [hkk] at a0 a1' hk
          have hki : (i : Int) - (sp.length : Int) = (k : Int) := by omega
          have hk' : (k : Int) < (sp2.length : Int) := by omega
          have hc' : ¬ (i : Int) < (sp.length : Int) := by omega
          clear hp hp3 hkk
          go_upto_region 16 with (fail)
          obtain ⟨hbA, e0, e1⟩ := boxS (w := wr) (x := 0) (y := 0) rfl
          have ef : ∀ j, (wr.alloc (.cells #[.int .i64 0, .int .i64 0] 31)).frozen? ⟨wr.heap.size, j, none⟩ = false := fun j => by simp
          have d0 := cellP hbA c0
          have d1 := cellP hbA c1
          have f0 := cellP hbA a0
          have f1 := cellP hbA a1'
          have HB2 := Lib.hid (HB.out.trans (hbA.mono HB.out.size))
          have hbs : wB.heap.size ≤ wr.heap.size := HB.out.size
          have n3 : b3 ≠ wr.heap.size := by have := lt_of_cell c0; simp only at this; omega
          have n1 : b1' ≠ wr.heap.size := by have := lt_of_cell a0; simp only at this; omega
          clear hbA c0 c1 a0 a1' HB
          generalize hbx : wr.heap.size = bs at *
          clear hbx
          generalize wr.alloc (.cells #[.int .i64 0, .int .i64 0] 31) = w7 at *
          go_upto_region 17 with (fail)
          obtain ⟨g0, g1, gf, go, gb⟩ := set2 (u := (pa : Int)) (v := (pb : Int)) e0 e1 ef rfl
          have h0' := (go b3 _ n3).trans d0
          have h1' := (go b3 _ n3).trans d1
          have HB4 := Lib.hid (HB2.out.trans (gb _ hbs))
          clear go gb d0 d1 f0 f1 e0 e1 HB2 ef hki
          generalize (w7.setCell ⟨bs, 0, none⟩ (.int .i64 (pa : Int))).setCell ⟨bs, 1, none⟩ (.int .i64 (pb : Int)) = w8 at *
          go_upto_region 19 with (fail)
          obtain ⟨g2, g3, ef, go, gb⟩ := set2 (u := (pa : Int) + (l.length : Int) + 1) (v := (pb : Int) + (l.length : Int) + 1) g0 g1 gf rfl
          have h0 := (go b3 _ n3).trans h0'
          have h1 := (go b3 _ n3).trans h1'
          have HB3 := Lib.hid (HB4.out.trans (gb _ hbs))
          clear go gb g0 g1 gf h0' h1' HB4
          generalize (w8.setCell ⟨bs, 0, none⟩ (.int .i64 ((pa : Int) + (l.length : Int) + 1))).setCell ⟨bs, 1, none⟩ (.int .i64 ((pb : Int) + (l.length : Int) + 1)) = w9' at *
          have n3' : ¬ b3 = bs := n3
          have n3'' : ¬ bs = b3 := fun e => n3 e.symm
          clear n3 n1 ef
          go_wp2_with fail
          go_quiet (fail)
          go_wp2
          go_roundw
          case rel => exact ⟨i + 1, by omega, by go_num, Lib.hid (bdN HB3.out _)⟩
          case measure => simp [intOf]; omega
      · have hge : ¬ (i : Int) < (sp.length : Int) + (sp2.length : Int) := by omega
        go_wp2
        go_ret
        exact ⟨rfl, (GB.out.1.trans (HB.out.mono GB.out.1.size))⟩
  · have q0 : ((y : Int) != 0) = true := by rw [bne_iff_ne]; omega
    clear hy K K2
    go_wp2
    go_ret
    exact ⟨rfl, G5.out.1⟩
theorem joins_row {a a2 : Option Addr} {len len2 cap cap2 : Nat} {x : Int} (w : World) (ht : Sh w) (hb : IsBytes w a len cap) (hl : len ≤ 1048576) (hb2 : IsBytes w a2 len2 cap2) (hl2 : len2 ≤ 1048576) (_ : (Lit.int .i64 x).wf = true) : Calls Tryd.prog 5 #[.slice a len cap, .slice a2 len2 cap2, .int .i64 x] w fun r w' => r = .returned (.bool true) ∧ Below w.heap.size w w' := by
  obtain ⟨l, rfl, h2, h3, h4, h5⟩ := hb
  obtain ⟨l2, rfl, g2, g3, g4, g5⟩ := hb2
  exact joins_walk w ht hl h3 h4 h2 h5 hl2 g3 g4 g2 g5
end Go.Proofs.YtefaieglhllioaaDoor
