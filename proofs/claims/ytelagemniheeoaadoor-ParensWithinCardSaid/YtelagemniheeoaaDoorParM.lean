/- parens: blockLevel walked. -/
import Derived.Test.YtelagemniheeoaaDoorParL
import Derived.StillTailTactics
namespace Go.Proofs.YtelagemniheeoaaDoor
open Go.RowKit BM

theorem by_three {d : Nat} (hd : 1 ≤ d) : by_ d = 3 := by
  unfold by_
  rw [if_neg]
  omega
theorem cn_up {n d : Nat} (hd : 1 ≤ d) : cn n (d + 1) = (cn n d - 1) / 8 + 1 := by
  unfold cn
  rw [sh_up, by_three hd, Nat.mul_comm, ← Nat.div_div_eq_div_mul, Nat.add_sub_cancel]
theorem by3 {d : Nat} (hd : 1 ≤ d) : 2 ^ by_ d = 8 := by rw [by_three hd]
theorem up_lo {d i : Nat} (hd : 1 ≤ d) : lo (d + 1) (i / 8) ≤ lo d i := by
  rw [← lo_up, by3 hd]; exact lo_mono d (by omega)
theorem up_hi {n d i : Nat} (hd : 1 ≤ d) : hi_ n d i ≤ hi_ n (d + 1) (i / 8) := by
  rw [hi_eq, hi_eq, ← lo_succ, ← lo_succ, ← lo_up d, by3 hd]
  have := lo_mono d (show i + 1 ≤ (i / 8 + 1) * 8 by omega)
  omega
set_option maxRecDepth 100000 in
set_option maxHeartbeats 4000000 in
theorem blockLevel_any (v : VD) (d : Nat) (L : LV) (w : World) (hd : 1 ≤ d) (hn : v.n ≤ 1125899906842624) (hL : LVR w L) (hok : L.ok v.f v.n d) : Calls Tryd.prog 48 #[L.v] w (ResLev v (d + 1) w) := by
  have HLR := Lib.hid (fun W (hb : Below w.heap.size w W) => hL.below hb)
  obtain ⟨o1, o2, o3⟩ := hok
  have HO3 := Lib.hid o3
  have hCup := cn_up (n := v.n) hd
  have hCb : cn v.n (d + 1) ≤ 17592186044417 := by
    unfold cn
    have h1 : 64 ≤ 2 ^ sh (d + 1) := by
      rw [sh_up, by3 hd]
      have h2 : 2 ^ sh d ≥ 8 := by
        obtain ⟨e, rfl⟩ : ∃ e, d = e + 1 := ⟨d - 1, by omega⟩
        rw [sh_up]
        rcases by_two e with h | h <;> rw [h] <;> have := sh_pos e <;> omega
      omega
    have h3 := Nat.div_le_div_left (a := v.n) h1 (by omega)
    generalize v.n / 2 ^ sh (d + 1) = u at *
    omega
  have hEb : cn v.n d ≤ 1125899906842625 := Nat.le_trans (Nat.succ_le_succ (Nat.div_le_self v.n (2 ^ sh d))) (by omega)
  have hE1 : 1 ≤ cn v.n d := Nat.succ_le_succ (Nat.zero_le _)
  have HCOV0 := Lib.hid (Cov.start (ex v.f) v.n (d + 1))
  rw [show v.n / 2 ^ sh (d + 1) + 1 = cn v.n (d + 1) from rfl] at HCOV0
  obtain ⟨C, hCe⟩ : ∃ C, cn v.n (d + 1) = C := ⟨_, rfl⟩
  obtain ⟨E, hEe⟩ : ∃ E, cn v.n d = E := ⟨_, rfl⟩
  have HCE := Lib.hid hCe; have HEE := Lib.hid hEe
  rw [hEe] at o1 o2 hCup hEb hE1
  rw [hCe] at hCup hCb HCOV0
  unfold LV.v
  rw [o1, o2]
  obtain ⟨l0, hl0⟩ := cn_get o1 (show 0 < E by omega)
  obtain ⟨xb, xo, hla, -⟩ := hL.1 _ _ (iv8_get hl0)
  rw [hla]
  have HLA := Lib.hid hla
  clear hl0 hla
  have HO1 := Lib.hid o1; have HO2 := Lib.hid o2
  have HCUP := Lib.hid hCup
  have hcv : ((E : Int) - 1) / 8 + 1 = C := by omega
  clear hCe hEe o1 o2 o3 hCup hL
  obtain ⟨Z, hZ⟩ : ∃ Z, madeCells #[Value.int .i64 0] C = Z := ⟨_, rfl⟩
  have hmk := fun w => run_make_row' (P := Tryd.prog) 40 3 (.int .i64 0) 8 Tryd.underlying40 infoI rfl .i64 .i64 C (by omega) (by omega) w
  rw [hZ] at hmk
  have HZ := Lib.hid hZ
  clear hZ
  have hs1 : (w.alloc (.cells #[.slice (some ⟨xb, xo, none⟩) E L.lc, .slice L.ma E L.mc] 55)).heap.size = w.heap.size + 1 := by simp
  have p0 : (w.alloc (.cells #[.slice (some ⟨xb, xo, none⟩) E L.lc, .slice L.ma E L.mc] 55)).cell? ⟨w.heap.size, 0, none⟩ = some (.slice (some ⟨xb, xo, none⟩) E L.lc) := by simp
  have p1 : (w.alloc (.cells #[.slice (some ⟨xb, xo, none⟩) E L.lc, .slice L.ma E L.mc] 55)).cell? ⟨w.heap.size, 1, none⟩ = some (.slice L.ma E L.mc) := by simp
  have bA := (Below.refl w.heap.size w).alloc (Nat.le_refl _) (.cells #[.slice (some ⟨xb, xo, none⟩) E L.lc, .slice L.ma E L.mc] 55)
  go_enter Tryd.func48, Tryd.ntmps48
  go_upto_region 2 with (fail)
  generalize w.alloc (.cells #[.slice (some ⟨xb, xo, none⟩) E L.lc, .slice L.ma E L.mc] 55) = wa at *
  have bB := (Below.refl wa.heap.size wa).alloc (Nat.le_refl _) (.cells #[.slice none 0 0, .slice none 0 0] 55)
  have HRB : Hid (RBx (wa.alloc (.cells #[.slice none 0 0, .slice none 0 0] 55)) (w.heap.size + 1)) := Lib.hid ⟨⟨.slice none 0 0, .slice none 0 0, by rw [← hs1]; simp, by rw [← hs1]; simp⟩, fun j => by rw [← hs1]; simp⟩
  have HSZ : Hid ((wa.alloc (.cells #[.slice none 0 0, .slice none 0 0] 55)).heap.size = w.heap.size + 1 + 1) := Lib.hid (by simp [hs1])
  replace p0 := cellP bB p0
  replace p1 := cellP bB p1
  have HB1 := Lib.hid (bA.trans (bB.mono bA.size))
  generalize wa.alloc (.cells #[.slice none 0 0, .slice none 0 0] 55) = w1 at *
  have HP0 := Lib.hid p0; have HP1 := Lib.hid p1
  clear p0 p1 bA bB hs1
  have HM3 := Lib.hid (m3_all w1 Z C HZ.out hCb 55 w1.heap.size rfl)
  go_cut [4] (fun s wx => M3 w1 C s wx)
  case first =>
    go_region
    all_goals go_wp2_with fail
    all_goals go_meet
    all_goals first
      | with_reducible exact HM3.out.1
      | with_reducible exact HM3.out.2.1
      | with_reducible exact HM3.out.2.2.1
      | with_reducible exact HM3.out.2.2.2.1
      | with_reducible exact HM3.out.2.2.2.2.1
      | with_reducible exact HM3.out.2.2.2.2.2
  case rest =>
    obtain ⟨q, g1, g2, rfl, hR, hB, hq1, hq2, hqs, hbc⟩ := hcut
    have RR := Lib.hid hR; have BB := Lib.hid hB; have HBC := Lib.hid hbc
    clear hR hB hbc hmk HM3 hcv
    have X0 : Hid (RBx wc (w.heap.size + 1)) := Lib.hid (RBx.below HRB.out HBC.out (by rw [HSZ.out]; exact Nat.lt_succ_self _))
    have BL0 : Hid (Below w.heap.size w wc) := Lib.hid (HB1.out.trans (HBC.out.mono (by rw [HSZ.out]; omega)))
    have P0 : Hid (wc.cell? ⟨w.heap.size, 0, none⟩ = some (.slice (some ⟨xb, xo, none⟩) E L.lc) ∧ wc.cell? ⟨w.heap.size, 1, none⟩ = some (.slice L.ma E L.mc)) := Lib.hid ⟨cellP HBC.out HP0.out, cellP HBC.out HP1.out⟩
    have C0 : Hid (Cov (ex v.f) v.n (d + 1) (List.replicate C 0) (List.replicate C 0) (min (v.n + 1) (lo d 0))) := Lib.hid (by have := HCOV0.out; rw [show min (v.n + 1) (lo d 0) = 0 by unfold lo; simp]; exact this)
    have hp0 := P0.out.1
    go_wp2_with fail
    clear hp0
    go_loopw [5, 6, 21] (fun _ _ s21 wr => ∃ (i : Nat) (ls : List Int) (ms : List Nat), i ≤ E ∧ s21 = .int .i64 i ∧ Hid (RW wr w1.heap.size g1 g2 C ls ms) ∧ Hid (Cov (ex v.f) v.n (d + 1) ls ms (min (v.n + 1) (lo d i))) ∧ Hid (LB wr q g1 g2 C) ∧ Hid (Below w.heap.size w wr) ∧ Hid (RBx wr (w.heap.size + 1)) ∧ Hid (wr.cell? ⟨w.heap.size, 0, none⟩ = some (.slice (some ⟨xb, xo, none⟩) E L.lc) ∧ wr.cell? ⟨w.heap.size, 1, none⟩ = some (.slice L.ma E L.mc))) (fun _ _ s21 _ => E - (intOf s21).toNat)
    case atStart => exact ⟨0, _, _, by omega, rfl, RR, C0, BB, BL0, X0, P0⟩
    case round =>
      obtain ⟨i, ls, ms, hi, rfl, R1, COV, B1, BL1, X1, P1⟩ := hrel
      by_cases hlt : i < E
      · have hz1 := BL1.out.size
        obtain ⟨hr1, hr2⟩ := HLR.out wr BL1.out
        obtain ⟨li, hli⟩ := cn_get HO1.out hlt
        obtain ⟨mi, hmi⟩ := cn_get HO2.out hlt
        have hag := HO3.out i li mi hli hmi
        have hbd := agg_bd hag
        obtain ⟨xb', xo', hxa, hxc⟩ := hr1 _ _ (iv8_get hli)
        rw [HLA.out] at hxa
        simp only [Option.some.injEq, Addr.mk.injEq, and_true] at hxa
        obtain ⟨rfl, rfl⟩ := hxa
        obtain ⟨yb, yo, hya, hyc⟩ := hr2 _ _ (nv8_get hmi)
        have hEE := HEE.out
        have hln : lo d i ≤ v.n := lo_cn.2 (by rw [show v.n / 2 ^ sh d + 1 = E from hEE]; exact hlt)
        have hCi : i / 8 < C := by have := HCUP.out; omega
        obtain ⟨l, hl⟩ := cn_get COV.out.1 (show i / 8 < v.n / 2 ^ sh (d + 1) + 1 by rw [show v.n / 2 ^ sh (d + 1) + 1 = C from HCE.out]; exact hCi)
        obtain ⟨m, hm⟩ := cn_get COV.out.2.1 (show i / 8 < v.n / 2 ^ sh (d + 1) + 1 by rw [show v.n / 2 ^ sh (d + 1) + 1 = C from HCE.out]; exact hCi)
        have hcov := COV.out
        rw [show min (v.n + 1) (lo d i) = lo d i by omega] at hcov
        have hhe := hi_eq v.n d i
        have hls := lo_succ d i
        have hsp := sh_pos d
        have hul := up_lo (d := d) (i := i) hd
        have huh := up_hi (n := v.n) (d := d) (i := i) hd
        have hmb : m ≤ v.n + 1 := by
          rcases Nat.eq_or_lt_of_le hul with e | e
          · have := (hcov.2.2 (i / 8) l m hl hm).2 (by omega); omega
          · have h5 := (hcov.2.2 (i / 8) l m hl hm).1 e
            have h6 := h5.2.1
            have h7 := cnt_len (ex v.f) l (List.range' (lo (d + 1) (i / 8)) (min (hi_ v.n (d + 1) (i / 8)) (lo d i) - lo (d + 1) (i / 8)))
            rw [← h6, List.length_range'] at h7
            omega
        have COV2 : Hid (Cov (ex v.f) v.n (d + 1) (ls.set (i / 8) (adP l m li mi).1) (ms.set (i / 8) (adP l m li mi).2) (min (v.n + 1) (lo d (i + 1)))) := Lib.hid (by
          have := hcov.step (p' := hi_ v.n d i) hl hm hul (by omega) huh hag
          rw [show min (v.n + 1) (lo d (i + 1)) = hi_ v.n d i by omega]
          exact this)
        have HADD := Lib.hid (fun W hR => add_any w1.heap.size g1 g2 C (i / 8) mi m li l ls ms W hR hCi hl hm (by omega) (by omega))
        obtain ⟨y0, y1⟩ := B1.out
        obtain ⟨p0, p1⟩ := P1.out
        rw [hya] at p1
        have hd8 : ((i : Int) / 8) = ((i / 8 : Nat) : Int) := by omega
        obtain ⟨j, hj⟩ : ∃ j, i / 8 = j := ⟨_, rfl⟩
        rw [hj] at HADD COV2 hd8
        clear hcov hli hmi hag hya hl hm hul huh hhe hls hsp hEE hCi hj hmb
        go_wp2_with fail
        go_still_tail 9, (by kernel_rfl)
        change wpList _ _ _ _ _ wr.drew
        have R2 : Hid (RW wr.drew w1.heap.size g1 g2 C ls ms) := Lib.hid R1.out.drew
        have B2 : Hid (LB wr.drew q g1 g2 C) := B1
        have X2 : Hid (RBx wr.drew (w.heap.size + 1)) := X1
        have P2 : Hid (wr.drew.cell? ⟨w.heap.size, 0, none⟩ = some (.slice (some ⟨xb, xo, none⟩) E L.lc) ∧ wr.drew.cell? ⟨w.heap.size, 1, none⟩ = some (.slice L.ma E L.mc)) := P1
        have BL2 : Hid (Below w.heap.size w wr.drew) := Lib.hid BL1.out.drew
        clear y0 y1 p0 p1 hxc hyc R1 B1 X1 P1 BL1 hd8
        have hz2 := BL2.out.size
        generalize wr.drew = w2 at *
        go_wp2_with fail
        refine (HADD.out w2 R2.out).mono ?_
        rintro r3 w3 ⟨rfl, hR3, hT3⟩
        have hsz := HSZ.out
        have hb1 := hR3.b1
        have hb2 := hR3.b2
        have hp0 := P2.out.1
        have hp1 := P2.out.2
        have hlt0 : w.heap.size < w2.heap.size := lt_of_cell hp0
        have R3 := Lib.hid hR3
        have B3 := Lib.hid (B2.out.tw hT3 hq1 hq2)
        have X3 := Lib.hid (X2.out.tw hT3 (by omega) (by omega))
        have BL3 := Lib.hid (BL2.out.trans (hT3.below w.heap.size (by omega) (by omega) hz2))
        have P3 : Hid (w3.cell? ⟨w.heap.size, 0, none⟩ = some (.slice (some ⟨xb, xo, none⟩) E L.lc) ∧ w3.cell? ⟨w.heap.size, 1, none⟩ = some (.slice L.ma E L.mc)) := Lib.hid ⟨by rw [hT3.cell hlt0 (by show w.heap.size ≠ g1; omega) (by show w.heap.size ≠ g2; omega)]; exact hp0, by rw [hT3.cell hlt0 (by show w.heap.size ≠ g1; omega) (by show w.heap.size ≠ g2; omega)]; exact hp1⟩
        clear hR3 hT3 HADD hsz hb1 hb2 hp0 hp1 R2 B2 X2 BL2 P2
        go_wp2
        go_roundw
        case rel => exact ⟨i + 1, _, _, by omega, by go_num, R3, COV2, B3, BL3, X3, P3⟩
        case measure => simp [intOf]; omega
      · obtain rfl : i = E := by omega
        have COVE : Hid (Cov (ex v.f) v.n (d + 1) ls ms (v.n + 1)) := Lib.hid (by
          have h := COV.out
          have hE := HEE.out
          have h2 : ¬ lo d i ≤ v.n := by rw [lo_cn]; rw [show v.n / 2 ^ sh d + 1 = i from hE]; omega
          rw [show min (v.n + 1) (lo d i) = v.n + 1 by omega] at h
          exact h)
        obtain ⟨y0, y1⟩ := B1.out
        obtain ⟨⟨u0, u1, z0, z1⟩, zf⟩ := X1.out
        have zf0 := zf 0
        have zf1 := zf 1
        go_wp2
        have hsz := HSZ.out
        have f0 : ((wr.setCell ⟨w.heap.size + 1, 0, none⟩ (.slice (some ⟨g1, 0, none⟩) C C)).setCell ⟨w.heap.size + 1, 1, none⟩ (.slice (some ⟨g2, 0, none⟩) C C)).cell? ⟨w.heap.size + 1, 0, none⟩ = some (.slice (some ⟨g1, 0, none⟩) C C) := by simp [World.cell?_setCell_other, World.cell?_setCell_same, z0]
        have f1 : ((wr.setCell ⟨w.heap.size + 1, 0, none⟩ (.slice (some ⟨g1, 0, none⟩) C C)).setCell ⟨w.heap.size + 1, 1, none⟩ (.slice (some ⟨g2, 0, none⟩) C C)).cell? ⟨w.heap.size + 1, 1, none⟩ = some (.slice (some ⟨g2, 0, none⟩) C C) := by simp [World.cell?_setCell_other, World.cell?_setCell_same, z1]
        refine bodyPost_ret (v := .agg #[.slice (some ⟨g1, 0, none⟩) C C, .slice (some ⟨g2, 0, none⟩) C C]) (by simp [results, Tryd.results48, go_sem, f0, f1]) rfl ?_
        have hb1 := R1.out.b1
        have hb2 := R1.out.b2
        have hne := R1.out.ne
        refine ⟨g1, g2, ls, ms, by rw [HCE.out], ?_, COVE.out, ((BL1.out.setCell (Nat.le_succ _) _).setCell (Nat.le_succ _) _)⟩
        rw [HCE.out]
        have o1 := (R1.out.r1.oth (Oth.setCell wr (w.heap.size + 1) 0 (.slice (some ⟨g1, 0, none⟩) C C)) (fun g e1 e2 => by simp at e1 e2; omega)).oth (Oth.setCell _ (w.heap.size + 1) 1 (.slice (some ⟨g2, 0, none⟩) C C)) (fun g e1 e2 => by simp at e1 e2; omega)
        have o2 := (R1.out.r2.oth (Oth.setCell wr (w.heap.size + 1) 0 (.slice (some ⟨g1, 0, none⟩) C C)) (fun g e1 e2 => by simp at e1 e2; omega)).oth (Oth.setCell _ (w.heap.size + 1) 1 (.slice (some ⟨g2, 0, none⟩) C C)) (fun g e1 e2 => by simp at e1 e2; omega)
        exact ⟨o1.mono (by omega), o2.mono (by omega), hne, by omega, by omega⟩
end Go.Proofs.YtelagemniheeoaaDoor
