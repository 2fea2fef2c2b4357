/- quot: longQuotient. -/
import Derived.Test.YtimfpgpomafflaaGreatDoorQuotF
import Derived.Test.YtimfpgpomafflaaGreatDoorQuotN
namespace Go.Proofs.YtimfpgpomafflaaGreatDoor
open Go.RowKit LM

theorem few_shift {u i : Nat} (hu : dl u ≤ 400) (hi : i ≤ 1000) : (dg 1000000000 (u * 10 ^ i)).length ≤ 1400 := by
  have h2 := lt_dl u
  have h3 : u * 10 ^ i < 10 ^ (dl u + i) := by rw [Nat.pow_add]; exact Nat.mul_lt_mul_of_pos_right h2 (Nat.pow_pos (by omega))
  have h4 := dl_lt h3
  have h5 := dg_len_9 (u * 10 ^ i)
  unfold dl at h4 hu
  omega
theorem few9_le {u v : Nat} (h : u ≤ v) (hv : (dg 1000000000 v).length ≤ 1400) : (dg 1000000000 u).length ≤ 1400 := by
  rcases Nat.eq_zero_or_pos u with h0 | h0
  · rw [h0, dg_zero]; exact Nat.zero_le _
  · have h1 := dg_lower (b := 1000000000) (by omega) u h0
    have h2 := dg_upper (b := 1000000000) (by omega) v
    have h3 := (Nat.pow_lt_pow_iff_right (by omega : 1 < 1000000000)).1 (Nat.lt_of_le_of_lt h1 (Nat.lt_of_le_of_lt h h2))
    omega
def ResLq (u v : Nat) (w : World) (r : Ending) (w' : World) : Prop := ∃ a c, r = .returned (.tuple #[.slice a (dg 1000000000 (lqV u v (lqE u v))).length c, .int .i64 (lqE u v)]) ∧ Rd w' .u32 a (dg 1000000000 (lqV u v (lqE u v))) ∧ Below w.heap.size w w'
set_option maxHeartbeats 16000000 in
set_option maxRecDepth 20000 in
theorem longQuot_any (u v : Nat) (hv0 : 0 < v) (hu : dl u ≤ 400) (hv : dl v ≤ 400) (a b : Option Addr) (ca cb : Nat) (w : World) (ra : Rd w .u32 a (dg 1000000000 u)) (rb : Rd w .u32 b (dg 1000000000 v)) (htab : Tab w) :
    Calls Tryz.prog 36 #[.slice a (dg 1000000000 u).length ca, .slice b (dg 1000000000 v).length cb] w (ResLq u v w) := by
  have hmf : ∀ (fn : Fn) (first cap : Array Value) (w : World), (Instr.makeFunc fn first cap).run Tryz.prog w = .ok (.func fn first cap) w := fun _ _ _ _ => rfl
  have hu9 := dg9_few' (m := u) hu
  have hv9 := dg9_few' (m := v) hv
  have hD1 := fun W hb => digits9 u a ca W (by omega) (ra.below' (w' := W) hb (Nat.le_refl _)) (htab.below hb)
  have hD2 := fun W hb => digits9 v b cb W (by omega) (rb.below' (w' := W) hb (Nat.le_refl _)) (htab.below hb)
  obtain ⟨E, hE⟩ : ∃ E, E = lqF u v := ⟨_, rfl⟩
  have hEv : E = (dl u : Nat) - (dl v : Nat) - 34 := hE
  have fU : ∀ F : Int, -600 ≤ F → F ≤ 600 → (dg 1000000000 (lqU u F)).length ≤ 1400 := fun F h1 h2 => few_shift hu (by omega)
  have fV : ∀ F : Int, -600 ≤ F → F ≤ 600 → (dg 1000000000 (lqD v F)).length ≤ 1400 := fun F h1 h2 => few_shift hv (by omega)
  have fP : ∀ F : Int, 0 < lqD v F := fun F => Nat.mul_pos hv0 (Nat.pow_pos (by omega))
  have fR : ∀ F : Int, -600 ≤ F → F ≤ 600 → (dg 1000000000 (lqU u F % lqD v F)).length ≤ 1400 := fun F h1 h2 => few9_le (Nat.le_of_lt (Nat.mod_lt _ (fP F))) (fV F h1 h2)
  have fQ : ∀ F : Int, -600 ≤ F → F ≤ 600 → (dg 1000000000 (lqU u F / lqD v F)).length ≤ 1400 := fun F h1 h2 => few9_le (Nat.div_le_self _ _) (fU F h1 h2)
  have hC := fun (F : Int) (h1 : -600 ≤ F) (h2 : F ≤ 600) ga gb W (hb : Below w.heap.size w W) ka kb => cutOff_any u v (-F).toNat F.toNat F (by omega) (by omega) (by omega) (by omega) (by omega) (by omega) (by have := fU F h1 h2; unfold lqU at this; omega) (by have := fV F h1 h2; unfold lqD at this; omega) hv0 ga gb a b ca cb W ka kb (ra.below' (w' := W) hb (Nat.le_refl _)) (rb.below' (w' := W) hb (Nat.le_refl _))
  have hR := fun (F : Int) (h1 : -600 ≤ F) (h2 : F ≤ 600) x1 x2 x3 y1 y2 y3 W g1 g2 g3 => round_any 4 (by omega) false (lqU u F / lqD v F) (lqU u F % lqD v F) (lqD v F) x1 x2 x3 y1 y2 y3 W (by have := fQ F h1 h2; omega) (by have := fR F h1 h2; omega) (few9_dbl (by have := fR F h1 h2; omega)) (by have := fV F h1 h2; omega) g1 g2 g3
  have hC0 : ∀ ga gb W (hb : Below w.heap.size w W) ka kb, Calls Tryz.prog 70 #[.int .i64 E, .pointer (some ⟨ga, 0, none⟩), .pointer (some ⟨gb, 0, none⟩)] W (ResQ3 (lqU u E) (lqD v E) W) := fun ga gb W hb ka kb => hC E (by omega) (by omega) ga gb W hb ka kb
  have hC1 : ∀ ga gb W (hb : Below w.heap.size w W) ka kb, Calls Tryz.prog 70 #[.int .i64 (E + 1), .pointer (some ⟨ga, 0, none⟩), .pointer (some ⟨gb, 0, none⟩)] W (ResQ3 (lqU u (E + 1)) (lqD v (E + 1)) W) := fun ga gb W hb ka kb => hC (E + 1) (by omega) (by omega) ga gb W hb ka kb
  have hR0 := hR E (by omega) (by omega)
  have hR1 := hR (E + 1) (by omega) (by omega)
  have fq := fQ E (by omega) (by omega)
  have hDq := fun x y W r ht => digits9 (lqU u E / lqD v E) x y W (by omega) r ht
  have hres : lqE u v = if 34 < dl (lqU u E / lqD v E) then E + 1 else E := by unfold lqE; rw [← hE]
  have hV0 : rnd 4 false (lqU u E / lqD v E) (lqU u E % lqD v E) (lqD v E) = lqV u v E := rfl
  have hV1 : rnd 4 false (lqU u (E + 1) / lqD v (E + 1)) (lqU u (E + 1) % lqD v (E + 1)) (lqD v (E + 1)) = lqV u v (E + 1) := rfl
  rw [hV0] at hR0
  rw [hV1] at hR1
  unfold ResLq
  unfold ResQ3 at hC0 hC1
  clear hC hR fU fV fP fR fQ hV0 hV1 hE
  generalize lqE u v = EE at *
  generalize hl0 : lqV u v E = L0 at *
  generalize hl1 : lqV u v (E + 1) = L1 at *
  generalize lqU u E / lqD v E = q0 at *
  generalize lqU u E % lqD v E = r0 at *
  generalize lqD v E = V0 at *
  generalize lqU u (E + 1) / lqD v (E + 1) = q1 at *
  generalize lqU u (E + 1) % lqD v (E + 1) = r1 at *
  generalize lqD v (E + 1) = V1 at *
  generalize hq : dl q0 = dq at *
  have HFin := Lib.hid (⟨hres, hl0, hl1⟩ : EE = (if 34 < dq then E + 1 else E) ∧ lqV u v E = L0 ∧ lqV u v (E + 1) = L1)
  generalize dl u = du at *
  generalize dl v = dv at *
  subst hEv
  have HD1 := Lib.hid hD1; have HD2 := Lib.hid hD2; have HC0 := Lib.hid hC0; have HC1 := Lib.hid hC1; have HR0 := Lib.hid hR0; have HR1 := Lib.hid hR1; have HDq := Lib.hid hDq; have HT := Lib.hid htab
  clear hD1 hD2 hC0 hC1 hR0 hR1 hDq htab hres hl0 hl1 hq fq ra rb hu9 hv9 hv0
  generalize (dg 1000000000 u).length = nu at *
  generalize (dg 1000000000 v).length = nv at *
  have s1 : IntKind.i64.wrap ((du : Int) - (dv : Int)) = (du : Int) - (dv : Int) := IntWalk.i64_in _ (by omega)
  have s2 : IntKind.i64.wrap ((du : Int) - (dv : Int) - 34) = (du : Int) - (dv : Int) - 34 := IntWalk.i64_in _ (by omega)
  go_enter Tryz.func36, Tryz.ntmps36
  have ka : ((w.alloc (.cells #[.slice a nu ca] 22)).alloc (.cells #[.slice b nv cb] 22)).cell? ⟨w.heap.size, 0, none⟩ = some (.slice a nu ca) := by simp
  have kb : ((w.alloc (.cells #[.slice a nu ca] 22)).alloc (.cells #[.slice b nv cb] 22)).cell? ⟨w.heap.size + 1, 0, none⟩ = some (.slice b nv cb) := by simp
  have bb := ((Below.refl w.heap.size w).alloc (Nat.le_refl _) (.cells #[.slice a nu ca] 22)).alloc (by simp) (.cells #[.slice b nv cb] 22)
  go_wp2_with fail
  generalize (w.alloc (.cells #[.slice a nu ca] 22)).alloc (.cells #[.slice b nv cb] 22) = w1 at *
  go_region_held3 (fun w' => w'.cell? ⟨w.heap.size, 0, none⟩ = some (.slice a nu ca) ∧ w'.cell? ⟨w.heap.size + 1, 0, none⟩ = some (.slice b nv cb)) (first | exact ⟨ka, kb⟩ | exact ⟨ja, jb⟩ | exact ⟨ia, ib⟩ | go_keep)
    (first
      | (go_at_call 55; have chk := bb2; refine (HD2.out _ bb2).mono ?_; rintro e w3 ⟨rfl, hb3⟩; have bb3 := bb2.trans (hb3.mono bb2.size); have ia := cellB ja hb3; have ib := cellB jb hb3)
      | (go_at_call 55; refine (HD1.out _ bb.drew).mono ?_; rintro e w2 ⟨rfl, hb2⟩; have bb2 := bb.drew.trans (hb2.mono bb.size); have ja : w2.cell? ⟨w.heap.size, 0, none⟩ = some (.slice a nu ca) := (by rw [hb2.cell (lt_of_cell ka)]; exact ka); have jb : w2.cell? ⟨w.heap.size + 1, 0, none⟩ = some (.slice b nv cb) := (by rw [hb2.cell (lt_of_cell kb)]; exact kb)))
  have C_a := Lib.hid ia; have C_b := Lib.hid ib
  clear ka kb ja jb ia ib bb bb2 hb2 hb3
  have kc_a := C_a.out
  have kc_b := C_b.out
  go_wp2_with fail
  clear kc_a kc_b
  refine (HC0.out _ _ _ bb3 C_a.out C_b.out).mono ?_
  rintro r w4 ⟨x1, y1, x2, y2, x3, y3, rfl, h1, h2, h3, hc⟩
  have b4 := bb3.trans (hc.mono bb3.size)
  replace C_a := Lib.hid (cellB C_a.out hc)
  replace C_b := Lib.hid (cellB C_b.out hc)
  clear hc bb3
  have R_x := Lib.hid h1
  have R_y := Lib.hid h2
  have R_z := Lib.hid h3
  clear h1 h2 h3
  have z_q := b4.size
  have hd := (Below.refl w4.heap.size w4).alloc (Nat.le_refl _) (.cells #[.slice x1 (dg 1000000000 q0).length y1, .slice x2 (dg 1000000000 r0).length y2, .slice x3 (dg 1000000000 V0).length y3] 95)
  have b5 := b4.trans (hd.mono b4.size)
  replace R_x := Lib.hid (R_x.out.below hd)
  replace R_y := Lib.hid (R_y.out.below hd)
  replace R_z := Lib.hid (R_z.out.below hd)
  replace C_a := Lib.hid (cellB C_a.out hd)
  replace C_b := Lib.hid (cellB C_b.out hd)
  have X_q := Qx.new w4 (.slice x1 (dg 1000000000 q0).length y1) (.slice x2 (dg 1000000000 r0).length y2) (.slice x3 (dg 1000000000 V0).length y3) 95
  have F_q := Qf.new w4 (.slice x1 (dg 1000000000 q0).length y1) (.slice x2 (dg 1000000000 r0).length y2) (.slice x3 (dg 1000000000 V0).length y3) 95
  clear hd b4
  obtain ⟨kq0, kq1, kq2⟩ := X_q.out
  go_wp2_with fail
  clear kq0 kq1 kq2
  refine (HDq.out _ _ _ R_x.out (HT.out.below b5)).mono ?_
  rintro r w6 ⟨rfl, hc⟩
  have b6 := b5.trans (hc.mono b5.size)
  replace F_q := Qf.below F_q (Qx.lt X_q) hc
  replace X_q := Qx.below X_q hc
  replace R_x := Lib.hid (R_x.out.below hc)
  replace R_y := Lib.hid (R_y.out.below hc)
  replace R_z := Lib.hid (R_z.out.below hc)
  replace C_a := Lib.hid (cellB C_a.out hc)
  replace C_b := Lib.hid (cellB C_b.out hc)
  clear hc b5
  by_cases h0 : 34 < dq
  · have t0 : (34 : Int) < (dq : Int) := by omega
    have kc_a := C_a.out
    have kc_b := C_b.out
    go_wp2_with fail
    clear kc_a kc_b
    refine (HC1.out _ _ _ b6 C_a.out C_b.out).mono ?_
    rintro r w7 ⟨z1, u1, z2, u2, z3, u3, rfl, h1, h2, h3, hc⟩
    have b7 := b6.trans (hc.mono b6.size)
    replace F_q := Qf.below F_q (Qx.lt X_q) hc
    replace X_q := Qx.below X_q hc
    replace R_x := Lib.hid (R_x.out.below hc)
    replace R_y := Lib.hid (R_y.out.below hc)
    replace R_z := Lib.hid (R_z.out.below hc)
    replace C_a := Lib.hid (cellB C_a.out hc)
    replace C_b := Lib.hid (cellB C_b.out hc)
    clear hc b6
    have R_u := Lib.hid h1
    have R_v := Lib.hid h2
    have R_t := Lib.hid h3
    clear h1 h2 h3
    clear R_x
    clear R_y
    clear R_z
    clear C_a C_b
    obtain ⟨kq0, kq1, kq2⟩ := X_q.out
    have kf_q := F_q.out
    unfold Qf at kf_q
    go_wp2_with fail
    clear kq0 kq1 kq2
    clear kf_q
    have b9 := Below.box b7 (g := w4.heap.size) (by omega) (.slice z1 (dg 1000000000 q1).length u1) (.slice z2 (dg 1000000000 r1).length u2) (.slice z3 (dg 1000000000 V1).length u3)
    replace R_u := Lib.hid (Rd.boxS R_u.out X_q  (.slice z1 (dg 1000000000 q1).length u1) (.slice z2 (dg 1000000000 r1).length u2) (.slice z3 (dg 1000000000 V1).length u3))
    replace R_v := Lib.hid (Rd.boxS R_v.out X_q  (.slice z1 (dg 1000000000 q1).length u1) (.slice z2 (dg 1000000000 r1).length u2) (.slice z3 (dg 1000000000 V1).length u3))
    replace R_t := Lib.hid (Rd.boxS R_t.out X_q  (.slice z1 (dg 1000000000 q1).length u1) (.slice z2 (dg 1000000000 r1).length u2) (.slice z3 (dg 1000000000 V1).length u3))
    replace F_q := Qf.set (g := w4.heap.size) F_q (.slice z1 (dg 1000000000 q1).length u1) (.slice z2 (dg 1000000000 r1).length u2) (.slice z3 (dg 1000000000 V1).length u3)
    replace X_q := Qx.set X_q (.slice z1 (dg 1000000000 q1).length u1) (.slice z2 (dg 1000000000 r1).length u2) (.slice z3 (dg 1000000000 V1).length u3)
    clear b7
    refine (HR1.out _ _ _ _ _ _ _ R_u.out R_v.out R_t.out).mono ?_
    rintro r w8 ⟨xr, yr, rfl, h1, hc⟩
    have b8 := b9.trans (hc.mono b9.size)
    replace F_q := Qf.below F_q (Qx.lt X_q) hc
    replace X_q := Qx.below X_q hc
    replace R_u := Lib.hid (R_u.out.below hc)
    replace R_v := Lib.hid (R_v.out.below hc)
    replace R_t := Lib.hid (R_t.out.below hc)
    clear hc b9
    have R_r := Lib.hid h1
    clear h1
    have HZ := HFin.out
    rw [if_pos h0] at HZ
    obtain ⟨rfl, -, hl⟩ := HZ
    have HL := Lib.hid hl
    clear hl
    go_wp2
    refine bodyPost_ret (v := .tuple #[.slice xr (dg 1000000000 L1).length yr, .int .i64 ((du : Int) - (dv : Int) - 34 + 1)]) (by simp [results, Tryz.results36, go_sem]) rfl ?_
    exact ⟨xr, yr, by rw [HL.out], by rw [HL.out]; exact R_r.out, b8⟩
  · have t0 : ¬ (34 : Int) < (dq : Int) := by omega
    obtain ⟨kq0, kq1, kq2⟩ := X_q.out
    go_wp2_with fail
    clear kq0 kq1 kq2
    refine (HR0.out _ _ _ _ _ _ _ R_x.out R_y.out R_z.out).mono ?_
    rintro r w7 ⟨xr, yr, rfl, h1, hc⟩
    have b7 := b6.trans (hc.mono b6.size)
    replace F_q := Qf.below F_q (Qx.lt X_q) hc
    replace X_q := Qx.below X_q hc
    replace R_x := Lib.hid (R_x.out.below hc)
    replace R_y := Lib.hid (R_y.out.below hc)
    replace R_z := Lib.hid (R_z.out.below hc)
    replace C_a := Lib.hid (cellB C_a.out hc)
    replace C_b := Lib.hid (cellB C_b.out hc)
    clear hc b6
    have R_r := Lib.hid h1
    clear h1
    have HZ := HFin.out
    rw [if_neg h0] at HZ
    obtain ⟨rfl, hl, -⟩ := HZ
    have HL := Lib.hid hl
    clear hl
    go_wp2
    refine bodyPost_ret (v := .tuple #[.slice xr (dg 1000000000 L0).length yr, .int .i64 ((du : Int) - (dv : Int) - 34)]) (by simp [results, Tryz.results36, go_sem]) rfl ?_
    exact ⟨xr, yr, by rw [HL.out], by rw [HL.out]; exact R_r.out, b7⟩
end Go.Proofs.YtimfpgpomafflaaGreatDoor
