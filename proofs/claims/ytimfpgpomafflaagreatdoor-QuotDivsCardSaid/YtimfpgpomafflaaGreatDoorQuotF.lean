/- quot: the quotient cut off at a power of ten: the closure of longQuotient. -/
import Derived.Test.YtimfpgpomafflaaGreatDoorQuotE
namespace Go.Proofs.YtimfpgpomafflaaGreatDoor
open Go.RowKit LM

def ResQ3 (u v : Nat) (w : World) (r : Ending) (w' : World) : Prop := ∃ a1 c1 a2 c2 a3 c3, r = .returned (.agg #[.slice a1 (dg 1000000000 (u / v)).length c1, .slice a2 (dg 1000000000 (u % v)).length c2, .slice a3 (dg 1000000000 v).length c3]) ∧
  Rd w' .u32 a1 (dg 1000000000 (u / v)) ∧ Rd w' .u32 a2 (dg 1000000000 (u % v)) ∧ Rd w' .u32 a3 (dg 1000000000 v) ∧ Below w.heap.size w w'
set_option maxHeartbeats 16000000 in
set_option maxRecDepth 100000 in
theorem cutOff_any (u v i j : Nat) (E : Int) (hE1 : -30000 ≤ E) (hE2 : E ≤ 30000) (hi : max (-E) 0 = (i : Int)) (hj : max E 0 = (j : Int)) (hu9 : (dg 1000000000 u).length ≤ 100000) (hv9 : (dg 1000000000 v).length ≤ 100000) (hU : (dg 1000000000 (u * 10 ^ i)).length ≤ 100000) (hV : (dg 1000000000 (v * 10 ^ j)).length ≤ 100000) (hv0 : 0 < v) (ga gb : Nat) (a b : Option Addr) (ca cb : Nat) (w : World)
    (ka : w.cell? ⟨ga, 0, none⟩ = some (.slice a (dg 1000000000 u).length ca)) (kb : w.cell? ⟨gb, 0, none⟩ = some (.slice b (dg 1000000000 v).length cb)) (ra : Rd w .u32 a (dg 1000000000 u)) (rb : Rd w .u32 b (dg 1000000000 v)) :
    Calls Tryz.prog 70 #[.int .i64 E, .pointer (some ⟨ga, 0, none⟩), .pointer (some ⟨gb, 0, none⟩)] w (ResQ3 (u * 10 ^ i) (v * 10 ^ j) w) := by
  have hi3 : i ≤ 30000 := by omega
  have hj3 : j ≤ 30000 := by omega
  have hS1 := fun W hb => shift_int u a ca i (A := (i : Int)) rfl W hi3 (by omega) (ra.below' (w' := W) hb (Nat.le_refl _))
  have hS2 := fun W hb => shift_int v b cb j (A := (j : Int)) rfl W hj3 (by omega) (rb.below' (w' := W) hb (Nat.le_refl _))
  have hpos : 0 < v * 10 ^ j := Nat.mul_pos hv0 (Nat.pow_pos (by omega))
  have hD := fun x y c d W r1 r2 => divide_any (u * 10 ^ i) (v * 10 ^ j) x y c d W hU hV hpos r1 r2
  generalize u * 10 ^ i = U at *
  generalize v * 10 ^ j = V at *
  have HS1 := Lib.hid hS1; have HS2 := Lib.hid hS2; have HD := Lib.hid hD
  clear hS1 hS2 hD hpos hU hV ra rb hu9 hv9 hv0
  generalize (dg 1000000000 u).length = nu at *
  generalize (dg 1000000000 v).length = nv at *
  have C_a := Lib.hid (allocCell (o := (.cells #[.slice none 0 0, .slice none 0 0, .slice none 0 0] 95)) ka)
  have C_b := Lib.hid (allocCell (o := (.cells #[.slice none 0 0, .slice none 0 0, .slice none 0 0] 95)) kb)
  clear ka kb
  go_enter Tryz.func70, Tryz.ntmps70
  have b1 := ((Below.refl w.heap.size w).alloc (Nat.le_refl _) (.cells #[.slice none 0 0, .slice none 0 0, .slice none 0 0] 95))
  have X_r := (Qx.new w (.slice none 0 0) (.slice none 0 0) (.slice none 0 0) 95)
  have F_r := (Qf.new w (.slice none 0 0) (.slice none 0 0) (.slice none 0 0) 95)
  have kc_a := C_a.out
  go_wp2_with fail
  clear kc_a
  refine (HS1.out _ b1).mono ?_
  rintro r w2 ⟨xp, yp, rfl, ho, hc⟩
  have b2 := b1.trans (hc.mono b1.size)
  replace F_r := Qf.below F_r (Qx.lt X_r) hc
  replace X_r := Qx.below X_r hc
  replace C_a := Lib.hid (cellB C_a.out hc)
  replace C_b := Lib.hid (cellB C_b.out hc)
  clear hc b1
  have R_p := Lib.hid ho.rd
  clear ho
  have kc_b := C_b.out
  go_wp2_with fail
  clear kc_b
  refine (HS2.out _ b2).mono ?_
  rintro r w3 ⟨xq, yq, rfl, ho, hc⟩
  have b3 := b2.trans (hc.mono b2.size)
  replace F_r := Qf.below F_r (Qx.lt X_r) hc
  replace X_r := Qx.below X_r hc
  replace R_p := Lib.hid (R_p.out.below hc)
  replace C_a := Lib.hid (cellB C_a.out hc)
  replace C_b := Lib.hid (cellB C_b.out hc)
  clear hc b2
  have R_q := Lib.hid ho.rd
  clear ho
  go_wp2_with fail
  refine (HD.out _ _ _ _ _ R_p.out R_q.out).mono ?_
  rintro r w4 ⟨d1, e1, d2, e2, rfl, h1, h2, hc⟩
  have b4 := b3.trans (hc.mono b3.size)
  replace F_r := Qf.below F_r (Qx.lt X_r) hc
  replace X_r := Qx.below X_r hc
  replace R_p := Lib.hid (R_p.out.below hc)
  replace R_q := Lib.hid (R_q.out.below hc)
  replace C_a := Lib.hid (cellB C_a.out hc)
  replace C_b := Lib.hid (cellB C_b.out hc)
  clear hc b3
  have R_d := Lib.hid h1
  have R_e := Lib.hid h2
  clear h1 h2
  obtain ⟨kr0, kr1, kr2⟩ := X_r.out
  have kf_r := F_r.out
  unfold Qf at kf_r
  go_wp2
  refine bodyPost_ret (v := .agg #[.slice d1 (dg 1000000000 (U / V)).length e1, .slice d2 (dg 1000000000 (U % V)).length e2, .slice xq (dg 1000000000 V).length yq]) (by simp [results, Tryz.results70, go_sem, kr0, kr1, kr2]) rfl ?_
  exact ⟨d1, e1, d2, e2, xq, yq, rfl, Rd.boxS R_d.out X_r _ _ _, Rd.boxS R_e.out X_r _ _ _, Rd.boxS R_q.out X_r _ _ _, (Below.box b4 (g := w.heap.size) (by omega) _ _ _)⟩
end Go.Proofs.YtimfpgpomafflaaGreatDoor
