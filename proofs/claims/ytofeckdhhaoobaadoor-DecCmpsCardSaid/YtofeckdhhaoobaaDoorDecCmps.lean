/- Walk of the law DecCmps. -/
import Derived.Test.YtofeckdhhaoobaaDoorDecU
import Derived.Test.YtofeckdhhaoobaaDoorDecL
import Derived.Test.YtofeckdhhaoobaaDoorDecOds
namespace Go.Proofs.YtofeckdhhaoobaaDoor
open Go.RowKit LM

theorem sameB_self4 (s : Bool) (e : Int) (l : List Nat) : sameB s s e e l l = true := by simp [sameB]
def cmpV (A B : Ans) : Int := if A.err = 0 ∧ B.err = 0 then cmpP A.p B.p else 0
theorem ResCm.val {A B : Ans} {w w' : World} {r : Ending} (h : ResCm A B w r w') : r = .returned (.tuple #[.int .i64 (cmpV A B), .int .i64 (pairE A B : Nat)]) ∧ Below w.heap.size w w' := by
  obtain ⟨hb, ⟨h1, h2, rfl⟩ | ⟨h, rfl⟩⟩ := h
  · refine ⟨?_, hb⟩
    unfold cmpV; rw [if_pos ⟨h1, h2⟩, pairE_ok h1 h2]; rfl
  · refine ⟨?_, hb⟩
    unfold cmpV; rw [if_neg h]

set_option maxHeartbeats 16000000 in
set_option maxRecDepth 20000 in
theorem cmps2_main (s1 s2 : Bool) (a1 a2 : Option Addr) (c1 c2 : Nat) (l1 l2 : List Nat) (e1 e2 : Int) (w : World) (h1 : l1.length ≤ 9223372036854775807) (h2 : l2.length ≤ 9223372036854775807) (hlo1 : Lo 4294967296 l1) (hlo2 : Lo 4294967296 l2) (hr1 : Rd w .u32 a1 l1) (hr2 : Rd w .u32 a2 l2) (htab : Tab w) :
    Calls Tryd.prog 7 #[.agg #[.bool s1, .slice a1 l1.length c1, .int .i64 e1], .agg #[.bool s2, .slice a2 l2.length c2, .int .i64 e2]] w fun r w' => r = .returned (.bool true) ∧ Below w.heap.size w w' := by
  have hD := fun W hb => (DCmp_any s1 s2 a1 a2 c1 c2 l1 l2 e1 e2 W h1 h2 hlo1 hlo2 (hr1.below' (w' := W) hb (Nat.le_refl _)) (hr2.below' hb (Nat.le_refl _)) (htab.below hb)).mono (fun r w' h => h.val)
  have hR := fun W hb => (RCmpD_any s1 s2 a1 a2 c1 c2 l1 l2 e1 e2 W h1 h2 hlo1 hlo2 (hr1.below' (w' := W) hb (Nat.le_refl _)) (hr2.below' hb (Nat.le_refl _))).mono (fun r w' h => h.val)
  have hN := fun W hb => DNeg_any s1 a1 c1 l1 e1 W h1 hlo1 (hr1.below' (w' := W) hb (Nat.le_refl _)) (htab.below hb)
  have hM := fun W hb => RNeg_any s1 a1 c1 l1 e1 W h1 hlo1 (hr1.below' (w' := W) hb (Nat.le_refl _))
  have hdl := normA_dl l1.length (!s1) (vl 1000000000 l1) e1
  generalize cmpV (normA l1.length s1 (vl 1000000000 l1) e1) (normA l2.length s2 (vl 1000000000 l2) e2) = V at *
  generalize pairE (normA l1.length s1 (vl 1000000000 l1) e1) (normA l2.length s2 (vl 1000000000 l2) e2) = E at *
  generalize normA l1.length (!s1) (vl 1000000000 l1) e1 = A at *
  have hlen : (dg 1000000000 A.p.m).length ≤ 9223372036854775807 := Nat.le_trans (dg_len_9 _) (Nat.le_trans hdl (by omega))
  have hS := fun a3 a4 c3 c4 W r1 r2 => sameD_any A.p.neg A.p.neg a3 a4 c3 c4 _ _ A.p.e A.p.e W hlen hlen r1 r2
  rw [sameB_self4] at hS
  have HD := Lib.hid hD; have HR := Lib.hid hR; have HN := Lib.hid hN; have HM := Lib.hid hM; have HS := Lib.hid hS; have HTAB := Lib.hid htab
  clear hD hR hN hM hS hdl hlen hlo1 hlo2 hr1 hr2 htab
  go_enter Tryd.func7, Tryd.ntmps7
  have hb0 := ((Below.refl w.heap.size w).alloc (Nat.le_refl _) (.cells #[.bool s1, .slice a1 l1.length c1, .int .i64 e1] 24)).alloc (by simp) (.cells #[.bool s2, .slice a2 l2.length c2, .int .i64 e2] 24)
  have k0 : ((w.alloc (.cells #[.bool s1, .slice a1 l1.length c1, .int .i64 e1] 24)).alloc (.cells #[.bool s2, .slice a2 l2.length c2, .int .i64 e2] 24)).cell? ⟨w.heap.size, 0, none⟩ = some (.bool s1) := by simp
  have k1 : ((w.alloc (.cells #[.bool s1, .slice a1 l1.length c1, .int .i64 e1] 24)).alloc (.cells #[.bool s2, .slice a2 l2.length c2, .int .i64 e2] 24)).cell? ⟨w.heap.size, 1, none⟩ = some (.slice a1 l1.length c1) := by simp
  have k2 : ((w.alloc (.cells #[.bool s1, .slice a1 l1.length c1, .int .i64 e1] 24)).alloc (.cells #[.bool s2, .slice a2 l2.length c2, .int .i64 e2] 24)).cell? ⟨w.heap.size, 2, none⟩ = some (.int .i64 e1) := by simp
  have k3 : ((w.alloc (.cells #[.bool s1, .slice a1 l1.length c1, .int .i64 e1] 24)).alloc (.cells #[.bool s2, .slice a2 l2.length c2, .int .i64 e2] 24)).cell? ⟨w.heap.size + 1, 0, none⟩ = some (.bool s2) := by simp
  have k4 : ((w.alloc (.cells #[.bool s1, .slice a1 l1.length c1, .int .i64 e1] 24)).alloc (.cells #[.bool s2, .slice a2 l2.length c2, .int .i64 e2] 24)).cell? ⟨w.heap.size + 1, 1, none⟩ = some (.slice a2 l2.length c2) := by simp
  have k5 : ((w.alloc (.cells #[.bool s1, .slice a1 l1.length c1, .int .i64 e1] 24)).alloc (.cells #[.bool s2, .slice a2 l2.length c2, .int .i64 e2] 24)).cell? ⟨w.heap.size + 1, 2, none⟩ = some (.int .i64 e2) := by simp
  go_wp2_with fail
  refine (shown_any _ (HTAB.out.below hb0)).mono ?_
  rintro r w1 ⟨rfl, hb1⟩
  have b1 := hb0.trans (hb1.mono hb0.size)
  have i0 := cellB k0 hb1
  have i1 := cellB k1 hb1
  have i2 := cellB k2 hb1
  have i3 := cellB k3 hb1
  have i4 := cellB k4 hb1
  have i5 := cellB k5 hb1
  clear hb0 hb1 k0 k1 k2 k3 k4 k5
  go_wp2_with fail
  refine (HD.out _ b1).mono ?_
  rintro r w2 ⟨rfl, hb2⟩
  have b2 := b1.trans (hb2.mono b1.size)
  have k0 := cellB i0 hb2
  have k1 := cellB i1 hb2
  have k2 := cellB i2 hb2
  have k3 := cellB i3 hb2
  have k4 := cellB i4 hb2
  have k5 := cellB i5 hb2
  clear hb2 b1 i0 i1 i2 i3 i4 i5
  go_wp2_with fail
  refine (HR.out _ b2).mono ?_
  rintro r w3 ⟨rfl, hb3⟩
  have b3 := b2.trans (hb3.mono b2.size)
  have i0 := cellB k0 hb3
  have i1 := cellB k1 hb3
  have i2 := cellB k2 hb3
  clear hb3 b2 k0 k1 k2 k3 k4 k5
  go_wp2_with fail
  refine (HN.out _ b3).mono ?_
  rintro r w4 ⟨a4, c4, rfl, ho4, hb4⟩
  have b4 := b3.trans (hb4.mono b3.size)
  have hb5 := (Below.refl w4.heap.size w4).alloc (Nat.le_refl _) (.cells #[.bool A.p.neg, .slice a4 (dg 1000000000 A.p.m).length c4, .int .i64 A.p.e] 24)
  have b5 := b4.trans (hb5.mono b4.size)
  have hb45 := hb4.trans (hb5.mono hb4.size)
  have k0 := cellB i0 hb45
  have k1 := cellB i1 hb45
  have k2 := cellB i2 hb45
  have m0 : (w4.alloc (.cells #[.bool A.p.neg, .slice a4 (dg 1000000000 A.p.m).length c4, .int .i64 A.p.e] 24)).cell? ⟨w4.heap.size, 0, none⟩ = some (.bool A.p.neg) := by simp
  have m1 : (w4.alloc (.cells #[.bool A.p.neg, .slice a4 (dg 1000000000 A.p.m).length c4, .int .i64 A.p.e] 24)).cell? ⟨w4.heap.size, 1, none⟩ = some (.slice a4 (dg 1000000000 A.p.m).length c4) := by simp
  have m2 : (w4.alloc (.cells #[.bool A.p.neg, .slice a4 (dg 1000000000 A.p.m).length c4, .int .i64 A.p.e] 24)).cell? ⟨w4.heap.size, 2, none⟩ = some (.int .i64 A.p.e) := by simp
  have r4 := ho4.rd.below hb5
  clear hb4 hb5 hb45 b4 b3 ho4 i0 i1 i2
  go_wp2_with fail
  refine (HM.out _ b5).mono ?_
  rintro r w6 ⟨a6, c6, rfl, ho6, hb6⟩
  have b6 := b5.trans (hb6.mono b5.size)
  have hb7 := (Below.refl w6.heap.size w6).alloc (Nat.le_refl _) (.cells #[.bool A.p.neg, .slice a6 (dg 1000000000 A.p.m).length c6, .int .i64 A.p.e] 24)
  have b7 := b6.trans (hb7.mono b6.size)
  have hb67 := hb6.trans (hb7.mono hb6.size)
  have n0 := cellB m0 hb67
  have n1 := cellB m1 hb67
  have n2 := cellB m2 hb67
  have r5 := r4.below hb67
  have r6 := ho6.rd.below hb7
  have p0 : (w6.alloc (.cells #[.bool A.p.neg, .slice a6 (dg 1000000000 A.p.m).length c6, .int .i64 A.p.e] 24)).cell? ⟨w6.heap.size, 0, none⟩ = some (.bool A.p.neg) := by simp
  have p1 : (w6.alloc (.cells #[.bool A.p.neg, .slice a6 (dg 1000000000 A.p.m).length c6, .int .i64 A.p.e] 24)).cell? ⟨w6.heap.size, 1, none⟩ = some (.slice a6 (dg 1000000000 A.p.m).length c6) := by simp
  have p2 : (w6.alloc (.cells #[.bool A.p.neg, .slice a6 (dg 1000000000 A.p.m).length c6, .int .i64 A.p.e] 24)).cell? ⟨w6.heap.size, 2, none⟩ = some (.int .i64 A.p.e) := by simp
  have HS2 := Lib.hid (HS.out a4 a6 c4 c6 _ r5 r6)
  clear hb6 hb7 hb67 b6 b5 r4 r5 r6 ho6 m0 m1 m2 k0 k1 k2 HD HR HN HM HS
  go_wp2_with fail
  refine (HS2.out).mono ?_
  rintro r w8 ⟨rfl, hb8⟩
  have b8 := b7.trans (hb8.mono b7.size)
  go_wp2
  go_ret
  exact ⟨rfl, b8⟩

theorem cmps2_walk {s1 s2 : Bool} {a1 a2 : Option Addr} {n1 n2 ca1 ca2 : Nat} {e1 e2 : Int} (w : World) (htab : Tab w) (ha : IsRow w a1 n1 ca1) (_ : (Lit.int .i64 e1).wf = true) (hb : IsRow w a2 n2 ca2) (_ : (Lit.int .i64 e2).wf = true) :
    Calls Tryd.prog 7 #[.agg #[.bool s1, .slice a1 n1 ca1, .int .i64 e1], .agg #[.bool s2, .slice a2 n2 ca2, .int .i64 e2]] w fun r w' => r = .returned (.bool true) ∧ Below w.heap.size w w' := by
  obtain ⟨l1, rfl, lo1, rd1, hm1⟩ := ha
  obtain ⟨l2, rfl, lo2, rd2, hm2⟩ := hb
  unfold maxLen at hm1 hm2
  exact cmps2_main s1 s2 a1 a2 ca1 ca2 l1 l2 e1 e2 w (by omega) (by omega) lo1 lo2 rd1 rd2 htab
end Go.Proofs.YtofeckdhhaoobaaDoor
