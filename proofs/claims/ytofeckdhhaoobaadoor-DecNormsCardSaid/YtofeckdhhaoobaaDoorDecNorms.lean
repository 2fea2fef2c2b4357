/- Walk of the law DecNorms. -/
import Derived.Test.YtofeckdhhaoobaaDoorDecU
import Derived.Test.YtofeckdhhaoobaaDoorDecL
import Derived.Test.YtofeckdhhaoobaaDoorDecH
namespace Go.Proofs.YtofeckdhhaoobaaDoor
open Go.RowKit LM

theorem sameB_self (s : Bool) (e : Int) (l : List Nat) : sameB s s e e l l = true := by simp [sameB]

set_option maxHeartbeats 8000000 in
set_option maxRecDepth 20000 in
theorem norms_main (s : Bool) (a : Option Addr) (c : Nat) (l : List Nat) (e : Int) (w : World) (hl : l.length ≤ 9223372036854775807) (hlo : Lo 4294967296 l) (hrd : Rd w .u32 a l) (htab : Tab w) :
    Calls Tryd.prog 3 #[.agg #[.bool s, .slice a l.length c, .int .i64 e]] w fun r w' => r = .returned (.bool true) ∧ Below w.heap.size w w' := by
  go_enter Tryd.func3, Tryd.ntmps3
  have hb0 := (Below.refl w.heap.size w).alloc (Nat.le_refl _) (.cells #[.bool s, .slice a l.length c, .int .i64 e] 24)
  have k0 : (w.alloc (.cells #[.bool s, .slice a l.length c, .int .i64 e] 24)).cell? ⟨w.heap.size, 0, none⟩ = some (.bool s) := by simp
  have k1 : (w.alloc (.cells #[.bool s, .slice a l.length c, .int .i64 e] 24)).cell? ⟨w.heap.size, 1, none⟩ = some (.slice a l.length c) := by simp
  have k2 : (w.alloc (.cells #[.bool s, .slice a l.length c, .int .i64 e] 24)).cell? ⟨w.heap.size, 2, none⟩ = some (.int .i64 e) := by simp
  go_wp2_with fail
  refine (shown_any _ (htab.below hb0)).mono ?_
  rintro r w1 ⟨rfl, hb1⟩
  have b1 := hb0.trans (hb1.mono hb0.size)
  have i0 := cellB k0 hb1
  have i1 := cellB k1 hb1
  have i2 := cellB k2 hb1
  clear hb0 hb1 k0 k1 k2
  go_wp2_with fail
  refine (DNorm_any s a c l e _ hl hlo (hrd.below b1) (htab.below b1)).mono ?_
  rintro r w2 ⟨a1, c1, rfl, ho1, hb2⟩
  have b2 := b1.trans (hb2.mono b1.size)
  have k0 := cellB i0 hb2
  have k1 := cellB i1 hb2
  have k2 := cellB i2 hb2
  have hb3 := (Below.refl w2.heap.size w2).alloc (Nat.le_refl _) (.cells #[.bool (normA l.length s (vl 1000000000 l) e).p.neg, .slice a1 (dg 1000000000 (normA l.length s (vl 1000000000 l) e).p.m).length c1, .int .i64 (normA l.length s (vl 1000000000 l) e).p.e] 24)
  have i0 := cellB k0 hb3
  have i1 := cellB k1 hb3
  have i2 := cellB k2 hb3
  have m0 : (w2.alloc (.cells #[.bool (normA l.length s (vl 1000000000 l) e).p.neg, .slice a1 (dg 1000000000 (normA l.length s (vl 1000000000 l) e).p.m).length c1, .int .i64 (normA l.length s (vl 1000000000 l) e).p.e] 24)).cell? ⟨w2.heap.size, 0, none⟩ = some (.bool (normA l.length s (vl 1000000000 l) e).p.neg) := by simp
  have m1 : (w2.alloc (.cells #[.bool (normA l.length s (vl 1000000000 l) e).p.neg, .slice a1 (dg 1000000000 (normA l.length s (vl 1000000000 l) e).p.m).length c1, .int .i64 (normA l.length s (vl 1000000000 l) e).p.e] 24)).cell? ⟨w2.heap.size, 1, none⟩ = some (.slice a1 (dg 1000000000 (normA l.length s (vl 1000000000 l) e).p.m).length c1) := by simp
  have m2 : (w2.alloc (.cells #[.bool (normA l.length s (vl 1000000000 l) e).p.neg, .slice a1 (dg 1000000000 (normA l.length s (vl 1000000000 l) e).p.m).length c1, .int .i64 (normA l.length s (vl 1000000000 l) e).p.e] 24)).cell? ⟨w2.heap.size, 2, none⟩ = some (.int .i64 (normA l.length s (vl 1000000000 l) e).p.e) := by simp
  have b3 := b2.trans (hb3.mono b2.size)
  have hr1 := ho1.rd.below hb3
  clear b1 b2 hb2 hb3 k0 k1 k2 ho1
  have hdl := normA_dl l.length s (vl 1000000000 l) e
  have hlen : (dg 1000000000 (normA l.length s (vl 1000000000 l) e).p.m).length ≤ 9223372036854775807 := Nat.le_trans (dg_len_9 _) (Nat.le_trans hdl (by omega))
  have hRN := fun W hb => RNorm_any s a c l e W hl hlo (hrd.below' (w' := W) hb (Nat.le_refl _))
  have hMay := fun W hb => May_any s a c l e W hl hlo (hrd.below' (w' := W) hb (Nat.le_refl _)) (htab.below hb)
  have hRMay := fun W hb => RMay_any s a c l e W hl hlo (hrd.below' (w' := W) hb (Nat.le_refl _))
  rw [may_eq] at hMay
  unfold mayR at hRMay
  generalize normA l.length s (vl 1000000000 l) e = A at *
  have HRN := Lib.hid hRN; have HMAY := Lib.hid hMay; have HRMAY := Lib.hid hRMay
  clear hRN hMay hRMay
  go_wp2_with fail
  refine (HRN.out _ b3).mono ?_
  rintro r w4 ⟨a4, c4, rfl, ho4, hb4⟩
  have b4 := b3.trans (hb4.mono b3.size)
  have k0 := cellB i0 hb4
  have k1 := cellB i1 hb4
  have k2 := cellB i2 hb4
  have n0 := cellB m0 hb4
  have n1 := cellB m1 hb4
  have n2 := cellB m2 hb4
  have hr2 := hr1.below hb4
  have hb5 := (Below.refl w4.heap.size w4).alloc (Nat.le_refl _) (.cells #[.bool A.p.neg, .slice a4 (dg 1000000000 A.p.m).length c4, .int .i64 A.p.e] 24)
  have b5 := b4.trans (hb5.mono b4.size)
  have i0 := cellB k0 hb5
  have i1 := cellB k1 hb5
  have i2 := cellB k2 hb5
  have m0 := cellB n0 hb5
  have m1 := cellB n1 hb5
  have m2 := cellB n2 hb5
  have hr3 := hr2.below hb5
  have hr4 := ho4.rd.below hb5
  have l0 : (w4.alloc (.cells #[.bool A.p.neg, .slice a4 (dg 1000000000 A.p.m).length c4, .int .i64 A.p.e] 24)).cell? ⟨w4.heap.size, 0, none⟩ = some (.bool A.p.neg) := by simp
  have l1 : (w4.alloc (.cells #[.bool A.p.neg, .slice a4 (dg 1000000000 A.p.m).length c4, .int .i64 A.p.e] 24)).cell? ⟨w4.heap.size, 1, none⟩ = some (.slice a4 (dg 1000000000 A.p.m).length c4) := by simp
  have l2 : (w4.alloc (.cells #[.bool A.p.neg, .slice a4 (dg 1000000000 A.p.m).length c4, .int .i64 A.p.e] 24)).cell? ⟨w4.heap.size, 2, none⟩ = some (.int .i64 A.p.e) := by simp
  have hS := fun W hb => sameD_any A.p.neg A.p.neg a1 a4 c1 c4 _ _ A.p.e A.p.e W hlen hlen (hr3.below (w' := W) hb) (hr4.below hb)
  rw [sameB_self] at hS
  have HS := Lib.hid hS
  clear hb4 hb5 k0 k1 k2 n0 n1 n2 hr1 hr2 hr3 hr4 ho4 b4 b3 hS
  go_wp2_with fail
  generalize w4.alloc (.cells #[.bool A.p.neg, .slice a4 (dg 1000000000 A.p.m).length c4, .int .i64 A.p.e] 24) = w5 at *
  go_region_held3 (fun w' => w'.cell? ⟨w.heap.size, 0, none⟩ = some (.bool s) ∧ w'.cell? ⟨w.heap.size, 1, none⟩ = some (.slice a l.length c) ∧ w'.cell? ⟨w.heap.size, 2, none⟩ = some (.int .i64 e) ∧ w'.cell? ⟨w2.heap.size, 0, none⟩ = some (.bool A.p.neg) ∧ w'.cell? ⟨w2.heap.size, 1, none⟩ = some (.slice a1 (dg 1000000000 A.p.m).length c1) ∧ w'.cell? ⟨w2.heap.size, 2, none⟩ = some (.int .i64 A.p.e) ∧ w'.cell? ⟨w4.heap.size, 0, none⟩ = some (.bool A.p.neg) ∧ w'.cell? ⟨w4.heap.size, 1, none⟩ = some (.slice a4 (dg 1000000000 A.p.m).length c4) ∧ w'.cell? ⟨w4.heap.size, 2, none⟩ = some (.int .i64 A.p.e)) (first | go_keep | exact ⟨Z0, Z1, Z2, Z3, Z4, Z5, Z6, Z7, Z8⟩ | exact ⟨Y0, Y1, Y2, Y3, Y4, Y5, Y6, Y7, Y8⟩ | exact ⟨X0, X1, X2, X3, X4, X5, X6, X7, X8⟩)
    (first
      | (go_at_call 15; refine (HS.out _ (Below.refl w5.heap.size w5).drew).mono ?_; rintro e6 w6 ⟨rfl, hb6⟩; have h6 := (Below.refl w5.heap.size w5).drew.trans hb6; have X0 := cellB i0 h6; have X1 := cellB i1 h6; have X2 := cellB i2 h6; have X3 := cellB m0 h6; have X4 := cellB m1 h6; have X5 := cellB m2 h6; have X6 := cellB l0 h6; have X7 := cellB l1 h6; have X8 := cellB l2 h6; have hx6 := h6)
      | (go_at_call 16; refine (HMAY.out _ (b5.trans (h6.mono b5.size))).mono ?_; rintro e7 w7 ⟨rfl, hb7⟩; have h7 := h6.trans (hb7.mono h6.size); have Y0 := cellB i0 h7; have Y1 := cellB i1 h7; have Y2 := cellB i2 h7; have Y3 := cellB m0 h7; have Y4 := cellB m1 h7; have Y5 := cellB m2 h7; have Y6 := cellB l0 h7; have Y7 := cellB l1 h7; have Y8 := cellB l2 h7; have hx7 := h7)
      | (go_at_call 17; refine (HRMAY.out _ (b5.trans (h7.mono b5.size))).mono ?_; rintro e8 w8 ⟨rfl, hb8⟩; have h8 := h7.trans (hb8.mono h7.size); have Z0 := cellB i0 h8; have Z1 := cellB i1 h8; have Z2 := cellB i2 h8; have Z3 := cellB m0 h8; have Z4 := cellB m1 h8; have Z5 := cellB m2 h8; have Z6 := cellB l0 h8; have Z7 := cellB l1 h8; have Z8 := cellB l2 h8; have hx8 := h8))
  have b8 := b5.trans (h8.mono b5.size)
  go_wp2
  go_ret
  exact ⟨rfl, b8⟩

theorem norms_walk {s : Bool} {a : Option Addr} {n ca : Nat} {e : Int} (w : World) (htab : Tab w) (ha : IsRow w a n ca) (_ : (Lit.int .i64 e).wf = true) :
    Calls Tryd.prog 3 #[.agg #[.bool s, .slice a n ca, .int .i64 e]] w fun r w' => r = .returned (.bool true) ∧ Below w.heap.size w w' := by
  obtain ⟨l, rfl, lo, rd, hm⟩ := ha
  unfold maxLen at hm
  exact norms_main s a ca l e w (by omega) lo rd htab
end Go.Proofs.YtofeckdhhaoobaaDoor
