/- Walks of the document's answer for dec: Take, To, Norm, Same. -/
import Derived.Test.YtofeckdhhaoobaaDoorDecD
import Derived.Deep.DeepMust
namespace Go.Proofs.YtofeckdhhaoobaaDoor
open Go.RowKit LM

theorem cellB {w w' : World} {p : Addr} {v : Value} (h : w.cell? p = some v) (hb : Below w.heap.size w w') : w'.cell? p = some v := by rw [hb.cell (lt_of_cell h)]; exact h
theorem Rd.setOther {w : World} {k : IntKind} {a : Option Addr} {l : List Nat} {g j : Nat} {v v0 : Value} (h : Rd w k a l) (h0 : w.cell? ⟨g, j, none⟩ = some v0) (hne : ∀ n, v0 ≠ .int k n) : Rd (w.setCell ⟨g, j, none⟩ v) k a l := by
  intro i hi
  obtain ⟨b, off, e, hc⟩ := h i hi
  refine ⟨b, off, e, ?_⟩
  rw [World.cell?_setCell_other]
  · exact hc
  · intro e2
    rw [← e2, h0] at hc
    exact hne _ (Option.some.inj hc)
theorem stored3 {w3 w5 : World} {X : Nat} {a0 a1 a2 v0 v1 v2 : Value} (x0 : w3.cell? ⟨X, 0, none⟩ = some a0) (x1 : w3.cell? ⟨X, 1, none⟩ = some a1) (x2 : w3.cell? ⟨X, 2, none⟩ = some a2)
    (hb : Below (((w3.setCell ⟨X, 0, none⟩ v0).setCell ⟨X, 1, none⟩ v1).setCell ⟨X, 2, none⟩ v2).heap.size (((w3.setCell ⟨X, 0, none⟩ v0).setCell ⟨X, 1, none⟩ v1).setCell ⟨X, 2, none⟩ v2) w5) :
    w5.cell? ⟨X, 0, none⟩ = some v0 ∧ w5.cell? ⟨X, 1, none⟩ = some v1 ∧ w5.cell? ⟨X, 2, none⟩ = some v2 := by
  have h := lt_of_cell x0
  refine ⟨?_, ?_, ?_⟩
  · rw [hb.cell (by simpa using h)]; simp [go_sem, x0, x1, x2]
  · rw [hb.cell (by simpa using h)]; simp [go_sem, x0, x1, x2]
  · rw [hb.cell (by simpa using h)]; simp [go_sem, x0, x1, x2]
theorem stored3a {w3 w5 : World} {t : TypeId} {v0 v1 v2 : Value} (hb : Below (w3.alloc (.cells #[v0, v1, v2] t)).heap.size (w3.alloc (.cells #[v0, v1, v2] t)) w5) :
    w5.cell? ⟨w3.heap.size, 0, none⟩ = some v0 ∧ w5.cell? ⟨w3.heap.size, 1, none⟩ = some v1 ∧ w5.cell? ⟨w3.heap.size, 2, none⟩ = some v2 :=
  ⟨by rw [hb.cell (by simp)]; simp, by rw [hb.cell (by simp)]; simp, by rw [hb.cell (by simp)]; simp⟩
def ResT (A : Ans) (w : World) (r : Ending) (w' : World) : Prop := ∃ a' c', r = .returned (.tuple #[.agg #[.bool A.p.neg, .slice a' (dg 10 A.p.m).length c', .int .i64 A.p.e], .int .i64 (A.err : Nat)]) ∧ RdC w' a' c' A.p.m ∧ Below w.heap.size w w'

theorem near_far {n : Nat} {e : Int} (h : nearB n e = false) : 200 < n ∨ n ≤ 200 ∧ (e < -30000 ∨ -30000 ≤ e ∧ 30000 < e) := by
  unfold nearB at h
  have := of_decide_eq_false h
  omega
theorem pl_len {s : Bool} {v : Nat} {e : Int} : (dg 10 (pl s v e).m).length ≤ (dg 10 v).length := by
  unfold pl
  split
  · show (dg 10 0).length ≤ _; rw [dg_zero]; exact Nat.zero_le _
  · exact dg_len_le (by omega) (core_le v)
theorem pl_e {s : Bool} {v : Nat} {e : Int} (h1 : -30000 ≤ e) (h2 : e ≤ 30000) (hz : tz v ≤ 30000) : -1000000 ≤ (pl s v e).e ∧ (pl s v e).e ≤ 1000000 := by
  unfold pl
  split
  · show -1000000 ≤ (0 : Int) ∧ (0 : Int) ≤ 1000000; omega
  · show -1000000 ≤ e + (tz v : Int) ∧ e + (tz v : Int) ≤ 1000000; omega

theorem fin3 {A : Ans} {w W : World} (h : A = ⟨3, zP⟩) (hb : Below w.heap.size w W) : ResT A w (.returned (.tuple #[.agg #[.bool false, .slice none 0 0, .int .i64 0], .int .i64 3])) W := by
  subst h
  exact ⟨none, 0, by show _ = Ending.returned (.tuple #[.agg #[.bool false, .slice none (dg 10 0).length 0, .int .i64 0], .int .i64 3]); rw [dg_zero]; rfl, RdC.zero _, hb⟩
theorem fin0 {A : Ans} {p : Pl} {a : Option Addr} {c : Nat} {w W : World} (h : A = ⟨0, p⟩) (hr : RdC W a c p.m) (hb : Below w.heap.size w W) : ResT A w (.returned (.tuple #[.agg #[.bool p.neg, .slice a (dg 10 p.m).length c, .int .i64 p.e], .int .i64 0])) W := by
  subst h
  exact ⟨a, c, rfl, hr, hb⟩

set_option maxHeartbeats 4000000 in
theorem Take_any (s : Bool) (a : Option Addr) (c : Nat) (l : List Nat) (e : Int) (w : World) (hl : l.length ≤ 9223372036854775807) (hlo : Lo 4294967296 l) (hrd : Rd w .u32 a l) :
    Calls Tryd.prog 35 #[.agg #[.bool s, .slice a l.length c, .int .i64 e]] w (ResT (normA l.length s (vl 1000000000 l) e) w) := by
  rcases hnr : nearB l.length e with _ | _
  · have hA : normA l.length s (vl 1000000000 l) e = ⟨1, zP⟩ := by unfold normA; rw [if_neg (by rw [hnr]; exact Bool.false_ne_true)]
    rw [hA]
    have hfar := near_far hnr
    clear hnr hA hlo hrd
    have fin : ∀ W, Below w.heap.size w W → ResT ⟨1, zP⟩ w (.returned (.tuple #[.agg #[.bool false, .slice none 0 0, .int .i64 0], .int .i64 1])) W := fun W hb =>
      ⟨none, 0, by show _ = Ending.returned (.tuple #[.agg #[.bool false, .slice none (dg 10 0).length 0, .int .i64 0], .int .i64 1]); rw [dg_zero]; rfl, RdC.zero _, hb⟩
    have bl : ∀ o1 o2, Below w.heap.size w ((w.alloc o1).alloc o2) := fun o1 o2 => ((Below.refl _ _).alloc (Nat.le_refl _) _).alloc (by simp) _
    have FIN := Lib.hid fin; have BL := Lib.hid bl
    clear fin bl
    rcases hfar with h | ⟨h0, h | ⟨h1, h2⟩⟩
    all_goals go_enter Tryd.func35, Tryd.ntmps35
    all_goals go_wp2
    all_goals exact bodyPost_ret (v := .tuple #[.agg #[.bool false, .slice none 0 0, .int .i64 0], .int .i64 1]) (by simp [results, Tryd.results35, go_sem]) rfl (FIN.out _ (BL.out _ _))
  · have hA : normA l.length s (vl 1000000000 l) e = tellA s (vl 1000000000 l) e := by unfold normA; rw [if_pos hnr]
    rw [hA]
    obtain ⟨n1, n2, n3⟩ := of_decide_eq_true hnr
    obtain ⟨z1, z2⟩ := near_few hlo n1
    have hd10 : (dg 10 (vl 1000000000 l)).length ≤ 1000000 := by have := dg10_le hlo l.length; rw [List.take_length] at this; omega
    have hF := fun W hb => From_any a c l W (by omega) hlo (hrd.below' (w' := W) hb (Nat.le_refl _))
    have hM := fun a1 c1 W hr => Make_any s a1 c1 (vl 1000000000 l) e W hd10 (by omega) (by omega) hr
    have hpe := pl_e (s := s) (v := vl 1000000000 l) n2 n3 z1
    have hpl := pl_len (s := s) (v := vl 1000000000 l) (e := e)
    have hpp := pl_plain s (vl 1000000000 l) e
    generalize vl 1000000000 l = v at *
    have hT : tellA s v e = if inR (pl s v e) = true then ⟨0, pl s v e⟩ else ⟨3, zP⟩ := rfl
    generalize tellA s v e = A at *
    generalize pl s v e = p at *
    have hFt := fun a1 c1 W => Fits_any p.neg a1 c1 p.m p.e W (Nat.le_trans hpl hd10) hpe.1 hpe.2 hpp
    have HF := Lib.hid hF; have HM := Lib.hid hM; have HFT := Lib.hid hFt; have HTE := Lib.hid hT
    have hi1 : ¬ (200 : Int) < (l.length : Int) := by omega
    have hi2 : ¬ e < -30000 := by omega
    have hi3 : ¬ 30000 < e := by omega
    clear hF hM hFt hpp hT hA hnr hlo hrd hpl hd10 z1 z2
    go_enter Tryd.func35, Tryd.ntmps35
    go_wp2_with fail
    have bb := ((Below.refl w.heap.size w).alloc (Nat.le_refl _) (.cells #[.bool s, .slice a l.length c, .int .i64 e] 24)).alloc (by simp) (.cells #[.bool false, .slice none 0 0, .int .i64 0] 56)
    have k0 : ((w.alloc (.cells #[.bool s, .slice a l.length c, .int .i64 e] 24)).alloc (.cells #[.bool false, .slice none 0 0, .int .i64 0] 56)).cell? ⟨w.heap.size, 0, none⟩ = some (.bool s) := by simp
    have k1 : ((w.alloc (.cells #[.bool s, .slice a l.length c, .int .i64 e] 24)).alloc (.cells #[.bool false, .slice none 0 0, .int .i64 0] 56)).cell? ⟨w.heap.size, 1, none⟩ = some (.slice a l.length c) := by simp
    have k2 : ((w.alloc (.cells #[.bool s, .slice a l.length c, .int .i64 e] 24)).alloc (.cells #[.bool false, .slice none 0 0, .int .i64 0] 56)).cell? ⟨w.heap.size, 2, none⟩ = some (.int .i64 e) := by simp
    have k3 : ((w.alloc (.cells #[.bool s, .slice a l.length c, .int .i64 e] 24)).alloc (.cells #[.bool false, .slice none 0 0, .int .i64 0] 56)).cell? ⟨w.heap.size + 1, 0, none⟩ = some (.bool false) ∧ ((w.alloc (.cells #[.bool s, .slice a l.length c, .int .i64 e] 24)).alloc (.cells #[.bool false, .slice none 0 0, .int .i64 0] 56)).cell? ⟨w.heap.size + 1, 1, none⟩ = some (.slice none 0 0) ∧ ((w.alloc (.cells #[.bool s, .slice a l.length c, .int .i64 e] 24)).alloc (.cells #[.bool false, .slice none 0 0, .int .i64 0] 56)).cell? ⟨w.heap.size + 1, 2, none⟩ = some (.int .i64 0) := ⟨by simp, by simp, by simp⟩
    have k6 : ∀ j, ((w.alloc (.cells #[.bool s, .slice a l.length c, .int .i64 e] 24)).alloc (.cells #[.bool false, .slice none 0 0, .int .i64 0] 56)).frozen? ⟨w.heap.size + 1, j, none⟩ = false := fun j => by simp
    have K3 := Lib.hid k3; have K6 := Lib.hid k6
    clear k3 k6
    generalize (w.alloc (.cells #[.bool s, .slice a l.length c, .int .i64 e] 24)).alloc (.cells #[.bool false, .slice none 0 0, .int .i64 0] 56) = w1 at *
    go_region_held3 (fun w' => w'.cell? ⟨w.heap.size, 0, none⟩ = some (.bool s) ∧ w'.cell? ⟨w.heap.size, 1, none⟩ = some (.slice a l.length c) ∧ w'.cell? ⟨w.heap.size, 2, none⟩ = some (.int .i64 e)) (first | go_keep | exact ⟨j0, j1, j2⟩ | exact ⟨i0, i1, i2⟩ | exact ⟨by simp [go_sem, i0, nx], by simp [go_sem, i1, nx], by simp [go_sem, i2, nx]⟩ | exact ⟨by simp [go_sem, i0], by simp [go_sem, i1], by simp [go_sem, i2]⟩)
      (first
        | (go_at_call 68; refine (HF.out w1.drew bb.drew).mono ?_; rintro e w2 ⟨a1, c1, rfl, ho1, hb1⟩; have hb2 := (Below.refl w1.heap.size w1).drew.trans hb1; have bb2 := bb.trans (hb2.mono bb.size); have j0 := cellB k0 hb2; have j1 := cellB k1 hb2; have j2 := cellB k2 hb2)
        | (go_at_call 68; refine (HF.out ((w1.alloc (.cells #[.bool false, .slice none 0 0, .int .i64 0] 56)).drew) (bb.alloc bb.size _).drew).mono ?_; rintro e w2 ⟨a1, c1, rfl, ho1, hb1⟩; have hb2 := ((Below.refl w1.heap.size w1).alloc (Nat.le_refl _) (.cells #[.bool false, .slice none 0 0, .int .i64 0] 56)).drew.trans (hb1.mono (by simp)); have bb2 := bb.trans (hb2.mono bb.size); have j0 := cellB k0 hb2; have j1 := cellB k1 hb2; have j2 := cellB k2 hb2; have y0 : w2.cell? ⟨w1.heap.size, 0, none⟩ = some (.bool false) := (by rw [hb1.cell (by simp)]; simp); have y1 : w2.cell? ⟨w1.heap.size, 1, none⟩ = some (.slice none 0 0) := (by rw [hb1.cell (by simp)]; simp); have y2 : w2.cell? ⟨w1.heap.size, 2, none⟩ = some (.int .i64 0) := (by rw [hb1.cell (by simp)]; simp); have yf : ∀ j, w2.frozen? ⟨w1.heap.size, j, none⟩ = false := (fun j => by rw [hb1.frozen (by simp)]; simp); have YF := Lib.hid yf; clear yf)
        | (go_at_call 42; have q0 := y0; refine (HM.out a1 c1 w2 (RdC.ofOwn ho1)).mono ?_; rintro e w3 ⟨a3, c3, rfl, hr3, hb3⟩; have hb4 := hb3; have i0 := cellB j0 hb4; have i1 := cellB j1 hb4; have i2 := cellB j2 hb4; have x0 := cellB y0 hb4; have x1 := cellB y1 hb4; have x2 := cellB y2 hb4; have nx : ¬ w1.heap.size = w.heap.size := (Nat.ne_of_gt (lt_of_cell k0)); have xf : ∀ j, w3.frozen? ⟨w1.heap.size, j, none⟩ = false := (fun j => by rw [hb3.frozen (p := ⟨w1.heap.size, j, none⟩) (show w1.heap.size < w2.heap.size from lt_of_cell y0)]; exact YF.out j); have ZF := Lib.hid (fun w5 v0 v1 v2 => @stored3 w3 w5 w1.heap.size _ _ _ v0 v1 v2 x0 x1 x2))
        | (go_at_call 42; refine (HM.out a1 c1 w2 (RdC.ofOwn ho1)).mono ?_; rintro e w3 ⟨a3, c3, rfl, hr3, hb3⟩; have hb4 := hb3; have i0 := cellB j0 hb4; have i1 := cellB j1 hb4; have i2 := cellB j2 hb4; have nx : ¬ w3.heap.size = w.heap.size := (Nat.ne_of_gt (lt_of_cell i0)); have ZF := Lib.hid (fun w5 v0 v1 v2 => @stored3a w3 w5 56 v0 v1 v2))
        | (go_at_call 42; refine (HM.out a1 c1 (w2.alloc (.cells #[.bool false, .slice none 0 0, .int .i64 0] 56)) ((RdC.ofOwn ho1).below ((Below.refl _ _).alloc (Nat.le_refl _) _))).mono ?_; rintro e w3 ⟨a3, c3, rfl, hr3, hb3⟩; have hb4 := ((Below.refl w2.heap.size w2).alloc (Nat.le_refl _) (.cells #[.bool false, .slice none 0 0, .int .i64 0] 56)).trans (hb3.mono (by simp)); have i0 := cellB j0 hb4; have i1 := cellB j1 hb4; have i2 := cellB j2 hb4; have nx : ¬ w2.heap.size = w.heap.size := (Nat.ne_of_gt (lt_of_cell j0)); have x0 : w3.cell? ⟨w2.heap.size, 0, none⟩ = some (.bool false) := (by rw [hb3.cell (by simp)]; simp); have x1 : w3.cell? ⟨w2.heap.size, 1, none⟩ = some (.slice none 0 0) := (by rw [hb3.cell (by simp)]; simp); have x2 : w3.cell? ⟨w2.heap.size, 2, none⟩ = some (.int .i64 0) := (by rw [hb3.cell (by simp)]; simp); have xf : ∀ j, w3.frozen? ⟨w2.heap.size, j, none⟩ = false := (fun j => by rw [hb3.frozen (by simp)]; simp); have ZF := Lib.hid (fun w5 v0 v1 v2 => @stored3 w3 w5 w2.heap.size _ _ _ v0 v1 v2 x0 x1 x2)))
    all_goals go_wp2_with fail
    all_goals have m1 : w.heap.size + 1 < w1.heap.size := lt_of_cell K3.out.1
    all_goals have m2 : w1.heap.size ≤ w2.heap.size := hb2.size
    all_goals have m3 : w2.heap.size ≤ w3.heap.size := hb4.size
    all_goals have bb3 := bb2.trans (hb4.mono bb2.size)
    all_goals have m4 : w.heap.size + 1 < w3.heap.size := by omega
    all_goals have g1 : ¬ w1.heap.size = w.heap.size + 1 := by omega
    all_goals have g2 : ¬ w2.heap.size = w.heap.size + 1 := by omega
    all_goals have g3 : ¬ w3.heap.size = w.heap.size + 1 := by omega
    all_goals refine (HFT.out a3 c3 _).mono ?_
    all_goals rintro r w5 ⟨rfl, hb5⟩
    all_goals have b13 := hb2.trans (hb4.mono hb2.size)
    all_goals have b15 : Below w1.heap.size w1 w5 := (by first | exact (b13.alloc b13.size _).trans (hb5.mono (by simp; omega)) | exact (((b13.setCell (by simp; try omega) _).setCell (by simp; try omega) _).setCell (by simp; try omega) _).trans (hb5.mono (by simp; omega)))
    all_goals have bb5 := bb.trans (b15.mono bb.size)
    all_goals have u0 := cellB K3.out.1 b15
    all_goals have u1 := cellB K3.out.2.1 b15
    all_goals have u2 := cellB K3.out.2.2 b15
    all_goals have uf : ∀ j, w5.frozen? ⟨w.heap.size + 1, j, none⟩ = false := (fun j => by rw [b15.frozen (p := ⟨w.heap.size + 1, j, none⟩) m1]; exact K6.out j)
    all_goals have HR5 : Hid (RdC w5 a3 c3 p.m) := (by refine Lib.hid (RdC.below ?_ hb5); first | exact hr3.below ((Below.refl _ _).alloc (Nat.le_refl _) _) | exact ⟨((hr3.1.setOther x0 (by intro n h; cases h)).setOther (v0 := .slice none 0 0) (by simp [go_sem, x1]) (by intro n h; cases h)).setOther (v0 := .int .i64 0) (by simp [go_sem, x2]) (by intro n h; cases h), hr3.2⟩)
    all_goals obtain ⟨z0, z1, z2⟩ := ZF.out _ _ _ _ hb5
    all_goals obtain ⟨hc, hf⟩ := bcell hb5
    all_goals have HBB := Lib.hid bb5
    all_goals clear bb bb2 bb3 bb5 b13 b15 hb1 hb2 hb3 hb4 hb5 hr3 ho1
    all_goals have hA0 : inR p = false → A = ⟨3, zP⟩ := fun h => (by rw [HTE.out, if_neg (by rw [h]; exact Bool.false_ne_true)])
    all_goals have hA1 : inR p = true → A = ⟨0, p⟩ := fun h => (by rw [HTE.out, if_pos h])
    all_goals have HA0 := Lib.hid hA0; have HA1 := Lib.hid hA1
    all_goals clear hA0 hA1
    all_goals rcases hin : inR p with _ | _
    all_goals (have HIN := Lib.hid hin; clear hin)
    all_goals go_wp2
    all_goals first
      | (refine bodyPost_ret (v := .tuple #[.agg #[.bool false, .slice none 0 0, .int .i64 0], .int .i64 3]) ?_ rfl ?_
         · simp [results, Tryd.results35, go_sem, u0, u1, u2]
         · exact fin3 (HA0.out HIN.out) (((HBB.out.setCell (Nat.le_succ _) _).setCell (Nat.le_succ _) _).setCell (Nat.le_succ _) _))
      | (refine bodyPost_ret (v := .tuple #[.agg #[.bool p.neg, .slice a3 (dg 10 p.m).length c3, .int .i64 p.e], .int .i64 0]) ?_ rfl ?_
         · simp [results, Tryd.results35, go_sem, u0, u1, u2]
         · exact fin0 (HA1.out HIN.out) ⟨((HR5.out.1.setOther u0 (by intro n h; cases h)).setOther (v0 := .slice none 0 0) (by simp [go_sem, u1]) (by intro n h; cases h)).setOther (v0 := .int .i64 0) (by simp [go_sem, u2]) (by intro n h; cases h), HR5.out.2⟩ (((HBB.out.setCell (Nat.le_succ _) _).setCell (Nat.le_succ _) _).setCell (Nat.le_succ _) _))
end Go.Proofs.YtofeckdhhaoobaaDoor
