/- Walks of the document's answer for dec: Take, To, Norm, Same. -/
import Derived.Test.YtimfpgpomafflaaGreatDoorDecAs
import Derived.Deep.DeepMust
namespace Go.Proofs.YtimfpgpomafflaaGreatDoor
open Go.RowKit LM

theorem cellB {w w' : World} {p : Addr} {v : Value} (h : w.cell? p = some v) (hb : Below w.heap.size w w') : w'.cell? p = some v := by rw [hb.cell (lt_of_cell h)]; exact h
theorem Rd.setOther {w : World} {k : IntKind} {a : Option Addr} {l : List Nat} {g j : Nat} {v v0 : Value} (h : Rd w k a l) (h0 : w.cell? ⟨g, j, none⟩ = some v0) (hne : ∀ n, v0 ≠ .int k n) : Rd (w.setCell ⟨g, j, none⟩ v) k a l := by
  intro i hi
  obtain ⟨b, off, e, hc⟩ := h i hi
  refine ⟨b, off, e, ?_⟩
  rw [World.cell?_setCell_other]
  · exact hc
  · intro e2
    rw [← e2, h0] at hc
    exact hne _ (Option.some.inj hc)
theorem stored3 {w3 w5 : World} {X : Nat} {a0 a1 a2 v0 v1 v2 : Value} (x0 : w3.cell? ⟨X, 0, none⟩ = some a0) (x1 : w3.cell? ⟨X, 1, none⟩ = some a1) (x2 : w3.cell? ⟨X, 2, none⟩ = some a2)
    (hb : Below (((w3.setCell ⟨X, 0, none⟩ v0).setCell ⟨X, 1, none⟩ v1).setCell ⟨X, 2, none⟩ v2).heap.size (((w3.setCell ⟨X, 0, none⟩ v0).setCell ⟨X, 1, none⟩ v1).setCell ⟨X, 2, none⟩ v2) w5) :
    w5.cell? ⟨X, 0, none⟩ = some v0 ∧ w5.cell? ⟨X, 1, none⟩ = some v1 ∧ w5.cell? ⟨X, 2, none⟩ = some v2 := by
  have h := lt_of_cell x0
  refine ⟨?_, ?_, ?_⟩
  · rw [hb.cell (by simpa using h)]; simp [go_sem, x0, x1, x2]
  · rw [hb.cell (by simpa using h)]; simp [go_sem, x0, x1, x2]
  · rw [hb.cell (by simpa using h)]; simp [go_sem, x0, x1, x2]
theorem stored3a {w3 w5 : World} {t : TypeId} {v0 v1 v2 : Value} (hb : Below (w3.alloc (.cells #[v0, v1, v2] t)).heap.size (w3.alloc (.cells #[v0, v1, v2] t)) w5) :
    w5.cell? ⟨w3.heap.size, 0, none⟩ = some v0 ∧ w5.cell? ⟨w3.heap.size, 1, none⟩ = some v1 ∧ w5.cell? ⟨w3.heap.size, 2, none⟩ = some v2 :=
  ⟨by rw [hb.cell (by simp)]; simp, by rw [hb.cell (by simp)]; simp, by rw [hb.cell (by simp)]; simp⟩
def ResT (A : Ans) (w : World) (r : Ending) (w' : World) : Prop := ∃ a' c', r = .returned (.tuple #[.agg #[.bool A.p.neg, .slice a' (dg 10 A.p.m).length c', .int .i64 A.p.e], .int .i64 (A.err : Nat)]) ∧ RdC w' a' c' A.p.m ∧ Below w.heap.size w w'

theorem near_far {n : Nat} {e : Int} (h : nearB n e = false) : 200 < n ∨ n ≤ 200 ∧ (e < -30000 ∨ -30000 ≤ e ∧ 30000 < e) := by
  unfold nearB at h
  have := of_decide_eq_false h
  omega
theorem pl_len {s : Bool} {v : Nat} {e : Int} : (dg 10 (pl s v e).m).length ≤ (dg 10 v).length := by
  unfold pl
  split
  · show (dg 10 0).length ≤ _; rw [dg_zero]; exact Nat.zero_le _
  · exact dg_len_le (by omega) (core_le v)
theorem pl_e {s : Bool} {v : Nat} {e : Int} (h1 : -30000 ≤ e) (h2 : e ≤ 30000) (hz : tz v ≤ 30000) : -1000000 ≤ (pl s v e).e ∧ (pl s v e).e ≤ 1000000 := by
  unfold pl
  split
  · show -1000000 ≤ (0 : Int) ∧ (0 : Int) ≤ 1000000; omega
  · show -1000000 ≤ e + (tz v : Int) ∧ e + (tz v : Int) ≤ 1000000; omega

theorem fin3 {A : Ans} {w W : World} (h : A = ⟨3, zP⟩) (hb : Below w.heap.size w W) : ResT A w (.returned (.tuple #[.agg #[.bool false, .slice none 0 0, .int .i64 0], .int .i64 3])) W := by
  subst h
  exact ⟨none, 0, by show _ = Ending.returned (.tuple #[.agg #[.bool false, .slice none (dg 10 0).length 0, .int .i64 0], .int .i64 3]); rw [dg_zero]; rfl, RdC.zero _, hb⟩
theorem fin0 {A : Ans} {p : Pl} {a : Option Addr} {c : Nat} {w W : World} (h : A = ⟨0, p⟩) (hr : RdC W a c p.m) (hb : Below w.heap.size w W) : ResT A w (.returned (.tuple #[.agg #[.bool p.neg, .slice a (dg 10 p.m).length c, .int .i64 p.e], .int .i64 0])) W := by
  subst h
  exact ⟨a, c, rfl, hr, hb⟩

set_option maxHeartbeats 4000000 in
theorem Take_any (s : Bool) (a : Option Addr) (c : Nat) (l : List Nat) (e : Int) (w : World) (hl : l.length ≤ 9223372036854775807) (hlo : Lo 4294967296 l) (hrd : Rd w .u32 a l) :
    Calls Tryz.prog 52 #[.agg #[.bool s, .slice a l.length c, .int .i64 e]] w (ResT (normA l.length s (vl 1000000000 l) e) w) := by
  rcases hnr : nearB l.length e with _ | _
  · have hA : normA l.length s (vl 1000000000 l) e = ⟨1, zP⟩ := by unfold normA; rw [if_neg (by rw [hnr]; exact Bool.false_ne_true)]
    rw [hA]
    have hfar := near_far hnr
    clear hnr hA hlo hrd
    have fin : ∀ W, Below w.heap.size w W → ResT ⟨1, zP⟩ w (.returned (.tuple #[.agg #[.bool false, .slice none 0 0, .int .i64 0], .int .i64 1])) W := fun W hb =>
      ⟨none, 0, by show _ = Ending.returned (.tuple #[.agg #[.bool false, .slice none (dg 10 0).length 0, .int .i64 0], .int .i64 1]); rw [dg_zero]; rfl, RdC.zero _, hb⟩
    have bl : ∀ o1 o2, Below w.heap.size w ((w.alloc o1).alloc o2) := fun o1 o2 => ((Below.refl _ _).alloc (Nat.le_refl _) _).alloc (by simp) _
    have FIN := Lib.hid fin; have BL := Lib.hid bl
    clear fin bl
    rcases hfar with h | ⟨h0, h | ⟨h1, h2⟩⟩
    all_goals go_enter Tryz.func52, Tryz.ntmps52
    all_goals go_wp2
    all_goals exact bodyPost_ret (v := .tuple #[.agg #[.bool false, .slice none 0 0, .int .i64 0], .int .i64 1]) (by simp [results, Tryz.results52, go_sem]) rfl (FIN.out _ (BL.out _ _))
  · have hA : normA l.length s (vl 1000000000 l) e = tellA s (vl 1000000000 l) e := by unfold normA; rw [if_pos hnr]
    rw [hA]
    obtain ⟨n1, n2, n3⟩ := of_decide_eq_true hnr
    obtain ⟨z1, z2⟩ := near_few hlo n1
    have hd10 : (dg 10 (vl 1000000000 l)).length ≤ 1000000 := by have := dg10_le hlo l.length; rw [List.take_length] at this; omega
    have hF := fun W hb => From_any a c l W (by omega) hlo (hrd.below' (w' := W) hb (Nat.le_refl _))
    have hM := fun a1 c1 W hr => Make_any s a1 c1 (vl 1000000000 l) e W hd10 (by omega) (by omega) hr
    have hpe := pl_e (s := s) (v := vl 1000000000 l) n2 n3 z1
    have hpl := pl_len (s := s) (v := vl 1000000000 l) (e := e)
    have hpp := pl_plain s (vl 1000000000 l) e
    generalize vl 1000000000 l = v at *
    have hT : tellA s v e = if inR (pl s v e) = true then ⟨0, pl s v e⟩ else ⟨3, zP⟩ := rfl
    generalize tellA s v e = A at *
    generalize pl s v e = p at *
    have hFt := fun a1 c1 W => Fits_any p.neg a1 c1 p.m p.e W (Nat.le_trans hpl hd10) hpe.1 hpe.2 hpp
    have HF := Lib.hid hF; have HM := Lib.hid hM; have HFT := Lib.hid hFt; have HTE := Lib.hid hT
    have hi1 : ¬ (200 : Int) < (l.length : Int) := by omega
    have hi2 : ¬ e < -30000 := by omega
    have hi3 : ¬ 30000 < e := by omega
    clear hF hM hFt hpp hT hA hnr hlo hrd hpl hd10 z1 z2
    go_enter Tryz.func52, Tryz.ntmps52
    go_wp2_with fail
    have bb := ((Below.refl w.heap.size w).alloc (Nat.le_refl _) (.cells #[.bool s, .slice a l.length c, .int .i64 e] 24)).alloc (by simp) (.cells #[.bool false, .slice none 0 0, .int .i64 0] 53)
    have k0 : ((w.alloc (.cells #[.bool s, .slice a l.length c, .int .i64 e] 24)).alloc (.cells #[.bool false, .slice none 0 0, .int .i64 0] 53)).cell? ⟨w.heap.size, 0, none⟩ = some (.bool s) := by simp
    have k1 : ((w.alloc (.cells #[.bool s, .slice a l.length c, .int .i64 e] 24)).alloc (.cells #[.bool false, .slice none 0 0, .int .i64 0] 53)).cell? ⟨w.heap.size, 1, none⟩ = some (.slice a l.length c) := by simp
    have k2 : ((w.alloc (.cells #[.bool s, .slice a l.length c, .int .i64 e] 24)).alloc (.cells #[.bool false, .slice none 0 0, .int .i64 0] 53)).cell? ⟨w.heap.size, 2, none⟩ = some (.int .i64 e) := by simp
    have k3 : ((w.alloc (.cells #[.bool s, .slice a l.length c, .int .i64 e] 24)).alloc (.cells #[.bool false, .slice none 0 0, .int .i64 0] 53)).cell? ⟨w.heap.size + 1, 0, none⟩ = some (.bool false) ∧ ((w.alloc (.cells #[.bool s, .slice a l.length c, .int .i64 e] 24)).alloc (.cells #[.bool false, .slice none 0 0, .int .i64 0] 53)).cell? ⟨w.heap.size + 1, 1, none⟩ = some (.slice none 0 0) ∧ ((w.alloc (.cells #[.bool s, .slice a l.length c, .int .i64 e] 24)).alloc (.cells #[.bool false, .slice none 0 0, .int .i64 0] 53)).cell? ⟨w.heap.size + 1, 2, none⟩ = some (.int .i64 0) := ⟨by simp, by simp, by simp⟩
    have k6 : ∀ j, ((w.alloc (.cells #[.bool s, .slice a l.length c, .int .i64 e] 24)).alloc (.cells #[.bool false, .slice none 0 0, .int .i64 0] 53)).frozen? ⟨w.heap.size + 1, j, none⟩ = false := fun j => by simp
    have K3 := Lib.hid k3; have K6 := Lib.hid k6
    clear k3 k6
    generalize (w.alloc (.cells #[.bool s, .slice a l.length c, .int .i64 e] 24)).alloc (.cells #[.bool false, .slice none 0 0, .int .i64 0] 53) = w1 at *
    go_region_held3 (fun w' => w'.cell? ⟨w.heap.size, 0, none⟩ = some (.bool s) ∧ w'.cell? ⟨w.heap.size, 1, none⟩ = some (.slice a l.length c) ∧ w'.cell? ⟨w.heap.size, 2, none⟩ = some (.int .i64 e)) (first | go_keep | exact ⟨j0, j1, j2⟩ | exact ⟨i0, i1, i2⟩ | exact ⟨by simp [go_sem, i0, nx], by simp [go_sem, i1, nx], by simp [go_sem, i2, nx]⟩ | exact ⟨by simp [go_sem, i0], by simp [go_sem, i1], by simp [go_sem, i2]⟩)
      (first
        | (go_at_call 86; refine (HF.out w1.drew bb.drew).mono ?_; rintro e w2 ⟨a1, c1, rfl, ho1, hb1⟩; have hb2 := (Below.refl w1.heap.size w1).drew.trans hb1; have bb2 := bb.trans (hb2.mono bb.size); have j0 := cellB k0 hb2; have j1 := cellB k1 hb2; have j2 := cellB k2 hb2)
        | (go_at_call 86; refine (HF.out ((w1.alloc (.cells #[.bool false, .slice none 0 0, .int .i64 0] 53)).drew) (bb.alloc bb.size _).drew).mono ?_; rintro e w2 ⟨a1, c1, rfl, ho1, hb1⟩; have hb2 := ((Below.refl w1.heap.size w1).alloc (Nat.le_refl _) (.cells #[.bool false, .slice none 0 0, .int .i64 0] 53)).drew.trans (hb1.mono (by simp)); have bb2 := bb.trans (hb2.mono bb.size); have j0 := cellB k0 hb2; have j1 := cellB k1 hb2; have j2 := cellB k2 hb2; have y0 : w2.cell? ⟨w1.heap.size, 0, none⟩ = some (.bool false) := (by rw [hb1.cell (by simp)]; simp); have y1 : w2.cell? ⟨w1.heap.size, 1, none⟩ = some (.slice none 0 0) := (by rw [hb1.cell (by simp)]; simp); have y2 : w2.cell? ⟨w1.heap.size, 2, none⟩ = some (.int .i64 0) := (by rw [hb1.cell (by simp)]; simp); have yf : ∀ j, w2.frozen? ⟨w1.heap.size, j, none⟩ = false := (fun j => by rw [hb1.frozen (by simp)]; simp); have YF := Lib.hid yf; clear yf)
        | (go_at_call 50; have q0 := y0; refine (HM.out a1 c1 w2 (RdC.ofOwn ho1)).mono ?_; rintro e w3 ⟨a3, c3, rfl, hr3, hb3⟩; have hb4 := hb3; have i0 := cellB j0 hb4; have i1 := cellB j1 hb4; have i2 := cellB j2 hb4; have x0 := cellB y0 hb4; have x1 := cellB y1 hb4; have x2 := cellB y2 hb4; have nx : ¬ w1.heap.size = w.heap.size := (Nat.ne_of_gt (lt_of_cell k0)); have xf : ∀ j, w3.frozen? ⟨w1.heap.size, j, none⟩ = false := (fun j => by rw [hb3.frozen (p := ⟨w1.heap.size, j, none⟩) (show w1.heap.size < w2.heap.size from lt_of_cell y0)]; exact YF.out j); have ZF := Lib.hid (fun w5 v0 v1 v2 => @stored3 w3 w5 w1.heap.size _ _ _ v0 v1 v2 x0 x1 x2))
        | (go_at_call 50; refine (HM.out a1 c1 w2 (RdC.ofOwn ho1)).mono ?_; rintro e w3 ⟨a3, c3, rfl, hr3, hb3⟩; have hb4 := hb3; have i0 := cellB j0 hb4; have i1 := cellB j1 hb4; have i2 := cellB j2 hb4; have nx : ¬ w3.heap.size = w.heap.size := (Nat.ne_of_gt (lt_of_cell i0)); have ZF := Lib.hid (fun w5 v0 v1 v2 => @stored3a w3 w5 53 v0 v1 v2))
        | (go_at_call 50; refine (HM.out a1 c1 (w2.alloc (.cells #[.bool false, .slice none 0 0, .int .i64 0] 53)) ((RdC.ofOwn ho1).below ((Below.refl _ _).alloc (Nat.le_refl _) _))).mono ?_; rintro e w3 ⟨a3, c3, rfl, hr3, hb3⟩; have hb4 := ((Below.refl w2.heap.size w2).alloc (Nat.le_refl _) (.cells #[.bool false, .slice none 0 0, .int .i64 0] 53)).trans (hb3.mono (by simp)); have i0 := cellB j0 hb4; have i1 := cellB j1 hb4; have i2 := cellB j2 hb4; have nx : ¬ w2.heap.size = w.heap.size := (Nat.ne_of_gt (lt_of_cell j0)); have x0 : w3.cell? ⟨w2.heap.size, 0, none⟩ = some (.bool false) := (by rw [hb3.cell (by simp)]; simp); have x1 : w3.cell? ⟨w2.heap.size, 1, none⟩ = some (.slice none 0 0) := (by rw [hb3.cell (by simp)]; simp); have x2 : w3.cell? ⟨w2.heap.size, 2, none⟩ = some (.int .i64 0) := (by rw [hb3.cell (by simp)]; simp); have xf : ∀ j, w3.frozen? ⟨w2.heap.size, j, none⟩ = false := (fun j => by rw [hb3.frozen (by simp)]; simp); have ZF := Lib.hid (fun w5 v0 v1 v2 => @stored3 w3 w5 w2.heap.size _ _ _ v0 v1 v2 x0 x1 x2)))
    all_goals go_wp2_with fail
    all_goals have m1 : w.heap.size + 1 < w1.heap.size := lt_of_cell K3.out.1
    all_goals have m2 : w1.heap.size ≤ w2.heap.size := hb2.size
    all_goals have m3 : w2.heap.size ≤ w3.heap.size := hb4.size
    all_goals have bb3 := bb2.trans (hb4.mono bb2.size)
    all_goals have m4 : w.heap.size + 1 < w3.heap.size := by omega
    all_goals have g1 : ¬ w1.heap.size = w.heap.size + 1 := by omega
    all_goals have g2 : ¬ w2.heap.size = w.heap.size + 1 := by omega
    all_goals have g3 : ¬ w3.heap.size = w.heap.size + 1 := by omega
    all_goals refine (HFT.out a3 c3 _).mono ?_
    all_goals rintro r w5 ⟨rfl, hb5⟩
    all_goals have b13 := hb2.trans (hb4.mono hb2.size)
    all_goals have b15 : Below w1.heap.size w1 w5 := (by first | exact (b13.alloc b13.size _).trans (hb5.mono (by simp; omega)) | exact (((b13.setCell (by simp; try omega) _).setCell (by simp; try omega) _).setCell (by simp; try omega) _).trans (hb5.mono (by simp; omega)))
    all_goals have bb5 := bb.trans (b15.mono bb.size)
    all_goals have u0 := cellB K3.out.1 b15
    all_goals have u1 := cellB K3.out.2.1 b15
    all_goals have u2 := cellB K3.out.2.2 b15
    all_goals have uf : ∀ j, w5.frozen? ⟨w.heap.size + 1, j, none⟩ = false := (fun j => by rw [b15.frozen (p := ⟨w.heap.size + 1, j, none⟩) m1]; exact K6.out j)
    all_goals have HR5 : Hid (RdC w5 a3 c3 p.m) := (by refine Lib.hid (RdC.below ?_ hb5); first | exact hr3.below ((Below.refl _ _).alloc (Nat.le_refl _) _) | exact ⟨((hr3.1.setOther x0 (by intro n h; cases h)).setOther (v0 := .slice none 0 0) (by simp [go_sem, x1]) (by intro n h; cases h)).setOther (v0 := .int .i64 0) (by simp [go_sem, x2]) (by intro n h; cases h), hr3.2⟩)
    all_goals obtain ⟨z0, z1, z2⟩ := ZF.out _ _ _ _ hb5
    all_goals obtain ⟨hc, hf⟩ := bcell hb5
    all_goals have HBB := Lib.hid bb5
    all_goals clear bb bb2 bb3 bb5 b13 b15 hb1 hb2 hb3 hb4 hb5 hr3 ho1
    all_goals have hA0 : inR p = false → A = ⟨3, zP⟩ := fun h => (by rw [HTE.out, if_neg (by rw [h]; exact Bool.false_ne_true)])
    all_goals have hA1 : inR p = true → A = ⟨0, p⟩ := fun h => (by rw [HTE.out, if_pos h])
    all_goals have HA0 := Lib.hid hA0; have HA1 := Lib.hid hA1
    all_goals clear hA0 hA1
    all_goals rcases hin : inR p with _ | _
    all_goals (have HIN := Lib.hid hin; clear hin)
    all_goals go_wp2
    all_goals first
      | (refine bodyPost_ret (v := .tuple #[.agg #[.bool false, .slice none 0 0, .int .i64 0], .int .i64 3]) ?_ rfl ?_
         · simp [results, Tryz.results52, go_sem, u0, u1, u2]
         · exact fin3 (HA0.out HIN.out) (((HBB.out.setCell (Nat.le_succ _) _).setCell (Nat.le_succ _) _).setCell (Nat.le_succ _) _))
      | (refine bodyPost_ret (v := .tuple #[.agg #[.bool p.neg, .slice a3 (dg 10 p.m).length c3, .int .i64 p.e], .int .i64 0]) ?_ rfl ?_
         · simp [results, Tryz.results52, go_sem, u0, u1, u2]
         · exact fin0 (HA1.out HIN.out) ⟨((HR5.out.1.setOther u0 (by intro n h; cases h)).setOther (v0 := .slice none 0 0) (by simp [go_sem, u1]) (by intro n h; cases h)).setOther (v0 := .int .i64 0) (by simp [go_sem, u2]) (by intro n h; cases h), HR5.out.2⟩ (((HBB.out.setCell (Nat.le_succ _) _).setCell (Nat.le_succ _) _).setCell (Nat.le_succ _) _))
end Go.Proofs.YtimfpgpomafflaaGreatDoor

/- Walks of the document's answer for dec: To, Norm, Same. -/
namespace Go.Proofs.YtimfpgpomafflaaGreatDoor
open Go.RowKit LM

def ResV (p : Pl) (w : World) (r : Ending) (w' : World) : Prop := ∃ a' c', r = .returned (.agg #[.bool p.neg, .slice a' (dg 1000000000 p.m).length c', .int .i64 p.e]) ∧ Own w' w.heap.size 40 .u32 a' c' (dg 1000000000 p.m) ∧ Below w.heap.size w w'

set_option maxHeartbeats 4000000 in
theorem ToD_any (p : Pl) (a : Option Addr) (c : Nat) (w : World) (hl : (dg 10 p.m).length ≤ 1000000) (hr : RdC w a c p.m) :
    Calls Tryz.prog 49 #[.agg #[.bool p.neg, .slice a (dg 10 p.m).length c, .int .i64 p.e]] w (ResV p w) := by
  have hT := fun W hb => To_any a c p.m W (by omega) (hr.1.below' (w' := W) hb (Nat.le_refl _))
  have HT := Lib.hid hT
  obtain ⟨s, m, e⟩ := p
  simp only at hl HT ⊢
  obtain ⟨n, hn⟩ : ∃ n, n = (dg 10 m).length := ⟨_, rfl⟩
  rw [← hn] at hT ⊢
  have HT := Lib.hid hT
  clear hT hn hr
  go_enter Tryz.func49, Tryz.ntmps49
  go_wp2_with fail
  have bb := ((Below.refl w.heap.size w).alloc (Nat.le_refl _) (.cells #[.bool s, .slice a n c, .int .i64 e] 53)).alloc (by simp) (.cells #[.bool false, .slice none 0 0, .int .i64 0] 24)
  have k0 : ((w.alloc (.cells #[.bool s, .slice a n c, .int .i64 e] 53)).alloc (.cells #[.bool false, .slice none 0 0, .int .i64 0] 24)).cell? ⟨w.heap.size, 0, none⟩ = some (.bool s) := by simp
  have k1 : ((w.alloc (.cells #[.bool s, .slice a n c, .int .i64 e] 53)).alloc (.cells #[.bool false, .slice none 0 0, .int .i64 0] 24)).cell? ⟨w.heap.size, 1, none⟩ = some (.slice a n c) := by simp
  have k2 : ((w.alloc (.cells #[.bool s, .slice a n c, .int .i64 e] 53)).alloc (.cells #[.bool false, .slice none 0 0, .int .i64 0] 24)).cell? ⟨w.heap.size, 2, none⟩ = some (.int .i64 e) := by simp
  have K3 := Lib.hid (show ((w.alloc (.cells #[.bool s, .slice a n c, .int .i64 e] 53)).alloc (.cells #[.bool false, .slice none 0 0, .int .i64 0] 24)).cell? ⟨w.heap.size + 1, 0, none⟩ = some (.bool false) by simp)
  have K4 := Lib.hid (show ((w.alloc (.cells #[.bool s, .slice a n c, .int .i64 e] 53)).alloc (.cells #[.bool false, .slice none 0 0, .int .i64 0] 24)).cell? ⟨w.heap.size + 1, 1, none⟩ = some (.slice none 0 0) by simp)
  have K5 := Lib.hid (show ((w.alloc (.cells #[.bool s, .slice a n c, .int .i64 e] 53)).alloc (.cells #[.bool false, .slice none 0 0, .int .i64 0] 24)).cell? ⟨w.heap.size + 1, 2, none⟩ = some (.int .i64 0) by simp)
  have K6 := Lib.hid (show ∀ j, ((w.alloc (.cells #[.bool s, .slice a n c, .int .i64 e] 53)).alloc (.cells #[.bool false, .slice none 0 0, .int .i64 0] 24)).frozen? ⟨w.heap.size + 1, j, none⟩ = false by intro j; simp)
  generalize ((w.alloc (.cells #[.bool s, .slice a n c, .int .i64 e] 53)).alloc (.cells #[.bool false, .slice none 0 0, .int .i64 0] 24)) = w1 at *
  have m1 : w.heap.size + 1 < w1.heap.size := lt_of_cell K3.out
  go_region_held3 (fun w' => w'.cell? ⟨w.heap.size, 0, none⟩ = some (.bool s) ∧ w'.cell? ⟨w.heap.size, 1, none⟩ = some (.slice a n c) ∧ w'.cell? ⟨w.heap.size, 2, none⟩ = some (.int .i64 e)) (first | go_keep | exact ⟨i0, i1, i2⟩)
    ((go_at_call 85; refine (HT.out _ bb.drew).mono ?_; rintro e w2 ⟨a1, c1, rfl, ho1, hb1⟩; have hb2 := (Below.refl w1.heap.size w1).drew.trans hb1; have i0 := cellB k0 hb2; have i1 := cellB k1 hb2; have i2 := cellB k2 hb2; have u0 := cellB K3.out hb2; have u1 := cellB K4.out hb2; have u2 := cellB K5.out hb2; have uf : ∀ j, w2.frozen? ⟨w.heap.size + 1, j, none⟩ = false := (fun j => by rw [hb2.frozen (p := ⟨w.heap.size + 1, j, none⟩) m1]; exact K6.out j)))
  have ap := ho1.apart m1
  have b2 := bb.trans (hb2.mono bb.size)
  have hown := ho1.mono bb.size
  go_wp2
  refine bodyPost_ret (v := .agg #[.bool s, .slice a1 (dg 1000000000 m).length c1, .int .i64 e]) (by simp [results, Tryz.results49, go_sem, u0, u1, u2]) rfl ?_
  exact ⟨a1, c1, rfl, ((hown.setFar ap _ _).setFar ap _ _).setFar ap _ _, ((b2.setCell (Nat.le_succ _) _).setCell (Nat.le_succ _) _).setCell (Nat.le_succ _) _⟩

theorem normA_dl (n : Nat) (s : Bool) (v : Nat) (e : Int) : (dg 10 (normA n s v e).p.m).length ≤ 1000000 := by
  have := (inR_bounds (normA_in n s v e)).1
  unfold dl at this; omega
def ResN (A : Ans) (w : World) (r : Ending) (w' : World) : Prop := ∃ a' c', r = .returned (.tuple #[.agg #[.bool A.p.neg, .slice a' (dg 1000000000 A.p.m).length c', .int .i64 A.p.e], .int .i64 (A.err : Nat)]) ∧ Own w' w.heap.size 40 .u32 a' c' (dg 1000000000 A.p.m) ∧ Below w.heap.size w w'

def sameB (s1 s2 : Bool) (e1 e2 : Int) (l1 l2 : List Nat) : Bool := s1 == s2 && (decide (e1 = e2) && decide (l1 = l2))

set_option maxHeartbeats 4000000 in
theorem SameD_any (s1 s2 : Bool) (a1 a2 : Option Addr) (c1 c2 : Nat) (l1 l2 : List Nat) (e1 e2 : Int) (w : World) (h1 : l1.length ≤ 9223372036854775807) (h2 : l2.length ≤ 9223372036854775807) (r1 : Rd w .u32 a1 l1) (r2 : Rd w .u32 a2 l2) :
    Calls Tryz.prog 40 #[.agg #[.bool s1, .slice a1 l1.length c1, .int .i64 e1], .agg #[.bool s2, .slice a2 l2.length c2, .int .i64 e2]] w fun r w' => r = .returned (.bool (sameB s1 s2 e1 e2 l1 l2)) ∧ Below w.heap.size w w' := by
  have hS := fun W hb => Same_any a1 a2 c1 c2 l1 l2 W h1 h2 (r1.below' (w' := W) hb (Nat.le_refl _)) (r2.below' hb (Nat.le_refl _))
  have hV : sameB s1 s2 e1 e2 l1 l2 = (s1 == s2 && (decide (e1 = e2) && decide (l1 = l2))) := rfl
  have HS := Lib.hid hS
  clear hS r1 r2
  by_cases hs : s1 = s2
  · subst hs
    by_cases he : e1 = e2
    · subst he
      have hv : sameB s1 s1 e1 e1 l1 l2 = decide (l1 = l2) := by rw [hV]; simp
      have HV := Lib.hid hv
      clear hv hV
      go_enter Tryz.func40, Tryz.ntmps40
      go_wp2_with fail
      refine (HS.out _ (((Below.refl _ _).alloc (Nat.le_refl _) _).alloc (by simp) _)).mono ?_
      rintro r w1 ⟨rfl, hb⟩
      have bb := (((Below.refl w.heap.size w).alloc (Nat.le_refl _) (.cells #[.bool s1, .slice a1 l1.length c1, .int .i64 e1] 24)).alloc (by simp) (.cells #[.bool s1, .slice a2 l2.length c2, .int .i64 e1] 24)).trans (hb.mono (by simp; omega))
      clear hb
      go_wp2
      go_ret
      exact ⟨ret_bool HV.out.symm, bb⟩
    · have hv : sameB s1 s1 e1 e2 l1 l2 = false := by rw [hV]; simp [he]
      have heB : (e1 == e2) = false := by simpa using he
      have HV := Lib.hid hv
      clear hv hV
      go_enter Tryz.func40, Tryz.ntmps40
      go_wp2
      go_ret
      exact ⟨ret_bool HV.out.symm, ((Below.refl _ _).alloc (Nat.le_refl _) _).alloc (by simp) _⟩
  · have hv : sameB s1 s2 e1 e2 l1 l2 = false := by rw [hV]; simp [hs]
    have hsB : (s1 == s2) = false := by simpa using hs
    have HV := Lib.hid hv
    clear hv hV
    go_enter Tryz.func40, Tryz.ntmps40
    go_wp2
    go_ret
    exact ⟨ret_bool HV.out.symm, ((Below.refl _ _).alloc (Nat.le_refl _) _).alloc (by simp) _⟩

end Go.Proofs.YtimfpgpomafflaaGreatDoor

/- Walks of dec: slices.Equal, isPlain, May. -/
namespace Go.Proofs.YtimfpgpomafflaaGreatDoor
open Go.RowKit LM

def plainB (s : Bool) (l : List Nat) (e : Int) : Bool := if l.length = 0 then decide (e = 0) && !s else decide (l[0]?.getD 0 % 10 ≠ 0) && decide (l = dg 1000000000 (vl 1000000000 l))

end Go.Proofs.YtimfpgpomafflaaGreatDoor

/- Walks of dec: May, of the program and of the document. -/
namespace Go.Proofs.YtimfpgpomafflaaGreatDoor
open Go.RowKit LM

theorem dg_len_9 (v : Nat) : (dg 1000000000 v).length ≤ (dg 10 v).length := by
  refine dg_len_of_lt (by omega) ?_
  exact Nat.lt_of_lt_of_le (dg_upper (b := 10) (by omega) v) (Nat.pow_le_pow_left (by omega) _)
theorem low_digit {l : List Nat} (h : 0 < l.length) : vl 1000000000 l % 10 = l[0]?.getD 0 % 10 := by
  cases l with
  | nil => simp at h
  | cons x t => simp only [vl, List.getElem?_cons_zero, Option.getD_some]; omega
theorem core_self {v : Nat} (h0 : 0 < v) (h : core v = v) : v % 10 ≠ 0 := by
  obtain ⟨c1, _⟩ := tz_spec v h0
  rw [h] at c1; exact c1
theorem pl_self {s : Bool} {v : Nat} {e : Int} (h : v % 10 ≠ 0) : pl s v e = ⟨s, v, e⟩ := by
  have := pl_of_plain (p := ⟨s, v, e⟩) (.inr h)
  exact this
theorem may_eq {s : Bool} {l : List Nat} {e : Int} :
    (nearB l.length e && (plainB s l e && inR ⟨s, vl 1000000000 l, e⟩)) = (decide ((normA l.length s (vl 1000000000 l) e).err = 0) && sameB (normA l.length s (vl 1000000000 l) e).p.neg s (normA l.length s (vl 1000000000 l) e).p.e e (dg 1000000000 (normA l.length s (vl 1000000000 l) e).p.m) l) := by
  unfold normA
  rcases hn : nearB l.length e with _ | _
  · simp
  · rw [if_pos rfl, Bool.true_and]
    rcases hp : plainB s l e with _ | _
    · rw [Bool.false_and]
      symm
      rw [Bool.eq_false_iff]
      intro h
      rw [Bool.and_eq_true, decide_eq_true_eq] at h
      obtain ⟨h1, h2⟩ := h
      unfold sameB at h2
      simp only [Bool.and_eq_true, decide_eq_true_eq, beq_iff_eq] at h2
      obtain ⟨g1, g2, g3⟩ := h2
      unfold tellA at h1 g1 g2 g3
      by_cases hin : inR (pl s (vl 1000000000 l) e) = true
      · rw [if_pos hin] at g1 g2 g3
        simp only at g1 g2 g3
        rcases Nat.eq_zero_or_pos (vl 1000000000 l) with h0 | h0
        · have hz : pl s (vl 1000000000 l) e = zP := by unfold pl; rw [if_pos h0]
          rw [hz] at g1 g2 g3
          have hl : l = [] := by rw [← g3]; exact dg_zero _
          subst hl
          have g1' : s = false := g1.symm
          have g2' : e = 0 := g2.symm
          subst g1' g2'
          unfold plainB at hp
          simp at hp
        · have hpl : pl s (vl 1000000000 l) e = ⟨s, core (vl 1000000000 l), e + tz (vl 1000000000 l)⟩ := by unfold pl; rw [if_neg (by omega)]
          rw [hpl] at g3
          have g3' : dg 1000000000 (core (vl 1000000000 l)) = l := g3
          have hv : vl 1000000000 l = core (vl 1000000000 l) := by
            have := congrArg (vl 1000000000) g3'
            rw [vl_dg (by omega)] at this; exact this.symm
          have hm := core_self h0 hv.symm
          have hlp : 0 < l.length := by
            rcases Nat.eq_zero_or_pos l.length with q | q
            · rw [List.eq_nil_of_length_eq_zero q] at h0; simp [vl] at h0
            · exact q
          have h3 : l = dg 1000000000 (vl 1000000000 l) := by rw [← hv] at g3'; exact g3'.symm
          unfold plainB at hp
          rw [if_neg (by omega), ← low_digit hlp, decide_eq_true hm, decide_eq_true h3] at hp
          simp at hp
      · rw [if_neg hin] at h1
        simp at h1
    · rw [Bool.true_and]
      unfold plainB at hp
      by_cases h0 : l.length = 0
      · rw [if_pos h0] at hp
        have hl := List.eq_nil_of_length_eq_zero h0
        subst hl
        simp at hp
        obtain ⟨rfl, rfl⟩ := hp
        have hz : tellA false 0 0 = ⟨0, zP⟩ := by
          have h1 : pl false 0 0 = zP := rfl
          unfold tellA; rw [h1, if_pos zP_in]
        show inR ⟨false, vl 1000000000 [], 0⟩ = _
        rw [vl_nil, hz]
        have : inR ⟨false, 0, 0⟩ = true := zP_in
        rw [this]
        have h3 : dg 1000000000 zP.m = [] := dg_zero _
        unfold sameB
        simp [zP]
        exact decide_eq_true (dg_zero _)
      · rw [if_neg h0] at hp
        simp only [Bool.and_eq_true, decide_eq_true_eq] at hp
        obtain ⟨hm, hl⟩ := hp
        rw [← low_digit (by omega)] at hm
        have hpl := pl_self (s := s) (e := e) hm
        unfold tellA
        rw [hpl]
        rcases hin : inR ⟨s, vl 1000000000 l, e⟩ with _ | _
        · simp
        · rw [if_pos rfl]
          unfold sameB
          simp [← hl]

def mayR (A : Ans) (s : Bool) (l : List Nat) (e : Int) : Bool := decide (A.err = 0) && sameB A.p.neg s A.p.e e (dg 1000000000 A.p.m) l
end Go.Proofs.YtimfpgpomafflaaGreatDoor

/- Walks of dec.Of and the document's Of. -/
namespace Go.Proofs.YtimfpgpomafflaaGreatDoor
open Go.RowKit LM

theorem valRes {w1 : World} {b : Nat} {x0 x1 x2 : Value} (k0 : w1.cell? ⟨b, 0, none⟩ = some x0) (k1 : w1.cell? ⟨b, 1, none⟩ = some x1) (k2 : w1.cell? ⟨b, 2, none⟩ = some x2) (v0 v1 v2 : Value) (o : Obj) :
    ((((w1.setCell ⟨b, 0, none⟩ v0).setCell ⟨b, 1, none⟩ v1).setCell ⟨b, 2, none⟩ v2).alloc o).cell? ⟨b, 0, none⟩ = some v0 ∧
    ((((w1.setCell ⟨b, 0, none⟩ v0).setCell ⟨b, 1, none⟩ v1).setCell ⟨b, 2, none⟩ v2).alloc o).cell? ⟨b, 1, none⟩ = some v1 ∧
    ((((w1.setCell ⟨b, 0, none⟩ v0).setCell ⟨b, 1, none⟩ v1).setCell ⟨b, 2, none⟩ v2).alloc o).cell? ⟨b, 2, none⟩ = some v2 := by
  have s0 : (((w1.setCell ⟨b, 0, none⟩ v0).setCell ⟨b, 1, none⟩ v1).setCell ⟨b, 2, none⟩ v2).cell? ⟨b, 0, none⟩ = some v0 := by simp [go_sem, k0]
  have s1 : (((w1.setCell ⟨b, 0, none⟩ v0).setCell ⟨b, 1, none⟩ v1).setCell ⟨b, 2, none⟩ v2).cell? ⟨b, 1, none⟩ = some v1 := by simp [go_sem, k1]
  have s2 : (((w1.setCell ⟨b, 0, none⟩ v0).setCell ⟨b, 1, none⟩ v1).setCell ⟨b, 2, none⟩ v2).cell? ⟨b, 2, none⟩ = some v2 := by simp [go_sem, k2]
  exact ⟨cellB s0 ((Below.refl _ _).alloc (Nat.le_refl _) o), cellB s1 ((Below.refl _ _).alloc (Nat.le_refl _) o), cellB s2 ((Below.refl _ _).alloc (Nat.le_refl _) o)⟩

theorem inR_small {s : Bool} {v : Nat} (h : (dg 10 v).length ≤ 20) : inR (pl s v 0) = true := by
  rcases Nat.eq_zero_or_pos v with h0 | h0
  · subst h0; exact zP_in
  · have hp : pl s v 0 = ⟨s, core v, 0 + tz v⟩ := by unfold pl; rw [if_neg (by omega)]
    have htz := tz_len h0
    have hcore : (dg 10 v).drop (tz v) = dg 10 (core v) := dg_drop (by omega) _ _
    have hcl : (dg 10 (core v)).length = (dg 10 v).length - tz v := by rw [← hcore, List.length_drop]
    rw [hp]; unfold inR dl
    exact decide_eq_true (by simp only; omega)
theorem dg10_u64 {v : Nat} (h : v < 18446744073709551616) : (dg 10 v).length ≤ 20 :=
  dg_len_of_lt (by omega) (by rw [show (10 : Nat) ^ 20 = 100000000000000000000 by decide]; omega)
theorem tell_small {s : Bool} {v : Nat} (h : v < 18446744073709551616) : tellA s v 0 = ⟨0, pl s v 0⟩ := by
  unfold tellA; rw [if_pos (inR_small (dg10_u64 h))]

set_option maxHeartbeats 4000000 in
set_option maxRecDepth 20000 in
theorem DOf_any (n : Int) (w : World) (h1 : -9223372036854775808 ≤ n) (h2 : n ≤ 9223372036854775807) (htab : Tab w) :
    Calls Tryz.prog 32 #[.int .i64 n] w (ResV (pl (decide (n < 0)) n.natAbs 0) w) := by
  obtain ⟨v, hv⟩ : ∃ v, v = n.natAbs := ⟨_, rfl⟩
  rw [← hv]
  have hv64 : v < 18446744073709551616 := by omega
  have hd10 := dg10_u64 hv64
  have hd9 := dg_len_9 v
  have htz : tz v ≤ 30000 := by
    rcases Nat.eq_zero_or_pos v with e | e
    · rw [e, tz_zero]; omega
    · have := tz_len e; omega
  have hO := fun W => Of_any v W hv64
  have hT := fun s a c W hr ht => tell_any s a c v 0 W htz (by omega) (by omega) (by omega) hr ht
  have hS : ∀ s, tellA s v 0 = ⟨0, pl s v 0⟩ := fun s => tell_small hv64
  have HO := Lib.hid hO
  by_cases hn : n < 0
  · have hT := hT true
    rw [hS] at hT
    have HT := Lib.hid hT
    have hd : decide (n < 0) = true := decide_eq_true hn
    rw [hd]
    have hx : n = -(v : Int) := by omega
    subst hx
    clear hT hS hO hd hd10 hd9 htz hv
    go_enter Tryz.func32, Tryz.ntmps32
    go_wp2_with fail
    rw [show IntKind.u64.wrap (-IntKind.u64.wrap (-(v : Int))) = (v : Int) by simp [IntKind.wrap, IntKind.bits, IntKind.signed]; omega]
    refine (HO.out _).mono ?_
    rintro r w1 ⟨a1, c1, rfl, ho1, hb1⟩
    have b1 := ((Below.refl w.heap.size w).alloc (Nat.le_refl _) (.cells #[.bool false, .slice none 0 0, .int .i64 0] 24)).trans (hb1.mono (by simp))
    have k0 : w1.cell? ⟨w.heap.size, 0, none⟩ = some (.bool false) := by rw [hb1.cell (by simp)]; simp
    have k1 : w1.cell? ⟨w.heap.size, 1, none⟩ = some (.slice none 0 0) := by rw [hb1.cell (by simp)]; simp
    have k2 : w1.cell? ⟨w.heap.size, 2, none⟩ = some (.int .i64 0) := by rw [hb1.cell (by simp)]; simp
    have kf : ∀ j, w1.frozen? ⟨w.heap.size, j, none⟩ = false := fun j => by rw [hb1.frozen (by simp)]; simp
    clear hb1
    go_wp2_with fail
    refine (HT.out a1 c1 _ ho1.rd (htab.below b1)).mono ?_
    rintro r w2 ⟨a2, c2, rfl, ho2, hb2⟩
    have hb3 := hb2.alloc hb2.size (.cells #[.bool (pl true v 0).neg, .slice a2 (dg 1000000000 (pl true v 0).m).length c2, .int .i64 (pl true v 0).e] 24)
    have b3 := b1.trans (hb3.mono b1.size)
    have hsz : w.heap.size < w1.heap.size := lt_of_cell k0
    have i0 := cellB k0 hb2
    have i1 := cellB k1 hb2
    have i2 := cellB k2 hb2
    have jf : ∀ j, w2.frozen? ⟨w.heap.size, j, none⟩ = false := fun j => by rw [hb2.frozen (p := ⟨w.heap.size, j, none⟩) hsz]; exact kf j
    have ap := ho2.apart hsz
    have b2 := b1.trans (hb2.mono b1.size)
    obtain ⟨z0, z1, z2⟩ := valRes i0 i1 i2 (.bool (pl true v 0).neg) (.slice a2 (dg 1000000000 (pl true v 0).m).length c2) (.int .i64 (pl true v 0).e) (.cells #[.bool (pl true v 0).neg, .slice a2 (dg 1000000000 (pl true v 0).m).length c2, .int .i64 (pl true v 0).e] 24)
    have HOWN := ((((ho2.mono b1.size).setFar ap 0 (.bool (pl true v 0).neg)).setFar ap 1 (.slice a2 (dg 1000000000 (pl true v 0).m).length c2)).setFar ap 2 (.int .i64 (pl true v 0).e)).below ((Below.refl _ _).alloc (Nat.le_refl _) (.cells #[.bool (pl true v 0).neg, .slice a2 (dg 1000000000 (pl true v 0).m).length c2, .int .i64 (pl true v 0).e] 24))
    have hb4 := (Below.refl w2.heap.size w2).alloc (Nat.le_refl _) (.cells #[.bool (pl true v 0).neg, .slice a2 (dg 1000000000 (pl true v 0).m).length c2, .int .i64 (pl true v 0).e] 24)
    have q0 := cellB i0 hb4
    have q1 := cellB i1 hb4
    have q2 := cellB i2 hb4
    have hsz2 : w.heap.size < w2.heap.size := lt_of_cell i0
    have qf := fun j => (hb4.frozen (p := ⟨w.heap.size, j, none⟩) hsz2).trans (jf j)
    clear ho1 ho2 hb2 hb3 hb4
    go_wp2
    refine bodyPost_ret (v := .agg #[.bool (pl true v 0).neg, .slice a2 (dg 1000000000 (pl true v 0).m).length c2, .int .i64 (pl true v 0).e]) (by simp [results, Tryz.results32, go_sem, z0, z1, z2]) rfl ?_
    exact ⟨a2, c2, rfl, HOWN, (((b2.setCell (Nat.le_refl _) _).setCell (Nat.le_refl _) _).setCell (Nat.le_refl _) _).alloc (by simpa using b2.size) _⟩
  · have hT := hT false
    rw [hS] at hT
    have HT := Lib.hid hT
    have hd : decide (n < 0) = false := decide_eq_false hn
    rw [hd]
    have hx : n = (v : Int) := by omega
    subst hx
    clear hT hS hO hd hd10 hd9 htz hv
    go_enter Tryz.func32, Tryz.ntmps32
    go_wp2_with fail
    refine (HO.out _).mono ?_
    rintro r w1 ⟨a1, c1, rfl, ho1, hb1⟩
    have b1 := ((Below.refl w.heap.size w).alloc (Nat.le_refl _) (.cells #[.bool false, .slice none 0 0, .int .i64 0] 24)).trans (hb1.mono (by simp))
    have k0 : w1.cell? ⟨w.heap.size, 0, none⟩ = some (.bool false) := by rw [hb1.cell (by simp)]; simp
    have k1 : w1.cell? ⟨w.heap.size, 1, none⟩ = some (.slice none 0 0) := by rw [hb1.cell (by simp)]; simp
    have k2 : w1.cell? ⟨w.heap.size, 2, none⟩ = some (.int .i64 0) := by rw [hb1.cell (by simp)]; simp
    have kf : ∀ j, w1.frozen? ⟨w.heap.size, j, none⟩ = false := fun j => by rw [hb1.frozen (by simp)]; simp
    clear hb1
    go_wp2_with fail
    refine (HT.out a1 c1 _ ho1.rd (htab.below b1)).mono ?_
    rintro r w2 ⟨a2, c2, rfl, ho2, hb2⟩
    have hb3 := hb2.alloc hb2.size (.cells #[.bool (pl false v 0).neg, .slice a2 (dg 1000000000 (pl false v 0).m).length c2, .int .i64 (pl false v 0).e] 24)
    have b3 := b1.trans (hb3.mono b1.size)
    have hsz : w.heap.size < w1.heap.size := lt_of_cell k0
    have i0 := cellB k0 hb2
    have i1 := cellB k1 hb2
    have i2 := cellB k2 hb2
    have jf : ∀ j, w2.frozen? ⟨w.heap.size, j, none⟩ = false := fun j => by rw [hb2.frozen (p := ⟨w.heap.size, j, none⟩) hsz]; exact kf j
    have ap := ho2.apart hsz
    have b2 := b1.trans (hb2.mono b1.size)
    obtain ⟨z0, z1, z2⟩ := valRes i0 i1 i2 (.bool (pl false v 0).neg) (.slice a2 (dg 1000000000 (pl false v 0).m).length c2) (.int .i64 (pl false v 0).e) (.cells #[.bool (pl false v 0).neg, .slice a2 (dg 1000000000 (pl false v 0).m).length c2, .int .i64 (pl false v 0).e] 24)
    have HOWN := ((((ho2.mono b1.size).setFar ap 0 (.bool (pl false v 0).neg)).setFar ap 1 (.slice a2 (dg 1000000000 (pl false v 0).m).length c2)).setFar ap 2 (.int .i64 (pl false v 0).e)).below ((Below.refl _ _).alloc (Nat.le_refl _) (.cells #[.bool (pl false v 0).neg, .slice a2 (dg 1000000000 (pl false v 0).m).length c2, .int .i64 (pl false v 0).e] 24))
    have hb4 := (Below.refl w2.heap.size w2).alloc (Nat.le_refl _) (.cells #[.bool (pl false v 0).neg, .slice a2 (dg 1000000000 (pl false v 0).m).length c2, .int .i64 (pl false v 0).e] 24)
    have q0 := cellB i0 hb4
    have q1 := cellB i1 hb4
    have q2 := cellB i2 hb4
    have hsz2 : w.heap.size < w2.heap.size := lt_of_cell i0
    have qf := fun j => (hb4.frozen (p := ⟨w.heap.size, j, none⟩) hsz2).trans (jf j)
    clear ho1 ho2 hb2 hb3 hb4
    go_wp2
    refine bodyPost_ret (v := .agg #[.bool (pl false v 0).neg, .slice a2 (dg 1000000000 (pl false v 0).m).length c2, .int .i64 (pl false v 0).e]) (by simp [results, Tryz.results32, go_sem, z0, z1, z2]) rfl ?_
    exact ⟨a2, c2, rfl, HOWN, (((b2.setCell (Nat.le_refl _) _).setCell (Nat.le_refl _) _).setCell (Nat.le_refl _) _).alloc (by simpa using b2.size) _⟩
end Go.Proofs.YtimfpgpomafflaaGreatDoor

/- Walk of the document's Tell. -/
namespace Go.Proofs.YtimfpgpomafflaaGreatDoor
open Go.RowKit LM

def tellP (p : Pl) : Ans := if inR p = true then ⟨0, p⟩ else ⟨3, zP⟩
theorem tellA_P (s : Bool) (v : Nat) (e : Int) : tellA s v e = tellP (pl s v e) := rfl

set_option maxHeartbeats 8000000 in
set_option maxRecDepth 20000 in
theorem Tell_any (p : Pl) (a : Option Addr) (c : Nat) (w : World) (hp : PlainP p) (hl : dl p.m ≤ 1000000) (he : -1000000 ≤ p.e) (he2 : p.e ≤ 1000000) (hr : RdC w a c p.m) :
    Calls Tryz.prog 38 #[.agg #[.bool p.neg, .slice a (dg 10 p.m).length c, .int .i64 p.e]] w (ResN (tellP p) w) := by
  obtain ⟨s, m, e⟩ := p
  simp only at hl he he2 hr ⊢
  have hF := fun W => Fits_any s a c m e W hl he he2 hp
  have hT := fun W hb => ToD_any ⟨s, m, e⟩ a c W hl (hr.below (w' := W) hb)
  simp only at hT
  have hdl : dl m = (dg 10 m).length := rfl
  rw [hdl] at hF
  have HT := Lib.hid hT
  clear hT hr hp hl hdl he he2
  rcases hin : inR ⟨s, m, e⟩ with _ | _
  · have ht : tellP ⟨s, m, e⟩ = ⟨3, zP⟩ := by unfold tellP; rw [hin, if_neg Bool.false_ne_true]
    rw [hin] at hF
    rw [ht]
    have HF := Lib.hid hF
    clear hF ht hin
    generalize (dg 10 m).length = n at *
    go_enter Tryz.func38, Tryz.ntmps38
    go_wp2_with fail
    refine (HF.out _).mono ?_
    rintro r w2 ⟨rfl, hb1⟩
    have bb := (((Below.refl w.heap.size w).alloc (Nat.le_refl _) (.cells #[.bool s, .slice a n c, .int .i64 e] 53)).alloc (by simp) (.cells #[.bool false, .slice none 0 0, .int .i64 0] 24)).trans (hb1.mono (by simp; omega))
    have u0 : w2.cell? ⟨w.heap.size + 1, 0, none⟩ = some (.bool false) := by rw [hb1.cell (by simp)]; simp
    have u1 : w2.cell? ⟨w.heap.size + 1, 1, none⟩ = some (.slice none 0 0) := by rw [hb1.cell (by simp)]; simp
    have u2 : w2.cell? ⟨w.heap.size + 1, 2, none⟩ = some (.int .i64 0) := by rw [hb1.cell (by simp)]; simp
    have uf : ∀ j, w2.frozen? ⟨w.heap.size + 1, j, none⟩ = false := fun j => by rw [hb1.frozen (by simp)]; simp
    obtain ⟨z0, z1, z2⟩ := valRes u0 u1 u2 (.bool false) (.slice none 0 0) (.int .i64 0) (.cells #[.bool false, .slice none 0 0, .int .i64 0] 24)
    clear hb1
    go_wp2
    refine bodyPost_ret (v := .tuple #[.agg #[.bool false, .slice none 0 0, .int .i64 0], .int .i64 3]) (by simp [results, Tryz.results38, go_sem, z0, z1, z2, u0, u1, u2]) rfl ?_
    refine ⟨none, 0, ?_, ?_, ?_⟩
    · show _ = Ending.returned (.tuple #[.agg #[.bool false, .slice none (dg 1000000000 0).length 0, .int .i64 0], .int .i64 3])
      rw [dg_zero]; rfl
    · show Own _ _ _ .u32 none 0 (dg 1000000000 0); rw [dg_zero]; exact Own.nilNone _ _ _ _
    · first
        | exact (((bb.setCell (Nat.le_succ _) _).setCell (Nat.le_succ _) _).setCell (Nat.le_succ _) _).alloc (by simpa using bb.size) _
        | exact (((bb.setCell (Nat.le_succ _) _).setCell (Nat.le_succ _) _).setCell (Nat.le_succ _) _)
  · have ht : tellP ⟨s, m, e⟩ = ⟨0, ⟨s, m, e⟩⟩ := by unfold tellP; rw [hin, if_pos rfl]
    rw [hin] at hF
    rw [ht]
    have HF := Lib.hid hF
    clear hF ht hin
    obtain ⟨n, hn⟩ : ∃ n, n = (dg 10 m).length := ⟨_, rfl⟩
    rw [← hn] at HF HT ⊢
    clear hn
    go_enter Tryz.func38, Tryz.ntmps38
    go_wp2_with fail
    refine (HF.out _).mono ?_
    rintro r w2 ⟨rfl, hb1⟩
    have bb := (((Below.refl w.heap.size w).alloc (Nat.le_refl _) (.cells #[.bool s, .slice a n c, .int .i64 e] 53)).alloc (by simp) (.cells #[.bool false, .slice none 0 0, .int .i64 0] 24)).trans (hb1.mono (by simp; omega))
    have k0 : w2.cell? ⟨w.heap.size, 0, none⟩ = some (.bool s) := by rw [hb1.cell (by simp; omega)]; simp
    have k1 : w2.cell? ⟨w.heap.size, 1, none⟩ = some (.slice a n c) := by rw [hb1.cell (by simp; omega)]; simp
    have k2 : w2.cell? ⟨w.heap.size, 2, none⟩ = some (.int .i64 e) := by rw [hb1.cell (by simp; omega)]; simp
    have u0 : w2.cell? ⟨w.heap.size + 1, 0, none⟩ = some (.bool false) := by rw [hb1.cell (by simp)]; simp
    have u1 : w2.cell? ⟨w.heap.size + 1, 1, none⟩ = some (.slice none 0 0) := by rw [hb1.cell (by simp)]; simp
    have u2 : w2.cell? ⟨w.heap.size + 1, 2, none⟩ = some (.int .i64 0) := by rw [hb1.cell (by simp)]; simp
    have uf : ∀ j, w2.frozen? ⟨w.heap.size + 1, j, none⟩ = false := fun j => by rw [hb1.frozen (by simp)]; simp
    have m1 : w.heap.size + 1 < w2.heap.size := lt_of_cell u0
    clear hb1
    go_wp2_with fail
    refine (HT.out _ bb).mono ?_
    rintro r w3 ⟨a3, c3, rfl, ho3, hb3⟩
    have t0 := cellB u0 hb3
    have t1 := cellB u1 hb3
    have t2 := cellB u2 hb3
    have tf : ∀ j, w3.frozen? ⟨w.heap.size + 1, j, none⟩ = false := fun j => by rw [hb3.frozen (p := ⟨w.heap.size + 1, j, none⟩) m1]; exact uf j
    have ap := ho3.apart m1
    have hown := ho3.mono bb.size
    have b4 := bb.trans (hb3.mono bb.size)
    clear hb3 ho3 bb u0 u1 u2 uf k0 k1 k2
    go_wp2
    refine bodyPost_ret (v := .tuple #[.agg #[.bool s, .slice a3 (dg 1000000000 m).length c3, .int .i64 e], .int .i64 0]) (by simp [results, Tryz.results38, go_sem, t0, t1, t2]) rfl ?_
    exact ⟨a3, c3, rfl, ((hown.setFar ap _ _).setFar ap _ _).setFar ap _ _, ((b4.setCell (Nat.le_succ _) _).setCell (Nat.le_succ _) _).setCell (Nat.le_succ _) _⟩
end Go.Proofs.YtimfpgpomafflaaGreatDoor
