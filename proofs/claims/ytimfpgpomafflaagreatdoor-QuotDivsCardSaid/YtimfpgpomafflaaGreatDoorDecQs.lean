/- Walk of dec.plainPair. -/
import Derived.Test.YtimfpgpomafflaaGreatDoorDecEs
import Derived.BigRegion
import Derived.Test.YtimfpgpomafflaaGreatDoorLimbGs
namespace Go.Proofs.YtimfpgpomafflaaGreatDoor
open Go.RowKit LM

/-- plainPair's boxes: two numbers given, two told, the error -/
structure PI (w wr : World) (A0 A1 A2 B0 B1 B2 X0 X1 X2 Y0 Y1 Y2 E0 : Value) : Prop where
  a0 : wr.cell? ⟨w.heap.size, 0, none⟩ = some A0
  a1 : wr.cell? ⟨w.heap.size, 1, none⟩ = some A1
  a2 : wr.cell? ⟨w.heap.size, 2, none⟩ = some A2
  b0 : wr.cell? ⟨w.heap.size + 1, 0, none⟩ = some B0
  b1 : wr.cell? ⟨w.heap.size + 1, 1, none⟩ = some B1
  b2 : wr.cell? ⟨w.heap.size + 1, 2, none⟩ = some B2
  x0 : wr.cell? ⟨w.heap.size + 1 + 1, 0, none⟩ = some X0
  x1 : wr.cell? ⟨w.heap.size + 1 + 1, 1, none⟩ = some X1
  x2 : wr.cell? ⟨w.heap.size + 1 + 1, 2, none⟩ = some X2
  y0 : wr.cell? ⟨w.heap.size + 1 + 1 + 1, 0, none⟩ = some Y0
  y1 : wr.cell? ⟨w.heap.size + 1 + 1 + 1, 1, none⟩ = some Y1
  y2 : wr.cell? ⟨w.heap.size + 1 + 1 + 1, 2, none⟩ = some Y2
  e0 : wr.cell? ⟨w.heap.size + 1 + 1 + 1 + 1, 0, none⟩ = some E0
  fx : ∀ j, wr.frozen? ⟨w.heap.size + 1 + 1, j, none⟩ = false
  fy : ∀ j, wr.frozen? ⟨w.heap.size + 1 + 1 + 1, j, none⟩ = false
  fe : ∀ j, wr.frozen? ⟨w.heap.size + 1 + 1 + 1 + 1, j, none⟩ = false
  bw : Below w.heap.size w wr

variable {w wr w' : World} {A0 A1 A2 B0 B1 B2 X0 X1 X2 Y0 Y1 Y2 E0 : Value}
theorem PI.below (h : PI w wr A0 A1 A2 B0 B1 B2 X0 X1 X2 Y0 Y1 Y2 E0) (hb : Below wr.heap.size wr w') : PI w w' A0 A1 A2 B0 B1 B2 X0 X1 X2 Y0 Y1 Y2 E0 := by
  have lx := lt_of_cell h.x0
  have ly := lt_of_cell h.y0
  have le := lt_of_cell h.e0
  exact ⟨cellB h.a0 hb, cellB h.a1 hb, cellB h.a2 hb, cellB h.b0 hb, cellB h.b1 hb, cellB h.b2 hb, cellB h.x0 hb, cellB h.x1 hb, cellB h.x2 hb, cellB h.y0 hb, cellB h.y1 hb, cellB h.y2 hb, cellB h.e0 hb, fun j => by rw [hb.frozen (p := ⟨w.heap.size + 1 + 1, j, none⟩) lx]; exact h.fx j, fun j => by rw [hb.frozen (p := ⟨w.heap.size + 1 + 1 + 1, j, none⟩) ly]; exact h.fy j, fun j => by rw [hb.frozen (p := ⟨w.heap.size + 1 + 1 + 1 + 1, j, none⟩) le]; exact h.fe j, h.bw.trans (hb.mono h.bw.size)⟩
theorem PI.setX0 (h : PI w wr A0 A1 A2 B0 B1 B2 X0 X1 X2 Y0 Y1 Y2 E0) (v : Value) : PI w (wr.setCell ⟨w.heap.size + 1 + 1, 0, none⟩ v) A0 A1 A2 B0 B1 B2 v X1 X2 Y0 Y1 Y2 E0 := by
  obtain ⟨a0, a1, a2, b0, b1, b2, x0, x1, x2, y0, y1, y2, e0, fx, fy, fe, bw⟩ := h
  exact ⟨by simp [go_sem, a0], by simp [go_sem, a1], by simp [go_sem, a2], by simp [go_sem, b0], by simp [go_sem, b1], by simp [go_sem, b2], by simp [go_sem, x0], by simp [go_sem, x1], by simp [go_sem, x2], by simp [go_sem, y0], by simp [go_sem, y1], by simp [go_sem, y2], by simp [go_sem, e0], fun j => by simp [go_sem, fx], fun j => by simp [go_sem, fy], fun j => by simp [go_sem, fe], bw.setCell (by simp; try omega) _⟩
theorem PI.setX1 (h : PI w wr A0 A1 A2 B0 B1 B2 X0 X1 X2 Y0 Y1 Y2 E0) (v : Value) : PI w (wr.setCell ⟨w.heap.size + 1 + 1, 1, none⟩ v) A0 A1 A2 B0 B1 B2 X0 v X2 Y0 Y1 Y2 E0 := by
  obtain ⟨a0, a1, a2, b0, b1, b2, x0, x1, x2, y0, y1, y2, e0, fx, fy, fe, bw⟩ := h
  exact ⟨by simp [go_sem, a0], by simp [go_sem, a1], by simp [go_sem, a2], by simp [go_sem, b0], by simp [go_sem, b1], by simp [go_sem, b2], by simp [go_sem, x0], by simp [go_sem, x1], by simp [go_sem, x2], by simp [go_sem, y0], by simp [go_sem, y1], by simp [go_sem, y2], by simp [go_sem, e0], fun j => by simp [go_sem, fx], fun j => by simp [go_sem, fy], fun j => by simp [go_sem, fe], bw.setCell (by simp; try omega) _⟩
theorem PI.setX2 (h : PI w wr A0 A1 A2 B0 B1 B2 X0 X1 X2 Y0 Y1 Y2 E0) (v : Value) : PI w (wr.setCell ⟨w.heap.size + 1 + 1, 2, none⟩ v) A0 A1 A2 B0 B1 B2 X0 X1 v Y0 Y1 Y2 E0 := by
  obtain ⟨a0, a1, a2, b0, b1, b2, x0, x1, x2, y0, y1, y2, e0, fx, fy, fe, bw⟩ := h
  exact ⟨by simp [go_sem, a0], by simp [go_sem, a1], by simp [go_sem, a2], by simp [go_sem, b0], by simp [go_sem, b1], by simp [go_sem, b2], by simp [go_sem, x0], by simp [go_sem, x1], by simp [go_sem, x2], by simp [go_sem, y0], by simp [go_sem, y1], by simp [go_sem, y2], by simp [go_sem, e0], fun j => by simp [go_sem, fx], fun j => by simp [go_sem, fy], fun j => by simp [go_sem, fe], bw.setCell (by simp; try omega) _⟩
theorem PI.setY0 (h : PI w wr A0 A1 A2 B0 B1 B2 X0 X1 X2 Y0 Y1 Y2 E0) (v : Value) : PI w (wr.setCell ⟨w.heap.size + 1 + 1 + 1, 0, none⟩ v) A0 A1 A2 B0 B1 B2 X0 X1 X2 v Y1 Y2 E0 := by
  obtain ⟨a0, a1, a2, b0, b1, b2, x0, x1, x2, y0, y1, y2, e0, fx, fy, fe, bw⟩ := h
  exact ⟨by simp [go_sem, a0], by simp [go_sem, a1], by simp [go_sem, a2], by simp [go_sem, b0], by simp [go_sem, b1], by simp [go_sem, b2], by simp [go_sem, x0], by simp [go_sem, x1], by simp [go_sem, x2], by simp [go_sem, y0], by simp [go_sem, y1], by simp [go_sem, y2], by simp [go_sem, e0], fun j => by simp [go_sem, fx], fun j => by simp [go_sem, fy], fun j => by simp [go_sem, fe], bw.setCell (by simp; try omega) _⟩
theorem PI.setY1 (h : PI w wr A0 A1 A2 B0 B1 B2 X0 X1 X2 Y0 Y1 Y2 E0) (v : Value) : PI w (wr.setCell ⟨w.heap.size + 1 + 1 + 1, 1, none⟩ v) A0 A1 A2 B0 B1 B2 X0 X1 X2 Y0 v Y2 E0 := by
  obtain ⟨a0, a1, a2, b0, b1, b2, x0, x1, x2, y0, y1, y2, e0, fx, fy, fe, bw⟩ := h
  exact ⟨by simp [go_sem, a0], by simp [go_sem, a1], by simp [go_sem, a2], by simp [go_sem, b0], by simp [go_sem, b1], by simp [go_sem, b2], by simp [go_sem, x0], by simp [go_sem, x1], by simp [go_sem, x2], by simp [go_sem, y0], by simp [go_sem, y1], by simp [go_sem, y2], by simp [go_sem, e0], fun j => by simp [go_sem, fx], fun j => by simp [go_sem, fy], fun j => by simp [go_sem, fe], bw.setCell (by simp; try omega) _⟩
theorem PI.setY2 (h : PI w wr A0 A1 A2 B0 B1 B2 X0 X1 X2 Y0 Y1 Y2 E0) (v : Value) : PI w (wr.setCell ⟨w.heap.size + 1 + 1 + 1, 2, none⟩ v) A0 A1 A2 B0 B1 B2 X0 X1 X2 Y0 Y1 v E0 := by
  obtain ⟨a0, a1, a2, b0, b1, b2, x0, x1, x2, y0, y1, y2, e0, fx, fy, fe, bw⟩ := h
  exact ⟨by simp [go_sem, a0], by simp [go_sem, a1], by simp [go_sem, a2], by simp [go_sem, b0], by simp [go_sem, b1], by simp [go_sem, b2], by simp [go_sem, x0], by simp [go_sem, x1], by simp [go_sem, x2], by simp [go_sem, y0], by simp [go_sem, y1], by simp [go_sem, y2], by simp [go_sem, e0], fun j => by simp [go_sem, fx], fun j => by simp [go_sem, fy], fun j => by simp [go_sem, fe], bw.setCell (by simp; try omega) _⟩
theorem PI.setE0 (h : PI w wr A0 A1 A2 B0 B1 B2 X0 X1 X2 Y0 Y1 Y2 E0) (v : Value) : PI w (wr.setCell ⟨w.heap.size + 1 + 1 + 1 + 1, 0, none⟩ v) A0 A1 A2 B0 B1 B2 X0 X1 X2 Y0 Y1 Y2 v := by
  obtain ⟨a0, a1, a2, b0, b1, b2, x0, x1, x2, y0, y1, y2, e0, fx, fy, fe, bw⟩ := h
  exact ⟨by simp [go_sem, a0], by simp [go_sem, a1], by simp [go_sem, a2], by simp [go_sem, b0], by simp [go_sem, b1], by simp [go_sem, b2], by simp [go_sem, x0], by simp [go_sem, x1], by simp [go_sem, x2], by simp [go_sem, y0], by simp [go_sem, y1], by simp [go_sem, y2], by simp [go_sem, e0], fun j => by simp [go_sem, fx], fun j => by simp [go_sem, fy], fun j => by simp [go_sem, fe], bw.setCell (by simp; try omega) _⟩
theorem PI.new : PI w (((((w.alloc (.cells #[A0, A1, A2] 24)).alloc (.cells #[B0, B1, B2] 24)).alloc (.cells #[X0, X1, X2] 24)).alloc (.cells #[Y0, Y1, Y2] 24)).alloc (.cells #[E0] 26)) A0 A1 A2 B0 B1 B2 X0 X1 X2 Y0 Y1 Y2 E0 :=
  ⟨by simp [go_sem], by simp [go_sem], by simp [go_sem], by simp [go_sem], by simp [go_sem], by simp [go_sem], by simp [go_sem], by simp [go_sem], by simp [go_sem], by simp [go_sem], by simp [go_sem], by simp [go_sem], by simp [go_sem], fun j => by simp [go_sem], fun j => by simp [go_sem], fun j => by simp [go_sem], (((((Below.refl _ _).alloc (Nat.le_refl _) _).alloc (by simp) _).alloc (by simp; omega) _).alloc (by simp; omega) _).alloc (by simp; omega) _⟩

set_option maxHeartbeats 2000000 in
theorem pp1_ok (u : FrameMode) (h : PI w wr A0 A1 A2 B0 B1 B2 X0 X1 X2 Y0 Y1 Y2 (.int .i64 0)) :
    CallsD Tryz.prog 91 #[.pointer (some ⟨w.heap.size + 1 + 1 + 1 + 1, 0, none⟩), .pointer (some ⟨w.heap.size + 1 + 1, 0, none⟩), .pointer (some ⟨w.heap.size + 1 + 1 + 1, 0, none⟩)] u wr fun r u' w' => u' = u ∧ r = .returned (.tuple #[]) ∧ wr = w' := by
  obtain ⟨a0, a1, a2, b0, b1, b2, x0, x1, x2, y0, y1, y2, e0, fx, fy, fe, bw⟩ := h
  go_enter_d Tryz.func91, Tryz.ntmps91
  go_wp2
  go_end0
  exact ⟨rfl, rfl⟩
set_option maxHeartbeats 2000000 in
theorem pp1_bad (n : Nat) (hn : n ≠ 0) (u : FrameMode) (h : PI w wr A0 A1 A2 B0 B1 B2 X0 X1 X2 Y0 Y1 Y2 (.int .i64 (n : Nat))) :
    CallsD Tryz.prog 91 #[.pointer (some ⟨w.heap.size + 1 + 1 + 1 + 1, 0, none⟩), .pointer (some ⟨w.heap.size + 1 + 1, 0, none⟩), .pointer (some ⟨w.heap.size + 1 + 1 + 1, 0, none⟩)] u wr fun r u' w' => u' = u ∧ r = .returned (.tuple #[]) ∧ PI w w' A0 A1 A2 B0 B1 B2 (.bool false) (.slice none 0 0) (.int .i64 0) (.bool false) (.slice none 0 0) (.int .i64 0) (.int .i64 (n : Nat)) := by
  have hB : ((n : Int) != 0) = true := by simp [hn]
  have hpi := fun a b c d e f => ((((((h.setX0 a).setX1 b).setX2 c).setY0 d).setY1 e).setY2 f)
  have HPI := Lib.hid hpi
  clear hpi hn
  obtain ⟨a0, a1, a2, b0, b1, b2, x0, x1, x2, y0, y1, y2, e0, fx, fy, fe, bw⟩ := h
  go_enter_d Tryz.func91, Tryz.ntmps91
  go_wp2
  go_end0
  exact ⟨rfl, HPI.out _ _ _ _ _ _⟩

/-- what a pair of answers tells as an error -/
def pairE (A B : Ans) : Nat := if A.err = 1 ∨ B.err = 1 then 1 else if A.err ≠ 0 then A.err else B.err
theorem pairE_ok {A B : Ans} (h1 : A.err = 0) (h2 : B.err = 0) : pairE A B = 0 := by unfold pairE; simp [h1, h2]
theorem pairE_bad {A B : Ans} (h : ¬ (A.err = 0 ∧ B.err = 0)) : pairE A B ≠ 0 := by unfold pairE; split; omega; split; omega; omega
def ResPr (A B : Ans) (w : World) (r : Ending) (w' : World) : Prop := Below w.heap.size w w' ∧
  ((A.err = 0 ∧ B.err = 0 ∧ ∃ a1 c1 a2 c2, r = .returned (.tuple #[.agg #[.bool A.p.neg, .slice a1 (dg 1000000000 A.p.m).length c1, .int .i64 A.p.e], .agg #[.bool B.p.neg, .slice a2 (dg 1000000000 B.p.m).length c2, .int .i64 B.p.e], .int .i64 0]) ∧
      Own w' w.heap.size 40 .u32 a1 c1 (dg 1000000000 A.p.m) ∧ Own w' w.heap.size 40 .u32 a2 c2 (dg 1000000000 B.p.m)) ∨
   (¬ (A.err = 0 ∧ B.err = 0) ∧ r = .returned (.tuple #[.agg #[.bool false, .slice none 0 0, .int .i64 0], .agg #[.bool false, .slice none 0 0, .int .i64 0], .int .i64 (pairE A B : Nat)])))

theorem normA_far {n : Nat} {s : Bool} {v : Nat} {e : Int} (h : nearB n e = false) : (normA n s v e).err = 1 := by
  unfold normA; rw [if_neg (by rw [h]; exact Bool.false_ne_true)]
theorem normA_near {n : Nat} {s : Bool} {v : Nat} {e : Int} (h : nearB n e = true) : (normA n s v e).err = 0 ∨ (normA n s v e).err = 3 := by
  unfold normA; rw [if_pos h]; unfold tellA; split; exact .inl rfl; exact .inr rfl

set_option maxHeartbeats 16000000 in
set_option maxRecDepth 20000 in
theorem plainPair_any (s1 s2 : Bool) (a1 a2 : Option Addr) (c1 c2 : Nat) (l1 l2 : List Nat) (e1 e2 : Int) (w : World) (h1 : l1.length ≤ 9223372036854775807) (h2 : l2.length ≤ 9223372036854775807) (hlo1 : Lo 4294967296 l1) (hlo2 : Lo 4294967296 l2) (hr1 : Rd w .u32 a1 l1) (hr2 : Rd w .u32 a2 l2) (htab : Tab w) :
    Calls Tryz.prog 58 #[.agg #[.bool s1, .slice a1 l1.length c1, .int .i64 e1], .agg #[.bool s2, .slice a2 l2.length c2, .int .i64 e2]] w (ResPr (normA l1.length s1 (vl 1000000000 l1) e1) (normA l2.length s2 (vl 1000000000 l2) e2) w) := by
  have hmf : ∀ (fn : Fn) (first cap : Array Value) (w : World), (Instr.makeFunc fn first cap).run Tryz.prog w = .ok (.func fn first cap) w := fun _ _ _ _ => rfl
  have hI1 := fun W => isNear_any s1 a1 l1.length c1 e1 W
  have hI2 := fun W => isNear_any s2 a2 l2.length c2 e2 W
  have hN1 := fun W hb => DNorm_any s1 a1 c1 l1 e1 W h1 hlo1 (hr1.below' (w' := W) hb (Nat.le_refl _)) (htab.below hb)
  have hN2 := fun W hb => DNorm_any s2 a2 c2 l2 e2 W h2 hlo2 (hr2.below' (w' := W) hb (Nat.le_refl _)) (htab.below hb)
  have hf1 := fun h => normA_far (n := l1.length) (s := s1) (v := vl 1000000000 l1) (e := e1) h
  have hg1 := fun h => normA_near (n := l1.length) (s := s1) (v := vl 1000000000 l1) (e := e1) h
  have hf2 := fun h => normA_far (n := l2.length) (s := s2) (v := vl 1000000000 l2) (e := e2) h
  have hg2 := fun h => normA_near (n := l2.length) (s := s2) (v := vl 1000000000 l2) (e := e2) h
  generalize normA l1.length s1 (vl 1000000000 l1) e1 = A at *
  generalize normA l2.length s2 (vl 1000000000 l2) e2 = B at *
  have HI1 := Lib.hid hI1; have HI2 := Lib.hid hI2; have HN1 := Lib.hid hN1; have HN2 := Lib.hid hN2
  have HF1 := Lib.hid hf1; have HG1 := Lib.hid hg1; have HF2 := Lib.hid hf2; have HG2 := Lib.hid hg2
  clear hI1 hI2 hN1 hN2 hf1 hg1 hf2 hg2 hlo1 hlo2 hr1 hr2 htab
  generalize nearB l1.length e1 = q1 at *
  generalize nearB l2.length e2 = q2 at *
  go_enter_defers Tryz.func58, Tryz.ntmps58
  go_wp2_with fail
  refine (HI1.out _).mono ?_
  rintro r w1 ⟨rfl, hb1⟩
  have pi1 := (PI.new (w := w) (A0 := .bool s1) (A1 := .slice a1 l1.length c1) (A2 := .int .i64 e1) (B0 := .bool s2) (B1 := .slice a2 l2.length c2) (B2 := .int .i64 e2) (X0 := .bool false) (X1 := .slice none 0 0) (X2 := .int .i64 0) (Y0 := .bool false) (Y1 := .slice none 0 0) (Y2 := .int .i64 0) (E0 := .int .i64 0)).below hb1
  clear hb1
  have bb1 := pi1.bw
  cases q1 with
  | false =>
    have hA := HF1.out rfl
    have HBAD := Lib.hid (show ¬ (A.err = 0 ∧ B.err = 0) by omega)
    have HPE := Lib.hid (show pairE A B = 1 by unfold pairE; rw [if_pos (.inl hA)])
    clear hA
    have pix := pi1
    obtain ⟨j0, j1, j2, k0, k1, k2, x0, x1, x2, y0, y1, y2, e0, fx, fy, fe, bw⟩ := pix
    go_wp2
    go_region
    go_wp2
    refine leaves_cons (f := 91) (args := #[.pointer (some ⟨w.heap.size + 1 + 1 + 1 + 1, 0, none⟩), .pointer (some ⟨w.heap.size + 1 + 1, 0, none⟩), .pointer (some ⟨w.heap.size + 1 + 1 + 1, 0, none⟩)]) (by simp) (by simp [go_sem]) ?_
    refine (pp1_bad 1 (by decide) _ ((((((((pi1.setX0 _).setX1 _).setX2 _).setY0 _).setY1 _).setY2 _).setE0 _).below (Below.refl _ _).drew)).mono ?_
    rintro r u' w' ⟨rfl, rfl, pj⟩
    obtain ⟨j0, j1, j2, k0, k1, k2, x0, x1, x2, y0, y1, y2, e0, fx, fy, fe, bw⟩ := pj
    refine ⟨.tuple #[.agg #[.bool false, .slice none 0 0, .int .i64 0], .agg #[.bool false, .slice none 0 0, .int .i64 0], .int .i64 (1 : Nat)], by simp [results, Tryz.results58, go_sem, x0, x1, x2, y0, y1, y2, e0], bw, .inr ⟨HBAD.out, by rw [HPE.out]⟩⟩
  | true =>
    have pix := pi1
    obtain ⟨j0, j1, j2, k0, k1, k2, x0, x1, x2, y0, y1, y2, e0, fx, fy, fe, bw⟩ := pix
    go_wp2_with fail
    refine (HI2.out _).mono ?_
    rintro r w2 ⟨rfl, hb2⟩
    have pi2 := pi1.below hb2
    have bb2 := pi2.bw
    clear hb2 pi1 bb1 j0 j1 j2 k0 k1 k2 x0 x1 x2 y0 y1 y2 e0 fx fy fe bw
    cases q2 with
    | false =>
      have hA := HF2.out rfl
      have HBAD := Lib.hid (show ¬ (A.err = 0 ∧ B.err = 0) by omega)
      have HPE := Lib.hid (show pairE A B = 1 by unfold pairE; rw [if_pos (.inr hA)])
      clear hA
      have pix := pi2
      obtain ⟨j0, j1, j2, k0, k1, k2, x0, x1, x2, y0, y1, y2, e0, fx, fy, fe, bw⟩ := pix
      go_wp2
      go_region
      go_wp2
      refine leaves_cons (f := 91) (args := #[.pointer (some ⟨w.heap.size + 1 + 1 + 1 + 1, 0, none⟩), .pointer (some ⟨w.heap.size + 1 + 1, 0, none⟩), .pointer (some ⟨w.heap.size + 1 + 1 + 1, 0, none⟩)]) (by simp) (by simp [go_sem]) ?_
      refine (pp1_bad 1 (by decide) _ ((((((((pi2.setX0 _).setX1 _).setX2 _).setY0 _).setY1 _).setY2 _).setE0 _).below (Below.refl _ _).drew)).mono ?_
      rintro r u' w' ⟨rfl, rfl, pj⟩
      obtain ⟨j0, j1, j2, k0, k1, k2, x0, x1, x2, y0, y1, y2, e0, fx, fy, fe, bw⟩ := pj
      refine ⟨.tuple #[.agg #[.bool false, .slice none 0 0, .int .i64 0], .agg #[.bool false, .slice none 0 0, .int .i64 0], .int .i64 (1 : Nat)], by simp [results, Tryz.results58, go_sem, x0, x1, x2, y0, y1, y2, e0], bw, .inr ⟨HBAD.out, by rw [HPE.out]⟩⟩
    | true =>
      have pix := pi2
      obtain ⟨j0, j1, j2, k0, k1, k2, x0, x1, x2, y0, y1, y2, e0, fx, fy, fe, bw⟩ := pix
      go_wp2_with fail
      refine (HN1.out _ bb2).mono ?_
      rintro r w3 ⟨a3, c3, rfl, ho3, hb3⟩
      have pi3 := pi2.below hb3
      have bb3 := pi3.bw
      have lx := lt_of_cell x0
      have ly := lt_of_cell y0
      have le := lt_of_cell e0
      have ax := ho3.apart lx
      have ay := ho3.apart ly
      have ae := ho3.apart le
      have hown3 := ho3.mono bb2.size
      clear hb3 ho3 pi2 lx ly le bb2 j0 j1 j2 k0 k1 k2 x0 x1 x2 y0 y1 y2 e0 fx fy fe bw
      by_cases hA : A.err = 0
      · have hAB : ((A.err : Int) != 0) = false := by simp [hA]
        have HE := Lib.hid hA
        have pix := pi3
        obtain ⟨j0, j1, j2, k0, k1, k2, x0, x1, x2, y0, y1, y2, e0, fx, fy, fe, bw⟩ := pix
        have pi4 := (((pi3.setX0 (.bool A.p.neg)).setX1 (.slice a3 (dg 1000000000 A.p.m).length c3)).setX2 (.int .i64 A.p.e)).setE0 (.int .i64 (A.err : Nat))
        have hown4 := (((hown3.setFar ax 0 (.bool A.p.neg)).setFar ax 1 (.slice a3 (dg 1000000000 A.p.m).length c3)).setFar ax 2 (.int .i64 A.p.e)).setFar ae 0 (.int .i64 (A.err : Nat))
        clear hA pi3 hown3
        go_wp2_with fail
        refine (HN2.out _ pi4.bw).mono ?_
        rintro r w5 ⟨a5, c5, rfl, ho5, hb5⟩
        have pi5 := pi4.below hb5
        have bb5 := pi5.bw
        have lx := lt_of_cell pi4.x0
        have ly := lt_of_cell pi4.y0
        have le := lt_of_cell pi4.e0
        have bx := ho5.apart lx
        have bY := ho5.apart ly
        have be := ho5.apart le
        have hown5 := ho5.mono pi4.bw.size
        have hown6 := hown4.below hb5
        clear hb5 ho5 pi4 lx ly le hown4 j0 j1 j2 k0 k1 k2 x0 x1 x2 y0 y1 y2 e0 fx fy fe bw
        by_cases hB : B.err = 0
        · have HEB := Lib.hid hB
          have pix := pi5
          obtain ⟨j0, j1, j2, k0, k1, k2, x0, x1, x2, y0, y1, y2, e0, fx, fy, fe, bw⟩ := pix
          go_wp2
          go_region
          go_wp2
          refine leaves_cons (f := 91) (args := #[.pointer (some ⟨w.heap.size + 1 + 1 + 1 + 1, 0, none⟩), .pointer (some ⟨w.heap.size + 1 + 1, 0, none⟩), .pointer (some ⟨w.heap.size + 1 + 1 + 1, 0, none⟩)]) (by simp) (by simp [go_sem]) ?_
          have pi6 := ((((((((((pi5.setY0 (.bool B.p.neg)).setY1 (.slice a5 (dg 1000000000 B.p.m).length c5)).setY2 (.int .i64 B.p.e)).setE0 (.int .i64 0)).setX0 (.bool A.p.neg)).setX1 (.slice a3 (dg 1000000000 A.p.m).length c3)).setX2 (.int .i64 A.p.e)).setY0 (.bool B.p.neg)).setY1 (.slice a5 (dg 1000000000 B.p.m).length c5)).setY2 (.int .i64 B.p.e)).setE0 (.int .i64 0)
          have pi7 := pi6.below (Below.refl _ _).drew
          refine (pp1_ok _ pi7).mono ?_
          rintro r u' w' ⟨rfl, rfl, rfl⟩
          obtain ⟨j0, j1, j2, k0, k1, k2, x0, x1, x2, y0, y1, y2, e0, fx, fy, fe, bw⟩ := pi7
          exact ⟨.tuple #[.agg #[.bool A.p.neg, .slice a3 (dg 1000000000 A.p.m).length c3, .int .i64 A.p.e], .agg #[.bool B.p.neg, .slice a5 (dg 1000000000 B.p.m).length c5, .int .i64 B.p.e], .int .i64 0], by simp [results, Tryz.results58, go_sem, x0, x1, x2, y0, y1, y2, e0], bw, .inl ⟨HE.out, HEB.out, a3, c3, a5, c5, rfl, Own.drew (((((((((((hown6.setFar ay _ _).setFar ay _ _).setFar ay _ _).setFar ae _ _).setFar ax _ _).setFar ax _ _).setFar ax _ _).setFar ay _ _).setFar ay _ _).setFar ay _ _).setFar ae _ _), Own.drew (((((((((((hown5.setFar bY _ _).setFar bY _ _).setFar bY _ _).setFar be _ _).setFar bx _ _).setFar bx _ _).setFar bx _ _).setFar bY _ _).setFar bY _ _).setFar bY _ _).setFar be _ _)⟩⟩
        · have hBB : ((B.err : Int) != 0) = true := by simp [hB]
          have HBAD := Lib.hid (show ¬ (A.err = 0 ∧ B.err = 0) by omega)
          have HPE := Lib.hid (show pairE A B = B.err by have := HE.out; have := HG2.out (by first | rfl | trivial); unfold pairE; rw [if_neg (by omega), if_neg (by omega)])
          have HB := Lib.hid hB
          clear hB
          have pix := pi5
          obtain ⟨j0, j1, j2, k0, k1, k2, x0, x1, x2, y0, y1, y2, e0, fx, fy, fe, bw⟩ := pix
          go_wp2
          go_region
          go_wp2
          refine leaves_cons (f := 91) (args := #[.pointer (some ⟨w.heap.size + 1 + 1 + 1 + 1, 0, none⟩), .pointer (some ⟨w.heap.size + 1 + 1, 0, none⟩), .pointer (some ⟨w.heap.size + 1 + 1 + 1, 0, none⟩)]) (by simp) (by simp [go_sem]) ?_
          refine (pp1_bad B.err (by exact HB.out) _ ((((((((((((pi5.setY0 _).setY1 _).setY2 _).setE0 _).setX0 _).setX1 _).setX2 _).setY0 _).setY1 _).setY2 _).setE0 _).below (Below.refl _ _).drew)).mono ?_
          rintro r u' w' ⟨rfl, rfl, pj⟩
          obtain ⟨j0, j1, j2, k0, k1, k2, x0, x1, x2, y0, y1, y2, e0, fx, fy, fe, bw⟩ := pj
          refine ⟨.tuple #[.agg #[.bool false, .slice none 0 0, .int .i64 0], .agg #[.bool false, .slice none 0 0, .int .i64 0], .int .i64 (B.err : Nat)], by simp [results, Tryz.results58, go_sem, x0, x1, x2, y0, y1, y2, e0], bw, .inr ⟨HBAD.out, by rw [HPE.out]⟩⟩
      · have hAB : ((A.err : Int) != 0) = true := by simp [hA]
        have HBAD := Lib.hid (show ¬ (A.err = 0 ∧ B.err = 0) by omega)
        have HPE := Lib.hid (show pairE A B = A.err by have := HG1.out (by first | rfl | trivial); have := HG2.out (by first | rfl | trivial); unfold pairE; rw [if_neg (by omega), if_pos hA])
        have HA := Lib.hid hA
        clear hA
        have pix := pi3
        obtain ⟨j0, j1, j2, k0, k1, k2, x0, x1, x2, y0, y1, y2, e0, fx, fy, fe, bw⟩ := pix
        go_wp2
        go_region
        go_wp2
        refine leaves_cons (f := 91) (args := #[.pointer (some ⟨w.heap.size + 1 + 1 + 1 + 1, 0, none⟩), .pointer (some ⟨w.heap.size + 1 + 1, 0, none⟩), .pointer (some ⟨w.heap.size + 1 + 1 + 1, 0, none⟩)]) (by simp) (by simp [go_sem]) ?_
        refine (pp1_bad A.err (by exact HA.out) _ ((((((((((((pi3.setX0 _).setX1 _).setX2 _).setE0 _).setX0 _).setX1 _).setX2 _).setY0 _).setY1 _).setY2 _).setE0 _).below (Below.refl _ _).drew)).mono ?_
        rintro r u' w' ⟨rfl, rfl, pj⟩
        obtain ⟨j0, j1, j2, k0, k1, k2, x0, x1, x2, y0, y1, y2, e0, fx, fy, fe, bw⟩ := pj
        refine ⟨.tuple #[.agg #[.bool false, .slice none 0 0, .int .i64 0], .agg #[.bool false, .slice none 0 0, .int .i64 0], .int .i64 (A.err : Nat)], by simp [results, Tryz.results58, go_sem, x0, x1, x2, y0, y1, y2, e0], bw, .inr ⟨HBAD.out, by rw [HPE.out]⟩⟩
end Go.Proofs.YtimfpgpomafflaaGreatDoor

/- Walk of the document's Two. -/
namespace Go.Proofs.YtimfpgpomafflaaGreatDoor
open Go.RowKit LM

theorem RdC.six {w : World} {a : Option Addr} {c m g1 g2 : Nat} (h : RdC w a c m) {b1 b2 : Bool} {s1 s2 : Option Addr} {n1 n2 d1 d2 : Nat} {e1 e2 : Int}
    (u0 : w.cell? ⟨g1, 0, none⟩ = some (.bool b1)) (u1 : w.cell? ⟨g1, 1, none⟩ = some (.slice s1 n1 d1)) (u2 : w.cell? ⟨g1, 2, none⟩ = some (.int .i64 e1))
    (v0 : w.cell? ⟨g2, 0, none⟩ = some (.bool b2)) (v1 : w.cell? ⟨g2, 1, none⟩ = some (.slice s2 n2 d2)) (v2 : w.cell? ⟨g2, 2, none⟩ = some (.int .i64 e2)) (hne : g1 ≠ g2) (x0 x1 x2 y0 y1 y2 : Value) :
    RdC ((((((w.setCell ⟨g1, 0, none⟩ x0).setCell ⟨g1, 1, none⟩ x1).setCell ⟨g1, 2, none⟩ x2).setCell ⟨g2, 0, none⟩ y0).setCell ⟨g2, 1, none⟩ y1).setCell ⟨g2, 2, none⟩ y2) a c m := by
  refine ⟨?_, h.2⟩
  have h1 := h.1.setOther (v := x0) u0 (by intro n h; cases h)
  have h2 := h1.setOther (g := g1) (j := 1) (v := x1) (v0 := .slice s1 n1 d1) (by simp [go_sem, u1]) (by intro n h; cases h)
  have h3 := h2.setOther (g := g1) (j := 2) (v := x2) (v0 := .int .i64 e1) (by simp [go_sem, u2]) (by intro n h; cases h)
  have h4 := h3.setOther (g := g2) (j := 0) (v := y0) (v0 := .bool b2) (by simp [go_sem, v0, hne, Ne.symm hne]) (by intro n h; cases h)
  have h5 := h4.setOther (g := g2) (j := 1) (v := y1) (v0 := .slice s2 n2 d2) (by simp [go_sem, v1, hne, Ne.symm hne]) (by intro n h; cases h)
  exact h5.setOther (g := g2) (j := 2) (v := y2) (v0 := .int .i64 e2) (by simp [go_sem, v2, hne, Ne.symm hne]) (by intro n h; cases h)
theorem RdC.drew {w : World} {a : Option Addr} {c m : Nat} (h : RdC w a c m) : RdC w.drew a c m := h

def ResTw (A B : Ans) (w : World) (r : Ending) (w' : World) : Prop := ∃ a1 c1 a2 c2, r = .returned (.tuple #[.agg #[.bool A.p.neg, .slice a1 (dg 10 A.p.m).length c1, .int .i64 A.p.e], .agg #[.bool B.p.neg, .slice a2 (dg 10 B.p.m).length c2, .int .i64 B.p.e], .int .i64 (pairE A B : Nat)]) ∧
  RdC w' a1 c1 A.p.m ∧ RdC w' a2 c2 B.p.m ∧ Below w.heap.size w w'

set_option maxHeartbeats 16000000 in
set_option maxRecDepth 20000 in
theorem Two_any (s1 s2 : Bool) (a1 a2 : Option Addr) (c1 c2 : Nat) (l1 l2 : List Nat) (e1 e2 : Int) (w : World) (h1 : l1.length ≤ 9223372036854775807) (h2 : l2.length ≤ 9223372036854775807) (hlo1 : Lo 4294967296 l1) (hlo2 : Lo 4294967296 l2) (hr1 : Rd w .u32 a1 l1) (hr2 : Rd w .u32 a2 l2) :
    Calls Tryz.prog 37 #[.agg #[.bool s1, .slice a1 l1.length c1, .int .i64 e1], .agg #[.bool s2, .slice a2 l2.length c2, .int .i64 e2]] w (ResTw (normA l1.length s1 (vl 1000000000 l1) e1) (normA l2.length s2 (vl 1000000000 l2) e2) w) := by
  have hN1 := fun W hb => Take_any s1 a1 c1 l1 e1 W h1 hlo1 (hr1.below' (w' := W) hb (Nat.le_refl _))
  have hN2 := fun W hb => Take_any s2 a2 c2 l2 e2 W h2 hlo2 (hr2.below' (w' := W) hb (Nat.le_refl _))
  generalize normA l1.length s1 (vl 1000000000 l1) e1 = A at *
  generalize normA l2.length s2 (vl 1000000000 l2) e2 = B at *
  have HN1 := Lib.hid hN1; have HN2 := Lib.hid hN2
  clear hN1 hN2 hlo1 hlo2 hr1 hr2
  go_enter Tryz.func37, Tryz.ntmps37
  go_wp2_with fail
  have B4 := ((((Below.refl w.heap.size w).alloc (Nat.le_refl _) (.cells #[.bool s1, .slice a1 l1.length c1, .int .i64 e1] 24)).alloc (by simp) (.cells #[.bool s2, .slice a2 l2.length c2, .int .i64 e2] 24)).alloc (by simp; omega) (.cells #[.bool false, .slice none 0 0, .int .i64 0] 53)).alloc (by simp; omega) (.cells #[.bool false, .slice none 0 0, .int .i64 0] 53)
  refine (HN1.out _ B4).mono ?_
  rintro r w2 ⟨a3, c3, rfl, hr3, hb2⟩
  have b2 := B4.trans (hb2.mono B4.size)
  have i0 : w2.cell? ⟨w.heap.size + 1, 0, none⟩ = some (.bool s2) := by rw [hb2.cell (by simp)]; simp [go_sem]
  have i1 : w2.cell? ⟨w.heap.size + 1, 1, none⟩ = some (.slice a2 l2.length c2) := by rw [hb2.cell (by simp)]; simp [go_sem]
  have i2 : w2.cell? ⟨w.heap.size + 1, 2, none⟩ = some (.int .i64 e2) := by rw [hb2.cell (by simp)]; simp [go_sem]
  have u0 : w2.cell? ⟨w.heap.size + 1 + 1, 0, none⟩ = some (.bool false) := by rw [hb2.cell (by simp)]; simp [go_sem]
  have u1 : w2.cell? ⟨w.heap.size + 1 + 1, 1, none⟩ = some (.slice none 0 0) := by rw [hb2.cell (by simp)]; simp [go_sem]
  have u2 : w2.cell? ⟨w.heap.size + 1 + 1, 2, none⟩ = some (.int .i64 0) := by rw [hb2.cell (by simp)]; simp [go_sem]
  have v0 : w2.cell? ⟨w.heap.size + 1 + 1 + 1, 0, none⟩ = some (.bool false) := by rw [hb2.cell (by simp)]; simp [go_sem]
  have v1 : w2.cell? ⟨w.heap.size + 1 + 1 + 1, 1, none⟩ = some (.slice none 0 0) := by rw [hb2.cell (by simp)]; simp [go_sem]
  have v2 : w2.cell? ⟨w.heap.size + 1 + 1 + 1, 2, none⟩ = some (.int .i64 0) := by rw [hb2.cell (by simp)]; simp [go_sem]
  have uf : ∀ j, w2.frozen? ⟨w.heap.size + 1 + 1, j, none⟩ = false := fun j => by rw [hb2.frozen (by simp)]; simp [go_sem]
  have vf : ∀ j, w2.frozen? ⟨w.heap.size + 1 + 1 + 1, j, none⟩ = false := fun j => by rw [hb2.frozen (by simp)]; simp [go_sem]
  clear hb2 B4
  have hb3 := (Below.refl w2.heap.size w2).alloc (Nat.le_refl _) (.cells #[.bool A.p.neg, .slice a3 (dg 10 A.p.m).length c3, .int .i64 A.p.e] 53)
  have x0 : (w2.alloc (.cells #[.bool A.p.neg, .slice a3 (dg 10 A.p.m).length c3, .int .i64 A.p.e] 53)).cell? ⟨w2.heap.size, 0, none⟩ = some (.bool A.p.neg) := by simp
  have x1 : (w2.alloc (.cells #[.bool A.p.neg, .slice a3 (dg 10 A.p.m).length c3, .int .i64 A.p.e] 53)).cell? ⟨w2.heap.size, 1, none⟩ = some (.slice a3 (dg 10 A.p.m).length c3) := by simp
  have x2 : (w2.alloc (.cells #[.bool A.p.neg, .slice a3 (dg 10 A.p.m).length c3, .int .i64 A.p.e] 53)).cell? ⟨w2.heap.size, 2, none⟩ = some (.int .i64 A.p.e) := by simp
  have b3 := b2.trans (hb3.mono b2.size)
  have l1' := lt_of_cell u0
  have l2' := lt_of_cell v0
  have L2 := Lib.hid (show w.heap.size + 1 + 1 + 1 < w2.heap.size from lt_of_cell v0)
  have j0 := cellB i0 hb3
  have j1 := cellB i1 hb3
  have j2 := cellB i2 hb3
  go_wp2_with fail
  refine (HN2.out _ b3).mono ?_
  rintro r w4 ⟨a4, c4, rfl, hr4, hb4⟩
  have hb34 := hb3.trans (hb4.mono hb3.size)
  have b4 := b3.trans (hb4.mono b3.size)
  have p0 := cellB u0 hb34
  have p1 := cellB u1 hb34
  have p2 := cellB u2 hb34
  have q0 := cellB v0 hb34
  have q1 := cellB v1 hb34
  have q2 := cellB v2 hb34
  have pf : ∀ j, w4.frozen? ⟨w.heap.size + 1 + 1, j, none⟩ = false := fun j => by rw [hb34.frozen (p := ⟨w.heap.size + 1 + 1, j, none⟩) l1']; exact uf j
  have qf : ∀ j, w4.frozen? ⟨w.heap.size + 1 + 1 + 1, j, none⟩ = false := fun j => by rw [hb34.frozen (p := ⟨w.heap.size + 1 + 1 + 1, j, none⟩) l2']; exact vf j
  have y0 := cellB x0 hb4
  have y1 := cellB x1 hb4
  have y2 := cellB x2 hb4
  have hr5 := hr3.below hb34
  clear hb3 hb4 hb34 x0 x1 x2 u0 u1 u2 v0 v1 v2 uf vf i0 i1 i2 j0 j1 j2 b3 b2 hr3 HN1 HN2 l1' l2'
  have LE2 := Lib.hid (show w.heap.size ≤ w.heap.size + 1 + 1 by omega)
  have LE3 := Lib.hid (show w.heap.size ≤ w.heap.size + 1 + 1 + 1 by omega)
  have hb5 := (Below.refl w4.heap.size w4).alloc (Nat.le_refl _) (.cells #[.bool B.p.neg, .slice a4 (dg 10 B.p.m).length c4, .int .i64 B.p.e] 53)
  have b5 := b4.trans (hb5.mono b4.size)
  have l1' := lt_of_cell p0
  have l2' := lt_of_cell q0
  have HE := Lib.hid (show pairE A B = if A.err = 1 ∨ B.err = 1 then 1 else if A.err ≠ 0 then A.err else B.err from rfl)
  by_cases g1 : A.err = 1
  · have t1 : ((A.err : Int) == 1) = true := by simp [g1]
    have HV := Lib.hid (show pairE A B = 1 by rw [HE.out, if_pos (.inl g1)])
    clear HE
    have y0' := cellB y0 hb5
    have y1' := cellB y1 hb5
    have y2' := cellB y2 hb5
    have p0' := cellB p0 hb5
    have p1' := cellB p1 hb5
    have p2' := cellB p2 hb5
    have q0' := cellB q0 hb5
    have q1' := cellB q1 hb5
    have q2' := cellB q2 hb5
    have pf' := fun j => (hb5.frozen (p := ⟨w.heap.size + 1 + 1, j, none⟩) l1').trans (pf j)
    have qf' := fun j => (hb5.frozen (p := ⟨w.heap.size + 1 + 1 + 1, j, none⟩) l2').trans (qf j)
    have z0 : (w4.alloc (.cells #[.bool B.p.neg, .slice a4 (dg 10 B.p.m).length c4, .int .i64 B.p.e] 53)).cell? ⟨w4.heap.size, 0, none⟩ = some (.bool B.p.neg) := by simp
    have z1 : (w4.alloc (.cells #[.bool B.p.neg, .slice a4 (dg 10 B.p.m).length c4, .int .i64 B.p.e] 53)).cell? ⟨w4.heap.size, 1, none⟩ = some (.slice a4 (dg 10 B.p.m).length c4) := by simp
    have z2 : (w4.alloc (.cells #[.bool B.p.neg, .slice a4 (dg 10 B.p.m).length c4, .int .i64 B.p.e] 53)).cell? ⟨w4.heap.size, 2, none⟩ = some (.int .i64 B.p.e) := by simp
    have HR3 := Lib.hid (hr5.below hb5)
    have HR4 := Lib.hid (hr4.below hb5)
    have l4' : w.heap.size + 1 + 1 + 1 < w4.heap.size := l2'
    have ne1 : ¬ w4.heap.size = w.heap.size + 1 + 1 := by omega
    have ne2 : ¬ w4.heap.size = w.heap.size + 1 + 1 + 1 := by omega
    have ne3 : ¬ w2.heap.size = w.heap.size + 1 + 1 := by have := L2.out; omega
    have ne4 : ¬ w2.heap.size = w.heap.size + 1 + 1 + 1 := by have := L2.out; omega
    have me1 : ¬ w.heap.size + 1 + 1 = w4.heap.size := by omega
    have me2 : ¬ w.heap.size + 1 + 1 + 1 = w4.heap.size := by omega
    have me3 : ¬ w.heap.size + 1 + 1 = w2.heap.size := by have := L2.out; omega
    have me4 : ¬ w.heap.size + 1 + 1 + 1 = w2.heap.size := by have := L2.out; omega
    clear hb5 y0 y1 y2 p0 p1 p2 q0 q1 q2 pf qf hr5 hr4 b4 l1' l2'
    go_wp2
    generalize w4.alloc (.cells #[.bool B.p.neg, .slice a4 (dg 10 B.p.m).length c4, .int .i64 B.p.e] 53) = w5 at *
    have r1 := HR3.out.six p0' p1' p2' q0' q1' q2' (by omega) (.bool A.p.neg) (.slice a3 (dg 10 A.p.m).length c3) (.int .i64 A.p.e) (.bool B.p.neg) (.slice a4 (dg 10 B.p.m).length c4) (.int .i64 B.p.e)
    have r2 := HR4.out.six p0' p1' p2' q0' q1' q2' (by omega) (.bool A.p.neg) (.slice a3 (dg 10 A.p.m).length c3) (.int .i64 A.p.e) (.bool B.p.neg) (.slice a4 (dg 10 B.p.m).length c4) (.int .i64 B.p.e)
    have R1 := Lib.hid r1; have R2 := Lib.hid r2
    clear r1 r2
    go_region
    go_wp2
    refine bodyPost_ret (v := .tuple #[.agg #[.bool A.p.neg, .slice a3 (dg 10 A.p.m).length c3, .int .i64 A.p.e], .agg #[.bool B.p.neg, .slice a4 (dg 10 B.p.m).length c4, .int .i64 B.p.e], .int .i64 (1 : Nat)]) (by simp [results, Tryz.results37, go_sem, p0', p1', p2', q0', q1', q2']) rfl ?_
    exact ⟨a3, c3, a4, c4, by rw [HV.out], RdC.drew R1.out, RdC.drew R2.out, ((((((b5.setCell LE2.out _).setCell LE2.out _).setCell LE2.out _).setCell LE3.out _).setCell LE3.out _).setCell LE3.out _).drew⟩
  · have t1 : ((A.err : Int) == 1) = false := by simp; omega
    by_cases g2 : B.err = 1
    · have t2 : ((B.err : Int) == 1) = true := by simp [g2]
      have HV := Lib.hid (show pairE A B = 1 by rw [HE.out, if_pos (.inr g2)])
      clear HE
      have y0' := cellB y0 hb5
      have y1' := cellB y1 hb5
      have y2' := cellB y2 hb5
      have p0' := cellB p0 hb5
      have p1' := cellB p1 hb5
      have p2' := cellB p2 hb5
      have q0' := cellB q0 hb5
      have q1' := cellB q1 hb5
      have q2' := cellB q2 hb5
      have pf' := fun j => (hb5.frozen (p := ⟨w.heap.size + 1 + 1, j, none⟩) l1').trans (pf j)
      have qf' := fun j => (hb5.frozen (p := ⟨w.heap.size + 1 + 1 + 1, j, none⟩) l2').trans (qf j)
      have z0 : (w4.alloc (.cells #[.bool B.p.neg, .slice a4 (dg 10 B.p.m).length c4, .int .i64 B.p.e] 53)).cell? ⟨w4.heap.size, 0, none⟩ = some (.bool B.p.neg) := by simp
      have z1 : (w4.alloc (.cells #[.bool B.p.neg, .slice a4 (dg 10 B.p.m).length c4, .int .i64 B.p.e] 53)).cell? ⟨w4.heap.size, 1, none⟩ = some (.slice a4 (dg 10 B.p.m).length c4) := by simp
      have z2 : (w4.alloc (.cells #[.bool B.p.neg, .slice a4 (dg 10 B.p.m).length c4, .int .i64 B.p.e] 53)).cell? ⟨w4.heap.size, 2, none⟩ = some (.int .i64 B.p.e) := by simp
      have HR3 := Lib.hid (hr5.below hb5)
      have HR4 := Lib.hid (hr4.below hb5)
      have l4' : w.heap.size + 1 + 1 + 1 < w4.heap.size := l2'
      have ne1 : ¬ w4.heap.size = w.heap.size + 1 + 1 := by omega
      have ne2 : ¬ w4.heap.size = w.heap.size + 1 + 1 + 1 := by omega
      have ne3 : ¬ w2.heap.size = w.heap.size + 1 + 1 := by have := L2.out; omega
      have ne4 : ¬ w2.heap.size = w.heap.size + 1 + 1 + 1 := by have := L2.out; omega
      have me1 : ¬ w.heap.size + 1 + 1 = w4.heap.size := by omega
      have me2 : ¬ w.heap.size + 1 + 1 + 1 = w4.heap.size := by omega
      have me3 : ¬ w.heap.size + 1 + 1 = w2.heap.size := by have := L2.out; omega
      have me4 : ¬ w.heap.size + 1 + 1 + 1 = w2.heap.size := by have := L2.out; omega
      clear hb5 y0 y1 y2 p0 p1 p2 q0 q1 q2 pf qf hr5 hr4 b4 l1' l2'
      go_wp2
      generalize w4.alloc (.cells #[.bool B.p.neg, .slice a4 (dg 10 B.p.m).length c4, .int .i64 B.p.e] 53) = w5 at *
      have r1 := HR3.out.six p0' p1' p2' q0' q1' q2' (by omega) (.bool A.p.neg) (.slice a3 (dg 10 A.p.m).length c3) (.int .i64 A.p.e) (.bool B.p.neg) (.slice a4 (dg 10 B.p.m).length c4) (.int .i64 B.p.e)
      have r2 := HR4.out.six p0' p1' p2' q0' q1' q2' (by omega) (.bool A.p.neg) (.slice a3 (dg 10 A.p.m).length c3) (.int .i64 A.p.e) (.bool B.p.neg) (.slice a4 (dg 10 B.p.m).length c4) (.int .i64 B.p.e)
      have R1 := Lib.hid r1; have R2 := Lib.hid r2
      clear r1 r2
      go_region
      go_wp2
      refine bodyPost_ret (v := .tuple #[.agg #[.bool A.p.neg, .slice a3 (dg 10 A.p.m).length c3, .int .i64 A.p.e], .agg #[.bool B.p.neg, .slice a4 (dg 10 B.p.m).length c4, .int .i64 B.p.e], .int .i64 (1 : Nat)]) (by simp [results, Tryz.results37, go_sem, p0', p1', p2', q0', q1', q2']) rfl ?_
      exact ⟨a3, c3, a4, c4, by rw [HV.out], RdC.drew R1.out, RdC.drew R2.out, ((((((b5.setCell LE2.out _).setCell LE2.out _).setCell LE2.out _).setCell LE3.out _).setCell LE3.out _).setCell LE3.out _).drew⟩
    · have t2 : ((B.err : Int) == 1) = false := by simp; omega
      by_cases g3 : A.err = 0
      · have t3 : ((A.err : Int) != 0) = false := by simp [g3]
        have HV := Lib.hid (show pairE A B = B.err by rw [HE.out, if_neg (by omega), if_neg (by omega)])
        clear HE
        have y0' := cellB y0 hb5
        have y1' := cellB y1 hb5
        have y2' := cellB y2 hb5
        have p0' := cellB p0 hb5
        have p1' := cellB p1 hb5
        have p2' := cellB p2 hb5
        have q0' := cellB q0 hb5
        have q1' := cellB q1 hb5
        have q2' := cellB q2 hb5
        have pf' := fun j => (hb5.frozen (p := ⟨w.heap.size + 1 + 1, j, none⟩) l1').trans (pf j)
        have qf' := fun j => (hb5.frozen (p := ⟨w.heap.size + 1 + 1 + 1, j, none⟩) l2').trans (qf j)
        have z0 : (w4.alloc (.cells #[.bool B.p.neg, .slice a4 (dg 10 B.p.m).length c4, .int .i64 B.p.e] 53)).cell? ⟨w4.heap.size, 0, none⟩ = some (.bool B.p.neg) := by simp
        have z1 : (w4.alloc (.cells #[.bool B.p.neg, .slice a4 (dg 10 B.p.m).length c4, .int .i64 B.p.e] 53)).cell? ⟨w4.heap.size, 1, none⟩ = some (.slice a4 (dg 10 B.p.m).length c4) := by simp
        have z2 : (w4.alloc (.cells #[.bool B.p.neg, .slice a4 (dg 10 B.p.m).length c4, .int .i64 B.p.e] 53)).cell? ⟨w4.heap.size, 2, none⟩ = some (.int .i64 B.p.e) := by simp
        have HR3 := Lib.hid (hr5.below hb5)
        have HR4 := Lib.hid (hr4.below hb5)
        have l4' : w.heap.size + 1 + 1 + 1 < w4.heap.size := l2'
        have ne1 : ¬ w4.heap.size = w.heap.size + 1 + 1 := by omega
        have ne2 : ¬ w4.heap.size = w.heap.size + 1 + 1 + 1 := by omega
        have ne3 : ¬ w2.heap.size = w.heap.size + 1 + 1 := by have := L2.out; omega
        have ne4 : ¬ w2.heap.size = w.heap.size + 1 + 1 + 1 := by have := L2.out; omega
        have me1 : ¬ w.heap.size + 1 + 1 = w4.heap.size := by omega
        have me2 : ¬ w.heap.size + 1 + 1 + 1 = w4.heap.size := by omega
        have me3 : ¬ w.heap.size + 1 + 1 = w2.heap.size := by have := L2.out; omega
        have me4 : ¬ w.heap.size + 1 + 1 + 1 = w2.heap.size := by have := L2.out; omega
        clear hb5 y0 y1 y2 p0 p1 p2 q0 q1 q2 pf qf hr5 hr4 b4 l1' l2'
        go_wp2
        generalize w4.alloc (.cells #[.bool B.p.neg, .slice a4 (dg 10 B.p.m).length c4, .int .i64 B.p.e] 53) = w5 at *
        have r1 := HR3.out.six p0' p1' p2' q0' q1' q2' (by omega) (.bool A.p.neg) (.slice a3 (dg 10 A.p.m).length c3) (.int .i64 A.p.e) (.bool B.p.neg) (.slice a4 (dg 10 B.p.m).length c4) (.int .i64 B.p.e)
        have r2 := HR4.out.six p0' p1' p2' q0' q1' q2' (by omega) (.bool A.p.neg) (.slice a3 (dg 10 A.p.m).length c3) (.int .i64 A.p.e) (.bool B.p.neg) (.slice a4 (dg 10 B.p.m).length c4) (.int .i64 B.p.e)
        have R1 := Lib.hid r1; have R2 := Lib.hid r2
        clear r1 r2
        go_region
        go_wp2
        refine bodyPost_ret (v := .tuple #[.agg #[.bool A.p.neg, .slice a3 (dg 10 A.p.m).length c3, .int .i64 A.p.e], .agg #[.bool B.p.neg, .slice a4 (dg 10 B.p.m).length c4, .int .i64 B.p.e], .int .i64 (B.err : Nat)]) (by simp [results, Tryz.results37, go_sem, p0', p1', p2', q0', q1', q2']) rfl ?_
        exact ⟨a3, c3, a4, c4, by rw [HV.out], RdC.drew R1.out, RdC.drew R2.out, ((((((b5.setCell LE2.out _).setCell LE2.out _).setCell LE2.out _).setCell LE3.out _).setCell LE3.out _).setCell LE3.out _).drew⟩
      · have t3 : ((A.err : Int) != 0) = true := by simp [g3]
        have HV := Lib.hid (show pairE A B = A.err by rw [HE.out, if_neg (by omega), if_pos g3])
        clear HE
        have y0' := cellB y0 hb5
        have y1' := cellB y1 hb5
        have y2' := cellB y2 hb5
        have p0' := cellB p0 hb5
        have p1' := cellB p1 hb5
        have p2' := cellB p2 hb5
        have q0' := cellB q0 hb5
        have q1' := cellB q1 hb5
        have q2' := cellB q2 hb5
        have pf' := fun j => (hb5.frozen (p := ⟨w.heap.size + 1 + 1, j, none⟩) l1').trans (pf j)
        have qf' := fun j => (hb5.frozen (p := ⟨w.heap.size + 1 + 1 + 1, j, none⟩) l2').trans (qf j)
        have z0 : (w4.alloc (.cells #[.bool B.p.neg, .slice a4 (dg 10 B.p.m).length c4, .int .i64 B.p.e] 53)).cell? ⟨w4.heap.size, 0, none⟩ = some (.bool B.p.neg) := by simp
        have z1 : (w4.alloc (.cells #[.bool B.p.neg, .slice a4 (dg 10 B.p.m).length c4, .int .i64 B.p.e] 53)).cell? ⟨w4.heap.size, 1, none⟩ = some (.slice a4 (dg 10 B.p.m).length c4) := by simp
        have z2 : (w4.alloc (.cells #[.bool B.p.neg, .slice a4 (dg 10 B.p.m).length c4, .int .i64 B.p.e] 53)).cell? ⟨w4.heap.size, 2, none⟩ = some (.int .i64 B.p.e) := by simp
        have HR3 := Lib.hid (hr5.below hb5)
        have HR4 := Lib.hid (hr4.below hb5)
        have l4' : w.heap.size + 1 + 1 + 1 < w4.heap.size := l2'
        have ne1 : ¬ w4.heap.size = w.heap.size + 1 + 1 := by omega
        have ne2 : ¬ w4.heap.size = w.heap.size + 1 + 1 + 1 := by omega
        have ne3 : ¬ w2.heap.size = w.heap.size + 1 + 1 := by have := L2.out; omega
        have ne4 : ¬ w2.heap.size = w.heap.size + 1 + 1 + 1 := by have := L2.out; omega
        have me1 : ¬ w.heap.size + 1 + 1 = w4.heap.size := by omega
        have me2 : ¬ w.heap.size + 1 + 1 + 1 = w4.heap.size := by omega
        have me3 : ¬ w.heap.size + 1 + 1 = w2.heap.size := by have := L2.out; omega
        have me4 : ¬ w.heap.size + 1 + 1 + 1 = w2.heap.size := by have := L2.out; omega
        clear hb5 y0 y1 y2 p0 p1 p2 q0 q1 q2 pf qf hr5 hr4 b4 l1' l2'
        go_wp2
        generalize w4.alloc (.cells #[.bool B.p.neg, .slice a4 (dg 10 B.p.m).length c4, .int .i64 B.p.e] 53) = w5 at *
        have r1 := HR3.out.six p0' p1' p2' q0' q1' q2' (by omega) (.bool A.p.neg) (.slice a3 (dg 10 A.p.m).length c3) (.int .i64 A.p.e) (.bool B.p.neg) (.slice a4 (dg 10 B.p.m).length c4) (.int .i64 B.p.e)
        have r2 := HR4.out.six p0' p1' p2' q0' q1' q2' (by omega) (.bool A.p.neg) (.slice a3 (dg 10 A.p.m).length c3) (.int .i64 A.p.e) (.bool B.p.neg) (.slice a4 (dg 10 B.p.m).length c4) (.int .i64 B.p.e)
        have R1 := Lib.hid r1; have R2 := Lib.hid r2
        clear r1 r2
        go_region
        go_wp2
        refine bodyPost_ret (v := .tuple #[.agg #[.bool A.p.neg, .slice a3 (dg 10 A.p.m).length c3, .int .i64 A.p.e], .agg #[.bool B.p.neg, .slice a4 (dg 10 B.p.m).length c4, .int .i64 B.p.e], .int .i64 (A.err : Nat)]) (by simp [results, Tryz.results37, go_sem, p0', p1', p2', q0', q1', q2']) rfl ?_
        exact ⟨a3, c3, a4, c4, by rw [HV.out], RdC.drew R1.out, RdC.drew R2.out, ((((((b5.setCell LE2.out _).setCell LE2.out _).setCell LE2.out _).setCell LE3.out _).setCell LE3.out _).setCell LE3.out _).drew⟩
end Go.Proofs.YtimfpgpomafflaaGreatDoor

/- Walks of dec.Neg and the document's Neg. -/
namespace Go.Proofs.YtimfpgpomafflaaGreatDoor
open Go.RowKit LM

set_option maxHeartbeats 4000000 in
theorem DNeg_any (s : Bool) (a : Option Addr) (c : Nat) (l : List Nat) (e : Int) (w : World) (hl : l.length ≤ 9223372036854775807) (hlo : Lo 4294967296 l) (hrd : Rd w .u32 a l) (htab : Tab w) :
    Calls Tryz.prog 28 #[.agg #[.bool s, .slice a l.length c, .int .i64 e]] w (ResA (normA l.length (!s) (vl 1000000000 l) e) w) := by
  rcases hnr : nearB l.length e with _ | _
  · have hA : normA l.length (!s) (vl 1000000000 l) e = ⟨1, zP⟩ := by unfold normA; rw [if_neg (by rw [hnr]; exact Bool.false_ne_true)]
    rw [hA]
    have hI := fun W => isNear_any s a l.length c e W
    rw [hnr] at hI
    have HI := Lib.hid hI
    clear hI hnr hA hlo hrd htab
    go_enter Tryz.func28, Tryz.ntmps28
    go_wp2_with fail
    refine (HI.out _).mono ?_
    rintro r w1 ⟨rfl, hb⟩
    obtain ⟨hc, hf⟩ := bcell hb
    have bb := (((Below.refl w.heap.size w).alloc (Nat.le_refl _) (.cells #[.bool s, .slice a l.length c, .int .i64 e] 24)).alloc (by simp) (.cells #[.bool false, .slice none 0 0, .int .i64 0] 24)).trans (hb.mono (by simp; omega))
    clear hb
    go_wp2
    refine bodyPost_ret (v := .tuple #[.agg #[.bool false, .slice none 0 0, .int .i64 0], .int .i64 1]) (by simp [results, Tryz.results28, go_sem, hc, hf]) rfl ?_
    exact ⟨none, 0, by show _ = Ending.returned (.tuple #[.agg #[.bool false, .slice none (dg 1000000000 0).length 0, .int .i64 0], .int .i64 1]); rw [dg_zero]; rfl, by show Own _ _ _ .u32 none 0 (dg 1000000000 0); rw [dg_zero]; exact Own.nilNone _ _ _ _, ((bb.setCell (Nat.le_succ _) _).setCell (Nat.le_succ _) _).setCell (Nat.le_succ _) _⟩
  · have hI := fun W => isNear_any s a l.length c e W
    rw [hnr] at hI
    have HI := Lib.hid hI
    have hA : normA l.length (!s) (vl 1000000000 l) e = tellA (!s) (vl 1000000000 l) e := by unfold normA; rw [if_pos hnr]
    rw [hA]
    have hn := of_decide_eq_true hnr
    have hN := fun W hb => Norm_any a c l W (by omega) hlo (hrd.below' (w' := W) hb (Nat.le_refl _))
    have HN := Lib.hid hN
    obtain ⟨hv1, hv2⟩ := near_few hlo hn.1
    have hTL := fun a1 c1 W hr ht => tell_any (!s) a1 c1 (vl 1000000000 l) e W hv1 hv2 (by omega) (by omega) hr ht
    have HTL := Lib.hid hTL
    clear hI hnr hA hN hTL hv1 hv2
    go_enter Tryz.func28, Tryz.ntmps28
    go_wp2_with fail
    refine (HI.out _).mono ?_
    rintro r w1 ⟨rfl, hb⟩
    obtain ⟨hc, hf⟩ := bcell hb
    have bb := (((Below.refl w.heap.size w).alloc (Nat.le_refl _) (.cells #[.bool s, .slice a l.length c, .int .i64 e] 24)).alloc (by simp) (.cells #[.bool false, .slice none 0 0, .int .i64 0] 24)).trans (hb.mono (by simp; omega))
    have k0 : w1.cell? ⟨w.heap.size, 0, none⟩ = some (.bool s) := by rw [hb.cell (by simp; omega)]; simp
    have k1 : w1.cell? ⟨w.heap.size, 1, none⟩ = some (.slice a l.length c) := by rw [hb.cell (by simp; omega)]; simp
    have k2 : w1.cell? ⟨w.heap.size, 2, none⟩ = some (.int .i64 e) := by rw [hb.cell (by simp; omega)]; simp
    have k3 : ∀ j, j < 3 → ∃ x, w1.cell? ⟨w.heap.size + 1, j, none⟩ = some x := fun j hj => ⟨(#[Value.bool false, .slice none 0 0, .int .i64 0])[j]'(by simpa using hj), by rw [hb.cell (by simp)]; simp⟩
    have k6 : ∀ j, w1.frozen? ⟨w.heap.size + 1, j, none⟩ = false := fun j => by rw [hb.frozen (by simp)]; simp
    clear hb hc hf
    have K3 := Lib.hid k3; have K6 := Lib.hid k6
    clear k3 k6
    go_wp2_with fail
    go_region_held3 (fun w' => w'.cell? ⟨w.heap.size, 0, none⟩ = some (.bool s) ∧ w'.cell? ⟨w.heap.size, 1, none⟩ = some (.slice a l.length c) ∧ w'.cell? ⟨w.heap.size, 2, none⟩ = some (.int .i64 e)) (first | go_keep | exact ⟨j0, j1, j2⟩ | exact ⟨i0, i1, i2⟩)
      (first
        | (go_at_call 62; refine (HN.out _ bb.drew).mono ?_; rintro e w2 ⟨a1, c1, rfl, ho1, hb1⟩; have bb2 := bb.drew.trans (hb1.mono bb.size); have j0 : w2.cell? ⟨w.heap.size, 0, none⟩ = some (.bool s) := (by rw [hb1.cell (lt_of_cell k0)]; exact k0); have j1 : w2.cell? ⟨w.heap.size, 1, none⟩ = some (.slice a l.length c) := (by rw [hb1.cell (lt_of_cell k1)]; exact k1); have j2 : w2.cell? ⟨w.heap.size, 2, none⟩ = some (.int .i64 e) := (by rw [hb1.cell (lt_of_cell k2)]; exact k2))
        | (go_at_call 59; refine (HTL.out a1 c1 _ ho1.rd (htab.below bb2)).mono ?_; rintro e w3 ⟨a3, c3, rfl, hr3, hb3⟩; have i0 : w3.cell? ⟨w.heap.size, 0, none⟩ = some (.bool s) := (by rw [hb3.cell (lt_of_cell j0)]; exact j0); have i1 : w3.cell? ⟨w.heap.size, 1, none⟩ = some (.slice a l.length c) := (by rw [hb3.cell (lt_of_cell j1)]; exact j1); have i2 : w3.cell? ⟨w.heap.size, 2, none⟩ = some (.int .i64 e) := (by rw [hb3.cell (lt_of_cell j2)]; exact j2); obtain ⟨o0, o1, o2, hofr⟩ := res3 (w1 := w1.drew) K3.out K6.out hb1 hb3; obtain ⟨x0, i3⟩ := o0; obtain ⟨x1, i4⟩ := o1; obtain ⟨x2, i5⟩ := o2))
    have hg1 : w.heap.size + 1 < w2.heap.size := Nat.lt_of_lt_of_le (lt_of_cell (K3.out 0 (by omega)).choose_spec) hb1.size
    have ap := hr3.apart hg1
    have bb3 := bb2.trans (hb3.mono bb2.size)
    have hown := hr3.mono bb2.size
    clear hr3 hb3 hb1
    go_wp2
    refine bodyPost_ret (v := .tuple #[.agg #[.bool (tellA (!s) (vl 1000000000 l) e).p.neg, .slice a3 (dg 1000000000 (tellA (!s) (vl 1000000000 l) e).p.m).length c3, .int .i64 (tellA (!s) (vl 1000000000 l) e).p.e], .int .i64 ((tellA (!s) (vl 1000000000 l) e).err : Nat)]) (by simp [results, Tryz.results28, go_sem, i3, i4, i5]) rfl ?_
    exact ⟨a3, c3, rfl, ((hown.setFar ap _ _).setFar ap _ _).setFar ap _ _, ((bb3.setCell (Nat.le_succ _) _).setCell (Nat.le_succ _) _).setCell (Nat.le_succ _) _⟩

def flipP (p : Pl) : Pl := if 0 < p.m then ⟨!p.neg, p.m, p.e⟩ else p
theorem pl_flip (s : Bool) (v : Nat) (e : Int) : pl (!s) v e = flipP (pl s v e) := by
  unfold flipP
  rcases Nat.eq_zero_or_pos v with h | h
  · subst h; rfl
  · have hp : ∀ s, pl s v e = ⟨s, core v, e + tz v⟩ := fun s => by unfold pl; rw [if_neg (by omega)]
    rw [hp, hp, if_pos (core_pos h)]
theorem inR_flip (p : Pl) : inR (flipP p) = inR p := by
  unfold flipP
  split <;> rfl
theorem normA_flip (n : Nat) (s : Bool) (v : Nat) (e : Int) : normA n (!s) v e = ⟨(normA n s v e).err, if (normA n s v e).err = 0 then flipP (normA n s v e).p else zP⟩ := by
  unfold normA
  by_cases h : nearB n e = true
  · rw [if_pos h, if_pos h]
    unfold tellA
    rw [pl_flip, inR_flip]
    by_cases h2 : inR (pl s v e) = true
    · rw [if_pos h2, if_pos h2]; rfl
    · rw [if_neg h2, if_neg h2]; rfl
  · rw [if_neg h, if_neg h]; rfl

theorem resN_err0 {n : Nat} {w w' : World} (hb : Below w.heap.size w w') : ResN ⟨n, zP⟩ w (.returned (.tuple #[.agg #[.bool false, .slice none 0 0, .int .i64 0], .int .i64 (n : Nat)])) w' :=
  ⟨none, 0, by show _ = Ending.returned (.tuple #[.agg #[.bool false, .slice none (dg 1000000000 0).length 0, .int .i64 0], .int .i64 (n : Nat)]); rw [dg_zero]; rfl, by show Own _ _ _ .u32 none 0 (dg 1000000000 0); rw [dg_zero]; exact Own.nilNone _ _ _ _, hb⟩

end Go.Proofs.YtimfpgpomafflaaGreatDoor

/- Walks of dec.aligned, dec.Cmp. -/
namespace Go.Proofs.YtimfpgpomafflaaGreatDoor
open Go.RowKit LM

/-- a number's digits from a power on -/
def ual (p : Pl) (e : Int) : Nat := p.m * 10 ^ (p.e - e).toNat
def mn (p q : Pl) : Int := min p.e q.e
/-- within the limits -/
def Bd (p : Pl) : Prop := dl p.m ≤ 400 ∧ -10400 ≤ p.e ∧ p.e ≤ 10001
theorem Bd.of {p : Pl} (h : inR p = true) : Bd p := inR_bounds h
theorem Bd.dg9 {p : Pl} (h : Bd p) : (dg 1000000000 p.m).length ≤ 400 := Nat.le_trans (dg_len_9 _) h.1

def ResAl (p q : Pl) (w : World) (r : Ending) (w' : World) : Prop := ∃ ap cp aq cq, r = .returned (.tuple #[.slice ap (dg 1000000000 (ual p (mn p q))).length cp, .slice aq (dg 1000000000 (ual q (mn p q))).length cq, .int .i64 (mn p q)]) ∧
  Own w' w.heap.size 40 .u32 ap cp (dg 1000000000 (ual p (mn p q))) ∧ Own w' w.heap.size 40 .u32 aq cq (dg 1000000000 (ual q (mn p q))) ∧ Below w.heap.size w w'

theorem shift_int (v : Nat) (a : Option Addr) (c : Nat) {A : Int} (n : Nat) (hA : A = (n : Int)) (w : World) (hn : n ≤ 30000) (hl : (dg 1000000000 v).length ≤ 536870912) (hr : Rd w .u32 a (dg 1000000000 v)) :
    Calls Tryz.prog 71 #[.slice a (dg 1000000000 v).length c, .int .i64 A] w fun e w' => ∃ a' cap', e = .returned (.tuple #[.slice a' (dg 1000000000 (v * 10 ^ n)).length cap', .int .i64 0]) ∧
      Own w' w.heap.size 40 .u32 a' cap' (dg 1000000000 (v * 10 ^ n)) ∧ Below w.heap.size w w' := by
  subst hA
  have h := Shift_any a c (dg 1000000000 v) n w hn hl (Lo_mono (Lo_dg (by omega) _) (by omega)) hr
  rw [vl_dg (by omega)] at h
  exact h

set_option maxHeartbeats 8000000 in
set_option maxRecDepth 100000 in
theorem aligned_any (p q : Pl) (a1 a2 : Option Addr) (c1 c2 : Nat) (w : World) (hp : Bd p) (hq : Bd q) (hr1 : Rd w .u32 a1 (dg 1000000000 p.m)) (hr2 : Rd w .u32 a2 (dg 1000000000 q.m)) :
    Calls Tryz.prog 63 #[.agg #[.bool p.neg, .slice a1 (dg 1000000000 p.m).length c1, .int .i64 p.e], .agg #[.bool q.neg, .slice a2 (dg 1000000000 q.m).length c2, .int .i64 q.e]] w (ResAl p q w) := by
  have l1 := hp.dg9
  have l2 := hq.dg9
  obtain ⟨e, n1, n2, hE, h1, h2, h3, h4⟩ : ∃ (e : Int) (n1 n2 : Nat), e = mn p q ∧ p.e - e = n1 ∧ q.e - e = n2 ∧ n1 ≤ 30000 ∧ n2 ≤ 30000 := by
    obtain ⟨_, a3, a4⟩ := hp
    obtain ⟨_, b3, b4⟩ := hq
    refine ⟨mn p q, (p.e - mn p q).toNat, (q.e - mn p q).toNat, rfl, ?_, ?_, ?_, ?_⟩ <;> (unfold mn; omega)
  have hu1 : ual p (mn p q) = p.m * 10 ^ n1 := by unfold ual; rw [← hE, h1, Int.toNat_natCast]
  have hu2 : ual q (mn p q) = q.m * 10 ^ n2 := by unfold ual; rw [← hE, h2, Int.toNat_natCast]
  have hS1 := fun W hb => shift_int p.m a1 c1 n1 h1 W h3 (by omega) (hr1.below' (w' := W) hb (Nat.le_refl _))
  have hS2 := fun W hb => shift_int q.m a2 c2 n2 h2 W h4 (by omega) (hr2.below' (w' := W) hb (Nat.le_refl _))
  rw [← hu1] at hS1
  rw [← hu2] at hS2
  have hmin : min p.e q.e = e := hE.symm
  have HEE := Lib.hid hE
  have HS1 := Lib.hid hS1; have HS2 := Lib.hid hS2
  have hb1 : -100000 ≤ p.e ∧ p.e ≤ 100000 ∧ -100000 ≤ q.e ∧ q.e ≤ 100000 ∧ -100000 ≤ e ∧ e ≤ 100000 := by
    obtain ⟨_, a3, a4⟩ := hp
    obtain ⟨_, b3, b4⟩ := hq
    omega
  obtain ⟨k1, k2, k3, k4, k5, k6⟩ := hb1
  unfold ResAl
  rw [← hE]
  rw [← hE] at HS1 HS2
  generalize ual p e = u1 at *
  generalize ual q e = u2 at *
  obtain ⟨s1, m1, e1⟩ := p
  obtain ⟨s2, m2, e2⟩ := q
  simp only at *
  clear hS1 hS2 hu1 hu2 hE hp hq hr1 hr2 l1 l2 h1 h2 h3 h4
  generalize (dg 1000000000 m1).length = x1 at *
  generalize (dg 1000000000 m2).length = x2 at *
  go_enter Tryz.func63, Tryz.ntmps63
  go_wp2_with fail
  refine (HS1.out _ (((Below.refl _ _).alloc (Nat.le_refl _) _).alloc (by simp) _)).mono ?_
  rintro r w2 ⟨a3, c3, rfl, ho3, hb3⟩
  have b3 := (((Below.refl w.heap.size w).alloc (Nat.le_refl _) (.cells #[.bool s1, .slice a1 x1 c1, .int .i64 e1] 24)).alloc (by simp) (.cells #[.bool s2, .slice a2 x2 c2, .int .i64 e2] 24)).trans (hb3.mono (by simp; omega))
  have i0 : w2.cell? ⟨w.heap.size + 1, 0, none⟩ = some (.bool s2) := by rw [hb3.cell (by simp)]; simp
  have i1 : w2.cell? ⟨w.heap.size + 1, 1, none⟩ = some (.slice a2 x2 c2) := by rw [hb3.cell (by simp)]; simp
  have i2 : w2.cell? ⟨w.heap.size + 1, 2, none⟩ = some (.int .i64 e2) := by rw [hb3.cell (by simp)]; simp
  have hown3 := ho3.mono (show w.heap.size ≤ _ by simp; omega)
  clear hb3 ho3
  go_wp2_with fail
  refine (HS2.out _ b3).mono ?_
  rintro r w4 ⟨a4, c4, rfl, ho4, hb4⟩
  have b4 := b3.trans (hb4.mono b3.size)
  have hown4 := ho4.mono b3.size
  have hown5 := hown3.below hb4
  clear hb4 ho4 hown3
  go_wp2
  refine bodyPost_ret (v := .tuple #[.slice a3 (dg 1000000000 u1).length c3, .slice a4 (dg 1000000000 u2).length c4, .int .i64 e]) (by simp [results, Tryz.results63, go_sem]) rfl ?_
  exact ⟨a3, c3, a4, c4, rfl, hown5, hown4, b4⟩

def cmpP (p q : Pl) : Int :=
  if p.neg = true ∧ q.neg = false then -1 else if q.neg = true ∧ p.neg = false then 1
  else if p.neg = true then cmpN (ual q (mn p q)) (ual p (mn p q)) else cmpN (ual p (mn p q)) (ual q (mn p q))
/-- what a comparison answers -/
def ResCm (A B : Ans) (w : World) (r : Ending) (w' : World) : Prop := Below w.heap.size w w' ∧
  ((A.err = 0 ∧ B.err = 0 ∧ r = .returned (.tuple #[.int .i64 (cmpP A.p B.p), .int .i64 0])) ∨ (¬ (A.err = 0 ∧ B.err = 0) ∧ r = .returned (.tuple #[.int .i64 0, .int .i64 (pairE A B : Nat)])))

theorem ual_dg9 {p : Pl} {e : Int} (h : Bd p) (he : -10400 ≤ e) : (dg 1000000000 (ual p e)).length ≤ 100000 := by
  have h1 : ual p e < 10 ^ ((dg 10 p.m).length + (p.e - e).toNat) := by
    unfold ual; rw [Nat.pow_add]
    exact Nat.mul_lt_mul_of_pos_right (dg_upper (b := 10) (by omega) p.m) (Nat.pow_pos (by omega))
  have h0 : (dg 10 p.m).length ≤ 400 := h.1
  have h3 := dg_len_of_lt (b := 10) (by omega) h1
  have h4 := dg_len_9 (ual p e)
  have h5 := h.2
  omega

theorem cmp9 (u v : Nat) (a b : Option Addr) (ca cb : Nat) (w : World) (hu : (dg 1000000000 u).length ≤ 100000) (hv : (dg 1000000000 v).length ≤ 100000) (ha : Rd w .u32 a (dg 1000000000 u)) (hb : Rd w .u32 b (dg 1000000000 v)) :
    Calls Tryz.prog 56 #[.slice a (dg 1000000000 u).length ca, .slice b (dg 1000000000 v).length cb] w fun e w' => e = .returned (.int .i64 (cmpN u v)) ∧ Below w.heap.size w w' := by
  have h := Cmp_any a b ca cb (dg 1000000000 u) (dg 1000000000 v) w (by omega) (by omega) (Lo_mono (Lo_dg (by omega) _) (by omega)) (Lo_mono (Lo_dg (by omega) _) (by omega)) ha hb
  rw [vl_dg (by omega), vl_dg (by omega)] at h
  exact h

set_option maxHeartbeats 16000000 in
set_option maxRecDepth 20000 in
theorem DCmp_any (s1 s2 : Bool) (a1 a2 : Option Addr) (c1 c2 : Nat) (l1 l2 : List Nat) (e1 e2 : Int) (w : World) (h1 : l1.length ≤ 9223372036854775807) (h2 : l2.length ≤ 9223372036854775807) (hlo1 : Lo 4294967296 l1) (hlo2 : Lo 4294967296 l2) (hr1 : Rd w .u32 a1 l1) (hr2 : Rd w .u32 a2 l2) (htab : Tab w) :
    Calls Tryz.prog 30 #[.agg #[.bool s1, .slice a1 l1.length c1, .int .i64 e1], .agg #[.bool s2, .slice a2 l2.length c2, .int .i64 e2]] w (ResCm (normA l1.length s1 (vl 1000000000 l1) e1) (normA l2.length s2 (vl 1000000000 l2) e2) w) := by
  have hP := fun W hb => plainPair_any s1 s2 a1 a2 c1 c2 l1 l2 e1 e2 W h1 h2 hlo1 hlo2 (hr1.below' (w' := W) hb (Nat.le_refl _)) (hr2.below' hb (Nat.le_refl _)) (htab.below hb)
  have hbA : Bd (normA l1.length s1 (vl 1000000000 l1) e1).p := Bd.of (normA_in _ _ _ _)
  have hbB : Bd (normA l2.length s2 (vl 1000000000 l2) e2).p := Bd.of (normA_in _ _ _ _)
  generalize normA l1.length s1 (vl 1000000000 l1) e1 = A at *
  generalize normA l2.length s2 (vl 1000000000 l2) e2 = B at *
  have HP := Lib.hid hP
  clear hP hlo1 hlo2 hr1 hr2 htab
  go_enter Tryz.func30, Tryz.ntmps30
  go_wp2_with fail
  refine (HP.out _ (((Below.refl _ _).alloc (Nat.le_refl _) _).alloc (by simp) _)).mono ?_
  rintro r w2 ⟨hb2, h⟩
  have b2 := (((Below.refl w.heap.size w).alloc (Nat.le_refl _) (.cells #[.bool s1, .slice a1 l1.length c1, .int .i64 e1] 24)).alloc (by simp) (.cells #[.bool s2, .slice a2 l2.length c2, .int .i64 e2] 24)).trans (hb2.mono (by simp; omega))
  clear hb2 HP
  rcases h with ⟨hA, hB, a3, c3, a4, c4, rfl, ho3, ho4⟩ | ⟨hbad, rfl⟩
  · have HA := Lib.hid hA; have HB := Lib.hid hB
    have hAl := fun W r1 r2 => aligned_any A.p B.p a3 a4 c3 c4 W hbA hbB r1 r2
    have hmn : -10400 ≤ mn A.p B.p := by have := hbA.2.1; have := hbB.2.1; unfold mn; omega
    have hC1 := fun a b ca cb W ha hb => cmp9 (ual A.p (mn A.p B.p)) (ual B.p (mn A.p B.p)) a b ca cb W (ual_dg9 hbA hmn) (ual_dg9 hbB hmn) ha hb
    have hC2 := fun a b ca cb W ha hb => cmp9 (ual B.p (mn A.p B.p)) (ual A.p (mn A.p B.p)) a b ca cb W (ual_dg9 hbB hmn) (ual_dg9 hbA hmn) ha hb
    have hcp : cmpP A.p B.p = (if A.p.neg = true ∧ B.p.neg = false then -1 else if B.p.neg = true ∧ A.p.neg = false then 1 else if A.p.neg = true then cmpN (ual B.p (mn A.p B.p)) (ual A.p (mn A.p B.p)) else cmpN (ual A.p (mn A.p B.p)) (ual B.p (mn A.p B.p))) := rfl
    unfold ResAl at hAl
    generalize ual A.p (mn A.p B.p) = u1 at *
    generalize ual B.p (mn A.p B.p) = u2 at *
    generalize mn A.p B.p = em at *
    have HAL := Lib.hid hAl; have HC1 := Lib.hid hC1; have HC2 := Lib.hid hC2
    have q1 := ho3.rd
    have q2 := ho4.rd
    clear hA hB hAl hC1 hC2 hmn hbA hbB ho3 ho4
    obtain ⟨er1, p⟩ := A
    obtain ⟨er2, q⟩ := B
    obtain ⟨n1, m1, x1⟩ := p
    obtain ⟨n2, m2, x2⟩ := q
    simp only at *
    have hqq := ((Below.refl w2.heap.size w2).alloc (Nat.le_refl _) (.cells #[.bool n1, .slice a3 (dg 1000000000 m1).length c3, .int .i64 x1] 24)).alloc (by simp) (.cells #[.bool n2, .slice a4 (dg 1000000000 m2).length c4, .int .i64 x2] 24)
    have bq := b2.trans (hqq.mono b2.size)
    have HQ1 := Lib.hid (q1.below hqq)
    have HQ2 := Lib.hid (q2.below hqq)
    clear q1 q2 hqq
    have HCP := Lib.hid hcp
    clear hcp
    cases n1 <;> cases n2
    · go_wp2_with fail
      refine (HAL.out _ HQ1.out HQ2.out).mono ?_
      rintro r w4 ⟨a5, c5, a6, c6, rfl, ho5, ho6, hb4⟩
      have b4 := bq.trans (hb4.mono bq.size)
      have i0 : w4.cell? ⟨w2.heap.size, 0, none⟩ = some (.bool false) := by rw [hb4.cell (by simp; omega)]; simp
      have r5 := ho5.rd
      have r6 := ho6.rd
      clear hb4 bq ho5 ho6
      go_wp2_with fail
      refine (HC1.out a5 a6 c5 c6 _ r5 r6).mono ?_
      rintro r w5 ⟨rfl, hb5⟩
      have b5 := b4.trans (hb5.mono b4.size)
      go_wp2
      refine bodyPost_ret (v := .tuple #[.int .i64 (cmpN u1 u2), .int .i64 0]) (by simp [results, Tryz.results30, go_sem]) rfl ?_
      exact ⟨b5, .inl ⟨HA.out, HB.out, by rw [show cmpP ⟨false, m1, x1⟩ ⟨false, m2, x2⟩ = cmpN u1 u2 by rw [HCP.out]; simp]⟩⟩
    · go_wp2
      refine bodyPost_ret (v := .tuple #[.int .i64 (1), .int .i64 0]) (by simp [results, Tryz.results30, go_sem]) rfl ?_
      exact ⟨bq, .inl ⟨HA.out, HB.out, by rw [show cmpP ⟨false, m1, x1⟩ ⟨true, m2, x2⟩ = 1 by rw [HCP.out]; simp]⟩⟩
    · go_wp2
      refine bodyPost_ret (v := .tuple #[.int .i64 (-1), .int .i64 0]) (by simp [results, Tryz.results30, go_sem]) rfl ?_
      exact ⟨bq, .inl ⟨HA.out, HB.out, by rw [show cmpP ⟨true, m1, x1⟩ ⟨false, m2, x2⟩ = -1 by rw [HCP.out]; simp]⟩⟩
    · go_wp2_with fail
      refine (HAL.out _ HQ1.out HQ2.out).mono ?_
      rintro r w4 ⟨a5, c5, a6, c6, rfl, ho5, ho6, hb4⟩
      have b4 := bq.trans (hb4.mono bq.size)
      have i0 : w4.cell? ⟨w2.heap.size, 0, none⟩ = some (.bool true) := by rw [hb4.cell (by simp; omega)]; simp
      have r5 := ho5.rd
      have r6 := ho6.rd
      clear hb4 bq ho5 ho6
      go_wp2_with fail
      refine (HC2.out a6 a5 c6 c5 _ r6 r5).mono ?_
      rintro r w5 ⟨rfl, hb5⟩
      have b5 := b4.trans (hb5.mono b4.size)
      go_wp2
      refine bodyPost_ret (v := .tuple #[.int .i64 (cmpN u2 u1), .int .i64 0]) (by simp [results, Tryz.results30, go_sem]) rfl ?_
      exact ⟨b5, .inl ⟨HA.out, HB.out, by rw [show cmpP ⟨true, m1, x1⟩ ⟨true, m2, x2⟩ = cmpN u2 u1 by rw [HCP.out]; simp]⟩⟩
  · have HBAD := Lib.hid hbad
    have hB : ((pairE A B : Nat) : Int) ≠ 0 := by have := pairE_bad hbad; omega
    have hBB : (((pairE A B : Nat) : Int) != 0) = true := by simp; have := pairE_bad hbad; omega
    clear hbad hbA hbB
    go_wp2
    refine bodyPost_ret (v := .tuple #[.int .i64 0, .int .i64 (pairE A B : Nat)]) (by simp [results, Tryz.results30, go_sem]) rfl ?_
    exact ⟨(b2.alloc b2.size _).alloc (by simp; have := b2.size; omega) _, .inr ⟨HBAD.out, rfl⟩⟩
end Go.Proofs.YtimfpgpomafflaaGreatDoor
