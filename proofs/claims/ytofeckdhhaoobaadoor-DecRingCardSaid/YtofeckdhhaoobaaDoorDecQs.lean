/- Walk of dec.plainPair. -/
import Derived.Test.YtofeckdhhaoobaaDoorDecTl
import Derived.BigRegion
namespace Go.Proofs.YtofeckdhhaoobaaDoor
open Go.RowKit LM

/-- plainPair's boxes: two numbers given, two told, the error -/
structure PI (w wr : World) (A0 A1 A2 B0 B1 B2 X0 X1 X2 Y0 Y1 Y2 E0 : Value) : Prop where
  a0 : wr.cell? ⟨w.heap.size, 0, none⟩ = some A0
  a1 : wr.cell? ⟨w.heap.size, 1, none⟩ = some A1
  a2 : wr.cell? ⟨w.heap.size, 2, none⟩ = some A2
  b0 : wr.cell? ⟨w.heap.size + 1, 0, none⟩ = some B0
  b1 : wr.cell? ⟨w.heap.size + 1, 1, none⟩ = some B1
  b2 : wr.cell? ⟨w.heap.size + 1, 2, none⟩ = some B2
  x0 : wr.cell? ⟨w.heap.size + 1 + 1, 0, none⟩ = some X0
  x1 : wr.cell? ⟨w.heap.size + 1 + 1, 1, none⟩ = some X1
  x2 : wr.cell? ⟨w.heap.size + 1 + 1, 2, none⟩ = some X2
  y0 : wr.cell? ⟨w.heap.size + 1 + 1 + 1, 0, none⟩ = some Y0
  y1 : wr.cell? ⟨w.heap.size + 1 + 1 + 1, 1, none⟩ = some Y1
  y2 : wr.cell? ⟨w.heap.size + 1 + 1 + 1, 2, none⟩ = some Y2
  e0 : wr.cell? ⟨w.heap.size + 1 + 1 + 1 + 1, 0, none⟩ = some E0
  fx : ∀ j, wr.frozen? ⟨w.heap.size + 1 + 1, j, none⟩ = false
  fy : ∀ j, wr.frozen? ⟨w.heap.size + 1 + 1 + 1, j, none⟩ = false
  fe : ∀ j, wr.frozen? ⟨w.heap.size + 1 + 1 + 1 + 1, j, none⟩ = false
  bw : Below w.heap.size w wr

variable {w wr w' : World} {A0 A1 A2 B0 B1 B2 X0 X1 X2 Y0 Y1 Y2 E0 : Value}
theorem PI.below (h : PI w wr A0 A1 A2 B0 B1 B2 X0 X1 X2 Y0 Y1 Y2 E0) (hb : Below wr.heap.size wr w') : PI w w' A0 A1 A2 B0 B1 B2 X0 X1 X2 Y0 Y1 Y2 E0 := by
  have lx := lt_of_cell h.x0
  have ly := lt_of_cell h.y0
  have le := lt_of_cell h.e0
  exact ⟨cellB h.a0 hb, cellB h.a1 hb, cellB h.a2 hb, cellB h.b0 hb, cellB h.b1 hb, cellB h.b2 hb, cellB h.x0 hb, cellB h.x1 hb, cellB h.x2 hb, cellB h.y0 hb, cellB h.y1 hb, cellB h.y2 hb, cellB h.e0 hb, fun j => by rw [hb.frozen (p := ⟨w.heap.size + 1 + 1, j, none⟩) lx]; exact h.fx j, fun j => by rw [hb.frozen (p := ⟨w.heap.size + 1 + 1 + 1, j, none⟩) ly]; exact h.fy j, fun j => by rw [hb.frozen (p := ⟨w.heap.size + 1 + 1 + 1 + 1, j, none⟩) le]; exact h.fe j, h.bw.trans (hb.mono h.bw.size)⟩
theorem PI.setX0 (h : PI w wr A0 A1 A2 B0 B1 B2 X0 X1 X2 Y0 Y1 Y2 E0) (v : Value) : PI w (wr.setCell ⟨w.heap.size + 1 + 1, 0, none⟩ v) A0 A1 A2 B0 B1 B2 v X1 X2 Y0 Y1 Y2 E0 := by
  obtain ⟨a0, a1, a2, b0, b1, b2, x0, x1, x2, y0, y1, y2, e0, fx, fy, fe, bw⟩ := h
  exact ⟨by simp [go_sem, a0], by simp [go_sem, a1], by simp [go_sem, a2], by simp [go_sem, b0], by simp [go_sem, b1], by simp [go_sem, b2], by simp [go_sem, x0], by simp [go_sem, x1], by simp [go_sem, x2], by simp [go_sem, y0], by simp [go_sem, y1], by simp [go_sem, y2], by simp [go_sem, e0], fun j => by simp [go_sem, fx], fun j => by simp [go_sem, fy], fun j => by simp [go_sem, fe], bw.setCell (by simp; try omega) _⟩
theorem PI.setX1 (h : PI w wr A0 A1 A2 B0 B1 B2 X0 X1 X2 Y0 Y1 Y2 E0) (v : Value) : PI w (wr.setCell ⟨w.heap.size + 1 + 1, 1, none⟩ v) A0 A1 A2 B0 B1 B2 X0 v X2 Y0 Y1 Y2 E0 := by
  obtain ⟨a0, a1, a2, b0, b1, b2, x0, x1, x2, y0, y1, y2, e0, fx, fy, fe, bw⟩ := h
  exact ⟨by simp [go_sem, a0], by simp [go_sem, a1], by simp [go_sem, a2], by simp [go_sem, b0], by simp [go_sem, b1], by simp [go_sem, b2], by simp [go_sem, x0], by simp [go_sem, x1], by simp [go_sem, x2], by simp [go_sem, y0], by simp [go_sem, y1], by simp [go_sem, y2], by simp [go_sem, e0], fun j => by simp [go_sem, fx], fun j => by simp [go_sem, fy], fun j => by simp [go_sem, fe], bw.setCell (by simp; try omega) _⟩
theorem PI.setX2 (h : PI w wr A0 A1 A2 B0 B1 B2 X0 X1 X2 Y0 Y1 Y2 E0) (v : Value) : PI w (wr.setCell ⟨w.heap.size + 1 + 1, 2, none⟩ v) A0 A1 A2 B0 B1 B2 X0 X1 v Y0 Y1 Y2 E0 := by
  obtain ⟨a0, a1, a2, b0, b1, b2, x0, x1, x2, y0, y1, y2, e0, fx, fy, fe, bw⟩ := h
  exact ⟨by simp [go_sem, a0], by simp [go_sem, a1], by simp [go_sem, a2], by simp [go_sem, b0], by simp [go_sem, b1], by simp [go_sem, b2], by simp [go_sem, x0], by simp [go_sem, x1], by simp [go_sem, x2], by simp [go_sem, y0], by simp [go_sem, y1], by simp [go_sem, y2], by simp [go_sem, e0], fun j => by simp [go_sem, fx], fun j => by simp [go_sem, fy], fun j => by simp [go_sem, fe], bw.setCell (by simp; try omega) _⟩
theorem PI.setY0 (h : PI w wr A0 A1 A2 B0 B1 B2 X0 X1 X2 Y0 Y1 Y2 E0) (v : Value) : PI w (wr.setCell ⟨w.heap.size + 1 + 1 + 1, 0, none⟩ v) A0 A1 A2 B0 B1 B2 X0 X1 X2 v Y1 Y2 E0 := by
  obtain ⟨a0, a1, a2, b0, b1, b2, x0, x1, x2, y0, y1, y2, e0, fx, fy, fe, bw⟩ := h
  exact ⟨by simp [go_sem, a0], by simp [go_sem, a1], by simp [go_sem, a2], by simp [go_sem, b0], by simp [go_sem, b1], by simp [go_sem, b2], by simp [go_sem, x0], by simp [go_sem, x1], by simp [go_sem, x2], by simp [go_sem, y0], by simp [go_sem, y1], by simp [go_sem, y2], by simp [go_sem, e0], fun j => by simp [go_sem, fx], fun j => by simp [go_sem, fy], fun j => by simp [go_sem, fe], bw.setCell (by simp; try omega) _⟩
theorem PI.setY1 (h : PI w wr A0 A1 A2 B0 B1 B2 X0 X1 X2 Y0 Y1 Y2 E0) (v : Value) : PI w (wr.setCell ⟨w.heap.size + 1 + 1 + 1, 1, none⟩ v) A0 A1 A2 B0 B1 B2 X0 X1 X2 Y0 v Y2 E0 := by
  obtain ⟨a0, a1, a2, b0, b1, b2, x0, x1, x2, y0, y1, y2, e0, fx, fy, fe, bw⟩ := h
  exact ⟨by simp [go_sem, a0], by simp [go_sem, a1], by simp [go_sem, a2], by simp [go_sem, b0], by simp [go_sem, b1], by simp [go_sem, b2], by simp [go_sem, x0], by simp [go_sem, x1], by simp [go_sem, x2], by simp [go_sem, y0], by simp [go_sem, y1], by simp [go_sem, y2], by simp [go_sem, e0], fun j => by simp [go_sem, fx], fun j => by simp [go_sem, fy], fun j => by simp [go_sem, fe], bw.setCell (by simp; try omega) _⟩
theorem PI.setY2 (h : PI w wr A0 A1 A2 B0 B1 B2 X0 X1 X2 Y0 Y1 Y2 E0) (v : Value) : PI w (wr.setCell ⟨w.heap.size + 1 + 1 + 1, 2, none⟩ v) A0 A1 A2 B0 B1 B2 X0 X1 X2 Y0 Y1 v E0 := by
  obtain ⟨a0, a1, a2, b0, b1, b2, x0, x1, x2, y0, y1, y2, e0, fx, fy, fe, bw⟩ := h
  exact ⟨by simp [go_sem, a0], by simp [go_sem, a1], by simp [go_sem, a2], by simp [go_sem, b0], by simp [go_sem, b1], by simp [go_sem, b2], by simp [go_sem, x0], by simp [go_sem, x1], by simp [go_sem, x2], by simp [go_sem, y0], by simp [go_sem, y1], by simp [go_sem, y2], by simp [go_sem, e0], fun j => by simp [go_sem, fx], fun j => by simp [go_sem, fy], fun j => by simp [go_sem, fe], bw.setCell (by simp; try omega) _⟩
theorem PI.setE0 (h : PI w wr A0 A1 A2 B0 B1 B2 X0 X1 X2 Y0 Y1 Y2 E0) (v : Value) : PI w (wr.setCell ⟨w.heap.size + 1 + 1 + 1 + 1, 0, none⟩ v) A0 A1 A2 B0 B1 B2 X0 X1 X2 Y0 Y1 Y2 v := by
  obtain ⟨a0, a1, a2, b0, b1, b2, x0, x1, x2, y0, y1, y2, e0, fx, fy, fe, bw⟩ := h
  exact ⟨by simp [go_sem, a0], by simp [go_sem, a1], by simp [go_sem, a2], by simp [go_sem, b0], by simp [go_sem, b1], by simp [go_sem, b2], by simp [go_sem, x0], by simp [go_sem, x1], by simp [go_sem, x2], by simp [go_sem, y0], by simp [go_sem, y1], by simp [go_sem, y2], by simp [go_sem, e0], fun j => by simp [go_sem, fx], fun j => by simp [go_sem, fy], fun j => by simp [go_sem, fe], bw.setCell (by simp; try omega) _⟩
theorem PI.new : PI w (((((w.alloc (.cells #[A0, A1, A2] 24)).alloc (.cells #[B0, B1, B2] 24)).alloc (.cells #[X0, X1, X2] 24)).alloc (.cells #[Y0, Y1, Y2] 24)).alloc (.cells #[E0] 26)) A0 A1 A2 B0 B1 B2 X0 X1 X2 Y0 Y1 Y2 E0 :=
  ⟨by simp [go_sem], by simp [go_sem], by simp [go_sem], by simp [go_sem], by simp [go_sem], by simp [go_sem], by simp [go_sem], by simp [go_sem], by simp [go_sem], by simp [go_sem], by simp [go_sem], by simp [go_sem], by simp [go_sem], fun j => by simp [go_sem], fun j => by simp [go_sem], fun j => by simp [go_sem], (((((Below.refl _ _).alloc (Nat.le_refl _) _).alloc (by simp) _).alloc (by simp; omega) _).alloc (by simp; omega) _).alloc (by simp; omega) _⟩

set_option maxHeartbeats 2000000 in
theorem pp1_ok (u : FrameMode) (h : PI w wr A0 A1 A2 B0 B1 B2 X0 X1 X2 Y0 Y1 Y2 (.int .i64 0)) :
    CallsD Tryd.prog 85 #[.pointer (some ⟨w.heap.size + 1 + 1 + 1 + 1, 0, none⟩), .pointer (some ⟨w.heap.size + 1 + 1, 0, none⟩), .pointer (some ⟨w.heap.size + 1 + 1 + 1, 0, none⟩)] u wr fun r u' w' => u' = u ∧ r = .returned (.tuple #[]) ∧ wr = w' := by
  obtain ⟨a0, a1, a2, b0, b1, b2, x0, x1, x2, y0, y1, y2, e0, fx, fy, fe, bw⟩ := h
  go_enter_d Tryd.func85, Tryd.ntmps85
  go_wp2
  go_end0
  exact ⟨rfl, rfl⟩
set_option maxHeartbeats 2000000 in
theorem pp1_bad (n : Nat) (hn : n ≠ 0) (u : FrameMode) (h : PI w wr A0 A1 A2 B0 B1 B2 X0 X1 X2 Y0 Y1 Y2 (.int .i64 (n : Nat))) :
    CallsD Tryd.prog 85 #[.pointer (some ⟨w.heap.size + 1 + 1 + 1 + 1, 0, none⟩), .pointer (some ⟨w.heap.size + 1 + 1, 0, none⟩), .pointer (some ⟨w.heap.size + 1 + 1 + 1, 0, none⟩)] u wr fun r u' w' => u' = u ∧ r = .returned (.tuple #[]) ∧ PI w w' A0 A1 A2 B0 B1 B2 (.bool false) (.slice none 0 0) (.int .i64 0) (.bool false) (.slice none 0 0) (.int .i64 0) (.int .i64 (n : Nat)) := by
  have hB : ((n : Int) != 0) = true := by simp [hn]
  have hpi := fun a b c d e f => ((((((h.setX0 a).setX1 b).setX2 c).setY0 d).setY1 e).setY2 f)
  have HPI := Lib.hid hpi
  clear hpi hn
  obtain ⟨a0, a1, a2, b0, b1, b2, x0, x1, x2, y0, y1, y2, e0, fx, fy, fe, bw⟩ := h
  go_enter_d Tryd.func85, Tryd.ntmps85
  go_wp2
  go_end0
  exact ⟨rfl, HPI.out _ _ _ _ _ _⟩

/-- what a pair of answers tells as an error -/
def pairE (A B : Ans) : Nat := if A.err = 1 ∨ B.err = 1 then 1 else if A.err ≠ 0 then A.err else B.err
theorem pairE_ok {A B : Ans} (h1 : A.err = 0) (h2 : B.err = 0) : pairE A B = 0 := by unfold pairE; simp [h1, h2]
theorem pairE_bad {A B : Ans} (h : ¬ (A.err = 0 ∧ B.err = 0)) : pairE A B ≠ 0 := by unfold pairE; split; omega; split; omega; omega
def ResPr (A B : Ans) (w : World) (r : Ending) (w' : World) : Prop := Below w.heap.size w w' ∧
  ((A.err = 0 ∧ B.err = 0 ∧ ∃ a1 c1 a2 c2, r = .returned (.tuple #[.agg #[.bool A.p.neg, .slice a1 (dg 1000000000 A.p.m).length c1, .int .i64 A.p.e], .agg #[.bool B.p.neg, .slice a2 (dg 1000000000 B.p.m).length c2, .int .i64 B.p.e], .int .i64 0]) ∧
      Own w' w.heap.size 50 .u32 a1 c1 (dg 1000000000 A.p.m) ∧ Own w' w.heap.size 50 .u32 a2 c2 (dg 1000000000 B.p.m)) ∨
   (¬ (A.err = 0 ∧ B.err = 0) ∧ r = .returned (.tuple #[.agg #[.bool false, .slice none 0 0, .int .i64 0], .agg #[.bool false, .slice none 0 0, .int .i64 0], .int .i64 (pairE A B : Nat)])))

theorem normA_far {n : Nat} {s : Bool} {v : Nat} {e : Int} (h : nearB n e = false) : (normA n s v e).err = 1 := by
  unfold normA; rw [if_neg (by rw [h]; exact Bool.false_ne_true)]
theorem normA_near {n : Nat} {s : Bool} {v : Nat} {e : Int} (h : nearB n e = true) : (normA n s v e).err = 0 ∨ (normA n s v e).err = 3 := by
  unfold normA; rw [if_pos h]; unfold tellA; split; exact .inl rfl; exact .inr rfl

set_option maxHeartbeats 16000000 in
set_option maxRecDepth 20000 in
theorem plainPair_any (s1 s2 : Bool) (a1 a2 : Option Addr) (c1 c2 : Nat) (l1 l2 : List Nat) (e1 e2 : Int) (w : World) (h1 : l1.length ≤ 9223372036854775807) (h2 : l2.length ≤ 9223372036854775807) (hlo1 : Lo 4294967296 l1) (hlo2 : Lo 4294967296 l2) (hr1 : Rd w .u32 a1 l1) (hr2 : Rd w .u32 a2 l2) (htab : Tab w) :
    Calls Tryd.prog 54 #[.agg #[.bool s1, .slice a1 l1.length c1, .int .i64 e1], .agg #[.bool s2, .slice a2 l2.length c2, .int .i64 e2]] w (ResPr (normA l1.length s1 (vl 1000000000 l1) e1) (normA l2.length s2 (vl 1000000000 l2) e2) w) := by
  have hmf : ∀ (fn : Fn) (first cap : Array Value) (w : World), (Instr.makeFunc fn first cap).run Tryd.prog w = .ok (.func fn first cap) w := fun _ _ _ _ => rfl
  have hI1 := fun W => isNear_any s1 a1 l1.length c1 e1 W
  have hI2 := fun W => isNear_any s2 a2 l2.length c2 e2 W
  have hN1 := fun W hb => DNorm_any s1 a1 c1 l1 e1 W h1 hlo1 (hr1.below' (w' := W) hb (Nat.le_refl _)) (htab.below hb)
  have hN2 := fun W hb => DNorm_any s2 a2 c2 l2 e2 W h2 hlo2 (hr2.below' (w' := W) hb (Nat.le_refl _)) (htab.below hb)
  have hf1 := fun h => normA_far (n := l1.length) (s := s1) (v := vl 1000000000 l1) (e := e1) h
  have hg1 := fun h => normA_near (n := l1.length) (s := s1) (v := vl 1000000000 l1) (e := e1) h
  have hf2 := fun h => normA_far (n := l2.length) (s := s2) (v := vl 1000000000 l2) (e := e2) h
  have hg2 := fun h => normA_near (n := l2.length) (s := s2) (v := vl 1000000000 l2) (e := e2) h
  generalize normA l1.length s1 (vl 1000000000 l1) e1 = A at *
  generalize normA l2.length s2 (vl 1000000000 l2) e2 = B at *
  have HI1 := Lib.hid hI1; have HI2 := Lib.hid hI2; have HN1 := Lib.hid hN1; have HN2 := Lib.hid hN2
  have HF1 := Lib.hid hf1; have HG1 := Lib.hid hg1; have HF2 := Lib.hid hf2; have HG2 := Lib.hid hg2
  clear hI1 hI2 hN1 hN2 hf1 hg1 hf2 hg2 hlo1 hlo2 hr1 hr2 htab
  generalize nearB l1.length e1 = q1 at *
  generalize nearB l2.length e2 = q2 at *
  go_enter_defers Tryd.func54, Tryd.ntmps54
  go_wp2_with fail
  refine (HI1.out _).mono ?_
  rintro r w1 ⟨rfl, hb1⟩
  have pi1 := (PI.new (w := w) (A0 := .bool s1) (A1 := .slice a1 l1.length c1) (A2 := .int .i64 e1) (B0 := .bool s2) (B1 := .slice a2 l2.length c2) (B2 := .int .i64 e2) (X0 := .bool false) (X1 := .slice none 0 0) (X2 := .int .i64 0) (Y0 := .bool false) (Y1 := .slice none 0 0) (Y2 := .int .i64 0) (E0 := .int .i64 0)).below hb1
  clear hb1
  have bb1 := pi1.bw
  cases q1 with
  | false =>
    have hA := HF1.out rfl
    have HBAD := Lib.hid (show ¬ (A.err = 0 ∧ B.err = 0) by omega)
    have HPE := Lib.hid (show pairE A B = 1 by unfold pairE; rw [if_pos (.inl hA)])
    clear hA
    have pix := pi1
    obtain ⟨j0, j1, j2, k0, k1, k2, x0, x1, x2, y0, y1, y2, e0, fx, fy, fe, bw⟩ := pix
    go_wp2
    go_region
    go_wp2
    refine leaves_cons (f := 85) (args := #[.pointer (some ⟨w.heap.size + 1 + 1 + 1 + 1, 0, none⟩), .pointer (some ⟨w.heap.size + 1 + 1, 0, none⟩), .pointer (some ⟨w.heap.size + 1 + 1 + 1, 0, none⟩)]) (by simp) (by simp [go_sem]) ?_
    refine (pp1_bad 1 (by decide) _ ((((((((pi1.setX0 _).setX1 _).setX2 _).setY0 _).setY1 _).setY2 _).setE0 _).below (Below.refl _ _).drew)).mono ?_
    rintro r u' w' ⟨rfl, rfl, pj⟩
    obtain ⟨j0, j1, j2, k0, k1, k2, x0, x1, x2, y0, y1, y2, e0, fx, fy, fe, bw⟩ := pj
    refine ⟨.tuple #[.agg #[.bool false, .slice none 0 0, .int .i64 0], .agg #[.bool false, .slice none 0 0, .int .i64 0], .int .i64 (1 : Nat)], by simp [results, Tryd.results54, go_sem, x0, x1, x2, y0, y1, y2, e0], bw, .inr ⟨HBAD.out, by rw [HPE.out]⟩⟩
  | true =>
    have pix := pi1
    obtain ⟨j0, j1, j2, k0, k1, k2, x0, x1, x2, y0, y1, y2, e0, fx, fy, fe, bw⟩ := pix
    go_wp2_with fail
    refine (HI2.out _).mono ?_
    rintro r w2 ⟨rfl, hb2⟩
    have pi2 := pi1.below hb2
    have bb2 := pi2.bw
    clear hb2 pi1 bb1 j0 j1 j2 k0 k1 k2 x0 x1 x2 y0 y1 y2 e0 fx fy fe bw
    cases q2 with
    | false =>
      have hA := HF2.out rfl
      have HBAD := Lib.hid (show ¬ (A.err = 0 ∧ B.err = 0) by omega)
      have HPE := Lib.hid (show pairE A B = 1 by unfold pairE; rw [if_pos (.inr hA)])
      clear hA
      have pix := pi2
      obtain ⟨j0, j1, j2, k0, k1, k2, x0, x1, x2, y0, y1, y2, e0, fx, fy, fe, bw⟩ := pix
      go_wp2
      go_region
      go_wp2
      refine leaves_cons (f := 85) (args := #[.pointer (some ⟨w.heap.size + 1 + 1 + 1 + 1, 0, none⟩), .pointer (some ⟨w.heap.size + 1 + 1, 0, none⟩), .pointer (some ⟨w.heap.size + 1 + 1 + 1, 0, none⟩)]) (by simp) (by simp [go_sem]) ?_
      refine (pp1_bad 1 (by decide) _ ((((((((pi2.setX0 _).setX1 _).setX2 _).setY0 _).setY1 _).setY2 _).setE0 _).below (Below.refl _ _).drew)).mono ?_
      rintro r u' w' ⟨rfl, rfl, pj⟩
      obtain ⟨j0, j1, j2, k0, k1, k2, x0, x1, x2, y0, y1, y2, e0, fx, fy, fe, bw⟩ := pj
      refine ⟨.tuple #[.agg #[.bool false, .slice none 0 0, .int .i64 0], .agg #[.bool false, .slice none 0 0, .int .i64 0], .int .i64 (1 : Nat)], by simp [results, Tryd.results54, go_sem, x0, x1, x2, y0, y1, y2, e0], bw, .inr ⟨HBAD.out, by rw [HPE.out]⟩⟩
    | true =>
      have pix := pi2
      obtain ⟨j0, j1, j2, k0, k1, k2, x0, x1, x2, y0, y1, y2, e0, fx, fy, fe, bw⟩ := pix
      go_wp2_with fail
      refine (HN1.out _ bb2).mono ?_
      rintro r w3 ⟨a3, c3, rfl, ho3, hb3⟩
      have pi3 := pi2.below hb3
      have bb3 := pi3.bw
      have lx := lt_of_cell x0
      have ly := lt_of_cell y0
      have le := lt_of_cell e0
      have ax := ho3.apart lx
      have ay := ho3.apart ly
      have ae := ho3.apart le
      have hown3 := ho3.mono bb2.size
      clear hb3 ho3 pi2 lx ly le bb2 j0 j1 j2 k0 k1 k2 x0 x1 x2 y0 y1 y2 e0 fx fy fe bw
      by_cases hA : A.err = 0
      · have hAB : ((A.err : Int) != 0) = false := by simp [hA]
        have HE := Lib.hid hA
        have pix := pi3
        obtain ⟨j0, j1, j2, k0, k1, k2, x0, x1, x2, y0, y1, y2, e0, fx, fy, fe, bw⟩ := pix
        have pi4 := (((pi3.setX0 (.bool A.p.neg)).setX1 (.slice a3 (dg 1000000000 A.p.m).length c3)).setX2 (.int .i64 A.p.e)).setE0 (.int .i64 (A.err : Nat))
        have hown4 := (((hown3.setFar ax 0 (.bool A.p.neg)).setFar ax 1 (.slice a3 (dg 1000000000 A.p.m).length c3)).setFar ax 2 (.int .i64 A.p.e)).setFar ae 0 (.int .i64 (A.err : Nat))
        clear hA pi3 hown3
        go_wp2_with fail
        refine (HN2.out _ pi4.bw).mono ?_
        rintro r w5 ⟨a5, c5, rfl, ho5, hb5⟩
        have pi5 := pi4.below hb5
        have bb5 := pi5.bw
        have lx := lt_of_cell pi4.x0
        have ly := lt_of_cell pi4.y0
        have le := lt_of_cell pi4.e0
        have bx := ho5.apart lx
        have bY := ho5.apart ly
        have be := ho5.apart le
        have hown5 := ho5.mono pi4.bw.size
        have hown6 := hown4.below hb5
        clear hb5 ho5 pi4 lx ly le hown4 j0 j1 j2 k0 k1 k2 x0 x1 x2 y0 y1 y2 e0 fx fy fe bw
        by_cases hB : B.err = 0
        · have HEB := Lib.hid hB
          have pix := pi5
          obtain ⟨j0, j1, j2, k0, k1, k2, x0, x1, x2, y0, y1, y2, e0, fx, fy, fe, bw⟩ := pix
          go_wp2
          go_region
          go_wp2
          refine leaves_cons (f := 85) (args := #[.pointer (some ⟨w.heap.size + 1 + 1 + 1 + 1, 0, none⟩), .pointer (some ⟨w.heap.size + 1 + 1, 0, none⟩), .pointer (some ⟨w.heap.size + 1 + 1 + 1, 0, none⟩)]) (by simp) (by simp [go_sem]) ?_
          have pi6 := ((((((((((pi5.setY0 (.bool B.p.neg)).setY1 (.slice a5 (dg 1000000000 B.p.m).length c5)).setY2 (.int .i64 B.p.e)).setE0 (.int .i64 0)).setX0 (.bool A.p.neg)).setX1 (.slice a3 (dg 1000000000 A.p.m).length c3)).setX2 (.int .i64 A.p.e)).setY0 (.bool B.p.neg)).setY1 (.slice a5 (dg 1000000000 B.p.m).length c5)).setY2 (.int .i64 B.p.e)).setE0 (.int .i64 0)
          have pi7 := pi6.below (Below.refl _ _).drew
          refine (pp1_ok _ pi7).mono ?_
          rintro r u' w' ⟨rfl, rfl, rfl⟩
          obtain ⟨j0, j1, j2, k0, k1, k2, x0, x1, x2, y0, y1, y2, e0, fx, fy, fe, bw⟩ := pi7
          exact ⟨.tuple #[.agg #[.bool A.p.neg, .slice a3 (dg 1000000000 A.p.m).length c3, .int .i64 A.p.e], .agg #[.bool B.p.neg, .slice a5 (dg 1000000000 B.p.m).length c5, .int .i64 B.p.e], .int .i64 0], by simp [results, Tryd.results54, go_sem, x0, x1, x2, y0, y1, y2, e0], bw, .inl ⟨HE.out, HEB.out, a3, c3, a5, c5, rfl, Own.drew (((((((((((hown6.setFar ay _ _).setFar ay _ _).setFar ay _ _).setFar ae _ _).setFar ax _ _).setFar ax _ _).setFar ax _ _).setFar ay _ _).setFar ay _ _).setFar ay _ _).setFar ae _ _), Own.drew (((((((((((hown5.setFar bY _ _).setFar bY _ _).setFar bY _ _).setFar be _ _).setFar bx _ _).setFar bx _ _).setFar bx _ _).setFar bY _ _).setFar bY _ _).setFar bY _ _).setFar be _ _)⟩⟩
        · have hBB : ((B.err : Int) != 0) = true := by simp [hB]
          have HBAD := Lib.hid (show ¬ (A.err = 0 ∧ B.err = 0) by omega)
          have HPE := Lib.hid (show pairE A B = B.err by have := HE.out; have := HG2.out (by first | rfl | trivial); unfold pairE; rw [if_neg (by omega), if_neg (by omega)])
          have HB := Lib.hid hB
          clear hB
          have pix := pi5
          obtain ⟨j0, j1, j2, k0, k1, k2, x0, x1, x2, y0, y1, y2, e0, fx, fy, fe, bw⟩ := pix
          go_wp2
          go_region
          go_wp2
          refine leaves_cons (f := 85) (args := #[.pointer (some ⟨w.heap.size + 1 + 1 + 1 + 1, 0, none⟩), .pointer (some ⟨w.heap.size + 1 + 1, 0, none⟩), .pointer (some ⟨w.heap.size + 1 + 1 + 1, 0, none⟩)]) (by simp) (by simp [go_sem]) ?_
          refine (pp1_bad B.err (by exact HB.out) _ ((((((((((((pi5.setY0 _).setY1 _).setY2 _).setE0 _).setX0 _).setX1 _).setX2 _).setY0 _).setY1 _).setY2 _).setE0 _).below (Below.refl _ _).drew)).mono ?_
          rintro r u' w' ⟨rfl, rfl, pj⟩
          obtain ⟨j0, j1, j2, k0, k1, k2, x0, x1, x2, y0, y1, y2, e0, fx, fy, fe, bw⟩ := pj
          refine ⟨.tuple #[.agg #[.bool false, .slice none 0 0, .int .i64 0], .agg #[.bool false, .slice none 0 0, .int .i64 0], .int .i64 (B.err : Nat)], by simp [results, Tryd.results54, go_sem, x0, x1, x2, y0, y1, y2, e0], bw, .inr ⟨HBAD.out, by rw [HPE.out]⟩⟩
      · have hAB : ((A.err : Int) != 0) = true := by simp [hA]
        have HBAD := Lib.hid (show ¬ (A.err = 0 ∧ B.err = 0) by omega)
        have HPE := Lib.hid (show pairE A B = A.err by have := HG1.out (by first | rfl | trivial); have := HG2.out (by first | rfl | trivial); unfold pairE; rw [if_neg (by omega), if_pos hA])
        have HA := Lib.hid hA
        clear hA
        have pix := pi3
        obtain ⟨j0, j1, j2, k0, k1, k2, x0, x1, x2, y0, y1, y2, e0, fx, fy, fe, bw⟩ := pix
        go_wp2
        go_region
        go_wp2
        refine leaves_cons (f := 85) (args := #[.pointer (some ⟨w.heap.size + 1 + 1 + 1 + 1, 0, none⟩), .pointer (some ⟨w.heap.size + 1 + 1, 0, none⟩), .pointer (some ⟨w.heap.size + 1 + 1 + 1, 0, none⟩)]) (by simp) (by simp [go_sem]) ?_
        refine (pp1_bad A.err (by exact HA.out) _ ((((((((((((pi3.setX0 _).setX1 _).setX2 _).setE0 _).setX0 _).setX1 _).setX2 _).setY0 _).setY1 _).setY2 _).setE0 _).below (Below.refl _ _).drew)).mono ?_
        rintro r u' w' ⟨rfl, rfl, pj⟩
        obtain ⟨j0, j1, j2, k0, k1, k2, x0, x1, x2, y0, y1, y2, e0, fx, fy, fe, bw⟩ := pj
        refine ⟨.tuple #[.agg #[.bool false, .slice none 0 0, .int .i64 0], .agg #[.bool false, .slice none 0 0, .int .i64 0], .int .i64 (A.err : Nat)], by simp [results, Tryd.results54, go_sem, x0, x1, x2, y0, y1, y2, e0], bw, .inr ⟨HBAD.out, by rw [HPE.out]⟩⟩
end Go.Proofs.YtofeckdhhaoobaaDoor

/- Walk of the document's Two. -/
namespace Go.Proofs.YtofeckdhhaoobaaDoor
open Go.RowKit LM

theorem RdC.six {w : World} {a : Option Addr} {c m g1 g2 : Nat} (h : RdC w a c m) {b1 b2 : Bool} {s1 s2 : Option Addr} {n1 n2 d1 d2 : Nat} {e1 e2 : Int}
    (u0 : w.cell? ⟨g1, 0, none⟩ = some (.bool b1)) (u1 : w.cell? ⟨g1, 1, none⟩ = some (.slice s1 n1 d1)) (u2 : w.cell? ⟨g1, 2, none⟩ = some (.int .i64 e1))
    (v0 : w.cell? ⟨g2, 0, none⟩ = some (.bool b2)) (v1 : w.cell? ⟨g2, 1, none⟩ = some (.slice s2 n2 d2)) (v2 : w.cell? ⟨g2, 2, none⟩ = some (.int .i64 e2)) (hne : g1 ≠ g2) (x0 x1 x2 y0 y1 y2 : Value) :
    RdC ((((((w.setCell ⟨g1, 0, none⟩ x0).setCell ⟨g1, 1, none⟩ x1).setCell ⟨g1, 2, none⟩ x2).setCell ⟨g2, 0, none⟩ y0).setCell ⟨g2, 1, none⟩ y1).setCell ⟨g2, 2, none⟩ y2) a c m := by
  refine ⟨?_, h.2⟩
  have h1 := h.1.setOther (v := x0) u0 (by intro n h; cases h)
  have h2 := h1.setOther (g := g1) (j := 1) (v := x1) (v0 := .slice s1 n1 d1) (by simp [go_sem, u1]) (by intro n h; cases h)
  have h3 := h2.setOther (g := g1) (j := 2) (v := x2) (v0 := .int .i64 e1) (by simp [go_sem, u2]) (by intro n h; cases h)
  have h4 := h3.setOther (g := g2) (j := 0) (v := y0) (v0 := .bool b2) (by simp [go_sem, v0, hne, Ne.symm hne]) (by intro n h; cases h)
  have h5 := h4.setOther (g := g2) (j := 1) (v := y1) (v0 := .slice s2 n2 d2) (by simp [go_sem, v1, hne, Ne.symm hne]) (by intro n h; cases h)
  exact h5.setOther (g := g2) (j := 2) (v := y2) (v0 := .int .i64 e2) (by simp [go_sem, v2, hne, Ne.symm hne]) (by intro n h; cases h)
theorem RdC.drew {w : World} {a : Option Addr} {c m : Nat} (h : RdC w a c m) : RdC w.drew a c m := h

def ResTw (A B : Ans) (w : World) (r : Ending) (w' : World) : Prop := ∃ a1 c1 a2 c2, r = .returned (.tuple #[.agg #[.bool A.p.neg, .slice a1 (dg 10 A.p.m).length c1, .int .i64 A.p.e], .agg #[.bool B.p.neg, .slice a2 (dg 10 B.p.m).length c2, .int .i64 B.p.e], .int .i64 (pairE A B : Nat)]) ∧
  RdC w' a1 c1 A.p.m ∧ RdC w' a2 c2 B.p.m ∧ Below w.heap.size w w'

set_option maxHeartbeats 16000000 in
set_option maxRecDepth 20000 in
theorem Two_any (s1 s2 : Bool) (a1 a2 : Option Addr) (c1 c2 : Nat) (l1 l2 : List Nat) (e1 e2 : Int) (w : World) (h1 : l1.length ≤ 9223372036854775807) (h2 : l2.length ≤ 9223372036854775807) (hlo1 : Lo 4294967296 l1) (hlo2 : Lo 4294967296 l2) (hr1 : Rd w .u32 a1 l1) (hr2 : Rd w .u32 a2 l2) :
    Calls Tryd.prog 57 #[.agg #[.bool s1, .slice a1 l1.length c1, .int .i64 e1], .agg #[.bool s2, .slice a2 l2.length c2, .int .i64 e2]] w (ResTw (normA l1.length s1 (vl 1000000000 l1) e1) (normA l2.length s2 (vl 1000000000 l2) e2) w) := by
  have hN1 := fun W hb => Take_any s1 a1 c1 l1 e1 W h1 hlo1 (hr1.below' (w' := W) hb (Nat.le_refl _))
  have hN2 := fun W hb => Take_any s2 a2 c2 l2 e2 W h2 hlo2 (hr2.below' (w' := W) hb (Nat.le_refl _))
  generalize normA l1.length s1 (vl 1000000000 l1) e1 = A at *
  generalize normA l2.length s2 (vl 1000000000 l2) e2 = B at *
  have HN1 := Lib.hid hN1; have HN2 := Lib.hid hN2
  clear hN1 hN2 hlo1 hlo2 hr1 hr2
  go_enter Tryd.func57, Tryd.ntmps57
  go_wp2_with fail
  have B4 := ((((Below.refl w.heap.size w).alloc (Nat.le_refl _) (.cells #[.bool s1, .slice a1 l1.length c1, .int .i64 e1] 24)).alloc (by simp) (.cells #[.bool s2, .slice a2 l2.length c2, .int .i64 e2] 24)).alloc (by simp; omega) (.cells #[.bool false, .slice none 0 0, .int .i64 0] 56)).alloc (by simp; omega) (.cells #[.bool false, .slice none 0 0, .int .i64 0] 56)
  refine (HN1.out _ B4).mono ?_
  rintro r w2 ⟨a3, c3, rfl, hr3, hb2⟩
  have b2 := B4.trans (hb2.mono B4.size)
  have i0 : w2.cell? ⟨w.heap.size + 1, 0, none⟩ = some (.bool s2) := by rw [hb2.cell (by simp)]; simp [go_sem]
  have i1 : w2.cell? ⟨w.heap.size + 1, 1, none⟩ = some (.slice a2 l2.length c2) := by rw [hb2.cell (by simp)]; simp [go_sem]
  have i2 : w2.cell? ⟨w.heap.size + 1, 2, none⟩ = some (.int .i64 e2) := by rw [hb2.cell (by simp)]; simp [go_sem]
  have u0 : w2.cell? ⟨w.heap.size + 1 + 1, 0, none⟩ = some (.bool false) := by rw [hb2.cell (by simp)]; simp [go_sem]
  have u1 : w2.cell? ⟨w.heap.size + 1 + 1, 1, none⟩ = some (.slice none 0 0) := by rw [hb2.cell (by simp)]; simp [go_sem]
  have u2 : w2.cell? ⟨w.heap.size + 1 + 1, 2, none⟩ = some (.int .i64 0) := by rw [hb2.cell (by simp)]; simp [go_sem]
  have v0 : w2.cell? ⟨w.heap.size + 1 + 1 + 1, 0, none⟩ = some (.bool false) := by rw [hb2.cell (by simp)]; simp [go_sem]
  have v1 : w2.cell? ⟨w.heap.size + 1 + 1 + 1, 1, none⟩ = some (.slice none 0 0) := by rw [hb2.cell (by simp)]; simp [go_sem]
  have v2 : w2.cell? ⟨w.heap.size + 1 + 1 + 1, 2, none⟩ = some (.int .i64 0) := by rw [hb2.cell (by simp)]; simp [go_sem]
  have uf : ∀ j, w2.frozen? ⟨w.heap.size + 1 + 1, j, none⟩ = false := fun j => by rw [hb2.frozen (by simp)]; simp [go_sem]
  have vf : ∀ j, w2.frozen? ⟨w.heap.size + 1 + 1 + 1, j, none⟩ = false := fun j => by rw [hb2.frozen (by simp)]; simp [go_sem]
  clear hb2 B4
  have hb3 := (Below.refl w2.heap.size w2).alloc (Nat.le_refl _) (.cells #[.bool A.p.neg, .slice a3 (dg 10 A.p.m).length c3, .int .i64 A.p.e] 56)
  have x0 : (w2.alloc (.cells #[.bool A.p.neg, .slice a3 (dg 10 A.p.m).length c3, .int .i64 A.p.e] 56)).cell? ⟨w2.heap.size, 0, none⟩ = some (.bool A.p.neg) := by simp
  have x1 : (w2.alloc (.cells #[.bool A.p.neg, .slice a3 (dg 10 A.p.m).length c3, .int .i64 A.p.e] 56)).cell? ⟨w2.heap.size, 1, none⟩ = some (.slice a3 (dg 10 A.p.m).length c3) := by simp
  have x2 : (w2.alloc (.cells #[.bool A.p.neg, .slice a3 (dg 10 A.p.m).length c3, .int .i64 A.p.e] 56)).cell? ⟨w2.heap.size, 2, none⟩ = some (.int .i64 A.p.e) := by simp
  have b3 := b2.trans (hb3.mono b2.size)
  have l1' := lt_of_cell u0
  have l2' := lt_of_cell v0
  have L2 := Lib.hid (show w.heap.size + 1 + 1 + 1 < w2.heap.size from lt_of_cell v0)
  have j0 := cellB i0 hb3
  have j1 := cellB i1 hb3
  have j2 := cellB i2 hb3
  go_wp2_with fail
  refine (HN2.out _ b3).mono ?_
  rintro r w4 ⟨a4, c4, rfl, hr4, hb4⟩
  have hb34 := hb3.trans (hb4.mono hb3.size)
  have b4 := b3.trans (hb4.mono b3.size)
  have p0 := cellB u0 hb34
  have p1 := cellB u1 hb34
  have p2 := cellB u2 hb34
  have q0 := cellB v0 hb34
  have q1 := cellB v1 hb34
  have q2 := cellB v2 hb34
  have pf : ∀ j, w4.frozen? ⟨w.heap.size + 1 + 1, j, none⟩ = false := fun j => by rw [hb34.frozen (p := ⟨w.heap.size + 1 + 1, j, none⟩) l1']; exact uf j
  have qf : ∀ j, w4.frozen? ⟨w.heap.size + 1 + 1 + 1, j, none⟩ = false := fun j => by rw [hb34.frozen (p := ⟨w.heap.size + 1 + 1 + 1, j, none⟩) l2']; exact vf j
  have y0 := cellB x0 hb4
  have y1 := cellB x1 hb4
  have y2 := cellB x2 hb4
  have hr5 := hr3.below hb34
  clear hb3 hb4 hb34 x0 x1 x2 u0 u1 u2 v0 v1 v2 uf vf i0 i1 i2 j0 j1 j2 b3 b2 hr3 HN1 HN2 l1' l2'
  have LE2 := Lib.hid (show w.heap.size ≤ w.heap.size + 1 + 1 by omega)
  have LE3 := Lib.hid (show w.heap.size ≤ w.heap.size + 1 + 1 + 1 by omega)
  have hb5 := (Below.refl w4.heap.size w4).alloc (Nat.le_refl _) (.cells #[.bool B.p.neg, .slice a4 (dg 10 B.p.m).length c4, .int .i64 B.p.e] 56)
  have b5 := b4.trans (hb5.mono b4.size)
  have l1' := lt_of_cell p0
  have l2' := lt_of_cell q0
  have HE := Lib.hid (show pairE A B = if A.err = 1 ∨ B.err = 1 then 1 else if A.err ≠ 0 then A.err else B.err from rfl)
  by_cases g1 : A.err = 1
  · have t1 : ((A.err : Int) == 1) = true := by simp [g1]
    have HV := Lib.hid (show pairE A B = 1 by rw [HE.out, if_pos (.inl g1)])
    clear HE
    have y0' := cellB y0 hb5
    have y1' := cellB y1 hb5
    have y2' := cellB y2 hb5
    have p0' := cellB p0 hb5
    have p1' := cellB p1 hb5
    have p2' := cellB p2 hb5
    have q0' := cellB q0 hb5
    have q1' := cellB q1 hb5
    have q2' := cellB q2 hb5
    have pf' := fun j => (hb5.frozen (p := ⟨w.heap.size + 1 + 1, j, none⟩) l1').trans (pf j)
    have qf' := fun j => (hb5.frozen (p := ⟨w.heap.size + 1 + 1 + 1, j, none⟩) l2').trans (qf j)
    have z0 : (w4.alloc (.cells #[.bool B.p.neg, .slice a4 (dg 10 B.p.m).length c4, .int .i64 B.p.e] 56)).cell? ⟨w4.heap.size, 0, none⟩ = some (.bool B.p.neg) := by simp
    have z1 : (w4.alloc (.cells #[.bool B.p.neg, .slice a4 (dg 10 B.p.m).length c4, .int .i64 B.p.e] 56)).cell? ⟨w4.heap.size, 1, none⟩ = some (.slice a4 (dg 10 B.p.m).length c4) := by simp
    have z2 : (w4.alloc (.cells #[.bool B.p.neg, .slice a4 (dg 10 B.p.m).length c4, .int .i64 B.p.e] 56)).cell? ⟨w4.heap.size, 2, none⟩ = some (.int .i64 B.p.e) := by simp
    have HR3 := Lib.hid (hr5.below hb5)
    have HR4 := Lib.hid (hr4.below hb5)
    have l4' : w.heap.size + 1 + 1 + 1 < w4.heap.size := l2'
    have ne1 : ¬ w4.heap.size = w.heap.size + 1 + 1 := by omega
    have ne2 : ¬ w4.heap.size = w.heap.size + 1 + 1 + 1 := by omega
    have ne3 : ¬ w2.heap.size = w.heap.size + 1 + 1 := by have := L2.out; omega
    have ne4 : ¬ w2.heap.size = w.heap.size + 1 + 1 + 1 := by have := L2.out; omega
    have me1 : ¬ w.heap.size + 1 + 1 = w4.heap.size := by omega
    have me2 : ¬ w.heap.size + 1 + 1 + 1 = w4.heap.size := by omega
    have me3 : ¬ w.heap.size + 1 + 1 = w2.heap.size := by have := L2.out; omega
    have me4 : ¬ w.heap.size + 1 + 1 + 1 = w2.heap.size := by have := L2.out; omega
    clear hb5 y0 y1 y2 p0 p1 p2 q0 q1 q2 pf qf hr5 hr4 b4 l1' l2'
    go_wp2
    generalize w4.alloc (.cells #[.bool B.p.neg, .slice a4 (dg 10 B.p.m).length c4, .int .i64 B.p.e] 56) = w5 at *
    have r1 := HR3.out.six p0' p1' p2' q0' q1' q2' (by omega) (.bool A.p.neg) (.slice a3 (dg 10 A.p.m).length c3) (.int .i64 A.p.e) (.bool B.p.neg) (.slice a4 (dg 10 B.p.m).length c4) (.int .i64 B.p.e)
    have r2 := HR4.out.six p0' p1' p2' q0' q1' q2' (by omega) (.bool A.p.neg) (.slice a3 (dg 10 A.p.m).length c3) (.int .i64 A.p.e) (.bool B.p.neg) (.slice a4 (dg 10 B.p.m).length c4) (.int .i64 B.p.e)
    have R1 := Lib.hid r1; have R2 := Lib.hid r2
    clear r1 r2
    go_region
    go_wp2
    refine bodyPost_ret (v := .tuple #[.agg #[.bool A.p.neg, .slice a3 (dg 10 A.p.m).length c3, .int .i64 A.p.e], .agg #[.bool B.p.neg, .slice a4 (dg 10 B.p.m).length c4, .int .i64 B.p.e], .int .i64 (1 : Nat)]) (by simp [results, Tryd.results57, go_sem, p0', p1', p2', q0', q1', q2']) rfl ?_
    exact ⟨a3, c3, a4, c4, by rw [HV.out], RdC.drew R1.out, RdC.drew R2.out, ((((((b5.setCell LE2.out _).setCell LE2.out _).setCell LE2.out _).setCell LE3.out _).setCell LE3.out _).setCell LE3.out _).drew⟩
  · have t1 : ((A.err : Int) == 1) = false := by simp; omega
    by_cases g2 : B.err = 1
    · have t2 : ((B.err : Int) == 1) = true := by simp [g2]
      have HV := Lib.hid (show pairE A B = 1 by rw [HE.out, if_pos (.inr g2)])
      clear HE
      have y0' := cellB y0 hb5
      have y1' := cellB y1 hb5
      have y2' := cellB y2 hb5
      have p0' := cellB p0 hb5
      have p1' := cellB p1 hb5
      have p2' := cellB p2 hb5
      have q0' := cellB q0 hb5
      have q1' := cellB q1 hb5
      have q2' := cellB q2 hb5
      have pf' := fun j => (hb5.frozen (p := ⟨w.heap.size + 1 + 1, j, none⟩) l1').trans (pf j)
      have qf' := fun j => (hb5.frozen (p := ⟨w.heap.size + 1 + 1 + 1, j, none⟩) l2').trans (qf j)
      have z0 : (w4.alloc (.cells #[.bool B.p.neg, .slice a4 (dg 10 B.p.m).length c4, .int .i64 B.p.e] 56)).cell? ⟨w4.heap.size, 0, none⟩ = some (.bool B.p.neg) := by simp
      have z1 : (w4.alloc (.cells #[.bool B.p.neg, .slice a4 (dg 10 B.p.m).length c4, .int .i64 B.p.e] 56)).cell? ⟨w4.heap.size, 1, none⟩ = some (.slice a4 (dg 10 B.p.m).length c4) := by simp
      have z2 : (w4.alloc (.cells #[.bool B.p.neg, .slice a4 (dg 10 B.p.m).length c4, .int .i64 B.p.e] 56)).cell? ⟨w4.heap.size, 2, none⟩ = some (.int .i64 B.p.e) := by simp
      have HR3 := Lib.hid (hr5.below hb5)
      have HR4 := Lib.hid (hr4.below hb5)
      have l4' : w.heap.size + 1 + 1 + 1 < w4.heap.size := l2'
      have ne1 : ¬ w4.heap.size = w.heap.size + 1 + 1 := by omega
      have ne2 : ¬ w4.heap.size = w.heap.size + 1 + 1 + 1 := by omega
      have ne3 : ¬ w2.heap.size = w.heap.size + 1 + 1 := by have := L2.out; omega
      have ne4 : ¬ w2.heap.size = w.heap.size + 1 + 1 + 1 := by have := L2.out; omega
      have me1 : ¬ w.heap.size + 1 + 1 = w4.heap.size := by omega
      have me2 : ¬ w.heap.size + 1 + 1 + 1 = w4.heap.size := by omega
      have me3 : ¬ w.heap.size + 1 + 1 = w2.heap.size := by have := L2.out; omega
      have me4 : ¬ w.heap.size + 1 + 1 + 1 = w2.heap.size := by have := L2.out; omega
      clear hb5 y0 y1 y2 p0 p1 p2 q0 q1 q2 pf qf hr5 hr4 b4 l1' l2'
      go_wp2
      generalize w4.alloc (.cells #[.bool B.p.neg, .slice a4 (dg 10 B.p.m).length c4, .int .i64 B.p.e] 56) = w5 at *
      have r1 := HR3.out.six p0' p1' p2' q0' q1' q2' (by omega) (.bool A.p.neg) (.slice a3 (dg 10 A.p.m).length c3) (.int .i64 A.p.e) (.bool B.p.neg) (.slice a4 (dg 10 B.p.m).length c4) (.int .i64 B.p.e)
      have r2 := HR4.out.six p0' p1' p2' q0' q1' q2' (by omega) (.bool A.p.neg) (.slice a3 (dg 10 A.p.m).length c3) (.int .i64 A.p.e) (.bool B.p.neg) (.slice a4 (dg 10 B.p.m).length c4) (.int .i64 B.p.e)
      have R1 := Lib.hid r1; have R2 := Lib.hid r2
      clear r1 r2
      go_region
      go_wp2
      refine bodyPost_ret (v := .tuple #[.agg #[.bool A.p.neg, .slice a3 (dg 10 A.p.m).length c3, .int .i64 A.p.e], .agg #[.bool B.p.neg, .slice a4 (dg 10 B.p.m).length c4, .int .i64 B.p.e], .int .i64 (1 : Nat)]) (by simp [results, Tryd.results57, go_sem, p0', p1', p2', q0', q1', q2']) rfl ?_
      exact ⟨a3, c3, a4, c4, by rw [HV.out], RdC.drew R1.out, RdC.drew R2.out, ((((((b5.setCell LE2.out _).setCell LE2.out _).setCell LE2.out _).setCell LE3.out _).setCell LE3.out _).setCell LE3.out _).drew⟩
    · have t2 : ((B.err : Int) == 1) = false := by simp; omega
      by_cases g3 : A.err = 0
      · have t3 : ((A.err : Int) != 0) = false := by simp [g3]
        have HV := Lib.hid (show pairE A B = B.err by rw [HE.out, if_neg (by omega), if_neg (by omega)])
        clear HE
        have y0' := cellB y0 hb5
        have y1' := cellB y1 hb5
        have y2' := cellB y2 hb5
        have p0' := cellB p0 hb5
        have p1' := cellB p1 hb5
        have p2' := cellB p2 hb5
        have q0' := cellB q0 hb5
        have q1' := cellB q1 hb5
        have q2' := cellB q2 hb5
        have pf' := fun j => (hb5.frozen (p := ⟨w.heap.size + 1 + 1, j, none⟩) l1').trans (pf j)
        have qf' := fun j => (hb5.frozen (p := ⟨w.heap.size + 1 + 1 + 1, j, none⟩) l2').trans (qf j)
        have z0 : (w4.alloc (.cells #[.bool B.p.neg, .slice a4 (dg 10 B.p.m).length c4, .int .i64 B.p.e] 56)).cell? ⟨w4.heap.size, 0, none⟩ = some (.bool B.p.neg) := by simp
        have z1 : (w4.alloc (.cells #[.bool B.p.neg, .slice a4 (dg 10 B.p.m).length c4, .int .i64 B.p.e] 56)).cell? ⟨w4.heap.size, 1, none⟩ = some (.slice a4 (dg 10 B.p.m).length c4) := by simp
        have z2 : (w4.alloc (.cells #[.bool B.p.neg, .slice a4 (dg 10 B.p.m).length c4, .int .i64 B.p.e] 56)).cell? ⟨w4.heap.size, 2, none⟩ = some (.int .i64 B.p.e) := by simp
        have HR3 := Lib.hid (hr5.below hb5)
        have HR4 := Lib.hid (hr4.below hb5)
        have l4' : w.heap.size + 1 + 1 + 1 < w4.heap.size := l2'
        have ne1 : ¬ w4.heap.size = w.heap.size + 1 + 1 := by omega
        have ne2 : ¬ w4.heap.size = w.heap.size + 1 + 1 + 1 := by omega
        have ne3 : ¬ w2.heap.size = w.heap.size + 1 + 1 := by have := L2.out; omega
        have ne4 : ¬ w2.heap.size = w.heap.size + 1 + 1 + 1 := by have := L2.out; omega
        have me1 : ¬ w.heap.size + 1 + 1 = w4.heap.size := by omega
        have me2 : ¬ w.heap.size + 1 + 1 + 1 = w4.heap.size := by omega
        have me3 : ¬ w.heap.size + 1 + 1 = w2.heap.size := by have := L2.out; omega
        have me4 : ¬ w.heap.size + 1 + 1 + 1 = w2.heap.size := by have := L2.out; omega
        clear hb5 y0 y1 y2 p0 p1 p2 q0 q1 q2 pf qf hr5 hr4 b4 l1' l2'
        go_wp2
        generalize w4.alloc (.cells #[.bool B.p.neg, .slice a4 (dg 10 B.p.m).length c4, .int .i64 B.p.e] 56) = w5 at *
        have r1 := HR3.out.six p0' p1' p2' q0' q1' q2' (by omega) (.bool A.p.neg) (.slice a3 (dg 10 A.p.m).length c3) (.int .i64 A.p.e) (.bool B.p.neg) (.slice a4 (dg 10 B.p.m).length c4) (.int .i64 B.p.e)
        have r2 := HR4.out.six p0' p1' p2' q0' q1' q2' (by omega) (.bool A.p.neg) (.slice a3 (dg 10 A.p.m).length c3) (.int .i64 A.p.e) (.bool B.p.neg) (.slice a4 (dg 10 B.p.m).length c4) (.int .i64 B.p.e)
        have R1 := Lib.hid r1; have R2 := Lib.hid r2
        clear r1 r2
        go_region
        go_wp2
        refine bodyPost_ret (v := .tuple #[.agg #[.bool A.p.neg, .slice a3 (dg 10 A.p.m).length c3, .int .i64 A.p.e], .agg #[.bool B.p.neg, .slice a4 (dg 10 B.p.m).length c4, .int .i64 B.p.e], .int .i64 (B.err : Nat)]) (by simp [results, Tryd.results57, go_sem, p0', p1', p2', q0', q1', q2']) rfl ?_
        exact ⟨a3, c3, a4, c4, by rw [HV.out], RdC.drew R1.out, RdC.drew R2.out, ((((((b5.setCell LE2.out _).setCell LE2.out _).setCell LE2.out _).setCell LE3.out _).setCell LE3.out _).setCell LE3.out _).drew⟩
      · have t3 : ((A.err : Int) != 0) = true := by simp [g3]
        have HV := Lib.hid (show pairE A B = A.err by rw [HE.out, if_neg (by omega), if_pos g3])
        clear HE
        have y0' := cellB y0 hb5
        have y1' := cellB y1 hb5
        have y2' := cellB y2 hb5
        have p0' := cellB p0 hb5
        have p1' := cellB p1 hb5
        have p2' := cellB p2 hb5
        have q0' := cellB q0 hb5
        have q1' := cellB q1 hb5
        have q2' := cellB q2 hb5
        have pf' := fun j => (hb5.frozen (p := ⟨w.heap.size + 1 + 1, j, none⟩) l1').trans (pf j)
        have qf' := fun j => (hb5.frozen (p := ⟨w.heap.size + 1 + 1 + 1, j, none⟩) l2').trans (qf j)
        have z0 : (w4.alloc (.cells #[.bool B.p.neg, .slice a4 (dg 10 B.p.m).length c4, .int .i64 B.p.e] 56)).cell? ⟨w4.heap.size, 0, none⟩ = some (.bool B.p.neg) := by simp
        have z1 : (w4.alloc (.cells #[.bool B.p.neg, .slice a4 (dg 10 B.p.m).length c4, .int .i64 B.p.e] 56)).cell? ⟨w4.heap.size, 1, none⟩ = some (.slice a4 (dg 10 B.p.m).length c4) := by simp
        have z2 : (w4.alloc (.cells #[.bool B.p.neg, .slice a4 (dg 10 B.p.m).length c4, .int .i64 B.p.e] 56)).cell? ⟨w4.heap.size, 2, none⟩ = some (.int .i64 B.p.e) := by simp
        have HR3 := Lib.hid (hr5.below hb5)
        have HR4 := Lib.hid (hr4.below hb5)
        have l4' : w.heap.size + 1 + 1 + 1 < w4.heap.size := l2'
        have ne1 : ¬ w4.heap.size = w.heap.size + 1 + 1 := by omega
        have ne2 : ¬ w4.heap.size = w.heap.size + 1 + 1 + 1 := by omega
        have ne3 : ¬ w2.heap.size = w.heap.size + 1 + 1 := by have := L2.out; omega
        have ne4 : ¬ w2.heap.size = w.heap.size + 1 + 1 + 1 := by have := L2.out; omega
        have me1 : ¬ w.heap.size + 1 + 1 = w4.heap.size := by omega
        have me2 : ¬ w.heap.size + 1 + 1 + 1 = w4.heap.size := by omega
        have me3 : ¬ w.heap.size + 1 + 1 = w2.heap.size := by have := L2.out; omega
        have me4 : ¬ w.heap.size + 1 + 1 + 1 = w2.heap.size := by have := L2.out; omega
        clear hb5 y0 y1 y2 p0 p1 p2 q0 q1 q2 pf qf hr5 hr4 b4 l1' l2'
        go_wp2
        generalize w4.alloc (.cells #[.bool B.p.neg, .slice a4 (dg 10 B.p.m).length c4, .int .i64 B.p.e] 56) = w5 at *
        have r1 := HR3.out.six p0' p1' p2' q0' q1' q2' (by omega) (.bool A.p.neg) (.slice a3 (dg 10 A.p.m).length c3) (.int .i64 A.p.e) (.bool B.p.neg) (.slice a4 (dg 10 B.p.m).length c4) (.int .i64 B.p.e)
        have r2 := HR4.out.six p0' p1' p2' q0' q1' q2' (by omega) (.bool A.p.neg) (.slice a3 (dg 10 A.p.m).length c3) (.int .i64 A.p.e) (.bool B.p.neg) (.slice a4 (dg 10 B.p.m).length c4) (.int .i64 B.p.e)
        have R1 := Lib.hid r1; have R2 := Lib.hid r2
        clear r1 r2
        go_region
        go_wp2
        refine bodyPost_ret (v := .tuple #[.agg #[.bool A.p.neg, .slice a3 (dg 10 A.p.m).length c3, .int .i64 A.p.e], .agg #[.bool B.p.neg, .slice a4 (dg 10 B.p.m).length c4, .int .i64 B.p.e], .int .i64 (A.err : Nat)]) (by simp [results, Tryd.results57, go_sem, p0', p1', p2', q0', q1', q2']) rfl ?_
        exact ⟨a3, c3, a4, c4, by rw [HV.out], RdC.drew R1.out, RdC.drew R2.out, ((((((b5.setCell LE2.out _).setCell LE2.out _).setCell LE2.out _).setCell LE3.out _).setCell LE3.out _).setCell LE3.out _).drew⟩
end Go.Proofs.YtofeckdhhaoobaaDoor
