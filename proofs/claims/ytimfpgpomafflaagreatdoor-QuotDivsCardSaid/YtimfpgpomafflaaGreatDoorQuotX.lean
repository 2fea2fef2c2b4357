/- quot: boxes of three cells carried hidden; answers whose digits are read. -/
import Derived.Test.YtimfpgpomafflaaGreatDoorQuotC
import Derived.Test.YtimfpgpomafflaaGreatDoorDecQs
import Derived.Test.YtimfpgpomafflaaGreatDoorDecRs
namespace Go.Proofs.YtimfpgpomafflaaGreatDoor
open Go.RowKit LM

/-- what a box of three cells holds -/
def Qx (w : World) (b : Nat) (v0 v1 v2 : Value) : Prop := w.cell? ⟨b, 0, none⟩ = some v0 ∧ w.cell? ⟨b, 1, none⟩ = some v1 ∧ w.cell? ⟨b, 2, none⟩ = some v2
/-- it may be written -/
def Qf (w : World) (b : Nat) : Prop := ∀ j, w.frozen? ⟨b, j, none⟩ = false
theorem Qx.below {w w' : World} {b : Nat} {v0 v1 v2 : Value} (h : Hid (Qx w b v0 v1 v2)) (hb : Below w.heap.size w w') : Hid (Qx w' b v0 v1 v2) := Lib.hid ⟨cellB h.out.1 hb, cellB h.out.2.1 hb, cellB h.out.2.2 hb⟩
theorem Qx.new (w : World) (v0 v1 v2 : Value) (t : TypeId) : Hid (Qx (w.alloc (.cells #[v0, v1, v2] t)) w.heap.size v0 v1 v2) := Lib.hid ⟨by simp, by simp, by simp⟩
theorem Qx.lt {w : World} {b : Nat} {v0 v1 v2 : Value} (h : Hid (Qx w b v0 v1 v2)) : b < w.heap.size := lt_of_cell h.out.1
theorem Qf.below {w w' : World} {b : Nat} (h : Hid (Qf w b)) (hl : b < w.heap.size) (hb : Below w.heap.size w w') : Hid (Qf w' b) := Lib.hid fun j => by rw [hb.frozen (p := ⟨b, j, none⟩) hl]; exact h.out j
theorem Qf.new (w : World) (v0 v1 v2 : Value) (t : TypeId) : Hid (Qf (w.alloc (.cells #[v0, v1, v2] t)) w.heap.size) := Lib.hid fun j => by simp
theorem Qx.set {w : World} {b : Nat} {v0 v1 v2 : Value} (h : Hid (Qx w b v0 v1 v2)) (x0 x1 x2 : Value) : Hid (Qx (((w.setCell ⟨b, 0, none⟩ x0).setCell ⟨b, 1, none⟩ x1).setCell ⟨b, 2, none⟩ x2) b x0 x1 x2) := by
  obtain ⟨h0, h1, h2⟩ := h.out
  exact Lib.hid ⟨by simp [go_sem, h0, h1, h2], by simp [go_sem, h0, h1, h2], by simp [go_sem, h0, h1, h2]⟩
theorem Qx.far {w : World} {b g : Nat} {v0 v1 v2 : Value} (h : Hid (Qx w b v0 v1 v2)) (hne : b ≠ g) (x0 x1 x2 : Value) : Hid (Qx (((w.setCell ⟨g, 0, none⟩ x0).setCell ⟨g, 1, none⟩ x1).setCell ⟨g, 2, none⟩ x2) b v0 v1 v2) := by
  obtain ⟨h0, h1, h2⟩ := h.out
  have k : ∀ i j, (⟨g, j, none⟩ : Addr) ≠ ⟨b, i, none⟩ := fun i j e => hne (by simpa using (congrArg Addr.block e).symm)
  refine Lib.hid ⟨?_, ?_, ?_⟩ <;> (rw [World.cell?_setCell_other, World.cell?_setCell_other, World.cell?_setCell_other]; assumption; all_goals exact k _ _)
theorem Qf.set {w : World} {b g : Nat} (h : Hid (Qf w b)) (x0 x1 x2 : Value) : Hid (Qf (((w.setCell ⟨g, 0, none⟩ x0).setCell ⟨g, 1, none⟩ x1).setCell ⟨g, 2, none⟩ x2) b) := Lib.hid fun j => by simp [go_sem, h.out j]
/-- a row stays when a box of a number is written -/
theorem Rd.box {w : World} {k : IntKind} {a : Option Addr} {l : List Nat} {g : Nat} {s : Bool} {x : Option Addr} {n c : Nat} {e : Int} (h : Rd w k a l) (q : Hid (Qx w g (.bool s) (.slice x n c) (.int .i64 e))) (hk : k ≠ .i64) (x0 x1 x2 : Value) :
    Rd (((w.setCell ⟨g, 0, none⟩ x0).setCell ⟨g, 1, none⟩ x1).setCell ⟨g, 2, none⟩ x2) k a l := by
  obtain ⟨h0, h1, h2⟩ := q.out
  have e1 : (w.setCell ⟨g, 0, none⟩ x0).cell? ⟨g, 1, none⟩ = some (.slice x n c) := offCell (by omega) h1
  have e2 : ((w.setCell ⟨g, 0, none⟩ x0).setCell ⟨g, 1, none⟩ x1).cell? ⟨g, 2, none⟩ = some (.int .i64 e) := offCell (by omega) (offCell (by omega) h2)
  exact Rd.setOther (Rd.setOther (Rd.setOther h h0 (fun n e => by cases e)) e1 (fun n e => by cases e)) e2 (fun n e => by cases e; exact hk rfl)
theorem Rd.boxS {w : World} {k : IntKind} {a : Option Addr} {l : List Nat} {g : Nat} {x y z : Option Addr} {n1 c1 n2 c2 n3 c3 : Nat} (h : Rd w k a l) (q : Hid (Qx w g (.slice x n1 c1) (.slice y n2 c2) (.slice z n3 c3))) (x0 x1 x2 : Value) :
    Rd (((w.setCell ⟨g, 0, none⟩ x0).setCell ⟨g, 1, none⟩ x1).setCell ⟨g, 2, none⟩ x2) k a l := by
  obtain ⟨h0, h1, h2⟩ := q.out
  have e1 : (w.setCell ⟨g, 0, none⟩ x0).cell? ⟨g, 1, none⟩ = some (.slice y n2 c2) := offCell (by omega) h1
  have e2 : ((w.setCell ⟨g, 0, none⟩ x0).setCell ⟨g, 1, none⟩ x1).cell? ⟨g, 2, none⟩ = some (.slice z n3 c3) := offCell (by omega) (offCell (by omega) h2)
  exact Rd.setOther (Rd.setOther (Rd.setOther h h0 (fun n e => by cases e)) e1 (fun n e => by cases e)) e2 (fun n e => by cases e)
theorem Below.box {n g : Nat} {w w' : World} (h : Below n w w') (hg : n ≤ g) (x0 x1 x2 : Value) : Below n w (((w'.setCell ⟨g, 0, none⟩ x0).setCell ⟨g, 1, none⟩ x1).setCell ⟨g, 2, none⟩ x2) := ((h.setCell hg _).setCell hg _).setCell hg _

theorem not_eq_lt {a b : Nat} (h : a < b) : ¬ a = b := by omega
theorem not_eq_gt {a b : Nat} (h : a < b) : ¬ b = a := by omega
theorem Rd.drewn {w : World} {k : IntKind} {a : Option Addr} {l : List Nat} (h : Rd w k a l) : Rd w.drew k a l := h
theorem Qx.drew {w : World} {b : Nat} {v0 v1 v2 : Value} (h : Hid (Qx w b v0 v1 v2)) : Hid (Qx w.drew b v0 v1 v2) := h
theorem Qf.drew {w : World} {b : Nat} (h : Hid (Qf w b)) : Hid (Qf w.drew b) := h
/-- an answer of a number whose digits may be read -/
def ResY (A : Ans) (w : World) (r : Ending) (w' : World) : Prop := ∃ a' c', r = .returned (.tuple #[.agg #[.bool A.p.neg, .slice a' (dg 1000000000 A.p.m).length c', .int .i64 A.p.e], .int .i64 (A.err : Nat)]) ∧ Rd w' .u32 a' (dg 1000000000 A.p.m) ∧ Below w.heap.size w w'
theorem ResA.y {A : Ans} {w w' : World} {r : Ending} (h : ResA A w r w') : ResY A w r w' := by
  obtain ⟨a, c, h1, h2, h3⟩ := h
  exact ⟨a, c, h1, h2.rd, h3⟩
theorem ResN.y {A : Ans} {w w' : World} {r : Ending} (h : ResN A w r w') : ResY A w r w' := by
  obtain ⟨a, c, h1, h2, h3⟩ := h
  exact ⟨a, c, h1, h2.rd, h3⟩
theorem resY_err {A : Ans} {n : Nat} (hA : A = ⟨n, zP⟩) {w w' : World} (hb : Below w.heap.size w w') : ResY A w (.returned (.tuple #[.agg #[.bool false, .slice none 0 0, .int .i64 0], .int .i64 (n : Nat)])) w' := by
  subst hA
  exact ⟨none, 0, by show _ = Ending.returned (.tuple #[.agg #[.bool false, .slice none (dg 1000000000 0).length 0, .int .i64 0], .int .i64 (n : Nat)]); rw [dg_zero]; rfl, by show Rd _ .u32 none (dg 1000000000 0); rw [dg_zero]; exact Rd.nil _ _ _, hb⟩
theorem cutWhole_any (way : Nat) (hw : way ≤ 4) (p : Pl) (hin : inR p = true) (a : Option Addr) (c : Nat) (w : World) (hr : Rd w .u32 a (dg 1000000000 p.m)) (htab : Tab w) :
    Calls Tryz.prog 41 #[.agg #[.bool p.neg, .slice a (dg 1000000000 p.m).length c, .int .i64 p.e], .int .i64 way] w (ResC (cutP way p) w) := by
  by_cases he : 0 ≤ p.e
  · refine (cutWhole_no way p he a c w hr).mono fun r w' h => ?_
    have e1 : cutP way p = p := by unfold cutP; rw [if_pos he]
    rw [e1]
    exact ⟨a, c, h.1, hr.below h.2, h.2⟩
  · exact cutWhole_yes way hw p hin (by omega) a c w hr htab
end Go.Proofs.YtimfpgpomafflaaGreatDoor
