/- parens: wordLevel walked. -/
import Derived.Test.YtelagemniheeoaaDoorParK
import Derived.Deep.OwnRows
namespace Go.Proofs.YtelagemniheeoaaDoor
open Go.RowKit BM

/-- a vector's box before its levels are laid -/
def VP (w : World) (b : Nat) (v : VD) : Prop :=
  (w.cell? ⟨b, 0, none⟩ = some (.slice v.wa v.ws.length v.wc) ∧ w.cell? ⟨b, 1, none⟩ = some (.int .i64 v.n) ∧ w.cell? ⟨b, 2, none⟩ = some (.slice v.ra v.rs.length v.rc)) ∧ RdV w v.wa (wv8 v.ws) ∧ RdV w v.ra (nv8 v.rs)
theorem VP.below {w w' : World} {b : Nat} {v : VD} (h : VP w b v) (hb : Below w.heap.size w w') : VP w' b v := by
  obtain ⟨⟨h0, h1, h2⟩, r0, r1⟩ := h
  exact ⟨⟨cellP hb h0, cellP hb h1, cellP hb h2⟩, r0.below hb, r1.below hb⟩
theorem infoI : (Tryd.prog.info? 3).map (fun i => (i.zero, i.size, i.bytes)) = some (some (.int .i64 0), 1, 8) := by kernel_rfl
/-- a box of a level -/
def LB (w : World) (q g1 g2 C : Nat) : Prop := w.cell? ⟨q, 0, none⟩ = some (.slice (some ⟨g1, 0, none⟩) C C) ∧ w.cell? ⟨q, 1, none⟩ = some (.slice (some ⟨g2, 0, none⟩) C C)
theorem LB.below {w w' : World} {q g1 g2 C : Nat} (h : LB w q g1 g2 C) (hb : Below w.heap.size w w') : LB w' q g1 g2 C := ⟨cellP hb h.1, cellP hb h.2⟩
theorem LB.tw {w w' : World} {q g1 g2 C : Nat} (h : LB w q g1 g2 C) (ht : Tw g1 g2 w w') (h1 : q ≠ g1) (h2 : q ≠ g2) : LB w' q g1 g2 C := by
  have hl : q < w.heap.size := lt_of_cell h.1
  exact ⟨by rw [ht.cell hl h1 h2]; exact h.1, by rw [ht.cell hl h1 h2]; exact h.2⟩
/-- two rows made, and their box -/
def M3 (w1 : World) (C : Nat) (s : Value) (wx : World) : Prop := ∃ q g1 g2, s = .pointer (some ⟨q, 0, none⟩) ∧ RW wx w1.heap.size g1 g2 C (List.replicate C 0) (List.replicate C 0) ∧ LB wx q g1 g2 C ∧ q ≠ g1 ∧ q ≠ g2 ∧ w1.heap.size ≤ q ∧ Below w1.heap.size w1 wx
theorem own_made (w : World) (Z : Array Value) (C : Nat) (hZ : madeCells #[Value.int .i64 0] C = Z) (hC : C ≤ 17592186044417) : OwnV (w.alloc (.cells Z 3)) w.heap.size 3 1 (some ⟨w.heap.size, 0, none⟩) C C (List.replicate C (.int .i64 0)) := by
  have h := World.ownsRow_lit (base := w.heap.size) (e := 3) (size := 1) w Z C (Nat.le_refl _) (by unfold maxLen; omega) (by rw [← hZ, size_madeCells, Nat.mul_one])
  rw [← hZ, toList_madeCells_one, hZ] at h
  exact h
theorem m3_of {w1 wx : World} {C q g1 g2 : Nat} (h1 : OwnV wx w1.heap.size 3 1 (some ⟨g1, 0, none⟩) C C (List.replicate C (.int .i64 0))) (h2 : OwnV wx w1.heap.size 3 1 (some ⟨g2, 0, none⟩) C C (List.replicate C (.int .i64 0))) (hne : g1 ≠ g2) (hq : LB wx q g1 g2 C) (n1 : q ≠ g1) (n2 : q ≠ g2) (hb : w1.heap.size ≤ q) (hg1 : w1.heap.size ≤ g1) (hg2 : w1.heap.size ≤ g2) (hB : Below w1.heap.size w1 wx) : M3 w1 C (.pointer (some ⟨q, 0, none⟩)) wx :=
  ⟨q, g1, g2, rfl, ⟨by unfold iv8; rw [List.map_replicate]; exact h1, by unfold nv8; rw [List.map_replicate]; exact h2, hne, hg1, hg2⟩, hq, n1, n2, hb, hB⟩
theorem M3.drew {w1 wx : World} {C : Nat} {s : Value} (h : M3 w1 C s wx) : M3 w1 C s wx.drew := by
  obtain ⟨q, g1, g2, e, hr, hl, a, b, c, d⟩ := h
  exact ⟨q, g1, g2, e, hr.drew, hl, a, b, c, d.drew⟩
theorem ord1 (w1 : World) (Z : Array Value) (C : Nat) (hZ : madeCells #[Value.int .i64 0] C = Z) (hC : C ≤ 17592186044417) (x y : Value) (t : TypeId) :
    OwnV (((w1.alloc (.cells Z 3)).alloc (.cells #[x, y] t)).alloc (.cells Z 3)) w1.heap.size 3 1 (some ⟨w1.heap.size, 0, none⟩) C C (List.replicate C (.int .i64 0)) ∧
    OwnV (((w1.alloc (.cells Z 3)).alloc (.cells #[x, y] t)).alloc (.cells Z 3)) w1.heap.size 3 1 (some ⟨w1.heap.size + 1 + 1, 0, none⟩) C C (List.replicate C (.int .i64 0)) ∧
    ((((w1.alloc (.cells Z 3)).alloc (.cells #[x, y] t)).alloc (.cells Z 3)).cell? ⟨w1.heap.size + 1, 0, none⟩ = some x ∧ (((w1.alloc (.cells Z 3)).alloc (.cells #[x, y] t)).alloc (.cells Z 3)).cell? ⟨w1.heap.size + 1, 1, none⟩ = some y) ∧
    Below w1.heap.size w1 (((w1.alloc (.cells Z 3)).alloc (.cells #[x, y] t)).alloc (.cells Z 3)) := by
  have a1 := own_made w1 Z C hZ hC
  have b1 := (Below.refl w1.heap.size w1).alloc (Nat.le_refl _) (.cells Z 3)
  have e1 : (w1.alloc (.cells Z 3)).heap.size = w1.heap.size + 1 := by simp
  generalize w1.alloc (.cells Z 3) = w2 at *
  have b2 := (Below.refl w2.heap.size w2).alloc (Nat.le_refl _) (.cells #[x, y] t)
  have c0 : (w2.alloc (.cells #[x, y] t)).cell? ⟨w1.heap.size + 1, 0, none⟩ = some x := by rw [← e1]; simp
  have c1 : (w2.alloc (.cells #[x, y] t)).cell? ⟨w1.heap.size + 1, 1, none⟩ = some y := by rw [← e1]; simp
  have e2 : (w2.alloc (.cells #[x, y] t)).heap.size = w1.heap.size + 1 + 1 := by simp [e1]
  generalize w2.alloc (.cells #[x, y] t) = w3 at *
  have a3 := own_made w3 Z C hZ hC
  rw [e2] at a3
  have b3 := (Below.refl w3.heap.size w3).alloc (Nat.le_refl _) (.cells Z 3)
  exact ⟨(a1.below b2).below b3, a3.mono (by omega), ⟨cellP b3 c0, cellP b3 c1⟩, b1.trans ((b2.mono (by omega)).trans (b3.mono (by omega)))⟩
theorem ord2 (w1 : World) (Z : Array Value) (C : Nat) (hZ : madeCells #[Value.int .i64 0] C = Z) (hC : C ≤ 17592186044417) (x y : Value) (t : TypeId) :
    OwnV (((w1.alloc (.cells Z 3)).alloc (.cells Z 3)).alloc (.cells #[x, y] t)) w1.heap.size 3 1 (some ⟨w1.heap.size, 0, none⟩) C C (List.replicate C (.int .i64 0)) ∧
    OwnV (((w1.alloc (.cells Z 3)).alloc (.cells Z 3)).alloc (.cells #[x, y] t)) w1.heap.size 3 1 (some ⟨w1.heap.size + 1, 0, none⟩) C C (List.replicate C (.int .i64 0)) ∧
    ((((w1.alloc (.cells Z 3)).alloc (.cells Z 3)).alloc (.cells #[x, y] t)).cell? ⟨w1.heap.size + 1 + 1, 0, none⟩ = some x ∧ (((w1.alloc (.cells Z 3)).alloc (.cells Z 3)).alloc (.cells #[x, y] t)).cell? ⟨w1.heap.size + 1 + 1, 1, none⟩ = some y) ∧
    Below w1.heap.size w1 (((w1.alloc (.cells Z 3)).alloc (.cells Z 3)).alloc (.cells #[x, y] t)) := by
  have a1 := own_made w1 Z C hZ hC
  have b1 := (Below.refl w1.heap.size w1).alloc (Nat.le_refl _) (.cells Z 3)
  have e1 : (w1.alloc (.cells Z 3)).heap.size = w1.heap.size + 1 := by simp
  generalize w1.alloc (.cells Z 3) = w2 at *
  have a2 := own_made w2 Z C hZ hC
  rw [e1] at a2
  have b2 := (Below.refl w2.heap.size w2).alloc (Nat.le_refl _) (.cells Z 3)
  have e2 : (w2.alloc (.cells Z 3)).heap.size = w1.heap.size + 1 + 1 := by simp [e1]
  generalize w2.alloc (.cells Z 3) = w3 at *
  have b3 := (Below.refl w3.heap.size w3).alloc (Nat.le_refl _) (.cells #[x, y] t)
  have c0 : (w3.alloc (.cells #[x, y] t)).cell? ⟨w1.heap.size + 1 + 1, 0, none⟩ = some x := by rw [← e2]; simp
  have c1 : (w3.alloc (.cells #[x, y] t)).cell? ⟨w1.heap.size + 1 + 1, 1, none⟩ = some y := by rw [← e2]; simp
  exact ⟨(a1.below b2).below b3, (a2.below b3).mono (by omega), ⟨c0, c1⟩, b1.trans ((b2.mono (by omega)).trans (b3.mono (by omega)))⟩
theorem ord3 (w1 : World) (Z : Array Value) (C : Nat) (hZ : madeCells #[Value.int .i64 0] C = Z) (hC : C ≤ 17592186044417) (x y : Value) (t : TypeId) :
    OwnV (((w1.alloc (.cells #[x, y] t)).alloc (.cells Z 3)).alloc (.cells Z 3)) w1.heap.size 3 1 (some ⟨w1.heap.size + 1, 0, none⟩) C C (List.replicate C (.int .i64 0)) ∧
    OwnV (((w1.alloc (.cells #[x, y] t)).alloc (.cells Z 3)).alloc (.cells Z 3)) w1.heap.size 3 1 (some ⟨w1.heap.size + 1 + 1, 0, none⟩) C C (List.replicate C (.int .i64 0)) ∧
    ((((w1.alloc (.cells #[x, y] t)).alloc (.cells Z 3)).alloc (.cells Z 3)).cell? ⟨w1.heap.size, 0, none⟩ = some x ∧ (((w1.alloc (.cells #[x, y] t)).alloc (.cells Z 3)).alloc (.cells Z 3)).cell? ⟨w1.heap.size, 1, none⟩ = some y) ∧
    Below w1.heap.size w1 (((w1.alloc (.cells #[x, y] t)).alloc (.cells Z 3)).alloc (.cells Z 3)) := by
  have b1 := (Below.refl w1.heap.size w1).alloc (Nat.le_refl _) (.cells #[x, y] t)
  have c0 : (w1.alloc (.cells #[x, y] t)).cell? ⟨w1.heap.size, 0, none⟩ = some x := by simp
  have c1 : (w1.alloc (.cells #[x, y] t)).cell? ⟨w1.heap.size, 1, none⟩ = some y := by simp
  have e1 : (w1.alloc (.cells #[x, y] t)).heap.size = w1.heap.size + 1 := by simp
  generalize w1.alloc (.cells #[x, y] t) = w2 at *
  have a2 := own_made w2 Z C hZ hC
  rw [e1] at a2
  have b2 := (Below.refl w2.heap.size w2).alloc (Nat.le_refl _) (.cells Z 3)
  have e2 : (w2.alloc (.cells Z 3)).heap.size = w1.heap.size + 1 + 1 := by simp [e1]
  generalize w2.alloc (.cells Z 3) = w3 at *
  have a3 := own_made w3 Z C hZ hC
  rw [e2] at a3
  have b3 := (Below.refl w3.heap.size w3).alloc (Nat.le_refl _) (.cells Z 3)
  exact ⟨(a2.below b3).mono (by omega), a3.mono (by omega), ⟨cellP b3 (cellP b2 c0), cellP b3 (cellP b2 c1)⟩, b1.trans ((b2.mono (by omega)).trans (b3.mono (by omega)))⟩
theorem m3_all (w1 : World) (Z : Array Value) (C : Nat) (hZ : madeCells #[Value.int .i64 0] C = Z) (hC : C ≤ 17592186044417) (t : TypeId) (n : Nat) (hn : n = w1.heap.size) :
    M3 w1 C (.pointer (some ⟨n + 1, 0, none⟩)) (((w1.alloc (.cells Z 3)).alloc (.cells #[.slice (some ⟨n, 0, none⟩) C C, .slice (some ⟨n + 1 + 1, 0, none⟩) C C] t)).alloc (.cells Z 3)).drew ∧
    M3 w1 C (.pointer (some ⟨n + 1, 0, none⟩)) (((w1.alloc (.cells Z 3)).alloc (.cells #[.slice (some ⟨n + 1 + 1, 0, none⟩) C C, .slice (some ⟨n, 0, none⟩) C C] t)).alloc (.cells Z 3)).drew ∧
    M3 w1 C (.pointer (some ⟨n + 1 + 1, 0, none⟩)) (((w1.alloc (.cells Z 3)).alloc (.cells Z 3)).alloc (.cells #[.slice (some ⟨n, 0, none⟩) C C, .slice (some ⟨n + 1, 0, none⟩) C C] t)).drew ∧
    M3 w1 C (.pointer (some ⟨n + 1 + 1, 0, none⟩)) (((w1.alloc (.cells Z 3)).alloc (.cells Z 3)).alloc (.cells #[.slice (some ⟨n + 1, 0, none⟩) C C, .slice (some ⟨n, 0, none⟩) C C] t)).drew ∧
    M3 w1 C (.pointer (some ⟨n, 0, none⟩)) (((w1.alloc (.cells #[.slice (some ⟨n + 1, 0, none⟩) C C, .slice (some ⟨n + 1 + 1, 0, none⟩) C C] t)).alloc (.cells Z 3)).alloc (.cells Z 3)).drew ∧
    M3 w1 C (.pointer (some ⟨n, 0, none⟩)) (((w1.alloc (.cells #[.slice (some ⟨n + 1 + 1, 0, none⟩) C C, .slice (some ⟨n + 1, 0, none⟩) C C] t)).alloc (.cells Z 3)).alloc (.cells Z 3)).drew := by
  subst hn
  refine ⟨?_, ?_, ?_, ?_, ?_, ?_⟩
  · obtain ⟨a, b, c, d⟩ := ord1 w1 Z C hZ hC (.slice (some ⟨w1.heap.size, 0, none⟩) C C) (.slice (some ⟨w1.heap.size + 1 + 1, 0, none⟩) C C) t
    exact (m3_of a b (by omega) c (by omega) (by omega) (by omega) (by omega) (by omega) d).drew
  · obtain ⟨a, b, c, d⟩ := ord1 w1 Z C hZ hC (.slice (some ⟨w1.heap.size + 1 + 1, 0, none⟩) C C) (.slice (some ⟨w1.heap.size, 0, none⟩) C C) t
    exact (m3_of b a (by omega) c (by omega) (by omega) (by omega) (by omega) (by omega) d).drew
  · obtain ⟨a, b, c, d⟩ := ord2 w1 Z C hZ hC (.slice (some ⟨w1.heap.size, 0, none⟩) C C) (.slice (some ⟨w1.heap.size + 1, 0, none⟩) C C) t
    exact (m3_of a b (by omega) c (by omega) (by omega) (by omega) (by omega) (by omega) d).drew
  · obtain ⟨a, b, c, d⟩ := ord2 w1 Z C hZ hC (.slice (some ⟨w1.heap.size + 1, 0, none⟩) C C) (.slice (some ⟨w1.heap.size, 0, none⟩) C C) t
    exact (m3_of b a (by omega) c (by omega) (by omega) (by omega) (by omega) (by omega) d).drew
  · obtain ⟨a, b, c, d⟩ := ord3 w1 Z C hZ hC (.slice (some ⟨w1.heap.size + 1, 0, none⟩) C C) (.slice (some ⟨w1.heap.size + 1 + 1, 0, none⟩) C C) t
    exact (m3_of a b (by omega) c (by omega) (by omega) (by omega) (by omega) (by omega) d).drew
  · obtain ⟨a, b, c, d⟩ := ord3 w1 Z C hZ hC (.slice (some ⟨w1.heap.size + 1 + 1, 0, none⟩) C C) (.slice (some ⟨w1.heap.size + 1, 0, none⟩) C C) t
    exact (m3_of b a (by omega) c (by omega) (by omega) (by omega) (by omega) (by omega) d).drew
/-- the box of the result, not written yet -/
def RBx (w : World) (q : Nat) : Prop := (∃ a b, w.cell? ⟨q, 0, none⟩ = some a ∧ w.cell? ⟨q, 1, none⟩ = some b) ∧ ∀ j, w.frozen? ⟨q, j, none⟩ = false
theorem RBx.below {B : Nat} {w w' : World} {q : Nat} (h : RBx w q) (hb : Below B w w') (hq : q < B) : RBx w' q := by
  obtain ⟨⟨a, b, h1, h2⟩, h3⟩ := h
  exact ⟨⟨a, b, by rw [hb.cell hq]; exact h1, by rw [hb.cell hq]; exact h2⟩, fun j => by rw [hb.frozen hq]; exact h3 j⟩
theorem RBx.tw {w w' : World} {q g1 g2 : Nat} (h : RBx w q) (ht : Tw g1 g2 w w') (h1 : q ≠ g1) (h2 : q ≠ g2) : RBx w' q := by
  obtain ⟨⟨a, b, e1, e2⟩, h3⟩ := h
  have hl : q < w.heap.size := lt_of_cell e1
  exact ⟨⟨a, b, by rw [ht.cell hl h1 h2]; exact e1, by rw [ht.cell hl h1 h2]; exact e2⟩, fun j => by rw [ht.frozen hl h1 h2]; exact h3 j⟩
def ResLev (v : VD) (d : Nat) (w : World) (r : Ending) (w' : World) : Prop := ∃ g1 g2 ls ms, r = .returned (.agg #[.slice (some ⟨g1, 0, none⟩) (cn v.n d) (cn v.n d), .slice (some ⟨g2, 0, none⟩) (cn v.n d) (cn v.n d)]) ∧ RW w' w.heap.size g1 g2 (cn v.n d) ls ms ∧ Cov (ex v.f) v.n d ls ms (v.n + 1) ∧ Below w.heap.size w w'
set_option maxRecDepth 100000 in
set_option maxHeartbeats 4000000 in
theorem wordLevel_any (b : Nat) (v : VD) (w : World) (hX : VP w b v) (hv : v.rok) : Calls Tryd.prog 47 #[.pointer (some ⟨b, 0, none⟩)] w (ResLev v 1 w) := by
  have HX := Lib.hid (fun W (hb : Below w.heap.size w W) => hX.below hb)
  obtain ⟨⟨x0, x1, x2⟩, -, -⟩ := hX
  have hC : v.rs.length = cn v.n 1 := by rw [hv.2.2]; simp [cn, sh]
  rw [hC] at x2
  obtain ⟨C, hCe⟩ : ∃ C, cn v.n 1 = C := ⟨_, rfl⟩
  rw [hCe] at x2 hC
  have HCE := Lib.hid hCe
  have hn := hv.2.1
  have hCn : C = v.n / 64 + 1 := by rw [← hCe]; simp [cn, sh]
  have hCb : C ≤ 17592186044417 := by omega
  have HCN := Lib.hid hCn
  have HRL := Lib.hid hC
  clear hCe hCn hC
  obtain ⟨Z, hZ⟩ : ∃ Z, madeCells #[Value.int .i64 0] C = Z := ⟨_, rfl⟩
  have hmk := fun w => run_make_row' (P := Tryd.prog) 40 3 (.int .i64 0) 8 Tryd.underlying40 infoI rfl .i64 .i64 C (by omega) (by omega) w
  rw [hZ] at hmk
  have HZ := Lib.hid hZ
  clear hZ
  have bA := (Below.refl w.heap.size w).alloc (Nat.le_refl _) (.cells #[.slice none 0 0, .slice none 0 0] 55)
  have y2 := cellP bA x2
  go_enter Tryd.func47, Tryd.ntmps47
  go_upto_region 2 with (fail)
  have HRB : Hid (RBx (w.alloc (.cells #[.slice none 0 0, .slice none 0 0] 55)) w.heap.size) := Lib.hid ⟨⟨.slice none 0 0, .slice none 0 0, by simp, by simp⟩, fun j => by simp⟩
  have HSZ : Hid ((w.alloc (.cells #[.slice none 0 0, .slice none 0 0] 55)).heap.size = w.heap.size + 1) := Lib.hid (by simp)
  have HB1 := Lib.hid bA
  generalize w.alloc (.cells #[.slice none 0 0, .slice none 0 0] 55) = w1 at *
  clear x0 x1 x2 y2 bA
  have HM3 := Lib.hid (m3_all w1 Z C HZ.out hCb 55 w1.heap.size rfl)
  go_cut [4] (fun s wx => M3 w1 C s wx)
  case first =>
    go_region
    all_goals go_wp2_with fail
    all_goals go_meet
    all_goals first
      | with_reducible exact HM3.out.1
      | with_reducible exact HM3.out.2.1
      | with_reducible exact HM3.out.2.2.1
      | with_reducible exact HM3.out.2.2.2.1
      | with_reducible exact HM3.out.2.2.2.2.1
      | with_reducible exact HM3.out.2.2.2.2.2
  case rest =>
    obtain ⟨q, g1, g2, rfl, hR, hB, hq1, hq2, hqs, hbc⟩ := hcut
    have RR := Lib.hid hR; have BB := Lib.hid hB; have HBC := Lib.hid hbc
    clear hR hB hbc hmk HM3
    have X0 : Hid (RBx wc w.heap.size) := Lib.hid (RBx.below HRB.out HBC.out (by rw [HSZ.out]; exact Nat.lt_succ_self _))
    have BL0 : Hid (Below w.heap.size w wc) := Lib.hid (HB1.out.trans (HBC.out.mono (by rw [HSZ.out]; omega)))
    have C0 : Hid (Cov (ex v.f) v.n 1 (List.replicate C 0) (List.replicate C 0) (min (v.n + 1) (64 * 0))) := Lib.hid (by have := Cov.start (ex v.f) v.n 1; rw [show v.n / 2 ^ sh 1 + 1 = C by rw [HCN.out]; simp [sh]] at this; simpa using this)
    go_wp2_with fail
    go_loopw [5, 6, 7, 8, 20] (fun _ _ _ _ s20 wr => ∃ (k : Nat) (ls : List Int) (ms : List Nat), k ≤ C ∧ s20 = .int .i64 k ∧ Hid (RW wr w1.heap.size g1 g2 C ls ms) ∧ Hid (Cov (ex v.f) v.n 1 ls ms (min (v.n + 1) (64 * k))) ∧ Hid (LB wr q g1 g2 C) ∧ Hid (Below w.heap.size w wr) ∧ Hid (RBx wr w.heap.size)) (fun _ _ _ _ s20 _ => C - (intOf s20).toNat)
    case atStart => exact ⟨0, _, _, by omega, rfl, RR, C0, BB, BL0, X0⟩
    case round =>
      obtain ⟨k, ls, ms, hk, rfl, R1, COV, B1, BL1, X1⟩ := hrel
      by_cases hlt : k < C
      · have hCN := HCN.out
        have hz1 := BL1.out.size
        obtain ⟨⟨x0, x1, x2⟩, -, rr⟩ := HX.out wr BL1.out
        have hr := rs_get hv (k := k) (by omega)
        have hrb := rk_le v.f (64 * k)
        obtain ⟨yb, yo, hya, hyc⟩ := rr _ _ (nv8_get hr)
        rw [hya, HRL.out] at x2
        obtain ⟨bg, hbg⟩ : ∃ bg, 64 * k = bg := ⟨_, rfl⟩
        have HBG := Lib.hid hbg
        obtain ⟨l, hl⟩ := cn_get COV.out.1 (show k < v.n / 2 ^ sh 1 + 1 by simp [sh]; omega)
        obtain ⟨m, hm⟩ := cn_get COV.out.2.1 (show k < v.n / 2 ^ sh 1 + 1 by simp [sh]; omega)
        have hlo : lo 1 k = bg := by unfold lo; simp [sh]; omega
        have hbgn : bg ≤ v.n := by omega
        have hhi : hi_ v.n 1 k = min (v.n + 1) (bg + 64) := by rw [hi_eq, hlo]; simp [sh]
        obtain rfl : m = 0 := (COV.out.2.2 k l m hl hm).2 (by omega)
        have hx := ex_bd v.f bg
        have he0 : (2 : Int) * (rk v.f (64 * k) : Int) - bg = ex v.f bg := by rw [hbg]; rfl
        have hcov2 : Cov (ex v.f) v.n 1 (ls.set k (adP l 0 (ex v.f bg) 1).1) (ms.set k (adP l 0 (ex v.f bg) 1).2) (bg + 1) := by
          have h0 := COV.out
          rw [show min (v.n + 1) (64 * k) = bg by omega] at h0
          exact h0.step hl hm (by omega) (by omega) (by omega) (by rw [show bg + 1 - bg = 1 by omega]; exact agg_one _ _)
        have COV2 := Lib.hid hcov2
        have HADD := Lib.hid (fun W hR => add_any w1.heap.size g1 g2 C k 1 0 (ex v.f bg) l ls ms W hR hlt hl hm (by omega) (by omega))
        rw [hbg] at hr hrb
        rw [hbg] at hyc
        have hkb : (k : Int) * 64 = bg := by omega
        have he1 : IntKind.i64.wrap ((2 : Int) * (rk v.f bg : Int) - bg) = ex v.f bg := by rw [hbg] at he0; rw [he0]; exact IntWalk.i64_in _ (by omega)
        rw [hbg] at he0
        obtain ⟨e0, hee⟩ : ∃ e0, ex v.f bg = e0 := ⟨_, rfl⟩
        rw [hee] at HADD COV2 he0 hx
        have HEE := Lib.hid hee
        obtain ⟨y0, y1⟩ := B1.out
        generalize rk v.f bg = r at *
        clear hcov2 hr hya hl hm hbg he1 hee hCN hlo hhi x0 x1
        go_wp2_with fail
        refine (HADD.out wr R1.out).mono ?_
        rintro r3 w3 ⟨rfl, hR3, hT3⟩
        have hsz := HSZ.out
        have hb1 := hR3.b1
        have hb2 := hR3.b2
        have R3 := Lib.hid hR3
        have B3 := Lib.hid (B1.out.tw hT3 hq1 hq2)
        have X3 := Lib.hid (X1.out.tw hT3 (by omega) (by omega))
        have BL3 := Lib.hid (BL1.out.trans (hT3.below w.heap.size (by omega) (by omega) hz1))
        clear hR3 hT3 HADD he0 hkb hyc y0 y1 R1 B1 X1 BL1 COV x2 hsz hb1 hb2
        by_cases hle : bg + 63 ≤ v.n
        · have hleI : (bg : Int) + 63 ≤ v.n := by omega
          go_wp2_with fail
          go_loopw [7, 8] (fun s7 s8 wq => ∃ (j : Nat) (ls : List Int) (ms : List Nat), j ≤ 63 ∧ s8 = .int .i64 ((bg : Int) + j) ∧ s7 = .int .i64 (ex v.f (bg + j)) ∧ Hid (RW wq w1.heap.size g1 g2 C ls ms) ∧ Hid (Cov (ex v.f) v.n 1 ls ms (bg + j + 1)) ∧ Hid (LB wq q g1 g2 C) ∧ Hid (Below w.heap.size w wq) ∧ Hid (RBx wq w.heap.size)) (fun _ s8 _ => (bg + 63) - (intOf s8).toNat)
          case atStart => exact ⟨0, _, _, by omega, by simp, by rw [Nat.add_zero, HEE.out], R3, COV2, B3, BL3, X3⟩
          case round =>
            obtain ⟨j, ls2, ms2, hj, rfl, rfl, R4, COV4, B4, BL4, X4⟩ := hrel
            have hz4 := BL4.out.size
            have hx4 := HX.out wr BL4.out
            obtain ⟨⟨x0, x1, x2⟩, rw0, -⟩ := hx4
            obtain ⟨y0, y1⟩ := B4.out
            by_cases hlt4 : j < 63
            · have hbjn : bg + j < v.n := by omega
              obtain ⟨x, hx, hfx⟩ := word_at hv (k := bg + j) hbjn
              have hbg := HBG.out
              rw [show (bg + j) / 64 = k by omega] at hx
              rw [show (bg + j) % 64 = j by omega] at hfx
              obtain ⟨xb, xo, hxa, hxc⟩ := rw0 _ _ (wv8_get hx)
              rw [hxa] at x0
              have hwl : k < v.ws.length := (List.getElem?_eq_some_iff.1 hx).1
              have hCN := HCN.out
              obtain ⟨l2, hl2⟩ := cn_get COV4.out.1 (show k < v.n / 2 ^ sh 1 + 1 by simp [sh]; omega)
              obtain ⟨m2, hm2⟩ := cn_get COV4.out.2.1 (show k < v.n / 2 ^ sh 1 + 1 by simp [sh]; omega)
              have hlo1 : lo 1 k = bg := by unfold lo; simp [sh]; omega
              have hhi1 : hi_ v.n 1 k = min (v.n + 1) (bg + 64) := by rw [hi_eq, hlo1]; simp [sh]
              have hm2b : m2 ≤ v.n + 1 := by
                have h5 := (COV4.out.2.2 k l2 m2 hl2 hm2).1 (by omega)
                have h6 := h5.2.1
                have h7 := cnt_len (ex v.f) l2 (List.range' (lo 1 k) (min (hi_ v.n 1 k) (bg + j + 1) - lo 1 k))
                rw [← h6, List.length_range'] at h7
                omega
              have hE : ex v.f (bg + j + 1) = ex v.f (bg + j) + (2 * ((v.f (bg + j)).toNat : Int) - 1) := by rw [ex_succ]; cases v.f (bg + j) <;> simp
              have hex := ex_bd v.f (bg + j)
              have hex2 := ex_bd v.f (bg + j + 1)
              have hbv : bits .and .u64 (val x / 2 ^ j) 1 = ((v.f (bg + j)).toNat : Int) := by
                have h8 := bit_is x j
                have h9 : bits .and .u64 (val x / 2 ^ j) 1 = (val x / 2 ^ j) % 2 := by rw [u_shr, and_one]
                rw [hfx]
                unfold bitAt at h8
                rw [h9] at h8 ⊢
                cases hb2 : x.getLsbD j with
                | true => rw [hb2] at h8; simpa using h8
                | false => rw [hb2] at h8; simp at h8 ⊢; omega
              have COV5 : Hid (Cov (ex v.f) v.n 1 (ls2.set k (adP l2 m2 (ex v.f (bg + j + 1)) 1).1) (ms2.set k (adP l2 m2 (ex v.f (bg + j + 1)) 1).2) (bg + (j + 1) + 1)) := Lib.hid (COV4.out.step hl2 hm2 (by omega) (by omega) (by omega) (by rw [show bg + (j + 1) + 1 - (bg + j + 1) = 1 by omega]; exact agg_one _ _))
              have HADD2 := Lib.hid (add_any w1.heap.size g1 g2 C k 1 m2 (ex v.f (bg + j + 1)) l2 ls2 ms2 wr R4.out hlt hl2 hm2 (by omega) (by omega))
              obtain ⟨c, hc⟩ : ∃ c, (v.f (bg + j)).toNat = c := ⟨_, rfl⟩
              have hc1 : c ≤ 1 := by rw [← hc]; cases v.f (bg + j) <;> simp
              rw [hc] at hE hbv
              generalize ex v.f (bg + j) = e4 at *
              obtain ⟨e5, he5⟩ : ∃ e5, ex v.f (bg + j + 1) = e5 := ⟨_, rfl⟩
              rw [he5] at hE COV5 HADD2 hex2
              have HE5 := Lib.hid he5
              have hs5 : e4 + (2 * (c : Int) - 1) = e5 := hE.symm
              clear he5 hE hc hfx hx hxa hl2 hm2 hlo1 hhi1 hbg hCN
              go_wp2_with fail
              refine HADD2.out.mono ?_
              rintro r5 w5 ⟨rfl, hR5, hT5⟩
              have hsz := HSZ.out
              have hb1 := hR5.b1
              have hb2 := hR5.b2
              have R5 := Lib.hid hR5
              have B5 := Lib.hid (B4.out.tw hT5 hq1 hq2)
              have X5 := Lib.hid (X4.out.tw hT5 (by omega) (by omega))
              have BL5 := Lib.hid (BL4.out.trans (hT5.below w.heap.size (by omega) (by omega) hz4))
              clear hR5 hT5 HADD2 hbv hs5 hxc y0 y1 x0 x1 x2 hsz hb1 hb2 R4 B4 X4 BL4
              go_wp2
              go_roundw
              case rel => exact ⟨j + 1, _, _, by omega, by first | (congr 1; omega) | congr 1, by rw [show bg + (j + 1) = bg + j + 1 from rfl, HE5.out], R5, COV5, B5, BL5, X5⟩
              case measure => simp [intOf]; omega
            · have COV6 : Hid (Cov (ex v.f) v.n 1 ls2 ms2 (min (v.n + 1) (64 * (k + 1)))) := Lib.hid (by have h := COV4.out; have hbg := HBG.out; rw [show bg + j + 1 = min (v.n + 1) (64 * (k + 1)) by omega] at h; exact h)
              clear rw0
              go_wp2
              go_roundw
              case rel => exact ⟨k + 1, ls2, ms2, by omega, by go_num, R4, COV6, B4, BL4, X4⟩
              case measure => simp [intOf]; omega
        · have hleI : (bg : Int) + 63 > v.n := by omega
          go_wp2_with fail
          go_loopw [7, 8] (fun s7 s8 wq => ∃ (j : Nat) (ls : List Int) (ms : List Nat), j ≤ (v.n - bg) ∧ s8 = .int .i64 ((bg : Int) + j) ∧ s7 = .int .i64 (ex v.f (bg + j)) ∧ Hid (RW wq w1.heap.size g1 g2 C ls ms) ∧ Hid (Cov (ex v.f) v.n 1 ls ms (bg + j + 1)) ∧ Hid (LB wq q g1 g2 C) ∧ Hid (Below w.heap.size w wq) ∧ Hid (RBx wq w.heap.size)) (fun _ s8 _ => (bg + (v.n - bg)) - (intOf s8).toNat)
          case atStart => exact ⟨0, _, _, by omega, by simp, by rw [Nat.add_zero, HEE.out], R3, COV2, B3, BL3, X3⟩
          case round =>
            obtain ⟨j, ls2, ms2, hj, rfl, rfl, R4, COV4, B4, BL4, X4⟩ := hrel
            have hz4 := BL4.out.size
            have hx4 := HX.out wr BL4.out
            obtain ⟨⟨x0, x1, x2⟩, rw0, -⟩ := hx4
            obtain ⟨y0, y1⟩ := B4.out
            by_cases hlt4 : j < (v.n - bg)
            · have hbjn : bg + j < v.n := by omega
              obtain ⟨x, hx, hfx⟩ := word_at hv (k := bg + j) hbjn
              have hbg := HBG.out
              rw [show (bg + j) / 64 = k by omega] at hx
              rw [show (bg + j) % 64 = j by omega] at hfx
              obtain ⟨xb, xo, hxa, hxc⟩ := rw0 _ _ (wv8_get hx)
              rw [hxa] at x0
              have hwl : k < v.ws.length := (List.getElem?_eq_some_iff.1 hx).1
              have hCN := HCN.out
              obtain ⟨l2, hl2⟩ := cn_get COV4.out.1 (show k < v.n / 2 ^ sh 1 + 1 by simp [sh]; omega)
              obtain ⟨m2, hm2⟩ := cn_get COV4.out.2.1 (show k < v.n / 2 ^ sh 1 + 1 by simp [sh]; omega)
              have hlo1 : lo 1 k = bg := by unfold lo; simp [sh]; omega
              have hhi1 : hi_ v.n 1 k = min (v.n + 1) (bg + 64) := by rw [hi_eq, hlo1]; simp [sh]
              have hm2b : m2 ≤ v.n + 1 := by
                have h5 := (COV4.out.2.2 k l2 m2 hl2 hm2).1 (by omega)
                have h6 := h5.2.1
                have h7 := cnt_len (ex v.f) l2 (List.range' (lo 1 k) (min (hi_ v.n 1 k) (bg + j + 1) - lo 1 k))
                rw [← h6, List.length_range'] at h7
                omega
              have hE : ex v.f (bg + j + 1) = ex v.f (bg + j) + (2 * ((v.f (bg + j)).toNat : Int) - 1) := by rw [ex_succ]; cases v.f (bg + j) <;> simp
              have hex := ex_bd v.f (bg + j)
              have hex2 := ex_bd v.f (bg + j + 1)
              have hbv : bits .and .u64 (val x / 2 ^ j) 1 = ((v.f (bg + j)).toNat : Int) := by
                have h8 := bit_is x j
                have h9 : bits .and .u64 (val x / 2 ^ j) 1 = (val x / 2 ^ j) % 2 := by rw [u_shr, and_one]
                rw [hfx]
                unfold bitAt at h8
                rw [h9] at h8 ⊢
                cases hb2 : x.getLsbD j with
                | true => rw [hb2] at h8; simpa using h8
                | false => rw [hb2] at h8; simp at h8 ⊢; omega
              have COV5 : Hid (Cov (ex v.f) v.n 1 (ls2.set k (adP l2 m2 (ex v.f (bg + j + 1)) 1).1) (ms2.set k (adP l2 m2 (ex v.f (bg + j + 1)) 1).2) (bg + (j + 1) + 1)) := Lib.hid (COV4.out.step hl2 hm2 (by omega) (by omega) (by omega) (by rw [show bg + (j + 1) + 1 - (bg + j + 1) = 1 by omega]; exact agg_one _ _))
              have HADD2 := Lib.hid (add_any w1.heap.size g1 g2 C k 1 m2 (ex v.f (bg + j + 1)) l2 ls2 ms2 wr R4.out hlt hl2 hm2 (by omega) (by omega))
              obtain ⟨c, hc⟩ : ∃ c, (v.f (bg + j)).toNat = c := ⟨_, rfl⟩
              have hc1 : c ≤ 1 := by rw [← hc]; cases v.f (bg + j) <;> simp
              rw [hc] at hE hbv
              generalize ex v.f (bg + j) = e4 at *
              obtain ⟨e5, he5⟩ : ∃ e5, ex v.f (bg + j + 1) = e5 := ⟨_, rfl⟩
              rw [he5] at hE COV5 HADD2 hex2
              have HE5 := Lib.hid he5
              have hs5 : e4 + (2 * (c : Int) - 1) = e5 := hE.symm
              clear he5 hE hc hfx hx hxa hl2 hm2 hlo1 hhi1 hbg hCN
              go_wp2_with fail
              refine HADD2.out.mono ?_
              rintro r5 w5 ⟨rfl, hR5, hT5⟩
              have hsz := HSZ.out
              have hb1 := hR5.b1
              have hb2 := hR5.b2
              have R5 := Lib.hid hR5
              have B5 := Lib.hid (B4.out.tw hT5 hq1 hq2)
              have X5 := Lib.hid (X4.out.tw hT5 (by omega) (by omega))
              have BL5 := Lib.hid (BL4.out.trans (hT5.below w.heap.size (by omega) (by omega) hz4))
              clear hR5 hT5 HADD2 hbv hs5 hxc y0 y1 x0 x1 x2 hsz hb1 hb2 R4 B4 X4 BL4
              go_wp2
              go_roundw
              case rel => exact ⟨j + 1, _, _, by omega, by first | (congr 1; omega) | congr 1, by rw [show bg + (j + 1) = bg + j + 1 from rfl, HE5.out], R5, COV5, B5, BL5, X5⟩
              case measure => simp [intOf]; omega
            · have COV6 : Hid (Cov (ex v.f) v.n 1 ls2 ms2 (min (v.n + 1) (64 * (k + 1)))) := Lib.hid (by have h := COV4.out; have hbg := HBG.out; rw [show bg + j + 1 = min (v.n + 1) (64 * (k + 1)) by omega] at h; exact h)
              clear rw0
              go_wp2
              go_roundw
              case rel => exact ⟨k + 1, ls2, ms2, by omega, by go_num, R4, COV6, B4, BL4, X4⟩
              case measure => simp [intOf]; omega
      · obtain rfl : k = C := by omega
        have COVE : Hid (Cov (ex v.f) v.n 1 ls ms (v.n + 1)) := Lib.hid (by have h := COV.out; have hc := HCN.out; rw [show min (v.n + 1) (64 * k) = v.n + 1 by omega] at h; exact h)
        obtain ⟨y0, y1⟩ := B1.out
        obtain ⟨⟨u0, u1, z0, z1⟩, zf⟩ := X1.out
        have zf0 := zf 0
        have zf1 := zf 1
        go_wp2
        have hsz := HSZ.out
        have f0 : ((wr.setCell ⟨w.heap.size, 0, none⟩ (.slice (some ⟨g1, 0, none⟩) k k)).setCell ⟨w.heap.size, 1, none⟩ (.slice (some ⟨g2, 0, none⟩) k k)).cell? ⟨w.heap.size, 0, none⟩ = some (.slice (some ⟨g1, 0, none⟩) k k) := by simp [World.cell?_setCell_other, World.cell?_setCell_same, z0]
        have f1 : ((wr.setCell ⟨w.heap.size, 0, none⟩ (.slice (some ⟨g1, 0, none⟩) k k)).setCell ⟨w.heap.size, 1, none⟩ (.slice (some ⟨g2, 0, none⟩) k k)).cell? ⟨w.heap.size, 1, none⟩ = some (.slice (some ⟨g2, 0, none⟩) k k) := by simp [World.cell?_setCell_other, World.cell?_setCell_same, z1]
        refine bodyPost_ret (v := .agg #[.slice (some ⟨g1, 0, none⟩) k k, .slice (some ⟨g2, 0, none⟩) k k]) (by simp [results, Tryd.results47, go_sem, f0, f1]) rfl ?_
        have hb1 := R1.out.b1
        have hb2 := R1.out.b2
        have hne := R1.out.ne
        refine ⟨g1, g2, ls, ms, by rw [HCE.out], ?_, COVE.out, ((BL1.out.setCell (Nat.le_refl _) _).setCell (Nat.le_refl _) _)⟩
        rw [HCE.out]
        have o1 := (R1.out.r1.oth (Oth.setCell wr w.heap.size 0 (.slice (some ⟨g1, 0, none⟩) k k)) (fun g e1 e2 => by simp at e1 e2; omega)).oth (Oth.setCell _ w.heap.size 1 (.slice (some ⟨g2, 0, none⟩) k k)) (fun g e1 e2 => by simp at e1 e2; omega)
        have o2 := (R1.out.r2.oth (Oth.setCell wr w.heap.size 0 (.slice (some ⟨g1, 0, none⟩) k k)) (fun g e1 e2 => by simp at e1 e2; omega)).oth (Oth.setCell _ w.heap.size 1 (.slice (some ⟨g2, 0, none⟩) k k)) (fun g e1 e2 => by simp at e1 e2; omega)
        exact ⟨o1.mono (by omega), o2.mono (by omega), hne, by omega, by omega⟩
end Go.Proofs.YtelagemniheeoaaDoor
