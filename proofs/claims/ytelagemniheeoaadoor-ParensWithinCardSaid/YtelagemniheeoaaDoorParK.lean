/- parens: two rows of a level; add walked. -/
import Derived.Test.YtelagemniheeoaaDoorParD
import Derived.Test.YtelagemniheeoaaDoorParMathC
import Derived.BigRegion
namespace Go.Proofs.YtelagemniheeoaaDoor
open Go.RowKit BM

/-- two rows of ints of the call's own -/
structure RW (w : World) (B g1 g2 C : Nat) (ls : List Int) (ms : List Nat) : Prop where
  r1 : OwnV w B 3 1 (some ⟨g1, 0, none⟩) C C (iv8 ls)
  r2 : OwnV w B 3 1 (some ⟨g2, 0, none⟩) C C (nv8 ms)
  ne : g1 ≠ g2
  b1 : B ≤ g1
  b2 : B ≤ g2
/-- all blocks but two stay -/
structure Tw (g1 g2 : Nat) (w w' : World) : Prop where
  below : ∀ B, B ≤ g1 → B ≤ g2 → B ≤ w.heap.size → Below B w w'
  size : w.heap.size ≤ w'.heap.size
  block : ∀ j, j < w.heap.size → j ≠ g1 → j ≠ g2 → w'.heap[j]? = w.heap[j]?
theorem Tw.refl (g1 g2 : Nat) (w : World) : Tw g1 g2 w w := ⟨fun B _ _ _ => Below.refl B w, Nat.le_refl _, fun _ _ _ _ => rfl⟩
theorem Tw.trans {g1 g2 : Nat} {w w1 w2 : World} (h : Tw g1 g2 w w1) (h2 : Tw g1 g2 w1 w2) : Tw g1 g2 w w2 :=
  ⟨fun B h3 h4 h5 => (h.below B h3 h4 h5).trans (h2.below B h3 h4 (Nat.le_trans h5 h.size)), Nat.le_trans h.size h2.size, fun j hj a b => (h2.block j (Nat.lt_of_lt_of_le hj h.size) a b).trans (h.block j hj a b)⟩
theorem Tw.of {g1 g2 : Nat} {w w' : World} (h : Below w.heap.size w w') : Tw g1 g2 w w' := ⟨fun _ _ _ h3 => h.mono h3, h.size, fun j hj _ _ => h.block j hj⟩
theorem Tw.dN {g1 g2 : Nat} {w w' : World} (h : Tw g1 g2 w w') (n : Nat) : Tw g1 g2 w (w'.drewN n) := ⟨fun B a b c => bdN (h.below B a b c) n, h.size, h.block⟩
theorem Tw.drew {g1 g2 : Nat} {w w' : World} (h : Tw g1 g2 w w') : Tw g1 g2 w w'.drew := ⟨fun B a b c => (h.below B a b c).drew, h.size, h.block⟩
theorem Tw.set1 {g1 g2 : Nat} {w w' : World} (h : Tw g1 g2 w w') (j : Nat) (u : Value) : Tw g1 g2 w (w'.setCell ⟨g1, j, none⟩ u) :=
  ⟨fun B a b c => (h.below B a b c).setCell a u, by simpa using h.size, fun i hi a b => (heap_setCell_other w' ⟨g1, j, none⟩ i u a).trans (h.block i hi a b)⟩
theorem Tw.set2 {g1 g2 : Nat} {w w' : World} (h : Tw g1 g2 w w') (j : Nat) (u : Value) : Tw g1 g2 w (w'.setCell ⟨g2, j, none⟩ u) :=
  ⟨fun B a b c => (h.below B a b c).setCell b u, by simpa using h.size, fun i hi a b => (heap_setCell_other w' ⟨g2, j, none⟩ i u b).trans (h.block i hi a b)⟩
theorem Tw.cell {g1 g2 : Nat} {w w' : World} (h : Tw g1 g2 w w') {p : Addr} (hp : p.block < w.heap.size) (a : p.block ≠ g1) (b : p.block ≠ g2) : w'.cell? p = w.cell? p := by
  have := h.block p.block hp a b
  simp [World.cell?, this]
theorem Tw.frozen {g1 g2 : Nat} {w w' : World} (h : Tw g1 g2 w w') {p : Addr} (hp : p.block < w.heap.size) (a : p.block ≠ g1) (b : p.block ≠ g2) : w'.frozen? p = w.frozen? p := by
  have := h.block p.block hp a b
  simp [World.frozen?, this]
theorem OwnV.lt {w : World} {B : Nat} {e : TypeId} {size g n cap : Nat} {xs : List Value} (h : OwnV w B e size (some ⟨g, 0, none⟩) n cap xs) : g < w.heap.size := by
  rcases h.shape with ⟨h, _⟩ | ⟨g', cur, h, _, hg, _⟩
  · cases h
  · simp only [Option.some.injEq, Addr.mk.injEq, and_true] at h
    subst h
    exact (Array.getElem?_eq_some_iff.1 hg).1
theorem RW.below {w w' : World} {B g1 g2 C : Nat} {ls : List Int} {ms : List Nat} (h : RW w B g1 g2 C ls ms) (hb : Below w.heap.size w w') : RW w' B g1 g2 C ls ms := ⟨h.r1.below hb, h.r2.below hb, h.ne, h.b1, h.b2⟩
theorem RW.dN {w : World} {B g1 g2 C : Nat} {ls : List Int} {ms : List Nat} (h : RW w B g1 g2 C ls ms) (n : Nat) : RW (w.drewN n) B g1 g2 C ls ms := ⟨h.r1, h.r2, h.ne, h.b1, h.b2⟩
theorem RW.drew {w : World} {B g1 g2 C : Nat} {ls : List Int} {ms : List Nat} (h : RW w B g1 g2 C ls ms) : RW w.drew B g1 g2 C ls ms := ⟨h.r1, h.r2, h.ne, h.b1, h.b2⟩
theorem iv8_set (l : List Int) (j : Nat) (x : Int) : iv8 (l.set j x) = (iv8 l).set j (.int .i64 x) := by simp [iv8, List.map_set]
theorem nv8_set (l : List Nat) (j x : Nat) : nv8 (l.set j x) = (nv8 l).set j (.int .i64 (x : Int)) := by simp [nv8, List.map_set]
theorem RW.set1 {w : World} {B g1 g2 C : Nat} {ls : List Int} {ms : List Nat} (h : RW w B g1 g2 C ls ms) (j : Nat) (x : Int) : RW (w.setCell ⟨g1, j, none⟩ (.int .i64 x)) B g1 g2 C (ls.set j x) ms :=
  ⟨by rw [iv8_set]; exact h.r1.set j _, h.r2.oth (Oth.setCell w g1 j _) (fun g e1 e2 => h.ne (by simp at e1 e2; omega)), h.ne, h.b1, h.b2⟩
theorem RW.set2 {w : World} {B g1 g2 C : Nat} {ls : List Int} {ms : List Nat} (h : RW w B g1 g2 C ls ms) (j x : Nat) : RW (w.setCell ⟨g2, j, none⟩ (.int .i64 (x : Int))) B g1 g2 C ls (ms.set j x) :=
  ⟨h.r1.oth (Oth.setCell w g2 j _) (fun g e1 e2 => h.ne (by simp at e1 e2; omega)), by rw [nv8_set]; exact h.r2.set j _, h.ne, h.b1, h.b2⟩
theorem RW.c1 {w : World} {B g1 g2 C : Nat} {ls : List Int} {ms : List Nat} (h : RW w B g1 g2 C ls ms) {j : Nat} {l : Int} (hl : ls[j]? = some l) : w.cell? ⟨g1, j, none⟩ = some (.int .i64 l) := h.r1.cellAt (iv8_get hl)
theorem RW.c2 {w : World} {B g1 g2 C : Nat} {ls : List Int} {ms : List Nat} (h : RW w B g1 g2 C ls ms) {j m : Nat} (hl : ms[j]? = some m) : w.cell? ⟨g2, j, none⟩ = some (.int .i64 (m : Int)) := h.r2.cellAt (nv8_get hl)
def ResA (B g1 g2 C : Nat) (ls : List Int) (ms : List Nat) (w : World) (r : Ending) (w' : World) : Prop := r = .returned (.tuple #[]) ∧ RW w' B g1 g2 C ls ms ∧ Tw g1 g2 w w'
set_option maxHeartbeats 2000000 in
theorem add_any (B g1 g2 C i k m : Nat) (x l : Int) (ls : List Int) (ms : List Nat) (w : World) (hR : RW w B g1 g2 C ls ms) (hi : i < C) (hl : ls[i]? = some l) (hm : ms[i]? = some m) (hC : C ≤ 1125899906842625) (hmk : m + k ≤ 9223372036854775807) :
    Calls Tryd.prog 54 #[.agg #[.slice (some ⟨g1, 0, none⟩) C C, .slice (some ⟨g2, 0, none⟩) C C], .int .i64 i, .int .i64 x, .int .i64 k] w (ResA B g1 g2 C (ls.set i (adP l m x k).1) (ms.set i (adP l m x k).2) w) := by
  have b1 := (Below.refl w.heap.size w).alloc (Nat.le_refl _) (.cells #[.slice (some ⟨g1, 0, none⟩) C C, .slice (some ⟨g2, 0, none⟩) C C] 55)
  have R1 := hR.below b1
  have T1 : Tw g1 g2 w (w.alloc (.cells #[.slice (some ⟨g1, 0, none⟩) C C, .slice (some ⟨g2, 0, none⟩) C C] 55)) := Tw.of b1
  have k0 : (w.alloc (.cells #[.slice (some ⟨g1, 0, none⟩) C C, .slice (some ⟨g2, 0, none⟩) C C] 55)).cell? ⟨w.heap.size, 0, none⟩ = some (.slice (some ⟨g1, 0, none⟩) C C) := by simp
  have k1 : (w.alloc (.cells #[.slice (some ⟨g1, 0, none⟩) C C, .slice (some ⟨g2, 0, none⟩) C C] 55)).cell? ⟨w.heap.size, 1, none⟩ = some (.slice (some ⟨g2, 0, none⟩) C C) := by simp
  have hne : ¬ g1 = g2 := hR.ne
  have hne2 : ¬ g2 = g1 := fun e => hR.ne e.symm
  have hq1 : ¬ w.heap.size = g1 := by have := hR.r1.lt; omega
  have hq2 : ¬ w.heap.size = g2 := by have := hR.r2.lt; omega
  have hL := set_same hl
  have HL := Lib.hid hL
  clear hR b1 hL
  unfold ResA
  by_cases h1 : m = 0 ∨ x < l
  · rw [show adP l m x k = (x, k) by unfold adP; rw [if_pos h1]]
    have c1 := R1.c1 hl
    have c2 := R1.c2 hm
    have f1 := R1.r1.frozen i
    have f2 := R1.r2.frozen i
    have HR1 := Lib.hid R1; have HT1 := Lib.hid T1
    clear R1 T1 hl hm
    by_cases h0 : m = 0
    · have hz : ((m : Int) == 0) = true := by simp [h0]
      clear h1 h0
      go_enter Tryd.func54, Tryd.ntmps54
      go_wp2_with fail
      generalize w.alloc (.cells #[.slice (some ⟨g1, 0, none⟩) C C, .slice (some ⟨g2, 0, none⟩) C C] 55) = w1 at *
      go_region
      go_wp2
      refine bodyPost_end (v := .tuple #[]) (by simp [results, Tryd.results54, go_sem]) rfl ?_
      exact ⟨rfl, ((HR1.out.set1 i x).set2 i k).drew, ((HT1.out.set1 i _).set2 i _).drew⟩
    · have hz : ((m : Int) == 0) = false := by simp [h0]
      have hxl : x < l := by omega
      clear h1 h0
      go_enter Tryd.func54, Tryd.ntmps54
      go_wp2_with fail
      generalize w.alloc (.cells #[.slice (some ⟨g1, 0, none⟩) C C, .slice (some ⟨g2, 0, none⟩) C C] 55) = w1 at *
      go_region
      go_wp2
      refine bodyPost_end (v := .tuple #[]) (by simp [results, Tryd.results54, go_sem]) rfl ?_
      exact ⟨rfl, ((HR1.out.set1 i x).set2 i k).drew, ((HT1.out.set1 i _).set2 i _).drew⟩
  · have hm0 : m ≠ 0 := by omega
    have hxl : ¬ x < l := by omega
    have hz : ((m : Int) == 0) = false := by simp [hm0]
    by_cases he : x = l
    · rw [show adP l m x k = (l, m + k) by unfold adP; rw [if_neg h1, if_pos he], HL.out]
      subst he
      have hxx : (x == x) = true := by simp
      have c1 := R1.c1 hl
      have c2 := R1.c2 hm
      have f1 := R1.r1.frozen i
      have f2 := R1.r2.frozen i
      have HR1 := Lib.hid R1; have HT1 := Lib.hid T1
      clear R1 T1 hl hm
      have s1 : IntKind.i64.wrap ((m : Int) + k) = ((m + k : Nat) : Int) := IntWalk.i64_in _ (by omega)
      clear h1 hm0
      go_enter Tryd.func54, Tryd.ntmps54
      go_wp2_with fail
      generalize w.alloc (.cells #[.slice (some ⟨g1, 0, none⟩) C C, .slice (some ⟨g2, 0, none⟩) C C] 55) = w1 at *
      go_wp2
      refine bodyPost_end (v := .tuple #[]) (by simp [results, Tryd.results54, go_sem]) rfl ?_
      refine ⟨rfl, ?_, HT1.out.set2 i _⟩
      have := HR1.out.set2 i (m + k)
      simpa using this
    · rw [show adP l m x k = (l, m) by unfold adP; rw [if_neg h1, if_neg he], HL.out, set_same hm]
      have hxx : (x == l) = false := by simpa using he
      have c1 := R1.c1 hl
      have c2 := R1.c2 hm
      have f1 := R1.r1.frozen i
      have f2 := R1.r2.frozen i
      have HR1 := Lib.hid R1; have HT1 := Lib.hid T1
      clear R1 T1 hl hm
      clear h1 hm0 he
      go_enter Tryd.func54, Tryd.ntmps54
      go_wp2_with fail
      generalize w.alloc (.cells #[.slice (some ⟨g1, 0, none⟩) C C, .slice (some ⟨g2, 0, none⟩) C C] 55) = w1 at *
      go_wp2
      refine bodyPost_end (v := .tuple #[]) (by simp [results, Tryd.results54, go_sem]) rfl ?_
      exact ⟨rfl, HR1.out, HT1.out⟩
end Go.Proofs.YtelagemniheeoaaDoor
