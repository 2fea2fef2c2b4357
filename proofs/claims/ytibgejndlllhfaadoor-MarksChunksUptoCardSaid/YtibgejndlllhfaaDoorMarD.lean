/- marks: the maker's box; scan walked. -/
import Derived.Test.YtibgejndlllhfaaDoorMarC
namespace Go.Proofs.YtibgejndlllhfaaDoor
open Go.RowKit BM

theorem MS.v_eq (x : MS) : x.v = .agg #[.int .u64 (val x.q), .int .u64 (val x.n), .int .u64 (val x.o), .int .u64 (val x.c), .int .u64 (val x.k), .int .u64 (val x.m), .int .u64 (val x.s)] := rfl
def mcs (xs : List MS) : List Value := xs.flatMap MS.cells
theorem mcs_snoc (xs : List MS) (x : MS) : mcs (xs ++ [x]) = mcs xs ++ x.cells := by simp [mcs]
theorem mcs_length : ∀ (xs : List MS), (mcs xs).length = xs.length * 7
  | [] => rfl
  | x :: xs => by
    have := mcs_length xs
    have e : mcs (x :: xs) = x.cells ++ mcs xs := by simp [mcs]
    rw [e, List.length_append, this]; simp [MS.cells]; omega
/-- the maker's box: what it has made, what it carries, the bytes that it holds -/
structure MkB (w : World) (b : Nat) (a : Option Addr) (n c : Nat) (len : Int) (o i : Bool) (l : List Nat) : Prop where
  ty : ∃ arr, w.heap[b]? = some (.cells arr 56 (0, 0)) ∧ arr.size = 69
  c0 : w.cell? ⟨b, 0, none⟩ = some (.slice a n c)
  c1 : w.cell? ⟨b, 1, none⟩ = some (.int .i64 len)
  c2 : w.cell? ⟨b, 2, none⟩ = some (.bool o)
  c3 : w.cell? ⟨b, 3, none⟩ = some (.bool i)
  cw : ∀ j, j < l.length → w.cell? ⟨b, 4 + j, none⟩ = some (.int .u8 ((l[j]?.getD 0 : Nat) : Int))
  ch : w.cell? ⟨b, 68, none⟩ = some (.int .i64 l.length)
theorem MkB.fz {w : World} {b : Nat} {a : Option Addr} {n c : Nat} {len : Int} {o i : Bool} {l : List Nat} (h : MkB w b a n c len o i l) (j : Nat) : w.frozen? ⟨b, j, none⟩ = false := by
  obtain ⟨arr, hb, _⟩ := h.ty
  simp [World.frozen?, hb]
theorem MkB.some {w : World} {b : Nat} {a : Option Addr} {n c : Nat} {len : Int} {o i : Bool} {l : List Nat} (h : MkB w b a n c len o i l) {j : Nat} (hj : j < 69) : ∃ v, w.cell? ⟨b, j, none⟩ = some v := by
  obtain ⟨arr, hb, hs⟩ := h.ty
  exact ⟨arr[j]'(by omega), by simp [World.cell?, hb, show j < arr.size by omega]⟩
theorem MkB.lt {w : World} {b : Nat} {a : Option Addr} {n c : Nat} {len : Int} {o i : Bool} {l : List Nat} (h : MkB w b a n c len o i l) : b < w.heap.size := lt_of_cell h.c0
theorem MkB.block {w w' : World} {b : Nat} {a : Option Addr} {n c : Nat} {len : Int} {o i : Bool} {l : List Nat} (h : MkB w b a n c len o i l) (hb : w'.heap[b]? = w.heap[b]?) : MkB w' b a n c len o i l :=
  ⟨by rw [hb]; exact h.ty, by rw [cellOfBlock hb]; exact h.c0, by rw [cellOfBlock hb]; exact h.c1, by rw [cellOfBlock hb]; exact h.c2, by rw [cellOfBlock hb]; exact h.c3, fun j hj => by rw [cellOfBlock hb]; exact h.cw j hj, by rw [cellOfBlock hb]; exact h.ch⟩
theorem MkB.below {w w' : World} {b : Nat} {a : Option Addr} {n c : Nat} {len : Int} {o i : Bool} {l : List Nat} (h : MkB w b a n c len o i l) (hb : Below w.heap.size w w') : MkB w' b a n c len o i l := h.block (hb.block b h.lt)
theorem MkB.oth {w w' : World} {b : Nat} {a : Option Addr} {n c : Nat} {len : Int} {o i : Bool} {l : List Nat} (h : MkB w b a n c len o i l) {g : Option Addr} (ho : Oth w w' g) (hg : g ≠ Option.some ⟨b, 0, none⟩) : MkB w' b a n c len o i l := h.block (ho.2 b h.lt hg)
theorem MkB.rd {w : World} {b : Nat} {a : Option Addr} {n c : Nat} {len : Int} {o i : Bool} {l : List Nat} (h : MkB w b a n c len o i l) : Rd w .u8 (Option.some ⟨b, 4, none⟩) l := Rd.mk fun j hj => h.cw j hj
theorem MkB.apart {w : World} {b : Nat} {a : Option Addr} {n c : Nat} {len : Int} {o i : Bool} {l : List Nat} (h : MkB w b a n c len o i l) {B : Nat} {e : TypeId} {size : Nat} {g : Option Addr} {m k : Nat} {xs : List Value} (ho : OwnV w B e size g m k xs) (hne : 56 ≠ e) : g ≠ Option.some ⟨b, 0, none⟩ := by
  obtain ⟨arr, hb, _⟩ := h.ty
  exact ho.apart hb hne
/-- a store into the box, of a cell that is none of the bytes held -/
theorem MkB.ty_set {w : World} {b : Nat} (h : ∃ arr, w.heap[b]? = Option.some (.cells arr 56 (0, 0)) ∧ arr.size = 69) (j : Nat) (v : Value) : ∃ arr, (w.setCell ⟨b, j, none⟩ v).heap[b]? = Option.some (.cells arr 56 (0, 0)) ∧ arr.size = 69 := by
  obtain ⟨arr, hb, hs⟩ := h
  exact ⟨_, heap_setCell_same w b j arr _ v hb, by simpa using hs⟩
theorem infoMs : (Tryd.prog.info? 49).map (fun i => (i.zero, i.size, i.bytes)) = some (some (.agg #[.int .u64 0, .int .u64 0, .int .u64 0, .int .u64 0, .int .u64 0, .int .u64 0, .int .u64 0]), 7, 56) := by kernel_rfl
theorem seven {W : World} {b : Nat} {v0 v1 v2 v3 v4 v5 v6 : Value} (h0 : W.cell? ⟨b, 0, none⟩ = some v0) (h1 : W.cell? ⟨b, 1, none⟩ = some v1) (h2 : W.cell? ⟨b, 2, none⟩ = some v2) (h3 : W.cell? ⟨b, 3, none⟩ = some v3) (h4 : W.cell? ⟨b, 4, none⟩ = some v4) (h5 : W.cell? ⟨b, 5, none⟩ = some v5) (h6 : W.cell? ⟨b, 6, none⟩ = some v6) : ∀ j, j < 7 → ∃ v, W.cell? ⟨b, j, none⟩ = some v := by
  intro j hj
  have : j = 0 ∨ j = 1 ∨ j = 2 ∨ j = 3 ∨ j = 4 ∨ j = 5 ∨ j = 6 := by omega
  rcases this with rfl | rfl | rfl | rfl | rfl | rfl | rfl
  · exact ⟨_, h0⟩
  · exact ⟨_, h1⟩
  · exact ⟨_, h2⟩
  · exact ⟨_, h3⟩
  · exact ⟨_, h4⟩
  · exact ⟨_, h5⟩
  · exact ⟨_, h6⟩
theorem two {W : World} {b : Nat} {v0 v1 : Value} (h0 : W.cell? ⟨b, 0, none⟩ = some v0) (h1 : W.cell? ⟨b, 1, none⟩ = some v1) : ∀ j, j < 2 → ∃ v, W.cell? ⟨b, j, none⟩ = some v := by
  intro j hj
  have : j = 0 ∨ j = 1 := by omega
  rcases this with rfl | rfl
  · exact ⟨_, h0⟩
  · exact ⟨_, h1⟩
theorem Mx.s7 {W : World} {b : Nat} (x : MS) (h : Hid (∀ j, j < 7 → ∃ v, W.cell? ⟨b, j, none⟩ = some v)) : Hid (Mx (((((((W.setCell ⟨b, 0, none⟩ (.int .u64 (val x.q))).setCell ⟨b, 1, none⟩ (.int .u64 (val x.n))).setCell ⟨b, 2, none⟩ (.int .u64 (val x.o))).setCell ⟨b, 3, none⟩ (.int .u64 (val x.c))).setCell ⟨b, 4, none⟩ (.int .u64 (val x.k))).setCell ⟨b, 5, none⟩ (.int .u64 (val x.m))).setCell ⟨b, 6, none⟩ (.int .u64 (val x.s))) b x.q x.n x.o x.c x.k x.m x.s) := by
  obtain ⟨v0, h0⟩ := h.out 0 (by omega); obtain ⟨v1, h1⟩ := h.out 1 (by omega); obtain ⟨v2, h2⟩ := h.out 2 (by omega); obtain ⟨v3, h3⟩ := h.out 3 (by omega); obtain ⟨v4, h4⟩ := h.out 4 (by omega); obtain ⟨v5, h5⟩ := h.out 5 (by omega); obtain ⟨v6, h6⟩ := h.out 6 (by omega)
  refine Lib.hid ⟨?_, ?_, ?_, ?_, ?_, ?_, ?_⟩ <;> simp [go_sem, h0, h1, h2, h3, h4, h5, h6]
theorem Mx.setO {W : World} {b : Nat} {q0 q1 q2 q3 q4 q5 q6 : BitVec 64} (h : Hid (Mx W b q0 q1 q2 q3 q4 q5 q6)) {p : Addr} (v : Value) (hp : b ≠ p.block) : Hid (Mx (W.setCell p v) b q0 q1 q2 q3 q4 q5 q6) := by
  obtain ⟨h0, h1, h2, h3, h4, h5, h6⟩ := h.out
  have e : ∀ j, (W.setCell p v).cell? ⟨b, j, none⟩ = W.cell? ⟨b, j, none⟩ := fun j => cellOfBlock (heap_setCell_other W p b v hp) j
  exact Lib.hid ⟨by rw [e, h0], by rw [e, h1], by rw [e, h2], by rw [e, h3], by rw [e, h4], by rw [e, h5], by rw [e, h6]⟩
theorem Cx.s2 {W : World} {b : Nat} (o2 i2 : Bool) (h : Hid (∀ j, j < 2 → ∃ v, W.cell? ⟨b, j, none⟩ = some v)) : Hid (Cx ((W.setCell ⟨b, 0, none⟩ (.bool o2)).setCell ⟨b, 1, none⟩ (.bool i2)) b o2 i2) := by
  obtain ⟨v0, h0⟩ := h.out 0 (by omega); obtain ⟨v1, h1⟩ := h.out 1 (by omega)
  refine Lib.hid ⟨?_, ?_⟩ <;> simp [go_sem, h0, h1]
theorem heap_s7 (W : World) (b : Nat) (x : MS) (k : Nat) (hk : k ≠ b) : (((((((W.setCell ⟨b, 0, none⟩ (.int .u64 (val x.q))).setCell ⟨b, 1, none⟩ (.int .u64 (val x.n))).setCell ⟨b, 2, none⟩ (.int .u64 (val x.o))).setCell ⟨b, 3, none⟩ (.int .u64 (val x.c))).setCell ⟨b, 4, none⟩ (.int .u64 (val x.k))).setCell ⟨b, 5, none⟩ (.int .u64 (val x.m))).setCell ⟨b, 6, none⟩ (.int .u64 (val x.s))).heap[k]? = W.heap[k]? := by
  rw [heap_setCell_other _ _ _ _ hk, heap_setCell_other _ _ _ _ hk, heap_setCell_other _ _ _ _ hk, heap_setCell_other _ _ _ _ hk, heap_setCell_other _ _ _ _ hk, heap_setCell_other _ _ _ _ hk, heap_setCell_other _ _ _ _ hk]
theorem bel_s7 {B : Nat} {a W : World} (h : Below B a W) {b : Nat} (x : MS) (hb : B ≤ b) : Below B a (((((((W.setCell ⟨b, 0, none⟩ (.int .u64 (val x.q))).setCell ⟨b, 1, none⟩ (.int .u64 (val x.n))).setCell ⟨b, 2, none⟩ (.int .u64 (val x.o))).setCell ⟨b, 3, none⟩ (.int .u64 (val x.c))).setCell ⟨b, 4, none⟩ (.int .u64 (val x.k))).setCell ⟨b, 5, none⟩ (.int .u64 (val x.m))).setCell ⟨b, 6, none⟩ (.int .u64 (val x.s))) := ((((((h.setCell hb _).setCell hb _).setCell hb _).setCell hb _).setCell hb _).setCell hb _).setCell hb _
theorem size_s7 (W : World) (b : Nat) (x : MS) : (((((((W.setCell ⟨b, 0, none⟩ (.int .u64 (val x.q))).setCell ⟨b, 1, none⟩ (.int .u64 (val x.n))).setCell ⟨b, 2, none⟩ (.int .u64 (val x.o))).setCell ⟨b, 3, none⟩ (.int .u64 (val x.c))).setCell ⟨b, 4, none⟩ (.int .u64 (val x.k))).setCell ⟨b, 5, none⟩ (.int .u64 (val x.m))).setCell ⟨b, 6, none⟩ (.int .u64 (val x.s))).heap.size = W.heap.size := by simp
/-- what the first statement of scan leaves -/
def MeetSc (w : World) (x : MS) (o2 i2 : Bool) (s2 s3 : Value) (wx : World) : Prop := ∃ mb cb, s2 = .pointer (some ⟨mb, 0, none⟩) ∧ s3 = .pointer (some ⟨cb, 0, none⟩) ∧ Hid (Mx wx mb x.q x.n x.o x.c x.k x.m x.s) ∧ Hid (Cx wx cb o2 i2) ∧ Hid (Below w.heap.size w wx) ∧ w.heap.size ≤ mb ∧ w.heap.size ≤ cb
theorem mt1 {w w1 : World} (x : MS) (o2 i2 : Bool) (t u : TypeId) (h : Below w.heap.size w w1) : MeetSc w x o2 i2 (.pointer (some ⟨w1.heap.size, 0, none⟩)) (.pointer (some ⟨w1.heap.size + 1, 0, none⟩)) ((w1.alloc (.cells #[.int .u64 (val x.q), .int .u64 (val x.n), .int .u64 (val x.o), .int .u64 (val x.c), .int .u64 (val x.k), .int .u64 (val x.m), .int .u64 (val x.s)] t)).alloc (.cells #[.bool o2, .bool i2] u)) :=
  ⟨_, _, rfl, rfl, Mx.below (Mx.mk w1 _ _ _ _ _ _ _ _ _) ((Below.refl _ _).alloc (Nat.le_refl _) _), by have := Cx.new (w1.alloc (.cells #[.int .u64 (val x.q), .int .u64 (val x.n), .int .u64 (val x.o), .int .u64 (val x.c), .int .u64 (val x.k), .int .u64 (val x.m), .int .u64 (val x.s)] t)) o2 i2 u; simpa using this, Lib.hid ((h.alloc h.size _).alloc (by have := h.size; simp; omega) _), h.size, by have := h.size; omega⟩
theorem mt2 {w w1 : World} (x : MS) (o2 i2 : Bool) (t u : TypeId) (h : Below w.heap.size w w1) : MeetSc w x o2 i2 (.pointer (some ⟨w1.heap.size + 1, 0, none⟩)) (.pointer (some ⟨w1.heap.size, 0, none⟩)) ((w1.alloc (.cells #[.bool o2, .bool i2] u)).alloc (.cells #[.int .u64 (val x.q), .int .u64 (val x.n), .int .u64 (val x.o), .int .u64 (val x.c), .int .u64 (val x.k), .int .u64 (val x.m), .int .u64 (val x.s)] t)) :=
  ⟨_, _, rfl, rfl, by have := Mx.mk (w1.alloc (.cells #[.bool o2, .bool i2] u)) x.q x.n x.o x.c x.k x.m x.s t (0, 0); simpa using this, Cx.below (Cx.new w1 o2 i2 u) ((Below.refl _ _).alloc (Nat.le_refl _) _), Lib.hid ((h.alloc h.size _).alloc (by have := h.size; simp; omega) _), by have := h.size; omega, h.size⟩
theorem mt3 {w w1 : World} (x : MS) (o2 i2 : Bool) (u : TypeId) {b : Nat} (h : Below w.heap.size w w1) (hb : w.heap.size ≤ b) (hz : Hid (∀ j, j < 7 → ∃ v, w1.cell? ⟨b, j, none⟩ = some v)) : MeetSc w x o2 i2 (.pointer (some ⟨b, 0, none⟩)) (.pointer (some ⟨w1.heap.size, 0, none⟩)) ((((((((w1.setCell ⟨b, 0, none⟩ (.int .u64 (val x.q))).setCell ⟨b, 1, none⟩ (.int .u64 (val x.n))).setCell ⟨b, 2, none⟩ (.int .u64 (val x.o))).setCell ⟨b, 3, none⟩ (.int .u64 (val x.c))).setCell ⟨b, 4, none⟩ (.int .u64 (val x.k))).setCell ⟨b, 5, none⟩ (.int .u64 (val x.m))).setCell ⟨b, 6, none⟩ (.int .u64 (val x.s))).alloc (.cells #[.bool o2, .bool i2] u)) :=
  ⟨_, _, rfl, rfl, Mx.below (Mx.s7 x hz) ((Below.refl _ _).alloc (Nat.le_refl _) _), by have := Cx.new (((((((w1.setCell ⟨b, 0, none⟩ (.int .u64 (val x.q))).setCell ⟨b, 1, none⟩ (.int .u64 (val x.n))).setCell ⟨b, 2, none⟩ (.int .u64 (val x.o))).setCell ⟨b, 3, none⟩ (.int .u64 (val x.c))).setCell ⟨b, 4, none⟩ (.int .u64 (val x.k))).setCell ⟨b, 5, none⟩ (.int .u64 (val x.m))).setCell ⟨b, 6, none⟩ (.int .u64 (val x.s))) o2 i2 u; rw [size_s7] at this; exact this, Lib.hid ((bel_s7 h x hb).alloc (by rw [size_s7]; exact h.size) _), hb, h.size⟩
theorem mt4 {w w1 : World} (x : MS) (o2 i2 : Bool) {b c : Nat} (h : Below w.heap.size w w1) (hb : w.heap.size ≤ b) (hc : w.heap.size ≤ c) (hbc : b ≠ c) (hz : Hid (∀ j, j < 7 → ∃ v, w1.cell? ⟨b, j, none⟩ = some v)) (hy : Hid (∀ j, j < 2 → ∃ v, w1.cell? ⟨c, j, none⟩ = some v)) : MeetSc w x o2 i2 (.pointer (some ⟨b, 0, none⟩)) (.pointer (some ⟨c, 0, none⟩)) (((((((((w1.setCell ⟨b, 0, none⟩ (.int .u64 (val x.q))).setCell ⟨b, 1, none⟩ (.int .u64 (val x.n))).setCell ⟨b, 2, none⟩ (.int .u64 (val x.o))).setCell ⟨b, 3, none⟩ (.int .u64 (val x.c))).setCell ⟨b, 4, none⟩ (.int .u64 (val x.k))).setCell ⟨b, 5, none⟩ (.int .u64 (val x.m))).setCell ⟨b, 6, none⟩ (.int .u64 (val x.s))).setCell ⟨c, 0, none⟩ (.bool o2)).setCell ⟨c, 1, none⟩ (.bool i2)) :=
  ⟨_, _, rfl, rfl, Mx.setO (Mx.setO (Mx.s7 x hz) _ hbc) _ hbc, Cx.s2 o2 i2 (Lib.hid fun j hj => by rw [cellOfBlock (heap_s7 w1 b x c (Ne.symm hbc)) j]; exact hy.out j hj), Lib.hid (((bel_s7 h x hb).setCell hc _).setCell hc _), hb, hc⟩
theorem mt5 {w w1 : World} (x : MS) (o2 i2 : Bool) (t : TypeId) {c : Nat} (h : Below w.heap.size w w1) (hc : w.heap.size ≤ c) (hy : Hid (∀ j, j < 2 → ∃ v, w1.cell? ⟨c, j, none⟩ = some v)) : MeetSc w x o2 i2 (.pointer (some ⟨w1.heap.size, 0, none⟩)) (.pointer (some ⟨c, 0, none⟩)) (((w1.setCell ⟨c, 0, none⟩ (.bool o2)).setCell ⟨c, 1, none⟩ (.bool i2)).alloc (.cells #[.int .u64 (val x.q), .int .u64 (val x.n), .int .u64 (val x.o), .int .u64 (val x.c), .int .u64 (val x.k), .int .u64 (val x.m), .int .u64 (val x.s)] t)) :=
  ⟨_, _, rfl, rfl, by have := Mx.mk ((w1.setCell ⟨c, 0, none⟩ (.bool o2)).setCell ⟨c, 1, none⟩ (.bool i2)) x.q x.n x.o x.c x.k x.m x.s t (0, 0); simpa using this, Cx.below (Cx.s2 o2 i2 hy) ((Below.refl _ _).alloc (Nat.le_refl _) _), Lib.hid (((h.setCell hc _).setCell hc _).alloc (by simpa using h.size) _), h.size, hc⟩
theorem OwnV.drew {w : World} {B : Nat} {e : TypeId} {size : Nat} {a : Option Addr} {n cap : Nat} {xs : List Value} (h : OwnV w B e size a n cap xs) : OwnV w.drew B e size a n cap xs := h
theorem OwnV.alloc {w : World} {B : Nat} {e : TypeId} {size : Nat} {a : Option Addr} {n cap : Nat} {xs : List Value} (h : OwnV w B e size a n cap xs) (o : Obj) : OwnV (w.alloc o) B e size a n cap xs := h.below ((Below.refl _ _).alloc (Nat.le_refl _) o)
theorem OwnV.old {w : World} {B : Nat} {e : TypeId} {size : Nat} {a : Option Addr} {n cap : Nat} {xs : List Value} (h : OwnV w B e size a n cap xs) {k : Nat} (hk : w.heap.size ≤ k) : a ≠ Option.some ⟨k, 0, none⟩ := by
  rcases h.shape with ⟨h1, _⟩ | ⟨g, cur, h1, _, hg, _⟩
  · rw [h1]; intro e; cases e
  · rw [h1]
    intro e
    simp only [Option.some.injEq, Addr.mk.injEq, and_true] at e
    have := (Array.getElem?_eq_some_iff.1 hg).1
    omega
theorem Cx.oth {w w' : World} {b : Nat} {x y : Bool} (h : Hid (Cx w b x y)) {a : Option Addr} (ho : Oth w w' a) (ha : a ≠ Option.some ⟨b, 0, none⟩) : Hid (Cx w' b x y) := by
  have e := ho.2 b (Cx.lt h) ha
  exact Lib.hid ⟨by rw [cellOfBlock e]; exact h.out.1, by rw [cellOfBlock e]; exact h.out.2⟩
theorem MkB.put0 {w : World} {b : Nat} {a : Option Addr} {n c : Nat} {len : Int} {o i : Bool} {l : List Nat} (h : MkB w b a n c len o i l) (a' : Option Addr) (n' c' : Nat) : MkB (w.setCell ⟨b, 0, none⟩ (.slice a' n' c')) b a' n' c' len o i l := by
  have ec : ∀ j, j ≠ 0 → (w.setCell ⟨b, 0, none⟩ (.slice a' n' c')).cell? ⟨b, j, none⟩ = w.cell? ⟨b, j, none⟩ := fun j hj => World.cell?_setCell_other _ _ _ _ (by intro e; simp only [Addr.mk.injEq, true_and, and_true] at e; exact hj e.symm)
  exact ⟨MkB.ty_set h.ty 0 _, World.cell?_setCell_same _ _ _ h.c0, by rw [ec _ (by omega)]; exact h.c1, by rw [ec _ (by omega)]; exact h.c2, by rw [ec _ (by omega)]; exact h.c3, fun j hj => by rw [ec _ (by omega)]; exact h.cw j hj, by rw [ec _ (by omega)]; exact h.ch⟩
theorem MkB.fin {w : World} {b : Nat} {a : Option Addr} {n c : Nat} {len : Int} {o i : Bool} {l : List Nat} (h : MkB w b a n c len o i l) (o' i' : Bool) : MkB (((w.setCell ⟨b, 2, none⟩ (.bool o')).setCell ⟨b, 3, none⟩ (.bool i')).setCell ⟨b, 68, none⟩ (.int .i64 0)) b a n c len o' i' [] := by
  refine ⟨MkB.ty_set (MkB.ty_set (MkB.ty_set h.ty 2 _) 3 _) 68 _, ?_, ?_, ?_, ?_, fun j hj => absurd hj (by simp), ?_⟩
  · simp [go_sem, h.c0]
  · simp [go_sem, h.c1]
  · simp [go_sem, h.c2]
  · simp [go_sem, h.c3]
  · simp [go_sem, h.ch]
def ResSc (B : Nat) (b : Nat) (len : Int) (xs : List MS) (o i : Bool) (w : World) (e : Ending) (w' : World) : Prop :=
  ∃ a c, e = .returned (.tuple #[]) ∧ MkB w' b a xs.length c len o i [] ∧ OwnV w' B 49 7 a xs.length c (mcs xs) ∧ Below B w w'
set_option maxRecDepth 100000 in
set_option maxHeartbeats 8000000 in
theorem scan_any (B b : Nat) (a : Option Addr) (c : Nat) (xs : List MS) (len : Int) (o i : Bool) (l : List Nat) (w : World) (hB : B ≤ b) (hn : xs.length ≤ 2600000000000) (hl : l.length ≤ 64) (hm : MkB w b a xs.length c len o i l) (ho : OwnV w B 49 7 a xs.length c (mcs xs)) :
    Calls Tryd.prog 25 #[.pointer (some ⟨b, 0, none⟩)] w (ResSc B b len (xs ++ [ms l o i]) (stO l o l.length) (stI l o i l.length) w) := by
  have HM := Lib.hid hm
  have HO := Lib.hid ho
  clear hm ho
  go_enter Tryd.func25, Tryd.ntmps25
  go_upto_region 0 with (fail)
  obtain ⟨_, c0, c1, c2, c3, _, c6⟩ := HM.out
  have hbl := HM.out.lt
  have nb1 : ¬ b = w.heap.size := by omega
  have nb2 : ¬ w.heap.size = b := by omega
  have hbl2 : b < w.heap.size + 1 := by omega
  have hl1 : (0 : Int) ≤ l.length := by omega
  have hl2 : (l.length : Int) ≤ 64 := by omega
  have HS := Lib.hid (fun (w' : World) (h : Rd w' .u8 (some ⟨b, 4, none⟩) l) => Scan_m (some ⟨b, 4, none⟩) 64 l o i w' (by omega) hl h)
  rw [List.take_of_length_le hl] at HS
  generalize ms l o i = x at *
  generalize stO l o l.length = o2 at *
  generalize stI l o i l.length = i2 at *
  unfold ResM at HS
  rw [MS.v_eq] at HS
  have HR := Lib.hid HM.out.rd
  go_cut [2, 3] (fun s2 s3 wx => MeetSc w x o2 i2 s2 s3 wx)
  case first =>
    clear c0 c1 HM HO
    go_region_law (go_simp; go_at_call 34; first
    | (refine (HS.out w.drew HR.out.drew).mono ?_; rintro e w1 ⟨rfl, hb⟩; have hW : Below w.heap.size w w1 := (Below.refl w.heap.size w).drew.trans hb; clear hb)
    | (refine (HS.out (w.alloc (.cells #[.int .u64 0, .int .u64 0, .int .u64 0, .int .u64 0, .int .u64 0, .int .u64 0, .int .u64 0] 49)).drew (HR.out.alloc _).drew).mono ?_; rintro e w1 ⟨rfl, hb⟩; have hW : Below w.heap.size w w1 := ((Below.refl w.heap.size w).alloc (Nat.le_refl _) _).drew.trans (hb.mono (by simp)); have hz : w.heap.size + 1 ≤ w1.heap.size := (by have h9 := hb.size; simp at h9; omega); have hz3 : w.heap.size < w1.heap.size := (by omega); have n1 : ¬ w.heap.size = w1.heap.size := (by omega); have n2 : ¬ w1.heap.size = w.heap.size := (by omega); have z0 : w1.cell? ⟨w.heap.size, 0, none⟩ = some (.int .u64 0) := (by rw [hb.cell (by simp)]; simp); have z1 : w1.cell? ⟨w.heap.size, 1, none⟩ = some (.int .u64 0) := (by rw [hb.cell (by simp)]; simp); have z2 : w1.cell? ⟨w.heap.size, 2, none⟩ = some (.int .u64 0) := (by rw [hb.cell (by simp)]; simp); have z3 : w1.cell? ⟨w.heap.size, 3, none⟩ = some (.int .u64 0) := (by rw [hb.cell (by simp)]; simp); have z4 : w1.cell? ⟨w.heap.size, 4, none⟩ = some (.int .u64 0) := (by rw [hb.cell (by simp)]; simp); have z5 : w1.cell? ⟨w.heap.size, 5, none⟩ = some (.int .u64 0) := (by rw [hb.cell (by simp)]; simp); have z6 : w1.cell? ⟨w.heap.size, 6, none⟩ = some (.int .u64 0) := (by rw [hb.cell (by simp)]; simp); have zf : ∀ k, w1.frozen? ⟨w.heap.size, k, none⟩ = false := (fun k => by rw [hb.frozen (by simp)]; simp); have HZ := Lib.hid (seven z0 z1 z2 z3 z4 z5 z6); clear hb)
    | (refine (HS.out (w.alloc (.cells #[.bool false, .bool false] 51)).drew (HR.out.alloc _).drew).mono ?_; rintro e w1 ⟨rfl, hb⟩; have hW : Below w.heap.size w w1 := ((Below.refl w.heap.size w).alloc (Nat.le_refl _) _).drew.trans (hb.mono (by simp)); have hz : w.heap.size + 1 ≤ w1.heap.size := (by have h9 := hb.size; simp at h9; omega); have hz3 : w.heap.size < w1.heap.size := (by omega); have n1 : ¬ w.heap.size = w1.heap.size := (by omega); have n2 : ¬ w1.heap.size = w.heap.size := (by omega); have y0 : w1.cell? ⟨w.heap.size, 0, none⟩ = some (.bool false) := (by rw [hb.cell (by simp)]; simp); have y1 : w1.cell? ⟨w.heap.size, 1, none⟩ = some (.bool false) := (by rw [hb.cell (by simp)]; simp); have yf : ∀ k, w1.frozen? ⟨w.heap.size, k, none⟩ = false := (fun k => by rw [hb.frozen (by simp)]; simp); have HY := Lib.hid (two y0 y1); clear hb)
    | (refine (HS.out ((w.alloc (.cells #[.int .u64 0, .int .u64 0, .int .u64 0, .int .u64 0, .int .u64 0, .int .u64 0, .int .u64 0] 49)).alloc (.cells #[.bool false, .bool false] 51)).drew ((HR.out.alloc _).alloc _).drew).mono ?_; rintro e w1 ⟨rfl, hb⟩; have hW : Below w.heap.size w w1 := (((Below.refl w.heap.size w).alloc (Nat.le_refl _) _).alloc (by simp) _).drew.trans (hb.mono (by simp; omega)); have z0 : w1.cell? ⟨w.heap.size, 0, none⟩ = some (.int .u64 0) := (by rw [hb.cell (by simp; omega)]; simp); have z1 : w1.cell? ⟨w.heap.size, 1, none⟩ = some (.int .u64 0) := (by rw [hb.cell (by simp; omega)]; simp); have z2 : w1.cell? ⟨w.heap.size, 2, none⟩ = some (.int .u64 0) := (by rw [hb.cell (by simp; omega)]; simp); have z3 : w1.cell? ⟨w.heap.size, 3, none⟩ = some (.int .u64 0) := (by rw [hb.cell (by simp; omega)]; simp); have z4 : w1.cell? ⟨w.heap.size, 4, none⟩ = some (.int .u64 0) := (by rw [hb.cell (by simp; omega)]; simp); have z5 : w1.cell? ⟨w.heap.size, 5, none⟩ = some (.int .u64 0) := (by rw [hb.cell (by simp; omega)]; simp); have z6 : w1.cell? ⟨w.heap.size, 6, none⟩ = some (.int .u64 0) := (by rw [hb.cell (by simp; omega)]; simp); have zf : ∀ k, w1.frozen? ⟨w.heap.size, k, none⟩ = false := (fun k => by rw [hb.frozen (by simp; omega)]; simp); have HZ := Lib.hid (seven z0 z1 z2 z3 z4 z5 z6); have y0 : w1.cell? ⟨w.heap.size + 1, 0, none⟩ = some (.bool false) := (by rw [hb.cell (by simp)]; simp); have y1 : w1.cell? ⟨w.heap.size + 1, 1, none⟩ = some (.bool false) := (by rw [hb.cell (by simp)]; simp); have yf : ∀ k, w1.frozen? ⟨w.heap.size + 1, k, none⟩ = false := (fun k => by rw [hb.frozen (by simp)]; simp); have HY := Lib.hid (two y0 y1); clear hb)
    | (refine (HS.out ((w.alloc (.cells #[.bool false, .bool false] 51)).alloc (.cells #[.int .u64 0, .int .u64 0, .int .u64 0, .int .u64 0, .int .u64 0, .int .u64 0, .int .u64 0] 49)).drew ((HR.out.alloc _).alloc _).drew).mono ?_; rintro e w1 ⟨rfl, hb⟩; have hW : Below w.heap.size w w1 := (((Below.refl w.heap.size w).alloc (Nat.le_refl _) _).alloc (by simp) _).drew.trans (hb.mono (by simp; omega)); have y0 : w1.cell? ⟨w.heap.size, 0, none⟩ = some (.bool false) := (by rw [hb.cell (by simp; omega)]; simp); have y1 : w1.cell? ⟨w.heap.size, 1, none⟩ = some (.bool false) := (by rw [hb.cell (by simp; omega)]; simp); have yf : ∀ k, w1.frozen? ⟨w.heap.size, k, none⟩ = false := (fun k => by rw [hb.frozen (by simp; omega)]; simp); have HY := Lib.hid (two y0 y1); have z0 : w1.cell? ⟨w.heap.size + 1, 0, none⟩ = some (.int .u64 0) := (by rw [hb.cell (by simp)]; simp); have z1 : w1.cell? ⟨w.heap.size + 1, 1, none⟩ = some (.int .u64 0) := (by rw [hb.cell (by simp)]; simp); have z2 : w1.cell? ⟨w.heap.size + 1, 2, none⟩ = some (.int .u64 0) := (by rw [hb.cell (by simp)]; simp); have z3 : w1.cell? ⟨w.heap.size + 1, 3, none⟩ = some (.int .u64 0) := (by rw [hb.cell (by simp)]; simp); have z4 : w1.cell? ⟨w.heap.size + 1, 4, none⟩ = some (.int .u64 0) := (by rw [hb.cell (by simp)]; simp); have z5 : w1.cell? ⟨w.heap.size + 1, 5, none⟩ = some (.int .u64 0) := (by rw [hb.cell (by simp)]; simp); have z6 : w1.cell? ⟨w.heap.size + 1, 6, none⟩ = some (.int .u64 0) := (by rw [hb.cell (by simp)]; simp); have zf : ∀ k, w1.frozen? ⟨w.heap.size + 1, k, none⟩ = false := (fun k => by rw [hb.frozen (by simp)]; simp); have HZ := Lib.hid (seven z0 z1 z2 z3 z4 z5 z6); clear hb))
    all_goals go_wp2_with fail
    all_goals go_meet
    all_goals first
      | with_reducible exact mt1 x o2 i2 _ _ hW
      | with_reducible exact mt2 x o2 i2 _ _ hW
      | with_reducible exact mt3 x o2 i2 _ hW (Nat.le_refl _) HZ
      | with_reducible exact mt5 x o2 i2 _ hW (Nat.le_refl _) HY
      | with_reducible exact mt4 x o2 i2 hW (Nat.le_refl _) (Nat.le_succ _) (Nat.ne_of_lt (Nat.lt_succ_self _)) HZ HY
      | with_reducible exact mt4 x o2 i2 hW (Nat.le_succ _) (Nat.le_refl _) (Nat.ne_of_gt (Nat.lt_succ_self _)) HZ HY
      | skip
  case rest =>
    obtain ⟨mb, cb, rfl, rfl, HMX, HCX, HB1, hmb, hcb⟩ := hcut
    have HM1 : Hid (MkB wc b a xs.length c len o i l) := Lib.hid (HM.out.below HB1.out)
    have HO1 := Lib.hid (HO.out.below HB1.out)
    have HA2 := Lib.hid (HO.out.old hcb)
    have hbc : b < cb := Nat.lt_of_lt_of_le hbl hcb
    have HA1 := Lib.hid (HM1.out.apart HO1.out (by decide))
    clear c0 c1 c2 c3 c6 nb1 nb2 hbl2 HS HR HM HO
    go_upto_region 1 with (fail)
    obtain ⟨_, c0, _, _, _, _, _⟩ := HM1.out
    obtain ⟨m0, m1, m2, m3, m4, m5, m6⟩ := HMX.out
    have hbw : b < wc.heap.size := HM1.out.lt
    go_region_law ((refine step_row _ rfl _ _ 25 rfl B 49 _ 7 56 Tryd.underlying25 infoMs rfl (by decide) a c xs.length (mcs xs) rfl x.cells rfl (by intro u hu; simp [MS.cells] at hu; rcases hu with rfl | rfl | rfl | rfl | rfl | rfl | rfl <;> rfl) wc.heap.size 1 rfl (by intro j u hj; rcases j with _ | _ | _ | _ | _ | _ | _ | j <;> simp [MS.cells] at hj <;> subst hj <;> simp) ((HO1.out.alloc _).drew) (by omega) (by unfold maxLen; omega) (by simp; omega) ?_; intro a2 c2 w2 h1 h2 h3; have HM2 := Lib.hid ((HM1.out.below (((Below.refl wc.heap.size wc).alloc (Nat.le_refl _) _).drew)).oth h3 HA1.out); have k0 := HM2.out.c0; have kf := HM2.out.fz 0))
    all_goals
      have HC2 := Cx.oth (Cx.below HCX (((Below.refl wc.heap.size wc).alloc (Nat.le_refl _) _).drew)) h3 HA2.out
      have hA3 := HM2.out.apart h1 (by decide)
      have HM3 := Lib.hid (HM2.out.put0 a2 (xs.length + 1) c2)
      have HO3 := Lib.hid (h1.oth (Oth.setCell w2 b 0 (.slice a2 (xs.length + 1) c2)) (fun g e1 e2 => hA3 (by rw [e1]; simpa using e2.symm)))
      have HC3 := Cx.oth HC2 (Oth.setCell w2 b 0 (.slice a2 (xs.length + 1) c2)) (by intro e; simp only [Option.some.injEq, Addr.mk.injEq, and_true] at e; omega)
      have HB3 : Hid (Below B w (w2.setCell ⟨b, 0, none⟩ (.slice a2 (xs.length + 1) c2))) := Lib.hid ((((HB1.out.mono (by omega)).trans ((((Below.refl wc.heap.size wc).alloc (Nat.le_refl _) _).drew).mono (by omega))).trans h2).setCell hB _)
      generalize w2.setCell ⟨b, 0, none⟩ (.slice a2 (xs.length + 1) c2) = w3 at *
      clear h1 h2 h3 hA3 HC2 HM2 HM1 HO1 HA1 HA2 HCX HMX HB1 m0 m1 m2 m3 m4 m5 m6 c0 k0 kf
      obtain ⟨y0, y1⟩ := HC3.out
      have k2 := HM3.out.c2
      have k3 := HM3.out.c3
      have k6 := HM3.out.ch
      have kf := HM3.out.fz
      have hbc2 : ¬ b = cb := by omega
      have hbc3 : ¬ cb = b := by omega
      go_wp2
      refine bodyPost_end (v := .tuple #[]) (by simp [results, Tryd.results25, go_sem]) rfl ?_
      have e1 : xs.length + 1 = (xs ++ [x]).length := by simp
      have HM4 := HM3.out.fin o2 i2
      have hA4 := HM3.out.apart HO3.out (by decide)
      have ne : ∀ g, a2 = Option.some ⟨g, 0, none⟩ → (Option.some ⟨b, 0, none⟩ : Option Addr) ≠ Option.some ⟨g, 0, none⟩ := fun g e1 e2 => hA4 (by rw [e1]; simpa using e2.symm)
      have HO4 := ((HO3.out.oth (Oth.setCell _ b 2 (.bool o2)) ne).oth (Oth.setCell _ b 3 (.bool i2)) ne).oth (Oth.setCell _ b 68 (.int .i64 0)) ne
      rw [← mcs_snoc, e1] at HO4
      rw [e1] at HM4
      exact ⟨a2, c2, rfl, HM4, HO4, ((HB3.out.setCell hB _).setCell hB _).setCell hB _⟩
end Go.Proofs.YtibgejndlllhfaaDoor
