/- Memory predicates for lists of small numbers: a slice that reads as a list, a slice of the call's own. Nothing of the program. -/
import Derived.WalkKit
import Derived.Lib.Hide
import Derived.Deep.QuietTactic
import Derived.Test.YtelagemniheeoaaDoorLimbMath
namespace Go.Proofs.YtelagemniheeoaaDoor
open Go.RowKit LM

/-- the cells of a list of numbers -/
def cs (k : IntKind) (l : List Nat) : List Value := l.map (fun (x : Nat) => Value.int k (x : Int))

/-- the slice at a reads as l -/
def Rd (w : World) (k : IntKind) (a : Option Addr) (l : List Nat) : Prop :=
  ∀ j, j < l.length → ∃ b off, a = some ⟨b, off, none⟩ ∧ w.cell? ⟨b, off + j, none⟩ = some (.int k ((l[j]?.getD 0 : Nat) : Int))

/-- the slice owns the cells of l, in a row from block B on -/
def Own (w : World) (B : Nat) (e : TypeId) (k : IntKind) (a : Option Addr) (cap : Nat) (l : List Nat) : Prop :=
  w.ownsRow B e 1 (.slice a l.length cap) l.length (cs k l)

theorem cs_length (k : IntKind) (l : List Nat) : (cs k l).length = l.length := by simp [cs]
theorem cs_append (k : IntKind) (l m : List Nat) : cs k (l ++ m) = cs k l ++ cs k m := by simp [cs]
theorem cs_get {k : IntKind} {l : List Nat} {j : Nat} (h : j < l.length) : (cs k l)[j]? = some (.int k ((l[j]?.getD 0 : Nat) : Int)) := by
  simp [cs, h]
theorem cs_set (k : IntKind) (l : List Nat) (j x : Nat) : cs k (l.set j x) = (cs k l).set j (.int k (x : Int)) := by simp [cs, List.map_set]
theorem cs_take (k : IntKind) (l : List Nat) (n : Nat) : cs k (l.take n) = (cs k l).take n := by simp [cs, List.map_take]
theorem cs_oneCell (k : IntKind) (l : List Nat) : ∀ u ∈ cs k l, u.oneCell' = true := by
  intro u hu; obtain ⟨_, _, rfl⟩ := List.mem_map.1 hu; rfl

theorem lt_of_cell {w : World} {a : Addr} {v : Value} (h : w.cell? a = some v) : a.block < w.heap.size := by
  rcases Nat.lt_or_ge a.block w.heap.size with h1 | h1
  · exact h1
  · exfalso
    have : w.heap[a.block]? = none := Array.getElem?_eq_none h1
    simp [World.cell?, this] at h

theorem Rd.nil (w : World) (k : IntKind) (a : Option Addr) : Rd w k a [] := fun j h => absurd h (by simp)
theorem Rd.below {w w' : World} {k : IntKind} {a : Option Addr} {l : List Nat} (h : Rd w k a l) (hb : Below w.heap.size w w') : Rd w' k a l := by
  intro j hj
  obtain ⟨b, off, e, hc⟩ := h j hj
  exact ⟨b, off, e, by rw [hb.cell (lt_of_cell hc)]; exact hc⟩
theorem Rd.below' {B : Nat} {w w' : World} {k : IntKind} {a : Option Addr} {l : List Nat} (h : Rd w k a l) (hb : Below B w w') (hB : w.heap.size ≤ B) : Rd w' k a l := h.below (hb.mono hB)
/-- the place of a cell -/
theorem Rd.at {w : World} {k : IntKind} {a : Option Addr} {l : List Nat} (h : Rd w k a l) (hl : 0 < l.length) :
    ∃ b off, a = some ⟨b, off, none⟩ ∧ ∀ j, j < l.length → w.cell? ⟨b, off + j, none⟩ = some (.int k ((l[j]?.getD 0 : Nat) : Int)) := by
  obtain ⟨b, off, e, _⟩ := h 0 hl
  refine ⟨b, off, e, fun j hj => ?_⟩
  obtain ⟨b', off', e', hc⟩ := h j hj
  rw [e] at e'; simp only [Option.some.injEq, Addr.mk.injEq, and_true] at e'
  obtain ⟨rfl, rfl⟩ := e'; exact hc
theorem Rd.mk {w : World} {k : IntKind} {b off : Nat} {l : List Nat} (h : ∀ j, j < l.length → w.cell? ⟨b, off + j, none⟩ = some (.int k ((l[j]?.getD 0 : Nat) : Int))) : Rd w k (some ⟨b, off, none⟩) l :=
  fun j hj => ⟨b, off, rfl, h j hj⟩
theorem getD_take {l : List Nat} {n j : Nat} (h : j < n) : (l.take n)[j]?.getD 0 = l[j]?.getD 0 := by
  simp [h]
theorem Rd.take {w : World} {k : IntKind} {a : Option Addr} {l : List Nat} (h : Rd w k a l) (n : Nat) : Rd w k a (l.take n) := by
  intro j hj
  have : j < n ∧ j < l.length := by simp at hj; omega
  obtain ⟨b, off, e, hc⟩ := h j this.2
  exact ⟨b, off, e, by rw [getD_take this.1]; exact hc⟩

theorem Rd.get {w : World} {k : IntKind} {a : Option Addr} {l : List Nat} {M : Nat} (h : Rd w k a l) (hlo : Lo M l) (j : Nat) (hj : j < l.length) :
    ∃ b off x, a = some ⟨b, off, none⟩ ∧ Hid (x = l[j]?.getD 0) ∧ x < M ∧ w.cell? ⟨b, off + j, none⟩ = some (.int k (x : Int)) := by
  obtain ⟨b, off, e, hc⟩ := h j hj
  have hx : l[j]?.getD 0 < M := by have := hlo (l[j]) (List.getElem_mem hj); simpa [hj] using this
  exact ⟨b, off, _, e, rfl, hx, hc⟩
theorem Own.shape {w : World} {B : Nat} {e : TypeId} {k : IntKind} {a : Option Addr} {cap : Nat} {l : List Nat} (h : Own w B e k a cap l) :
    (a = none ∧ cap = 0 ∧ l = []) ∨ ∃ g, a = some ⟨g, 0, none⟩ ∧ B ≤ g ∧ g < w.heap.size ∧ l.length ≤ cap ∧ cap ≤ maxLen := by
  rcases h.2 with ⟨h', hn⟩ | ⟨g, cap', cur, h', hb, hg, hnc, hcm, _, _⟩
  · simp only [Value.slice.injEq] at h'
    exact .inl ⟨h'.1, h'.2.2, List.eq_nil_of_length_eq_zero hn⟩
  · simp only [Value.slice.injEq] at h'
    refine .inr ⟨g, h'.1, hb, ?_, by rw [h'.2.2]; exact hnc, by rw [h'.2.2]; exact hcm⟩
    exact (Array.getElem?_eq_some_iff.1 hg).1
theorem Own.cap {w : World} {B : Nat} {e : TypeId} {k : IntKind} {a : Option Addr} {cap : Nat} {l : List Nat} (h : Own w B e k a cap l) : l.length ≤ cap ∧ cap ≤ maxLen := by
  rcases h.shape with ⟨_, rfl, rfl⟩ | ⟨_, _, _, _, h1, h2⟩
  · exact ⟨by simp, by unfold maxLen; omega⟩
  · exact ⟨h1, h2⟩
theorem Own.rd {w : World} {B : Nat} {e : TypeId} {k : IntKind} {a : Option Addr} {cap : Nat} {l : List Nat} (h : Own w B e k a cap l) : Rd w k a l := by
  rcases h.shape with ⟨_, _, rfl⟩ | ⟨g, rfl, _⟩
  · exact Rd.nil _ _ _
  · refine Rd.mk fun j hj => ?_
    rw [Nat.zero_add]
    have h' : w.ownsRow B e 1 (.slice (some ⟨g, 0, none⟩) l.length cap) l.length (cs k l) := h
    rw [h'.cellAt j (by omega), cs_get hj]
theorem Own.frozen {w : World} {B : Nat} {e : TypeId} {k : IntKind} {g cap : Nat} {l : List Nat} (h : Own w B e k (some ⟨g, 0, none⟩) cap l) (j : Nat) : w.frozen? ⟨g, j, none⟩ = false :=
  World.ownsRow.frozenAt h j
theorem Own.below {w w' : World} {B : Nat} {e : TypeId} {k : IntKind} {a : Option Addr} {cap : Nat} {l : List Nat} (h : Own w B e k a cap l) (hb : Below w.heap.size w w') : Own w' B e k a cap l := by
  refine ⟨h.1, ?_⟩
  rcases h.2 with h' | ⟨g, cap', cur, h', hB, hg, hr⟩
  · exact .inl h'
  · exact .inr ⟨g, cap', cur, h', hB, by rw [hb.block g (Array.getElem?_eq_some_iff.1 hg).1]; exact hg, hr⟩
theorem Own.mono {w : World} {B B' : Nat} {e : TypeId} {k : IntKind} {a : Option Addr} {cap : Nat} {l : List Nat} (h : Own w B e k a cap l) (hB : B' ≤ B) : Own w B' e k a cap l := by
  refine ⟨h.1, ?_⟩
  rcases h.2 with h' | ⟨g, cap', cur, h', hBg, hr⟩
  · exact .inl h'
  · exact .inr ⟨g, cap', cur, h', Nat.le_trans hB hBg, hr⟩
theorem Own.take {w : World} {B : Nat} {e : TypeId} {k : IntKind} {a : Option Addr} {cap : Nat} {l : List Nat} (h : Own w B e k a cap l) (n : Nat) (hn : n ≤ l.length) : Own w B e k a cap (l.take n) := by
  have hl : (l.take n).length = n := by simp; omega
  unfold Own; rw [hl]
  refine ⟨by rw [cs_length, hl]; omega, ?_⟩
  rcases h.2 with ⟨h', h0⟩ | ⟨g, cap', cur, h', hB, hg, hnc, hcm, hs, ht⟩
  · simp only [Value.slice.injEq] at h'
    have : n = 0 := by omega
    exact .inl ⟨by rw [h'.1, h'.2.2, this], this⟩
  · simp only [Value.slice.injEq] at h'
    refine .inr ⟨g, cap', cur, by rw [h'.1, h'.2.2], hB, hg, by omega, hcm, hs, ?_⟩
    rw [cs_take, ← ht, List.take_take]; congr 1; omega
theorem Own.nilNone (w : World) (B : Nat) (e : TypeId) (k : IntKind) : Own w B e k none 0 [] := World.ownsRow_nil w B e 1
theorem bz {B : Nat} {w w' : World} (h : Below B w w') : w.heap.size ≤ w'.heap.size := h.size
/-- a callee that leaves its world as it is, met inside a region of reads -/
theorem still {P : Program} {f : FuncId} {args : Array Value} {w : World} {n : Nat} {v : Value}
    (h : Calls P f args (w.drewN n) fun e u => e = .returned v ∧ w.drewN n = u) : Calls P f args (w.drewN n) fun e u => e = .returned v ∧ ∃ m, u = w.drewN m :=
  h.mono fun _ _ hh => ⟨hh.1, n, hh.2.symm⟩
theorem still2 {P : Program} {f : FuncId} {args : Array Value} {w : World} {m n : Nat} {v : Value}
    (h : Calls P f args (w.drewN (m + n)) fun e u => e = .returned v ∧ w.drewN (m + n) = u) : Calls P f args (w.drewN (m + n)) fun e u => e = .returned v ∧ ∃ q, u = w.drewN (m + q) :=
  h.mono fun _ _ hh => ⟨hh.1, n, hh.2.symm⟩
theorem bdN {B : Nat} {a w : World} (h : Below B a w) (n : Nat) : Below B a (w.drewN n) := ⟨h.os, h.tape, h.output, h.size, h.block⟩
theorem Rd.dN {w : World} {k : IntKind} {a : Option Addr} {l : List Nat} (h : Rd w k a l) (n : Nat) : Rd (w.drewN n) k a l := h
theorem Own.dN {w : World} {B : Nat} {e : TypeId} {k : IntKind} {a : Option Addr} {cap : Nat} {l : List Nat} (h : Own w B e k a cap l) (n : Nat) : Own (w.drewN n) B e k a cap l := h
theorem ret_int {k : IntKind} {a b : Int} (h : a = b) : Ending.returned (.int k a) = .returned (.int k b) := by rw [h]
theorem ret_slice {a : Option Addr} {n m c : Nat} (h : n = m) : Ending.returned (.slice a n c) = .returned (.slice a m c) := by rw [h]
theorem ret_bool {a b : Bool} (h : a = b) : Ending.returned (.bool a) = .returned (.bool b) := by rw [h]
end Go.Proofs.YtelagemniheeoaaDoor
