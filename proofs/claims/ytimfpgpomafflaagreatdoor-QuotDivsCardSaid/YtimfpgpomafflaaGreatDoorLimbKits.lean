/- Memory predicates for lists of small numbers: a slice that reads as a list, a slice of the call's own. Nothing of the program. -/
import Derived.WalkKit
import Derived.Lib.Hide
import Derived.Deep.QuietTactic
import Derived.Test.YtimfpgpomafflaaGreatDoorLimbMaths
import Derived.Test.YtimfpgpomafflaaGreatDoorChecked
import Derived.Outline
import Derived.BigQuiet
namespace Go.Proofs.YtimfpgpomafflaaGreatDoor
open Go.RowKit LM

/-- the cells of a list of numbers -/
def cs (k : IntKind) (l : List Nat) : List Value := l.map (fun (x : Nat) => Value.int k (x : Int))

/-- the slice at a reads as l -/
def Rd (w : World) (k : IntKind) (a : Option Addr) (l : List Nat) : Prop :=
  ∀ j, j < l.length → ∃ b off, a = some ⟨b, off, none⟩ ∧ w.cell? ⟨b, off + j, none⟩ = some (.int k ((l[j]?.getD 0 : Nat) : Int))

/-- the slice owns the cells of l, in a row from block B on -/
def Own (w : World) (B : Nat) (e : TypeId) (k : IntKind) (a : Option Addr) (cap : Nat) (l : List Nat) : Prop :=
  w.ownsRow B e 1 (.slice a l.length cap) l.length (cs k l)

theorem cs_length (k : IntKind) (l : List Nat) : (cs k l).length = l.length := by simp [cs]
theorem cs_append (k : IntKind) (l m : List Nat) : cs k (l ++ m) = cs k l ++ cs k m := by simp [cs]
theorem cs_get {k : IntKind} {l : List Nat} {j : Nat} (h : j < l.length) : (cs k l)[j]? = some (.int k ((l[j]?.getD 0 : Nat) : Int)) := by
  simp [cs, h]
theorem cs_set (k : IntKind) (l : List Nat) (j x : Nat) : cs k (l.set j x) = (cs k l).set j (.int k (x : Int)) := by simp [cs, List.map_set]
theorem cs_take (k : IntKind) (l : List Nat) (n : Nat) : cs k (l.take n) = (cs k l).take n := by simp [cs, List.map_take]
theorem cs_oneCell (k : IntKind) (l : List Nat) : ∀ u ∈ cs k l, u.oneCell' = true := by
  intro u hu; obtain ⟨_, _, rfl⟩ := List.mem_map.1 hu; rfl

theorem lt_of_cell {w : World} {a : Addr} {v : Value} (h : w.cell? a = some v) : a.block < w.heap.size := by
  rcases Nat.lt_or_ge a.block w.heap.size with h1 | h1
  · exact h1
  · exfalso
    have : w.heap[a.block]? = none := Array.getElem?_eq_none h1
    simp [World.cell?, this] at h

theorem Rd.nil (w : World) (k : IntKind) (a : Option Addr) : Rd w k a [] := fun j h => absurd h (by simp)
theorem Rd.below {w w' : World} {k : IntKind} {a : Option Addr} {l : List Nat} (h : Rd w k a l) (hb : Below w.heap.size w w') : Rd w' k a l := by
  intro j hj
  obtain ⟨b, off, e, hc⟩ := h j hj
  exact ⟨b, off, e, by rw [hb.cell (lt_of_cell hc)]; exact hc⟩
theorem Rd.below' {B : Nat} {w w' : World} {k : IntKind} {a : Option Addr} {l : List Nat} (h : Rd w k a l) (hb : Below B w w') (hB : w.heap.size ≤ B) : Rd w' k a l := h.below (hb.mono hB)
/-- the place of a cell -/
theorem Rd.at {w : World} {k : IntKind} {a : Option Addr} {l : List Nat} (h : Rd w k a l) (hl : 0 < l.length) :
    ∃ b off, a = some ⟨b, off, none⟩ ∧ ∀ j, j < l.length → w.cell? ⟨b, off + j, none⟩ = some (.int k ((l[j]?.getD 0 : Nat) : Int)) := by
  obtain ⟨b, off, e, _⟩ := h 0 hl
  refine ⟨b, off, e, fun j hj => ?_⟩
  obtain ⟨b', off', e', hc⟩ := h j hj
  rw [e] at e'; simp only [Option.some.injEq, Addr.mk.injEq, and_true] at e'
  obtain ⟨rfl, rfl⟩ := e'; exact hc
theorem Rd.mk {w : World} {k : IntKind} {b off : Nat} {l : List Nat} (h : ∀ j, j < l.length → w.cell? ⟨b, off + j, none⟩ = some (.int k ((l[j]?.getD 0 : Nat) : Int))) : Rd w k (some ⟨b, off, none⟩) l :=
  fun j hj => ⟨b, off, rfl, h j hj⟩
theorem getD_take {l : List Nat} {n j : Nat} (h : j < n) : (l.take n)[j]?.getD 0 = l[j]?.getD 0 := by
  simp [h]
theorem Rd.take {w : World} {k : IntKind} {a : Option Addr} {l : List Nat} (h : Rd w k a l) (n : Nat) : Rd w k a (l.take n) := by
  intro j hj
  have : j < n ∧ j < l.length := by simp at hj; omega
  obtain ⟨b, off, e, hc⟩ := h j this.2
  exact ⟨b, off, e, by rw [getD_take this.1]; exact hc⟩

theorem Rd.get {w : World} {k : IntKind} {a : Option Addr} {l : List Nat} {M : Nat} (h : Rd w k a l) (hlo : Lo M l) (j : Nat) (hj : j < l.length) :
    ∃ b off x, a = some ⟨b, off, none⟩ ∧ Hid (x = l[j]?.getD 0) ∧ x < M ∧ w.cell? ⟨b, off + j, none⟩ = some (.int k (x : Int)) := by
  obtain ⟨b, off, e, hc⟩ := h j hj
  have hx : l[j]?.getD 0 < M := by have := hlo (l[j]) (List.getElem_mem hj); simpa [hj] using this
  exact ⟨b, off, _, e, rfl, hx, hc⟩
theorem Own.shape {w : World} {B : Nat} {e : TypeId} {k : IntKind} {a : Option Addr} {cap : Nat} {l : List Nat} (h : Own w B e k a cap l) :
    (a = none ∧ cap = 0 ∧ l = []) ∨ ∃ g, a = some ⟨g, 0, none⟩ ∧ B ≤ g ∧ g < w.heap.size ∧ l.length ≤ cap ∧ cap ≤ maxLen := by
  rcases h.2 with ⟨h', hn⟩ | ⟨g, cap', cur, h', hb, hg, hnc, hcm, _, _⟩
  · simp only [Value.slice.injEq] at h'
    exact .inl ⟨h'.1, h'.2.2, List.eq_nil_of_length_eq_zero hn⟩
  · simp only [Value.slice.injEq] at h'
    refine .inr ⟨g, h'.1, hb, ?_, by rw [h'.2.2]; exact hnc, by rw [h'.2.2]; exact hcm⟩
    exact (Array.getElem?_eq_some_iff.1 hg).1
theorem Own.cap {w : World} {B : Nat} {e : TypeId} {k : IntKind} {a : Option Addr} {cap : Nat} {l : List Nat} (h : Own w B e k a cap l) : l.length ≤ cap ∧ cap ≤ maxLen := by
  rcases h.shape with ⟨_, rfl, rfl⟩ | ⟨_, _, _, _, h1, h2⟩
  · exact ⟨by simp, by unfold maxLen; omega⟩
  · exact ⟨h1, h2⟩
theorem Own.rd {w : World} {B : Nat} {e : TypeId} {k : IntKind} {a : Option Addr} {cap : Nat} {l : List Nat} (h : Own w B e k a cap l) : Rd w k a l := by
  rcases h.shape with ⟨_, _, rfl⟩ | ⟨g, rfl, _⟩
  · exact Rd.nil _ _ _
  · refine Rd.mk fun j hj => ?_
    rw [Nat.zero_add]
    have h' : w.ownsRow B e 1 (.slice (some ⟨g, 0, none⟩) l.length cap) l.length (cs k l) := h
    rw [h'.cellAt j (by omega), cs_get hj]
theorem Own.frozen {w : World} {B : Nat} {e : TypeId} {k : IntKind} {g cap : Nat} {l : List Nat} (h : Own w B e k (some ⟨g, 0, none⟩) cap l) (j : Nat) : w.frozen? ⟨g, j, none⟩ = false :=
  World.ownsRow.frozenAt h j
theorem Own.below {w w' : World} {B : Nat} {e : TypeId} {k : IntKind} {a : Option Addr} {cap : Nat} {l : List Nat} (h : Own w B e k a cap l) (hb : Below w.heap.size w w') : Own w' B e k a cap l := by
  refine ⟨h.1, ?_⟩
  rcases h.2 with h' | ⟨g, cap', cur, h', hB, hg, hr⟩
  · exact .inl h'
  · exact .inr ⟨g, cap', cur, h', hB, by rw [hb.block g (Array.getElem?_eq_some_iff.1 hg).1]; exact hg, hr⟩
theorem Own.mono {w : World} {B B' : Nat} {e : TypeId} {k : IntKind} {a : Option Addr} {cap : Nat} {l : List Nat} (h : Own w B e k a cap l) (hB : B' ≤ B) : Own w B' e k a cap l := by
  refine ⟨h.1, ?_⟩
  rcases h.2 with h' | ⟨g, cap', cur, h', hBg, hr⟩
  · exact .inl h'
  · exact .inr ⟨g, cap', cur, h', Nat.le_trans hB hBg, hr⟩
theorem Own.take {w : World} {B : Nat} {e : TypeId} {k : IntKind} {a : Option Addr} {cap : Nat} {l : List Nat} (h : Own w B e k a cap l) (n : Nat) (hn : n ≤ l.length) : Own w B e k a cap (l.take n) := by
  have hl : (l.take n).length = n := by simp; omega
  unfold Own; rw [hl]
  refine ⟨by rw [cs_length, hl]; omega, ?_⟩
  rcases h.2 with ⟨h', h0⟩ | ⟨g, cap', cur, h', hB, hg, hnc, hcm, hs, ht⟩
  · simp only [Value.slice.injEq] at h'
    have : n = 0 := by omega
    exact .inl ⟨by rw [h'.1, h'.2.2, this], this⟩
  · simp only [Value.slice.injEq] at h'
    refine .inr ⟨g, cap', cur, by rw [h'.1, h'.2.2], hB, hg, by omega, hcm, hs, ?_⟩
    rw [cs_take, ← ht, List.take_take]; congr 1; omega
theorem Own.nilNone (w : World) (B : Nat) (e : TypeId) (k : IntKind) : Own w B e k none 0 [] := World.ownsRow_nil w B e 1
theorem bz {B : Nat} {w w' : World} (h : Below B w w') : w.heap.size ≤ w'.heap.size := h.size
/-- a callee that leaves its world as it is, met inside a region of reads -/
theorem still {P : Program} {f : FuncId} {args : Array Value} {w : World} {n : Nat} {v : Value}
    (h : Calls P f args (w.drewN n) fun e u => e = .returned v ∧ w.drewN n = u) : Calls P f args (w.drewN n) fun e u => e = .returned v ∧ ∃ m, u = w.drewN m :=
  h.mono fun _ _ hh => ⟨hh.1, n, hh.2.symm⟩
theorem still2 {P : Program} {f : FuncId} {args : Array Value} {w : World} {m n : Nat} {v : Value}
    (h : Calls P f args (w.drewN (m + n)) fun e u => e = .returned v ∧ w.drewN (m + n) = u) : Calls P f args (w.drewN (m + n)) fun e u => e = .returned v ∧ ∃ q, u = w.drewN (m + q) :=
  h.mono fun _ _ hh => ⟨hh.1, n, hh.2.symm⟩
theorem bdN {B : Nat} {a w : World} (h : Below B a w) (n : Nat) : Below B a (w.drewN n) := ⟨h.os, h.tape, h.output, h.size, h.block⟩
theorem Rd.dN {w : World} {k : IntKind} {a : Option Addr} {l : List Nat} (h : Rd w k a l) (n : Nat) : Rd (w.drewN n) k a l := h
theorem Own.dN {w : World} {B : Nat} {e : TypeId} {k : IntKind} {a : Option Addr} {cap : Nat} {l : List Nat} (h : Own w B e k a cap l) (n : Nat) : Own (w.drewN n) B e k a cap l := h
theorem ret_int {k : IntKind} {a b : Int} (h : a = b) : Ending.returned (.int k a) = .returned (.int k b) := by rw [h]
theorem ret_slice {a : Option Addr} {n m c : Nat} (h : n = m) : Ending.returned (.slice a n c) = .returned (.slice a m c) := by rw [h]
theorem ret_bool {a b : Bool} (h : a = b) : Ending.returned (.bool a) = .returned (.bool b) := by rw [h]
end Go.Proofs.YtimfpgpomafflaaGreatDoor

/- Laws of the walk for a list of the call's own: made, appended to, written into. Nothing of the program. -/
namespace Go.Proofs.YtimfpgpomafflaaGreatDoor
open Go.RowKit

section
variable {P : Program} {ops : Array Oper} {rest : List Oper} {o : Oper} {a : Act} {Q : Exit → Act → World → Prop}

theorem Below.ofGrown {B : Nat} {w w' : World} {row : Option Nat} (hg : w.grownBy w' row) (hB : B ≤ w.heap.size) (hr : ∀ k, row = some k → B ≤ k) : Below B w w' := (Below.refl B w).grown hg hB hr

/-- 'append(l, y)', l the call's own; it may grow. -/
theorem wp_push (w0 : World) (hg : o.guard = none) (s x : Operand) (t : TypeId)
    (hop : o.op = Op.call { callee := Callee.builtin Builtin.append, args := #[s, x], argTypes := #[t, t] })
    (B : Nat) (e : TypeId) (k : IntKind) (bytes : Nat) (hu : P.underlying t = some (.slice e)) (hinfo : (P.info? e).map (fun i => (i.zero, i.size, i.bytes)) = some (some (.int k 0), 1, bytes))
    (ao : Option Addr) (cap n : Nat) (l : List Nat) (hn : n = l.length) (hs : a.eval s = .slice ao n cap) (yv : Int) (y : Nat) (hy : yv = (y : Int)) (e' : TypeId)
    (hx : a.eval x = .slice (some ⟨w0.heap.size, 0, none⟩) 1 1)
    (hown : Own w0 B e k ao cap l) (hbytes : (l.length + 1) * bytes ≤ 140737488355328) (hlen : l.length + 1 ≤ maxLen) (hB : B ≤ w0.heap.size)
    (hK : ∀ ao' cap' w', Own w' B e k ao' cap' (l ++ [y]) → Below B w0 w' → wpList P ops Q rest (a.put o.dst (.slice ao' (n + 1) cap')) w') :
    wpList P ops Q (o :: rest) a (w0.alloc (.cells #[.int k yv] e')) := by
  subst hn hy
  obtain ⟨i, hi, hz0, hz1, hz2⟩ := info_parts hinfo
  have hown' : (w0.alloc (.cells #[.int k (y : Int)] e')).ownsRow B e 1 (.slice ao l.length cap) l.length (cs k l) := World.ownsRow.alloc hown _
  refine wpList_append_own _ hg s x t hop B e i (.int k 0) 1 bytes hu hi hz0 hz1 hz2 rfl (by decide) _ _ _ hs hown' ⟨w0.heap.size, 0, none⟩ 1 1 [.int k (y : Int)] hx rfl ?_ ?_ hlen hbytes (by simp; omega) ?_
  · intro j u hj
    match j, hj with
    | 0, hj =>
      simp at hj; subst hj
      simp [Addr.add]
    | j + 1, hj => simp at hj
  · intro u hu; simp at hu; subst hu; rfl
  · intro v' w' ho hgr hnil
    have hb : Below B w0 w' := ((Below.refl B w0).alloc hB _).grown hgr (by simp; omega) (fun j hj => (hown'.lt j hj).1)
    have hsh : ∃ ao' cap', v' = .slice ao' (l.length + 1) cap' := by
      rcases ho.2 with ⟨h1, h2⟩ | ⟨g, cap', cur, h1, _⟩
      · omega
      · exact ⟨_, _, h1⟩
    obtain ⟨ao', cap', rfl⟩ := hsh
    refine hK ao' cap' w' ?_ hb
    unfold Own
    rw [cs_append, show cs k [y] = [Value.int k (y : Int)] from rfl]; simpa using ho

/-- 'append(l, y)' within the capacity. -/
theorem wp_pushFits (w0 : World) (hg : o.guard = none) (s x : Operand) (t : TypeId)
    (hop : o.op = Op.call { callee := Callee.builtin Builtin.append, args := #[s, x], argTypes := #[t, t] })
    (B : Nat) (e : TypeId) (k : IntKind) (bytes : Nat) (hu : P.underlying t = some (.slice e)) (hinfo : (P.info? e).map (fun i => (i.zero, i.size, i.bytes)) = some (some (.int k 0), 1, bytes))
    (g cap n : Nat) (l : List Nat) (hn : n = l.length) (hs : a.eval s = .slice (some ⟨g, 0, none⟩) n cap) (yv : Int) (y : Nat) (hy : yv = (y : Int)) (e' : TypeId)
    (hx : a.eval x = .slice (some ⟨w0.heap.size, 0, none⟩) 1 1)
    (hown : Own w0 B e k (some ⟨g, 0, none⟩) cap l) (hfit : l.length + 1 ≤ cap) (hB : B ≤ w0.heap.size)
    (hK : ∀ w', Own w' B e k (some ⟨g, 0, none⟩) cap (l ++ [y]) → Below B w0 w' → wpList P ops Q rest (a.put o.dst (.slice (some ⟨g, 0, none⟩) (n + 1) cap)) w') :
    wpList P ops Q (o :: rest) a (w0.alloc (.cells #[.int k yv] e')) := by
  subst hn hy
  obtain ⟨i, hi, hz0, hz1, hz2⟩ := info_parts hinfo
  have hown' : (w0.alloc (.cells #[.int k (y : Int)] e')).ownsRow B e 1 (.slice (some ⟨g, 0, none⟩) l.length cap) l.length (cs k l) := World.ownsRow.alloc hown _
  refine wpList_append_fits _ hg s x t hop B e i 1 hu hi hz1 g l.length cap (cs k l) hs hown' ⟨w0.heap.size, 0, none⟩ 1 1 [.int k (y : Int)] hx rfl ?_ ?_ hfit ?_
  · intro j u hj
    match j, hj with
    | 0, hj =>
      simp at hj; subst hj
      simp [Addr.add]
    | j + 1, hj => simp at hj
  · intro u hu; simp at hu; subst hu; rfl
  · intro w' ho hgr
    have hgB : B ≤ g := by
      rcases hown.shape with ⟨h, _⟩ | ⟨g', h, hb, _⟩
      · cases h
      · simp at h; omega
    have hb : Below B w0 w' := ((Below.refl B w0).alloc hB _).grown hgr (by simp; omega) (fun j hj => by simp at hj; omega)
    refine hK w' ?_ hb
    unfold Own
    rw [cs_append, show cs k [y] = [Value.int k (y : Int)] from rfl]; simpa using ho

/-- 'make([]T, 0, n)' -/
theorem wp_make0 (w : World) (hg : o.guard = none) (l c : Operand) (t : TypeId) (hop : o.op = Op.makeSlice t l c)
    (B : Nat) (e : TypeId) (k : IntKind) (bytes : Nat) (hu : P.underlying t = some (.slice e)) (hinfo : (P.info? e).map (fun i => (i.zero, i.size, i.bytes)) = some (some (.int k 0), 1, bytes))
    (kl kc : IntKind) (C : Int) (n : Nat) (hl : a.eval l = .int kl 0) (hc : a.eval c = .int kc C) (hC : C = (n : Int)) (b2 : bytes * n ≤ 281474976710656) (b3 : n ≤ maxLen) (hB : B ≤ w.heap.size)
    (hK : ∀ w', Own w' B e k (some ⟨w.heap.size, 0, none⟩) n [] → Below B w w' → wpList P ops Q rest (a.put o.dst (.slice (some ⟨w.heap.size, 0, none⟩) 0 n)) w') :
    wpList P ops Q (o :: rest) a w := by
  obtain ⟨i, hi, hz0, hz1, hz2⟩ := info_parts hinfo
  exact wpList_make_own w hg l c t hop B e i (.int k 0) 1 hu hi hz0 hz1 kl kc C n hl hc hC (by rw [hz2]; exact b2) b3 hB (fun w' ho hgr => hK w' ho (Below.ofGrown hgr hB (fun _ h => by cases h)))

/-- 'make([]T, n)' -/
theorem wp_make (w : World) (hg : o.guard = none) (l c : Operand) (t : TypeId) (hop : o.op = Op.makeSlice t l c)
    (B : Nat) (e : TypeId) (k : IntKind) (bytes : Nat) (hu : P.underlying t = some (.slice e)) (hinfo : (P.info? e).map (fun i => (i.zero, i.size, i.bytes)) = some (some (.int k 0), 1, bytes))
    (kl kc : IntKind) (L C : Int) (n : Nat) (hl : a.eval l = .int kl L) (hc : a.eval c = .int kc C) (hL : L = (n : Int)) (hC : C = (n : Int)) (b2 : bytes * n ≤ 281474976710656) (b3 : n ≤ maxLen) (hB : B ≤ w.heap.size)
    (hK : ∀ w', Own w' B e k (some ⟨w.heap.size, 0, none⟩) n (List.replicate n 0) → Below B w w' → wpList P ops Q rest (a.put o.dst (.slice (some ⟨w.heap.size, 0, none⟩) n n)) w') :
    wpList P ops Q (o :: rest) a w := by
  obtain ⟨i, hi, hz0, hz1, hz2⟩ := info_parts hinfo
  refine wpList_make_full w hg l c t hop B e i (.int k 0) 1 hu hi hz0 hz1 kl kc L C n hl hc hL hC (by rw [hz2]; exact b2) b3 hB (fun w' ho hgr => hK w' ?_ (Below.ofGrown hgr hB (fun _ h => by cases h)))
  unfold Own
  have : (madeCells (Value.int k 0).cells (n * 1)).toList = cs k (List.replicate n 0) := by
    rw [Nat.mul_one, show (Value.int k 0).cells = #[Value.int k 0] from rfl, toList_madeCells_one]; simp [cs]
  rw [this] at ho; simpa using ho
end

/-- a store into a row of the call's own -/
theorem Own.set {w : World} {B : Nat} {e : TypeId} {k : IntKind} {g cap : Nat} {l : List Nat} (h : Own w B e k (some ⟨g, 0, none⟩) cap l) (j y : Nat) :
    Own (w.setCell ⟨g, j, none⟩ (.int k (y : Int))) B e k (some ⟨g, 0, none⟩) cap (l.set j y) := by
  have := (World.ownsRow.stored h j (.int k (y : Int))).1
  unfold Own
  rw [cs_set]; simpa using this
theorem Own.set' {w : World} {B : Nat} {e : TypeId} {k : IntKind} {g cap : Nat} {l : List Nat} (h : Own w B e k (some ⟨g, 0, none⟩) cap l) (j : Nat) {yv : Int} (y : Nat) (hy : yv = (y : Int)) :
    Own (w.setCell ⟨g, j, none⟩ (.int k yv)) B e k (some ⟨g, 0, none⟩) cap (l.set j y) := by subst hy; exact h.set j y
theorem Own.cell {w : World} {B : Nat} {e : TypeId} {k : IntKind} {g cap : Nat} {l : List Nat} (h : Own w B e k (some ⟨g, 0, none⟩) cap l) (j : Nat) (hj : j < l.length) :
    w.cell? ⟨g, j, none⟩ = some (.int k ((l[j]?.getD 0 : Nat) : Int)) := by
  have h' : w.ownsRow B e 1 (.slice (some ⟨g, 0, none⟩) l.length cap) l.length (cs k l) := h
  rw [h'.cellAt j (by omega), cs_get hj]
theorem Own.ge {w : World} {B : Nat} {e : TypeId} {k : IntKind} {g cap : Nat} {l : List Nat} (h : Own w B e k (some ⟨g, 0, none⟩) cap l) : B ≤ g ∧ g < w.heap.size := by
  rcases h.shape with ⟨h, _⟩ | ⟨g', h, hb, hl, _⟩
  · cases h
  · simp at h; omega
theorem Own.drew {w : World} {B : Nat} {e : TypeId} {k : IntKind} {a : Option Addr} {cap : Nat} {l : List Nat} (h : Own w B e k a cap l) : Own w.drew B e k a cap l := World.ownsRow.drew h
theorem Own.alloc {w : World} {B : Nat} {e : TypeId} {k : IntKind} {a : Option Addr} {cap : Nat} {l : List Nat} (h : Own w B e k a cap l) (o : Obj) : Own (w.alloc o) B e k a cap l := World.ownsRow.alloc h o
theorem Rd.alloc {w : World} {k : IntKind} {a : Option Addr} {l : List Nat} (h : Rd w k a l) (o : Obj) : Rd (w.alloc o) k a l := h.below ((Below.refl _ _).alloc (Nat.le_refl _) o)
theorem Rd.drew {w : World} {k : IntKind} {a : Option Addr} {l : List Nat} (h : Rd w k a l) : Rd w.drew k a l := h
/-- 'append(l, y)' as one step of a region that draws -/
theorem step_push {P : Program} {ops : Array Oper} {o : Oper} {a : Act} {K : Act → World → Prop} {Q : Exit → Act → World → Prop} {E : Prop} (wx : World) (hg : o.guard = none) (s x : Operand) (t : TypeId)
    (hop : o.op = Op.call { callee := Callee.builtin Builtin.append, args := #[s, x], argTypes := #[t, t] })
    (B : Nat) (e : TypeId) (k : IntKind) (bytes : Nat) (hu : P.underlying t = some (.slice e)) (hinfo : (P.info? e).map (fun i => (i.zero, i.size, i.bytes)) = some (some (.int k 0), 1, bytes))
    (ao : Option Addr) (cap n : Nat) (l : List Nat) (hn : n = l.length) (hs : a.eval s = .slice ao n cap) (y gx : Nat)
    (hx : a.eval x = .slice (some ⟨gx, 0, none⟩) 1 1) (hcell : wx.cell? ⟨gx, 0, none⟩ = some (.int k (y : Int)))
    (hown : Own wx B e k ao cap l) (hbytes : (l.length + 1) * bytes ≤ 140737488355328) (hlen : l.length + 1 ≤ maxLen) (hB : B ≤ wx.heap.size)
    (hK : ∀ ao' cap' w', Own w' B e k ao' cap' (l ++ [y]) → Below B wx w' → wx.grownBy w' (Value.slice ao n cap).ownBlock → K (a.put o.dst (.slice ao' (n + 1) cap')) w') :
    if Region.wanted o (yielded ops a.tmps) = true then Oper.wp P o a wx K Q else E := by
  have hw : Region.wanted o (yielded ops a.tmps) = true := by simp [Region.wanted, hg]
  rw [if_pos hw]
  subst hn
  obtain ⟨i, hi, hz0, hz1, hz2⟩ := info_parts hinfo
  have hown' : wx.ownsRow B e 1 (.slice ao l.length cap) l.length (cs k l) := hown
  refine wp_append_own _ s x t hop B e i (.int k 0) 1 bytes hu hi hz0 hz1 hz2 rfl (by decide) _ _ _ hs hown' ⟨gx, 0, none⟩ 1 1 [.int k (y : Int)] hx rfl ?_ ?_ hlen hbytes hB ?_
  · intro j u hj
    match j, hj with
    | 0, hj =>
      simp at hj; subst hj
      simpa [Addr.add] using hcell
    | j + 1, hj => simp at hj
  · intro u hu; simp at hu; subst hu; rfl
  · intro v' w' ho hgr hnil
    have hb : Below B wx w' := (Below.refl B wx).grown hgr hB (fun j hj => (hown'.lt j hj).1)
    have hsh : ∃ ao' cap', v' = .slice ao' (l.length + 1) cap' := by
      rcases ho.2 with ⟨h1, h2⟩ | ⟨g, cap', cur, h1, _⟩
      · omega
      · exact ⟨_, _, h1⟩
    obtain ⟨ao', cap', rfl⟩ := hsh
    refine hK ao' cap' w' ?_ hb hgr
    unfold Own
    rw [cs_append, show cs k [y] = [Value.int k (y : Int)] from rfl]; simpa using ho

/-! Worlds in which one row alone has turned -/
theorem gb_refl (w : World) (row : Option Nat) : w.grownBy w row := World.grownBy.refl w row
theorem gb_set {w wr : World} {g : Nat} (h : w.grownBy wr (some g)) (j : Nat) (v : Value) : w.grownBy (wr.setCell ⟨g, j, none⟩ v) (some g) :=
  ⟨h.os, h.tape, h.output, by simpa using h.size, fun k hk hne => by
    rw [Below.heap_setCell _ _ _ _ (by intro e; exact hne (by rw [e]))]; exact h.block k hk hne⟩
theorem gb_drew {w wr : World} {row : Option Nat} (h : w.grownBy wr row) : w.grownBy wr.drew row := ⟨h.os, h.tape, h.output, h.size, h.block⟩
theorem gb_below {B : Nat} {w wr : World} {g : Nat} (h : w.grownBy wr (some g)) (hB : B ≤ w.heap.size) (hg : B ≤ g) : Below B w wr :=
  Below.ofGrown h hB (fun k hk => by cases hk; exact hg)
theorem gb_of_below {w wr : World} {row : Option Nat} (h : Below w.heap.size w wr) : w.grownBy wr row := ⟨h.os, h.tape, h.output, h.size, fun k hk _ => h.block k hk⟩
theorem gb_trans {a b c : World} {row : Option Nat} (h : a.grownBy b row) (k : b.grownBy c row) : a.grownBy c row :=
  ⟨k.os.trans h.os, k.tape.trans h.tape, k.output.trans h.output, Nat.le_trans h.size k.size, fun j hj hne => (k.block j (Nat.lt_of_lt_of_le hj h.size) hne).trans (h.block j hj hne)⟩
/-- what lies elsewhere reads on -/
def Apart (a : Option Addr) (g : Nat) : Prop := ∀ b off, a = some ⟨b, off, none⟩ → b ≠ g
theorem Rd.gb {w w' : World} {k : IntKind} {a : Option Addr} {l : List Nat} {g : Nat} (h : Rd w k a l) (hg : w.grownBy w' (some g)) (hne : Apart a g) : Rd w' k a l := by
  intro j hj
  obtain ⟨b, off, e, hc⟩ := h j hj
  exact ⟨b, off, e, hg.cell hc (by intro e2; exact hne b off e (by simpa using e2))⟩
theorem Own.apart {w : World} {B : Nat} {e : TypeId} {k : IntKind} {a : Option Addr} {cap : Nat} {l : List Nat} {g : Nat} (h : Own w B e k a cap l) (hg : g < B) : Apart a g := by
  intro b off e
  rcases h.shape with ⟨h1, _⟩ | ⟨g', h1, hb, _⟩
  · rw [h1] at e; cases e
  · rw [h1] at e; simp at e; omega
theorem Own.apart' {w w' : World} {B B' : Nat} {e e' : TypeId} {k k' : IntKind} {a : Option Addr} {cap cap' : Nat} {l l' : List Nat} {g : Nat}
    (h : Own w B e k a cap l) (h' : Own w' B' e' k' (some ⟨g, 0, none⟩) cap' l') (hB : w.heap.size ≤ B') : Apart a g := by
  intro b off e
  have hg := h'.ge
  rcases h.shape with ⟨h1, _⟩ | ⟨g', h1, hb, hl, _⟩
  · rw [h1] at e; cases e
  · rw [h1] at e; simp at e; omega
theorem Own.gb {w w' : World} {B : Nat} {e : TypeId} {k : IntKind} {a : Option Addr} {cap : Nat} {l : List Nat} {g : Nat} (h : Own w B e k a cap l) (hg : w.grownBy w' (some g)) (hne : Apart a g) : Own w' B e k a cap l := by
  refine World.ownsRow.kept h hg ?_
  rcases h.shape with ⟨h1, _⟩ | ⟨g', h1, _⟩
  · left; rw [h1]; rfl
  · right; rw [h1]; intro e2; exact hne g' 0 h1 (by simpa [Value.ownBlock] using e2)
end Go.Proofs.YtimfpgpomafflaaGreatDoor

/- Walks: trim, same, great. -/
namespace Go.Proofs.YtimfpgpomafflaaGreatDoor
open Go.RowKit LM

set_option maxHeartbeats 400000 in
theorem trim_any (a : Option Addr) (cap : Nat) (l : List Nat) (w : World) (hl : l.length ≤ 9223372036854775807) (hrd : Rd w .u32 a l) (hcap : l.length ≤ cap) :
    Calls Tryz.prog 81 #[.slice a l.length cap] w fun e w' => e = .returned (.slice a (tr l).length cap) ∧ w = w' := by
  go_enter Tryz.func81, Tryz.ntmps81
  go_wp2
  go_loop [3] (fun i => ∃ k : Nat, k ≤ l.length ∧ tr (l.take k) = tr l ∧ i = .int .i64 k) (fun i => (intOf i).toNat)
  case atStart => exact ⟨l.length, Nat.le_refl _, by rw [List.take_length], rfl⟩
  case round =>
    obtain ⟨k, hk, ht, rfl⟩ := hrel
    have HT := Lib.hid ht; clear ht
    rcases Nat.eq_zero_or_pos k with h0 | h0
    · subst h0
      go_wp2
      go_ret
      have h := HT.out; simp only [List.take_zero, tr] at h
      exact ⟨by rw [← h]; rfl, rfl⟩
    · obtain ⟨m, rfl⟩ : ∃ m, k = m + 1 := ⟨k - 1, by omega⟩
      obtain ⟨b, off, ha, hc⟩ := hrd m (by omega)
      subst ha
      go_wp2
      · have h : (((l[m]?.getD 0 : Nat) : Int) == 0) = true := by assumption
        go_round
        case rel => exact ⟨m, by omega, by rw [tr_step (by omega) (by simpa using h)]; exact HT.out, rfl⟩
        case measure => simp [intOf]
      · have h : (((l[m]?.getD 0 : Nat) : Int) == 0) = false := by assumption
        go_ret
        refine ⟨?_, rfl⟩
        have e := tr_end (l := l) (k := m) (by omega) (by simpa using h)
        have e2 := HT.out
        rw [← e2, e, List.length_take, Nat.min_eq_left (by omega)]; rfl

theorem same_step {l m : List Nat} {k : Nat} (h1 : k < l.length) (h2 : k < m.length) (h : l.take k = m.take k) (e : l[k]?.getD 0 = m[k]?.getD 0) : l.take (k + 1) = m.take (k + 1) := by
  rw [take_snoc l k h1, take_snoc m k h2, h, e]

set_option maxHeartbeats 400000 in
/-- two lists are the same -/
theorem Same_any (a b : Option Addr) (ca cb : Nat) (l m : List Nat) (w : World) (hl : l.length ≤ 9223372036854775807) (hm : m.length ≤ 9223372036854775807) (ha : Rd w .u32 a l) (hb : Rd w .u32 b m) :
    Calls Tryz.prog 78 #[.slice a l.length ca, .slice b m.length cb] w fun e w' => e = .returned (.bool (decide (l = m))) ∧ Below w.heap.size w w' := by
  go_enter Tryz.func78, Tryz.ntmps78
  by_cases hlen : l.length = m.length
  · have HL := Lib.hid hlen
    have h1 : l.length ≤ m.length := by omega
    have h2 : m.length ≤ l.length := by omega
    clear hlen
    go_wp2
    go_loopw [5] (fun i wr => ∃ k : Nat, k ≤ l.length ∧ Hid (l.take k = m.take k) ∧ i = .int .i64 k ∧ Below w.heap.size w wr) (fun i _ => l.length - (intOf i).toNat)
    case atStart => exact ⟨0, Nat.zero_le _, (by simp : l.take 0 = m.take 0), rfl, Below.refl _ _⟩
    case round =>
      obtain ⟨k, hk, HT, rfl, hbl⟩ := hrel
      by_cases hlt : k < l.length
      · obtain ⟨b1, o1, e1, c1⟩ := ha.below hbl k hlt
        obtain ⟨b2, o2, e2, c2⟩ := hb.below hbl k (by omega)
        subst e1 e2
        go_wp2
        go_region
        all_goals go_wp2
        · have h : (((l[k] : Nat) : Int) != ((m[k]?.getD 0 : Nat) : Int)) = true := by assumption
          go_ret
          exact ⟨ret_bool (by symm; rw [decide_eq_false_iff_not]; intro e; subst e; simp [hlt] at h), hbl.drew⟩
        · have h : (((l[k] : Nat) : Int) != ((m[k]?.getD 0 : Nat) : Int)) = false := by assumption
          go_roundw
          case rel => exact ⟨k + 1, by omega, same_step (by omega) (by omega) HT.out (by simp at h; simp [hlt]; omega), by go_num, hbl.drew⟩
          case measure => simp [intOf]; omega
      · go_wp2
        go_ret
        refine ⟨ret_bool ?_, hbl⟩
        have e := HT.out
        rw [List.take_of_length_le (by omega), List.take_of_length_le (by omega)] at e
        symm; rw [decide_eq_true_eq]; exact e
  · go_wp2
    go_ret
    exact ⟨ret_bool (by simp; intro h; exact hlen (by rw [h])), Below.refl _ _⟩
end Go.Proofs.YtimfpgpomafflaaGreatDoor

/- Walks: great, same, Norm. -/
namespace Go.Proofs.YtimfpgpomafflaaGreatDoor
open Go.RowKit LM

theorem infoU32 : (Tryz.prog.info? 40).map (fun i => (i.zero, i.size, i.bytes)) = some (some (.int .u32 0), 1, 4) := by kernel_rfl
theorem infoU8 : (Tryz.prog.info? 5).map (fun i => (i.zero, i.size, i.bytes)) = some (some (.int .u8 0), 1, 1) := by kernel_rfl
theorem infoInt : (Tryz.prog.info? 3).map (fun i => (i.zero, i.size, i.bytes)) = some (some (.int .i64 0), 1, 8) := by kernel_rfl

set_option maxHeartbeats 1000000 in
/-- Norm: the plain list of the worth -/
theorem Norm_any (a : Option Addr) (cap : Nat) (l : List Nat) (w : World) (hl : l.length ≤ 35184372088832) (hlo : Lo 4294967296 l) (hrd : Rd w .u32 a l) :
    Calls Tryz.prog 62 #[.slice a l.length cap] w fun e w' => ∃ a' cap', e = .returned (.slice a' (dg 1000000000 (vl 1000000000 l)).length cap') ∧ Own w' w.heap.size 40 .u32 a' cap' (dg 1000000000 (vl 1000000000 l)) ∧ Below w.heap.size w w' := by
  go_enter Tryz.func62, Tryz.ntmps62
  go_wp2_with (at_make; refine wp_make0 _ rfl _ _ 22 rfl w.heap.size 40 .u32 4 Tryz.underlying22 infoU32 _ _ _ (l.length + 1) rfl rfl (by omega) (by omega) (by unfold maxLen; omega) (Nat.le_refl _) ?_)
  intro w1 hown1 hb1
  go_wp2
  go_loopw [3, 4, 13] (fun v3 v4 i wr => ∃ k c : Nat, k ≤ l.length ∧ i = .int .i64 k ∧ Hid (c = ncar l k) ∧ c ≤ 4 ∧ v4 = .int .u64 c ∧ v3 = .slice (some ⟨w.heap.size, 0, none⟩) k (l.length + 1) ∧
     Own wr w.heap.size 40 .u32 (some ⟨w.heap.size, 0, none⟩) (l.length + 1) (nlow l k) ∧ Below w.heap.size w wr) (fun _ _ i _ => l.length - (intOf i).toNat)
  case atStart => exact ⟨0, 0, Nat.zero_le _, rfl, rfl, by omega, rfl, rfl, hown1, hb1⟩
  case round =>
    obtain ⟨k, c, hk, rfl, HC, hc4, rfl, rfl, hown, hbl⟩ := hrel
    by_cases hlt : k < l.length
    · obtain ⟨b, off, x, e1, HX, hx, c1⟩ := (hrd.below hbl).get hlo k hlt
      subst e1
      go_wp2_with (at_builtin; refine wp_pushFits wr rfl _ _ 22 rfl w.heap.size 40 .u32 4 Tryz.underlying22 infoU32 w.heap.size (l.length + 1) k (nlow l k) (by rw [nlow_length]) rfl _ ((x + c) % 1000000000) (by omega) _ rfl hown (by rw [nlow_length]; omega) (hbl.size) ?_)
      intro w2 hown2 hb2
      have hbl2 := hbl.trans hb2
      clear hown hbl hown1 hb1 hb2
      go_wp2
      go_roundw
      case rel => exact ⟨k + 1, (x + c) / 1000000000, by omega, by go_num, by show (x + c) / 1000000000 = ncar l (k + 1); rw [ncar, ← HX.out, ← HC.out], by omega, by go_num, rfl, by rw [nlow, ← HX.out, ← HC.out]; exact hown2, hbl2⟩
      case measure => simp [intOf]; omega
    · obtain rfl : k = l.length := by omega
      go_wp2_with (at_builtin; refine wp_pushFits wr rfl _ _ 22 rfl w.heap.size 40 .u32 4 Tryz.underlying22 infoU32 w.heap.size (l.length + 1) l.length (nlow l l.length) (by rw [nlow_length]) rfl _ c rfl _ rfl hown (by rw [nlow_length]; omega) (hbl.size) ?_)
      intro w2 hown2 hb2
      have hbl2 := hbl.trans hb2
      have hrd2 := hown2.rd
      have hlen2 : (nlow l l.length ++ [c]).length = l.length + 1 := by rw [List.length_append, nlow_length]; rfl
      have ht := trim_any (some ⟨w.heap.size, 0, none⟩) (l.length + 1) _ w2 (by rw [hlen2]; omega) hrd2 (by rw [hlen2]; omega)
      rw [hlen2] at ht
      have htr : tr (nlow l l.length ++ [c]) = dg 1000000000 (vl 1000000000 l) := by rw [HC.out]; exact norm_eq hlo
      rw [htr] at ht
      have ht2 := tr_take (nlow l l.length ++ [c])
      rw [htr] at ht2
      have hle : (dg 1000000000 (vl 1000000000 l)).length ≤ (nlow l l.length ++ [c]).length := by rw [ht2]; simp; omega
      have hown3 := hown2.take _ hle
      rw [← ht2] at hown3
      have HT := Lib.hid ht
      clear ht ht2 htr hle hlen2 hrd2 hown2 hown hb2 hown1 hb1
      go_wp2_with (go_at_call 81; refine HT.out.mono ?_; rintro e w' ⟨rfl, rfl⟩)
      go_ret
      exact ⟨_, _, rfl, hown3, hbl2⟩

theorem dg_more {b : Nat} (hb : 2 ≤ b) {n r : Nat} {d : List Nat} (hr : 0 < r) (h : dg b n = d ++ dg b r) : dg b n = d ++ [r % b] ++ dg b (r / b) := by
  rw [h, dg_pos hb hr]; simp
theorem pow_more {b : Nat} {n r k : Nat} (h : r * b ^ k ≤ n) : r / b * b ^ (k + 1) ≤ n := by
  refine Nat.le_trans ?_ h
  rw [Nat.pow_succ, Nat.mul_comm (b ^ k) b, ← Nat.mul_assoc]
  exact Nat.mul_le_mul_right _ (Nat.div_mul_le_self r b)
theorem len_64 {b : Nat} (hb : 2 ≤ b) {n r k : Nat} (hr : 0 < r) (hn : n < 18446744073709551616) (h : r * b ^ k ≤ n) : k < 64 := by
  rcases Nat.lt_or_ge k 64 with h1 | h1
  · exact h1
  · exfalso
    have h2 : 2 ^ 64 ≤ b ^ k := Nat.le_trans (Nat.pow_le_pow_left hb 64) (Nat.pow_le_pow_right (by omega) h1)
    have h3 : b ^ k ≤ r * b ^ k := Nat.le_mul_of_pos_left _ hr
    have : (2 : Nat) ^ 64 = 18446744073709551616 := by decide
    omega

set_option maxHeartbeats 1000000 in
/-- Of: the plain list of a number -/
theorem Of_any (n : Nat) (w : World) (hn : n < 18446744073709551616) :
    Calls Tryz.prog 53 #[.int .u64 n] w fun e w' => ∃ a' cap', e = .returned (.slice a' (dg 1000000000 n).length cap') ∧ Own w' w.heap.size 40 .u32 a' cap' (dg 1000000000 n) ∧ Below w.heap.size w w' := by
  go_enter Tryz.func53, Tryz.ntmps53
  go_wp2
  go_loopw [3, 4] (fun v3 v4 wr => ∃ (r m cap : Nat) (ao : Option Addr) (d : List Nat), v3 = .slice ao m cap ∧ v4 = .int .u64 r ∧ Hid (dg 1000000000 n = d ++ dg 1000000000 r) ∧ Hid (r * 1000000000 ^ m ≤ n) ∧ Hid (m = d.length) ∧ r ≤ 18446744073709551615 ∧
     Own wr w.heap.size 40 .u32 ao cap d ∧ Below w.heap.size w wr) (fun _ r _ => (intOf r).toNat)
  case atStart => exact ⟨n, 0, 0, none, [], rfl, rfl, (rfl : dg 1000000000 n = [] ++ dg 1000000000 n), (by simp : n * 1000000000 ^ 0 ≤ n), (rfl : (0:Nat) = [].length), by omega, Own.nilNone _ _ _ _, Below.refl _ _⟩
  case round =>
    obtain ⟨r, m, cap, ao, d, rfl, rfl, HD, HP, HM, hr, hown, hbl⟩ := hrel
    rcases Nat.eq_zero_or_pos r with h0 | h0
    · subst h0
      have e := HD.out
      rw [dg_zero, List.append_nil] at e
      have hm := HM.out
      have hown' : Own wr w.heap.size 40 .u32 ao cap (dg 1000000000 n) := by rw [e]; exact hown
      have hm' : m = (dg 1000000000 n).length := by rw [e]; exact hm
      have H := Lib.hid hm'
      clear e hm hm'
      go_wp2
      go_ret
      exact ⟨ao, cap, ret_slice H.out, hown', hbl⟩
    · have hm64 := len_64 (by omega) h0 hn HP.out
      have hl := HM.out
      have hd1 : (d.length + 1) * 4 ≤ 140737488355328 := by omega
      have hd2 : d.length + 1 ≤ maxLen := by unfold maxLen; omega
      have HL := Lib.hid hl; clear hl
      go_wp2_with (at_builtin; refine wp_push wr rfl _ _ 22 rfl w.heap.size 40 .u32 4 Tryz.underlying22 infoU32 ao cap m d HL.out rfl _ (r % 1000000000) (by omega) _ rfl hown hd1 hd2 (hbl.size) ?_)
      intro ao' cap' w2 hown2 hb2
      have hbl2 := hbl.trans hb2
      clear hown hbl hb2
      go_wp2
      go_roundw
      case rel => exact ⟨r / 1000000000, m + 1, cap', ao', d ++ [r % 1000000000], rfl, by go_num, dg_more (by omega) h0 HD.out, pow_more HP.out, (by rw [HL.out]; simp : m + 1 = (d ++ [r % 1000000000]).length), by omega, hown2, hbl2⟩
      case measure => simp [intOf]; omega

set_option maxHeartbeats 1000000 in
/-- Small: the digits of a number -/
theorem Small_any (n : Nat) (w : World) (hn : n < 18446744073709551616) :
    Calls Tryz.prog 113 #[.int .u64 n] w fun e w' => ∃ a' cap', e = .returned (.slice a' (dg 10 n).length cap') ∧ Own w' w.heap.size 5 .u8 a' cap' (dg 10 n) ∧ Below w.heap.size w w' := by
  go_enter Tryz.func113, Tryz.ntmps113
  go_wp2
  go_loopw [3, 0] (fun v3 v4 wr => ∃ (r m cap : Nat) (ao : Option Addr) (d : List Nat), v3 = .slice ao m cap ∧ v4 = .int .u64 r ∧ Hid (dg 10 n = d ++ dg 10 r) ∧ Hid (r * 10 ^ m ≤ n) ∧ Hid (m = d.length) ∧ r ≤ 18446744073709551615 ∧
     Own wr w.heap.size 5 .u8 ao cap d ∧ Below w.heap.size w wr) (fun _ r _ => (intOf r).toNat)
  case atStart => exact ⟨n, 0, 0, none, [], rfl, rfl, (rfl : dg 10 n = [] ++ dg 10 n), (by simp : n * 10 ^ 0 ≤ n), (rfl : (0:Nat) = [].length), by omega, Own.nilNone _ _ _ _, Below.refl _ _⟩
  case round =>
    obtain ⟨r, m, cap, ao, d, rfl, rfl, HD, HP, HM, hr, hown, hbl⟩ := hrel
    rcases Nat.eq_zero_or_pos r with h0 | h0
    · subst h0
      have e := HD.out
      rw [dg_zero, List.append_nil] at e
      have hm := HM.out
      have hown' : Own wr w.heap.size 5 .u8 ao cap (dg 10 n) := by rw [e]; exact hown
      have hm' : m = (dg 10 n).length := by rw [e]; exact hm
      have H := Lib.hid hm'
      clear e hm hm'
      go_wp2
      go_ret
      exact ⟨ao, cap, ret_slice H.out, hown', hbl⟩
    · have hm64 := len_64 (by omega) h0 hn HP.out
      have hl := HM.out
      have hd1 : (d.length + 1) * 1 ≤ 140737488355328 := by omega
      have hd2 : d.length + 1 ≤ maxLen := by unfold maxLen; omega
      have HL := Lib.hid hl; clear hl
      go_wp2_with (at_builtin; refine wp_push wr rfl _ _ 51 rfl w.heap.size 5 .u8 1 Tryz.underlying51 infoU8 ao cap m d HL.out rfl _ (r % 10) (by omega) _ rfl hown hd1 hd2 (hbl.size) ?_)
      intro ao' cap' w2 hown2 hb2
      have hbl2 := hbl.trans hb2
      clear hown hbl hb2
      go_wp2
      go_roundw
      case rel => exact ⟨r / 10, m + 1, cap', ao', d ++ [r % 10], rfl, by go_num, dg_more (by omega) h0 HD.out, pow_more HP.out, (by rw [HL.out]; simp : m + 1 = (d ++ [r % 10]).length), by omega, hown2, hbl2⟩
      case measure => simp [intOf]; omega

theorem pow10_le {k : Nat} (h : k ≤ 8) : 10 ^ k ≤ 100000000 := Nat.le_trans (Nat.pow_le_pow_right (by omega) h) (by decide)

set_option maxHeartbeats 400000 in
theorem tenTo_any (n : Nat) (w : World) (hn : n ≤ 8) :
    Calls Tryz.prog 105 #[.int .i64 n] w fun e w' => ∃ q : Nat, Hid (q = 10 ^ n) ∧ q ≤ 100000000 ∧ e = .returned (.int .u32 q) ∧ w = w' := by
  go_enter Tryz.func105, Tryz.ntmps105
  go_wp2
  go_loop [3, 5] (fun p i => ∃ k q : Nat, k ≤ n ∧ i = .int .i64 k ∧ p = .int .u32 q ∧ Hid (q = 10 ^ k) ∧ q ≤ 100000000) (fun _ i => n - (intOf i).toNat)
  case atStart => exact ⟨0, 1, Nat.zero_le _, rfl, rfl, (rfl : 1 = 10 ^ 0), by omega⟩
  case round =>
    obtain ⟨k, q, hk, rfl, rfl, HQ, hq⟩ := hrel
    by_cases hlt : k < n
    · have h10 : q * 10 ≤ 100000000 := by rw [HQ.out, ← Nat.pow_succ]; exact pow10_le (by omega)
      go_wp2
      go_round
      case rel => exact ⟨k + 1, q * 10, by omega, by go_num, by go_num, (by rw [HQ.out, Nat.pow_succ] : q * 10 = 10 ^ (k + 1)), h10⟩
      case measure => simp [intOf]; omega
    · obtain rfl : k = n := by omega
      go_wp2
      go_ret
      exact ⟨q, HQ, hq, rfl, rfl⟩

set_option maxHeartbeats 400000 in
theorem mayShift_yes (n : Nat) (w : World) (h : n ≤ 30000) :
    Calls Tryz.prog 104 #[.int .i64 n] w fun e w' => e = .returned (.bool true) ∧ w = w' := by
  go_enter Tryz.func104, Tryz.ntmps104
  go_wp2
  go_ret
  exact ⟨ret_bool (by simp; omega), rfl⟩
set_option maxHeartbeats 400000 in
theorem mayShift_no (n : Int) (w : World) (h : n < 0 ∨ 30000 < n) :
    Calls Tryz.prog 104 #[.int .i64 n] w fun e w' => e = .returned (.bool false) ∧ w = w' := by
  rcases h with h | h
  · go_enter Tryz.func104, Tryz.ntmps104
    go_wp2
    go_ret
    exact ⟨rfl, rfl⟩
  · have h2 : ¬ n < 0 := by omega
    have h3 : 0 ≤ n := by omega
    go_enter Tryz.func104, Tryz.ntmps104
    go_wp2
    go_ret
    exact ⟨ret_bool (by simp; omega), rfl⟩
end Go.Proofs.YtimfpgpomafflaaGreatDoor

/- Walks: cmp.Compare, Cmp, takeOff. -/
namespace Go.Proofs.YtimfpgpomafflaaGreatDoor
open Go.RowKit LM

set_option maxHeartbeats 400000 in
theorem CmpInt_any (a b : Nat) (w : World) (_ha : a ≤ 9223372036854775807) (_hb : b ≤ 9223372036854775807) :
    Calls Tryz.prog 88 #[.int .i64 a, .int .i64 b] w fun e w' => e = .returned (.int .i64 (cmpN a b)) ∧ w = w' := by
  rcases Nat.lt_trichotomy a b with h | h | h
  · rw [cmpN_lt h]
    go_enter Tryz.func88, Tryz.ntmps88
    go_wp2
    go_ret
    exact ⟨rfl, rfl⟩
  · subst h
    rw [cmpN_eq]
    go_enter Tryz.func88, Tryz.ntmps88
    go_wp2
    go_ret
    exact ⟨rfl, rfl⟩
  · rw [cmpN_gt h]
    have h2 : ¬ a < b := by omega
    go_enter Tryz.func88, Tryz.ntmps88
    go_wp2
    go_ret
    exact ⟨rfl, rfl⟩

set_option maxHeartbeats 400000 in
theorem CmpU32_any (a b : Nat) (w : World) (_ha : a < 4294967296) (_hb : b < 4294967296) :
    Calls Tryz.prog 89 #[.int .u32 a, .int .u32 b] w fun e w' => e = .returned (.int .i64 (cmpN a b)) ∧ w = w' := by
  rcases Nat.lt_trichotomy a b with h | h | h
  · rw [cmpN_lt h]
    go_enter Tryz.func89, Tryz.ntmps89
    go_wp2
    go_ret
    exact ⟨rfl, rfl⟩
  · subst h
    rw [cmpN_eq]
    go_enter Tryz.func89, Tryz.ntmps89
    go_wp2
    go_ret
    exact ⟨rfl, rfl⟩
  · rw [cmpN_gt h]
    have h2 : ¬ a < b := by omega
    go_enter Tryz.func89, Tryz.ntmps89
    go_wp2
    go_ret
    exact ⟨rfl, rfl⟩

theorem cmp_part {x y : List Nat} {k u v : Nat} (hx : Lo 1000000000 x) (hy : Lo 1000000000 y) (h1 : k < x.length) (h2 : k < y.length) (hd : x.drop (k + 1) = y.drop (k + 1))
    (hu : u = x[k]?.getD 0) (hv : v = y[k]?.getD 0) (hne : u ≠ v) : cmpN u v = cmpN (vl 1000000000 x) (vl 1000000000 y) := by
  rcases Nat.lt_or_ge u v with h | h
  · rw [cmpN_lt h, cmpN_lt (vl_part hx h1 h2 hd (by omega))]
  · rw [cmpN_gt (by omega), cmpN_gt (vl_part hy h2 h1 hd.symm (by omega))]
theorem cmp_len {m n : Nat} (h : (dg 1000000000 m).length ≠ (dg 1000000000 n).length) : cmpN (dg 1000000000 m).length (dg 1000000000 n).length = cmpN m n := by
  rcases Nat.lt_or_ge (dg 1000000000 m).length (dg 1000000000 n).length with h1 | h1
  · rw [cmpN_lt h1, cmpN_lt (dg_len_lt (by omega) h1)]
  · rw [cmpN_gt (by omega), cmpN_gt (dg_len_lt (b := 1000000000) (by omega) (by omega))]
theorem vl_bound {l : List Nat} (h : Lo 4294967296 l) : vl 1000000000 l < 1000000000 ^ (l.length + 1) := by
  have h1 := nlow_worth l l.length (Nat.le_refl _)
  rw [List.take_length] at h1
  have h2 := vl_lt (Lo_nlow l l.length)
  rw [nlow_length] at h2
  have h3 := ncar_le h l.length
  have h4 : 1000000000 ^ l.length * ncar l l.length ≤ 1000000000 ^ l.length * 4 := Nat.mul_le_mul_left _ h3
  rw [Nat.pow_succ]
  omega
theorem nlen {l : List Nat} (h : Lo 4294967296 l) : (dg 1000000000 (vl 1000000000 l)).length ≤ l.length + 1 := dg_len_of_lt (by omega) (vl_bound h)

set_option maxHeartbeats 2000000 in
theorem Cmp_any (a b : Option Addr) (ca cb : Nat) (l m : List Nat) (w : World) (hl : l.length ≤ 1073741824) (hm : m.length ≤ 1073741824) (hlo : Lo 4294967296 l) (hmo : Lo 4294967296 m) (ha : Rd w .u32 a l) (hb : Rd w .u32 b m) :
    Calls Tryz.prog 56 #[.slice a l.length ca, .slice b m.length cb] w fun e w' => e = .returned (.int .i64 (cmpN (vl 1000000000 l) (vl 1000000000 m))) ∧ Below w.heap.size w w' := by
  have hn1 := nlen hlo
  have hn2 := nlen hmo
  have HN1 := Lib.hid hlo; have HN2 := Lib.hid hmo
  clear hlo hmo
  go_enter Tryz.func56, Tryz.ntmps56
  go_wp2_with fail
  refine (Norm_any a ca l w (by omega) HN1.out ha).mono ?_
  rintro e w1 ⟨a1, c1, rfl, hown1, hb1⟩
  go_wp2_with fail
  refine (Norm_any b cb m w1 (by omega) HN2.out (hb.below hb1)).mono ?_
  rintro e w2 ⟨a2, c2, rfl, hown2, hb2⟩
  have hbl : Below w.heap.size w w2 := hb1.trans (hb2.mono hb1.size)
  have hx := (hown1.below hb2).rd
  have hy := hown2.rd
  clear hown1 hown2 hb1 hb2 ha hb
  have hlx := Lo_dg (b := 1000000000) (by omega) (vl 1000000000 l)
  have hly := Lo_dg (b := 1000000000) (by omega) (vl 1000000000 m)
  have HLX := Lib.hid hlx; have HLY := Lib.hid hly
  clear hlx hly
  have hvx := vl_dg (b := 1000000000) (by omega) (vl 1000000000 l)
  have hvy := vl_dg (b := 1000000000) (by omega) (vl 1000000000 m)
  have hclen := @cmp_len (vl 1000000000 l) (vl 1000000000 m)
  have HVX := Lib.hid hvx; have HVY := Lib.hid hvy; have HC := Lib.hid hclen
  clear hvx hvy hclen
  generalize hX : dg 1000000000 (vl 1000000000 l) = X at *
  generalize hY : dg 1000000000 (vl 1000000000 m) = Y at *
  clear hX hY
  by_cases hlen : X.length = Y.length
  · have h1 : X.length ≤ Y.length := by omega
    have h2 : Y.length ≤ X.length := by omega
    clear hlen
    go_wp2_with fail
    go_loopw [25] (fun i wr => ∃ k : Nat, k ≤ X.length ∧ Hid (X.drop (X.length - k) = Y.drop (X.length - k)) ∧ i = .int .i64 k ∧ Below w.heap.size w wr ∧ Rd wr .u32 a1 X ∧ Rd wr .u32 a2 Y) (fun i _ => X.length - (intOf i).toNat)
    case atStart => exact ⟨0, Nat.zero_le _, (by simp [h1, h2] : X.drop (X.length - 0) = Y.drop (X.length - 0)), rfl, hbl, hx, hy⟩
    case round =>
      obtain ⟨k, hk, HD, rfl, hblr, hxr, hyr⟩ := hrel
      by_cases hlt : k < X.length
      · obtain ⟨b1, o1, u, e1, HU, hu, cu⟩ := hxr.get HLX.out (X.length - 1 - k) (by omega)
        obtain ⟨b2, o2, v, e2, HV, hv, cv⟩ := hyr.get HLY.out (X.length - 1 - k) (by omega)
        have hd1 : X.length - 1 - k + 1 = X.length - k := by omega
        have HD1 := Lib.hid hd1; clear hd1
        subst e1 e2
        by_cases huv : u = v
        · subst huv
          go_wp2_with fail
          go_quiet (fail)
          go_wp2
          go_roundw
          case rel => exact ⟨k + 1, by omega, (by rw [show X.length - (k + 1) = X.length - 1 - k by omega]; exact drop_step (by omega) (by omega) (by rw [HD1.out]; exact HD.out) (by rw [← HU.out, ← HV.out]) : X.drop (X.length - (k + 1)) = Y.drop (X.length - (k + 1))), by go_num, bdN hblr _, hxr.dN _, hyr.dN _⟩
          case measure => simp [intOf]; omega
        · have hcmp := cmp_part HLX.out HLY.out (show X.length - 1 - k < X.length by omega) (by omega) (by rw [HD1.out]; exact HD.out) HU.out HV.out huv
          rw [HVX.out, HVY.out] at hcmp
          have HCM := Lib.hid hcmp; clear hcmp
          go_wp2_with fail
          go_quiet (fail)
          go_wp2_with fail
          go_quiet ((go_at_call 89; first | exact still (CmpU32_any u v _ (by omega) (by omega)) | exact still2 (CmpU32_any u v _ (by omega) (by omega))))
          go_wp2
          go_ret
          exact ⟨ret_int HCM.out, bdN (bdN hblr _) _⟩
      · obtain rfl : k = X.length := by omega
        have e := HD.out
        rw [Nat.sub_self, List.drop_zero, List.drop_zero] at e
        have hcmp : cmpN (vl 1000000000 l) (vl 1000000000 m) = 0 := by rw [← HVX.out, ← HVY.out, e, cmpN_eq]
        have HCM := Lib.hid hcmp
        clear e hcmp
        go_wp2
        go_ret
        exact ⟨ret_int HCM.out.symm, hblr⟩
  · have hcmp := HC.out hlen
    have HCM := Lib.hid hcmp; clear hcmp
    go_wp2_with fail
    refine (CmpInt_any X.length Y.length w2 (by omega) (by omega)).mono ?_
    rintro e w' ⟨rfl, rfl⟩
    go_wp2
    go_ret
    exact ⟨ret_int HCM.out, hbl⟩
end Go.Proofs.YtimfpgpomafflaaGreatDoor

/- Walks: takeOff. -/
namespace Go.Proofs.YtimfpgpomafflaaGreatDoor
open Go.RowKit LM

theorem off_c {c t v : Nat} (hc : c ≤ t + 1) (ht : t ≤ 1000000000) (hv : v < 1000000000) : t * v + t ≤ t * 1000000000 := by
  have : t * (v + 1) ≤ t * 1000000000 := Nat.mul_le_mul_left _ hv
  rw [Nat.mul_add, Nat.mul_one] at this; exact this

theorem own_step {w : World} {B : Nat} {e : TypeId} {ki : IntKind} {g C : Nat} {L d : List Nat} {off k : Nat} (h : Own w B e ki (some ⟨g, 0, none⟩) C (win L d off)) (hk : d.length = k) (hlt : off + k < L.length) (v : Nat) {yv : Int} (hy : yv = (v : Int)) :
    Own (w.setCell ⟨g, off + k, none⟩ (.int ki yv)) B e ki (some ⟨g, 0, none⟩) C (win L (d ++ [v]) off) := by
  have := h.set' (off + k) v hy
  subst hk
  rwa [win_set v hlt] at this
theorem own_step2 {w : World} {B : Nat} {e : TypeId} {ki : IntKind} {g C : Nat} {L d : List Nat} {off k : Nat} (h : Own w B e ki (some ⟨g, 0, none⟩) C (win L d off)) (hk : d.length = k) (hlt : off + k < L.length) (v v1 : Nat) {yv yv1 : Int} (hy : yv = (v : Int)) (hy1 : yv1 = (v1 : Int)) :
    Own ((w.setCell ⟨g, off + k, none⟩ (.int ki yv1)).setCell ⟨g, off + k, none⟩ (.int ki yv)) B e ki (some ⟨g, 0, none⟩) C (win L (d ++ [v]) off) := by
  have := (h.set' (off + k) v1 hy1).set' (off + k) v hy
  subst hk
  rwa [List.set_set, win_set v hlt] at this
theorem low_c {q t : Nat} (hq : q ≤ t * 1000000000 + 1) (ht : 1 ≤ t) : q / 1000000000 + 1 ≤ t + 1 := by omega
/-- the closing of a round: what was and what is -/
theorem off_round {x y d : List Nat} {t c k u v c' z : Nat} (hk : k < x.length) (hd : d.length = k) (hu : u = x[k]?.getD 0) (hv : v = y[k]?.getD 0)
    (h : vl 1000000000 (x.take k) + 1000000000 ^ k * c = vl 1000000000 d + t * vl 1000000000 (y.take k)) (hz : u + 1000000000 * c' = z + (c + t * v)) :
    vl 1000000000 (x.take (k + 1)) + 1000000000 ^ (k + 1) * c' = vl 1000000000 (d ++ [z]) + t * vl 1000000000 (y.take (k + 1)) :=
  off_step hk hd h c' z (c + t * v) (by rw [hv]) (by rw [← hu]; exact hz)

set_option maxHeartbeats 4000000 in
/-- takeOff: t times y is taken off the window of the row L -/
theorem takeOff_any (B g C off n cx cy t : Nat) (ya : Option Addr) (L y : List Nat) (w : World) (hown : Own w B 40 .u32 (some ⟨g, 0, none⟩) C L) (hoff : off + n ≤ L.length) (hL : L.length ≤ 4294967296)
    (hy : y.length ≤ n) (hyl : Lo 1000000000 y) (hxl : Lo 1000000000 ((L.drop off).take n)) (ht : t ≤ 1000000000) (hry : Rd w .u32 ya y) (hap : Apart ya g) (hle : t * vl 1000000000 y ≤ vl 1000000000 ((L.drop off).take n)) :
    Calls Tryz.prog 80 #[.slice (some ⟨g, off, none⟩) n cx, .slice ya y.length cy, .int .u64 t] w fun e w' => e = .returned (.tuple #[]) ∧ ∃ d : List Nat, d.length = n ∧ Lo 1000000000 d ∧
      vl 1000000000 d = vl 1000000000 ((L.drop off).take n) - t * vl 1000000000 y ∧ Own w' B 40 .u32 (some ⟨g, 0, none⟩) C (win L d off) ∧ w.grownBy w' (some g) := by
  have hxn : ((L.drop off).take n).length = n := by simp; omega
  have HXN := Lib.hid hxn
  have HYL := Lib.hid hyl; have HXL := Lib.hid hxl; have HLE := Lib.hid hle; have HAP := Lib.hid hap
  clear hxn hyl hxl hle hap
  go_enter Tryz.func80, Tryz.ntmps80
  go_wp2
  go_loopw [6, 12] (fun s6 i wr => ∃ (k c : Nat) (d : List Nat), k ≤ n ∧ i = .int .i64 k ∧ s6 = .int .u64 c ∧ c ≤ t + 1 ∧ Hid (d.length = k) ∧ Hid (Lo 1000000000 d) ∧
      Hid (vl 1000000000 (((L.drop off).take n).take k) + 1000000000 ^ k * c = vl 1000000000 d + t * vl 1000000000 (y.take k)) ∧ Own wr B 40 .u32 (some ⟨g, 0, none⟩) C (win L d off) ∧ w.grownBy wr (some g))
    (fun _ i _ => n - (intOf i).toNat)
  case atStart => exact ⟨0, 0, [], Nat.zero_le _, rfl, rfl, by omega, (rfl : ([] : List Nat).length = 0), (Lo_nil _), (by simp [vl] : vl 1000000000 (((L.drop off).take n).take 0) + 1000000000 ^ 0 * 0 = vl 1000000000 [] + t * vl 1000000000 (y.take 0)), by rw [win_nil]; exact hown, gb_refl _ _⟩
  case round =>
    obtain ⟨k, c, d, hk, rfl, rfl, hc, HDL, HDLo, HV, hownr, hgb⟩ := hrel
    by_cases hlt : k < n
    · have hdk := HDL.out
      have hwl : (win L d off).length = L.length := win_length (by omega)
      have hcell := hownr.cell (off + k) (by omega)
      have hu0 : (win L d off)[off + k]?.getD 0 = ((L.drop off).take n)[k]?.getD 0 := by rw [window_get hlt, ← hdk]; exact win_get (by omega)
      rw [hu0] at hcell
      have hfr := hownr.frozen (off + k)
      have hu1 : ((L.drop off).take n)[k]?.getD 0 < 1000000000 := Lo_get HXL.out (by omega) k
      obtain ⟨u, hu⟩ : ∃ u, u = ((L.drop off).take n)[k]?.getD 0 := ⟨_, rfl⟩
      rw [← hu] at hcell hu1
      have HU := Lib.hid hu
      clear hu hu0 hwl hdk
      by_cases hky : k < y.length
      · obtain ⟨b, o, v, e1, HVk, hv, cv⟩ := (hry.gb hgb HAP.out).get HYL.out k hky
        have hoc := off_c hc ht hv
        have hbig : t * 1000000000 ≤ 1000000000000000000 := by omega
        have hp0 : (0 : Int) ≤ (t : Int) * (v : Int) := by have := Nat.zero_le (t * v); rw [← Int.natCast_mul]; omega
        have hp1 : (t : Int) * (v : Int) + (t : Int) ≤ (t : Int) * 1000000000 := by rw [← Int.natCast_mul]; omega
        subst e1
        by_cases hlow : u < (c + t * v) % 1000000000
        · have hlowI : (u : Int) < ((c : Int) + (t : Int) * (v : Int)) % 1000000000 := by rw [← Int.natCast_mul]; omega
          go_wp2
          go_roundw
          case rel => exact ⟨k + 1, (c + t * v) / 1000000000 + 1, d ++ [u + 1000000000 - (c + t * v) % 1000000000], by omega, by go_num, by rw [← Int.natCast_mul]; go_num, by omega, (by rw [List.length_append, HDL.out]; rfl : (d ++ [u + 1000000000 - (c + t * v) % 1000000000]).length = k + 1), (Lo_append HDLo.out (Lo_one (by omega)) : Lo 1000000000 (d ++ [u + 1000000000 - (c + t * v) % 1000000000])),
            off_round (by rw [HXN.out]; exact hlt) HDL.out HU.out HVk.out HV.out (by omega), own_step2 hownr HDL.out (by omega) _ (u + 1000000000) (by rw [← Int.natCast_mul]; omega) (by omega), gb_set (gb_set hgb _ _) _ _⟩
          case measure => simp [intOf]; omega
        · have hlowI : ¬ (u : Int) < ((c : Int) + (t : Int) * (v : Int)) % 1000000000 := by rw [← Int.natCast_mul]; omega
          go_wp2
          go_roundw
          case rel => exact ⟨k + 1, (c + t * v) / 1000000000, d ++ [u - (c + t * v) % 1000000000], by omega, by go_num, by rw [← Int.natCast_mul]; go_num, by omega, (by rw [List.length_append, HDL.out]; rfl : (d ++ [u - (c + t * v) % 1000000000]).length = k + 1), (Lo_append HDLo.out (Lo_one (by omega)) : Lo 1000000000 (d ++ [u - (c + t * v) % 1000000000])),
            off_round (by rw [HXN.out]; exact hlt) HDL.out HU.out HVk.out HV.out (by omega), own_step hownr HDL.out (by omega) _ (by rw [← Int.natCast_mul]; omega), gb_set hgb _ _⟩
          case measure => simp [intOf]; omega
      · have hyv : (0 : Nat) = y[k]?.getD 0 := by simp [hky]
        have HYV := Lib.hid hyv
        clear hyv
        by_cases hlow : u < c % 1000000000
        · have hlowI : (u : Int) < (c : Int) % 1000000000 := by omega
          go_wp2
          go_roundw
          case rel => exact ⟨k + 1, c / 1000000000 + 1, d ++ [u + 1000000000 - c % 1000000000], by omega, by go_num, by go_num, by omega, (by rw [List.length_append, HDL.out]; rfl : (d ++ [u + 1000000000 - c % 1000000000]).length = k + 1), (Lo_append HDLo.out (Lo_one (by omega)) : Lo 1000000000 (d ++ [u + 1000000000 - c % 1000000000])),
            off_round (by rw [HXN.out]; exact hlt) HDL.out HU.out HYV.out HV.out (by omega), own_step2 hownr HDL.out (by omega) _ (u + 1000000000) (by omega) (by omega), gb_set (gb_set hgb _ _) _ _⟩
          case measure => simp [intOf]; omega
        · have hlowI : ¬ (u : Int) < (c : Int) % 1000000000 := by omega
          go_wp2
          go_roundw
          case rel => exact ⟨k + 1, c / 1000000000, d ++ [u - c % 1000000000], by omega, by go_num, by go_num, by omega, (by rw [List.length_append, HDL.out]; rfl : (d ++ [u - c % 1000000000]).length = k + 1), (Lo_append HDLo.out (Lo_one (by omega)) : Lo 1000000000 (d ++ [u - c % 1000000000])),
            off_round (by rw [HXN.out]; exact hlt) HDL.out HU.out HYV.out HV.out (by omega), own_step hownr HDL.out (by omega) _ (by omega), gb_set hgb _ _⟩
          case measure => simp [intOf]; omega
    · obtain rfl : k = n := by omega
      go_wp2
      go_end0
      have hV := HV.out
      rw [← HXN.out] at hV
      exact ⟨rfl, d, HDL.out, HDLo.out, off_end (by rw [HXN.out]; exact HDL.out) HDLo.out (by rw [HXN.out]; exact hy) HLE.out (by rw [HXN.out] at hV ⊢; exact hV), hownr, hgb⟩
end Go.Proofs.YtimfpgpomafflaaGreatDoor
