/- Memory predicates for lists of small numbers: a slice that reads as a list, a slice of the call's own. Nothing of the program. -/
import Derived.WalkKit
import Derived.Lib.Hide
import Derived.Deep.QuietTactic
import Derived.Test.YtpgiljibicigeaaGreatDoorLimbMaths
import Derived.Test.YtpgiljibicigeaaGreatDoorChecked
import Derived.Outline
set_option linter.unusedVariables false
set_option linter.unusedSimpArgs false
namespace Go.Proofs.YtpgiljibicigeaaGreatDoor
open Go.RowKit LM

/-- the cells of a list of numbers -/
def cs (k : IntKind) (l : List Nat) : List Value := l.map (fun (x : Nat) => Value.int k (x : Int))

/-- the slice at a reads as l -/
def Rd (w : World) (k : IntKind) (a : Option Addr) (l : List Nat) : Prop :=
  ∀ j, j < l.length → ∃ b off, a = some ⟨b, off, none⟩ ∧ w.cell? ⟨b, off + j, none⟩ = some (.int k ((l[j]?.getD 0 : Nat) : Int))

/-- the slice owns the cells of l, in a row from block B on -/
def Own (w : World) (B : Nat) (e : TypeId) (k : IntKind) (a : Option Addr) (cap : Nat) (l : List Nat) : Prop :=
  w.ownsRow B e 1 (.slice a l.length cap) l.length (cs k l)

theorem cs_length (k : IntKind) (l : List Nat) : (cs k l).length = l.length := by simp [cs]
theorem cs_append (k : IntKind) (l m : List Nat) : cs k (l ++ m) = cs k l ++ cs k m := by simp [cs]
theorem cs_get {k : IntKind} {l : List Nat} {j : Nat} (h : j < l.length) : (cs k l)[j]? = some (.int k ((l[j]?.getD 0 : Nat) : Int)) := by
  simp [cs, h]
theorem cs_set (k : IntKind) (l : List Nat) (j x : Nat) : cs k (l.set j x) = (cs k l).set j (.int k (x : Int)) := by simp [cs, List.map_set]
theorem cs_take (k : IntKind) (l : List Nat) (n : Nat) : cs k (l.take n) = (cs k l).take n := by simp [cs, List.map_take]
theorem cs_oneCell (k : IntKind) (l : List Nat) : ∀ u ∈ cs k l, u.oneCell' = true := by
  intro u hu; obtain ⟨_, _, rfl⟩ := List.mem_map.1 hu; rfl

theorem lt_of_cell {w : World} {a : Addr} {v : Value} (h : w.cell? a = some v) : a.block < w.heap.size := by
  rcases Nat.lt_or_ge a.block w.heap.size with h1 | h1
  · exact h1
  · exfalso
    have : w.heap[a.block]? = none := Array.getElem?_eq_none h1
    simp [World.cell?, this] at h

theorem Rd.nil (w : World) (k : IntKind) (a : Option Addr) : Rd w k a [] := fun j h => absurd h (by simp)
theorem Rd.below {w w' : World} {k : IntKind} {a : Option Addr} {l : List Nat} (h : Rd w k a l) (hb : Below w.heap.size w w') : Rd w' k a l := by
  intro j hj
  obtain ⟨b, off, e, hc⟩ := h j hj
  exact ⟨b, off, e, by rw [hb.cell (lt_of_cell hc)]; exact hc⟩
theorem Rd.below' {B : Nat} {w w' : World} {k : IntKind} {a : Option Addr} {l : List Nat} (h : Rd w k a l) (hb : Below B w w') (hB : w.heap.size ≤ B) : Rd w' k a l := h.below (hb.mono hB)
theorem Rd.mk {w : World} {k : IntKind} {b off : Nat} {l : List Nat} (h : ∀ j, j < l.length → w.cell? ⟨b, off + j, none⟩ = some (.int k ((l[j]?.getD 0 : Nat) : Int))) : Rd w k (some ⟨b, off, none⟩) l :=
  fun j hj => ⟨b, off, rfl, h j hj⟩
theorem Rd.get {w : World} {k : IntKind} {a : Option Addr} {l : List Nat} {M : Nat} (h : Rd w k a l) (hlo : Lo M l) (j : Nat) (hj : j < l.length) :
    ∃ b off x, a = some ⟨b, off, none⟩ ∧ Hid (x = l[j]?.getD 0) ∧ x < M ∧ w.cell? ⟨b, off + j, none⟩ = some (.int k (x : Int)) := by
  obtain ⟨b, off, e, hc⟩ := h j hj
  have hx : l[j]?.getD 0 < M := by have := hlo (l[j]) (List.getElem_mem hj); simpa [hj] using this
  exact ⟨b, off, _, e, rfl, hx, hc⟩
theorem Own.shape {w : World} {B : Nat} {e : TypeId} {k : IntKind} {a : Option Addr} {cap : Nat} {l : List Nat} (h : Own w B e k a cap l) :
    (a = none ∧ cap = 0 ∧ l = []) ∨ ∃ g, a = some ⟨g, 0, none⟩ ∧ B ≤ g ∧ g < w.heap.size ∧ l.length ≤ cap ∧ cap ≤ maxLen := by
  rcases h.2 with ⟨h', hn⟩ | ⟨g, cap', cur, h', hb, hg, hnc, hcm, _, _⟩
  · simp only [Value.slice.injEq] at h'
    exact .inl ⟨h'.1, h'.2.2, List.eq_nil_of_length_eq_zero hn⟩
  · simp only [Value.slice.injEq] at h'
    refine .inr ⟨g, h'.1, hb, ?_, by rw [h'.2.2]; exact hnc, by rw [h'.2.2]; exact hcm⟩
    exact (Array.getElem?_eq_some_iff.1 hg).1
theorem Own.cap {w : World} {B : Nat} {e : TypeId} {k : IntKind} {a : Option Addr} {cap : Nat} {l : List Nat} (h : Own w B e k a cap l) : l.length ≤ cap ∧ cap ≤ maxLen := by
  rcases h.shape with ⟨_, rfl, rfl⟩ | ⟨_, _, _, _, h1, h2⟩
  · exact ⟨by simp, by unfold maxLen; omega⟩
  · exact ⟨h1, h2⟩
theorem Own.rd {w : World} {B : Nat} {e : TypeId} {k : IntKind} {a : Option Addr} {cap : Nat} {l : List Nat} (h : Own w B e k a cap l) : Rd w k a l := by
  rcases h.shape with ⟨_, _, rfl⟩ | ⟨g, rfl, _⟩
  · exact Rd.nil _ _ _
  · refine Rd.mk fun j hj => ?_
    rw [Nat.zero_add]
    have h' : w.ownsRow B e 1 (.slice (some ⟨g, 0, none⟩) l.length cap) l.length (cs k l) := h
    rw [h'.cellAt j (by omega), cs_get hj]
theorem Own.frozen {w : World} {B : Nat} {e : TypeId} {k : IntKind} {g cap : Nat} {l : List Nat} (h : Own w B e k (some ⟨g, 0, none⟩) cap l) (j : Nat) : w.frozen? ⟨g, j, none⟩ = false :=
  World.ownsRow.frozenAt h j
theorem Own.below {w w' : World} {B : Nat} {e : TypeId} {k : IntKind} {a : Option Addr} {cap : Nat} {l : List Nat} (h : Own w B e k a cap l) (hb : Below w.heap.size w w') : Own w' B e k a cap l := by
  refine ⟨h.1, ?_⟩
  rcases h.2 with h' | ⟨g, cap', cur, h', hB, hg, hr⟩
  · exact .inl h'
  · exact .inr ⟨g, cap', cur, h', hB, by rw [hb.block g (Array.getElem?_eq_some_iff.1 hg).1]; exact hg, hr⟩
theorem Own.mono {w : World} {B B' : Nat} {e : TypeId} {k : IntKind} {a : Option Addr} {cap : Nat} {l : List Nat} (h : Own w B e k a cap l) (hB : B' ≤ B) : Own w B' e k a cap l := by
  refine ⟨h.1, ?_⟩
  rcases h.2 with h' | ⟨g, cap', cur, h', hBg, hr⟩
  · exact .inl h'
  · exact .inr ⟨g, cap', cur, h', Nat.le_trans hB hBg, hr⟩
theorem Own.take {w : World} {B : Nat} {e : TypeId} {k : IntKind} {a : Option Addr} {cap : Nat} {l : List Nat} (h : Own w B e k a cap l) (n : Nat) (hn : n ≤ l.length) : Own w B e k a cap (l.take n) := by
  have hl : (l.take n).length = n := by simp; omega
  unfold Own; rw [hl]
  refine ⟨by rw [cs_length, hl]; omega, ?_⟩
  rcases h.2 with ⟨h', h0⟩ | ⟨g, cap', cur, h', hB, hg, hnc, hcm, hs, ht⟩
  · simp only [Value.slice.injEq] at h'
    have : n = 0 := by omega
    exact .inl ⟨by rw [h'.1, h'.2.2, this], this⟩
  · simp only [Value.slice.injEq] at h'
    refine .inr ⟨g, cap', cur, by rw [h'.1, h'.2.2], hB, hg, by omega, hcm, hs, ?_⟩
    rw [cs_take, ← ht, List.take_take]; congr 1; omega
theorem Own.nilNone (w : World) (B : Nat) (e : TypeId) (k : IntKind) : Own w B e k none 0 [] := World.ownsRow_nil w B e 1
/-- a callee that leaves its world as it is, met inside a region of reads -/
theorem still {P : Program} {f : FuncId} {args : Array Value} {w : World} {n : Nat} {v : Value}
    (h : Calls P f args (w.drewN n) fun e u => e = .returned v ∧ w.drewN n = u) : Calls P f args (w.drewN n) fun e u => e = .returned v ∧ ∃ m, u = w.drewN m :=
  h.mono fun _ _ hh => ⟨hh.1, n, hh.2.symm⟩
theorem bdN {B : Nat} {a w : World} (h : Below B a w) (n : Nat) : Below B a (w.drewN n) := ⟨h.os, h.tape, h.output, h.size, h.block⟩
theorem Own.dN {w : World} {B : Nat} {e : TypeId} {k : IntKind} {a : Option Addr} {cap : Nat} {l : List Nat} (h : Own w B e k a cap l) (n : Nat) : Own (w.drewN n) B e k a cap l := h
theorem ret_int {k : IntKind} {a b : Int} (h : a = b) : Ending.returned (.int k a) = .returned (.int k b) := by rw [h]
theorem ret_slice {a : Option Addr} {n m c : Nat} (h : n = m) : Ending.returned (.slice a n c) = .returned (.slice a m c) := by rw [h]
theorem ret_bool {a b : Bool} (h : a = b) : Ending.returned (.bool a) = .returned (.bool b) := by rw [h]
end Go.Proofs.YtpgiljibicigeaaGreatDoor

/- Laws of the walk for a list of the call's own: made, appended to, written into. Nothing of the program. -/
namespace Go.Proofs.YtpgiljibicigeaaGreatDoor
open Go.RowKit

section
variable {P : Program} {ops : Array Oper} {rest : List Oper} {o : Oper} {a : Act} {Q : Exit → Act → World → Prop}

theorem Below.ofGrown {B : Nat} {w w' : World} {row : Option Nat} (hg : w.grownBy w' row) (hB : B ≤ w.heap.size) (hr : ∀ k, row = some k → B ≤ k) : Below B w w' := (Below.refl B w).grown hg hB hr

/-- 'append(l, y)', l the call's own; it may grow. -/
theorem wp_push (w0 : World) (hg : o.guard = none) (s x : Operand) (t : TypeId)
    (hop : o.op = Op.call { callee := Callee.builtin Builtin.append, args := #[s, x], argTypes := #[t, t] })
    (B : Nat) (e : TypeId) (k : IntKind) (bytes : Nat) (hu : P.underlying t = some (.slice e)) (hinfo : (P.info? e).map (fun i => (i.zero, i.size, i.bytes)) = some (some (.int k 0), 1, bytes))
    (ao : Option Addr) (cap n : Nat) (l : List Nat) (hn : n = l.length) (hs : a.eval s = .slice ao n cap) (yv : Int) (y : Nat) (hy : yv = (y : Int)) (e' : TypeId)
    (hx : a.eval x = .slice (some ⟨w0.heap.size, 0, none⟩) 1 1)
    (hown : Own w0 B e k ao cap l) (hbytes : (l.length + 1) * bytes ≤ 140737488355328) (hlen : l.length + 1 ≤ maxLen) (hB : B ≤ w0.heap.size)
    (hK : ∀ ao' cap' w', Own w' B e k ao' cap' (l ++ [y]) → Below B w0 w' → wpList P ops Q rest (a.put o.dst (.slice ao' (n + 1) cap')) w') :
    wpList P ops Q (o :: rest) a (w0.alloc (.cells #[.int k yv] e')) := by
  subst hn hy
  obtain ⟨i, hi, hz0, hz1, hz2⟩ := info_parts hinfo
  have hown' : (w0.alloc (.cells #[.int k (y : Int)] e')).ownsRow B e 1 (.slice ao l.length cap) l.length (cs k l) := World.ownsRow.alloc hown _
  refine wpList_append_own _ hg s x t hop B e i (.int k 0) 1 bytes hu hi hz0 hz1 hz2 rfl (by decide) _ _ _ hs hown' ⟨w0.heap.size, 0, none⟩ 1 1 [.int k (y : Int)] hx rfl ?_ ?_ hlen hbytes (by simp; omega) ?_
  · intro j u hj
    match j, hj with
    | 0, hj =>
      simp at hj; subst hj
      simp [Addr.add]
    | j + 1, hj => simp at hj
  · intro u hu; simp at hu; subst hu; rfl
  · intro v' w' ho hgr hnil
    have hb : Below B w0 w' := ((Below.refl B w0).alloc hB _).grown hgr (by simp; omega) (fun j hj => (hown'.lt j hj).1)
    have hsh : ∃ ao' cap', v' = .slice ao' (l.length + 1) cap' := by
      rcases ho.2 with ⟨h1, h2⟩ | ⟨g, cap', cur, h1, _⟩
      · omega
      · exact ⟨_, _, h1⟩
    obtain ⟨ao', cap', rfl⟩ := hsh
    refine hK ao' cap' w' ?_ hb
    unfold Own
    rw [cs_append, show cs k [y] = [Value.int k (y : Int)] from rfl]; simpa using ho

/-- 'append(l, y)' within the capacity. -/
theorem wp_pushFits (w0 : World) (hg : o.guard = none) (s x : Operand) (t : TypeId)
    (hop : o.op = Op.call { callee := Callee.builtin Builtin.append, args := #[s, x], argTypes := #[t, t] })
    (B : Nat) (e : TypeId) (k : IntKind) (bytes : Nat) (hu : P.underlying t = some (.slice e)) (hinfo : (P.info? e).map (fun i => (i.zero, i.size, i.bytes)) = some (some (.int k 0), 1, bytes))
    (g cap n : Nat) (l : List Nat) (hn : n = l.length) (hs : a.eval s = .slice (some ⟨g, 0, none⟩) n cap) (yv : Int) (y : Nat) (hy : yv = (y : Int)) (e' : TypeId)
    (hx : a.eval x = .slice (some ⟨w0.heap.size, 0, none⟩) 1 1)
    (hown : Own w0 B e k (some ⟨g, 0, none⟩) cap l) (hfit : l.length + 1 ≤ cap) (hB : B ≤ w0.heap.size)
    (hK : ∀ w', Own w' B e k (some ⟨g, 0, none⟩) cap (l ++ [y]) → Below B w0 w' → wpList P ops Q rest (a.put o.dst (.slice (some ⟨g, 0, none⟩) (n + 1) cap)) w') :
    wpList P ops Q (o :: rest) a (w0.alloc (.cells #[.int k yv] e')) := by
  subst hn hy
  obtain ⟨i, hi, hz0, hz1, hz2⟩ := info_parts hinfo
  have hown' : (w0.alloc (.cells #[.int k (y : Int)] e')).ownsRow B e 1 (.slice (some ⟨g, 0, none⟩) l.length cap) l.length (cs k l) := World.ownsRow.alloc hown _
  refine wpList_append_fits _ hg s x t hop B e i 1 hu hi hz1 g l.length cap (cs k l) hs hown' ⟨w0.heap.size, 0, none⟩ 1 1 [.int k (y : Int)] hx rfl ?_ ?_ hfit ?_
  · intro j u hj
    match j, hj with
    | 0, hj =>
      simp at hj; subst hj
      simp [Addr.add]
    | j + 1, hj => simp at hj
  · intro u hu; simp at hu; subst hu; rfl
  · intro w' ho hgr
    have hgB : B ≤ g := by
      rcases hown.shape with ⟨h, _⟩ | ⟨g', h, hb, _⟩
      · cases h
      · simp at h; omega
    have hb : Below B w0 w' := ((Below.refl B w0).alloc hB _).grown hgr (by simp; omega) (fun j hj => by simp at hj; omega)
    refine hK w' ?_ hb
    unfold Own
    rw [cs_append, show cs k [y] = [Value.int k (y : Int)] from rfl]; simpa using ho

/-- 'make([]T, 0, n)' -/
theorem wp_make0 (w : World) (hg : o.guard = none) (l c : Operand) (t : TypeId) (hop : o.op = Op.makeSlice t l c)
    (B : Nat) (e : TypeId) (k : IntKind) (bytes : Nat) (hu : P.underlying t = some (.slice e)) (hinfo : (P.info? e).map (fun i => (i.zero, i.size, i.bytes)) = some (some (.int k 0), 1, bytes))
    (kl kc : IntKind) (C : Int) (n : Nat) (hl : a.eval l = .int kl 0) (hc : a.eval c = .int kc C) (hC : C = (n : Int)) (b2 : bytes * n ≤ 281474976710656) (b3 : n ≤ maxLen) (hB : B ≤ w.heap.size)
    (hK : ∀ w', Own w' B e k (some ⟨w.heap.size, 0, none⟩) n [] → Below B w w' → wpList P ops Q rest (a.put o.dst (.slice (some ⟨w.heap.size, 0, none⟩) 0 n)) w') :
    wpList P ops Q (o :: rest) a w := by
  obtain ⟨i, hi, hz0, hz1, hz2⟩ := info_parts hinfo
  exact wpList_make_own w hg l c t hop B e i (.int k 0) 1 hu hi hz0 hz1 kl kc C n hl hc hC (by rw [hz2]; exact b2) b3 hB (fun w' ho hgr => hK w' ho (Below.ofGrown hgr hB (fun _ h => by cases h)))

/-- 'make([]T, n)' -/
theorem wp_make (w : World) (hg : o.guard = none) (l c : Operand) (t : TypeId) (hop : o.op = Op.makeSlice t l c)
    (B : Nat) (e : TypeId) (k : IntKind) (bytes : Nat) (hu : P.underlying t = some (.slice e)) (hinfo : (P.info? e).map (fun i => (i.zero, i.size, i.bytes)) = some (some (.int k 0), 1, bytes))
    (kl kc : IntKind) (L C : Int) (n : Nat) (hl : a.eval l = .int kl L) (hc : a.eval c = .int kc C) (hL : L = (n : Int)) (hC : C = (n : Int)) (b2 : bytes * n ≤ 281474976710656) (b3 : n ≤ maxLen) (hB : B ≤ w.heap.size)
    (hK : ∀ w', Own w' B e k (some ⟨w.heap.size, 0, none⟩) n (List.replicate n 0) → Below B w w' → wpList P ops Q rest (a.put o.dst (.slice (some ⟨w.heap.size, 0, none⟩) n n)) w') :
    wpList P ops Q (o :: rest) a w := by
  obtain ⟨i, hi, hz0, hz1, hz2⟩ := info_parts hinfo
  refine wpList_make_full w hg l c t hop B e i (.int k 0) 1 hu hi hz0 hz1 kl kc L C n hl hc hL hC (by rw [hz2]; exact b2) b3 hB (fun w' ho hgr => hK w' ?_ (Below.ofGrown hgr hB (fun _ h => by cases h)))
  unfold Own
  have : (madeCells (Value.int k 0).cells (n * 1)).toList = cs k (List.replicate n 0) := by
    rw [Nat.mul_one, show (Value.int k 0).cells = #[Value.int k 0] from rfl, toList_madeCells_one]; simp [cs]
  rw [this] at ho; simpa using ho
end

/-- a store into a row of the call's own -/
theorem Own.set {w : World} {B : Nat} {e : TypeId} {k : IntKind} {g cap : Nat} {l : List Nat} (h : Own w B e k (some ⟨g, 0, none⟩) cap l) (j y : Nat) :
    Own (w.setCell ⟨g, j, none⟩ (.int k (y : Int))) B e k (some ⟨g, 0, none⟩) cap (l.set j y) := by
  have := (World.ownsRow.stored h j (.int k (y : Int))).1
  unfold Own
  rw [cs_set]; simpa using this
theorem Own.set' {w : World} {B : Nat} {e : TypeId} {k : IntKind} {g cap : Nat} {l : List Nat} (h : Own w B e k (some ⟨g, 0, none⟩) cap l) (j : Nat) {yv : Int} (y : Nat) (hy : yv = (y : Int)) :
    Own (w.setCell ⟨g, j, none⟩ (.int k yv)) B e k (some ⟨g, 0, none⟩) cap (l.set j y) := by subst hy; exact h.set j y
theorem Own.cell {w : World} {B : Nat} {e : TypeId} {k : IntKind} {g cap : Nat} {l : List Nat} (h : Own w B e k (some ⟨g, 0, none⟩) cap l) (j : Nat) (hj : j < l.length) :
    w.cell? ⟨g, j, none⟩ = some (.int k ((l[j]?.getD 0 : Nat) : Int)) := by
  have h' : w.ownsRow B e 1 (.slice (some ⟨g, 0, none⟩) l.length cap) l.length (cs k l) := h
  rw [h'.cellAt j (by omega), cs_get hj]
theorem Own.drew {w : World} {B : Nat} {e : TypeId} {k : IntKind} {a : Option Addr} {cap : Nat} {l : List Nat} (h : Own w B e k a cap l) : Own w.drew B e k a cap l := World.ownsRow.drew h
theorem Own.alloc {w : World} {B : Nat} {e : TypeId} {k : IntKind} {a : Option Addr} {cap : Nat} {l : List Nat} (h : Own w B e k a cap l) (o : Obj) : Own (w.alloc o) B e k a cap l := World.ownsRow.alloc h o
theorem Rd.alloc {w : World} {k : IntKind} {a : Option Addr} {l : List Nat} (h : Rd w k a l) (o : Obj) : Rd (w.alloc o) k a l := h.below ((Below.refl _ _).alloc (Nat.le_refl _) o)
theorem Rd.drew {w : World} {k : IntKind} {a : Option Addr} {l : List Nat} (h : Rd w k a l) : Rd w.drew k a l := h
/-- 'append(l, y)' as one step of a region that draws -/
theorem step_push {P : Program} {ops : Array Oper} {o : Oper} {a : Act} {K : Act → World → Prop} {Q : Exit → Act → World → Prop} {E : Prop} (wx : World) (hg : o.guard = none) (s x : Operand) (t : TypeId)
    (hop : o.op = Op.call { callee := Callee.builtin Builtin.append, args := #[s, x], argTypes := #[t, t] })
    (B : Nat) (e : TypeId) (k : IntKind) (bytes : Nat) (hu : P.underlying t = some (.slice e)) (hinfo : (P.info? e).map (fun i => (i.zero, i.size, i.bytes)) = some (some (.int k 0), 1, bytes))
    (ao : Option Addr) (cap n : Nat) (l : List Nat) (hn : n = l.length) (hs : a.eval s = .slice ao n cap) (y gx : Nat)
    (hx : a.eval x = .slice (some ⟨gx, 0, none⟩) 1 1) (hcell : wx.cell? ⟨gx, 0, none⟩ = some (.int k (y : Int)))
    (hown : Own wx B e k ao cap l) (hbytes : (l.length + 1) * bytes ≤ 140737488355328) (hlen : l.length + 1 ≤ maxLen) (hB : B ≤ wx.heap.size)
    (hK : ∀ ao' cap' w', Own w' B e k ao' cap' (l ++ [y]) → Below B wx w' → wx.grownBy w' (Value.slice ao n cap).ownBlock → K (a.put o.dst (.slice ao' (n + 1) cap')) w') :
    if Region.wanted o (yielded ops a.tmps) = true then Oper.wp P o a wx K Q else E := by
  have hw : Region.wanted o (yielded ops a.tmps) = true := by simp [Region.wanted, hg]
  rw [if_pos hw]
  subst hn
  obtain ⟨i, hi, hz0, hz1, hz2⟩ := info_parts hinfo
  have hown' : wx.ownsRow B e 1 (.slice ao l.length cap) l.length (cs k l) := hown
  refine wp_append_own _ s x t hop B e i (.int k 0) 1 bytes hu hi hz0 hz1 hz2 rfl (by decide) _ _ _ hs hown' ⟨gx, 0, none⟩ 1 1 [.int k (y : Int)] hx rfl ?_ ?_ hlen hbytes hB ?_
  · intro j u hj
    match j, hj with
    | 0, hj =>
      simp at hj; subst hj
      simpa [Addr.add] using hcell
    | j + 1, hj => simp at hj
  · intro u hu; simp at hu; subst hu; rfl
  · intro v' w' ho hgr hnil
    have hb : Below B wx w' := (Below.refl B wx).grown hgr hB (fun j hj => (hown'.lt j hj).1)
    have hsh : ∃ ao' cap', v' = .slice ao' (l.length + 1) cap' := by
      rcases ho.2 with ⟨h1, h2⟩ | ⟨g, cap', cur, h1, _⟩
      · omega
      · exact ⟨_, _, h1⟩
    obtain ⟨ao', cap', rfl⟩ := hsh
    refine hK ao' cap' w' ?_ hb hgr
    unfold Own
    rw [cs_append, show cs k [y] = [Value.int k (y : Int)] from rfl]; simpa using ho

/-! Worlds in which one row alone has turned -/
theorem gb_refl (w : World) (row : Option Nat) : w.grownBy w row := World.grownBy.refl w row
theorem gb_set {w wr : World} {g : Nat} (h : w.grownBy wr (some g)) (j : Nat) (v : Value) : w.grownBy (wr.setCell ⟨g, j, none⟩ v) (some g) :=
  ⟨h.os, h.tape, h.output, by simpa using h.size, fun k hk hne => by
    rw [Below.heap_setCell _ _ _ _ (by intro e; exact hne (by rw [e]))]; exact h.block k hk hne⟩
theorem gb_below {B : Nat} {w wr : World} {g : Nat} (h : w.grownBy wr (some g)) (hB : B ≤ w.heap.size) (hg : B ≤ g) : Below B w wr :=
  Below.ofGrown h hB (fun k hk => by cases hk; exact hg)
theorem gb_of_below {w wr : World} {row : Option Nat} (h : Below w.heap.size w wr) : w.grownBy wr row := ⟨h.os, h.tape, h.output, h.size, fun k hk _ => h.block k hk⟩
theorem gb_trans {a b c : World} {row : Option Nat} (h : a.grownBy b row) (k : b.grownBy c row) : a.grownBy c row :=
  ⟨k.os.trans h.os, k.tape.trans h.tape, k.output.trans h.output, Nat.le_trans h.size k.size, fun j hj hne => (k.block j (Nat.lt_of_lt_of_le hj h.size) hne).trans (h.block j hj hne)⟩
/-- what lies elsewhere reads on -/
def Apart (a : Option Addr) (g : Nat) : Prop := ∀ b off, a = some ⟨b, off, none⟩ → b ≠ g
theorem Rd.gb {w w' : World} {k : IntKind} {a : Option Addr} {l : List Nat} {g : Nat} (h : Rd w k a l) (hg : w.grownBy w' (some g)) (hne : Apart a g) : Rd w' k a l := by
  intro j hj
  obtain ⟨b, off, e, hc⟩ := h j hj
  exact ⟨b, off, e, hg.cell hc (by intro e2; exact hne b off e (by simpa using e2))⟩
theorem Own.apart {w : World} {B : Nat} {e : TypeId} {k : IntKind} {a : Option Addr} {cap : Nat} {l : List Nat} {g : Nat} (h : Own w B e k a cap l) (hg : g < B) : Apart a g := by
  intro b off e
  rcases h.shape with ⟨h1, _⟩ | ⟨g', h1, hb, _⟩
  · rw [h1] at e; cases e
  · rw [h1] at e; simp at e; omega
theorem Own.gb {w w' : World} {B : Nat} {e : TypeId} {k : IntKind} {a : Option Addr} {cap : Nat} {l : List Nat} {g : Nat} (h : Own w B e k a cap l) (hg : w.grownBy w' (some g)) (hne : Apart a g) : Own w' B e k a cap l := by
  refine World.ownsRow.kept h hg ?_
  rcases h.shape with ⟨h1, _⟩ | ⟨g', h1, _⟩
  · left; rw [h1]; rfl
  · right; rw [h1]; intro e2; exact hne g' 0 h1 (by simpa [Value.ownBlock] using e2)
end Go.Proofs.YtpgiljibicigeaaGreatDoor

/- Walks: trim, same, great. -/
namespace Go.Proofs.YtpgiljibicigeaaGreatDoor
open Go.RowKit LM

set_option maxHeartbeats 400000 in
theorem trim_any (a : Option Addr) (cap : Nat) (l : List Nat) (w : World) (hl : l.length ≤ 9223372036854775807) (hrd : Rd w .u32 a l) (hcap : l.length ≤ cap) :
    Calls Tryz.prog 133 #[.slice a l.length cap] w fun e w' => e = .returned (.slice a (tr l).length cap) ∧ w = w' := by
  go_enter Tryz.func133, Tryz.ntmps133
  go_wp2
  go_loop [3] (fun i => ∃ k : Nat, k ≤ l.length ∧ tr (l.take k) = tr l ∧ i = .int .i64 k) (fun i => (intOf i).toNat)
  case atStart => exact ⟨l.length, Nat.le_refl _, by rw [List.take_length], rfl⟩
  case round =>
    obtain ⟨k, hk, ht, rfl⟩ := hrel
    have HT := Lib.hid ht; clear ht
    rcases Nat.eq_zero_or_pos k with h0 | h0
    · subst h0
      go_wp2
      go_ret
      have h := HT.out; simp only [List.take_zero, tr] at h
      exact ⟨by rw [← h]; rfl, rfl⟩
    · obtain ⟨m, rfl⟩ : ∃ m, k = m + 1 := ⟨k - 1, by omega⟩
      obtain ⟨b, off, ha, hc⟩ := hrd m (by omega)
      subst ha
      go_wp2
      · have h : (((l[m]?.getD 0 : Nat) : Int) == 0) = true := by assumption
        go_round
        case rel => exact ⟨m, by omega, by rw [tr_step (by omega) (by simpa using h)]; exact HT.out, rfl⟩
        case measure => simp [intOf]
      · have h : (((l[m]?.getD 0 : Nat) : Int) == 0) = false := by assumption
        go_ret
        refine ⟨?_, rfl⟩
        have e := tr_end (l := l) (k := m) (by omega) (by simpa using h)
        have e2 := HT.out
        rw [← e2, e, List.length_take, Nat.min_eq_left (by omega)]; rfl

end Go.Proofs.YtpgiljibicigeaaGreatDoor
