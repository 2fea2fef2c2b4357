/- parens: what a search leaves as it was. -/
import Derived.Test.YtelagemniheeoaaDoorParE
import Derived.Test.YtelagemniheeoaaDoorParMathB
namespace Go.Proofs.YtelagemniheeoaaDoor
open Go.RowKit BM

/-- a run of a search: what lies below B stays, and all blocks but kb -/
structure Rn (B kb : Nat) (w w' : World) : Prop where
  below : Below B w w'
  size : w.heap.size ≤ w'.heap.size
  block : ∀ j, j < w.heap.size → j ≠ kb → w'.heap[j]? = w.heap[j]?
theorem Rn.refl (B kb : Nat) (w : World) : Rn B kb w w := ⟨Below.refl B w, Nat.le_refl _, fun _ _ _ => rfl⟩
theorem Rn.trans {B kb : Nat} {w w1 w2 : World} (h : Rn B kb w w1) (h2 : Rn B kb w1 w2) : Rn B kb w w2 :=
  ⟨h.below.trans h2.below, Nat.le_trans h.size h2.size, fun j hj hk => (h2.block j (Nat.lt_of_lt_of_le hj h.size) hk).trans (h.block j hj hk)⟩
theorem Rn.of {B kb : Nat} {w w' : World} (h : Below w.heap.size w w') (hB : B ≤ w.heap.size) : Rn B kb w w' := ⟨h.mono hB, h.size, fun j hj _ => h.block j hj⟩
theorem Rn.kp {B kb : Nat} {w w' : World} (h : Kp kb w w') (hB : B ≤ w.heap.size) (hk : B ≤ kb) : Rn B kb w w' := ⟨h.below B hk hB, (h.below B hk hB).size, fun j _ hk => h.block j hk⟩
theorem Rn.cell {B kb : Nat} {w w' : World} (h : Rn B kb w w') {p : Addr} (hp : p.block < w.heap.size) (hk : p.block ≠ kb) : w'.cell? p = w.cell? p := by
  have := h.block p.block hp hk
  simp [World.cell?, this]
theorem Rn.frozen {B kb : Nat} {w w' : World} (h : Rn B kb w w') {p : Addr} (hp : p.block < w.heap.size) (hk : p.block ≠ kb) : w'.frozen? p = w.frozen? p := by
  have := h.block p.block hp hk
  simp [World.frozen?, this]
/-- a box of a node -/
def Nd (w : World) (q : Nat) (d at_ : Int) : Prop := w.cell? ⟨q, 0, none⟩ = some (.int .i64 d) ∧ w.cell? ⟨q, 1, none⟩ = some (.int .i64 at_) ∧ ∀ j, w.frozen? ⟨q, j, none⟩ = false
theorem Nd.lt {w : World} {q : Nat} {d z : Int} (h : Nd w q d z) : q < w.heap.size := lt_of_cell h.1
theorem Nd.below {w w' : World} {q : Nat} {d z : Int} (h : Nd w q d z) (hb : Below w.heap.size w w') : Nd w' q d z :=
  ⟨cellP hb h.1, cellP hb h.2.1, fun j => by rw [hb.frozen h.lt]; exact h.2.2 j⟩
theorem Nd.kp {w w' : World} {q kb : Nat} {d z : Int} (h : Nd w q d z) (hk : Kp kb w w') (hq : q ≠ kb) : Nd w' q d z :=
  ⟨by rw [hk.cell hq]; exact h.1, by rw [hk.cell hq]; exact h.2.1, fun j => by rw [hk.frozen hq]; exact h.2.2 j⟩
theorem Nd.rn {w w' : World} {B q kb : Nat} {d z : Int} (h : Nd w q d z) (hk : Rn B kb w w') (hq : q ≠ kb) : Nd w' q d z :=
  ⟨by rw [hk.cell h.lt hq]; exact h.1, by rw [hk.cell h.lt hq]; exact h.2.1, fun j => by rw [hk.frozen h.lt hq]; exact h.2.2 j⟩
theorem Nd.new (W : World) (d z : Int) (t : TypeId) : Nd (W.alloc (.cells #[.int .i64 d, .int .i64 z] t)) W.heap.size d z :=
  ⟨by simp, by simp, fun j => by simp⟩
theorem Nd.other {w : World} {q g j : Nat} {d z : Int} {u : Value} (h : Nd w q d z) (hg : q ≠ g) : Nd (w.setCell ⟨g, j, none⟩ u) q d z := by
  have e : ∀ p : Addr, p.block = q → (w.setCell ⟨g, j, none⟩ u).cell? p = w.cell? p := fun p hp => by
    have := heap_setCell_other w ⟨g, j, none⟩ p.block u (by rw [hp]; exact hg)
    simp [World.cell?, this]
  exact ⟨by rw [e _ rfl]; exact h.1, by rw [e _ rfl]; exact h.2.1, fun j => by rw [World.frozen?_setCell]; exact h.2.2 j⟩
theorem Nd.set1 {w : World} {q : Nat} {d z : Int} (z' : Int) (h : Nd w q d z) : Nd (w.setCell ⟨q, 1, none⟩ (.int .i64 z')) q d z' :=
  ⟨by have := h.1; simp [World.cell?_setCell_other, this], by have := h.2.1; simp [World.cell?_setCell_same, this], fun j => by rw [World.frozen?_setCell]; exact h.2.2 j⟩
theorem Nd.set0 {w : World} {q : Nat} {d z : Int} (d' : Int) (h : Nd w q d z) : Nd (w.setCell ⟨q, 0, none⟩ (.int .i64 d')) q d' z :=
  ⟨by have := h.1; simp [World.cell?_setCell_same, this], by have := h.2.1; simp [World.cell?_setCell_other, this], fun j => by rw [World.frozen?_setCell]; exact h.2.2 j⟩
def cellN (w : World) (p : Addr) : Nat := match w.cell? p with | some v => (intOf v).toNat | none => 0
theorem Nd.at_ {w : World} {q : Nat} {d : Int} {z : Nat} (h : Nd w q d z) : cellN w ⟨q, 1, none⟩ = z := by unfold cellN; rw [h.2.1]; simp [intOf]
def VX0 (w0 : World) (b : Nat) (v : VD) : Prop := VX w0 b v ∧ v.ok ∧ v.lv.length ≤ 100
/-- what a search within a node answers -/
def ResW (v : VD) (ch up : Bool) (d i : Nat) (e : Int) (eb kb k : Nat) (B : Nat) (w : World) (r : Ending) (w' : World) : Prop :=
  ∃ y k' : Nat, r = .returned (.agg #[.int .i64 d, .int .i64 y]) ∧ lo d y ≤ v.n ∧ seek (ex v.f) e (blk up v.n (d + 1) i) k = seek (ex v.f) e (blk up v.n d y) k' ∧ hit (ex v.f) e k' (blk up v.n d y) ∧ (up = false → (y + 1) * 2 ^ sh d ≤ v.n + 1) ∧ SS ch e eb kb k' w' ∧ k' ≤ k ∧ Rn B kb w w'
theorem nxt_le (e : Int) (k : Nat) (l : Int) (m : Nat) : nxt e k l m ≤ k := by unfold nxt; split <;> omega
theorem win_full {g : Nat → Int} {e : Int} {up : Bool} {n d i y k : Nat} (h : Win g e up n d i y k) (hu : up = false) : (y + 1) * 2 ^ sh d ≤ n + 1 := by
  have h1 := lo_mono d h.high
  rw [lo_up] at h1
  have h2 := h.full hu
  exact Nat.le_trans h1 h2
theorem cell_other {w : World} {g j : Nat} {u : Value} (p : Addr) (hp : p.block ≠ g) : (w.setCell ⟨g, j, none⟩ u).cell? p = w.cell? p := by
  have := heap_setCell_other w ⟨g, j, none⟩ p.block u hp
  simp [World.cell?, this]
theorem SS.ltE {ch : Bool} {e : Int} {eb kb k : Nat} {w : World} (h : SS ch e eb kb k w) : eb < w.heap.size := lt_of_cell h.1
theorem SS.set {ch : Bool} {e : Int} {eb kb k : Nat} {w : World} (h : SS ch e eb kb k w) {g j : Nat} {u : Value} (he : eb ≠ g) (hk : kb ≠ g) : SS ch e eb kb k (w.setCell ⟨g, j, none⟩ u) := by
  refine ⟨by rw [cell_other _ he]; exact h.1, ?_⟩
  have h2 := h.2
  cases ch
  · simpa using h2
  · simp only [if_true] at h2 ⊢
    exact ⟨by rw [cell_other _ hk]; exact h2.1, by rw [World.frozen?_setCell]; exact h2.2.1, h2.2.2⟩
theorem Rn.set {B kb : Nat} {w w' : World} (h : Rn B kb w w') {g : Nat} (hg : w.heap.size ≤ g) (hB : B ≤ w.heap.size) (j : Nat) (u : Value) : Rn B kb w (w'.setCell ⟨g, j, none⟩ u) :=
  ⟨h.below.setCell (Nat.le_trans hB hg) u, by simpa using h.size, fun i hi hk => by exact (heap_setCell_other w' ⟨g, j, none⟩ i u (Nat.ne_of_lt (Nat.lt_of_lt_of_le hi hg))).trans (h.block i hi hk)⟩
/-- the three boxes of within -/
theorem three_new (w : World) (d z d2 y : Int) (t : TypeId) : Nd (((w.alloc (.cells #[.int .i64 d, .int .i64 z] t)).alloc (.cells #[.int .i64 0, .int .i64 0] t)).alloc (.cells #[.int .i64 d2, .int .i64 y] t)) (w.heap.size + 1 + 1) d2 y ∧
    Nd (((w.alloc (.cells #[.int .i64 d, .int .i64 z] t)).alloc (.cells #[.int .i64 0, .int .i64 0] t)).alloc (.cells #[.int .i64 d2, .int .i64 y] t)) (w.heap.size + 1) 0 0 ∧
    Below w.heap.size w (((w.alloc (.cells #[.int .i64 d, .int .i64 z] t)).alloc (.cells #[.int .i64 0, .int .i64 0] t)).alloc (.cells #[.int .i64 d2, .int .i64 y] t)) := by
  have e1 : (w.alloc (.cells #[.int .i64 d, .int .i64 z] t)).heap.size = w.heap.size + 1 := by simp
  have e2 : ((w.alloc (.cells #[.int .i64 d, .int .i64 z] t)).alloc (.cells #[.int .i64 0, .int .i64 0] t)).heap.size = w.heap.size + 1 + 1 := by simp
  have b1 := (Below.refl w.heap.size w).alloc (Nat.le_refl _) (.cells #[.int .i64 d, .int .i64 z] t)
  have n1 := Nd.new (w.alloc (.cells #[.int .i64 d, .int .i64 z] t)) 0 0 t
  rw [e1] at n1
  generalize w.alloc (.cells #[.int .i64 d, .int .i64 z] t) = w1 at *
  have b2 := (Below.refl w1.heap.size w1).alloc (Nat.le_refl _) (.cells #[.int .i64 0, .int .i64 0] t)
  have n2 := Nd.new (w1.alloc (.cells #[.int .i64 0, .int .i64 0] t)) d2 y t
  rw [e2] at n2
  generalize w1.alloc (.cells #[.int .i64 0, .int .i64 0] t) = w2 at *
  have b3 := (Below.refl w2.heap.size w2).alloc (Nat.le_refl _) (.cells #[.int .i64 d2, .int .i64 y] t)
  exact ⟨n2, n1.below b3, b1.trans ((b2.mono b1.size).trans (b3.mono (Nat.le_trans b1.size b2.size)))⟩
theorem two_ne {w : World} {x q : Nat} (h : x < w.heap.size) (hq : w.heap.size ≤ q) : x ≠ q := by omega
def Ful (up : Bool) (n d y : Nat) : Prop := up = false → (y + 1) * 2 ^ sh d ≤ n + 1
theorem Rn.dN {B kb : Nat} {w w' : World} (h : Rn B kb w w') (n : Nat) : Rn B kb w (w'.drewN n) := ⟨bdN h.below n, h.size, h.block⟩
theorem blk0 (up : Bool) {n y : Nat} (h : y ≤ n) : blk up n 0 y = [y] := by
  unfold blk
  rw [show hi_ n 0 y = y + 1 by unfold hi_; simp only [sh, Nat.pow_zero, Nat.mul_one]; omega, show lo 0 y = y by unfold lo; simp only [sh, Nat.pow_zero, Nat.mul_one]]
  exact iv_one up y
def cellI (w : World) (p : Addr) : Int := match w.cell? p with | some v => intOf v | none => 0
/-- how much of a search is left -/
def mF (up : Bool) (n : Nat) (w : World) (q : Nat) : Nat := (rst up n (cellN w ⟨q, 0, none⟩) (cellI w ⟨q, 1, none⟩)).length
theorem Nd.mF {w : World} {q d : Nat} {z : Int} (h : Nd w q d z) (up : Bool) (n : Nat) : mF up n w q = (rst up n d z).length := by
  unfold Proofs.YtelagemniheeoaaDoor.mF cellN cellI; rw [h.1, h.2.1]; simp [intOf]
theorem Nd.dep {w : World} {q d : Nat} {z : Int} (h : Nd w q d z) : cellN w ⟨q, 0, none⟩ = d := by unfold cellN; rw [h.1]; simp [intOf]
/-- what a search answers -/
def ResF (v : VD) (up : Bool) (i e : Int) (k B kb : Nat) (w : World) (r : Ending) (w' : World) : Prop := r = .returned (.int .i64 (seek (ex v.f) e (rst up v.n 0 i) k)) ∧ Rn B kb w w'
theorem Below.dN {B : Nat} (w : World) (n : Nat) : Below B w (w.drewN n) := bdN (Below.refl B w) n
end Go.Proofs.YtelagemniheeoaaDoor
