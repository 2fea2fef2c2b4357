/- The document's Scan walked. -/
import Derived.Test.YtelagemniheeoaaDoorBitD
import Derived.Deep.DeepCutAuto
import Derived.Deep.RegionHeld3
import Derived.Deep.RegionLaw
namespace Go.Proofs.YtelagemniheeoaaDoor
open Go.RowKit BM

def byte (l : List Nat) (j : Nat) : Nat := l[j]?.getD 0
def stO (l : List Nat) (o : Bool) : Nat → Bool
  | 0 => o
  | j + 1 => nextOdd (byte l j) (stO l o j)
def stI (l : List Nat) (o i : Bool) : Nat → Bool
  | 0 => i
  | j + 1 => nextIn (byte l j) (stO l o j) (stI l o i j)
def wh (l : List Nat) (o i : Bool) (j : Nat) : Nat := what (byte l j) (stO l o j) (stI l o i j)
def isW (l : List Nat) (o i : Bool) (k : Int) (j : Nat) : Bool := (((wh l o i j : Nat) : Int) == k)
def inW (l : List Nat) (o i : Bool) (j : Nat) : Bool := stI l o i (j + 1)
/-- a box of seven masks -/
def Mx (w : World) (b : Nat) (m0 m1 m2 m3 m4 m5 m6 : BitVec 64) : Prop :=
  w.cell? ⟨b, 0, none⟩ = some (.int .u64 (val m0)) ∧ w.cell? ⟨b, 1, none⟩ = some (.int .u64 (val m1)) ∧ w.cell? ⟨b, 2, none⟩ = some (.int .u64 (val m2)) ∧ w.cell? ⟨b, 3, none⟩ = some (.int .u64 (val m3)) ∧ w.cell? ⟨b, 4, none⟩ = some (.int .u64 (val m4)) ∧ w.cell? ⟨b, 5, none⟩ = some (.int .u64 (val m5)) ∧ w.cell? ⟨b, 6, none⟩ = some (.int .u64 (val m6))
def Cx (w : World) (b : Nat) (x y : Bool) : Prop := w.cell? ⟨b, 0, none⟩ = some (.bool x) ∧ w.cell? ⟨b, 1, none⟩ = some (.bool y)
def Fz (w : World) (b : Nat) : Prop := ∀ k, w.frozen? ⟨b, k, none⟩ = false
def LW (l : List Nat) (o i : Bool) (w wr : World) (j : Nat) : Prop :=
  Below w.heap.size w wr ∧ Hid (Cx wr w.heap.size (stO l o j) (stI l o i j)) ∧ Hid (Fz wr w.heap.size) ∧
  Hid (Mx wr (w.heap.size + 1 + 1 + 1) (mk (isW l o i 113) j) (mk (inW l o i) j) (mk (isW l o i 111) j) (mk (isW l o i 99) j) (mk (isW l o i 58) j) (mk (isW l o i 44) j) (mk (isW l o i 32) j)) ∧ Hid (Fz wr (w.heap.size + 1 + 1 + 1)) ∧
  Hid (Mx wr (w.heap.size + 1) 0#64 0#64 0#64 0#64 0#64 0#64 0#64) ∧ Hid (Fz wr (w.heap.size + 1)) ∧
  Hid (Cx wr (w.heap.size + 1 + 1) false false) ∧ Hid (Fz wr (w.heap.size + 1 + 1))
def MeetS (wv : Nat) (iv ov : Bool) (W : World) (s8 s9 s10 : Value) (wx : World) : Prop :=
  ∃ g, s8 = .int .u8 (wv : Int) ∧ s9 = .bool iv ∧ s10 = .pointer (some ⟨g, 0, none⟩) ∧ W.heap.size ≤ g ∧ Hid (Cx wx g ov iv) ∧ Below W.heap.size W wx
def vm (l : List Nat) (o i : Bool) : Value := masksV (mk (isW l o i 113) l.length) (mk (inW l o i) l.length) (mk (isW l o i 111) l.length) (mk (isW l o i 99) l.length) (mk (isW l o i 58) l.length) (mk (isW l o i 44) l.length) (mk (isW l o i 32) l.length)
/-- what the document's Scan answers -/
def ResR (l : List Nat) (o i : Bool) (w : World) (e : Ending) (w' : World) : Prop :=
  e = .returned (.tuple #[vm l o i, .agg #[.bool (stO l o l.length), .bool (stI l o i l.length)]]) ∧ Below w.heap.size w w'

theorem cellW {W w' : World} (h : Below W.heap.size W w') {p : Addr} {v : Value} (hc : W.cell? p = some v) : w'.cell? p = some v := by rw [h.cell (lt_of_cell hc)]; exact hc
theorem Cx.new (W : World) (x y : Bool) (t : TypeId) : Hid (Cx (W.alloc (.cells #[.bool x, .bool y] t)) W.heap.size x y) := Lib.hid ⟨by simp, by simp⟩
theorem Cx.set {W : World} {b : Nat} {x y : Bool} (h0 : W.cell? ⟨b, 0, none⟩ = some (.bool x)) (h1 : W.cell? ⟨b, 1, none⟩ = some (.bool y)) (u v : Bool) : Hid (Cx ((W.setCell ⟨b, 0, none⟩ (.bool u)).setCell ⟨b, 1, none⟩ (.bool v)) b u v) :=
  Lib.hid ⟨by simp [go_sem, h0], by simp [go_sem, h1]⟩
theorem Cx.below {W W' : World} {b : Nat} {x y : Bool} (h : Hid (Cx W b x y)) (hb : Below W.heap.size W W') : Hid (Cx W' b x y) := Lib.hid ⟨cellW hb h.out.1, cellW hb h.out.2⟩
theorem Mx.below {W W' : World} {b : Nat} {m0 m1 m2 m3 m4 m5 m6 : BitVec 64} (h : Hid (Mx W b m0 m1 m2 m3 m4 m5 m6)) (hb : Below W.heap.size W W') : Hid (Mx W' b m0 m1 m2 m3 m4 m5 m6) := by
  obtain ⟨h0, h1, h2, h3, h4, h5, h6⟩ := h.out
  exact Lib.hid ⟨cellW hb h0, cellW hb h1, cellW hb h2, cellW hb h3, cellW hb h4, cellW hb h5, cellW hb h6⟩
theorem Fz.below {W W' : World} {b : Nat} (h : Hid (Fz W b)) (hlt : b < W.heap.size) (hb : Below W.heap.size W W') : Hid (Fz W' b) := Lib.hid fun k => (hb.frozen (p := ⟨b, k, none⟩) hlt).trans (h.out k)
theorem Cx.lt {W : World} {b : Nat} {x y : Bool} (h : Hid (Cx W b x y)) : b < W.heap.size := lt_of_cell h.out.1
theorem Mx.lt {W : World} {b : Nat} {m0 m1 m2 m3 m4 m5 m6 : BitVec 64} (h : Hid (Mx W b m0 m1 m2 m3 m4 m5 m6)) : b < W.heap.size := lt_of_cell h.out.1
theorem LW_start (l : List Nat) (o i : Bool) (w : World) (t1 t2 : TypeId) :
    LW l o i w ((((w.alloc (.cells #[.bool o, .bool i] t1)).alloc (.cells #[.int .u64 0, .int .u64 0, .int .u64 0, .int .u64 0, .int .u64 0, .int .u64 0, .int .u64 0] t2)).alloc (.cells #[.bool false, .bool false] t1)).alloc (.cells #[.int .u64 0, .int .u64 0, .int .u64 0, .int .u64 0, .int .u64 0, .int .u64 0, .int .u64 0] t2)) 0 := by
  have z : (Value.int .u64 0) = .int .u64 (val 0#64) := rfl
  refine ⟨((((Below.refl _ _).alloc (Nat.le_refl _) _).alloc (by simp) _).alloc (by simp; omega) _).alloc (by simp; omega) _, Lib.hid ⟨?_, ?_⟩, Lib.hid (fun k => ?_), Lib.hid ⟨?_, ?_, ?_, ?_, ?_, ?_, ?_⟩, Lib.hid (fun k => ?_), Lib.hid ⟨?_, ?_, ?_, ?_, ?_, ?_, ?_⟩, Lib.hid (fun k => ?_), Lib.hid ⟨?_, ?_⟩, Lib.hid (fun k => ?_)⟩
  all_goals first | (simp [go_sem, stO, stI, z, mk]; done) | skip
theorem LW_next {l : List Nat} {o i : Bool} {w wc : World} {j x wv : Nat} {iv ov : Bool} (hx : byte l j = x) (hwv : what x (stO l o j) (stI l o i j) = wv) (hiv : nextIn x (stO l o j) (stI l o i j) = iv) (hov : nextOdd x (stO l o j) = ov)
    (hb : Below w.heap.size w wc) (HC : Hid (Cx wc w.heap.size (stO l o j) (stI l o i j))) (FC : Hid (Fz wc w.heap.size))
    (HM : Hid (Mx wc (w.heap.size + 1 + 1 + 1) (mk (isW l o i 113) j) (mk (inW l o i) j) (mk (isW l o i 111) j) (mk (isW l o i 99) j) (mk (isW l o i 58) j) (mk (isW l o i 44) j) (mk (isW l o i 32) j))) (FM : Hid (Fz wc (w.heap.size + 1 + 1 + 1)))
    (HA : Hid (Mx wc (w.heap.size + 1) 0#64 0#64 0#64 0#64 0#64 0#64 0#64)) (FA : Hid (Fz wc (w.heap.size + 1)))
    (HD : Hid (Cx wc (w.heap.size + 1 + 1) false false)) (FD : Hid (Fz wc (w.heap.size + 1 + 1))) :
    LW l o i w (((((((((wc.setCell ⟨w.heap.size + 1 + 1 + 1, 0, none⟩ (.int .u64 (val (put (mk (isW l o i 113) j) j ((wv : Int) == 113))))).setCell ⟨w.heap.size + 1 + 1 + 1, 1, none⟩ (.int .u64 (val (put (mk (inW l o i) j) j iv)))).setCell ⟨w.heap.size + 1 + 1 + 1, 2, none⟩ (.int .u64 (val (put (mk (isW l o i 111) j) j ((wv : Int) == 111))))).setCell ⟨w.heap.size + 1 + 1 + 1, 3, none⟩ (.int .u64 (val (put (mk (isW l o i 99) j) j ((wv : Int) == 99))))).setCell ⟨w.heap.size + 1 + 1 + 1, 4, none⟩ (.int .u64 (val (put (mk (isW l o i 58) j) j ((wv : Int) == 58))))).setCell ⟨w.heap.size + 1 + 1 + 1, 5, none⟩ (.int .u64 (val (put (mk (isW l o i 44) j) j ((wv : Int) == 44))))).setCell ⟨w.heap.size + 1 + 1 + 1, 6, none⟩ (.int .u64 (val (put (mk (isW l o i 32) j) j ((wv : Int) == 32))))).setCell ⟨w.heap.size, 0, none⟩ (.bool ov)).setCell ⟨w.heap.size, 1, none⟩ (.bool iv)) (j + 1) := by
  subst hx hwv hiv hov
  have e : ∀ k : Int, put (mk (isW l o i k) j) j (((what (byte l j) (stO l o j) (stI l o i j) : Nat) : Int) == k) = mk (isW l o i k) (j + 1) := fun k => rfl
  have e2 : put (mk (inW l o i) j) j (nextIn (byte l j) (stO l o j) (stI l o i j)) = mk (inW l o i) (j + 1) := rfl
  rw [e, e, e, e, e, e, e2]
  rw [show nextOdd (byte l j) (stO l o j) = stO l o (j + 1) from rfl, show nextIn (byte l j) (stO l o j) (stI l o i j) = stI l o i (j + 1) from rfl]
  obtain ⟨m0, m1, m2, m3, m4, m5, m6⟩ := HM.out
  obtain ⟨a0, a1, a2, a3, a4, a5, a6⟩ := HA.out
  obtain ⟨c0, c1⟩ := HC.out
  obtain ⟨d0, d1⟩ := HD.out
  have hB : w.heap.size ≤ w.heap.size + 1 + 1 + 1 := by omega
  refine ⟨((((((((hb.setCell hB _).setCell hB _).setCell hB _).setCell hB _).setCell hB _).setCell hB _).setCell hB _).setCell (Nat.le_refl _) _).setCell (Nat.le_refl _) _, Lib.hid ⟨?_, ?_⟩, Lib.hid (fun k => ?_), Lib.hid ⟨?_, ?_, ?_, ?_, ?_, ?_, ?_⟩, Lib.hid (fun k => ?_), Lib.hid ⟨?_, ?_, ?_, ?_, ?_, ?_, ?_⟩, Lib.hid (fun k => ?_), Lib.hid ⟨?_, ?_⟩, Lib.hid (fun k => ?_)⟩
  case refine_3 => simp [go_sem, FC.out k]
  case refine_11 => simp [go_sem, FM.out k]
  case refine_19 => simp [go_sem, FA.out k]
  case refine_22 => simp [go_sem, FD.out k]
  all_goals simp [go_sem, m0, m1, m2, m3, m4, m5, m6, a0, a1, a2, a3, a4, a5, a6, c0, c1, d0, d1]
theorem resR_of {l : List Nat} {o i : Bool} {w W : World} {j : Nat} {u1 u2 u3 u4 u5 u6 u7 u8 u9 : Value} (hj : j = l.length) (h : Below w.heap.size w W) :
    ResR l o i w (.returned (.tuple #[masksV (mk (isW l o i 113) j) (mk (inW l o i) j) (mk (isW l o i 111) j) (mk (isW l o i 99) j) (mk (isW l o i 58) j) (mk (isW l o i 44) j) (mk (isW l o i 32) j), .agg #[.bool (stO l o j), .bool (stI l o i j)]]))
      (((((((((W.setCell ⟨w.heap.size + 1, 0, none⟩ u1).setCell ⟨w.heap.size + 1, 1, none⟩ u2).setCell ⟨w.heap.size + 1, 2, none⟩ u3).setCell ⟨w.heap.size + 1, 3, none⟩ u4).setCell ⟨w.heap.size + 1, 4, none⟩ u5).setCell ⟨w.heap.size + 1, 5, none⟩ u6).setCell ⟨w.heap.size + 1, 6, none⟩ u7).setCell ⟨w.heap.size + 1 + 1, 0, none⟩ u8).setCell ⟨w.heap.size + 1 + 1, 1, none⟩ u9).drew := by
  subst hj
  have hB : w.heap.size ≤ w.heap.size + 1 := by omega
  have hB' : w.heap.size ≤ w.heap.size + 1 + 1 := by omega
  exact ⟨rfl, ((((((((((h.setCell hB _).setCell hB _).setCell hB _).setCell hB _).setCell hB _).setCell hB _).setCell hB _).setCell hB' _).setCell hB' _)).drew⟩
end Go.Proofs.YtelagemniheeoaaDoor
