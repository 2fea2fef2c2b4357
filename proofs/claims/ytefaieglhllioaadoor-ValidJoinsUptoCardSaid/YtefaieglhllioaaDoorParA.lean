/- parens: the ones of a word; memory predicates. -/
import Derived.Test.YtefaieglhllioaaDoorBitMaths
import Derived.Test.YtefaieglhllioaaDoorMarK
import Derived.Test.YtefaieglhllioaaDoorParMath
import Derived.Laws.Bits128
import Derived.BigQuiet
namespace Go.Proofs.YtefaieglhllioaaDoor
open Go.RowKit BM

theorem oc_key1 (x : Nat) (hx : x < 18446744073709551616) (h : oc1 x < 18446744073709551616) : IntKind.u64.wrap (bits .and .u64 ((x : Int) / 2) 6148914691236517205 + bits .and .u64 (x : Int) 6148914691236517205) = (oc1 x : Nat) := by
  have e1 := u64_and_nat (x / 2) 6148914691236517205 (by omega) (by omega)
  have e2 := u64_and_nat x 6148914691236517205 (by omega) (by omega)
  rw [Int.natCast_ediv] at e1
  rw [show ((6148914691236517205 : Nat) : Int) = 6148914691236517205 from rfl] at e1 e2
  rw [show ((2 : Nat) : Int) = 2 from rfl] at e1
  unfold oc1 at h ⊢
  rw [e1, e2, IntKind.wrap_u64]
  omega
theorem oc_key2 (x : Nat) (hx : x < 18446744073709551616) (h : oc2 x < 18446744073709551616) : IntKind.u64.wrap (bits .and .u64 ((x : Int) / 4) 3689348814741910323 + bits .and .u64 (x : Int) 3689348814741910323) = (oc2 x : Nat) := by
  have e1 := u64_and_nat (x / 4) 3689348814741910323 (by omega) (by omega)
  have e2 := u64_and_nat x 3689348814741910323 (by omega) (by omega)
  rw [Int.natCast_ediv] at e1
  rw [show ((3689348814741910323 : Nat) : Int) = 3689348814741910323 from rfl] at e1 e2
  rw [show ((4 : Nat) : Int) = 4 from rfl] at e1
  unfold oc2 at h ⊢
  rw [e1, e2, IntKind.wrap_u64]
  omega
theorem oc_key3 (x : Nat) (h : x / 16 + x < 18446744073709551616) : bits .and .u64 (IntKind.u64.wrap ((x : Int) / 16 + x)) 1085102592571150095 = (oc3 x : Nat) := by
  have e0 : IntKind.u64.wrap ((x : Int) / 16 + x) = ((x / 16 + x : Nat) : Int) := by rw [IntKind.wrap_u64]; omega
  have e1 := u64_and_nat (x / 16 + x) 1085102592571150095 (by omega) (by omega)
  rw [show ((1085102592571150095 : Nat) : Int) = 1085102592571150095 from rfl] at e1
  rw [e0, e1]; rfl
theorem oc_key4 (x : Nat) (h : oc4 x < 18446744073709551616) : IntKind.u64.wrap ((x : Int) + (x : Int) / 256) = (oc4 x : Nat) := by
  unfold oc4 at h ⊢; rw [IntKind.wrap_u64]; omega
theorem oc_key5 (x : Nat) (h : oc5 x < 18446744073709551616) : IntKind.u64.wrap ((x : Int) + (x : Int) / 65536) = (oc5 x : Nat) := by
  unfold oc5 at h ⊢; rw [IntKind.wrap_u64]; omega
theorem oc_key6 (x : Nat) (h : oc6 x < 18446744073709551616) : IntKind.u64.wrap ((x : Int) + (x : Int) / 4294967296) = (oc6 x : Nat) := by
  unfold oc6 at h ⊢; rw [IntKind.wrap_u64]; omega
/- MEMORY -/
theorem cellP {W w' : World} (h : Below W.heap.size W w') {p : Addr} {v : Value} (hc : W.cell? p = some v) : w'.cell? p = some v := by rw [h.cell (lt_of_cell hc)]; exact hc
/-- the cells from a on are xs -/
def RdV (w : World) (a : Option Addr) (xs : List Value) : Prop := ∀ j v, xs[j]? = some v → ∃ b off, a = some ⟨b, off, none⟩ ∧ w.cell? ⟨b, off + j, none⟩ = some v
theorem RdV.below {w w' : World} {a : Option Addr} {xs : List Value} (h : RdV w a xs) (hb : Below w.heap.size w w') : RdV w' a xs := fun j v hj => by
  obtain ⟨b, off, e, hc⟩ := h j v hj
  exact ⟨b, off, e, by rw [hb.cell (lt_of_cell hc)]; exact hc⟩
theorem RdV.below' {B : Nat} {w w' : World} {a : Option Addr} {xs : List Value} (h : RdV w a xs) (hb : Below B w w') (hB : w.heap.size ≤ B) : RdV w' a xs := h.below (hb.mono hB)
theorem RdV.dN {w : World} {a : Option Addr} {xs : List Value} (h : RdV w a xs) (n : Nat) : RdV (w.drewN n) a xs := h
theorem RdV.nil (w : World) (a : Option Addr) : RdV w a [] := fun j v h => by simp at h
theorem OwnV.rdV {w : World} {B : Nat} {e : TypeId} {size : Nat} {a : Option Addr} {n cap : Nat} {xs : List Value} (h : OwnV w B e size a n cap xs) : RdV w a xs := by
  intro j v hj
  rcases h.shape with ⟨_, _, _, h0⟩ | ⟨g, cur, rfl, _⟩
  · rw [h0] at hj; simp at hj
  · exact ⟨g, 0, rfl, by rw [Nat.zero_add]; exact h.cellAt hj⟩
/-- ints, naturals as ints, words, as values -/
def iv8 (l : List Int) : List Value := l.map (fun x => .int .i64 x)
def nv8 (l : List Nat) : List Value := l.map (fun (x : Nat) => Value.int .i64 (x : Int))
def wv8 (l : List (BitVec 64)) : List Value := l.map (fun x => .int .u64 (val x))
theorem iv8_get {l : List Int} {j : Nat} {x : Int} (h : l[j]? = some x) : (iv8 l)[j]? = some (.int .i64 x) := by simp [iv8, h]
theorem nv8_get {l : List Nat} {j : Nat} {x : Nat} (h : l[j]? = some x) : (nv8 l)[j]? = some (.int .i64 (x : Int)) := by simp [nv8, h]
theorem wv8_get {l : List (BitVec 64)} {j : Nat} {x : BitVec 64} (h : l[j]? = some x) : (wv8 l)[j]? = some (.int .u64 (val x)) := by simp [wv8, h]
/-- one level, with where it lies -/
structure LV where
  la : Option Addr
  lc : Nat
  ls : List Int
  ma : Option Addr
  mc : Nat
  ms : List Nat
def LV.cells (L : LV) : List Value := [.slice L.la L.ls.length L.lc, .slice L.ma L.ms.length L.mc]
def LV.v (L : LV) : Value := .agg #[.slice L.la L.ls.length L.lc, .slice L.ma L.ms.length L.mc]
def lvv (l : List LV) : List Value := (l.map LV.cells).flatten
theorem lvv_append (l m : List LV) : lvv (l ++ m) = lvv l ++ lvv m := by simp [lvv]
theorem lvv_get0 : ∀ {l : List LV} {j : Nat} {L : LV}, l[j]? = some L → (lvv l)[j * 2]? = some (.slice L.la L.ls.length L.lc) ∧ (lvv l)[j * 2 + 1]? = some (.slice L.ma L.ms.length L.mc)
  | [], j, L, h => by simp at h
  | a :: l, 0, L, h => by
    simp at h; subst h
    simp [lvv, LV.cells]
  | a :: l, j + 1, L, h => by
    have := lvv_get0 (l := l) (j := j) (L := L) (by simpa using h)
    simp only [lvv, List.map_cons, List.flatten_cons, LV.cells] at this ⊢
    rw [show (j + 1) * 2 = j * 2 + 1 + 1 by omega]
    simpa using this
def LVR (w : World) (L : LV) : Prop := RdV w L.la (iv8 L.ls) ∧ RdV w L.ma (nv8 L.ms)
theorem LVR.below {w w' : World} {L : LV} (h : LVR w L) (hb : Below w.heap.size w w') : LVR w' L := ⟨h.1.below hb, h.2.below hb⟩
/-- a vector's data, with where they lie -/
structure VD where
  ws : List (BitVec 64)
  n : Nat
  wa : Option Addr
  wc : Nat
  rs : List Nat
  ra : Option Addr
  rc : Nat
  lv : List LV
  la : Option Addr
  lc : Nat
/-- the box at b is that vector -/
def VX (w : World) (b : Nat) (v : VD) : Prop :=
  (w.cell? ⟨b, 0, none⟩ = some (.slice v.wa v.ws.length v.wc) ∧ w.cell? ⟨b, 1, none⟩ = some (.int .i64 v.n) ∧ w.cell? ⟨b, 2, none⟩ = some (.slice v.ra v.rs.length v.rc) ∧ w.cell? ⟨b, 3, none⟩ = some (.slice v.la v.lv.length v.lc)) ∧
  RdV w v.wa (wv8 v.ws) ∧ RdV w v.ra (nv8 v.rs) ∧ RdV w v.la (lvv v.lv) ∧ ∀ L ∈ v.lv, LVR w L
theorem VX.below {w w' : World} {b : Nat} {v : VD} (h : VX w b v) (hb : Below w.heap.size w w') : VX w' b v := by
  obtain ⟨⟨h0, h1, h2, h3⟩, r0, r1, r2, r3⟩ := h
  exact ⟨⟨cellP hb h0, cellP hb h1, cellP hb h2, cellP hb h3⟩, r0.below hb, r1.below hb, r2.below hb, fun L hL => (r3 L hL).below hb⟩
theorem VX.dN {w : World} {b : Nat} {v : VD} (h : VX w b v) (n : Nat) : VX (w.drewN n) b v := h
/-- the bits -/
def VD.f (v : VD) : Nat → Bool := wb v.ws
/-- how many nodes a depth has -/
def cn (n d : Nat) : Nat := n / 2 ^ sh d + 1
/-- the ranks and the levels tell what they are to -/
def VD.rok (v : VD) : Prop := v.ws.length = (v.n + 63) / 64 ∧ v.n ≤ 1125899906842624 ∧ v.rs = (List.range (v.n / 64 + 1)).map (fun k => rk v.f (64 * k))
def LV.ok (f : Nat → Bool) (n d : Nat) (L : LV) : Prop := L.ls.length = cn n d ∧ L.ms.length = cn n d ∧ ∀ i l m, L.ls[i]? = some l → L.ms[i]? = some m → IsAgg (ex f) (List.range' (lo d i) (hi_ n d i - lo d i)) l m
def VD.ok (v : VD) : Prop := v.rok ∧ (∀ d (L : LV), v.lv[d]? = some L → L.ok v.f v.n (d + 1)) ∧ 0 < v.lv.length ∧ cn v.n v.lv.length = 1
end Go.Proofs.YtefaieglhllioaaDoor
