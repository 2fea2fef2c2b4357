/- Where bytes stand: walks of Bits and anyOf. -/
import Derived.Test.YtelagemniheeoaaDoorBitA
import Derived.Test.YtelagemniheeoaaDoorLimbKit
namespace Go.Proofs.YtelagemniheeoaaDoor
open Go.RowKit BM

/-- byte i is c -/
def isAt (l : List Nat) (c : Nat) (i : Nat) : Bool := decide (l[i]?.getD 0 = c)
/-- the mask of the byte c among the first 64 -/
def bm (l : List Nat) (c : Nat) : BitVec 64 := mk (isAt l c) (min l.length 64)
theorem put_t {l : List Nat} {c j : Nat} (h : isAt l c j = true) : IntKind.u64.wrap (val (mk (isAt l c) j) + IntKind.u64.wrap (2 ^ j)) = val (mk (isAt l c) (j + 1)) := by
  rw [u_one, u_add]
  show val (mk (isAt l c) j + pw j) = val (mk (isAt l c) j + _)
  rw [if_pos h]; rfl
theorem put_f {l : List Nat} {c j : Nat} (h : isAt l c j = false) : val (mk (isAt l c) j) = val (mk (isAt l c) (j + 1)) := by
  show _ = val (mk (isAt l c) j + _)
  rw [if_neg (by rw [h]; decide)]; simp
theorem Rd.byte {w : World} {k : IntKind} {a : Option Addr} {l : List Nat} (h : Rd w k a l) (j : Nat) (hj : j < l.length) :
    ∃ b off x, a = some ⟨b, off, none⟩ ∧ Hid (l[j]?.getD 0 = x) ∧ w.cell? ⟨b, off + j, none⟩ = some (.int k (x : Int)) := by
  obtain ⟨b, off, e, hc⟩ := h j hj
  exact ⟨b, off, _, e, Lib.hid rfl, hc⟩
theorem isAt_is (l : List Nat) (c j : Nat) : (((l[j]?.getD 0 : Nat) : Int) == (c : Int)) = isAt l c j := by
  unfold isAt
  rw [Bool.eq_iff_iff, beq_iff_eq, decide_eq_true_iff]; omega

/-- any of the first k signs -/
def orTo (l : List Nat) (s : ByteArray) : Nat → BitVec 64
  | 0 => 0#64
  | k + 1 => orTo l s k ||| bm l ((s.data.toList[k]?.getD 0).toNat)
theorem orTo_step (l : List Nat) (s : ByteArray) (k : Nat) (h : k < s.size) : bits .or .u64 (val (orTo l s k)) (val (bm l s[k].toNat)) = val (orTo l s (k + 1)) := by
  rw [u_or]
  show _ = val (orTo l s k ||| bm l ((s.data.toList[k]?.getD 0).toNat))
  have : (s.data.toList[k]?.getD 0) = s[k] := by
    have h' : k < s.data.toList.length := by simpa using h
    rw [List.getElem?_eq_getElem h']; rfl
  rw [this]
def masksV (q n op cl co cm sp : BitVec 64) : Value := .agg #[.int .u64 (val q), .int .u64 (val n), .int .u64 (val op), .int .u64 (val cl), .int .u64 (val co), .int .u64 (val cm), .int .u64 (val sp)]
end Go.Proofs.YtelagemniheeoaaDoor
