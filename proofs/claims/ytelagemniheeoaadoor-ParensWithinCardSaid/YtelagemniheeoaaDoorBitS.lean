/- What every row of layer 6 wants. -/
import Derived.Test.YtelagemniheeoaaDoorRows
import Derived.Test.YtelagemniheeoaaDoorBitB
import Derived.ProofKit
import Derived.OpenShut
import Derived.ChangeOld
import Derived.RowKit3
import Derived.ChangeSlices
namespace Go.Proofs.YtelagemniheeoaaDoor
open Go.ChangeShapes Go.WideShapes Go.ChangeAt Go.RowKit BM

theorem ownK : ownKnob Tryd.prog.godebug = none := by kernel_rfl
theorem laidOut : laidOutB Tryd.prog = true := by kernel_rfl
theorem u64_of {n : Int} (h : (Lit.int .u64 n).wf = true) : ∃ x : BitVec 64, Value.int .u64 n = .int .u64 (val x) := by
  have hb : 0 ≤ n ∧ n < 18446744073709551616 := by
    have := bounds_u64 h
    omega
  refine ⟨BitVec.ofNat 64 n.toNat, ?_⟩
  unfold val
  rw [BitVec.toNat_ofNat]
  congr 1
  omega
theorem u8_bd {n : Int} (h : (Lit.int .u8 n).wf = true) : 0 ≤ n ∧ n < 256 := by
  have := bounds_u8 h
  omega
theorem u8_of {n : Int} (h : (Lit.int .u8 n).wf = true) : ∃ c : Nat, Value.int .u8 n = .int .u8 (c : Int) := by
  have hb := u8_bd h
  exact ⟨n.toNat, by congr 1; omega⟩
theorem bytesOf {w : World} {x : Addr} {l c : Nat} {zs : List Int} (hl : l ≤ c) (hz : zs.length = c) (hcell : ∀ i, i < zs.length → w.cell? (x.add i) = some (.int .u8 (zs.getD i 0))) (hwz : ∀ n ∈ zs, (Lit.int .u8 n).wf = true) :
    ∃ m : List Nat, m.length = l ∧ Rd w .u8 (some x) m := by
  have hlen : ((zs.take l).map Int.toNat).length = l := by simp; omega
  refine ⟨(zs.take l).map Int.toNat, hlen, ?_⟩
  rcases Nat.eq_zero_or_pos zs.length with h0 | h0
  · intro j hj; rw [hlen] at hj; omega
  · obtain ⟨b, off, rfl, hc⟩ := ints_at hcell h0
    refine Rd.mk fun j hj => ?_
    rw [hlen] at hj
    rw [hc j (by omega)]
    have h1 := u8_bd (hwz (zs[j]'(by omega)) (List.getElem_mem _))
    have e1 : zs.getD j 0 = zs[j]'(by omega) := by simp [List.getD, show j < zs.length by omega]
    rw [e1]
    have e2 : (((zs.take l).map Int.toNat)[j]?.getD 0 : Nat) = (zs[j]'(by omega)).toNat := by
      simp [hj, show j < zs.length by omega]
    rw [e2]
    congr 2
    omega
end Go.Proofs.YtelagemniheeoaaDoor
