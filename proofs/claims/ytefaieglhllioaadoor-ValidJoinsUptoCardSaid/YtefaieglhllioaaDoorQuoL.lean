/- The statements' common head: the document's examples. -/
import Derived.Test.YtefaieglhllioaaDoorQuoJ
import Derived.Lib.SlBytesConst
namespace Go.Proofs.YtefaieglhllioaaDoor
open Go.RowKit UM QM

def q1 : List Nat := [34, 92, 117, 100, 56, 51, 52, 120, 34]
def q2 : List Nat := [34, 97]
def q3 : List Nat := [34, 92, 120, 34]
theorem dx1 : RdR q1 (toI [65533, 120]) 9 0 := .inr ⟨by decide, Tl.go' (k' := 7) (by decide) (by decide) (Tl.go' (k' := 8) (by decide) (by decide) (Tl.stop (k := 8) (by decide)))⟩
theorem dx2 : RdR q2 (toI [97]) 2 5 := .inr ⟨by decide, Tl.go' (k' := 2) (by decide) (by decide) (Tl.bad' (x := 0) (k' := 2) (by decide) (by decide))⟩
theorem dx3 : RdR q3 (toI []) 2 2 := .inr ⟨by decide, Tl.bad' (x := 0) (k' := 2) (by decide) (by decide)⟩
theorem litRd {l : List Nat} {C : Array Value} (hC : C.toList = cs .u8 l) (w : World) (t : TypeId) (f : Nat × Nat) : Rd (w.alloc (.cells C t f)) .u8 (some ⟨w.heap.size, 0, none⟩) l := by
  refine Rd.mk fun j hj => ?_
  rw [Nat.zero_add, World.cell?_alloc_mark, ← Array.getElem?_toList, hC, cs_get hj]
theorem lit_any {l : List Nat} {C : Array Value} (hC : C.toList = cs .u8 l) {n : Nat} (hn : n = l.length) (hlo : LM.Lo 256 l) (hs : l.length ≤ 1000) {qs : List Nat} {k err : Nat} (h : RdR l (toI qs) k err) (w : World) (ht : Sh w) (t : TypeId) (f : Nat × Nat) :
    Calls Tryd.prog 33 #[.slice (some ⟨w.heap.size, 0, none⟩) n n] (w.alloc (.cells C t f)) (ResRv qs k err w) := by
  subst hn
  have hb : Below w.heap.size w (w.alloc (.cells C t f)) := (Below.refl _ _).alloc (Nat.le_refl _) _
  refine (Read_of h (by omega) hlo (litRd hC w t f) (ht.below hb) (Nat.le_refl _)).mono ?_
  rintro r w' ⟨rfl, h2⟩
  exact ⟨rfl, hb.trans (h2.mono hb.size)⟩
theorem lo_of {l : List Nat} (h : l.all (· < 256) = true) : LM.Lo 256 l := fun x hx => by simpa using List.all_eq_true.1 h x hx
theorem x1 (w : World) (ht : Sh w) : Calls Tryd.prog 33 #[.slice (some ⟨w.heap.size, 0, none⟩) 9 9] (w.alloc (.cells #[.int .u8 34, .int .u8 92, .int .u8 117, .int .u8 100, .int .u8 56, .int .u8 51, .int .u8 52, .int .u8 120, .int .u8 34] 5 (9, 10))) fun r w' => r = .returned (.tuple #[.string ⟨#[239, 191, 189, 120]⟩, .int .i64 9, .int .i64 0]) ∧ Below w.heap.size w w' := by
  have h := lit_any (l := q1) (C := #[.int .u8 34, .int .u8 92, .int .u8 117, .int .u8 100, .int .u8 56, .int .u8 51, .int .u8 52, .int .u8 120, .int .u8 34]) rfl (n := 9) rfl (lo_of (by decide)) (by decide) dx1 w ht 5 (9, 10)
  unfold ResRv at h
  exact h
theorem x2 (w : World) (ht : Sh w) : Calls Tryd.prog 33 #[.slice (some ⟨w.heap.size, 0, none⟩) 2 2] (w.alloc (.cells #[.int .u8 34, .int .u8 97] 5 (2, 3))) fun r w' => r = .returned (.tuple #[.string ⟨#[]⟩, .int .i64 2, .int .i64 5]) ∧ Below w.heap.size w w' := by
  have h := lit_any (l := q2) (C := #[.int .u8 34, .int .u8 97]) rfl (n := 2) rfl (lo_of (by decide)) (by decide) dx2 w ht 5 (2, 3)
  unfold ResRv at h
  exact h
theorem x3 (w : World) (ht : Sh w) : Calls Tryd.prog 33 #[.slice (some ⟨w.heap.size, 0, none⟩) 4 4] (w.alloc (.cells #[.int .u8 34, .int .u8 92, .int .u8 120, .int .u8 34] 5 (4, 5))) fun r w' => r = .returned (.tuple #[.string ⟨#[]⟩, .int .i64 2, .int .i64 2]) ∧ Below w.heap.size w w' := by
  have h := lit_any (l := q3) (C := #[.int .u8 34, .int .u8 92, .int .u8 120, .int .u8 34]) rfl (n := 4) rfl (lo_of (by decide)) (by decide) dx3 w ht 5 (4, 5)
  unfold ResRv at h
  exact h
end Go.Proofs.YtefaieglhllioaaDoor
