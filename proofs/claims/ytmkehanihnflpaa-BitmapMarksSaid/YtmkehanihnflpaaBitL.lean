/- The statements' common head: the document's examples. -/
import Derived.Test.YtmkehanihnflpaaBitC
import Derived.Lib.SlBytesConst
namespace Go.Proofs.Ytmkehanihnflpaa
open Go.RowKit BM

theorem x1 (w : World) : Calls Try.prog 16 #[.int .u64 3, .bool false] w fun e w' => e = .returned (.tuple #[.int .u64 2, .bool false]) ∧ w = w' := by
  have h := Escaped_any 3#64 false w
  rw [show val (escM 3#64 false) = 2 from rfl, show escC 3#64 false = false from rfl] at h
  exact h
theorem x2 (w : World) : Calls Try.prog 16 #[.int .u64 9223372036854775808, .bool false] w fun e w' => e = .returned (.tuple #[.int .u64 0, .bool true]) ∧ w = w' := by
  have h := Escaped_any 9223372036854775808#64 false w
  rw [show val (escM 9223372036854775808#64 false) = 0 from rfl, show escC 9223372036854775808#64 false = true from rfl] at h
  exact h
theorem x3 (w : World) : Calls Try.prog 14 #[.int .u64 18] w fun e w' => e = .returned (.int .u64 14) ∧ w = w' := by
  have h := Prefix_any 18#64 w
  rw [show val (pre 18#64) = 14 from rfl] at h
  exact h
def exL : List Nat := [123, 34, 97, 34, 58, 49, 125]
set_option maxRecDepth 100000 in
theorem exV : masksV (sQ exL false) (mIn exL false false) (mOpen exL false false) (mClose exL false false) (mColon exL false false) (mComma exL false false) (mSpace exL false false) = .agg #[.int .u64 10, .int .u64 6, .int .u64 1, .int .u64 64, .int .u64 16, .int .u64 0, .int .u64 0] ∧ cOdd exL false = false ∧ cIn exL false false = false := by
  refine ⟨?_, by decide, by decide⟩
  unfold masksV
  rw [show val (sQ exL false) = 10 by decide, show val (mIn exL false false) = 6 by decide, show val (mOpen exL false false) = 1 by decide, show val (mClose exL false false) = 64 by decide, show val (mColon exL false false) = 16 by decide, show val (mComma exL false false) = 0 by decide, show val (mSpace exL false false) = 0 by decide]
theorem exRd (w : World) (t : TypeId) (f : Nat × Nat) (b : Nat) (hb : b = w.heap.size) : Rd (w.alloc (.cells #[.int .u8 123, .int .u8 34, .int .u8 97, .int .u8 34, .int .u8 58, .int .u8 49, .int .u8 125] t f)) .u8 (some ⟨b, 0, none⟩) exL := by
  subst hb
  refine Rd.mk fun j hj => ?_
  have hj' : j < 7 := hj
  have : j = 0 ∨ j = 1 ∨ j = 2 ∨ j = 3 ∨ j = 4 ∨ j = 5 ∨ j = 6 := by omega
  rcases this with rfl | rfl | rfl | rfl | rfl | rfl | rfl <;> (rw [World.cell?_alloc_mark]; rfl)
theorem x4 (a : Option Addr) (cap : Nat) (w : World) (hcap : 7 ≤ cap) (hrd : Rd w .u8 a exL) : Calls Try.prog 20 #[.slice a 7 cap, .agg #[.bool false, .bool false]] w fun e w' => e = .returned (.tuple #[.agg #[.int .u64 10, .int .u64 6, .int .u64 1, .int .u64 64, .int .u64 16, .int .u64 0, .int .u64 0], .agg #[.bool false, .bool false]]) ∧ Below w.heap.size w w' := by
  have h := Scan_any a cap exL false false w (by decide) hcap hrd
  rw [show exL.take 64 = exL by decide] at h
  unfold ResS at h
  rw [exV.1, exV.2.1, exV.2.2] at h
  exact h
set_option maxRecDepth 20000 in
set_option maxHeartbeats 1000000 in
theorem shown_any (w : World) : Calls Try.prog 11 #[] w fun r w' => r = .returned (.bool true) ∧ Below w.heap.size w w' := by
  have kc := fun (w : World) (C : Array Value) (n c : Nat) => Lib.run_convert_bytes_const (P := Try.prog) w 22 5 C n c Try.underlying22 Try.underlying5
  go_enter Try.func11, Try.ntmps11
  go_wp2_with (first | ((with_reducible refine (x1 _).mono ?_); rintro r w1 ⟨rfl, rfl⟩) | ((with_reducible refine (x2 _).mono ?_); rintro r w1 ⟨rfl, rfl⟩))
  go_wp2_with ((with_reducible refine (x4 _ _ _ (by decide) (exRd _ _ _ _ rfl)).mono ?_); rintro r w1 ⟨rfl, hb⟩)
  go_wp2_with ((with_reducible refine (x3 _).mono ?_); rintro r w2 ⟨rfl, rfl⟩)
  go_ret
  have B0 : Below w.heap.size w (w.alloc (.cells #[.int .u8 123, .int .u8 34, .int .u8 97, .int .u8 34, .int .u8 58, .int .u8 49, .int .u8 125] 5 (7, 8))) := (Below.refl _ _).alloc (Nat.le_refl _) _
  have B1 := B0.trans (hb.mono B0.size)
  exact ⟨rfl, (B1.alloc B1.size _).alloc (by have := B1.size; simp; omega) _⟩
end Go.Proofs.Ytmkehanihnflpaa
