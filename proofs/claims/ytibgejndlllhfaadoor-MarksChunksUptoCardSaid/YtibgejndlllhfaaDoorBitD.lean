/- The document's Step walked. -/
import Derived.Test.YtibgejndlllhfaaDoorBitB
import Derived.Test.YtibgejndlllhfaaDoorLimbLaw
import Derived.Deep.QuietTactic
import Derived.BigQuiet
import Derived.BigRegion
import Derived.Laws.ResultCell
namespace Go.Proofs.YtibgejndlllhfaaDoor
open Go.RowKit BM

/-- a quote that isn't escaped -/
def isQ (c : Nat) (o : Bool) : Bool := decide (c = 34) && !o
/-- what a byte is -/
def what (c : Nat) (o i : Bool) : Nat :=
  if isQ c o then 113 else if i then 0 else
  if c = 91 ∨ c = 123 then 111 else if c = 93 ∨ c = 125 then 99 else if c = 58 ∨ c = 44 then c else
  if c = 32 ∨ c = 9 ∨ c = 10 ∨ c = 13 then 32 else 0
def nextIn (c : Nat) (o i : Bool) : Bool := if isQ c o then !i else i
def nextOdd (c : Nat) (o : Bool) : Bool := !o && decide (c = 92)
def ResStep (c : Nat) (o i : Bool) (w : World) (e : Ending) (w' : World) : Prop :=
  e = .returned (.tuple #[.int .u8 (what c o i), .bool (nextIn c o i), .agg #[.bool (nextOdd c o), .bool (nextIn c o i)]]) ∧ Below w.heap.size w w'

set_option maxRecDepth 100000 in
set_option maxHeartbeats 2000000 in
theorem Step_c34 (o i : Bool) (w : World) :
    Calls Tryd.prog 30 #[.int .u8 34, .agg #[.bool o, .bool i]] w (ResStep 34 o i w) := by
  cases o <;> cases i
  · go_enter Tryd.func30, Tryd.ntmps30
    go_wp2
    go_region
    go_wp2
    refine bodyPost_ret (v := .tuple #[.int .u8 113, .bool true, .agg #[.bool false, .bool true]]) (by simp [results, Tryd.results30, go_sem]) rfl ?_
    exact ⟨rfl, ((((Below.refl _ _).alloc (Nat.le_refl _) _).alloc (by simp) _).alloc (by simp; omega) _).drew⟩
  · go_enter Tryd.func30, Tryd.ntmps30
    go_wp2
    go_region
    go_wp2
    refine bodyPost_ret (v := .tuple #[.int .u8 113, .bool false, .agg #[.bool false, .bool false]]) (by simp [results, Tryd.results30, go_sem]) rfl ?_
    exact ⟨rfl, ((((Below.refl _ _).alloc (Nat.le_refl _) _).alloc (by simp) _).alloc (by simp; omega) _).drew⟩
  · go_enter Tryd.func30, Tryd.ntmps30
    go_wp2
    go_region
    go_wp2
    refine bodyPost_ret (v := .tuple #[.int .u8 0, .bool false, .agg #[.bool false, .bool false]]) (by simp [results, Tryd.results30, go_sem]) rfl ?_
    exact ⟨rfl, ((((Below.refl _ _).alloc (Nat.le_refl _) _).alloc (by simp) _).alloc (by simp; omega) _).drew⟩
  · go_enter Tryd.func30, Tryd.ntmps30
    go_wp2
    go_region
    go_wp2
    refine bodyPost_ret (v := .tuple #[.int .u8 0, .bool true, .agg #[.bool false, .bool true]]) (by simp [results, Tryd.results30, go_sem]) rfl ?_
    exact ⟨rfl, ((((Below.refl _ _).alloc (Nat.le_refl _) _).alloc (by simp) _).alloc (by simp; omega) _).drew⟩
set_option maxRecDepth 100000 in
set_option maxHeartbeats 2000000 in
theorem Step_c92 (o i : Bool) (w : World) :
    Calls Tryd.prog 30 #[.int .u8 92, .agg #[.bool o, .bool i]] w (ResStep 92 o i w) := by
  cases o <;> cases i
  · go_enter Tryd.func30, Tryd.ntmps30
    go_wp2
    go_region
    go_wp2
    refine bodyPost_ret (v := .tuple #[.int .u8 0, .bool false, .agg #[.bool true, .bool false]]) (by simp [results, Tryd.results30, go_sem]) rfl ?_
    exact ⟨rfl, ((((Below.refl _ _).alloc (Nat.le_refl _) _).alloc (by simp) _).alloc (by simp; omega) _).drew⟩
  · go_enter Tryd.func30, Tryd.ntmps30
    go_wp2
    go_region
    go_wp2
    refine bodyPost_ret (v := .tuple #[.int .u8 0, .bool true, .agg #[.bool true, .bool true]]) (by simp [results, Tryd.results30, go_sem]) rfl ?_
    exact ⟨rfl, ((((Below.refl _ _).alloc (Nat.le_refl _) _).alloc (by simp) _).alloc (by simp; omega) _).drew⟩
  · go_enter Tryd.func30, Tryd.ntmps30
    go_wp2
    go_region
    go_wp2
    refine bodyPost_ret (v := .tuple #[.int .u8 0, .bool false, .agg #[.bool false, .bool false]]) (by simp [results, Tryd.results30, go_sem]) rfl ?_
    exact ⟨rfl, ((((Below.refl _ _).alloc (Nat.le_refl _) _).alloc (by simp) _).alloc (by simp; omega) _).drew⟩
  · go_enter Tryd.func30, Tryd.ntmps30
    go_wp2
    go_region
    go_wp2
    refine bodyPost_ret (v := .tuple #[.int .u8 0, .bool true, .agg #[.bool false, .bool true]]) (by simp [results, Tryd.results30, go_sem]) rfl ?_
    exact ⟨rfl, ((((Below.refl _ _).alloc (Nat.le_refl _) _).alloc (by simp) _).alloc (by simp; omega) _).drew⟩
set_option maxRecDepth 100000 in
set_option maxHeartbeats 2000000 in
theorem Step_c91 (o i : Bool) (w : World) :
    Calls Tryd.prog 30 #[.int .u8 91, .agg #[.bool o, .bool i]] w (ResStep 91 o i w) := by
  cases o <;> cases i
  · go_enter Tryd.func30, Tryd.ntmps30
    go_wp2
    go_region
    go_wp2
    refine bodyPost_ret (v := .tuple #[.int .u8 111, .bool false, .agg #[.bool false, .bool false]]) (by simp [results, Tryd.results30, go_sem]) rfl ?_
    exact ⟨rfl, ((((Below.refl _ _).alloc (Nat.le_refl _) _).alloc (by simp) _).alloc (by simp; omega) _).drew⟩
  · go_enter Tryd.func30, Tryd.ntmps30
    go_wp2
    go_region
    go_wp2
    refine bodyPost_ret (v := .tuple #[.int .u8 0, .bool true, .agg #[.bool false, .bool true]]) (by simp [results, Tryd.results30, go_sem]) rfl ?_
    exact ⟨rfl, ((((Below.refl _ _).alloc (Nat.le_refl _) _).alloc (by simp) _).alloc (by simp; omega) _).drew⟩
  · go_enter Tryd.func30, Tryd.ntmps30
    go_wp2
    go_region
    go_wp2
    refine bodyPost_ret (v := .tuple #[.int .u8 111, .bool false, .agg #[.bool false, .bool false]]) (by simp [results, Tryd.results30, go_sem]) rfl ?_
    exact ⟨rfl, ((((Below.refl _ _).alloc (Nat.le_refl _) _).alloc (by simp) _).alloc (by simp; omega) _).drew⟩
  · go_enter Tryd.func30, Tryd.ntmps30
    go_wp2
    go_region
    go_wp2
    refine bodyPost_ret (v := .tuple #[.int .u8 0, .bool true, .agg #[.bool false, .bool true]]) (by simp [results, Tryd.results30, go_sem]) rfl ?_
    exact ⟨rfl, ((((Below.refl _ _).alloc (Nat.le_refl _) _).alloc (by simp) _).alloc (by simp; omega) _).drew⟩
set_option maxRecDepth 100000 in
set_option maxHeartbeats 2000000 in
theorem Step_c123 (o i : Bool) (w : World) :
    Calls Tryd.prog 30 #[.int .u8 123, .agg #[.bool o, .bool i]] w (ResStep 123 o i w) := by
  cases o <;> cases i
  · go_enter Tryd.func30, Tryd.ntmps30
    go_wp2
    go_region
    go_wp2
    refine bodyPost_ret (v := .tuple #[.int .u8 111, .bool false, .agg #[.bool false, .bool false]]) (by simp [results, Tryd.results30, go_sem]) rfl ?_
    exact ⟨rfl, ((((Below.refl _ _).alloc (Nat.le_refl _) _).alloc (by simp) _).alloc (by simp; omega) _).drew⟩
  · go_enter Tryd.func30, Tryd.ntmps30
    go_wp2
    go_region
    go_wp2
    refine bodyPost_ret (v := .tuple #[.int .u8 0, .bool true, .agg #[.bool false, .bool true]]) (by simp [results, Tryd.results30, go_sem]) rfl ?_
    exact ⟨rfl, ((((Below.refl _ _).alloc (Nat.le_refl _) _).alloc (by simp) _).alloc (by simp; omega) _).drew⟩
  · go_enter Tryd.func30, Tryd.ntmps30
    go_wp2
    go_region
    go_wp2
    refine bodyPost_ret (v := .tuple #[.int .u8 111, .bool false, .agg #[.bool false, .bool false]]) (by simp [results, Tryd.results30, go_sem]) rfl ?_
    exact ⟨rfl, ((((Below.refl _ _).alloc (Nat.le_refl _) _).alloc (by simp) _).alloc (by simp; omega) _).drew⟩
  · go_enter Tryd.func30, Tryd.ntmps30
    go_wp2
    go_region
    go_wp2
    refine bodyPost_ret (v := .tuple #[.int .u8 0, .bool true, .agg #[.bool false, .bool true]]) (by simp [results, Tryd.results30, go_sem]) rfl ?_
    exact ⟨rfl, ((((Below.refl _ _).alloc (Nat.le_refl _) _).alloc (by simp) _).alloc (by simp; omega) _).drew⟩
set_option maxRecDepth 100000 in
set_option maxHeartbeats 2000000 in
theorem Step_c93 (o i : Bool) (w : World) :
    Calls Tryd.prog 30 #[.int .u8 93, .agg #[.bool o, .bool i]] w (ResStep 93 o i w) := by
  cases o <;> cases i
  · go_enter Tryd.func30, Tryd.ntmps30
    go_wp2
    go_region
    go_wp2
    refine bodyPost_ret (v := .tuple #[.int .u8 99, .bool false, .agg #[.bool false, .bool false]]) (by simp [results, Tryd.results30, go_sem]) rfl ?_
    exact ⟨rfl, ((((Below.refl _ _).alloc (Nat.le_refl _) _).alloc (by simp) _).alloc (by simp; omega) _).drew⟩
  · go_enter Tryd.func30, Tryd.ntmps30
    go_wp2
    go_region
    go_wp2
    refine bodyPost_ret (v := .tuple #[.int .u8 0, .bool true, .agg #[.bool false, .bool true]]) (by simp [results, Tryd.results30, go_sem]) rfl ?_
    exact ⟨rfl, ((((Below.refl _ _).alloc (Nat.le_refl _) _).alloc (by simp) _).alloc (by simp; omega) _).drew⟩
  · go_enter Tryd.func30, Tryd.ntmps30
    go_wp2
    go_region
    go_wp2
    refine bodyPost_ret (v := .tuple #[.int .u8 99, .bool false, .agg #[.bool false, .bool false]]) (by simp [results, Tryd.results30, go_sem]) rfl ?_
    exact ⟨rfl, ((((Below.refl _ _).alloc (Nat.le_refl _) _).alloc (by simp) _).alloc (by simp; omega) _).drew⟩
  · go_enter Tryd.func30, Tryd.ntmps30
    go_wp2
    go_region
    go_wp2
    refine bodyPost_ret (v := .tuple #[.int .u8 0, .bool true, .agg #[.bool false, .bool true]]) (by simp [results, Tryd.results30, go_sem]) rfl ?_
    exact ⟨rfl, ((((Below.refl _ _).alloc (Nat.le_refl _) _).alloc (by simp) _).alloc (by simp; omega) _).drew⟩
set_option maxRecDepth 100000 in
set_option maxHeartbeats 2000000 in
theorem Step_c125 (o i : Bool) (w : World) :
    Calls Tryd.prog 30 #[.int .u8 125, .agg #[.bool o, .bool i]] w (ResStep 125 o i w) := by
  cases o <;> cases i
  · go_enter Tryd.func30, Tryd.ntmps30
    go_wp2
    go_region
    go_wp2
    refine bodyPost_ret (v := .tuple #[.int .u8 99, .bool false, .agg #[.bool false, .bool false]]) (by simp [results, Tryd.results30, go_sem]) rfl ?_
    exact ⟨rfl, ((((Below.refl _ _).alloc (Nat.le_refl _) _).alloc (by simp) _).alloc (by simp; omega) _).drew⟩
  · go_enter Tryd.func30, Tryd.ntmps30
    go_wp2
    go_region
    go_wp2
    refine bodyPost_ret (v := .tuple #[.int .u8 0, .bool true, .agg #[.bool false, .bool true]]) (by simp [results, Tryd.results30, go_sem]) rfl ?_
    exact ⟨rfl, ((((Below.refl _ _).alloc (Nat.le_refl _) _).alloc (by simp) _).alloc (by simp; omega) _).drew⟩
  · go_enter Tryd.func30, Tryd.ntmps30
    go_wp2
    go_region
    go_wp2
    refine bodyPost_ret (v := .tuple #[.int .u8 99, .bool false, .agg #[.bool false, .bool false]]) (by simp [results, Tryd.results30, go_sem]) rfl ?_
    exact ⟨rfl, ((((Below.refl _ _).alloc (Nat.le_refl _) _).alloc (by simp) _).alloc (by simp; omega) _).drew⟩
  · go_enter Tryd.func30, Tryd.ntmps30
    go_wp2
    go_region
    go_wp2
    refine bodyPost_ret (v := .tuple #[.int .u8 0, .bool true, .agg #[.bool false, .bool true]]) (by simp [results, Tryd.results30, go_sem]) rfl ?_
    exact ⟨rfl, ((((Below.refl _ _).alloc (Nat.le_refl _) _).alloc (by simp) _).alloc (by simp; omega) _).drew⟩
set_option maxRecDepth 100000 in
set_option maxHeartbeats 2000000 in
theorem Step_c58 (o i : Bool) (w : World) :
    Calls Tryd.prog 30 #[.int .u8 58, .agg #[.bool o, .bool i]] w (ResStep 58 o i w) := by
  cases o <;> cases i
  · go_enter Tryd.func30, Tryd.ntmps30
    go_wp2
    go_region
    go_wp2
    refine bodyPost_ret (v := .tuple #[.int .u8 58, .bool false, .agg #[.bool false, .bool false]]) (by simp [results, Tryd.results30, go_sem]) rfl ?_
    exact ⟨rfl, ((((Below.refl _ _).alloc (Nat.le_refl _) _).alloc (by simp) _).alloc (by simp; omega) _).drew⟩
  · go_enter Tryd.func30, Tryd.ntmps30
    go_wp2
    go_region
    go_wp2
    refine bodyPost_ret (v := .tuple #[.int .u8 0, .bool true, .agg #[.bool false, .bool true]]) (by simp [results, Tryd.results30, go_sem]) rfl ?_
    exact ⟨rfl, ((((Below.refl _ _).alloc (Nat.le_refl _) _).alloc (by simp) _).alloc (by simp; omega) _).drew⟩
  · go_enter Tryd.func30, Tryd.ntmps30
    go_wp2
    go_region
    go_wp2
    refine bodyPost_ret (v := .tuple #[.int .u8 58, .bool false, .agg #[.bool false, .bool false]]) (by simp [results, Tryd.results30, go_sem]) rfl ?_
    exact ⟨rfl, ((((Below.refl _ _).alloc (Nat.le_refl _) _).alloc (by simp) _).alloc (by simp; omega) _).drew⟩
  · go_enter Tryd.func30, Tryd.ntmps30
    go_wp2
    go_region
    go_wp2
    refine bodyPost_ret (v := .tuple #[.int .u8 0, .bool true, .agg #[.bool false, .bool true]]) (by simp [results, Tryd.results30, go_sem]) rfl ?_
    exact ⟨rfl, ((((Below.refl _ _).alloc (Nat.le_refl _) _).alloc (by simp) _).alloc (by simp; omega) _).drew⟩
set_option maxRecDepth 100000 in
set_option maxHeartbeats 2000000 in
theorem Step_c44 (o i : Bool) (w : World) :
    Calls Tryd.prog 30 #[.int .u8 44, .agg #[.bool o, .bool i]] w (ResStep 44 o i w) := by
  cases o <;> cases i
  · go_enter Tryd.func30, Tryd.ntmps30
    go_wp2
    go_region
    go_wp2
    refine bodyPost_ret (v := .tuple #[.int .u8 44, .bool false, .agg #[.bool false, .bool false]]) (by simp [results, Tryd.results30, go_sem]) rfl ?_
    exact ⟨rfl, ((((Below.refl _ _).alloc (Nat.le_refl _) _).alloc (by simp) _).alloc (by simp; omega) _).drew⟩
  · go_enter Tryd.func30, Tryd.ntmps30
    go_wp2
    go_region
    go_wp2
    refine bodyPost_ret (v := .tuple #[.int .u8 0, .bool true, .agg #[.bool false, .bool true]]) (by simp [results, Tryd.results30, go_sem]) rfl ?_
    exact ⟨rfl, ((((Below.refl _ _).alloc (Nat.le_refl _) _).alloc (by simp) _).alloc (by simp; omega) _).drew⟩
  · go_enter Tryd.func30, Tryd.ntmps30
    go_wp2
    go_region
    go_wp2
    refine bodyPost_ret (v := .tuple #[.int .u8 44, .bool false, .agg #[.bool false, .bool false]]) (by simp [results, Tryd.results30, go_sem]) rfl ?_
    exact ⟨rfl, ((((Below.refl _ _).alloc (Nat.le_refl _) _).alloc (by simp) _).alloc (by simp; omega) _).drew⟩
  · go_enter Tryd.func30, Tryd.ntmps30
    go_wp2
    go_region
    go_wp2
    refine bodyPost_ret (v := .tuple #[.int .u8 0, .bool true, .agg #[.bool false, .bool true]]) (by simp [results, Tryd.results30, go_sem]) rfl ?_
    exact ⟨rfl, ((((Below.refl _ _).alloc (Nat.le_refl _) _).alloc (by simp) _).alloc (by simp; omega) _).drew⟩
set_option maxRecDepth 100000 in
set_option maxHeartbeats 2000000 in
theorem Step_c32 (o i : Bool) (w : World) :
    Calls Tryd.prog 30 #[.int .u8 32, .agg #[.bool o, .bool i]] w (ResStep 32 o i w) := by
  cases o <;> cases i
  · go_enter Tryd.func30, Tryd.ntmps30
    go_wp2
    go_region
    go_wp2
    refine bodyPost_ret (v := .tuple #[.int .u8 32, .bool false, .agg #[.bool false, .bool false]]) (by simp [results, Tryd.results30, go_sem]) rfl ?_
    exact ⟨rfl, ((((Below.refl _ _).alloc (Nat.le_refl _) _).alloc (by simp) _).alloc (by simp; omega) _).drew⟩
  · go_enter Tryd.func30, Tryd.ntmps30
    go_wp2
    go_region
    go_wp2
    refine bodyPost_ret (v := .tuple #[.int .u8 0, .bool true, .agg #[.bool false, .bool true]]) (by simp [results, Tryd.results30, go_sem]) rfl ?_
    exact ⟨rfl, ((((Below.refl _ _).alloc (Nat.le_refl _) _).alloc (by simp) _).alloc (by simp; omega) _).drew⟩
  · go_enter Tryd.func30, Tryd.ntmps30
    go_wp2
    go_region
    go_wp2
    refine bodyPost_ret (v := .tuple #[.int .u8 32, .bool false, .agg #[.bool false, .bool false]]) (by simp [results, Tryd.results30, go_sem]) rfl ?_
    exact ⟨rfl, ((((Below.refl _ _).alloc (Nat.le_refl _) _).alloc (by simp) _).alloc (by simp; omega) _).drew⟩
  · go_enter Tryd.func30, Tryd.ntmps30
    go_wp2
    go_region
    go_wp2
    refine bodyPost_ret (v := .tuple #[.int .u8 0, .bool true, .agg #[.bool false, .bool true]]) (by simp [results, Tryd.results30, go_sem]) rfl ?_
    exact ⟨rfl, ((((Below.refl _ _).alloc (Nat.le_refl _) _).alloc (by simp) _).alloc (by simp; omega) _).drew⟩
set_option maxRecDepth 100000 in
set_option maxHeartbeats 2000000 in
theorem Step_c9 (o i : Bool) (w : World) :
    Calls Tryd.prog 30 #[.int .u8 9, .agg #[.bool o, .bool i]] w (ResStep 9 o i w) := by
  cases o <;> cases i
  · go_enter Tryd.func30, Tryd.ntmps30
    go_wp2
    go_region
    go_wp2
    refine bodyPost_ret (v := .tuple #[.int .u8 32, .bool false, .agg #[.bool false, .bool false]]) (by simp [results, Tryd.results30, go_sem]) rfl ?_
    exact ⟨rfl, ((((Below.refl _ _).alloc (Nat.le_refl _) _).alloc (by simp) _).alloc (by simp; omega) _).drew⟩
  · go_enter Tryd.func30, Tryd.ntmps30
    go_wp2
    go_region
    go_wp2
    refine bodyPost_ret (v := .tuple #[.int .u8 0, .bool true, .agg #[.bool false, .bool true]]) (by simp [results, Tryd.results30, go_sem]) rfl ?_
    exact ⟨rfl, ((((Below.refl _ _).alloc (Nat.le_refl _) _).alloc (by simp) _).alloc (by simp; omega) _).drew⟩
  · go_enter Tryd.func30, Tryd.ntmps30
    go_wp2
    go_region
    go_wp2
    refine bodyPost_ret (v := .tuple #[.int .u8 32, .bool false, .agg #[.bool false, .bool false]]) (by simp [results, Tryd.results30, go_sem]) rfl ?_
    exact ⟨rfl, ((((Below.refl _ _).alloc (Nat.le_refl _) _).alloc (by simp) _).alloc (by simp; omega) _).drew⟩
  · go_enter Tryd.func30, Tryd.ntmps30
    go_wp2
    go_region
    go_wp2
    refine bodyPost_ret (v := .tuple #[.int .u8 0, .bool true, .agg #[.bool false, .bool true]]) (by simp [results, Tryd.results30, go_sem]) rfl ?_
    exact ⟨rfl, ((((Below.refl _ _).alloc (Nat.le_refl _) _).alloc (by simp) _).alloc (by simp; omega) _).drew⟩
set_option maxRecDepth 100000 in
set_option maxHeartbeats 2000000 in
theorem Step_c10 (o i : Bool) (w : World) :
    Calls Tryd.prog 30 #[.int .u8 10, .agg #[.bool o, .bool i]] w (ResStep 10 o i w) := by
  cases o <;> cases i
  · go_enter Tryd.func30, Tryd.ntmps30
    go_wp2
    go_region
    go_wp2
    refine bodyPost_ret (v := .tuple #[.int .u8 32, .bool false, .agg #[.bool false, .bool false]]) (by simp [results, Tryd.results30, go_sem]) rfl ?_
    exact ⟨rfl, ((((Below.refl _ _).alloc (Nat.le_refl _) _).alloc (by simp) _).alloc (by simp; omega) _).drew⟩
  · go_enter Tryd.func30, Tryd.ntmps30
    go_wp2
    go_region
    go_wp2
    refine bodyPost_ret (v := .tuple #[.int .u8 0, .bool true, .agg #[.bool false, .bool true]]) (by simp [results, Tryd.results30, go_sem]) rfl ?_
    exact ⟨rfl, ((((Below.refl _ _).alloc (Nat.le_refl _) _).alloc (by simp) _).alloc (by simp; omega) _).drew⟩
  · go_enter Tryd.func30, Tryd.ntmps30
    go_wp2
    go_region
    go_wp2
    refine bodyPost_ret (v := .tuple #[.int .u8 32, .bool false, .agg #[.bool false, .bool false]]) (by simp [results, Tryd.results30, go_sem]) rfl ?_
    exact ⟨rfl, ((((Below.refl _ _).alloc (Nat.le_refl _) _).alloc (by simp) _).alloc (by simp; omega) _).drew⟩
  · go_enter Tryd.func30, Tryd.ntmps30
    go_wp2
    go_region
    go_wp2
    refine bodyPost_ret (v := .tuple #[.int .u8 0, .bool true, .agg #[.bool false, .bool true]]) (by simp [results, Tryd.results30, go_sem]) rfl ?_
    exact ⟨rfl, ((((Below.refl _ _).alloc (Nat.le_refl _) _).alloc (by simp) _).alloc (by simp; omega) _).drew⟩
set_option maxRecDepth 100000 in
set_option maxHeartbeats 2000000 in
theorem Step_c13 (o i : Bool) (w : World) :
    Calls Tryd.prog 30 #[.int .u8 13, .agg #[.bool o, .bool i]] w (ResStep 13 o i w) := by
  cases o <;> cases i
  · go_enter Tryd.func30, Tryd.ntmps30
    go_wp2
    go_region
    go_wp2
    refine bodyPost_ret (v := .tuple #[.int .u8 32, .bool false, .agg #[.bool false, .bool false]]) (by simp [results, Tryd.results30, go_sem]) rfl ?_
    exact ⟨rfl, ((((Below.refl _ _).alloc (Nat.le_refl _) _).alloc (by simp) _).alloc (by simp; omega) _).drew⟩
  · go_enter Tryd.func30, Tryd.ntmps30
    go_wp2
    go_region
    go_wp2
    refine bodyPost_ret (v := .tuple #[.int .u8 0, .bool true, .agg #[.bool false, .bool true]]) (by simp [results, Tryd.results30, go_sem]) rfl ?_
    exact ⟨rfl, ((((Below.refl _ _).alloc (Nat.le_refl _) _).alloc (by simp) _).alloc (by simp; omega) _).drew⟩
  · go_enter Tryd.func30, Tryd.ntmps30
    go_wp2
    go_region
    go_wp2
    refine bodyPost_ret (v := .tuple #[.int .u8 32, .bool false, .agg #[.bool false, .bool false]]) (by simp [results, Tryd.results30, go_sem]) rfl ?_
    exact ⟨rfl, ((((Below.refl _ _).alloc (Nat.le_refl _) _).alloc (by simp) _).alloc (by simp; omega) _).drew⟩
  · go_enter Tryd.func30, Tryd.ntmps30
    go_wp2
    go_region
    go_wp2
    refine bodyPost_ret (v := .tuple #[.int .u8 0, .bool true, .agg #[.bool false, .bool true]]) (by simp [results, Tryd.results30, go_sem]) rfl ?_
    exact ⟨rfl, ((((Below.refl _ _).alloc (Nat.le_refl _) _).alloc (by simp) _).alloc (by simp; omega) _).drew⟩
set_option maxRecDepth 100000 in
set_option maxHeartbeats 2000000 in
theorem Step_cx (c : Nat) (h34 : c ≠ 34) (h92 : c ≠ 92) (h91 : c ≠ 91) (h123 : c ≠ 123) (h93 : c ≠ 93) (h125 : c ≠ 125) (h58 : c ≠ 58) (h44 : c ≠ 44) (h32 : c ≠ 32) (h9 : c ≠ 9) (h10 : c ≠ 10) (h13 : c ≠ 13) (o i : Bool) (w : World) :
    Calls Tryd.prog 30 #[.int .u8 (c : Int), .agg #[.bool o, .bool i]] w (ResStep c o i w) := by
  have e34 : (((c : Nat) : Int) == 34) = false := by simp; omega
  have e92 : (((c : Nat) : Int) == 92) = false := by simp; omega
  have e91 : (((c : Nat) : Int) == 91) = false := by simp; omega
  have e123 : (((c : Nat) : Int) == 123) = false := by simp; omega
  have e93 : (((c : Nat) : Int) == 93) = false := by simp; omega
  have e125 : (((c : Nat) : Int) == 125) = false := by simp; omega
  have e58 : (((c : Nat) : Int) == 58) = false := by simp; omega
  have e44 : (((c : Nat) : Int) == 44) = false := by simp; omega
  have e32 : (((c : Nat) : Int) == 32) = false := by simp; omega
  have e9 : (((c : Nat) : Int) == 9) = false := by simp; omega
  have e10 : (((c : Nat) : Int) == 10) = false := by simp; omega
  have e13 : (((c : Nat) : Int) == 13) = false := by simp; omega
  have w1 : ∀ o i, what c o i = 0 := by intro o i; simp [what, isQ, h34, h91, h123, h93, h125, h58, h44, h32, h9, h10, h13]
  have w2 : ∀ o i, nextIn c o i = i := by intro o i; simp [nextIn, isQ, h34]
  have w3 : ∀ o, nextOdd c o = false := by intro o; simp [nextOdd, h92]
  have W1 := Lib.hid w1; have W2 := Lib.hid w2; have W3 := Lib.hid w3
  clear w1 w2 w3
  clear h34 h92 h91 h123 h93 h125 h58 h44 h32 h9 h10 h13
  cases o <;> cases i
  · go_enter Tryd.func30, Tryd.ntmps30
    go_wp2
    go_region
    go_wp2
    refine bodyPost_ret (v := .tuple #[.int .u8 0, .bool false, .agg #[.bool false, .bool false]]) (by simp [results, Tryd.results30, go_sem]) rfl ?_
    exact ⟨by rw [W1.out, W2.out, W3.out]; rfl, ((((Below.refl _ _).alloc (Nat.le_refl _) _).alloc (by simp) _).alloc (by simp; omega) _).drew⟩
  · go_enter Tryd.func30, Tryd.ntmps30
    go_wp2
    go_region
    go_wp2
    refine bodyPost_ret (v := .tuple #[.int .u8 0, .bool true, .agg #[.bool false, .bool true]]) (by simp [results, Tryd.results30, go_sem]) rfl ?_
    exact ⟨by rw [W1.out, W2.out, W3.out]; rfl, ((((Below.refl _ _).alloc (Nat.le_refl _) _).alloc (by simp) _).alloc (by simp; omega) _).drew⟩
  · go_enter Tryd.func30, Tryd.ntmps30
    go_wp2
    go_region
    go_wp2
    refine bodyPost_ret (v := .tuple #[.int .u8 0, .bool false, .agg #[.bool false, .bool false]]) (by simp [results, Tryd.results30, go_sem]) rfl ?_
    exact ⟨by rw [W1.out, W2.out, W3.out]; rfl, ((((Below.refl _ _).alloc (Nat.le_refl _) _).alloc (by simp) _).alloc (by simp; omega) _).drew⟩
  · go_enter Tryd.func30, Tryd.ntmps30
    go_wp2
    go_region
    go_wp2
    refine bodyPost_ret (v := .tuple #[.int .u8 0, .bool true, .agg #[.bool false, .bool true]]) (by simp [results, Tryd.results30, go_sem]) rfl ?_
    exact ⟨by rw [W1.out, W2.out, W3.out]; rfl, ((((Below.refl _ _).alloc (Nat.le_refl _) _).alloc (by simp) _).alloc (by simp; omega) _).drew⟩
theorem Step_any (c : Nat) (o i : Bool) (w : World) :
    Calls Tryd.prog 30 #[.int .u8 c, .agg #[.bool o, .bool i]] w (ResStep c o i w) := by
  by_cases h34 : c = 34
  · subst h34; exact Step_c34 o i w
  by_cases h92 : c = 92
  · subst h92; exact Step_c92 o i w
  by_cases h91 : c = 91
  · subst h91; exact Step_c91 o i w
  by_cases h123 : c = 123
  · subst h123; exact Step_c123 o i w
  by_cases h93 : c = 93
  · subst h93; exact Step_c93 o i w
  by_cases h125 : c = 125
  · subst h125; exact Step_c125 o i w
  by_cases h58 : c = 58
  · subst h58; exact Step_c58 o i w
  by_cases h44 : c = 44
  · subst h44; exact Step_c44 o i w
  by_cases h32 : c = 32
  · subst h32; exact Step_c32 o i w
  by_cases h9 : c = 9
  · subst h9; exact Step_c9 o i w
  by_cases h10 : c = 10
  · subst h10; exact Step_c10 o i w
  by_cases h13 : c = 13
  · subst h13; exact Step_c13 o i w
  exact Step_cx c h34 h92 h91 h123 h93 h125 h58 h44 h32 h9 h10 h13 o i w
end Go.Proofs.YtibgejndlllhfaaDoor
