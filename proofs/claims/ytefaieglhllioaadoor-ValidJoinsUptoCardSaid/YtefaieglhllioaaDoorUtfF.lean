/- Encode, Explode, Clean of the program. -/
import Derived.Test.YtefaieglhllioaaDoorUtfE
namespace Go.Proofs.YtefaieglhllioaaDoor
open Go.RowKit UM

def ResE (p : Nat) (w : World) (r : Ending) (w' : World) : Prop := r = .returned (.tuple #[.string (tx (enc p)), .int .i64 0]) ∧ Below w.heap.size w w'
set_option maxHeartbeats 4000000 in
theorem Encode_pt (p : Nat) (w : World) (hp : Pt p) (ht : Sh w) : Calls Tryd.prog 40 #[.int .i64 p] w (ResE p w) := by
  have hI := fun W => isPoint_any (p : Int) W
  rw [isPt_nat, decide_eq_true hp] at hI
  have hP := put_any p w.heap.size none 0 [] w hp.1 ht (Nat.le_refl _) (by simp) (Own.nilNone _ _ _ _)
  rw [List.nil_append] at hP
  have hlo := enc_lo hp.1
  have HI := Lib.hid hI; have HP := Lib.hid hP; have HL := Lib.hid hlo
  clear hI hP hlo
  go_enter Tryd.func40, Tryd.ntmps40
  go_wp2_with fail
  refine (HI.out _).mono ?_
  rintro r w1 ⟨rfl, rfl⟩
  go_wp2_with fail
  refine HP.out.mono ?_
  rintro r w2 ⟨a, c, rfl, ho, hb, _⟩
  have hcv := conv_tx (P := Tryd.prog) w2 22 9 5 _ c a (enc p) (enc p).length Tryd.underlying22 Tryd.underlying5 Tryd.underlying9 ho HL.out rfl
  have HB := Lib.hid hb
  clear hb ho
  go_wp2
  go_ret2
  exact ⟨rfl, HB.out⟩
theorem Encode_no (p : Int) (w : World) (hp : isPt p = false) : Calls Tryd.prog 40 #[.int .i64 p] w fun r w' => r = .returned (.tuple #[.string ⟨#[]⟩, .int .i64 1]) ∧ Below w.heap.size w w' := by
  have hI := fun W => isPoint_any p W
  rw [hp] at hI
  have HI := Lib.hid hI
  clear hI hp
  go_enter Tryd.func40, Tryd.ntmps40
  go_wp2_with fail
  refine (HI.out _).mono ?_
  rintro r w1 ⟨rfl, rfl⟩
  go_wp2
  go_ret2
  exact ⟨rfl, Below.refl _ _⟩

theorem infoInt : (Tryd.prog.info? 3).map (fun i => (i.zero, i.size, i.bytes)) = some (some (.int .i64 0), 1, 8) := by kernel_rfl
def ResX (l : List Nat) (w : World) (r : Ending) (w' : World) : Prop := ∃ a c, r = .returned (.slice a l.length c) ∧ Own w' w.heap.size 3 .i64 a c l ∧ Below w.heap.size w w'
end Go.Proofs.YtefaieglhllioaaDoor
