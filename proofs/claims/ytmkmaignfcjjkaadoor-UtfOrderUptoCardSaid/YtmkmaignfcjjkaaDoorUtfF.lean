/- Encode, Explode, Clean of the program. -/
import Derived.Test.YtmkmaignfcjjkaaDoorUtfE
namespace Go.Proofs.YtmkmaignfcjjkaaDoor
open Go.RowKit UM

def ResE (p : Nat) (w : World) (r : Ending) (w' : World) : Prop := r = .returned (.tuple #[.string (tx (enc p)), .int .i64 0]) ∧ Below w.heap.size w w'
set_option maxHeartbeats 4000000 in
theorem Encode_pt (p : Nat) (w : World) (hp : Pt p) (ht : Sh w) : Calls Tryd.prog 14 #[.int .i64 p] w (ResE p w) := by
  have hI := fun W => isPoint_any (p : Int) W
  rw [isPt_nat, decide_eq_true hp] at hI
  have hP := put_any p w.heap.size none 0 [] w hp.1 ht (Nat.le_refl _) (by simp) (Own.nilNone _ _ _ _)
  rw [List.nil_append] at hP
  have hlo := enc_lo hp.1
  have HI := Lib.hid hI; have HP := Lib.hid hP; have HL := Lib.hid hlo
  clear hI hP hlo
  go_enter Tryd.func14, Tryd.ntmps14
  go_wp2_with fail
  refine (HI.out _).mono ?_
  rintro r w1 ⟨rfl, rfl⟩
  go_wp2_with fail
  refine HP.out.mono ?_
  rintro r w2 ⟨a, c, rfl, ho, hb, _⟩
  have hcv := conv_tx (P := Tryd.prog) w2 53 9 5 _ c a (enc p) (enc p).length Tryd.underlying53 Tryd.underlying5 Tryd.underlying9 ho HL.out rfl
  have HB := Lib.hid hb
  clear hb ho
  go_wp2
  go_ret2
  exact ⟨rfl, HB.out⟩
theorem Encode_no (p : Int) (w : World) (hp : isPt p = false) : Calls Tryd.prog 14 #[.int .i64 p] w fun r w' => r = .returned (.tuple #[.string ⟨#[]⟩, .int .i64 1]) ∧ Below w.heap.size w w' := by
  have hI := fun W => isPoint_any p W
  rw [hp] at hI
  have HI := Lib.hid hI
  clear hI hp
  go_enter Tryd.func14, Tryd.ntmps14
  go_wp2_with fail
  refine (HI.out _).mono ?_
  rintro r w1 ⟨rfl, rfl⟩
  go_wp2
  go_ret2
  exact ⟨rfl, Below.refl _ _⟩

theorem infoInt : (Tryd.prog.info? 3).map (fun i => (i.zero, i.size, i.bytes)) = some (some (.int .i64 0), 1, 8) := by kernel_rfl
def ResX (l : List Nat) (w : World) (r : Ending) (w' : World) : Prop := ∃ a c, r = .returned (.slice a l.length c) ∧ Own w' w.heap.size 3 .i64 a c l ∧ Below w.heap.size w w'
set_option maxHeartbeats 4000000 in
theorem Explode_any (s : ByteArray) (w : World) (hs : s.size ≤ 17592186040000) : Calls Tryd.prog 17 #[.string s] w (ResX (xp (bl s)) w) := by
  go_enter Tryd.func17, Tryd.ntmps17
  go_wp2
  go_loopw [3] (fun v3 wr => ∃ (pos : Nat) (ao : Option Addr) (cap n : Nat) (L : List Nat), v3 = .slice ao n cap ∧ Hid (n = L.length) ∧ n ≤ pos ∧ UI s w.heap.size w w.heap.size 3 .i64 wr pos ao cap L ∧ Hid (xp (bl s) = L ++ xp ((bl s).drop pos))) (fun _ wr => s.size - wr.iterPos w.heap.size)
  case atStart =>
    exact ⟨0, none, 0, 0, [], rfl, Lib.hid rfl, Nat.le_refl _, ⟨World.iter_heap w s 0, Own.nilNone _ _ _ _, (Below.refl _ _).alloc (Nat.le_refl _) _, Nat.le_refl _, Nat.le_refl _⟩, Lib.hid (by simp)⟩
  case round =>
    obtain ⟨pos, ao, cap, n, L, rfl, hn, hnp, I, HX⟩ := hrel
    by_cases hp : pos < s.size
    · obtain ⟨c, wd, hd, _, hc, hw1, hw2, _, hx⟩ := next_pt s pos hp
      have hnx : ∀ ty, (Instr.next (.pointer (some ⟨w.heap.size, 0, none⟩)) true ty).run Tryd.prog wr = _ := fun ty => Lib.run_next_any_at wr w.heap.size s pos ty I.it hp
      rw [hd.out] at hnx
      simp only at hnx
      have I2 := I.iter (pos + wd)
      have HIT := Lib.hid I.it
      have hb1 : (L.length + 1) * 8 ≤ 140737488355328 := by rw [← hn.out]; omega
      have hb2 : L.length + 1 ≤ maxLen := by rw [← hn.out]; unfold maxLen; omega
      have H1 := Lib.hid hb1; have H2 := Lib.hid hb2
      clear hb1 hb2 I
      go_wp2_with (at_builtin; refine wp_push2 _ rfl _ _ 33 rfl w.heap.size 3 .i64 8 Tryd.underlying33 infoInt ao cap n L hn.out rfl _ c rfl _ rfl I2.own H1.out H2.out (Nat.le_trans I2.hB I2.bw.size) ?_)
      intro ao2 cap2 w2 ho2 hb2 hki
      have I3 := I2.step ho2 hb2 hki
      clear hnx I2 ho2 hb2 hki
      go_wp2
      go_roundw
      case rel => exact ⟨pos + wd, ao2, cap2, n + 1, L ++ [c], rfl, Lib.hid (by rw [hn.out]; simp), by omega, I3, Lib.hid (by rw [HX.out, hx.out]; simp)⟩
      case measure => exact it_less HIT.out I3.it hp (by omega)
    · have hnx : ∀ ty, (Instr.next (.pointer (some ⟨w.heap.size, 0, none⟩)) true ty).run Tryd.prog wr = _ := fun ty => Lib.run_next_end_at wr w.heap.size s pos ty I.it hp
      have HE : Hid (xp (bl s) = L) := Lib.hid (by rw [HX.out, List.drop_of_length_le (by rw [bl_len]; omega)]; simp [xp_nil])
      have HO := Lib.hid I.own; have HB := Lib.hid I.bw
      clear I
      go_wp2
      go_ret
      exact ⟨ao, cap, ret_slice (by rw [HE.out]; exact hn.out), by rw [HE.out]; exact HO.out, HB.out⟩
end Go.Proofs.YtmkmaignfcjjkaaDoor
