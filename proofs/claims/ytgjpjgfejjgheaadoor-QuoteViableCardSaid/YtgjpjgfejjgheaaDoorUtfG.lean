/- Clean and Slice of the program. -/
import Derived.Test.YtgjpjgfejjgheaaDoorUtfF
namespace Go.Proofs.YtgjpjgfejjgheaaDoor
open Go.RowKit UM

def ResT (l : List Nat) (w : World) (r : Ending) (w' : World) : Prop := r = .returned (.string (tx l)) ∧ Below w.heap.size w w'
set_option maxHeartbeats 4000000 in
theorem Clean_any (s : ByteArray) (w : World) (hs : s.size ≤ 17592186040000) (ht : Sh w) : Calls Tryd.prog 11 #[.string s] w (ResT (encL (xp (bl s))) w) := by
  have HT := Lib.hid ht
  clear ht
  go_enter Tryd.func11, Tryd.ntmps11
  go_wp2_with (at_make; refine wp_make0 _ rfl _ _ 26 rfl w.heap.size 5 .u8 1 Tryd.underlying26 infoU8 _ _ _ s.size rfl rfl (by omega) (by omega) (by unfold maxLen; omega) (Nat.le_refl _) ?_)
  intro w1 ho1 hb1
  have I0 : UI s w.heap.size w w1.heap.size 5 .u8 (w1.iter s 0) 0 (some ⟨w.heap.size, 0, none⟩) s.size [] := ⟨World.iter_heap w1 s 0, ho1.alloc _, hb1.alloc hb1.size _, hb1.size, Nat.le_refl _⟩
  have II := Lib.hid I0
  clear I0 ho1 hb1
  go_wp2
  go_loopw [3] (fun v3 wr => ∃ (pos : Nat) (ao : Option Addr) (cap n : Nat) (ps : List Nat), v3 = .slice ao n cap ∧ Hid (n = (encL ps).length) ∧ ps.length ≤ pos ∧ UI s w.heap.size w w1.heap.size 5 .u8 wr pos ao cap (encL ps) ∧ Hid (xp (bl s) = ps ++ xp ((bl s).drop pos))) (fun _ wr => s.size - wr.iterPos w1.heap.size)
  case atStart =>
    exact ⟨0, _, _, 0, [], rfl, Lib.hid rfl, Nat.le_refl _, II.out, Lib.hid (by simp)⟩
  case round =>
    clear II
    obtain ⟨pos, ao, cap, n, ps, rfl, hn, hnp, I, HX⟩ := hrel
    by_cases hp : pos < s.size
    · obtain ⟨c, wd, hd, _, hc, hw1, hw2, _, hx⟩ := next_pt s pos hp
      have hnx : ∀ ty, (Instr.next (.pointer (some ⟨w1.heap.size, 0, none⟩)) true ty).run Tryd.prog wr = _ := fun ty => Lib.run_next_any_at wr w1.heap.size s pos ty I.it hp
      rw [hd.out] at hnx
      simp only at hnx
      have I2 := I.iter (pos + wd)
      have HIT := Lib.hid I.it
      have h4 := encL_len ps
      have hP := put_any c w.heap.size ao cap (encL ps) (wr.iterAt w1.heap.size s (pos + wd)) hc (HT.out.below I2.bw) (Nat.le_trans I2.hB I2.bw.size) (by omega) I2.own
      rw [← hn.out] at hP
      have HP := Lib.hid hP
      clear hP I h4
      go_wp2_with fail
      refine HP.out.mono ?_
      rintro r w2 ⟨ao2, cap2, rfl, ho2, hb2, hki⟩
      have I3 := I2.step ho2 hb2 hki
      rw [show encL ps ++ enc c = encL (ps ++ [c]) by rw [encL_append, encL_one]] at I3
      clear hnx I2 ho2 hb2 hki HP
      go_wp2
      go_roundw
      case rel => exact ⟨pos + wd, ao2, cap2, _, ps ++ [c], rfl, Lib.hid (by rw [encL_append, encL_one, List.length_append]), by simp; omega, I3, Lib.hid (by rw [HX.out, hx.out]; simp)⟩
      case measure => exact it_less HIT.out I3.it hp (by omega)
    · have hnx : ∀ ty, (Instr.next (.pointer (some ⟨w1.heap.size, 0, none⟩)) true ty).run Tryd.prog wr = _ := fun ty => Lib.run_next_end_at wr w1.heap.size s pos ty I.it hp
      have hE : xp (bl s) = ps := by rw [HX.out, List.drop_of_length_le (by rw [bl_len]; omega)]; simp [xp_nil]
      have hlo : ∀ x ∈ encL ps, x < 256 := encL_lo (by rw [← hE]; exact xp_pts _)
      have hcv := conv_tx (P := Tryd.prog) wr 26 9 5 _ cap ao (encL ps) n Tryd.underlying26 Tryd.underlying5 Tryd.underlying9 I.own hlo hn.out
      have HE := Lib.hid hE; have HB := Lib.hid I.bw
      clear I hE hlo
      go_wp2
      go_ret
      exact ⟨by rw [HE.out]; rfl, HB.out⟩

theorem slc_snoc {ps : List Nat} {c : Nat} {f : Int} (h : f ≤ (ps.length : Int)) : (ps ++ [c]).drop f.toNat = ps.drop f.toNat ++ [c] := by
  rw [List.drop_append_of_le_length (by omega)]
theorem slc_skip {ps : List Nat} {c : Nat} {f : Int} (h : (ps.length : Int) < f) : (ps ++ [c]).drop f.toNat = [] ∧ ps.drop f.toNat = [] :=
  ⟨List.drop_of_length_le (by simp; omega), List.drop_of_length_le (by omega)⟩
end Go.Proofs.YtgjpjgfejjgheaaDoor
