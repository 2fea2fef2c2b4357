/- Clean and Slice of the program. -/
import Derived.Test.YtmkmaignfcjjkaaDoorUtfF
namespace Go.Proofs.YtmkmaignfcjjkaaDoor
open Go.RowKit UM

def ResT (l : List Nat) (w : World) (r : Ending) (w' : World) : Prop := r = .returned (.string (tx l)) ∧ Below w.heap.size w w'
set_option maxHeartbeats 4000000 in
theorem Clean_any (s : ByteArray) (w : World) (hs : s.size ≤ 17592186040000) (ht : Sh w) : Calls Tryd.prog 21 #[.string s] w (ResT (encL (xp (bl s))) w) := by
  have HT := Lib.hid ht
  clear ht
  go_enter Tryd.func21, Tryd.ntmps21
  go_wp2_with (at_make; refine wp_make0 _ rfl _ _ 53 rfl w.heap.size 5 .u8 1 Tryd.underlying53 infoU8 _ _ _ s.size rfl rfl (by omega) (by omega) (by unfold maxLen; omega) (Nat.le_refl _) ?_)
  intro w1 ho1 hb1
  have I0 : UI s w.heap.size w w1.heap.size 5 .u8 (w1.iter s 0) 0 (some ⟨w.heap.size, 0, none⟩) s.size [] := ⟨World.iter_heap w1 s 0, ho1.alloc _, hb1.alloc hb1.size _, hb1.size, Nat.le_refl _⟩
  have II := Lib.hid I0
  clear I0 ho1 hb1
  go_wp2
  go_loopw [3] (fun v3 wr => ∃ (pos : Nat) (ao : Option Addr) (cap n : Nat) (ps : List Nat), v3 = .slice ao n cap ∧ Hid (n = (encL ps).length) ∧ ps.length ≤ pos ∧ UI s w.heap.size w w1.heap.size 5 .u8 wr pos ao cap (encL ps) ∧ Hid (xp (bl s) = ps ++ xp ((bl s).drop pos))) (fun _ wr => s.size - wr.iterPos w1.heap.size)
  case atStart =>
    exact ⟨0, _, _, 0, [], rfl, Lib.hid rfl, Nat.le_refl _, II.out, Lib.hid (by simp)⟩
  case round =>
    clear II
    obtain ⟨pos, ao, cap, n, ps, rfl, hn, hnp, I, HX⟩ := hrel
    by_cases hp : pos < s.size
    · obtain ⟨c, wd, hd, _, hc, hw1, hw2, _, hx⟩ := next_pt s pos hp
      have hnx : ∀ ty, (Instr.next (.pointer (some ⟨w1.heap.size, 0, none⟩)) true ty).run Tryd.prog wr = _ := fun ty => Lib.run_next_any_at wr w1.heap.size s pos ty I.it hp
      rw [hd.out] at hnx
      simp only at hnx
      have I2 := I.iter (pos + wd)
      have HIT := Lib.hid I.it
      have h4 := encL_len ps
      have hP := put_any c w.heap.size ao cap (encL ps) (wr.iterAt w1.heap.size s (pos + wd)) hc (HT.out.below I2.bw) (Nat.le_trans I2.hB I2.bw.size) (by omega) I2.own
      rw [← hn.out] at hP
      have HP := Lib.hid hP
      clear hP I h4
      go_wp2_with fail
      refine HP.out.mono ?_
      rintro r w2 ⟨ao2, cap2, rfl, ho2, hb2, hki⟩
      have I3 := I2.step ho2 hb2 hki
      rw [show encL ps ++ enc c = encL (ps ++ [c]) by rw [encL_append, encL_one]] at I3
      clear hnx I2 ho2 hb2 hki HP
      go_wp2
      go_roundw
      case rel => exact ⟨pos + wd, ao2, cap2, _, ps ++ [c], rfl, Lib.hid (by rw [encL_append, encL_one, List.length_append]), by simp; omega, I3, Lib.hid (by rw [HX.out, hx.out]; simp)⟩
      case measure => exact it_less HIT.out I3.it hp (by omega)
    · have hnx : ∀ ty, (Instr.next (.pointer (some ⟨w1.heap.size, 0, none⟩)) true ty).run Tryd.prog wr = _ := fun ty => Lib.run_next_end_at wr w1.heap.size s pos ty I.it hp
      have hE : xp (bl s) = ps := by rw [HX.out, List.drop_of_length_le (by rw [bl_len]; omega)]; simp [xp_nil]
      have hlo : ∀ x ∈ encL ps, x < 256 := encL_lo (by rw [← hE]; exact xp_pts _)
      have hcv := conv_tx (P := Tryd.prog) wr 53 9 5 _ cap ao (encL ps) n Tryd.underlying53 Tryd.underlying5 Tryd.underlying9 I.own hlo hn.out
      have HE := Lib.hid hE; have HB := Lib.hid I.bw
      clear I hE hlo
      go_wp2
      go_ret
      exact ⟨by rw [HE.out]; rfl, HB.out⟩

theorem slc_snoc {ps : List Nat} {c : Nat} {f : Int} (h : f ≤ (ps.length : Int)) : (ps ++ [c]).drop f.toNat = ps.drop f.toNat ++ [c] := by
  rw [List.drop_append_of_le_length (by omega)]
theorem slc_skip {ps : List Nat} {c : Nat} {f : Int} (h : (ps.length : Int) < f) : (ps ++ [c]).drop f.toNat = [] ∧ ps.drop f.toNat = [] :=
  ⟨List.drop_of_length_le (by simp; omega), List.drop_of_length_le (by omega)⟩
set_option maxHeartbeats 8000000 in
theorem Slice_any (s : ByteArray) (x y : Int) (w : World) (hs : s.size ≤ 17592186040000) (ht : Sh w) : Calls Tryd.prog 27 #[.string s, .int .i64 x, .int .i64 y] w (ResT (encL (slc (xp (bl s)) x y)) w) := by
  have HT := Lib.hid ht
  clear ht
  go_enter Tryd.func27, Tryd.ntmps27
  go_wp2
  go_loopw [7, 8] (fun v7 v8 wr => ∃ (pos : Nat) (ao : Option Addr) (cap n k : Nat) (ps : List Nat), v7 = .slice ao n cap ∧ v8 = .int .i64 k ∧ k = ps.length ∧ Hid (n = (encL (ps.drop x.toNat)).length) ∧ k ≤ pos ∧ k ≤ y.toNat ∧ UI s w.heap.size w w.heap.size 5 .u8 wr pos ao cap (encL (ps.drop x.toNat)) ∧ Hid (xp (bl s) = ps ++ xp ((bl s).drop pos))) (fun _ _ wr => s.size - wr.iterPos w.heap.size)
  case atStart =>
    exact ⟨0, none, 0, 0, 0, [], rfl, rfl, rfl, Lib.hid (by simp [encL_nil]), Nat.le_refl _, Nat.zero_le _, ⟨World.iter_heap w s 0, by rw [List.drop_nil]; exact Own.nilNone _ _ _ _, (Below.refl _ _).alloc (Nat.le_refl _) _, Nat.le_refl _, Nat.le_refl _⟩, Lib.hid (by simp)⟩
  case round =>
    obtain ⟨pos, ao, cap, n, k, ps, rfl, rfl, hk, hn, hnp, hky, I, HX⟩ := hrel
    have HK := Lib.hid hk
    by_cases hp : pos < s.size
    · obtain ⟨c, wd, hd, _, hc, hw1, hw2, _, hx⟩ := next_pt s pos hp
      have hnx : ∀ ty, (Instr.next (.pointer (some ⟨w.heap.size, 0, none⟩)) true ty).run Tryd.prog wr = _ := fun ty => Lib.run_next_any_at wr w.heap.size s pos ty I.it hp
      rw [hd.out] at hnx
      simp only at hnx
      have I2 := I.iter (pos + wd)
      have HIT := Lib.hid I.it
      have hkp : k < s.size := by omega
      by_cases hy : (k : Int) < y
      · by_cases hx1 : x ≤ (k : Int)
        · have h4 := encL_len (ps.drop x.toNat)
          have h5 : (ps.drop x.toNat).length ≤ ps.length := by rw [List.length_drop]; omega
          have hP := put_any c w.heap.size ao cap (encL (ps.drop x.toNat)) (wr.iterAt w.heap.size s (pos + wd)) hc (HT.out.below I2.bw) (Nat.le_trans I2.hB I2.bw.size) (by omega) I2.own
          rw [← hn.out] at hP
          have HP := Lib.hid hP
          have hsn := slc_snoc (ps := ps) (c := c) (f := x) (by rw [← hk]; exact hx1)
          have HSN := Lib.hid hsn
          clear hP I h4 h5 hsn hk
          go_wp2_with fail
          refine HP.out.mono ?_
          rintro r w2 ⟨ao2, cap2, rfl, ho2, hb2, hki⟩
          have I3 := I2.step ho2 hb2 hki
          rw [show encL (ps.drop x.toNat) ++ enc c = encL ((ps ++ [c]).drop x.toNat) by rw [HSN.out, encL_append, encL_one]] at I3
          clear hnx I2 ho2 hb2 hki HP
          go_wp2
          go_roundw
          case rel => exact ⟨pos + wd, ao2, cap2, _, k + 1, ps ++ [c], rfl, by go_num, by rw [HK.out]; simp, Lib.hid (by rw [HSN.out, encL_append, encL_one, List.length_append]), by omega, by omega, I3, Lib.hid (by rw [HX.out, hx.out]; simp)⟩
          case measure => exact it_less HIT.out I3.it hp (by omega)
        · obtain ⟨z1, z2⟩ := slc_skip (ps := ps) (c := c) (f := x) (by rw [← hk]; omega)
          have HZ1 := Lib.hid z1; have HZ2 := Lib.hid z2
          have I3 : UI s w.heap.size w w.heap.size 5 .u8 (wr.iterAt w.heap.size s (pos + wd)) (pos + wd) ao cap (encL ((ps ++ [c]).drop x.toNat)) := by rw [z1, ← z2]; exact I2
          clear z1 z2 I I2 hk
          go_wp2
          go_roundw
          case rel => exact ⟨pos + wd, ao, cap, n, k + 1, ps ++ [c], rfl, by go_num, by rw [HK.out]; simp, Lib.hid (by rw [HZ1.out, ← HZ2.out]; exact hn.out), by omega, by omega, I3, Lib.hid (by rw [HX.out, hx.out]; simp)⟩
          case measure => exact it_less HIT.out I3.it hp (by omega)
      · have hE : slc (xp (bl s)) x y = ps.drop x.toNat := by
          have : k = y.toNat := by omega
          unfold slc
          rw [HX.out, ← this, hk, List.take_left]
        have hlo : ∀ x' ∈ encL (ps.drop x.toNat), x' < 256 := encL_lo (fun p hp => xp_pts (bl s) p (by rw [HX.out]; exact List.mem_append_left _ (List.mem_of_mem_drop hp)))
        have hcv := conv_tx (P := Tryd.prog) (wr.iterAt w.heap.size s (pos + wd)) 53 9 5 _ cap ao (encL (ps.drop x.toNat)) n Tryd.underlying53 Tryd.underlying5 Tryd.underlying9 I2.own hlo hn.out
        have HE := Lib.hid hE; have HB := Lib.hid I2.bw
        clear I I2 hE hlo hk
        go_wp2
        go_ret
        exact ⟨by rw [HE.out]; rfl, HB.out⟩
    · have hnx : ∀ ty, (Instr.next (.pointer (some ⟨w.heap.size, 0, none⟩)) true ty).run Tryd.prog wr = _ := fun ty => Lib.run_next_end_at wr w.heap.size s pos ty I.it hp
      have hE0 : xp (bl s) = ps := by rw [HX.out, List.drop_of_length_le (by rw [bl_len]; omega)]; simp [xp_nil]
      have hE : slc (xp (bl s)) x y = ps.drop x.toNat := by
        unfold slc
        rw [hE0, List.take_of_length_le (by omega)]
      have hlo : ∀ x' ∈ encL (ps.drop x.toNat), x' < 256 := encL_lo (fun p hp => xp_pts (bl s) p (by rw [hE0]; exact List.mem_of_mem_drop hp))
      have hcv := conv_tx (P := Tryd.prog) wr 53 9 5 _ cap ao (encL (ps.drop x.toNat)) n Tryd.underlying53 Tryd.underlying5 Tryd.underlying9 I.own hlo hn.out
      have HE := Lib.hid hE; have HB := Lib.hid I.bw
      clear I hE hE0 hlo hk
      go_wp2
      go_ret
      exact ⟨by rw [HE.out]; rfl, HB.out⟩
end Go.Proofs.YtmkmaignfcjjkaaDoor
