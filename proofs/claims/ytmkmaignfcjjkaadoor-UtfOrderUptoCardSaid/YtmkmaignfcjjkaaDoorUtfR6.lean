/- The document's Slice. -/
import Derived.Test.YtmkmaignfcjjkaaDoorUtfR4
namespace Go.Proofs.YtmkmaignfcjjkaaDoor
open Go.RowKit UM

theorem Rd_part {w : World} {b off i k : Nat} {l : List Nat} (h : Rd w .i64 (some ⟨b, off, none⟩) l) (hk : k ≤ l.length) (hi : i < k) : Rd w .i64 (some ⟨b, off + i, none⟩) ((l.take k).drop i) := by
  intro j hj
  have hj' : i + j < k := by rw [List.length_drop, List.length_take] at hj; omega
  obtain ⟨b', off', e, hc⟩ := h (i + j) (by omega)
  simp only [Option.some.injEq, Addr.mk.injEq, and_true] at e
  obtain ⟨rfl, rfl⟩ := e
  refine ⟨b, off + i, rfl, ?_⟩
  rw [Nat.add_assoc, hc, List.getElem?_drop, List.getElem?_take_of_lt hj']
theorem slc_min (ps : List Nat) (x y : Int) : slc ps x y = (ps.take (min y.toNat ps.length)).drop (min x.toNat ps.length) := by
  unfold slc
  have h1 : ps.take (min y.toNat ps.length) = ps.take y.toNat := by
    rcases Nat.lt_or_ge ps.length y.toNat with h | h
    · rw [Nat.min_eq_right (by omega), List.take_length, List.take_of_length_le (by omega)]
    · rw [Nat.min_eq_left h]
  rw [h1]
  rcases Nat.lt_or_ge ps.length x.toNat with h | h
  · rw [Nat.min_eq_right (by omega), List.drop_of_length_le (by rw [List.length_take]; omega), List.drop_of_length_le (by rw [List.length_take]; omega)]
  · rw [Nat.min_eq_left h]
set_option maxHeartbeats 8000000 in
theorem RSlice_any (s : ByteArray) (x y : Int) (w : World) (hs : s.size ≤ 17592186040000) : Calls Tryd.prog 28 #[.string s, .int .i64 x, .int .i64 y] w (ResT (encL (slc (xp (bl s)) x y)) w) := by
  have hX := RExplode_any s w hs
  have hl := xp_le (bl s)
  rw [bl_len] at hl
  have hpt := xp_pts (bl s)
  rw [slc_min]
  generalize xp (bl s) = ps at *
  have hW1 := fun W => within_any x ps.length W
  have hW2 := fun W => within_any y ps.length W
  have hi : min x.toNat ps.length ≤ ps.length := by omega
  have hk : min y.toNat ps.length ≤ ps.length := by omega
  generalize min x.toNat ps.length = i at *
  generalize min y.toNat ps.length = k at *
  have hA := fun W a c h => RAll_any a c ((ps.take k).drop i) W (by rw [List.length_drop, List.length_take]; omega) h (fun p hp => hpt p (List.mem_of_mem_take (List.mem_of_mem_drop hp)))
  have hpl : ((ps.take k).drop i).length = k - i := by rw [List.length_drop, List.length_take]; omega
  rw [hpl] at hA
  have hnil : k ≤ i → (ps.take k).drop i = [] := fun h => List.drop_of_length_le (by rw [List.length_take]; omega)
  have HX := Lib.hid hX; have HA := Lib.hid hA; have HW1 := Lib.hid hW1; have HW2 := Lib.hid hW2; have HN := Lib.hid hnil
  clear hX hA hW1 hW2 hl hpt hpl hnil
  go_enter Tryd.func28, Tryd.ntmps28
  go_wp2_with fail
  refine HX.out.mono ?_
  rintro r w1 ⟨a, c, rfl, ho, hb⟩
  have HR := Lib.hid ho.rd; have HB := Lib.hid hb
  have hcap := ho.cap
  have hsh := ho.shape
  clear ho hb HX
  go_wp2_with fail
  refine (HW1.out _).mono ?_
  rintro r w2 ⟨rfl, rfl⟩
  go_wp2_with fail
  refine (HW2.out _).mono ?_
  rintro r w2 ⟨rfl, rfl⟩
  clear HW1 HW2
  by_cases h : k ≤ i
  · have HE := Lib.hid (HN.out h)
    clear hcap hsh
    go_wp2
    go_ret
    exact ⟨by rw [HE.out]; rfl, HB.out⟩
  · rcases hsh with ⟨_, _, h3⟩ | ⟨g, rfl, _, _, _, _⟩
    · have : ps.length = 0 := by rw [h3]; rfl
      omega
    · have hcl : ps.length ≤ c := hcap.1
      have hRP := Lib.hid (Rd_part HR.out hk (by omega : i < k))
      have hci : ¬ c = i := by omega
      have hci2 : ¬ c ≤ i := by omega
      clear hcap HN
      rw [Nat.zero_add] at hRP
      go_wp2_with fail
      refine (HA.out _ _ _ hRP.out).mono ?_
      rintro r w2 ⟨rfl, hb2⟩
      have HB2 := Lib.hid (HB.out.trans (hb2.mono HB.out.size))
      clear hb2
      go_wp2
      go_ret
      exact ⟨rfl, HB2.out⟩
end Go.Proofs.YtmkmaignfcjjkaaDoor
