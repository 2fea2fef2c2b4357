/- Valid and Cmp of the program. -/
import Derived.Test.YtjjacffacmpopaaDoorUtfEs
import Derived.Lib.IndexBytes
namespace Go.Proofs.YtjjacffacmpopaaDoor
open Go.RowKit UM

theorem bl_extract (s : ByteArray) (k : Nat) : bl (s.extract k s.size) = (bl s).drop k := by
  unfold bl
  rw [Lib.extract_to_end, List.map_drop]
theorem extract_size (s : ByteArray) (k : Nat) : (s.extract k s.size).size = s.size - k := by
  have := bl_len (s.extract k s.size)
  rw [bl_extract, List.length_drop, bl_len] at this
  exact this.symm
theorem UI.dN {s : ByteArray} {B : Nat} {w0 : World} {K : Nat} {e : TypeId} {k : IntKind} {wr : World} {pos : Nat} {ao : Option Addr} {cap : Nat} {L : List Nat} (h : UI s B w0 K e k wr pos ao cap L) (n : Nat) : UI s B w0 K e k (wr.drewN n) pos ao cap L :=
  ⟨h.it, h.own.dN n, bdN h.bw n, h.kb, h.hB⟩
theorem ok_of_ne {l : List Nat} {c wd : Nat} {b : Bool} (h : dcd l = (c, wd, b)) (hc : c ≠ 65533) : b = true := by
  rcases dcd_cases l with ⟨p, t, _, _, e⟩ | ⟨_, e⟩ | ⟨_, e⟩ <;> rw [h] at e <;> simp only [Prod.mk.injEq] at e
  · exact e.2.2
  · exact absurd e.1 hc
  · exact absurd e.1 hc
def ResV (m : Nat) (w : World) (r : Ending) (w' : World) : Prop := r = .returned (.int .i64 m) ∧ Below w.heap.size w w'
set_option maxHeartbeats 4000000 in
theorem Valid_any (s : ByteArray) (w : World) (hs : s.size ≤ 140737488351232) (ht : Sh w) : Calls Tryd.prog 18 #[.string s] w (ResV (vd (bl s)) w) := by
  have HT := Lib.hid ht
  clear ht
  go_enter Tryd.func18, Tryd.ntmps18
  go_wp2
  go_loopw [] (fun wr => ∃ (pos : Nat), pos ≤ s.size ∧ UI s w.heap.size w w.heap.size 3 .i64 wr pos none 0 [] ∧ Hid (vd (bl s) = pos + vd ((bl s).drop pos))) (fun wr => s.size - wr.iterPos w.heap.size)
  case atStart =>
    exact ⟨0, Nat.zero_le _, ⟨World.iter_heap w s 0, Own.nilNone _ _ _ _, (Below.refl _ _).alloc (Nat.le_refl _) _, Nat.le_refl _, Nat.le_refl _⟩, Lib.hid (by simp)⟩
  case round =>
    obtain ⟨pos, hps, I, HX⟩ := hrel
    by_cases hp : pos < s.size
    · obtain ⟨c, wd, hd, hdd, hc, hw1, hw2, _, _⟩ := next_pt s pos hp
      have hnx : ∀ ty, (Instr.next (.pointer (some ⟨w.heap.size, 0, none⟩)) true ty).run Tryd.prog wr = _ := fun ty => Lib.run_next_any_at wr w.heap.size s pos ty I.it hp
      rw [hd.out] at hnx
      simp only at hnx
      have I2 := I.iter (pos + wd)
      have HIT := Lib.hid I.it
      have hgo : (dcd ((bl s).drop pos)).2.2 = true → vd (bl s) = (pos + wd) + vd ((bl s).drop (pos + wd)) := by
        intro h
        rw [HX.out, vd_go h, hdd.out]
        simp only
        rw [List.drop_drop]; omega
      have HGO := Lib.hid hgo
      clear hgo I
      by_cases hr : c = 65533
      · subst hr
        have hD := Decode_any (s.extract pos s.size) (wr.iterAt w.heap.size s (pos + wd)) (by rw [extract_size]; omega) (HT.out.below I2.bw)
        unfold ResDec at hD
        rw [bl_extract, hdd.out] at hD
        simp only at hD
        have HD := Lib.hid hD
        clear hD
        rcases hsd : (dcd ((bl s).drop pos)).2.2 with _ | _
        · rw [hsd] at HD
          have HE : Hid (vd (bl s) = pos) := Lib.hid (by rw [HX.out, vd_stop hsd]; rfl)
          clear hsd HGO
          go_wp2_with fail
          refine HD.out.mono ?_
          rintro r w2 ⟨rfl, n2, rfl⟩
          have HB := Lib.hid (bdN I2.bw n2)
          clear I2
          go_wp2
          go_ret
          exact ⟨ret_int (by rw [HE.out]), HB.out⟩
        · rw [hsd] at HD
          have HE := Lib.hid (HGO.out hsd)
          clear hsd HGO
          go_wp2_with fail
          refine HD.out.mono ?_
          rintro r w2 ⟨rfl, n2, rfl⟩
          have I3 := I2.dN n2
          clear I2
          go_wp2
          go_roundw
          case rel => exact ⟨pos + wd, hw2, I3, HE⟩
          case measure => exact it_less HIT.out I3.it hp (by omega)
      · have hsd : (dcd ((bl s).drop pos)).2.2 = true := ok_of_ne hdd.out hr
        have HE := Lib.hid (HGO.out hsd)
        have h1 : ((c : Int) != 65533) = true := by simp; omega
        have h2 : ¬ (c : Int) = 65533 := by omega
        clear hsd HGO
        go_wp2
        go_roundw
        case rel => exact ⟨pos + wd, hw2, I2, HE⟩
        case measure => exact it_less HIT.out I2.it hp (by omega)
    · have hnx : ∀ ty, (Instr.next (.pointer (some ⟨w.heap.size, 0, none⟩)) true ty).run Tryd.prog wr = _ := fun ty => Lib.run_next_end_at wr w.heap.size s pos ty I.it hp
      have HE : Hid (vd (bl s) = s.size) := Lib.hid (by rw [HX.out, List.drop_of_length_le (by rw [bl_len]; omega)]; show pos + 0 = _; omega)
      have HB := Lib.hid I.bw
      clear I
      go_wp2
      go_ret
      exact ⟨ret_int (by rw [HE.out]), HB.out⟩

def cmpI (x y : Int) : Int := if x < y then -1 else if y < x then 1 else 0
end Go.Proofs.YtjjacffacmpopaaDoor
