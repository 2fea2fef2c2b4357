/- The document's Decode in full; its Valid, Explode, All, Clean. -/
import Derived.Test.YtmiiekkmpkfnhaaDoorUtfQ2
import Derived.Test.YtmiiekkmpkfnhaaDoorUtfQ3
import Derived.Test.YtmiiekkmpkfnhaaDoorUtfQ4
import Derived.Test.YtmiiekkmpkfnhaaDoorUtfG
import Derived.Lib.AppendStr
namespace Go.Proofs.YtmiiekkmpkfnhaaDoor
open Go.RowKit UM

theorem RDecode_any (s : ByteArray) (w : World) : Calls Tryd.prog 26 #[.string s] w (ResD s w) := by
  rcases Nat.eq_zero_or_pos s.size with h0 | h0
  · rw [size0 h0]; exact RDecode_nil w
  · by_cases hc : s.size < sf s[0].toNat
    · exact RDecode_0 s w h0 (.inr hc)
    rcases sf_cases s[0].toNat with ⟨e, _⟩ | ⟨e, _⟩ | ⟨e, _⟩ | ⟨e, _⟩ | ⟨e, _⟩
    · exact RDecode_1 s w h0 e
    · exact RDecode_2 s w h0 e (by omega)
    · exact RDecode_3 s w h0 e (by omega)
    · exact RDecode_4 s w h0 e (by omega)
    · exact RDecode_0 s w h0 (.inl e)

set_option maxHeartbeats 4000000 in
theorem RExplode_any (s : ByteArray) (w : World) (hs : s.size ≤ 17592186040000) : Calls Tryd.prog 17 #[.string s] w (ResX (xp (bl s)) w) := by
  go_enter Tryd.func17, Tryd.ntmps17
  go_wp2
  go_loopw [3, 4] (fun v3 v4 wr => ∃ (pos : Nat) (ao : Option Addr) (cap n : Nat) (L : List Nat), v4 = .int .i64 pos ∧ v3 = .slice ao n cap ∧ Hid (n = L.length) ∧ n ≤ pos ∧ pos ≤ s.size ∧ Own wr w.heap.size 3 .i64 ao cap L ∧ Below w.heap.size w wr ∧ Hid (xp (bl s) = L ++ xp ((bl s).drop pos))) (fun _ v4 _ => s.size - (intOf v4).toNat)
  case atStart => exact ⟨0, none, 0, 0, [], rfl, rfl, Lib.hid rfl, Nat.le_refl _, Nat.zero_le _, Own.nilNone _ _ _ _, Below.refl _ _, Lib.hid (by simp)⟩
  case round =>
    obtain ⟨pos, ao, cap, n, L, rfl, rfl, hn, hnp, hps, ho, hb, HX⟩ := hrel
    by_cases hp : pos < s.size
    · obtain ⟨c, wd, _, hdd, hc, hw1, hw2, _, hx⟩ := next_pt s pos hp
      have hD := RDecode_any (s.extract pos s.size) wr
      unfold ResD at hD
      rw [bl_extract, hdd.out] at hD
      simp only at hD
      have hb1 : (L.length + 1) * 8 ≤ 140737488355328 := by rw [← hn.out]; omega
      have hb2 : L.length + 1 ≤ maxLen := by rw [← hn.out]; unfold maxLen; omega
      have H1 := Lib.hid hb1; have H2 := Lib.hid hb2
      have HD := Lib.hid hD
      have HBB := Lib.hid hb; have HOO := Lib.hid ho
      clear hb1 hb2 hD hb ho
      go_wp2_with fail
      refine HD.out.mono ?_
      rintro r w2 ⟨rfl, hb2⟩
      have HO2 := Lib.hid (HOO.out.below hb2)
      have HB2 := Lib.hid (HBB.out.trans (hb2.mono HBB.out.size))
      clear hb2 HD
      go_wp2_with (at_builtin; refine wp_push2 _ rfl _ _ 35 rfl w.heap.size 3 .i64 8 Tryd.underlying35 infoInt ao cap n L hn.out rfl _ c rfl _ rfl HO2.out H1.out H2.out HB2.out.size ?_)
      intro ao2 cap2 w3 ho3 hb3 _
      have HO3 := Lib.hid ho3; have HB3 := Lib.hid (HB2.out.trans hb3)
      clear ho3 hb3
      go_wp2
      go_roundw
      case rel => exact ⟨pos + wd, ao2, cap2, n + 1, L ++ [c], by go_num, rfl, Lib.hid (by rw [hn.out]; simp), by omega, hw2, HO3.out, HB3.out, Lib.hid (by rw [HX.out, hx.out]; simp)⟩
      case measure => simp [intOf]; omega
    · have HE : Hid (xp (bl s) = L) := Lib.hid (by rw [HX.out, List.drop_of_length_le (by rw [bl_len]; omega)]; simp [xp_nil])
      have HO := Lib.hid ho; have HB := Lib.hid hb
      clear ho hb
      go_wp2
      go_ret
      exact ⟨ao, cap, ret_slice (by rw [HE.out]; exact hn.out), by rw [HE.out]; exact HO.out, HB.out⟩

theorem strCells_tx {l : List Nat} (h : ∀ x ∈ l, x < 256) : Lib.strCells (tx l) = cs .u8 l := by
  unfold Lib.strCells cs
  rw [tx_list, List.map_map]
  refine List.map_congr_left fun x hx => ?_
  show Value.int .u8 ((UInt8.ofNat x).toNat : Int) = _
  rw [UInt8.toNat_ofNat', Nat.mod_eq_of_lt (h x hx)]
end Go.Proofs.YtmiiekkmpkfnhaaDoor
