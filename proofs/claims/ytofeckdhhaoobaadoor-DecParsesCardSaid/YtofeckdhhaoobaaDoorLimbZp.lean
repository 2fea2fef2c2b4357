/- Walks: the document's answer: Parse. -/
import Derived.Test.YtofeckdhhaoobaaDoorLimbY
namespace Go.Proofs.YtofeckdhhaoobaaDoor
open Go.RowKit LM

theorem rparse_step {s : ByteArray} {k p : Nat} {out : List Nat} (h : k < s.size) (hp : p = s[k].toNat - 48) (ho : out.length = s.size - (k + 1)) (hv : dv (s.data.toList.take (k + 1)) * 10 ^ (s.size - (k + 1)) + vl 10 out = dv s.data.toList) :
    dv (s.data.toList.take k) * 10 ^ (s.size - k) + vl 10 (out ++ [p]) = dv s.data.toList := by
  rw [take_snocB s k h, dv_snoc, ← hp] at hv
  rw [vl_append, vl_one, ho, show s.size - k = (s.size - (k + 1)) + 1 by omega, Nat.pow_succ]
  rw [Nat.add_mul, Nat.mul_comm 10, Nat.mul_assoc, Nat.mul_comm 10] at hv
  rw [Nat.mul_comm _ p]
  omega
theorem all_step {s : ByteArray} {k : Nat} (h : k < s.size) (ha : (s.data.toList.drop (k + 1)).all isD = true) (h1 : 48 ≤ s[k].toNat) (h2 : s[k].toNat ≤ 57) : (s.data.toList.drop k).all isD = true := by
  have hk : k < s.data.toList.length := by simpa using h
  rw [List.drop_eq_getElem_cons hk, List.all_cons, ha, Bool.and_true]
  show isD (s.data.toList[k]'hk) = true
  have e : s.data.toList[k]'hk = s[k] := rfl
  rw [e]; simp [isD, h1, h2]

set_option maxHeartbeats 4000000 in
/-- the document's reading -/
theorem RParse_any (s : ByteArray) (w : World) (hs : s.size ≤ 140737488351232) :
    Calls Tryd.prog 46 #[.string s] w fun e w' => ∃ a' c' v, (okD s = true ∧ v = dv s.data.toList ∧ e = .returned (.tuple #[.slice a' (dg 10 v).length c', .int .i64 0]) ∨ okD s = false ∧ v = 0 ∧ e = .returned (.tuple #[.slice a' (dg 10 v).length c', .int .i64 2])) ∧
      Own w' w.heap.size 5 .u8 a' c' (dg 10 v) ∧ Below w.heap.size w w' := by
  rcases Nat.eq_zero_or_pos s.size with h0 | h0
  · obtain rfl : s = ⟨#[]⟩ := by
      cases s with | mk d => congr 1; exact Array.eq_empty_of_size_eq_zero h0
    clear h0 hs
    go_enter Tryd.func46, Tryd.ntmps46
    go_wp2
    go_ret2
    exact ⟨none, 0, 0, .inr ⟨by decide, rfl, by rw [dg_zero]; rfl⟩, by rw [dg_zero]; exact Own.nilNone _ _ _ _, Below.refl _ _⟩
  · have hne : s.toList.isEmpty = false := by
      rw [Lib.toList_data]
      cases e : s.data.toList with
      | nil => exfalso; have h1 : s.data.toList.length = s.size := by rw [Array.length_toList]; rfl
               rw [e] at h1; simp at h1; omega
      | cons _ _ => rfl
    have hsz : s.data.toList.length = s.size := by rw [Array.length_toList]; rfl
    have HSZ := Lib.hid hsz
    clear hsz
    go_enter Tryd.func46, Tryd.ntmps46
    go_wp2_with fail
    clear hne
    go_loopw [4, 5] (fun v4 i wr => ∃ (k q cap : Nat) (ao : Option Addr) (out : List Nat), k ≤ s.size ∧ i = .int .i64 ((k : Int) - 1) ∧ v4 = .slice ao q cap ∧ Hid (q = out.length) ∧ Hid (out.length = s.size - k) ∧ Hid (Lo 10 out) ∧
        Hid ((s.data.toList.drop k).all isD = true) ∧ Hid (dv (s.data.toList.take k) * 10 ^ (s.size - k) + vl 10 out = dv s.data.toList) ∧ Own wr w.heap.size 5 .u8 ao cap out ∧ Below w.heap.size w wr) (fun _ i _ => (intOf i + 1).toNat)
    case atStart => exact ⟨s.size, 0, 0, none, [], Nat.le_refl _, rfl, rfl, rfl, Lib.hid (by simp), Lo_nil _, Lib.hid (by rw [List.drop_of_length_le (by rw [HSZ.out]; omega)]; rfl), Lib.hid (by rw [List.take_of_length_le (by rw [HSZ.out]; omega), Nat.sub_self]; simp [vl]), Own.nilNone _ _ _ _, Below.refl _ _⟩
    case round =>
      obtain ⟨k, q, cap, ao, out, hk, rfl, rfl, HQ, HOL, HOLo, HA, HV, hown, hbl⟩ := hrel
      rcases Nat.eq_zero_or_pos k with hk0 | hk0
      · have hkz : k ≤ 0 := by omega
        have hok : okD s = true := by
          have h := HA.out
          rw [hk0, List.drop_zero] at h
          unfold okD; rw [h]
          cases e : s.data.toList with
          | nil => exfalso; have h1 := HSZ.out; rw [e] at h1; simp at h1; omega
          | cons _ _ => rfl
        have hv : vl 10 out = dv s.data.toList := by
          have h := HV.out
          rw [hk0, List.take_zero] at h
          rw [← h]; simp [dv]
        have htr : tr out = dg 10 (dv s.data.toList) := by rw [tr_eq (by omega) HOLo.out, hv]
        have hR := rtrim_any ao cap out wr (by rw [HOL.out]; omega) hown.rd hown.cap.1
        have hown2 := hown.take (tr out).length (by have := tr_take out; rw [this]; simp; omega)
        rw [← tr_take, htr] at hown2
        rw [htr, ← HQ.out] at hR
        have HR := Lib.hid hR; have HOK := Lib.hid hok
        clear hR htr hown hv hok hk0
        go_wp2_with fail
        refine HR.out.mono ?_
        rintro e w1 ⟨rfl, rfl⟩
        go_wp2
        go_ret2
        exact ⟨ao, cap, _, .inl ⟨HOK.out, rfl, rfl⟩, hown2, hbl⟩
      · obtain ⟨m, rfl⟩ : ∃ m, k = m + 1 := ⟨k - 1, by omega⟩
        have hlt : m < s.size := by omega
        by_cases hc1 : s[m].toNat < 48
        · have hI : (s[m].toNat : Int) < 48 := by omega
          have HB := Lib.hid (okD_bad hlt (.inl hc1))
          go_wp2
          go_ret2
          exact ⟨none, 0, 0, .inr ⟨HB.out, rfl, by rw [dg_zero]; rfl⟩, by rw [dg_zero]; exact Own.nilNone _ _ _ _, hbl⟩
        · by_cases hc2 : 57 < s[m].toNat
          · have hI : ¬ (s[m].toNat : Int) < 48 := by omega
            have hI2 : 57 < (s[m].toNat : Int) := by omega
            have HB := Lib.hid (okD_bad hlt (.inr hc2))
            go_wp2
            go_ret2
            exact ⟨none, 0, 0, .inr ⟨HB.out, rfl, by rw [dg_zero]; rfl⟩, by rw [dg_zero]; exact Own.nilNone _ _ _ _, hbl⟩
          · have hI : ¬ (s[m].toNat : Int) < 48 := by omega
            have hI2 : ¬ 57 < (s[m].toNat : Int) := by omega
            have hb1 : (out.length + 1) * 1 ≤ 140737488355328 := by rw [HOL.out]; omega
            have hb2 : out.length + 1 ≤ maxLen := by rw [HOL.out]; unfold maxLen; omega
            have HB1 := Lib.hid hb1; have HB2 := Lib.hid hb2
            have HA2 := Lib.hid (all_step hlt HA.out (by omega) (by omega))
            have HV2 := Lib.hid (rparse_step (p := s[m].toNat - 48) hlt rfl HOL.out HV.out)
            clear hb1 hb2
            go_wp2_with (at_builtin; refine wp_push wr rfl _ _ 54 rfl w.heap.size 5 .u8 1 Tryd.underlying54 infoU8 ao cap q out HQ.out rfl _ (s[m].toNat - 48) (by omega) _ rfl hown HB1.out HB2.out (hbl.size) ?_)
            intro ao' cap' w2 hown2 hb2
            have hbl2 := hbl.trans hb2
            clear hb2
            go_wp2
            go_roundw
            case rel => exact ⟨m, q + 1, cap', ao', out ++ [s[m].toNat - 48], by omega, by go_num, rfl, Lib.hid (by rw [HQ.out]; simp), Lib.hid (by rw [List.length_append, HOL.out]; simp; omega), Lib.hid (Lo_append HOLo.out (Lo_one (by omega))), HA2, HV2, hown2, hbl2⟩
            case measure => simp [intOf]
end Go.Proofs.YtofeckdhhaoobaaDoor
