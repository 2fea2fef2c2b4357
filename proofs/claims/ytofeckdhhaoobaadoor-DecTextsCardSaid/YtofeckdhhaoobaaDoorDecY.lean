/- Walks of the document's answer for dec: noughts, Whole. -/
import Derived.Test.YtofeckdhhaoobaaDoorDecYm
namespace Go.Proofs.YtofeckdhhaoobaaDoor
open Go.RowKit LM

set_option maxHeartbeats 4000000 in
theorem noughts_any (n : Nat) (w : World) (hn : n ≤ 900000) : Calls Tryd.prog 52 #[.int .i64 n] w fun r w' => r = .returned (.string (txt (List.replicate n 48))) ∧ w = w' := by
  go_enter Tryd.func52, Tryd.ntmps52
  go_wp2
  go_loop [3, 4] (fun s i => ∃ k : Nat, k ≤ n ∧ i = .int .i64 k ∧ ∃ x : ByteArray, s = .string x ∧ x.size = k ∧ Hid (x = txt (List.replicate k 48))) (fun _ i => n - (intOf i).toNat)
  case atStart => exact ⟨0, Nat.zero_le _, rfl, ⟨#[]⟩, rfl, rfl, rfl⟩
  case round =>
    obtain ⟨k, hk, rfl, x, rfl, hx, HX⟩ := hrel
    by_cases hlt : k < n
    · have hx2 : x.size ≤ 900000 := by omega
      have hfin : x ++ (⟨#[48]⟩ : ByteArray) = txt (List.replicate (k + 1) 48) := by
        apply ba_ext
        rw [HX.out, ba_app, txt_list, txt_list, List.replicate_succ']
      have HF := Lib.hid hfin
      clear hfin
      go_wp2
      go_round
      case rel => exact ⟨k + 1, hlt, by go_num, _, rfl, by rw [ByteArray.size_append, hx]; rfl, HF⟩
      case measure => simp [intOf]; omega
    · obtain rfl : k = n := by omega
      go_wp2
      go_ret
      exact ⟨by rw [HX.out]; rfl, rfl⟩

set_option maxHeartbeats 4000000 in
theorem Whole_pos (n : Nat) (w : World) (hn : n ≤ 900000) : Calls Tryd.prog 53 #[.int .i64 n] w fun r w' => r = .returned (.string (txt (Lib.itoa n))) ∧ Below w.heap.size w w' := by
  have hS := fun W => Small_any n W (by omega)
  have hT := fun a c W hr => RText_any a c n W (by have := dg10_u64 (v := n) (by omega); omega) hr
  rw [Lib.itoa_nonneg]
  have HS := Lib.hid hS; have HT := Lib.hid hT
  clear hS hT
  go_enter Tryd.func53, Tryd.ntmps53
  go_wp2_with fail
  refine (HS.out _).mono ?_
  rintro r w1 ⟨a1, c1, rfl, ho1, hb1⟩
  go_wp2_with fail
  refine (HT.out a1 c1 _ ho1.rd).mono ?_
  rintro r w2 ⟨rfl, hb2⟩
  go_wp2
  go_ret
  exact ⟨rfl, hb1.trans (hb2.mono hb1.size)⟩

set_option maxHeartbeats 4000000 in
theorem Whole_any (n : Int) (w : World) (hn : -900000 ≤ n) (hn2 : n ≤ 900000) : Calls Tryd.prog 53 #[.int .i64 n] w fun r w' => r = .returned (.string (txt (Lib.itoa n))) ∧ Below w.heap.size w w' := by
  by_cases h : n < 0
  · obtain ⟨m, rfl⟩ : ∃ m : Nat, n = -(m : Int) := ⟨n.natAbs, by omega⟩
    have hW := fun W => Whole_pos m W (by omega)
    rw [Lib.itoa_nonneg] at hW
    have hlen : (Lib.decDigits m).length ≤ 21 := by
      have h1 := Lib.itoa_length_le (m : Int) (by omega) (by omega)
      rwa [Lib.itoa_nonneg] at h1
    rw [Lib.itoa_neg m (by omega)]
    have hfin : (⟨#[45]⟩ : ByteArray) ++ txt (Lib.decDigits m) = txt (45 :: Lib.decDigits m) := by apply ba_ext; simp [txt]
    have hsz : (txt (Lib.decDigits m)).size ≤ 21 := by rw [txt_size]; exact hlen
    have HW := Lib.hid hW; have HF := Lib.hid hfin
    clear hW hfin hlen
    go_enter Tryd.func53, Tryd.ntmps53
    go_wp2_with fail
    refine (HW.out _).mono ?_
    rintro r w1 ⟨rfl, hb1⟩
    go_wp2
    go_ret
    exact ⟨by rw [← HF.out]; rfl, hb1⟩
  · obtain ⟨m, rfl⟩ : ∃ m : Nat, n = m := ⟨n.toNat, by omega⟩
    exact Whole_pos m w (by omega)
end Go.Proofs.YtofeckdhhaoobaaDoor
