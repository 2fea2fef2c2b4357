/- The document's Decode at a first byte of 4. -/
import Derived.Test.YtmiiekkmpkfnhaaDoorUtfR2
namespace Go.Proofs.YtmiiekkmpkfnhaaDoor
open Go.RowKit UM

/-- the round of the document's loop -/
def RRel4 (s : ByteArray) (a : Nat) (v6 v7 : Value) : Prop := ∃ k P : Nat, v7 = .int .i64 ((k : Int) + 1) ∧ v6 = .int .i64 P ∧ k + 1 ≤ 4 ∧ Hid (P = mv s a k)
set_option maxHeartbeats 8000000 in
set_option maxRecDepth 20000 in
theorem RDecode_4 (s : ByteArray) (w : World) (h0 : 0 < s.size) (hn : sf s[0].toNat = 4) (hsz : 4 ≤ s.size) : Calls Tryd.prog 26 #[.string s] w (ResD s w) := by
  have hF := fun W => size_any s[0].toNat W s[0].toNat_lt
  have e0 := sb_at s 0 h0
  have hD := fun P hP => dcd_take (n := 4) h0 (by rw [e0]; exact hn) (by omega) hsz P hP
  obtain ⟨a, ha⟩ : ∃ a, a = s[0].toNat % 8 := ⟨_, rfl⟩
  have hal : s[0].toNat = 240 + a ∧ a < 8 := by
    rcases sf_cases s[0].toNat with ⟨e, _⟩ | ⟨e, _⟩ | ⟨e, _⟩ | ⟨e, _, _, _, h⟩ | ⟨e, _⟩
    · omega
    · omega
    · omega
    · omega
    · omega
  rw [hn] at hF
  rw [e0] at hD
  have HF := Lib.hid hF
  have HD := Lib.hid hD
  have e1 : ((s.size : Int) == 0) = false := by rw [beq_eq_false_iff_ne]; omega
  have e2 : ¬ (s.size : Int) = 0 := by omega
  have e3 : decide (s.size < 4) = false := decide_eq_false (by omega)
  have hP0 : a < 128 := by omega
  have HA := Lib.hid ha
  have e4 : (s[0].toNat : Int) = 240 + a := by omega
  clear hF hn hD e0 ha hal
  go_enter Tryd.func26, Tryd.ntmps26
  go_wp2_with fail
  rw [← e4]
  refine (HF.out _).mono ?_
  rintro r w1 ⟨rfl, rfl⟩
  clear HF
  go_wp2
  clear e1 e2 e3 e4
  go_loop [6, 7] (fun v6 v7 => RRel4 s a v6 v7) (fun _ v7 => 4 - (intOf v7).toNat)
  case atStart => exact ⟨0, a, rfl, by congr 1; omega, by omega, Lib.hid rfl⟩
  case round =>
    obtain ⟨k, P, rfl, rfl, hk, hP⟩ := hrel
    have hPl : P < 33554432 := by rw [hP.out]; exact mv_3 hP0 (by omega)
    by_cases hlt : k + 1 < 4
    · have hi : k + 1 < s.size := by omega
      have hb := sb_at s (k + 1) hi
      have HPP := Lib.hid hP; have HB := Lib.hid hb
      have hx8 : (s[k + 1].toNat : Int) < 256 := by have := s[k + 1].toNat_lt; omega
      clear hP hb
      go_wp2
      go_round
      case rel => exact ⟨k + 1, P * 64 + s[k + 1].toNat % 64, by go_num, by congr 1; omega, by omega, Lib.hid (by rw [mv, HPP.out, HB.out])⟩
      case measure => simp [intOf]; omega
    · obtain rfl : k = 3 := by omega
      obtain ⟨hG1, hG2⟩ := HD.out P (by rw [hP.out, HA.out]; rfl)
      have hI := fun W => Is_any (P : Int) W
      rw [isPt_nat] at hI
      clear hP
      by_cases hpt : Pt P
      · rw [decide_eq_true hpt] at hI
        have hB := fun W => Bytes_any P W hpt.1
        have hT := txt_eq (l := enc P) (t := s.extract 0 4) (enc_lo hpt.1)
        rw [bl_take] at hT
        have HI := Lib.hid hI; have HB := Lib.hid hB; have HTT := Lib.hid hT
        clear hI hB hT
        by_cases hen : enc P = (bl s).take 4
        · have HE := Lib.hid (hG1 hpt hen)
          have hT2 : ((tx (enc P)).toList == (s.extract 0 4).toList) = true := by rw [HTT.out]; exact decide_eq_true hen
          clear hG1 hG2 hpt hen
          go_wp2
          go_region_law (first | (go_simp; go_at_call 37; (with_reducible refine (HI.out _).mono ?_); rintro e w' ⟨rfl, rfl⟩) | (go_simp; go_at_call 20; (with_reducible refine (HB.out _).mono ?_); rintro e w' ⟨rfl, hbb⟩))
          all_goals
            have HBB := Lib.hid (((Below.refl w.heap.size w).drew).trans hbb)
            clear hbb
            go_simp
            go_wp2
            go_ret3
            exact ret_rd HE.out HBB.out
        · have HE := Lib.hid (hG2 (fun h => hen h.2))
          have hT2 : ((tx (enc P)).toList == (s.extract 0 4).toList) = false := by rw [HTT.out]; exact decide_eq_false hen
          clear hG1 hG2 hpt hen
          go_wp2
          go_region_law (first | (go_simp; go_at_call 37; (with_reducible refine (HI.out _).mono ?_); rintro e w' ⟨rfl, rfl⟩) | (go_simp; go_at_call 20; (with_reducible refine (HB.out _).mono ?_); rintro e w' ⟨rfl, hbb⟩))
          all_goals
            have HBB := Lib.hid (((Below.refl w.heap.size w).drew).trans hbb)
            clear hbb
            go_simp
            go_wp2
            go_ret3
            exact ret_rd HE.out HBB.out
      · rw [decide_eq_false hpt] at hI
        have HI := Lib.hid hI
        have HE := Lib.hid (hG2 (fun h => hpt h.1))
        have hI2 : ∀ W, Calls Tryd.prog 37 #[.int .i64 P] W fun e w' => e = .returned (.bool false) ∧ w' = W := fun W => (hI W).mono fun _ _ ⟨h1, h2⟩ => ⟨h1, h2.symm⟩
        have HI2 := Lib.hid hI2
        clear hI hI2 hG1 hG2 hpt
        go_wp2
        go_quiet ((go_at_call 37; exact Calls.quiet_of_same (HI2.out _)))
        have HBB := Lib.hid (bdN (Below.refl w.heap.size w) nq)
        go_wp2
        go_ret3
        exact ret_rd HE.out HBB.out
end Go.Proofs.YtmiiekkmpkfnhaaDoor
