/- lex: the document's Name and Word. -/
import Derived.Test.YtjjacffacmpopaaDoorLexR
namespace Go.Proofs.YtjjacffacmpopaaDoor
open Go.RowKit UM QM LX

set_option maxHeartbeats 1000000 in
theorem rLetterI (c : Int) (w : World) : Calls Tryd.prog 16 #[.int .u8 c] w fun e w' => e = .returned (.bool (isLtI c)) ∧ w = w' := by
  unfold isLtI
  go_enter Tryd.func16, Tryd.ntmps16
  by_cases h1 : 97 ≤ c
  · rw [decide_eq_true h1]
    by_cases h2 : c ≤ 122
    · rw [decide_eq_true h2]
      go_wp2; go_ret; exact ⟨rfl, rfl⟩
    · rw [decide_eq_false h2]
      have h3 : 65 ≤ c := by omega
      have h4 : ¬ c ≤ 90 := by omega
      rw [decide_eq_true h3, decide_eq_false h4]
      go_wp2; go_ret; exact ⟨by simp, rfl⟩
  · rw [decide_eq_false h1]
    by_cases h3 : 65 ≤ c
    · rw [decide_eq_true h3]
      by_cases h4 : c ≤ 90
      · rw [decide_eq_true h4]
        go_wp2; go_ret; exact ⟨rfl, rfl⟩
      · rw [decide_eq_false h4]
        go_wp2; go_ret; exact ⟨by simp, rfl⟩
    · rw [decide_eq_false h3]
      go_wp2; go_ret; exact ⟨by simp, rfl⟩
set_option maxHeartbeats 1000000 in
theorem rDigitI (c : Int) (w : World) : Calls Tryd.prog 17 #[.int .u8 c] w fun e w' => e = .returned (.bool (isDgI c)) ∧ w = w' := by
  unfold isDgI
  go_enter Tryd.func17, Tryd.ntmps17
  by_cases h1 : 48 ≤ c
  · rw [decide_eq_true h1]
    by_cases h2 : c ≤ 57
    · rw [decide_eq_true h2]
      go_wp2; go_ret; exact ⟨rfl, rfl⟩
    · rw [decide_eq_false h2]
      go_wp2; go_ret; exact ⟨by simp [h2], rfl⟩
  · rw [decide_eq_false h1]
    go_wp2; go_ret; exact ⟨rfl, rfl⟩
theorem rLetter_any (c : Nat) (w : World) : Calls Tryd.prog 16 #[.int .u8 (c : Int)] w fun e w' => e = .returned (.bool (isLt c)) ∧ w = w' := by rw [← isLtI_nat]; exact rLetterI c w
theorem rDigit_any (c : Nat) (w : World) : Calls Tryd.prog 17 #[.int .u8 (c : Int)] w fun e w' => e = .returned (.bool (isDg c)) ∧ w = w' := by rw [← isDgI_nat]; exact rDigitI c w
/-- how far a name goes -/
def NmI (s : ByteArray) (i : Nat) : Prop := i = 0 ∨ nmR (bl s) = i + runL isNm ((bl s).drop i)
theorem NmI.step {s : ByteArray} {i : Nat} (h : NmI s i) (hi : i < s.size) (hc : isLt s[i].toNat = true ∨ (i ≠ 0 ∧ isDg s[i].toNat = true)) : NmI s (i + 1) := by
  right
  rcases h with rfl | h
  · rcases hc with hc | ⟨h0, _⟩
    · have hb := bl_drop s 0 hi
      rw [List.drop_zero] at hb
      rw [hb]; simp only [nmR]; rw [if_pos hc, List.drop_succ_cons, List.drop_zero]; omega
    · exact absurd rfl h0
  · have hn : isNm s[i].toNat = true := by
      unfold isNm
      rcases hc with hc | ⟨_, hc⟩
      · rw [hc]; rfl
      · rw [hc]; simp
    rw [h]; exact (runL_yes hi hn).symm
theorem NmI.stop {s : ByteArray} {i : Nat} (h : NmI s i) (hi : i < s.size) (hc : isLt s[i].toNat = false) (hd : i = 0 ∨ isDg s[i].toNat = false) : nmW (bl s) = false := by
  unfold nmW
  rw [Bool.and_eq_false_iff]; right
  rw [decide_eq_false_iff_not, bl_len]
  rcases h with rfl | h
  · have hb := bl_drop s 0 hi
    rw [List.drop_zero] at hb
    rw [hb]; simp only [nmR]; rw [if_neg (by simp [hc])]; omega
  · rcases hd with rfl | hd
    · have hb := bl_drop s 0 hi
      rw [List.drop_zero] at hb
      rw [hb]; simp only [nmR]; rw [if_neg (by simp [hc])]; omega
    · rw [h, runL_no hi (by unfold isNm; rw [hc, hd]; rfl)]; omega
theorem NmI.fin {s : ByteArray} (h : NmI s s.size) (h0 : s.size ≠ 0) : nmW (bl s) = true := by
  unfold nmW
  have hl := bl_len s
  have he : (bl s).isEmpty = false := by
    rw [Bool.eq_false_iff, Ne, List.isEmpty_iff]; intro he; rw [he] at hl; exact h0 hl.symm
  rw [he]
  rcases h with h | h
  · exact absurd h h0
  · rw [h, runL_end (Nat.le_refl _), hl]; simp
set_option maxRecDepth 100000 in
set_option maxHeartbeats 4000000 in
theorem rName_any (s : ByteArray) (w : World) (hs : s.size ≤ 140737488351232) :
    Calls Tryd.prog 9 #[.string s] w fun e w' => e = .returned (.bool (nmW (bl s))) ∧ w = w' := by
  go_enter Tryd.func9, Tryd.ntmps9
  go_wp2_with fail
  go_loopw [3] (fun s3 wr => ∃ i : Nat, i ≤ s.size ∧ s3 = .int .i64 i ∧ Hid (NmI s i) ∧ Hid (w = wr)) (fun s3 _ => s.size - (intOf s3).toNat)
  case atStart => exact ⟨0, Nat.zero_le _, rfl, Lib.hid (.inl rfl), Lib.hid rfl⟩
  case round =>
    obtain ⟨i, hi, rfl, HJ, HW⟩ := hrel
    by_cases hlt : i < s.size
    · have e1 := hlt
      have HL := Lib.hid (fun w => rLetter_any s[i].toNat w)
      have HD := Lib.hid (fun w => rDigit_any s[i].toNat w)
      by_cases hb : isLt s[i].toNat = true
      · have HN := Lib.hid (HJ.out.step hlt (.inl hb))
        rw [hb] at HL
        clear hb HJ HD
        go_wp2_with fail
        refine (HL.out _).mono ?_
        rintro e w1 ⟨rfl, rfl⟩
        go_wp2
        go_roundw
        case rel => exact ⟨i + 1, by omega, by go_num, HN, HW⟩
        case measure => simp [intOf]; omega
      have hb' : isLt s[i].toNat = false := by simpa using hb
      rw [hb'] at HL
      by_cases h0 : i = 0
      · have HR := Lib.hid (HJ.out.stop hlt hb' (.inl h0))
        have t0 : ((i : Int) == 0) = true := by rw [beq_iff_eq]; omega
        clear hb hb' HJ HD
        subst h0
        go_wp2_with fail
        refine (HL.out _).mono ?_
        rintro e w1 ⟨rfl, rfl⟩
        go_wp2
        go_ret
        exact ⟨by rw [HR.out]; rfl, HW.out⟩
      have t0 : ((i : Int) == 0) = false := by rw [beq_eq_false_iff_ne]; omega
      by_cases hd : isDg s[i].toNat = true
      · have HN := Lib.hid (HJ.out.step hlt (.inr ⟨h0, hd⟩))
        rw [hd] at HD
        clear hb hb' hd HJ h0
        go_wp2_with fail
        refine (HL.out _).mono ?_
        rintro e w1 ⟨rfl, rfl⟩
        go_wp2_with fail
        refine (HD.out _).mono ?_
        rintro e w1 ⟨rfl, rfl⟩
        go_wp2
        go_roundw
        case rel => exact ⟨i + 1, by omega, by go_num, HN, HW⟩
        case measure => simp [intOf]; omega
      · have hd' : isDg s[i].toNat = false := by simpa using hd
        have HR := Lib.hid (HJ.out.stop hlt hb' (.inr hd'))
        rw [hd'] at HD
        clear hb hb' hd hd' HJ h0
        go_wp2_with fail
        refine (HL.out _).mono ?_
        rintro e w1 ⟨rfl, rfl⟩
        go_wp2_with fail
        refine (HD.out _).mono ?_
        rintro e w1 ⟨rfl, rfl⟩
        go_wp2
        go_ret
        exact ⟨by rw [HR.out]; rfl, HW.out⟩
    · have hie : i = s.size := by omega
      by_cases h0 : s.size = 0
      · have h2 : bl s = [] := List.length_eq_zero_iff.1 (by rw [bl_len]; exact h0)
        have h3 : s = ⟨#[]⟩ := bl_inj (by rw [h2]; rfl)
        clear HJ h2 h0 hie
        subst h3
        go_wp2
        go_ret
        exact ⟨rfl, HW.out⟩
      · have HR := Lib.hid ((hie ▸ HJ.out : NmI s s.size).fin h0)
        have h1 : (s.toList != []) = true := by
          rw [bne_iff_ne, ByteArray.toList_eq]
          intro he
          have : (bl s).length = 0 := by unfold bl; rw [he]; rfl
          rw [bl_len] at this; exact h0 this
        have h4 : s.toList.isEmpty = false := by
          rw [Bool.eq_false_iff, Ne, List.isEmpty_iff]
          intro he; rw [he] at h1; simp at h1
        clear HJ h0 hie
        go_wp2
        go_ret
        exact ⟨by rw [HR.out]; rfl, HW.out⟩
set_option maxRecDepth 100000 in
set_option maxHeartbeats 4000000 in
theorem rWord_any (s : ByteArray) (w : World) :
    Calls Tryd.prog 11 #[.string s] w fun e w' => e = .returned (.bool (wdF (bl s))) ∧ Below w.heap.size w w' := by
  go_enter Tryd.func11, Tryd.ntmps11
  go_wp2_with fail
  have HC : Hid (∀ i, i < 15 → (w.alloc (.cells #[.string ⟨#[97, 110, 100]⟩, .string ⟨#[97, 115]⟩, .string ⟨#[98, 114, 101, 97, 107]⟩, .string ⟨#[99, 97, 116, 99, 104]⟩, .string ⟨#[100, 101, 102]⟩, .string ⟨#[101, 108, 105, 102]⟩, .string ⟨#[101, 108, 115, 101]⟩, .string ⟨#[101, 110, 100]⟩, .string ⟨#[102, 111, 114, 101, 97, 99, 104]⟩, .string ⟨#[105, 102]⟩, .string ⟨#[108, 97, 98, 101, 108]⟩, .string ⟨#[111, 114]⟩, .string ⟨#[114, 101, 100, 117, 99, 101]⟩, .string ⟨#[116, 104, 101, 110]⟩, .string ⟨#[116, 114, 121]⟩] 9)).cell? ⟨w.heap.size, i, none⟩ = some (.string (wdT i))) := Lib.hid (fun i hi => by
    rw [cell_new rfl]
    match i, hi with
    | 0, _ | 1, _ | 2, _ | 3, _ | 4, _ | 5, _ | 6, _ | 7, _ | 8, _ | 9, _ | 10, _ | 11, _ | 12, _ | 13, _ | 14, _ => rfl)
  have HB : Hid (Below w.heap.size w (w.alloc (.cells #[.string ⟨#[97, 110, 100]⟩, .string ⟨#[97, 115]⟩, .string ⟨#[98, 114, 101, 97, 107]⟩, .string ⟨#[99, 97, 116, 99, 104]⟩, .string ⟨#[100, 101, 102]⟩, .string ⟨#[101, 108, 105, 102]⟩, .string ⟨#[101, 108, 115, 101]⟩, .string ⟨#[101, 110, 100]⟩, .string ⟨#[102, 111, 114, 101, 97, 99, 104]⟩, .string ⟨#[105, 102]⟩, .string ⟨#[108, 97, 98, 101, 108]⟩, .string ⟨#[111, 114]⟩, .string ⟨#[114, 101, 100, 117, 99, 101]⟩, .string ⟨#[116, 104, 101, 110]⟩, .string ⟨#[116, 114, 121]⟩] 9))) := Lib.hid ((Below.refl _ _).alloc (Nat.le_refl _) _)
  generalize w.alloc (.cells #[.string ⟨#[97, 110, 100]⟩, .string ⟨#[97, 115]⟩, .string ⟨#[98, 114, 101, 97, 107]⟩, .string ⟨#[99, 97, 116, 99, 104]⟩, .string ⟨#[100, 101, 102]⟩, .string ⟨#[101, 108, 105, 102]⟩, .string ⟨#[101, 108, 115, 101]⟩, .string ⟨#[101, 110, 100]⟩, .string ⟨#[102, 111, 114, 101, 97, 99, 104]⟩, .string ⟨#[105, 102]⟩, .string ⟨#[108, 97, 98, 101, 108]⟩, .string ⟨#[111, 114]⟩, .string ⟨#[114, 101, 100, 117, 99, 101]⟩, .string ⟨#[116, 104, 101, 110]⟩, .string ⟨#[116, 114, 121]⟩] 9) = W at *
  have HF := Lib.hid bl_wdT
  generalize wdT = f at *
  go_loopw [4] (fun s4 wr => ∃ i : Nat, i ≤ 15 ∧ s4 = .int .i64 i ∧ Hid (∀ j, j < i → bl s ≠ bl (f j)) ∧ Hid (W = wr)) (fun s4 _ => 15 - (intOf s4).toNat)
  case atStart => exact ⟨0, by decide, rfl, Lib.hid (fun j h => absurd h (by omega)), Lib.hid rfl⟩
  case round =>
    obtain ⟨i, hi, rfl, HJ, HW⟩ := hrel
    by_cases hlt : i < 15
    · have ha : wr.cell? ⟨w.heap.size, i, none⟩ = some (.string (f i)) := by rw [← HW.out]; exact HC.out i hlt
      have HL := Lib.hid hlt
      have hi' : (i : Int) < 15 := by omega
      by_cases hc : bl s = bl (f i)
      · have t1 : ((f i).toList == s.toList) = true := by rw [beq_txt]; exact decide_eq_true hc.symm
        have HR : Hid (wdF (bl s) = true) := Lib.hid (wdF_yes hlt (by rw [hc]; exact HF.out i))
        clear hc HJ
        go_wp2
        go_ret
        exact ⟨by rw [HR.out]; rfl, by rw [← HW.out]; exact HB.out⟩
      · have t1 : ((f i).toList == s.toList) = false := by rw [beq_txt]; exact decide_eq_false (fun h => hc h.symm)
        have HN : Hid (∀ j, j < i + 1 → bl s ≠ bl (f j)) := Lib.hid (fun j hj => by
          by_cases h : j = i
          · rw [h]; exact hc
          · exact HJ.out j (by omega))
        clear hc HJ
        go_wp2
        go_roundw
        case rel => exact ⟨i + 1, by have := HL.out; omega, by go_num, HN, HW⟩
        case measure => have := HL.out; simp [intOf]; omega
    · have hi' : ¬ (i : Int) < 15 := by omega
      have HR : Hid (wdF (bl s) = false) := Lib.hid (wdF_no (fun j hj => by rw [← HF.out j]; exact HJ.out j (by omega)))
      clear hlt HJ
      go_wp2
      go_ret
      exact ⟨by rw [HR.out]; rfl, by rw [← HW.out]; exact HB.out⟩
end Go.Proofs.YtjjacffacmpopaaDoor
