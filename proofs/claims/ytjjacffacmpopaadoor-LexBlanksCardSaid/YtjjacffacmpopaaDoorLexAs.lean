/- lex: letters, digits, names, numbers walked. -/
import Derived.Test.YtjjacffacmpopaaDoorLexMath
import Derived.Deep.QuietTactic
import Derived.BigQuiet
import Derived.IntWalk
import Derived.LoopNIn
namespace Go.Proofs.YtjjacffacmpopaaDoor
open Go.RowKit UM QM LX

def isLtI (c : Int) : Bool := (decide (97 ≤ c) && decide (c ≤ 122)) || (decide (65 ≤ c) && decide (c ≤ 90)) || c == 95
def isDgI (c : Int) : Bool := decide (48 ≤ c) && decide (c ≤ 57)
theorem isLtI_nat (c : Nat) : isLtI (c : Int) = isLt c := by
  unfold isLtI isLt
  rw [Bool.eq_iff_iff]
  simp only [Bool.or_eq_true, Bool.and_eq_true, decide_eq_true_eq, beq_iff_eq]
  omega
theorem isDgI_nat (c : Nat) : isDgI (c : Int) = isDg c := by
  unfold isDgI isDg
  rw [Bool.eq_iff_iff]
  simp only [Bool.and_eq_true, decide_eq_true_eq]
  omega
set_option maxHeartbeats 1000000 in
theorem lIsLetterI (c : Int) (w : World) : Calls Tryd.prog 20 #[.int .u8 c] w fun e w' => e = .returned (.bool (isLtI c)) ∧ w = w' := by
  unfold isLtI
  go_enter Tryd.func20, Tryd.ntmps20
  by_cases h1 : 97 ≤ c
  · rw [decide_eq_true h1]
    by_cases h2 : c ≤ 122
    · rw [decide_eq_true h2]
      go_wp2; go_ret; exact ⟨rfl, rfl⟩
    · rw [decide_eq_false h2]
      have h3 : 65 ≤ c := by omega
      have h4 : ¬ c ≤ 90 := by omega
      rw [decide_eq_true h3, decide_eq_false h4]
      go_wp2; go_ret; exact ⟨by simp, rfl⟩
  · rw [decide_eq_false h1]
    by_cases h3 : 65 ≤ c
    · rw [decide_eq_true h3]
      by_cases h4 : c ≤ 90
      · rw [decide_eq_true h4]
        go_wp2; go_ret; exact ⟨rfl, rfl⟩
      · rw [decide_eq_false h4]
        go_wp2; go_ret; exact ⟨by simp, rfl⟩
    · rw [decide_eq_false h3]
      go_wp2; go_ret; exact ⟨by simp, rfl⟩
set_option maxHeartbeats 1000000 in
theorem lIsDigitI (c : Int) (w : World) : Calls Tryd.prog 21 #[.int .u8 c] w fun e w' => e = .returned (.bool (isDgI c)) ∧ w = w' := by
  unfold isDgI
  go_enter Tryd.func21, Tryd.ntmps21
  by_cases h1 : 48 ≤ c
  · rw [decide_eq_true h1]
    by_cases h2 : c ≤ 57
    · rw [decide_eq_true h2]
      go_wp2; go_ret; exact ⟨rfl, rfl⟩
    · rw [decide_eq_false h2]
      go_wp2; go_ret; exact ⟨by simp [h2], rfl⟩
  · rw [decide_eq_false h1]
    go_wp2; go_ret; exact ⟨rfl, rfl⟩
theorem lIsLetter_any (c : Nat) (w : World) : Calls Tryd.prog 20 #[.int .u8 (c : Int)] w fun e w' => e = .returned (.bool (isLt c)) ∧ w = w' := by rw [← isLtI_nat]; exact lIsLetterI c w
theorem lIsDigit_any (c : Nat) (w : World) : Calls Tryd.prog 21 #[.int .u8 (c : Int)] w fun e w' => e = .returned (.bool (isDg c)) ∧ w = w' := by rw [← isDgI_nat]; exact lIsDigitI c w
theorem bdrop_end {s : ByteArray} {j : Nat} (h : s.size ≤ j) : (bl s).drop j = [] := List.drop_of_length_le (by rw [bl_len]; exact h)
theorem runL_yes {p : Nat → Bool} {s : ByteArray} {j : Nat} (h : j < s.size) (hp : p s[j].toNat = true) : j + 1 + runL p ((bl s).drop (j + 1)) = j + runL p ((bl s).drop j) := by
  rw [bl_drop s j h]; simp only [runL]; rw [if_pos hp]; omega
theorem runL_no {p : Nat → Bool} {s : ByteArray} {j : Nat} (h : j < s.size) (hp : p s[j].toNat = false) : j + runL p ((bl s).drop j) = j := by
  rw [bl_drop s j h]; simp only [runL]; rw [if_neg (by simp [hp])]; rfl
theorem runL_end {p : Nat → Bool} {s : ByteArray} {j : Nat} (h : s.size ≤ j) : j + runL p ((bl s).drop j) = j := by
  rw [bdrop_end h]; rfl
set_option maxRecDepth 100000 in
set_option maxHeartbeats 2000000 in
theorem digitsEnd_any (s : ByteArray) (k : Nat) (w : World) (hs : s.size ≤ 140737488351232) (hk : k ≤ s.size) :
    Calls Tryd.prog 53 #[.string s, .int .i64 (k : Int)] w fun e w' => e = .returned (.int .i64 ((k + dgR ((bl s).drop k) : Nat) : Int)) ∧ w = w' := by
  unfold dgR
  go_enter Tryd.func53, Tryd.ntmps53
  go_wp2_with fail
  go_loopw [1] (fun s1 wr => ∃ j : Nat, j ≤ s.size ∧ s1 = .int .i64 j ∧ Hid (j + runL isDg ((bl s).drop j) = k + runL isDg ((bl s).drop k)) ∧ w = wr) (fun s1 _ => s.size - (intOf s1).toNat)
  case atStart => exact ⟨k, hk, rfl, Lib.hid rfl, rfl⟩
  case round =>
    obtain ⟨j, hj, rfl, HJ, rfl⟩ := hrel
    by_cases hlt : j < s.size
    · have e1 := hlt
      have HI := Lib.hid (fun w => lIsDigit_any s[j].toNat w)
      by_cases hb : isDg s[j].toNat = true
      · rw [hb] at HI
        have HN := Lib.hid ((runL_yes (p := isDg) hlt hb).trans HJ.out)
        clear hb HJ
        go_wp2_with (refine (HI.out _).mono ?_; rintro e w1 ⟨rfl, rfl⟩)
        go_roundw
        case rel => exact ⟨j + 1, by omega, by go_num, HN, by first | rfl | trivial⟩
        case measure => simp [intOf]; omega
      · have hb' : isDg s[j].toNat = false := by simpa using hb
        rw [hb'] at HI
        have HN := Lib.hid ((runL_no (p := isDg) hlt hb').symm.trans HJ.out)
        clear hb hb' HJ
        go_wp2_with fail
        refine (HI.out _).mono ?_
        rintro e w1 ⟨rfl, rfl⟩
        go_wp2
        go_ret
        exact ⟨by rw [← HN.out]; rfl, rfl⟩
    · have HN := Lib.hid ((runL_end (p := isDg) (s := s) (j := j) (by omega)).symm.trans HJ.out)
      clear HJ
      go_wp2
      go_ret
      exact ⟨by rw [← HN.out]; rfl, rfl⟩
end Go.Proofs.YtjjacffacmpopaaDoor

/- lex: names' and numbers' ends walked. -/
namespace Go.Proofs.YtjjacffacmpopaaDoor
open Go.RowKit UM QM LX

theorem nmR_no {s : ByteArray} {k : Nat} (h : k < s.size) (hp : isLt s[k].toNat = false) : k + nmR ((bl s).drop k) = k := by
  rw [bl_drop s k h]; simp only [nmR]; rw [if_neg (by simp [hp])]; rfl
theorem nmR_end {s : ByteArray} {k : Nat} (h : s.size ≤ k) : k + nmR ((bl s).drop k) = k := by
  rw [bdrop_end h]; rfl
theorem nmR_run {s : ByteArray} {k : Nat} (h : k < s.size) (hp : isLt s[k].toNat = true) : k + nmR ((bl s).drop k) = k + runL isNm ((bl s).drop k) := by
  rw [bl_drop s k h]; simp only [nmR, runL]; rw [if_pos hp, if_pos (by unfold isNm; rw [hp]; rfl)]
set_option maxRecDepth 100000 in
set_option maxHeartbeats 2000000 in
theorem nameEnd_any (s : ByteArray) (k : Nat) (w : World) (hs : s.size ≤ 140737488351232) (hk : k ≤ s.size + 1) :
    Calls Tryd.prog 15 #[.string s, .int .i64 (k : Int)] w fun e w' => e = .returned (.int .i64 ((k + nmR ((bl s).drop k) : Nat) : Int)) ∧ w = w' := by
  go_enter Tryd.func15, Tryd.ntmps15
  by_cases hlt : k < s.size
  · have e1 := hlt
    have HL := Lib.hid (fun w => lIsLetter_any s[k].toNat w)
    by_cases hb : isLt s[k].toNat = true
    · rw [nmR_run hlt hb]
      rw [hb] at HL
      clear hb
      have n1 : ¬ ((s.size : Int) ≤ (k : Int)) := by omega
      go_wp2_with fail
      refine (HL.out _).mono ?_
      rintro e w1 ⟨rfl, rfl⟩
      clear HL n1
      go_wp2
      go_loopw [1] (fun s1 wr => ∃ j : Nat, j ≤ s.size ∧ s1 = .int .i64 j ∧ Hid (j + runL isNm ((bl s).drop j) = k + runL isNm ((bl s).drop k)) ∧ Hid (w = wr)) (fun s1 _ => s.size - (intOf s1).toNat)
      case atStart => exact ⟨k, by omega, rfl, Lib.hid rfl, Lib.hid rfl⟩
      case round =>
        obtain ⟨j, hj, rfl, HJ, HW⟩ := hrel
        by_cases hlt : j < s.size
        · have e1 := hlt
          have HL := Lib.hid (fun w => lIsLetter_any s[j].toNat w)
          have HD := Lib.hid (fun w => lIsDigit_any s[j].toNat w)
          by_cases hb : isLt s[j].toNat = true
          · have HN := Lib.hid ((runL_yes (p := isNm) hlt (by unfold isNm; rw [hb]; rfl)).trans HJ.out)
            rw [hb] at HL
            clear hb HJ HD
            go_wp2_with (refine (HL.out _).mono ?_; rintro e w1 ⟨rfl, rfl⟩)
            go_roundw
            case rel => exact ⟨j + 1, by omega, by go_num, HN, HW⟩
            case measure => simp [intOf]; omega
          · have hb' : isLt s[j].toNat = false := by simpa using hb
            rw [hb'] at HL
            by_cases hd : isDg s[j].toNat = true
            · have HN := Lib.hid ((runL_yes (p := isNm) hlt (by unfold isNm; rw [hd]; simp)).trans HJ.out)
              rw [hd] at HD
              clear hb hb' hd HJ
              go_wp2_with fail
              refine (HL.out _).mono ?_
              rintro e w1 ⟨rfl, rfl⟩
              go_wp2_with fail
              refine (HD.out _).mono ?_
              rintro e w1 ⟨rfl, rfl⟩
              go_wp2
              go_roundw
              case rel => exact ⟨j + 1, by omega, by go_num, HN, HW⟩
              case measure => simp [intOf]; omega
            · have hd' : isDg s[j].toNat = false := by simpa using hd
              have HN := Lib.hid ((runL_no (p := isNm) hlt (by unfold isNm; rw [hb', hd']; rfl)).symm.trans HJ.out)
              rw [hd'] at HD
              clear hb hb' hd hd' HJ
              go_wp2_with fail
              refine (HL.out _).mono ?_
              rintro e w1 ⟨rfl, rfl⟩
              go_wp2_with fail
              refine (HD.out _).mono ?_
              rintro e w1 ⟨rfl, rfl⟩
              go_wp2
              go_ret
              exact ⟨by rw [← HN.out]; rfl, HW.out⟩
        · have HN := Lib.hid ((runL_end (p := isNm) (s := s) (j := j) (by omega)).symm.trans HJ.out)
          clear HJ
          go_wp2
          go_ret
          exact ⟨by rw [← HN.out]; rfl, HW.out⟩
    · have hb' : isLt s[k].toNat = false := by simpa using hb
      rw [nmR_no hlt hb']
      rw [hb'] at HL
      clear hb hb'
      have n1 : ¬ ((s.size : Int) ≤ (k : Int)) := by omega
      go_wp2_with fail
      refine (HL.out _).mono ?_
      rintro e w1 ⟨rfl, rfl⟩
      go_wp2
      go_ret
      exact ⟨rfl, rfl⟩
  · rw [nmR_end (by omega)]
    have n1 : (s.size : Int) ≤ (k : Int) := by omega
    go_wp2
    go_ret
    exact ⟨rfl, rfl⟩
theorem sgR_at {s : ByteArray} {k : Nat} (h : k < s.size) : sgR ((bl s).drop k) = if s[k].toNat = 43 ∨ s[k].toNat = 45 then 1 else 0 := by
  rw [bl_drop s k h]; rfl
set_option maxRecDepth 100000 in
set_option maxHeartbeats 2000000 in
theorem signEnd_any (s : ByteArray) (k : Nat) (w : World) (hs : s.size ≤ 140737488351232) (hk : k ≤ s.size) :
    Calls Tryd.prog 55 #[.string s, .int .i64 (k : Int)] w fun e w' => e = .returned (.int .i64 ((k + sgR ((bl s).drop k) : Nat) : Int)) ∧ w = w' := by
  go_enter Tryd.func55, Tryd.ntmps55
  by_cases hlt : k < s.size
  · have e1 := hlt
    rw [sgR_at hlt]
    by_cases h1 : s[k].toNat = 43
    · rw [if_pos (.inl h1)]
      have t1 : ((s[k].toNat : Int) == 43) = true := by rw [beq_iff_eq]; omega
      clear h1
      go_wp2
      go_ret
      exact ⟨by go_num, rfl⟩
    · have t1 : ((s[k].toNat : Int) == 43) = false := by rw [beq_eq_false_iff_ne]; omega
      by_cases h2 : s[k].toNat = 45
      · rw [if_pos (.inr h2)]
        have t2 : ((s[k].toNat : Int) == 45) = true := by rw [beq_iff_eq]; omega
        clear h1 h2
        go_wp2
        go_ret
        exact ⟨by go_num, rfl⟩
      · rw [if_neg (by omega)]
        have t2 : ((s[k].toNat : Int) == 45) = false := by rw [beq_eq_false_iff_ne]; omega
        clear h1 h2
        go_wp2
        go_ret
        exact ⟨rfl, rfl⟩
  · rw [bdrop_end (by omega)]
    go_wp2
    go_ret
    exact ⟨rfl, rfl⟩
set_option maxRecDepth 100000 in
set_option maxHeartbeats 2000000 in
theorem digitsBehind_any (s : ByteArray) (n m : Nat) (w : World) (hs : s.size ≤ 140737488351232) (hk : m ≤ s.size) :
    Calls Tryd.prog 54 #[.string s, .int .i64 (n : Int), .int .i64 (m : Int)] w fun e w' => e = .returned (.int .i64 ((if 0 < dgR ((bl s).drop m) then m + dgR ((bl s).drop m) else n : Nat) : Int)) ∧ w = w' := by
  have HD := Lib.hid (digitsEnd_any s m w hs hk)
  generalize dgR ((bl s).drop m) = d at *
  go_enter Tryd.func54, Tryd.ntmps54
  by_cases h0 : 0 < d
  · rw [if_pos h0]
    have h1 : (m : Int) < ((m + d : Nat) : Int) := by omega
    go_wp2_with fail
    refine HD.out.mono ?_
    rintro e w1 ⟨rfl, rfl⟩
    go_wp2
    go_ret
    exact ⟨rfl, rfl⟩
  · rw [if_neg h0]
    have h1 : ¬ (m : Int) < ((m + d : Nat) : Int) := by omega
    go_wp2_with fail
    refine HD.out.mono ?_
    rintro e w1 ⟨rfl, rfl⟩
    go_wp2
    go_ret
    exact ⟨rfl, rfl⟩
theorem at_some {s : ByteArray} {k : Nat} (h : k < s.size) : (bl s)[k]? = some s[k].toNat := by
  have h2 : k < (bl s).length := by rw [bl_len]; exact h
  have := bl_get s k h
  rw [List.getElem?_eq_getElem h2] at this ⊢
  simpa using this
theorem at_none {s : ByteArray} {k : Nat} (h : s.size ≤ k) : (bl s)[k]? = none := List.getElem?_eq_none (by rw [bl_len]; exact h)
set_option maxRecDepth 100000 in
set_option maxHeartbeats 4000000 in
theorem numberEnd_any (s : ByteArray) (k : Nat) (w : World) (hs : s.size ≤ 140737488351232) (hk : k ≤ s.size) :
    Calls Tryd.prog 42 #[.string s, .int .i64 (k : Int)] w fun e w' => e = .returned (.int .i64 ((k + nuR ((bl s).drop k) : Nat) : Int)) ∧ w = w' := by
  have HD := Lib.hid (digitsEnd_any s k w hs hk)
  have hl1 := dgR_le ((bl s).drop k)
  have hl2 := nu2_le ((bl s).drop k)
  have hl3 := sgR_le ((bl s).drop (k + nu2 ((bl s).drop k) + 1))
  rw [List.length_drop, bl_len] at hl1 hl2 hl3
  have hN2 : k + nu2 ((bl s).drop k) = if (bl s)[k + dgR ((bl s).drop k)]? = some 46 then (if 0 < dgR ((bl s).drop (k + dgR ((bl s).drop k) + 1)) then k + dgR ((bl s).drop k) + 1 + dgR ((bl s).drop (k + dgR ((bl s).drop k) + 1)) else k + dgR ((bl s).drop k)) else k + dgR ((bl s).drop k) := by
    unfold nu2 dbR
    rw [List.getElem?_drop, List.drop_drop]
    simp only [Nat.add_assoc]
    split
    · split <;> omega
    · rfl
  have hN3 : k + nuR ((bl s).drop k) = if (bl s)[k + nu2 ((bl s).drop k)]? = some 101 ∨ (bl s)[k + nu2 ((bl s).drop k)]? = some 69 then (if 0 < dgR ((bl s).drop (k + nu2 ((bl s).drop k) + 1 + sgR ((bl s).drop (k + nu2 ((bl s).drop k) + 1)))) then k + nu2 ((bl s).drop k) + 1 + sgR ((bl s).drop (k + nu2 ((bl s).drop k) + 1)) + dgR ((bl s).drop (k + nu2 ((bl s).drop k) + 1 + sgR ((bl s).drop (k + nu2 ((bl s).drop k) + 1)))) else k + nu2 ((bl s).drop k)) else k + nu2 ((bl s).drop k) := by
    unfold nuR dbR
    rw [List.getElem?_drop, List.drop_drop, List.drop_drop]
    simp only [Nat.add_assoc]
    split
    · split <;> omega
    · rfl
  rw [hN3]
  clear hN3
  have ha : k + dgR ((bl s).drop k) ≤ s.size := by omega
  have hb : k + nu2 ((bl s).drop k) ≤ s.size := by omega
  generalize k + nu2 ((bl s).drop k) = b at *
  generalize hca : k + dgR ((bl s).drop k) = a at *
  clear hl1 hl2 hca
  have hg : sgR ((bl s).drop (b + 1)) ≤ s.size - (b + 1) := hl3
  clear hl3
  have HS := Lib.hid (fun (h : b < s.size) w => signEnd_any s (b + 1) w hs h)
  generalize sgR ((bl s).drop (b + 1)) = g at *
  have HB2 := Lib.hid (fun (h : b < s.size) w => digitsBehind_any s b (b + 1 + g) w hs (by omega))
  have HB1 := Lib.hid (fun (h : a < s.size) w => digitsBehind_any s a (a + 1) w hs h)
  generalize (bl s).drop (b + 1 + g) = r2 at *
  generalize (bl s).drop (a + 1) = r1 at *
  have HN2 := Lib.hid hN2
  clear hN2
  have H1 : (∃ e1 : a < s.size, ((s[a].toNat : Int) == 46) = true ∧ Hid (∀ w, Calls Tryd.prog 54 #[.string s, .int .i64 (a : Int), .int .i64 ((a : Int) + 1)] w fun e w' => e = .returned (.int .i64 (b : Int)) ∧ w = w')) ∨ (∃ e1 : a < s.size, ((s[a].toNat : Int) == 46) = false ∧ b = a) ∨ (¬ a < s.size ∧ b = a) := by
    have hn := HN2.out
    by_cases h1 : a < s.size
    · rw [at_some h1] at hn
      by_cases h2 : s[a].toNat = 46
      · rw [if_pos (by rw [h2])] at hn
        refine .inl ⟨h1, by rw [beq_iff_eq]; omega, Lib.hid (fun w => ?_)⟩
        rw [hn]
        exact HB1.out h1 w
      · rw [if_neg (by simpa using h2)] at hn
        exact .inr (.inl ⟨h1, by rw [beq_eq_false_iff_ne]; omega, hn⟩)
    · rw [at_none (by omega), if_neg (by simp)] at hn
      exact .inr (.inr ⟨h1, hn⟩)
  have H2 : (∃ e2 : b < s.size, ((s[b].toNat : Int) == 101) = true ∧ ((bl s)[b]? = some 101 ∨ (bl s)[b]? = some 69)) ∨ (∃ e2 : b < s.size, ((s[b].toNat : Int) == 101) = false ∧ ((s[b].toNat : Int) == 69) = true ∧ ((bl s)[b]? = some 101 ∨ (bl s)[b]? = some 69)) ∨ (∃ e2 : b < s.size, ((s[b].toNat : Int) == 101) = false ∧ ((s[b].toNat : Int) == 69) = false ∧ ¬ ((bl s)[b]? = some 101 ∨ (bl s)[b]? = some 69)) ∨ (¬ b < s.size ∧ ¬ ((bl s)[b]? = some 101 ∨ (bl s)[b]? = some 69)) := by
    by_cases h1 : b < s.size
    · rw [at_some h1]
      by_cases h2 : s[b].toNat = 101
      · exact .inl ⟨h1, by rw [beq_iff_eq]; omega, .inl (by rw [h2])⟩
      have u1 : ((s[b].toNat : Int) == 101) = false := by rw [beq_eq_false_iff_ne]; omega
      by_cases h3 : s[b].toNat = 69
      · exact .inr (.inl ⟨h1, u1, by rw [beq_iff_eq]; omega, .inr (by rw [h3])⟩)
      · exact .inr (.inr (.inl ⟨h1, u1, by rw [beq_eq_false_iff_ne]; omega, by simp [h2, h3]⟩))
    · rw [at_none (by omega)]
      exact .inr (.inr (.inr ⟨h1, by simp⟩))
  clear HN2 HB1
  have HS := Lib.hid (show ∀ (h : b < s.size) w, Calls Tryd.prog 55 #[.string s, .int .i64 ((b : Int) + 1)] w fun e w' => e = .returned (.int .i64 ((b + 1 + g : Nat) : Int)) ∧ w = w' from fun h w => HS.out h w)
  have HB2 := Lib.hid (show ∀ (h : b < s.size) w, Calls Tryd.prog 54 #[.string s, .int .i64 (b : Int), .int .i64 ((b : Int) + 1 + (g : Int))] w fun e w' => e = .returned (.int .i64 ((if 0 < dgR r2 then b + 1 + g + dgR r2 else b : Nat) : Int)) ∧ w = w' from fun h w => HB2.out h w)
  generalize (if 0 < dgR r2 then b + 1 + g + dgR r2 else b) = z at *
  rcases H1 with ⟨e1, t1, HB1⟩ | ⟨e1, t1, rfl⟩ | ⟨e1, rfl⟩
  all_goals
    rcases H2 with ⟨e2, t2, hq⟩ | ⟨e2, t2, t3, hq⟩ | ⟨e2, t2, t3, hq⟩ | ⟨e2, hq⟩
    all_goals
      first | rw [if_pos hq] | rw [if_neg hq]
      clear hq
      first
      | exact absurd e2 e1
      | (go_enter Tryd.func42, Tryd.ntmps42
         go_wp2_with fail
         refine HD.out.mono ?_
         rintro e w1 ⟨rfl, rfl⟩
         clear HD
         go_wp2_with (first | ((with_reducible refine (HB1.out _).mono ?_); rintro e w1 ⟨rfl, rfl⟩) | ((with_reducible refine (HS.out e2 _).mono ?_); rintro e w1 ⟨rfl, rfl⟩) | ((with_reducible refine (HB2.out e2 _).mono ?_); rintro e w1 ⟨rfl, rfl⟩))
         try go_wp2
         try go_ret
         first | done | exact ⟨rfl, rfl⟩)
end Go.Proofs.YtjjacffacmpopaaDoor
