/- lex: names' and numbers' ends walked. -/
import Derived.Test.YtpgiljibicigeaaGreatDoorSynMaths
import Derived.Test.YtpgiljibicigeaaGreatDoorUtfHs
import Derived.WalkMore
import Derived.Deep.LoopGhost
import Derived.Deep.MidRow
set_option linter.unusedVariables false
set_option linter.unusedSimpArgs false
namespace Go.Proofs.YtpgiljibicigeaaGreatDoor
open Go.RowKit UM QM LX

theorem nmR_no {s : ByteArray} {k : Nat} (h : k < s.size) (hp : isLt s[k].toNat = false) : k + nmR ((bl s).drop k) = k := by
  rw [bl_drop s k h]; simp only [nmR]; rw [if_neg (by simp [hp])]; rfl
theorem nmR_end {s : ByteArray} {k : Nat} (h : s.size ≤ k) : k + nmR ((bl s).drop k) = k := by
  rw [bdrop_end h]; rfl
theorem nmR_run {s : ByteArray} {k : Nat} (h : k < s.size) (hp : isLt s[k].toNat = true) : k + nmR ((bl s).drop k) = k + runL isNm ((bl s).drop k) := by
  rw [bl_drop s k h]; simp only [nmR, runL]; rw [if_pos hp, if_pos (by unfold isNm; rw [hp]; rfl)]
set_option maxRecDepth 100000 in
set_option maxHeartbeats 2000000 in
theorem nameEnd_any (s : ByteArray) (k : Nat) (w : World) (hs : s.size ≤ 140737488351232) (hk : k ≤ s.size + 1) :
    Calls Tryz.prog 52 #[.string s, .int .i64 (k : Int)] w fun e w' => e = .returned (.int .i64 ((k + nmR ((bl s).drop k) : Nat) : Int)) ∧ w = w' := by
  go_enter Tryz.func52, Tryz.ntmps52
  by_cases hlt : k < s.size
  · have e1 := hlt
    have HL := Lib.hid (fun w => lIsLetter_any s[k].toNat w)
    by_cases hb : isLt s[k].toNat = true
    · rw [nmR_run hlt hb]
      rw [hb] at HL
      clear hb
      have n1 : ¬ ((s.size : Int) ≤ (k : Int)) := by omega
      go_wp2_with fail
      refine (HL.out _).mono ?_
      rintro e w1 ⟨rfl, rfl⟩
      clear HL n1
      go_wp2
      go_loopw [1] (fun s1 wr => ∃ j : Nat, j ≤ s.size ∧ s1 = .int .i64 j ∧ Hid (j + runL isNm ((bl s).drop j) = k + runL isNm ((bl s).drop k)) ∧ Hid (w = wr)) (fun s1 _ => s.size - (intOf s1).toNat)
      case atStart => exact ⟨k, by omega, rfl, Lib.hid rfl, Lib.hid rfl⟩
      case round =>
        obtain ⟨j, hj, rfl, HJ, HW⟩ := hrel
        by_cases hlt : j < s.size
        · have e1 := hlt
          have HL := Lib.hid (fun w => lIsLetter_any s[j].toNat w)
          have HD := Lib.hid (fun w => lIsDigit_any s[j].toNat w)
          by_cases hb : isLt s[j].toNat = true
          · have HN := Lib.hid ((runL_yes (p := isNm) hlt (by unfold isNm; rw [hb]; rfl)).trans HJ.out)
            rw [hb] at HL
            clear hb HJ HD
            go_wp2_with (refine (HL.out _).mono ?_; rintro e w1 ⟨rfl, rfl⟩)
            go_roundw
            case rel => exact ⟨j + 1, by omega, by go_num, HN, HW⟩
            case measure => simp [intOf]; omega
          · have hb' : isLt s[j].toNat = false := by simpa using hb
            rw [hb'] at HL
            by_cases hd : isDg s[j].toNat = true
            · have HN := Lib.hid ((runL_yes (p := isNm) hlt (by unfold isNm; rw [hd]; simp)).trans HJ.out)
              rw [hd] at HD
              clear hb hb' hd HJ
              go_wp2_with fail
              refine (HL.out _).mono ?_
              rintro e w1 ⟨rfl, rfl⟩
              go_wp2_with fail
              refine (HD.out _).mono ?_
              rintro e w1 ⟨rfl, rfl⟩
              go_wp2
              go_roundw
              case rel => exact ⟨j + 1, by omega, by go_num, HN, HW⟩
              case measure => simp [intOf]; omega
            · have hd' : isDg s[j].toNat = false := by simpa using hd
              have HN := Lib.hid ((runL_no (p := isNm) hlt (by unfold isNm; rw [hb', hd']; rfl)).symm.trans HJ.out)
              rw [hd'] at HD
              clear hb hb' hd hd' HJ
              go_wp2_with fail
              refine (HL.out _).mono ?_
              rintro e w1 ⟨rfl, rfl⟩
              go_wp2_with fail
              refine (HD.out _).mono ?_
              rintro e w1 ⟨rfl, rfl⟩
              go_wp2
              go_ret
              exact ⟨by rw [← HN.out]; rfl, HW.out⟩
        · have HN := Lib.hid ((runL_end (p := isNm) (s := s) (j := j) (by omega)).symm.trans HJ.out)
          clear HJ
          go_wp2
          go_ret
          exact ⟨by rw [← HN.out]; rfl, HW.out⟩
    · have hb' : isLt s[k].toNat = false := by simpa using hb
      rw [nmR_no hlt hb']
      rw [hb'] at HL
      clear hb hb'
      have n1 : ¬ ((s.size : Int) ≤ (k : Int)) := by omega
      go_wp2_with fail
      refine (HL.out _).mono ?_
      rintro e w1 ⟨rfl, rfl⟩
      go_wp2
      go_ret
      exact ⟨rfl, rfl⟩
  · rw [nmR_end (by omega)]
    have n1 : (s.size : Int) ≤ (k : Int) := by omega
    go_wp2
    go_ret
    exact ⟨rfl, rfl⟩
theorem sgR_at {s : ByteArray} {k : Nat} (h : k < s.size) : sgR ((bl s).drop k) = if s[k].toNat = 43 ∨ s[k].toNat = 45 then 1 else 0 := by
  rw [bl_drop s k h]; rfl
set_option maxRecDepth 100000 in
set_option maxHeartbeats 2000000 in
theorem signEnd_any (s : ByteArray) (k : Nat) (w : World) (hs : s.size ≤ 140737488351232) (hk : k ≤ s.size) :
    Calls Tryz.prog 76 #[.string s, .int .i64 (k : Int)] w fun e w' => e = .returned (.int .i64 ((k + sgR ((bl s).drop k) : Nat) : Int)) ∧ w = w' := by
  go_enter Tryz.func76, Tryz.ntmps76
  by_cases hlt : k < s.size
  · have e1 := hlt
    rw [sgR_at hlt]
    by_cases h1 : s[k].toNat = 43
    · rw [if_pos (.inl h1)]
      have t1 : ((s[k].toNat : Int) == 43) = true := by rw [beq_iff_eq]; omega
      clear h1
      go_wp2
      go_ret
      exact ⟨by go_num, rfl⟩
    · have t1 : ((s[k].toNat : Int) == 43) = false := by rw [beq_eq_false_iff_ne]; omega
      by_cases h2 : s[k].toNat = 45
      · rw [if_pos (.inr h2)]
        have t2 : ((s[k].toNat : Int) == 45) = true := by rw [beq_iff_eq]; omega
        clear h1 h2
        go_wp2
        go_ret
        exact ⟨by go_num, rfl⟩
      · rw [if_neg (by omega)]
        have t2 : ((s[k].toNat : Int) == 45) = false := by rw [beq_eq_false_iff_ne]; omega
        clear h1 h2
        go_wp2
        go_ret
        exact ⟨rfl, rfl⟩
  · rw [bdrop_end (by omega)]
    go_wp2
    go_ret
    exact ⟨rfl, rfl⟩
set_option maxRecDepth 100000 in
set_option maxHeartbeats 2000000 in
theorem digitsBehind_any (s : ByteArray) (n m : Nat) (w : World) (hs : s.size ≤ 140737488351232) (hk : m ≤ s.size) :
    Calls Tryz.prog 75 #[.string s, .int .i64 (n : Int), .int .i64 (m : Int)] w fun e w' => e = .returned (.int .i64 ((if 0 < dgR ((bl s).drop m) then m + dgR ((bl s).drop m) else n : Nat) : Int)) ∧ w = w' := by
  have HD := Lib.hid (digitsEnd_any s m w hs hk)
  generalize dgR ((bl s).drop m) = d at *
  go_enter Tryz.func75, Tryz.ntmps75
  by_cases h0 : 0 < d
  · rw [if_pos h0]
    have h1 : (m : Int) < ((m + d : Nat) : Int) := by omega
    go_wp2_with fail
    refine HD.out.mono ?_
    rintro e w1 ⟨rfl, rfl⟩
    go_wp2
    go_ret
    exact ⟨rfl, rfl⟩
  · rw [if_neg h0]
    have h1 : ¬ (m : Int) < ((m + d : Nat) : Int) := by omega
    go_wp2_with fail
    refine HD.out.mono ?_
    rintro e w1 ⟨rfl, rfl⟩
    go_wp2
    go_ret
    exact ⟨rfl, rfl⟩
theorem at_some {s : ByteArray} {k : Nat} (h : k < s.size) : (bl s)[k]? = some s[k].toNat := by
  have h2 : k < (bl s).length := by rw [bl_len]; exact h
  have := bl_get s k h
  rw [List.getElem?_eq_getElem h2] at this ⊢
  simpa using this
theorem at_none {s : ByteArray} {k : Nat} (h : s.size ≤ k) : (bl s)[k]? = none := List.getElem?_eq_none (by rw [bl_len]; exact h)
set_option maxRecDepth 100000 in
set_option maxHeartbeats 4000000 in
theorem numberEnd_any (s : ByteArray) (k : Nat) (w : World) (hs : s.size ≤ 140737488351232) (hk : k ≤ s.size) :
    Calls Tryz.prog 56 #[.string s, .int .i64 (k : Int)] w fun e w' => e = .returned (.int .i64 ((k + nuR ((bl s).drop k) : Nat) : Int)) ∧ w = w' := by
  have HD := Lib.hid (digitsEnd_any s k w hs hk)
  have hl1 := dgR_le ((bl s).drop k)
  have hl2 := nu2_le ((bl s).drop k)
  have hl3 := sgR_le ((bl s).drop (k + nu2 ((bl s).drop k) + 1))
  rw [List.length_drop, bl_len] at hl1 hl2 hl3
  have hN2 : k + nu2 ((bl s).drop k) = if (bl s)[k + dgR ((bl s).drop k)]? = some 46 then (if 0 < dgR ((bl s).drop (k + dgR ((bl s).drop k) + 1)) then k + dgR ((bl s).drop k) + 1 + dgR ((bl s).drop (k + dgR ((bl s).drop k) + 1)) else k + dgR ((bl s).drop k)) else k + dgR ((bl s).drop k) := by
    unfold nu2 dbR
    rw [List.getElem?_drop, List.drop_drop]
    simp only [Nat.add_assoc]
    split
    · split <;> omega
    · rfl
  have hN3 : k + nuR ((bl s).drop k) = if (bl s)[k + nu2 ((bl s).drop k)]? = some 101 ∨ (bl s)[k + nu2 ((bl s).drop k)]? = some 69 then (if 0 < dgR ((bl s).drop (k + nu2 ((bl s).drop k) + 1 + sgR ((bl s).drop (k + nu2 ((bl s).drop k) + 1)))) then k + nu2 ((bl s).drop k) + 1 + sgR ((bl s).drop (k + nu2 ((bl s).drop k) + 1)) + dgR ((bl s).drop (k + nu2 ((bl s).drop k) + 1 + sgR ((bl s).drop (k + nu2 ((bl s).drop k) + 1)))) else k + nu2 ((bl s).drop k)) else k + nu2 ((bl s).drop k) := by
    unfold nuR dbR
    rw [List.getElem?_drop, List.drop_drop, List.drop_drop]
    simp only [Nat.add_assoc]
    split
    · split <;> omega
    · rfl
  rw [hN3]
  clear hN3
  have ha : k + dgR ((bl s).drop k) ≤ s.size := by omega
  have hb : k + nu2 ((bl s).drop k) ≤ s.size := by omega
  generalize k + nu2 ((bl s).drop k) = b at *
  generalize hca : k + dgR ((bl s).drop k) = a at *
  clear hl1 hl2 hca
  have hg : sgR ((bl s).drop (b + 1)) ≤ s.size - (b + 1) := hl3
  clear hl3
  have HS := Lib.hid (fun (h : b < s.size) w => signEnd_any s (b + 1) w hs h)
  generalize sgR ((bl s).drop (b + 1)) = g at *
  have HB2 := Lib.hid (fun (h : b < s.size) w => digitsBehind_any s b (b + 1 + g) w hs (by omega))
  have HB1 := Lib.hid (fun (h : a < s.size) w => digitsBehind_any s a (a + 1) w hs h)
  generalize (bl s).drop (b + 1 + g) = r2 at *
  generalize (bl s).drop (a + 1) = r1 at *
  have HN2 := Lib.hid hN2
  clear hN2
  have H1 : (∃ e1 : a < s.size, ((s[a].toNat : Int) == 46) = true ∧ Hid (∀ w, Calls Tryz.prog 75 #[.string s, .int .i64 (a : Int), .int .i64 ((a : Int) + 1)] w fun e w' => e = .returned (.int .i64 (b : Int)) ∧ w = w')) ∨ (∃ e1 : a < s.size, ((s[a].toNat : Int) == 46) = false ∧ b = a) ∨ (¬ a < s.size ∧ b = a) := by
    have hn := HN2.out
    by_cases h1 : a < s.size
    · rw [at_some h1] at hn
      by_cases h2 : s[a].toNat = 46
      · rw [if_pos (by rw [h2])] at hn
        refine .inl ⟨h1, by rw [beq_iff_eq]; omega, Lib.hid (fun w => ?_)⟩
        rw [hn]
        exact HB1.out h1 w
      · rw [if_neg (by simpa using h2)] at hn
        exact .inr (.inl ⟨h1, by rw [beq_eq_false_iff_ne]; omega, hn⟩)
    · rw [at_none (by omega), if_neg (by simp)] at hn
      exact .inr (.inr ⟨h1, hn⟩)
  have H2 : (∃ e2 : b < s.size, ((s[b].toNat : Int) == 101) = true ∧ ((bl s)[b]? = some 101 ∨ (bl s)[b]? = some 69)) ∨ (∃ e2 : b < s.size, ((s[b].toNat : Int) == 101) = false ∧ ((s[b].toNat : Int) == 69) = true ∧ ((bl s)[b]? = some 101 ∨ (bl s)[b]? = some 69)) ∨ (∃ e2 : b < s.size, ((s[b].toNat : Int) == 101) = false ∧ ((s[b].toNat : Int) == 69) = false ∧ ¬ ((bl s)[b]? = some 101 ∨ (bl s)[b]? = some 69)) ∨ (¬ b < s.size ∧ ¬ ((bl s)[b]? = some 101 ∨ (bl s)[b]? = some 69)) := by
    by_cases h1 : b < s.size
    · rw [at_some h1]
      by_cases h2 : s[b].toNat = 101
      · exact .inl ⟨h1, by rw [beq_iff_eq]; omega, .inl (by rw [h2])⟩
      have u1 : ((s[b].toNat : Int) == 101) = false := by rw [beq_eq_false_iff_ne]; omega
      by_cases h3 : s[b].toNat = 69
      · exact .inr (.inl ⟨h1, u1, by rw [beq_iff_eq]; omega, .inr (by rw [h3])⟩)
      · exact .inr (.inr (.inl ⟨h1, u1, by rw [beq_eq_false_iff_ne]; omega, by simp [h2, h3]⟩))
    · rw [at_none (by omega)]
      exact .inr (.inr (.inr ⟨h1, by simp⟩))
  clear HN2 HB1
  have HS := Lib.hid (show ∀ (h : b < s.size) w, Calls Tryz.prog 76 #[.string s, .int .i64 ((b : Int) + 1)] w fun e w' => e = .returned (.int .i64 ((b + 1 + g : Nat) : Int)) ∧ w = w' from fun h w => HS.out h w)
  have HB2 := Lib.hid (show ∀ (h : b < s.size) w, Calls Tryz.prog 75 #[.string s, .int .i64 (b : Int), .int .i64 ((b : Int) + 1 + (g : Int))] w fun e w' => e = .returned (.int .i64 ((if 0 < dgR r2 then b + 1 + g + dgR r2 else b : Nat) : Int)) ∧ w = w' from fun h w => HB2.out h w)
  generalize (if 0 < dgR r2 then b + 1 + g + dgR r2 else b) = z at *
  rcases H1 with ⟨e1, t1, HB1⟩ | ⟨e1, t1, rfl⟩ | ⟨e1, rfl⟩
  all_goals
    rcases H2 with ⟨e2, t2, hq⟩ | ⟨e2, t2, t3, hq⟩ | ⟨e2, t2, t3, hq⟩ | ⟨e2, hq⟩
    all_goals
      first | rw [if_pos hq] | rw [if_neg hq]
      clear hq
      first
      | exact absurd e2 e1
      | (go_enter Tryz.func56, Tryz.ntmps56
         go_wp2_with fail
         refine HD.out.mono ?_
         rintro e w1 ⟨rfl, rfl⟩
         clear HD
         go_wp2_with (first | ((with_reducible refine (HB1.out _).mono ?_); rintro e w1 ⟨rfl, rfl⟩) | ((with_reducible refine (HS.out e2 _).mono ?_); rintro e w1 ⟨rfl, rfl⟩) | ((with_reducible refine (HB2.out e2 _).mono ?_); rintro e w1 ⟨rfl, rfl⟩))
         try go_wp2
         try go_ret
         first | done | exact ⟨rfl, rfl⟩)
end Go.Proofs.YtpgiljibicigeaaGreatDoor

/- lex: the tables of signs and words; Word, Name, signOf walked. -/
namespace Go.Proofs.YtpgiljibicigeaaGreatDoor
open Go.RowKit UM QM LX

def wdL : List (List Nat) := [[97, 110, 100], [97, 115], [98, 114, 101, 97, 107], [99, 97, 116, 99, 104], [100, 101, 102], [101, 108, 105, 102], [101, 108, 115, 101], [101, 110, 100], [102, 111, 114, 101, 97, 99, 104], [105, 102], [108, 97, 98, 101, 108], [111, 114], [114, 101, 100, 117, 99, 101], [116, 104, 101, 110], [116, 114, 121]]
def wdT (i : Nat) : ByteArray := tx ((wdL[i]?).getD [])
def sgT (i : Nat) : ByteArray := tx ((sgL[i]?).getD [])
/-- the tables as laid -/
def Wd (w : World) : Prop := ∀ i, i < 15 → w.cell? ⟨4, i, none⟩ = some (.string (wdT i))
def Sg (w : World) : Prop := ∀ i, i < 33 → w.cell? ⟨2, i, none⟩ = some (.string (sgT i))
theorem Wd.below {w w' : World} (h : Wd w) (hb : Below w.heap.size w w') : Wd w' := fun i hi => by rw [hb.cell (lt_of_cell (h i hi))]; exact h i hi
theorem Sg.below {w w' : World} (h : Sg w) (hb : Below w.heap.size w w') : Sg w' := fun i hi => by rw [hb.cell (lt_of_cell (h i hi))]; exact h i hi
theorem bl_sgT (i : Nat) : bl (sgT i) = (sgL[i]?).getD [] := by
  unfold sgT
  refine bl_tx ?_
  rcases h : sgL[i]? with _ | l
  · simp
  · have : ∀ l ∈ sgL, ∀ x ∈ l, x < 256 := by decide
    exact this l (List.mem_of_getElem? h)
theorem bl_wdT (i : Nat) : bl (wdT i) = (wdL[i]?).getD [] := by
  unfold wdT
  refine bl_tx ?_
  rcases h : wdL[i]? with _ | l
  · simp
  · have : ∀ l ∈ wdL, ∀ x ∈ l, x < 256 := by decide
    exact this l (List.mem_of_getElem? h)
theorem arr_some {arr : Array Value} {i : Nat} {v : Value} (h : arr[i]? = some v) : ∃ h2 : i < arr.size, arr[i] = v := by
  rcases Nat.lt_or_ge i arr.size with h' | h'
  · exact ⟨h', by rw [Array.getElem?_eq_getElem h'] at h; exact Option.some.inj h⟩
  · rw [Array.getElem?_eq_none h'] at h; cases h
theorem idxSigns (arr : Array Value) (i : Nat) (v : Value) (h : arr[i]? = some v) (hi : i < 33) (w : World) : (Instr.index 116 (.agg arr) (.int .i64 i)).run Tryz.prog w = .ok v w := by
  have h1 := run_underlying (P := Tryz.prog) (w := w) Tryz.underlying116
  obtain ⟨h2, h3⟩ := arr_some h
  simp [Instr.index, part, asIntOf, h1, Tryz.sizeOf9, Tryz.isAgg9, h, go_sem]
  intro hc; omega
theorem idxWords (arr : Array Value) (i : Nat) (v : Value) (h : arr[i]? = some v) (hi : i < 15) (w : World) : (Instr.index 150 (.agg arr) (.int .i64 i)).run Tryz.prog w = .ok v w := by
  have h1 := run_underlying (P := Tryz.prog) (w := w) Tryz.underlying150
  obtain ⟨h2, h3⟩ := arr_some h
  simp [Instr.index, part, asIntOf, h1, Tryz.sizeOf9, Tryz.isAgg9, h, go_sem]
  intro hc; omega
theorem beq_txt (s t : ByteArray) : (s.toList == t.toList) = decide (bl s = bl t) := by
  have h := txt_eq (l := bl s) (t := t) (bl_lo s)
  rw [tx_bl] at h
  exact h
def wdF (l : List Nat) : Bool := wdL.contains l
theorem wdF_yes {l : List Nat} {i : Nat} (hi : i < 15) (h : l = (wdL[i]?).getD []) : wdF l = true := by
  have h15 : i < wdL.length := hi
  unfold wdF
  rw [List.contains_iff_mem, h, List.getElem?_eq_getElem h15]
  exact List.getElem_mem h15
theorem wdF_no {l : List Nat} (h : ∀ i, i < 15 → l ≠ (wdL[i]?).getD []) : wdF l = false := by
  unfold wdF
  rw [Bool.eq_false_iff, Ne, List.contains_iff_mem]
  intro hm
  obtain ⟨i, hi, he⟩ := List.getElem_of_mem hm
  exact h i hi (by rw [List.getElem?_eq_getElem hi]; exact he.symm)
def wdArrV (f : Nat → ByteArray) : List Value := (List.range 15).map (fun i => Value.string (f i))
theorem wdArr (f : Nat → ByteArray) : ∀ i, i < 15 → (wdArrV f).toArray[i]? = some (Value.string (f i)) := fun i hi => by
  unfold wdArrV; simp [hi]
theorem wdArrR {w : World} {f : Nat → ByteArray} (h : ∀ i, i < 15 → w.cell? ⟨4, i, none⟩ = some (.string (f i))) : w.rangeAt 4 0 (wdArrV f) := fun j v hv => by
  have hj : j < 15 := by
    rcases Nat.lt_or_ge j 15 with h1 | h1
    · exact h1
    · rw [List.getElem?_eq_none (by unfold wdArrV; simpa using h1)] at hv; cases hv
  have := wdArr f j hj
  rw [List.getElem?_toArray] at this
  rw [this] at hv
  rw [Nat.zero_add, ← Option.some.inj hv]
  exact h j hj
theorem wdArrI : (Tryz.prog.info? 150).map (·.size) = some 15 := by kernel_rfl
theorem wp_wdArr {ops : Array Oper} {rest : List Oper} {op : Oper} {a : Act} {w : World} {Q : Exit → Act → World → Prop} {f : Nat → ByteArray} (hgd : op.guard = none) (ho : op.op = .load 150 (.global 4)) (hR : w.rangeAt 4 0 (wdArrV f))
    (h : wpList Tryz.prog ops Q rest (a.put op.dst (.agg (wdArrV f).toArray)) w) : wpList Tryz.prog ops Q (op :: rest) a w :=
  wpList_load_mid hgd 150 (.global 4) ho 4 0 rfl (wdArrV f) _ hR Tryz.underlying150 rfl (by rw [wdArrI]; unfold wdArrV; simp) h
set_option maxRecDepth 100000 in
set_option maxHeartbeats 4000000 in
theorem Word_any (s : ByteArray) (w : World) (ht : Wd w) :
    Calls Tryz.prog 138 #[.string s] w fun e w' => e = .returned (.bool (wdF (bl s))) ∧ w = w' := by
  have HRA := Lib.hid (wdArrR ht)
  clear ht
  have HF := Lib.hid bl_wdT
  generalize wdT = f at *
  go_enter Tryz.func138, Tryz.ntmps138
  go_wp2_with (refine wp_wdArr rfl rfl HRA.out ?_)
  have HA := Lib.hid (wdArr f)
  generalize (wdArrV f).toArray = arr at *
  go_wp2_with fail
  go_loopw [6] (fun s6 wr => ∃ i : Nat, i ≤ 15 ∧ s6 = .int .i64 i ∧ Hid (∀ j, j < i → bl s ≠ bl (f j)) ∧ Hid (w = wr)) (fun s6 _ => 15 - (intOf s6).toNat)
  case atStart => exact ⟨0, by decide, rfl, Lib.hid (fun j h => absurd h (by omega)), Lib.hid rfl⟩
  case round =>
    obtain ⟨i, hi, rfl, HJ, HW⟩ := hrel
    by_cases hlt : i < 15
    · have ha := idxWords arr i _ (HA.out i hlt) hlt
      have HL := Lib.hid hlt
      have hi' : (i : Int) < 15 := by omega
      by_cases hc : bl s = bl (f i)
      · have t1 : (s.toList == (f i).toList) = true := by rw [beq_txt]; exact decide_eq_true hc
        have HR : Hid (wdF (bl s) = true) := Lib.hid (wdF_yes hlt (by rw [hc]; exact HF.out i))
        clear hc hlt HJ
        go_wp2
        go_ret
        exact ⟨by rw [HR.out]; rfl, HW.out⟩
      · have t1 : (s.toList == (f i).toList) = false := by rw [beq_txt]; exact decide_eq_false hc
        have HN : Hid (∀ j, j < i + 1 → bl s ≠ bl (f j)) := Lib.hid (fun j hj => by
          by_cases h : j = i
          · rw [h]; exact hc
          · exact HJ.out j (by omega))
        clear hc hlt HJ
        go_wp2
        go_roundw
        case rel => exact ⟨i + 1, by have := HL.out; omega, by go_num, HN, HW⟩
        case measure => have := HL.out; simp [intOf]; omega
    · have hi' : ¬ (i : Int) < 15 := by omega
      have HR : Hid (wdF (bl s) = false) := Lib.hid (wdF_no (fun j hj => by rw [← HF.out j]; exact HJ.out j (by omega)))
      clear hlt HJ
      go_wp2
      go_ret
      exact ⟨by rw [HR.out]; rfl, HW.out⟩
end Go.Proofs.YtpgiljibicigeaaGreatDoor

/- lex: signOf walked. -/
namespace Go.Proofs.YtpgiljibicigeaaGreatDoor
open Go.RowKit UM QM LX

theorem pfx_step {T s : ByteArray} {j : Nat} (h1 : j < T.size) (h2 : j < s.size) (h : s[j].toNat = T[j].toNat) : pfx ((bl T).drop (j + 1)) ((bl s).drop (j + 1)) = pfx ((bl T).drop j) ((bl s).drop j) := by
  rw [bl_drop T j h1, bl_drop s j h2]
  simp only [pfx]
  rw [beq_iff_eq.2 h, Bool.true_and]
theorem pfx_bad {T s : ByteArray} {j : Nat} (h1 : j < T.size) (h2 : j < s.size) (h : s[j].toNat ≠ T[j].toNat) : pfx ((bl T).drop j) ((bl s).drop j) = false := by
  rw [bl_drop T j h1, bl_drop s j h2]
  simp only [pfx]
  rw [beq_eq_false_iff_ne.2 h, Bool.false_and]
theorem pfx_short {T s : ByteArray} {j : Nat} (h1 : j < T.size) (h2 : s.size ≤ j) : pfx ((bl T).drop j) ((bl s).drop j) = false := by
  rw [bl_drop T j h1, bdrop_end h2]; rfl
theorem pfx_end {T s : ByteArray} {j : Nat} (h1 : T.size ≤ j) : pfx ((bl T).drop j) ((bl s).drop j) = true := by
  rw [bdrop_end h1]; rfl
theorem sgn_step {l : List Nat} {i : Nat} (hi : i < 33) (h : pfx ((sgL[i]?).getD []) l = false) : fsF (sgL.drop (i + 1)) l = fsF (sgL.drop i) l := by
  have h33 : i < sgL.length := hi
  rw [List.drop_eq_getElem_cons h33]
  rw [List.getElem?_eq_getElem h33] at h
  simp only [Option.getD_some] at h
  simp only [fsF]
  rw [if_neg (by rw [h]; simp)]
theorem sgn_hit {l : List Nat} {i : Nat} (hi : i < 33) (h : pfx ((sgL[i]?).getD []) l = true) : fsF (sgL.drop i) l = (sgL[i]?).getD [] := by
  have h33 : i < sgL.length := hi
  rw [List.drop_eq_getElem_cons h33]
  rw [List.getElem?_eq_getElem h33] at h ⊢
  simp only [Option.getD_some] at h ⊢
  simp only [fsF]
  rw [if_pos h]
def sgArrV (f : Nat → ByteArray) : List Value := (List.range 33).map (fun i => Value.string (f i))
theorem sgArr (f : Nat → ByteArray) : ∀ i, i < 33 → (sgArrV f).toArray[i]? = some (Value.string (f i)) := fun i hi => by
  unfold sgArrV; simp [hi]
theorem sgArrR {w : World} {f : Nat → ByteArray} (h : ∀ i, i < 33 → w.cell? ⟨2, i, none⟩ = some (.string (f i))) : w.rangeAt 2 0 (sgArrV f) := fun j v hv => by
  have hj : j < 33 := by
    rcases Nat.lt_or_ge j 33 with h1 | h1
    · exact h1
    · rw [List.getElem?_eq_none (by unfold sgArrV; simpa using h1)] at hv; cases hv
  have := sgArr f j hj
  rw [List.getElem?_toArray] at this
  rw [this] at hv
  rw [Nat.zero_add, ← Option.some.inj hv]
  exact h j hj
theorem sgArrI : (Tryz.prog.info? 116).map (·.size) = some 33 := by kernel_rfl
theorem wp_sgArr {ops : Array Oper} {rest : List Oper} {op : Oper} {a : Act} {w : World} {Q : Exit → Act → World → Prop} {f : Nat → ByteArray} (hgd : op.guard = none) (ho : op.op = .load 116 (.global 2)) (hR : w.rangeAt 2 0 (sgArrV f))
    (h : wpList Tryz.prog ops Q rest (a.put op.dst (.agg (sgArrV f).toArray)) w) : wpList Tryz.prog ops Q (op :: rest) a w :=
  wpList_load_mid hgd 116 (.global 2) ho 2 0 rfl (sgArrV f) _ hR Tryz.underlying116 rfl (by rw [sgArrI]; unfold sgArrV; simp) h
set_option maxRecDepth 100000 in
set_option maxHeartbeats 4000000 in
theorem signOf_any (s : ByteArray) (w : World) (ht : Sg w) :
    Calls Tryz.prog 77 #[.string s] w fun e w' => e = .returned (.string (tx (sgnR (bl s)))) ∧ ∃ n, w' = w.drewN n := by
  have HRA := Lib.hid (sgArrR ht)
  clear ht
  have HF := Lib.hid bl_sgT
  generalize sgT = f at *
  go_enter Tryz.func77, Tryz.ntmps77
  go_wp2_with fail
  go_step3
  go_wp2_with fail
  go_step3
  go_wp2_with (refine wp_sgArr rfl rfl HRA.out ?_)
  have HA := Lib.hid (sgArr f)
  generalize (sgArrV f).toArray = arr at *
  go_wp2_with fail
  go_loopg [7] 33 (fun g s7 wr => ∃ i : Nat, i + g = 33 ∧ s7 = .int .i64 i ∧ Hid (fsF (sgL.drop i) (bl s) = sgnR (bl s)) ∧ Hid (∃ n, wr = w.drewN n))
  case atStart => exact ⟨0, by decide, rfl, Lib.hid rfl, Lib.hid ⟨0, rfl⟩⟩
  case round =>
    obtain ⟨i, hi, rfl, HJ, HW⟩ := hrel
    by_cases hlt : i < 33
    · have ha := idxSigns arr i _ (HA.out i hlt) hlt
      have HT : Hid (bl (f i) = (sgL[i]?).getD []) := Lib.hid (HF.out i)
      have HL := Lib.hid hlt
      have hi' : (i : Int) < 33 := by omega
      have HG := Lib.hid hi
      clear hlt hi
      go_wp2_with fail
      go_wp2
      clear ha
      generalize f i = T at *
      have hTs : T.size ≤ 100 := by
        have h : ∀ l ∈ sgL, l.length ≤ 100 := by decide
        rw [← bl_len, HT.out, List.getElem?_eq_getElem (show i < sgL.length from HL.out)]
        exact h _ (List.getElem_mem _)
      go_loopg [12] T.size (fun g s12 wx => ∃ j : Nat, j + g = T.size ∧ j ≤ s.size ∧ s12 = .int .i64 j ∧ Hid (pfx ((bl T).drop j) ((bl s).drop j) = pfx (bl T) (bl s)) ∧ Hid (∃ n, wx = w.drewN n))
      case atStart => exact ⟨0, by omega, by omega, rfl, Lib.hid rfl, HW⟩
      case round =>
        obtain ⟨j, hj, hjs2, rfl, HP, HWx⟩ := hrel
        by_cases hjt : j < T.size
        · have hjt' : (j : Int) < (T.size : Int) := by omega
          by_cases hjs : j < s.size
          · have e1 := hjs
            have e2 := hjt
            have t0 : ((j : Int) == (s.size : Int)) = false := by rw [beq_eq_false_iff_ne]; omega
            by_cases hc : s[j].toNat = T[j].toNat
            · have t1 : ((s[j].toNat : Int) != (T[j].toNat : Int)) = false := by rw [bne_eq_false_iff_eq]; omega
              have HN := Lib.hid ((pfx_step hjt hjs hc).trans HP.out)
              clear hc HP hjs
              go_wp2_with fail
              go_quiet (fail)
              go_wp2
              go_roundg (gk - 1)
              case measure => omega
              case rel => exact ⟨j + 1, by omega, by omega, by go_num, HN, Lib.hid (by obtain ⟨n, rfl⟩ := HWx.out; exact ⟨_, World.drewN_drewN _ _ _⟩)⟩
            · have t1 : ((s[j].toNat : Int) != (T[j].toNat : Int)) = true := by rw [bne_iff_ne]; omega
              have HN : Hid (fsF (sgL.drop (i + 1)) (bl s) = sgnR (bl s)) := Lib.hid ((sgn_step HL.out (by rw [← HT.out, ← HP.out]; exact pfx_bad hjt hjs hc)).trans HJ.out)
              clear hc HP hjs
              go_wp2_with fail
              go_quiet (fail)
              go_wp2
              go_roundg (32 - i)
              case measure => have := HG.out; have := HL.out; omega
              case rel => exact ⟨i + 1, by have := HG.out; have := HL.out; omega, by go_num, HN, Lib.hid (by obtain ⟨n, rfl⟩ := HWx.out; exact ⟨_, World.drewN_drewN _ _ _⟩)⟩
          · have e2 := hjt
            have HN : Hid (fsF (sgL.drop (i + 1)) (bl s) = sgnR (bl s)) := Lib.hid ((sgn_step HL.out (by rw [← HT.out, ← HP.out]; exact pfx_short hjt (by omega))).trans HJ.out)
            have t0 : ((j : Int) == (s.size : Int)) = true := by
              have := hjs2
              rw [beq_iff_eq]; omega
            clear HP hjs
            go_wp2_with fail
            go_quiet (fail)
            go_wp2
            go_roundg (32 - i)
            case measure => have := HG.out; have := HL.out; omega
            case rel => exact ⟨i + 1, by have := HG.out; have := HL.out; omega, by go_num, HN, Lib.hid (by obtain ⟨n, rfl⟩ := HWx.out; exact ⟨_, World.drewN_drewN _ _ _⟩)⟩
        · have hjt' : ¬ (j : Int) < (T.size : Int) := by omega
          have HR : Hid (tx (sgnR (bl s)) = T) := Lib.hid (by
            rw [← HJ.out, sgn_hit HL.out (by rw [← HT.out, ← HP.out]; exact pfx_end (by omega)), ← HT.out]
            exact tx_bl T)
          clear HP
          go_wp2
          try rw [Exit.noGoto_ret]
          go_ret
          exact ⟨by rw [HR.out]; rfl, HWx.out⟩
    · have hi' : ¬ (i : Int) < 33 := by omega
      have HR : Hid (tx (sgnR (bl s)) = ⟨#[]⟩) := Lib.hid (by
        rw [← HJ.out, List.drop_of_length_le (show sgL.length ≤ i by have : sgL.length = 33 := rfl; omega)]
        rfl)
      clear hlt HJ
      go_wp2
      try rw [Exit.noGoto_ret]
      go_ret
      exact ⟨by rw [HR.out]; rfl, HW.out⟩
end Go.Proofs.YtpgiljibicigeaaGreatDoor
