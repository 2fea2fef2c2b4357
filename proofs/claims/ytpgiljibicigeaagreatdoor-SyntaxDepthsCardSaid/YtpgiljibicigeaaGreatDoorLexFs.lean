/- lex: blanks, notes, pieces in a row, Name walked. -/
import Derived.Test.YtpgiljibicigeaaGreatDoorLexCs
import Derived.Test.YtpgiljibicigeaaGreatDoorShelf
import Derived.Test.YtpgiljibicigeaaGreatDoorLimbKits
import Derived.Deep.DeepAppendWide
set_option linter.unusedVariables false
set_option linter.unusedSimpArgs false
namespace Go.Proofs.YtpgiljibicigeaaGreatDoor
open Go.RowKit UM QM LX

/-- how many bytes stand ahead of the next line's end -/
def nlR : List Nat → Nat
  | [] => 0
  | c :: t => if c = 10 then 0 else nlR t + 1
theorem nlR_le : ∀ r : List Nat, nlR r ≤ r.length
  | [] => Nat.le_refl _
  | c :: t => by have := nlR_le t; simp only [nlR]; split <;> simp <;> omega
theorem bkR_note : ∀ r : List Nat, bkR true r = nlR r + bkR false (r.drop (nlR r))
  | [] => rfl
  | c :: t => by
    have := bkR_note t
    simp only [bkR, nlR]
    by_cases h : c = 10
    · rw [if_pos h, if_pos h, h]; simp [bkR]
    · rw [if_neg h, if_neg h, this, List.drop_succ_cons]; omega
theorem ib_nl : ∀ l : List UInt8, Lib.indexByte l 10 = if nlR (l.map (·.toNat)) < l.length then ((nlR (l.map (·.toNat)) : Nat) : Int) else -1
  | [] => rfl
  | b :: l => by
    have ih := ib_nl l
    have hb : (b == (10 : UInt8)) = decide (b.toNat = 10) := by
      rw [Bool.eq_iff_iff, beq_iff_eq, decide_eq_true_iff, ← UInt8.toNat_inj]; rfl
    simp only [Lib.indexByte, List.map_cons, nlR, List.length_cons, hb, decide_eq_true_eq]
    by_cases h : b.toNat = 10
    · rw [if_pos h, if_pos h, if_pos (by omega)]; rfl
    · rw [if_neg h, if_neg h, ih]
      by_cases h2 : nlR (l.map (·.toNat)) < l.length
      · have h3 : ((nlR (l.map (·.toNat)) : Nat) : Int) ≠ -1 := by omega
        rw [if_pos h2, if_neg (by rw [beq_iff_eq]; exact h3), if_pos (by omega)]; omega
      · rw [if_neg h2, if_pos (by rfl), if_neg (by omega)]
set_option maxRecDepth 100000 in
set_option maxHeartbeats 2000000 in
theorem noteEnd_any (s : ByteArray) (k : Nat) (w : World) (hs : s.size ≤ 140737488351232) (hk : k ≤ s.size) :
    Calls Tryz.prog 43 #[.string s, .int .i64 (k : Int)] w fun e w' => e = .returned (.int .i64 ((k + nlR ((bl s).drop k) : Nat) : Int)) ∧ w = w' := by
  have h0 := Tryz.strings_IndexByte (s.extract k s.size) 10 w
  have h1 : Lib.indexByte (s.extract k s.size).data.toList (10 : Int).toNat.toUInt8 = if nlR ((bl s).drop k) < s.size - k then ((nlR ((bl s).drop k) : Nat) : Int) else -1 := by
    have := ib_nl (s.extract k s.size).data.toList
    have h2 : (s.extract k s.size).data.toList.map (fun x => x.toNat) = (bl s).drop k := bl_extract s k
    rw [h2] at this
    rw [← extract_size s k, ← bl_len (s.extract k s.size)]
    unfold bl
    rw [List.length_map]
    exact this
  rw [h1] at h0
  have hle := nlR_le ((bl s).drop k)
  rw [List.length_drop, bl_len] at hle
  have HI := Lib.hid h0
  clear h0 h1
  generalize nlR ((bl s).drop k) = n at *
  have hk' : (k : Int) ≤ (s.size : Int) := by omega
  go_enter Tryz.func43, Tryz.ntmps43
  by_cases h : n < s.size - k
  · rw [if_pos h] at HI
    clear h
    go_wp2_with fail
    refine HI.out.mono ?_
    rintro e w1 ⟨rfl, hw⟩
    have HW := Lib.hid hw.symm
    clear hw
    go_wp2
    go_ret
    exact ⟨by go_num, HW.out⟩
  · rw [if_neg h] at HI
    have he : k + n = s.size := by omega
    rw [he]
    clear h he hle
    go_wp2_with fail
    refine HI.out.mono ?_
    rintro e w1 ⟨rfl, hw⟩
    have HW := Lib.hid hw.symm
    clear hw
    go_wp2
    go_ret
    exact ⟨rfl, HW.out⟩
theorem bk_blank {s : ByteArray} {j : Nat} (h : j < s.size) (hc : s[j].toNat = 32 ∨ s[j].toNat = 9 ∨ s[j].toNat = 10 ∨ s[j].toNat = 13) : j + 1 + bkR false ((bl s).drop (j + 1)) = j + bkR false ((bl s).drop j) := by
  rw [bl_drop s j h]; simp only [bkR]; rw [if_pos hc]; omega
theorem bk_note {s : ByteArray} {j : Nat} (h : j < s.size) (hc : s[j].toNat = 35) : j + nlR ((bl s).drop j) + bkR false ((bl s).drop (j + nlR ((bl s).drop j))) = j + bkR false ((bl s).drop j) ∧ 0 < nlR ((bl s).drop j) := by
  have hn : nlR ((bl s).drop j) = nlR ((bl s).drop (j + 1)) + 1 := by
    rw [bl_drop s j h, hc]; simp only [nlR]; rw [if_neg (by decide)]
  have hb : bkR false ((bl s).drop j) = bkR true ((bl s).drop (j + 1)) + 1 := by
    rw [bl_drop s j h, hc]; simp only [bkR]; rw [if_neg (by decide), if_pos trivial]
  rw [hb, bkR_note, List.drop_drop, hn]
  refine ⟨?_, by omega⟩
  rw [show j + (nlR ((bl s).drop (j + 1)) + 1) = j + 1 + nlR ((bl s).drop (j + 1)) by omega]; omega
theorem bk_no {s : ByteArray} {j : Nat} (h : j < s.size) (hc : ¬ (s[j].toNat = 32 ∨ s[j].toNat = 9 ∨ s[j].toNat = 10 ∨ s[j].toNat = 13)) (h2 : s[j].toNat ≠ 35) : j + bkR false ((bl s).drop j) = j := by
  rw [bl_drop s j h]; simp only [bkR]; rw [if_neg hc, if_neg h2]; rfl
theorem bk_end {s : ByteArray} {j : Nat} (h : s.size ≤ j) : j + bkR false ((bl s).drop j) = j := by
  rw [bdrop_end h]; rfl
set_option maxRecDepth 100000 in
set_option maxHeartbeats 4000000 in
theorem blanksEnd_any (s : ByteArray) (k : Nat) (w : World) (hs : s.size ≤ 140737488351232) (hk : k ≤ s.size) :
    Calls Tryz.prog 33 #[.string s, .int .i64 (k : Int)] w fun e w' => e = .returned (.int .i64 ((k + bkR false ((bl s).drop k) : Nat) : Int)) ∧ w = w' := by
  go_enter Tryz.func33, Tryz.ntmps33
  go_wp2_with fail
  go_step3
  go_wp2_with fail
  go_step3
  go_wp2_with fail
  go_loopw [1] (fun s1 wr => ∃ j : Nat, j ≤ s.size ∧ s1 = .int .i64 j ∧ Hid (j + bkR false ((bl s).drop j) = k + bkR false ((bl s).drop k)) ∧ Hid (w = wr)) (fun s1 _ => s.size - (intOf s1).toNat)
  case atStart => exact ⟨k, hk, rfl, Lib.hid rfl, Lib.hid rfl⟩
  case round =>
    obtain ⟨j, hj, rfl, HJ, HW⟩ := hrel
    by_cases hlt : j < s.size
    · have e1 := hlt
      by_cases hc : s[j].toNat = 32 ∨ s[j].toNat = 9 ∨ s[j].toNat = 10 ∨ s[j].toNat = 13
      · have HN := Lib.hid ((bk_blank hlt hc).trans HJ.out)
        have t0 : ((s[j].toNat : Int) == 32) = true ∨ (((s[j].toNat : Int) == 32) = false ∧ ((s[j].toNat : Int) == 9) = true) ∨ (((s[j].toNat : Int) == 32) = false ∧ ((s[j].toNat : Int) == 9) = false ∧ ((s[j].toNat : Int) == 10) = true) ∨ (((s[j].toNat : Int) == 32) = false ∧ ((s[j].toNat : Int) == 9) = false ∧ ((s[j].toNat : Int) == 10) = false ∧ ((s[j].toNat : Int) == 13) = true) := by
          simp only [beq_iff_eq, beq_eq_false_iff_ne]; omega
        clear hc HJ hlt
        rcases t0 with t1 | ⟨t1, t2⟩ | ⟨t1, t2, t3⟩ | ⟨t1, t2, t3, t4⟩
        all_goals
          go_wp2
          go_roundw
          case rel => exact ⟨j + 1, by omega, by go_num, HN, HW⟩
          case measure => simp [intOf]; omega
      · have t1 : ((s[j].toNat : Int) == 32) = false := by rw [beq_eq_false_iff_ne]; omega
        have t2 : ((s[j].toNat : Int) == 9) = false := by rw [beq_eq_false_iff_ne]; omega
        have t3 : ((s[j].toNat : Int) == 10) = false := by rw [beq_eq_false_iff_ne]; omega
        have t4 : ((s[j].toNat : Int) == 13) = false := by rw [beq_eq_false_iff_ne]; omega
        by_cases hd : s[j].toNat = 35
        · have hn := bk_note hlt hd
          have HN := Lib.hid (hn.1.trans HJ.out)
          have h0 := hn.2
          have t5 : ((s[j].toNat : Int) == 35) = true := by rw [beq_iff_eq]; omega
          have HE := Lib.hid (noteEnd_any s j wr hs hj)
          have hle := nlR_le ((bl s).drop j)
          rw [List.length_drop, bl_len] at hle
          clear hc hd HJ hlt hn
          generalize nlR ((bl s).drop j) = n at *
          go_wp2_with fail
          refine HE.out.mono ?_
          rintro e w1 ⟨rfl, rfl⟩
          go_wp2
          go_roundw
          case rel => exact ⟨j + n, by omega, by go_num, HN, HW⟩
          case measure => simp [intOf]; omega
        · have HN := Lib.hid ((bk_no hlt hc hd).symm.trans HJ.out)
          have t5 : ((s[j].toNat : Int) == 35) = false := by rw [beq_eq_false_iff_ne]; omega
          clear hc hd HJ hlt
          go_wp2
          try rw [Exit.noGoto_ret]
          go_ret
          exact ⟨by rw [← HN.out]; rfl, HW.out⟩
    · have HN := Lib.hid ((bk_end (s := s) (j := j) (by omega)).symm.trans HJ.out)
      clear HJ
      go_wp2
      try rw [Exit.noGoto_ret]
      go_ret
      exact ⟨by rw [← HN.out]; rfl, HW.out⟩
theorem hp_two (s : ByteArray) (a b : UInt8) : Lib.hasPrefix s.data.toList [a, b] = decide ((bl s).head? = some a.toNat ∧ ((bl s).drop 1).head? = some b.toNat) := by
  unfold bl Lib.hasPrefix
  rw [← List.map_drop]
  generalize s.data.toList = l
  match l with
  | [] => simp
  | [x] => simp [List.isPrefixOf]
  | x :: y :: t =>
    simp only [List.isPrefixOf, List.map_cons, List.head?_cons, List.drop_succ_cons, List.drop_zero, Option.some.injEq, Bool.and_true]
    rw [Bool.eq_iff_iff, Bool.and_eq_true, beq_iff_eq, beq_iff_eq, decide_eq_true_iff, ← UInt8.toNat_inj, ← UInt8.toNat_inj]
    constructor
    · rintro ⟨h1, h2⟩; exact ⟨h1.symm, h2.symm⟩
    · rintro ⟨h1, h2⟩; exact ⟨h1.symm, h2.symm⟩
/-- does a backslash and this byte stand at a place? -/
def hpB (s : ByteArray) (j c : Nat) : Bool := decide (((bl s).drop j).head? = some 92 ∧ ((bl s).drop (j + 1)).head? = some c)
theorem hasPrefix_any (s : ByteArray) (j : Nat) (c : UInt8) (w : World) : Calls Tryz.prog 47 #[.string (s.extract j s.size), .string ⟨#[92, c]⟩] w fun e w' => e = .returned (.bool (hpB s j c.toNat)) ∧ w = w' := by
  have h := Tryz.strings_HasPrefix (s.extract j s.size) ⟨#[92, c]⟩ w
  have e : Lib.hasPrefix (s.extract j s.size).data.toList (⟨#[92, c]⟩ : ByteArray).data.toList = hpB s j c.toNat := by
    have := hp_two (s.extract j s.size) 92 c
    rw [bl_extract, List.drop_drop] at this
    exact this
  rw [e] at h
  exact h.mono (fun _ _ ⟨h1, h2⟩ => ⟨h1, h2.symm⟩)
theorem hpB_at {s : ByteArray} {j c : Nat} (h : j < s.size) (hc : s[j].toNat = 92) : hpB s j c = decide (((bl s).drop (j + 1)).head? = some c) := by
  unfold hpB
  rw [bl_drop s j h, hc]; simp
theorem hpB_no {s : ByteArray} {j c : Nat} (h : j < s.size) (hc : s[j].toNat ≠ 92) : hpB s j c = false := by
  unfold hpB
  rw [bl_drop s j h]; simp [hc]
theorem ec_stop {s : ByteArray} {j f : Nat} (h : s.size ≤ j) : j + ecR f ((bl s).drop j) = j := by
  rw [bdrop_end h]; cases f <;> rfl
theorem ec_no {s : ByteArray} {j f : Nat} (h : j < s.size) (hc : s[j].toNat ≠ 92) : j + ecR f ((bl s).drop j) = j := by
  rw [bl_drop s j h]
  cases f with
  | zero => rfl
  | succ f => simp only [ecR]; rw [if_neg hc]; rfl
theorem ec_in {s : ByteArray} {j f : Nat} (h : j < s.size) (hc : s[j].toNat = 92) (h2 : ((bl s).drop (j + 1)).head? = some 40) : j + ecR f ((bl s).drop j) = j := by
  rw [bl_drop s j h]
  cases f with
  | zero => rfl
  | succ f => simp only [ecR]; rw [if_pos hc, if_pos h2]; rfl
theorem ec_go {s : ByteArray} {j f d : Nat} (h : j < s.size) (hc : s[j].toNat = 92) (h2 : ((bl s).drop (j + 1)).head? ≠ some 40) (hd : d = if ((bl s).drop (j + 1)).head? = some 117 then 6 else 2) (hf : ((bl s).drop j).length ≤ f) :
    ∃ f', ((bl s).drop (j + d)).length ≤ f' ∧ j + d + ecR f' ((bl s).drop (j + d)) = j + ecR f ((bl s).drop j) := by
  rw [bl_drop s j h] at hf ⊢
  cases f with
  | zero => simp at hf
  | succ f =>
    refine ⟨f, ?_, ?_⟩
    · simp only [List.length_cons, List.length_drop] at hf ⊢
      have : 2 ≤ d := by rw [hd]; split <;> omega
      omega
    · simp only [ecR]
      rw [if_pos hc, if_neg h2]
      by_cases h3 : ((bl s).drop (j + 1)).head? = some 117
      · rw [if_pos h3] at hd ⊢
        rw [hd, List.drop_drop]; show j + 6 + ecR f ((bl s).drop (j + 6)) = _
        rw [show j + 1 + 5 = j + 6 by omega]; omega
      · rw [if_neg h3] at hd ⊢
        rw [hd, List.drop_drop]; show j + 2 + ecR f ((bl s).drop (j + 2)) = _
        rw [show j + 1 + 1 = j + 2 by omega]; omega
set_option maxRecDepth 100000 in
set_option maxHeartbeats 4000000 in
theorem escapedEnd_any (s : ByteArray) (k : Nat) (w : World) (hs : s.size ≤ 140737488351232) (hk : k ≤ s.size) :
    Calls Tryz.prog 70 #[.string s, .int .i64 (k : Int)] w fun e w' => e = .returned (.int .i64 ((min (k + ecR ((bl s).drop k).length ((bl s).drop k)) s.size : Nat) : Int)) ∧ w = w' := by
  have HE : Hid (k + ecR ((bl s).drop k).length ((bl s).drop k) = k + ecR ((bl s).drop k).length ((bl s).drop k)) := Lib.hid rfl
  revert HE
  generalize h : k + ecR ((bl s).drop k).length ((bl s).drop k) = E
  have HE : Hid (k + ecR ((bl s).drop k).length ((bl s).drop k) = E) := Lib.hid h
  clear h
  intro _
  go_enter Tryz.func70, Tryz.ntmps70
  go_wp2_with fail
  go_loopw [1] (fun s1 wr => ∃ j f : Nat, j ≤ s.size + 6 ∧ s1 = .int .i64 j ∧ Hid (((bl s).drop j).length ≤ f) ∧ Hid (j + ecR f ((bl s).drop j) = E) ∧ Hid (w = wr)) (fun s1 _ => s.size - (intOf s1).toNat)
  case atStart => exact ⟨k, _, by omega, rfl, Lib.hid (Nat.le_refl _), HE, Lib.hid rfl⟩
  case round =>
    obtain ⟨j, f, hj, rfl, HF, HJ, HW⟩ := hrel
    have HP := Lib.hid (fun (c : UInt8) w => hasPrefix_any s j c w)
    by_cases hlt : j < s.size
    · have e1 := hlt
      have hjs : j ≤ s.size := by omega
      have hjs' : (j : Int) ≤ (s.size : Int) := by omega
      by_cases hc : s[j].toNat = 92
      · have t1 : ((s[j].toNat : Int) == 92) = true := by rw [beq_iff_eq]; omega
        have HP1 := Lib.hid (HP.out 40)
        have HP2 := Lib.hid (HP.out 117)
        rw [show (40 : UInt8).toNat = 40 by rfl, hpB_at hlt hc] at HP1
        rw [show (117 : UInt8).toNat = 117 by rfl, hpB_at hlt hc] at HP2
        by_cases h40 : ((bl s).drop (j + 1)).head? = some 40
        · rw [decide_eq_true h40] at HP1
          have HN := Lib.hid ((ec_in (f := f) hlt hc h40).symm.trans HJ.out)
          clear h40 HJ HP HP2 hc hlt HF
          go_wp2_with fail
          refine (HP1.out _).mono ?_
          rintro e w1 ⟨rfl, rfl⟩
          go_wp2
          go_ret
          exact ⟨congrArg (fun z : Int => Ending.returned (Value.int .i64 z)) (show min (j : Int) (s.size : Int) = ((min E s.size : Nat) : Int) by have := HN.out; omega), HW.out⟩
        · rw [decide_eq_false h40] at HP1
          by_cases h117 : ((bl s).drop (j + 1)).head? = some 117
          · rw [decide_eq_true h117] at HP2
            obtain ⟨f', hf, he⟩ := ec_go hlt hc h40 (if_pos h117).symm HF.out
            have HF' := Lib.hid hf; have HN := Lib.hid (he.trans HJ.out)
            clear h40 h117 HJ HP hc hlt HF hf he
            go_wp2_with fail
            refine (HP1.out _).mono ?_
            rintro e w1 ⟨rfl, rfl⟩
            go_wp2_with fail
            refine (HP2.out _).mono ?_
            rintro e w1 ⟨rfl, rfl⟩
            go_wp2
            go_roundw
            case rel => exact ⟨j + 6, f', by omega, by go_num, HF', HN, HW⟩
            case measure => simp [intOf]; omega
          · rw [decide_eq_false h117] at HP2
            obtain ⟨f', hf, he⟩ := ec_go hlt hc h40 (if_neg h117).symm HF.out
            have HF' := Lib.hid hf; have HN := Lib.hid (he.trans HJ.out)
            clear h40 h117 HJ HP hc hlt HF hf he
            go_wp2_with fail
            refine (HP1.out _).mono ?_
            rintro e w1 ⟨rfl, rfl⟩
            go_wp2_with fail
            refine (HP2.out _).mono ?_
            rintro e w1 ⟨rfl, rfl⟩
            go_wp2
            go_roundw
            case rel => exact ⟨j + 2, f', by omega, by go_num, HF', HN, HW⟩
            case measure => simp [intOf]; omega
      · have t1 : ((s[j].toNat : Int) == 92) = false := by rw [beq_eq_false_iff_ne]; omega
        have HN := Lib.hid ((ec_no (f := f) hlt hc).symm.trans HJ.out)
        clear HJ HP hc hlt HF
        go_wp2
        go_ret
        exact ⟨congrArg (fun z : Int => Ending.returned (Value.int .i64 z)) (show min (j : Int) (s.size : Int) = ((min E s.size : Nat) : Int) by have := HN.out; omega), HW.out⟩
    · have HN := Lib.hid ((ec_stop (f := f) (s := s) (j := j) (by omega)).symm.trans HJ.out)
      have hjs : ¬ (j : Int) < (s.size : Int) := by omega
      have hjs2 : s.size ≤ j := by omega
      clear HJ HP HF hlt
      go_wp2
      go_ret
      exact ⟨congrArg (fun z : Int => Ending.returned (Value.int .i64 z)) (show min (j : Int) (s.size : Int) = ((min E s.size : Nat) : Int) by have := HN.out; omega), HW.out⟩
end Go.Proofs.YtpgiljibicigeaaGreatDoor

/- Rows of the call's own, of whatever elements: appended to one by one; what other blocks hold stays. Nothing of the program. -/
namespace Go.Proofs.YtpgiljibicigeaaGreatDoor
open Go.RowKit

theorem addP (b o j : Nat) : (⟨b, o, none⟩ : Addr).add j = ⟨b, o + j, none⟩ := by unfold Addr.add; split <;> simp_all
/-- the slice owns the cells xs: n elements of 'size' cells each -/
def OwnV (w : World) (B : Nat) (e : TypeId) (size : Nat) (a : Option Addr) (n cap : Nat) (xs : List Value) : Prop := w.ownsRow B e size (.slice a n cap) n xs
/-- whatever block is not a's is as it was -/
def Oth (w w' : World) (a : Option Addr) : Prop := w.heap.size ≤ w'.heap.size ∧ ∀ k, k < w.heap.size → a ≠ some ⟨k, 0, none⟩ → w'.heap[k]? = w.heap[k]?
theorem OwnV.nil (w : World) (B : Nat) (e : TypeId) (size : Nat) : OwnV w B e size none 0 0 [] := World.ownsRow_nil w B e size
theorem OwnV.below {w w' : World} {B : Nat} {e : TypeId} {size : Nat} {a : Option Addr} {n cap : Nat} {xs : List Value} (h : OwnV w B e size a n cap xs) (hb : Below w.heap.size w w') : OwnV w' B e size a n cap xs := by
  refine ⟨h.1, ?_⟩
  rcases h.2 with h' | ⟨g, cap', cur, h', hB, hg, hr⟩
  · exact .inl h'
  · exact .inr ⟨g, cap', cur, h', hB, by rw [hb.block g (Array.getElem?_eq_some_iff.1 hg).1]; exact hg, hr⟩
theorem OwnV.oth {w w' : World} {B : Nat} {e : TypeId} {size : Nat} {a b : Option Addr} {n cap : Nat} {xs : List Value} (h : OwnV w B e size a n cap xs) (ho : Oth w w' b) (hab : ∀ g, a = some ⟨g, 0, none⟩ → b ≠ some ⟨g, 0, none⟩) : OwnV w' B e size a n cap xs := by
  refine ⟨h.1, ?_⟩
  rcases h.2 with h' | ⟨g, cap', cur, h', hB, hg, hr⟩
  · exact .inl h'
  · have e1 : a = some ⟨g, 0, none⟩ := by simp only [Value.slice.injEq] at h'; exact h'.1
    exact .inr ⟨g, cap', cur, h', hB, by rw [ho.2 g (Array.getElem?_eq_some_iff.1 hg).1 (hab g e1)]; exact hg, hr⟩
theorem OwnV.mono {w : World} {B B' : Nat} {e : TypeId} {size : Nat} {a : Option Addr} {n cap : Nat} {xs : List Value} (h : OwnV w B e size a n cap xs) (hB : B' ≤ B) : OwnV w B' e size a n cap xs := by
  refine ⟨h.1, ?_⟩
  rcases h.2 with h' | ⟨g, cap', cur, h', hBg, hr⟩
  · exact .inl h'
  · exact .inr ⟨g, cap', cur, h', Nat.le_trans hB hBg, hr⟩
theorem OwnV.shape {w : World} {B : Nat} {e : TypeId} {size : Nat} {a : Option Addr} {n cap : Nat} {xs : List Value} (h : OwnV w B e size a n cap xs) :
    (a = none ∧ cap = 0 ∧ n = 0 ∧ xs = []) ∨ ∃ g cur, a = some ⟨g, 0, none⟩ ∧ B ≤ g ∧ w.heap[g]? = some (.cells cur e (0, 0)) ∧ n ≤ cap ∧ cap ≤ maxLen := by
  have h1 := h.1
  rcases h.2 with ⟨h', hn⟩ | ⟨g, cap', cur, h', hb, hg, hnc, hcm, _, _⟩
  · simp only [Value.slice.injEq] at h'
    subst hn
    exact .inl ⟨h'.1, h'.2.2, rfl, List.eq_nil_of_length_eq_zero (by simpa using h1)⟩
  · simp only [Value.slice.injEq] at h'
    exact .inr ⟨g, cur, h'.1, hb, hg, by rw [h'.2.2]; exact hnc, by rw [h'.2.2]; exact hcm⟩
theorem OwnV.cap {w : World} {B : Nat} {e : TypeId} {size : Nat} {a : Option Addr} {n cap : Nat} {xs : List Value} (h : OwnV w B e size a n cap xs) : n ≤ cap ∧ cap ≤ maxLen := by
  rcases h.shape with ⟨_, rfl, rfl, _⟩ | ⟨_, _, _, _, _, h1, h2⟩
  · exact ⟨Nat.le_refl _, by unfold maxLen; omega⟩
  · exact ⟨h1, h2⟩
theorem OwnV.cellAt {w : World} {B : Nat} {e : TypeId} {size : Nat} {g n cap : Nat} {xs : List Value} (h : OwnV w B e size (some ⟨g, 0, none⟩) n cap xs) {j : Nat} {v : Value} (hj : xs[j]? = some v) : w.cell? ⟨g, j, none⟩ = some v := by
  have := World.ownsRow.cells h (g := g) rfl j v hj
  rwa [addP, Nat.zero_add] at this
theorem OwnV.frozen {w : World} {B : Nat} {e : TypeId} {size : Nat} {g n cap : Nat} {xs : List Value} (h : OwnV w B e size (some ⟨g, 0, none⟩) n cap xs) (j : Nat) : w.frozen? ⟨g, j, none⟩ = false := World.ownsRow.frozenAt h j
theorem OwnV.set {w : World} {B : Nat} {e : TypeId} {size : Nat} {g n cap : Nat} {xs : List Value} (h : OwnV w B e size (some ⟨g, 0, none⟩) n cap xs) (j : Nat) (v : Value) : OwnV (w.setCell ⟨g, j, none⟩ v) B e size (some ⟨g, 0, none⟩) n cap (xs.set j v) := (World.ownsRow.stored h j v).1
theorem cellOfBlock {w w' : World} {k : Nat} (h : w'.heap[k]? = w.heap[k]?) (j : Nat) : w'.cell? ⟨k, j, none⟩ = w.cell? ⟨k, j, none⟩ := by simp [World.cell?, h]

section
variable {P : Program} {ops : Array Oper} {rest : List Oper} {o : Oper} {a : Act} {Q : Exit → Act → World → Prop}
/-- 'append(l, y)', l the call's own row of whatever elements; it may grow. -/
theorem wp_row (w0 : World) (hg : o.guard = none) (s x : Operand) (t : TypeId)
    (hop : o.op = Op.call { callee := Callee.builtin Builtin.append, args := #[s, x], argTypes := #[t, t] })
    (B : Nat) (e : TypeId) (z : Value) (size bytes : Nat) (hu : P.underlying t = some (.slice e)) (hinfo : (P.info? e).map (fun i => (i.zero, i.size, i.bytes)) = some (some z, size, bytes)) (hzs : z.cells.size = size) (hsz : 0 < size)
    (ao : Option Addr) (cap n : Nat) (xs : List Value) (hs : a.eval s = .slice ao n cap) (arr : Array Value) (harr : arr.size = size) (h1 : ∀ u ∈ arr.toList, u.oneCell' = true) (e' : TypeId)
    (hx : a.eval x = .slice (some ⟨w0.heap.size, 0, none⟩) 1 1)
    (hown : OwnV w0 B e size ao n cap xs) (hbytes : ((n + 1) + (n + 1) / 4 + 192) * bytes ≤ 281474976710656) (hlen : n + 1 ≤ maxLen) (hB : B ≤ w0.heap.size)
    (hK : ∀ ao' cap' w', OwnV w' B e size ao' (n + 1) cap' (xs ++ arr.toList) → Below B w0 w' → Oth w0 w' ao → wpList P ops Q rest (a.put o.dst (.slice ao' (n + 1) cap')) w') :
    wpList P ops Q (o :: rest) a (w0.alloc (.cells arr e')) := by
  obtain ⟨i, hi, hz0, hz1, hz2⟩ := info_parts hinfo
  have hown' : (w0.alloc (.cells arr e')).ownsRow B e size (.slice ao n cap) n xs := World.ownsRow.alloc hown _
  refine wpList_append_own_wide _ hg s x t hop B e i z size bytes hu hi hz0 hz1 hz2 hzs hsz _ _ _ hs hown' ⟨w0.heap.size, 0, none⟩ 1 1 arr.toList hx (by simpa using harr) ?_ h1 hlen hbytes (by simp; omega) ?_
  · intro j u hj
    rw [addP, Nat.zero_add]
    simpa using hj
  · intro v' w' ho hgr hnil
    have hb : Below B w0 w' := ((Below.refl B w0).alloc hB _).grown hgr (by simp; omega) (fun j hj => (hown'.lt j hj).1)
    have hsh : ∃ ao' cap', v' = .slice ao' (n + 1) cap' := by
      rcases ho.2 with ⟨h1, h2⟩ | ⟨g, cap', cur, h1, _⟩
      · omega
      · exact ⟨_, _, h1⟩
    obtain ⟨ao', cap', rfl⟩ := hsh
    refine hK ao' cap' w' ho hb ⟨?_, fun k hk ha => ?_⟩
    · have := hgr.size
      simp at this; omega
    · have := hgr.block k (by simp; omega) (fun hk2 => ha (by
        rcases OwnV.shape hown with ⟨h1, _⟩ | ⟨g, cur, h1, _⟩
        · rw [h1] at hk2; simp [Value.ownBlock] at hk2
        · rw [h1] at hk2 ⊢
          simp [Value.ownBlock] at hk2
          rw [hk2]))
      rw [this]
      exact heap_alloc_old w0 _ hk
/-- the same as one step of a region that draws -/
theorem step_row {E : Prop} {K : Act → World → Prop} (wx : World) (hg : o.guard = none) (s x : Operand) (t : TypeId)
    (hop : o.op = Op.call { callee := Callee.builtin Builtin.append, args := #[s, x], argTypes := #[t, t] })
    (B : Nat) (e : TypeId) (z : Value) (size bytes : Nat) (hu : P.underlying t = some (.slice e)) (hinfo : (P.info? e).map (fun i => (i.zero, i.size, i.bytes)) = some (some z, size, bytes)) (hzs : z.cells.size = size) (hsz : 0 < size)
    (ao : Option Addr) (cap n : Nat) (xs : List Value) (hs : a.eval s = .slice ao n cap) (news : List Value) (hnl : news.length = size) (h1 : ∀ u ∈ news, u.oneCell' = true) (gx c : Nat)
    (hx : a.eval x = .slice (some ⟨gx, 0, none⟩) 1 c) (hcell : ∀ j u, news[j]? = some u → wx.cell? ⟨gx, j, none⟩ = some u)
    (hown : OwnV wx B e size ao n cap xs) (hbytes : ((n + 1) + (n + 1) / 4 + 192) * bytes ≤ 281474976710656) (hlen : n + 1 ≤ maxLen) (hB : B ≤ wx.heap.size)
    (hK : ∀ ao' cap' w', OwnV w' B e size ao' (n + 1) cap' (xs ++ news) → Below B wx w' → Oth wx w' ao → K (a.put o.dst (.slice ao' (n + 1) cap')) w') :
    if Region.wanted o (yielded ops a.tmps) = true then Oper.wp P o a wx K Q else E := by
  have hw : Region.wanted o (yielded ops a.tmps) = true := by simp [Region.wanted, hg]
  rw [if_pos hw]
  obtain ⟨i, hi, hz0, hz1, hz2⟩ := info_parts hinfo
  have hown' : wx.ownsRow B e size (.slice ao n cap) n xs := hown
  refine wp_append_own_wide _ s x t hop B e i z size bytes hu hi hz0 hz1 hz2 hzs hsz _ _ _ hs hown' ⟨gx, 0, none⟩ 1 c news hx (by simpa using hnl) ?_ h1 hlen hbytes hB ?_
  · intro j u hj
    rw [addP, Nat.zero_add]
    exact hcell j u hj
  · intro v' w' ho hgr hnil
    have hb : Below B wx w' := (Below.refl B wx).grown hgr hB (fun j hj => (hown'.lt j hj).1)
    have hsh : ∃ ao' cap', v' = .slice ao' (n + 1) cap' := by
      rcases ho.2 with ⟨h1, h2⟩ | ⟨g, cap', cur, h1, _⟩
      · omega
      · exact ⟨_, _, h1⟩
    obtain ⟨ao', cap', rfl⟩ := hsh
    refine hK ao' cap' w' ho hb ⟨hgr.size, fun k hk ha => ?_⟩
    exact hgr.block k hk (fun hk2 => ha (by
        rcases OwnV.shape hown with ⟨h1, _⟩ | ⟨g, cur, h1, _⟩
        · rw [h1] at hk2; simp [Value.ownBlock] at hk2
        · rw [h1] at hk2 ⊢
          simp [Value.ownBlock] at hk2
          rw [hk2]))
end
end Go.Proofs.YtpgiljibicigeaaGreatDoor
