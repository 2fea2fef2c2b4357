/- lex: signOf walked. -/
import Derived.Test.YtpgiljibicigeaaGreatDoorLexAs
import Derived.Test.YtpgiljibicigeaaGreatDoorShelf
set_option linter.unusedVariables false
set_option linter.unusedSimpArgs false
namespace Go.Proofs.YtpgiljibicigeaaGreatDoor
open Go.RowKit UM QM LX

theorem pfx_step {T s : ByteArray} {j : Nat} (h1 : j < T.size) (h2 : j < s.size) (h : s[j].toNat = T[j].toNat) : pfx ((bl T).drop (j + 1)) ((bl s).drop (j + 1)) = pfx ((bl T).drop j) ((bl s).drop j) := by
  rw [bl_drop T j h1, bl_drop s j h2]
  simp only [pfx]
  rw [beq_iff_eq.2 h, Bool.true_and]
theorem pfx_bad {T s : ByteArray} {j : Nat} (h1 : j < T.size) (h2 : j < s.size) (h : s[j].toNat ≠ T[j].toNat) : pfx ((bl T).drop j) ((bl s).drop j) = false := by
  rw [bl_drop T j h1, bl_drop s j h2]
  simp only [pfx]
  rw [beq_eq_false_iff_ne.2 h, Bool.false_and]
theorem pfx_short {T s : ByteArray} {j : Nat} (h1 : j < T.size) (h2 : s.size ≤ j) : pfx ((bl T).drop j) ((bl s).drop j) = false := by
  rw [bl_drop T j h1, bdrop_end h2]; rfl
theorem pfx_end {T s : ByteArray} {j : Nat} (h1 : T.size ≤ j) : pfx ((bl T).drop j) ((bl s).drop j) = true := by
  rw [bdrop_end h1]; rfl
theorem sgn_step {l : List Nat} {i : Nat} (hi : i < 33) (h : pfx ((sgL[i]?).getD []) l = false) : fsF (sgL.drop (i + 1)) l = fsF (sgL.drop i) l := by
  have h33 : i < sgL.length := hi
  rw [List.drop_eq_getElem_cons h33]
  rw [List.getElem?_eq_getElem h33] at h
  simp only [Option.getD_some] at h
  simp only [fsF]
  rw [if_neg (by rw [h]; simp)]
theorem sgn_hit {l : List Nat} {i : Nat} (hi : i < 33) (h : pfx ((sgL[i]?).getD []) l = true) : fsF (sgL.drop i) l = (sgL[i]?).getD [] := by
  have h33 : i < sgL.length := hi
  rw [List.drop_eq_getElem_cons h33]
  rw [List.getElem?_eq_getElem h33] at h ⊢
  simp only [Option.getD_some] at h ⊢
  simp only [fsF]
  rw [if_pos h]
def sgArrV (f : Nat → ByteArray) : List Value := (List.range 33).map (fun i => Value.string (f i))
theorem sgArr (f : Nat → ByteArray) : ∀ i, i < 33 → (sgArrV f).toArray[i]? = some (Value.string (f i)) := fun i hi => by
  unfold sgArrV; simp [hi]
theorem sgArrR {w : World} {f : Nat → ByteArray} (h : ∀ i, i < 33 → w.cell? ⟨2, i, none⟩ = some (.string (f i))) : w.rangeAt 2 0 (sgArrV f) := fun j v hv => by
  have hj : j < 33 := by
    rcases Nat.lt_or_ge j 33 with h1 | h1
    · exact h1
    · rw [List.getElem?_eq_none (by unfold sgArrV; simpa using h1)] at hv; cases hv
  have := sgArr f j hj
  rw [List.getElem?_toArray] at this
  rw [this] at hv
  rw [Nat.zero_add, ← Option.some.inj hv]
  exact h j hj
theorem sgArrI : (Tryz.prog.info? 116).map (·.size) = some 33 := by kernel_rfl
theorem wp_sgArr {ops : Array Oper} {rest : List Oper} {op : Oper} {a : Act} {w : World} {Q : Exit → Act → World → Prop} {f : Nat → ByteArray} (hgd : op.guard = none) (ho : op.op = .load 116 (.global 2)) (hR : w.rangeAt 2 0 (sgArrV f))
    (h : wpList Tryz.prog ops Q rest (a.put op.dst (.agg (sgArrV f).toArray)) w) : wpList Tryz.prog ops Q (op :: rest) a w :=
  wpList_load_mid hgd 116 (.global 2) ho 2 0 rfl (sgArrV f) _ hR Tryz.underlying116 rfl (by rw [sgArrI]; unfold sgArrV; simp) h
set_option maxRecDepth 100000 in
set_option maxHeartbeats 4000000 in
theorem signOf_any (s : ByteArray) (w : World) (ht : Sg w) :
    Calls Tryz.prog 77 #[.string s] w fun e w' => e = .returned (.string (tx (sgnR (bl s)))) ∧ ∃ n, w' = w.drewN n := by
  have HRA := Lib.hid (sgArrR ht)
  clear ht
  have HF := Lib.hid bl_sgT
  generalize sgT = f at *
  go_enter Tryz.func77, Tryz.ntmps77
  go_wp2_with fail
  go_step3
  go_wp2_with fail
  go_step3
  go_wp2_with (refine wp_sgArr rfl rfl HRA.out ?_)
  have HA := Lib.hid (sgArr f)
  generalize (sgArrV f).toArray = arr at *
  go_wp2_with fail
  go_loopg [7] 33 (fun g s7 wr => ∃ i : Nat, i + g = 33 ∧ s7 = .int .i64 i ∧ Hid (fsF (sgL.drop i) (bl s) = sgnR (bl s)) ∧ Hid (∃ n, wr = w.drewN n))
  case atStart => exact ⟨0, by decide, rfl, Lib.hid rfl, Lib.hid ⟨0, rfl⟩⟩
  case round =>
    obtain ⟨i, hi, rfl, HJ, HW⟩ := hrel
    by_cases hlt : i < 33
    · have ha := idxSigns arr i _ (HA.out i hlt) hlt
      have HT : Hid (bl (f i) = (sgL[i]?).getD []) := Lib.hid (HF.out i)
      have HL := Lib.hid hlt
      have hi' : (i : Int) < 33 := by omega
      have HG := Lib.hid hi
      clear hlt hi
      go_wp2_with fail
      go_wp2
      clear ha
      generalize f i = T at *
      have hTs : T.size ≤ 100 := by
        have h : ∀ l ∈ sgL, l.length ≤ 100 := by decide
        rw [← bl_len, HT.out, List.getElem?_eq_getElem (show i < sgL.length from HL.out)]
        exact h _ (List.getElem_mem _)
      go_loopg [12] T.size (fun g s12 wx => ∃ j : Nat, j + g = T.size ∧ j ≤ s.size ∧ s12 = .int .i64 j ∧ Hid (pfx ((bl T).drop j) ((bl s).drop j) = pfx (bl T) (bl s)) ∧ Hid (∃ n, wx = w.drewN n))
      case atStart => exact ⟨0, by omega, by omega, rfl, Lib.hid rfl, HW⟩
      case round =>
        obtain ⟨j, hj, hjs2, rfl, HP, HWx⟩ := hrel
        by_cases hjt : j < T.size
        · have hjt' : (j : Int) < (T.size : Int) := by omega
          by_cases hjs : j < s.size
          · have e1 := hjs
            have e2 := hjt
            have t0 : ((j : Int) == (s.size : Int)) = false := by rw [beq_eq_false_iff_ne]; omega
            by_cases hc : s[j].toNat = T[j].toNat
            · have t1 : ((s[j].toNat : Int) != (T[j].toNat : Int)) = false := by rw [bne_eq_false_iff_eq]; omega
              have HN := Lib.hid ((pfx_step hjt hjs hc).trans HP.out)
              clear hc HP hjs
              go_wp2_with fail
              go_quiet (fail)
              go_wp2
              go_roundg (gk - 1)
              case measure => omega
              case rel => exact ⟨j + 1, by omega, by omega, by go_num, HN, Lib.hid (by obtain ⟨n, rfl⟩ := HWx.out; exact ⟨_, World.drewN_drewN _ _ _⟩)⟩
            · have t1 : ((s[j].toNat : Int) != (T[j].toNat : Int)) = true := by rw [bne_iff_ne]; omega
              have HN : Hid (fsF (sgL.drop (i + 1)) (bl s) = sgnR (bl s)) := Lib.hid ((sgn_step HL.out (by rw [← HT.out, ← HP.out]; exact pfx_bad hjt hjs hc)).trans HJ.out)
              clear hc HP hjs
              go_wp2_with fail
              go_quiet (fail)
              go_wp2
              go_roundg (32 - i)
              case measure => have := HG.out; have := HL.out; omega
              case rel => exact ⟨i + 1, by have := HG.out; have := HL.out; omega, by go_num, HN, Lib.hid (by obtain ⟨n, rfl⟩ := HWx.out; exact ⟨_, World.drewN_drewN _ _ _⟩)⟩
          · have e2 := hjt
            have HN : Hid (fsF (sgL.drop (i + 1)) (bl s) = sgnR (bl s)) := Lib.hid ((sgn_step HL.out (by rw [← HT.out, ← HP.out]; exact pfx_short hjt (by omega))).trans HJ.out)
            have t0 : ((j : Int) == (s.size : Int)) = true := by
              have := hjs2
              rw [beq_iff_eq]; omega
            clear HP hjs
            go_wp2_with fail
            go_quiet (fail)
            go_wp2
            go_roundg (32 - i)
            case measure => have := HG.out; have := HL.out; omega
            case rel => exact ⟨i + 1, by have := HG.out; have := HL.out; omega, by go_num, HN, Lib.hid (by obtain ⟨n, rfl⟩ := HWx.out; exact ⟨_, World.drewN_drewN _ _ _⟩)⟩
        · have hjt' : ¬ (j : Int) < (T.size : Int) := by omega
          have HR : Hid (tx (sgnR (bl s)) = T) := Lib.hid (by
            rw [← HJ.out, sgn_hit HL.out (by rw [← HT.out, ← HP.out]; exact pfx_end (by omega)), ← HT.out]
            exact tx_bl T)
          clear HP
          go_wp2
          try rw [Exit.noGoto_ret]
          go_ret
          exact ⟨by rw [HR.out]; rfl, HWx.out⟩
    · have hi' : ¬ (i : Int) < 33 := by omega
      have HR : Hid (tx (sgnR (bl s)) = ⟨#[]⟩) := Lib.hid (by
        rw [← HJ.out, List.drop_of_length_le (show sgL.length ≤ i by have : sgL.length = 33 := rfl; omega)]
        rfl)
      clear hlt HJ
      go_wp2
      try rw [Exit.noGoto_ret]
      go_ret
      exact ⟨by rw [HR.out]; rfl, HW.out⟩
end Go.Proofs.YtpgiljibicigeaaGreatDoor

/- lex: blanks, notes, pieces in a row, Name walked. -/
namespace Go.Proofs.YtpgiljibicigeaaGreatDoor
open Go.RowKit UM QM LX

/-- how many bytes stand ahead of the next line's end -/
def nlR : List Nat → Nat
  | [] => 0
  | c :: t => if c = 10 then 0 else nlR t + 1
theorem nlR_le : ∀ r : List Nat, nlR r ≤ r.length
  | [] => Nat.le_refl _
  | c :: t => by have := nlR_le t; simp only [nlR]; split <;> simp <;> omega
theorem bkR_note : ∀ r : List Nat, bkR true r = nlR r + bkR false (r.drop (nlR r))
  | [] => rfl
  | c :: t => by
    have := bkR_note t
    simp only [bkR, nlR]
    by_cases h : c = 10
    · rw [if_pos h, if_pos h, h]; simp [bkR]
    · rw [if_neg h, if_neg h, this, List.drop_succ_cons]; omega
theorem ib_nl : ∀ l : List UInt8, Lib.indexByte l 10 = if nlR (l.map (·.toNat)) < l.length then ((nlR (l.map (·.toNat)) : Nat) : Int) else -1
  | [] => rfl
  | b :: l => by
    have ih := ib_nl l
    have hb : (b == (10 : UInt8)) = decide (b.toNat = 10) := by
      rw [Bool.eq_iff_iff, beq_iff_eq, decide_eq_true_iff, ← UInt8.toNat_inj]; rfl
    simp only [Lib.indexByte, List.map_cons, nlR, List.length_cons, hb, decide_eq_true_eq]
    by_cases h : b.toNat = 10
    · rw [if_pos h, if_pos h, if_pos (by omega)]; rfl
    · rw [if_neg h, if_neg h, ih]
      by_cases h2 : nlR (l.map (·.toNat)) < l.length
      · have h3 : ((nlR (l.map (·.toNat)) : Nat) : Int) ≠ -1 := by omega
        rw [if_pos h2, if_neg (by rw [beq_iff_eq]; exact h3), if_pos (by omega)]; omega
      · rw [if_neg h2, if_pos (by rfl), if_neg (by omega)]
set_option maxRecDepth 100000 in
set_option maxHeartbeats 2000000 in
theorem noteEnd_any (s : ByteArray) (k : Nat) (w : World) (hs : s.size ≤ 140737488351232) (hk : k ≤ s.size) :
    Calls Tryz.prog 43 #[.string s, .int .i64 (k : Int)] w fun e w' => e = .returned (.int .i64 ((k + nlR ((bl s).drop k) : Nat) : Int)) ∧ w = w' := by
  have h0 := Tryz.strings_IndexByte (s.extract k s.size) 10 w
  have h1 : Lib.indexByte (s.extract k s.size).data.toList (10 : Int).toNat.toUInt8 = if nlR ((bl s).drop k) < s.size - k then ((nlR ((bl s).drop k) : Nat) : Int) else -1 := by
    have := ib_nl (s.extract k s.size).data.toList
    have h2 : (s.extract k s.size).data.toList.map (fun x => x.toNat) = (bl s).drop k := bl_extract s k
    rw [h2] at this
    rw [← extract_size s k, ← bl_len (s.extract k s.size)]
    unfold bl
    rw [List.length_map]
    exact this
  rw [h1] at h0
  have hle := nlR_le ((bl s).drop k)
  rw [List.length_drop, bl_len] at hle
  have HI := Lib.hid h0
  clear h0 h1
  generalize nlR ((bl s).drop k) = n at *
  have hk' : (k : Int) ≤ (s.size : Int) := by omega
  go_enter Tryz.func43, Tryz.ntmps43
  by_cases h : n < s.size - k
  · rw [if_pos h] at HI
    clear h
    go_wp2_with fail
    refine HI.out.mono ?_
    rintro e w1 ⟨rfl, hw⟩
    have HW := Lib.hid hw.symm
    clear hw
    go_wp2
    go_ret
    exact ⟨by go_num, HW.out⟩
  · rw [if_neg h] at HI
    have he : k + n = s.size := by omega
    rw [he]
    clear h he hle
    go_wp2_with fail
    refine HI.out.mono ?_
    rintro e w1 ⟨rfl, hw⟩
    have HW := Lib.hid hw.symm
    clear hw
    go_wp2
    go_ret
    exact ⟨rfl, HW.out⟩
theorem bk_blank {s : ByteArray} {j : Nat} (h : j < s.size) (hc : s[j].toNat = 32 ∨ s[j].toNat = 9 ∨ s[j].toNat = 10 ∨ s[j].toNat = 13) : j + 1 + bkR false ((bl s).drop (j + 1)) = j + bkR false ((bl s).drop j) := by
  rw [bl_drop s j h]; simp only [bkR]; rw [if_pos hc]; omega
theorem bk_note {s : ByteArray} {j : Nat} (h : j < s.size) (hc : s[j].toNat = 35) : j + nlR ((bl s).drop j) + bkR false ((bl s).drop (j + nlR ((bl s).drop j))) = j + bkR false ((bl s).drop j) ∧ 0 < nlR ((bl s).drop j) := by
  have hn : nlR ((bl s).drop j) = nlR ((bl s).drop (j + 1)) + 1 := by
    rw [bl_drop s j h, hc]; simp only [nlR]; rw [if_neg (by decide)]
  have hb : bkR false ((bl s).drop j) = bkR true ((bl s).drop (j + 1)) + 1 := by
    rw [bl_drop s j h, hc]; simp only [bkR]; rw [if_neg (by decide), if_pos trivial]
  rw [hb, bkR_note, List.drop_drop, hn]
  refine ⟨?_, by omega⟩
  rw [show j + (nlR ((bl s).drop (j + 1)) + 1) = j + 1 + nlR ((bl s).drop (j + 1)) by omega]; omega
theorem bk_no {s : ByteArray} {j : Nat} (h : j < s.size) (hc : ¬ (s[j].toNat = 32 ∨ s[j].toNat = 9 ∨ s[j].toNat = 10 ∨ s[j].toNat = 13)) (h2 : s[j].toNat ≠ 35) : j + bkR false ((bl s).drop j) = j := by
  rw [bl_drop s j h]; simp only [bkR]; rw [if_neg hc, if_neg h2]; rfl
theorem bk_end {s : ByteArray} {j : Nat} (h : s.size ≤ j) : j + bkR false ((bl s).drop j) = j := by
  rw [bdrop_end h]; rfl
set_option maxRecDepth 100000 in
set_option maxHeartbeats 4000000 in
theorem blanksEnd_any (s : ByteArray) (k : Nat) (w : World) (hs : s.size ≤ 140737488351232) (hk : k ≤ s.size) :
    Calls Tryz.prog 33 #[.string s, .int .i64 (k : Int)] w fun e w' => e = .returned (.int .i64 ((k + bkR false ((bl s).drop k) : Nat) : Int)) ∧ w = w' := by
  go_enter Tryz.func33, Tryz.ntmps33
  go_wp2_with fail
  go_step3
  go_wp2_with fail
  go_step3
  go_wp2_with fail
  go_loopw [1] (fun s1 wr => ∃ j : Nat, j ≤ s.size ∧ s1 = .int .i64 j ∧ Hid (j + bkR false ((bl s).drop j) = k + bkR false ((bl s).drop k)) ∧ Hid (w = wr)) (fun s1 _ => s.size - (intOf s1).toNat)
  case atStart => exact ⟨k, hk, rfl, Lib.hid rfl, Lib.hid rfl⟩
  case round =>
    obtain ⟨j, hj, rfl, HJ, HW⟩ := hrel
    by_cases hlt : j < s.size
    · have e1 := hlt
      by_cases hc : s[j].toNat = 32 ∨ s[j].toNat = 9 ∨ s[j].toNat = 10 ∨ s[j].toNat = 13
      · have HN := Lib.hid ((bk_blank hlt hc).trans HJ.out)
        have t0 : ((s[j].toNat : Int) == 32) = true ∨ (((s[j].toNat : Int) == 32) = false ∧ ((s[j].toNat : Int) == 9) = true) ∨ (((s[j].toNat : Int) == 32) = false ∧ ((s[j].toNat : Int) == 9) = false ∧ ((s[j].toNat : Int) == 10) = true) ∨ (((s[j].toNat : Int) == 32) = false ∧ ((s[j].toNat : Int) == 9) = false ∧ ((s[j].toNat : Int) == 10) = false ∧ ((s[j].toNat : Int) == 13) = true) := by
          simp only [beq_iff_eq, beq_eq_false_iff_ne]; omega
        clear hc HJ hlt
        rcases t0 with t1 | ⟨t1, t2⟩ | ⟨t1, t2, t3⟩ | ⟨t1, t2, t3, t4⟩
        all_goals
          go_wp2
          go_roundw
          case rel => exact ⟨j + 1, by omega, by go_num, HN, HW⟩
          case measure => simp [intOf]; omega
      · have t1 : ((s[j].toNat : Int) == 32) = false := by rw [beq_eq_false_iff_ne]; omega
        have t2 : ((s[j].toNat : Int) == 9) = false := by rw [beq_eq_false_iff_ne]; omega
        have t3 : ((s[j].toNat : Int) == 10) = false := by rw [beq_eq_false_iff_ne]; omega
        have t4 : ((s[j].toNat : Int) == 13) = false := by rw [beq_eq_false_iff_ne]; omega
        by_cases hd : s[j].toNat = 35
        · have hn := bk_note hlt hd
          have HN := Lib.hid (hn.1.trans HJ.out)
          have h0 := hn.2
          have t5 : ((s[j].toNat : Int) == 35) = true := by rw [beq_iff_eq]; omega
          have HE := Lib.hid (noteEnd_any s j wr hs hj)
          have hle := nlR_le ((bl s).drop j)
          rw [List.length_drop, bl_len] at hle
          clear hc hd HJ hlt hn
          generalize nlR ((bl s).drop j) = n at *
          go_wp2_with fail
          refine HE.out.mono ?_
          rintro e w1 ⟨rfl, rfl⟩
          go_wp2
          go_roundw
          case rel => exact ⟨j + n, by omega, by go_num, HN, HW⟩
          case measure => simp [intOf]; omega
        · have HN := Lib.hid ((bk_no hlt hc hd).symm.trans HJ.out)
          have t5 : ((s[j].toNat : Int) == 35) = false := by rw [beq_eq_false_iff_ne]; omega
          clear hc hd HJ hlt
          go_wp2
          try rw [Exit.noGoto_ret]
          go_ret
          exact ⟨by rw [← HN.out]; rfl, HW.out⟩
    · have HN := Lib.hid ((bk_end (s := s) (j := j) (by omega)).symm.trans HJ.out)
      clear HJ
      go_wp2
      try rw [Exit.noGoto_ret]
      go_ret
      exact ⟨by rw [← HN.out]; rfl, HW.out⟩
theorem hp_two (s : ByteArray) (a b : UInt8) : Lib.hasPrefix s.data.toList [a, b] = decide ((bl s).head? = some a.toNat ∧ ((bl s).drop 1).head? = some b.toNat) := by
  unfold bl Lib.hasPrefix
  rw [← List.map_drop]
  generalize s.data.toList = l
  match l with
  | [] => simp
  | [x] => simp [List.isPrefixOf]
  | x :: y :: t =>
    simp only [List.isPrefixOf, List.map_cons, List.head?_cons, List.drop_succ_cons, List.drop_zero, Option.some.injEq, Bool.and_true]
    rw [Bool.eq_iff_iff, Bool.and_eq_true, beq_iff_eq, beq_iff_eq, decide_eq_true_iff, ← UInt8.toNat_inj, ← UInt8.toNat_inj]
    constructor
    · rintro ⟨h1, h2⟩; exact ⟨h1.symm, h2.symm⟩
    · rintro ⟨h1, h2⟩; exact ⟨h1.symm, h2.symm⟩
/-- does a backslash and this byte stand at a place? -/
def hpB (s : ByteArray) (j c : Nat) : Bool := decide (((bl s).drop j).head? = some 92 ∧ ((bl s).drop (j + 1)).head? = some c)
theorem hasPrefix_any (s : ByteArray) (j : Nat) (c : UInt8) (w : World) : Calls Tryz.prog 47 #[.string (s.extract j s.size), .string ⟨#[92, c]⟩] w fun e w' => e = .returned (.bool (hpB s j c.toNat)) ∧ w = w' := by
  have h := Tryz.strings_HasPrefix (s.extract j s.size) ⟨#[92, c]⟩ w
  have e : Lib.hasPrefix (s.extract j s.size).data.toList (⟨#[92, c]⟩ : ByteArray).data.toList = hpB s j c.toNat := by
    have := hp_two (s.extract j s.size) 92 c
    rw [bl_extract, List.drop_drop] at this
    exact this
  rw [e] at h
  exact h.mono (fun _ _ ⟨h1, h2⟩ => ⟨h1, h2.symm⟩)
theorem hpB_at {s : ByteArray} {j c : Nat} (h : j < s.size) (hc : s[j].toNat = 92) : hpB s j c = decide (((bl s).drop (j + 1)).head? = some c) := by
  unfold hpB
  rw [bl_drop s j h, hc]; simp
theorem hpB_no {s : ByteArray} {j c : Nat} (h : j < s.size) (hc : s[j].toNat ≠ 92) : hpB s j c = false := by
  unfold hpB
  rw [bl_drop s j h]; simp [hc]
theorem ec_stop {s : ByteArray} {j f : Nat} (h : s.size ≤ j) : j + ecR f ((bl s).drop j) = j := by
  rw [bdrop_end h]; cases f <;> rfl
theorem ec_no {s : ByteArray} {j f : Nat} (h : j < s.size) (hc : s[j].toNat ≠ 92) : j + ecR f ((bl s).drop j) = j := by
  rw [bl_drop s j h]
  cases f with
  | zero => rfl
  | succ f => simp only [ecR]; rw [if_neg hc]; rfl
theorem ec_in {s : ByteArray} {j f : Nat} (h : j < s.size) (hc : s[j].toNat = 92) (h2 : ((bl s).drop (j + 1)).head? = some 40) : j + ecR f ((bl s).drop j) = j := by
  rw [bl_drop s j h]
  cases f with
  | zero => rfl
  | succ f => simp only [ecR]; rw [if_pos hc, if_pos h2]; rfl
theorem ec_go {s : ByteArray} {j f d : Nat} (h : j < s.size) (hc : s[j].toNat = 92) (h2 : ((bl s).drop (j + 1)).head? ≠ some 40) (hd : d = if ((bl s).drop (j + 1)).head? = some 117 then 6 else 2) (hf : ((bl s).drop j).length ≤ f) :
    ∃ f', ((bl s).drop (j + d)).length ≤ f' ∧ j + d + ecR f' ((bl s).drop (j + d)) = j + ecR f ((bl s).drop j) := by
  rw [bl_drop s j h] at hf ⊢
  cases f with
  | zero => simp at hf
  | succ f =>
    refine ⟨f, ?_, ?_⟩
    · simp only [List.length_cons, List.length_drop] at hf ⊢
      have : 2 ≤ d := by rw [hd]; split <;> omega
      omega
    · simp only [ecR]
      rw [if_pos hc, if_neg h2]
      by_cases h3 : ((bl s).drop (j + 1)).head? = some 117
      · rw [if_pos h3] at hd ⊢
        rw [hd, List.drop_drop]; show j + 6 + ecR f ((bl s).drop (j + 6)) = _
        rw [show j + 1 + 5 = j + 6 by omega]; omega
      · rw [if_neg h3] at hd ⊢
        rw [hd, List.drop_drop]; show j + 2 + ecR f ((bl s).drop (j + 2)) = _
        rw [show j + 1 + 1 = j + 2 by omega]; omega
set_option maxRecDepth 100000 in
set_option maxHeartbeats 4000000 in
theorem escapedEnd_any (s : ByteArray) (k : Nat) (w : World) (hs : s.size ≤ 140737488351232) (hk : k ≤ s.size) :
    Calls Tryz.prog 70 #[.string s, .int .i64 (k : Int)] w fun e w' => e = .returned (.int .i64 ((min (k + ecR ((bl s).drop k).length ((bl s).drop k)) s.size : Nat) : Int)) ∧ w = w' := by
  have HE : Hid (k + ecR ((bl s).drop k).length ((bl s).drop k) = k + ecR ((bl s).drop k).length ((bl s).drop k)) := Lib.hid rfl
  revert HE
  generalize h : k + ecR ((bl s).drop k).length ((bl s).drop k) = E
  have HE : Hid (k + ecR ((bl s).drop k).length ((bl s).drop k) = E) := Lib.hid h
  clear h
  intro _
  go_enter Tryz.func70, Tryz.ntmps70
  go_wp2_with fail
  go_loopw [1] (fun s1 wr => ∃ j f : Nat, j ≤ s.size + 6 ∧ s1 = .int .i64 j ∧ Hid (((bl s).drop j).length ≤ f) ∧ Hid (j + ecR f ((bl s).drop j) = E) ∧ Hid (w = wr)) (fun s1 _ => s.size - (intOf s1).toNat)
  case atStart => exact ⟨k, _, by omega, rfl, Lib.hid (Nat.le_refl _), HE, Lib.hid rfl⟩
  case round =>
    obtain ⟨j, f, hj, rfl, HF, HJ, HW⟩ := hrel
    have HP := Lib.hid (fun (c : UInt8) w => hasPrefix_any s j c w)
    by_cases hlt : j < s.size
    · have e1 := hlt
      have hjs : j ≤ s.size := by omega
      have hjs' : (j : Int) ≤ (s.size : Int) := by omega
      by_cases hc : s[j].toNat = 92
      · have t1 : ((s[j].toNat : Int) == 92) = true := by rw [beq_iff_eq]; omega
        have HP1 := Lib.hid (HP.out 40)
        have HP2 := Lib.hid (HP.out 117)
        rw [show (40 : UInt8).toNat = 40 by rfl, hpB_at hlt hc] at HP1
        rw [show (117 : UInt8).toNat = 117 by rfl, hpB_at hlt hc] at HP2
        by_cases h40 : ((bl s).drop (j + 1)).head? = some 40
        · rw [decide_eq_true h40] at HP1
          have HN := Lib.hid ((ec_in (f := f) hlt hc h40).symm.trans HJ.out)
          clear h40 HJ HP HP2 hc hlt HF
          go_wp2_with fail
          refine (HP1.out _).mono ?_
          rintro e w1 ⟨rfl, rfl⟩
          go_wp2
          go_ret
          exact ⟨congrArg (fun z : Int => Ending.returned (Value.int .i64 z)) (show min (j : Int) (s.size : Int) = ((min E s.size : Nat) : Int) by have := HN.out; omega), HW.out⟩
        · rw [decide_eq_false h40] at HP1
          by_cases h117 : ((bl s).drop (j + 1)).head? = some 117
          · rw [decide_eq_true h117] at HP2
            obtain ⟨f', hf, he⟩ := ec_go hlt hc h40 (if_pos h117).symm HF.out
            have HF' := Lib.hid hf; have HN := Lib.hid (he.trans HJ.out)
            clear h40 h117 HJ HP hc hlt HF hf he
            go_wp2_with fail
            refine (HP1.out _).mono ?_
            rintro e w1 ⟨rfl, rfl⟩
            go_wp2_with fail
            refine (HP2.out _).mono ?_
            rintro e w1 ⟨rfl, rfl⟩
            go_wp2
            go_roundw
            case rel => exact ⟨j + 6, f', by omega, by go_num, HF', HN, HW⟩
            case measure => simp [intOf]; omega
          · rw [decide_eq_false h117] at HP2
            obtain ⟨f', hf, he⟩ := ec_go hlt hc h40 (if_neg h117).symm HF.out
            have HF' := Lib.hid hf; have HN := Lib.hid (he.trans HJ.out)
            clear h40 h117 HJ HP hc hlt HF hf he
            go_wp2_with fail
            refine (HP1.out _).mono ?_
            rintro e w1 ⟨rfl, rfl⟩
            go_wp2_with fail
            refine (HP2.out _).mono ?_
            rintro e w1 ⟨rfl, rfl⟩
            go_wp2
            go_roundw
            case rel => exact ⟨j + 2, f', by omega, by go_num, HF', HN, HW⟩
            case measure => simp [intOf]; omega
      · have t1 : ((s[j].toNat : Int) == 92) = false := by rw [beq_eq_false_iff_ne]; omega
        have HN := Lib.hid ((ec_no (f := f) hlt hc).symm.trans HJ.out)
        clear HJ HP hc hlt HF
        go_wp2
        go_ret
        exact ⟨congrArg (fun z : Int => Ending.returned (Value.int .i64 z)) (show min (j : Int) (s.size : Int) = ((min E s.size : Nat) : Int) by have := HN.out; omega), HW.out⟩
    · have HN := Lib.hid ((ec_stop (f := f) (s := s) (j := j) (by omega)).symm.trans HJ.out)
      have hjs : ¬ (j : Int) < (s.size : Int) := by omega
      have hjs2 : s.size ≤ j := by omega
      clear HJ HP HF hlt
      go_wp2
      go_ret
      exact ⟨congrArg (fun z : Int => Ending.returned (Value.int .i64 z)) (show min (j : Int) (s.size : Int) = ((min E s.size : Nat) : Int) by have := HN.out; omega), HW.out⟩
end Go.Proofs.YtpgiljibicigeaaGreatDoor
