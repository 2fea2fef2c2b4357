/- lex: signOf walked. -/
import Derived.Test.YtjjacffacmpopaaDoorLexD
namespace Go.Proofs.YtjjacffacmpopaaDoor
open Go.RowKit UM QM LX

theorem pfx_step {T s : ByteArray} {j : Nat} (h1 : j < T.size) (h2 : j < s.size) (h : s[j].toNat = T[j].toNat) : pfx ((bl T).drop (j + 1)) ((bl s).drop (j + 1)) = pfx ((bl T).drop j) ((bl s).drop j) := by
  rw [bl_drop T j h1, bl_drop s j h2]
  simp only [pfx]
  rw [beq_iff_eq.2 h, Bool.true_and]
theorem pfx_bad {T s : ByteArray} {j : Nat} (h1 : j < T.size) (h2 : j < s.size) (h : s[j].toNat ≠ T[j].toNat) : pfx ((bl T).drop j) ((bl s).drop j) = false := by
  rw [bl_drop T j h1, bl_drop s j h2]
  simp only [pfx]
  rw [beq_eq_false_iff_ne.2 h, Bool.false_and]
theorem pfx_short {T s : ByteArray} {j : Nat} (h1 : j < T.size) (h2 : s.size ≤ j) : pfx ((bl T).drop j) ((bl s).drop j) = false := by
  rw [bl_drop T j h1, bdrop_end h2]; rfl
theorem pfx_end {T s : ByteArray} {j : Nat} (h1 : T.size ≤ j) : pfx ((bl T).drop j) ((bl s).drop j) = true := by
  rw [bdrop_end h1]; rfl
theorem sgn_step {l : List Nat} {i : Nat} (hi : i < 33) (h : pfx ((sgL[i]?).getD []) l = false) : fsF (sgL.drop (i + 1)) l = fsF (sgL.drop i) l := by
  have h33 : i < sgL.length := hi
  rw [List.drop_eq_getElem_cons h33]
  rw [List.getElem?_eq_getElem h33] at h
  simp only [Option.getD_some] at h
  simp only [fsF]
  rw [if_neg (by rw [h]; simp)]
theorem sgn_hit {l : List Nat} {i : Nat} (hi : i < 33) (h : pfx ((sgL[i]?).getD []) l = true) : fsF (sgL.drop i) l = (sgL[i]?).getD [] := by
  have h33 : i < sgL.length := hi
  rw [List.drop_eq_getElem_cons h33]
  rw [List.getElem?_eq_getElem h33] at h ⊢
  simp only [Option.getD_some] at h ⊢
  simp only [fsF]
  rw [if_pos h]
def sgArrV (f : Nat → ByteArray) : List Value := (List.range 33).map (fun i => Value.string (f i))
theorem sgArr (f : Nat → ByteArray) : ∀ i, i < 33 → (sgArrV f).toArray[i]? = some (Value.string (f i)) := fun i hi => by
  unfold sgArrV; simp [hi]
theorem sgArrR {w : World} {f : Nat → ByteArray} (h : ∀ i, i < 33 → w.cell? ⟨2, i, none⟩ = some (.string (f i))) : w.rangeAt 2 0 (sgArrV f) := fun j v hv => by
  have hj : j < 33 := by
    rcases Nat.lt_or_ge j 33 with h1 | h1
    · exact h1
    · rw [List.getElem?_eq_none (by unfold sgArrV; simpa using h1)] at hv; cases hv
  have := sgArr f j hj
  rw [List.getElem?_toArray] at this
  rw [this] at hv
  rw [Nat.zero_add, ← Option.some.inj hv]
  exact h j hj
theorem sgArrI : (Tryd.prog.info? 78).map (·.size) = some 33 := by kernel_rfl
theorem wp_sgArr {ops : Array Oper} {rest : List Oper} {op : Oper} {a : Act} {w : World} {Q : Exit → Act → World → Prop} {f : Nat → ByteArray} (hgd : op.guard = none) (ho : op.op = .load 78 (.global 2)) (hR : w.rangeAt 2 0 (sgArrV f))
    (h : wpList Tryd.prog ops Q rest (a.put op.dst (.agg (sgArrV f).toArray)) w) : wpList Tryd.prog ops Q (op :: rest) a w :=
  wpList_load_mid hgd 78 (.global 2) ho 2 0 rfl (sgArrV f) _ hR Tryd.underlying78 rfl (by rw [sgArrI]; unfold sgArrV; simp) h
set_option maxRecDepth 100000 in
set_option maxHeartbeats 4000000 in
theorem signOf_any (s : ByteArray) (w : World) (ht : Sg w) :
    Calls Tryd.prog 56 #[.string s] w fun e w' => e = .returned (.string (tx (sgnR (bl s)))) ∧ ∃ n, w' = w.drewN n := by
  have HRA := Lib.hid (sgArrR ht)
  clear ht
  have HF := Lib.hid bl_sgT
  generalize sgT = f at *
  go_enter Tryd.func56, Tryd.ntmps56
  go_wp2_with fail
  go_step3
  go_wp2_with fail
  go_step3
  go_wp2_with (refine wp_sgArr rfl rfl HRA.out ?_)
  have HA := Lib.hid (sgArr f)
  generalize (sgArrV f).toArray = arr at *
  go_wp2_with fail
  go_loopg [7] 33 (fun g s7 wr => ∃ i : Nat, i + g = 33 ∧ s7 = .int .i64 i ∧ Hid (fsF (sgL.drop i) (bl s) = sgnR (bl s)) ∧ Hid (∃ n, wr = w.drewN n))
  case atStart => exact ⟨0, by decide, rfl, Lib.hid rfl, Lib.hid ⟨0, rfl⟩⟩
  case round =>
    obtain ⟨i, hi, rfl, HJ, HW⟩ := hrel
    by_cases hlt : i < 33
    · have ha := idxSigns arr i _ (HA.out i hlt) hlt
      have HT : Hid (bl (f i) = (sgL[i]?).getD []) := Lib.hid (HF.out i)
      have HL := Lib.hid hlt
      have hi' : (i : Int) < 33 := by omega
      have HG := Lib.hid hi
      clear hlt hi
      go_wp2_with fail
      go_wp2
      clear ha
      generalize f i = T at *
      have hTs : T.size ≤ 100 := by
        have h : ∀ l ∈ sgL, l.length ≤ 100 := by decide
        rw [← bl_len, HT.out, List.getElem?_eq_getElem (show i < sgL.length from HL.out)]
        exact h _ (List.getElem_mem _)
      go_loopg [12] T.size (fun g s12 wx => ∃ j : Nat, j + g = T.size ∧ j ≤ s.size ∧ s12 = .int .i64 j ∧ Hid (pfx ((bl T).drop j) ((bl s).drop j) = pfx (bl T) (bl s)) ∧ Hid (∃ n, wx = w.drewN n))
      case atStart => exact ⟨0, by omega, by omega, rfl, Lib.hid rfl, HW⟩
      case round =>
        obtain ⟨j, hj, hjs2, rfl, HP, HWx⟩ := hrel
        by_cases hjt : j < T.size
        · have hjt' : (j : Int) < (T.size : Int) := by omega
          by_cases hjs : j < s.size
          · have e1 := hjs
            have e2 := hjt
            have t0 : ((j : Int) == (s.size : Int)) = false := by rw [beq_eq_false_iff_ne]; omega
            by_cases hc : s[j].toNat = T[j].toNat
            · have t1 : ((s[j].toNat : Int) != (T[j].toNat : Int)) = false := by rw [bne_eq_false_iff_eq]; omega
              have HN := Lib.hid ((pfx_step hjt hjs hc).trans HP.out)
              clear hc HP hjs
              go_wp2_with fail
              go_quiet (fail)
              go_wp2
              go_roundg (gk - 1)
              case measure => omega
              case rel => exact ⟨j + 1, by omega, by omega, by go_num, HN, Lib.hid (by obtain ⟨n, rfl⟩ := HWx.out; exact ⟨_, World.drewN_drewN _ _ _⟩)⟩
            · have t1 : ((s[j].toNat : Int) != (T[j].toNat : Int)) = true := by rw [bne_iff_ne]; omega
              have HN : Hid (fsF (sgL.drop (i + 1)) (bl s) = sgnR (bl s)) := Lib.hid ((sgn_step HL.out (by rw [← HT.out, ← HP.out]; exact pfx_bad hjt hjs hc)).trans HJ.out)
              clear hc HP hjs
              go_wp2_with fail
              go_quiet (fail)
              go_wp2
              go_roundg (32 - i)
              case measure => have := HG.out; have := HL.out; omega
              case rel => exact ⟨i + 1, by have := HG.out; have := HL.out; omega, by go_num, HN, Lib.hid (by obtain ⟨n, rfl⟩ := HWx.out; exact ⟨_, World.drewN_drewN _ _ _⟩)⟩
          · have e2 := hjt
            have HN : Hid (fsF (sgL.drop (i + 1)) (bl s) = sgnR (bl s)) := Lib.hid ((sgn_step HL.out (by rw [← HT.out, ← HP.out]; exact pfx_short hjt (by omega))).trans HJ.out)
            have t0 : ((j : Int) == (s.size : Int)) = true := by
              have := hjs2
              rw [beq_iff_eq]; omega
            clear HP hjs
            go_wp2_with fail
            go_quiet (fail)
            go_wp2
            go_roundg (32 - i)
            case measure => have := HG.out; have := HL.out; omega
            case rel => exact ⟨i + 1, by have := HG.out; have := HL.out; omega, by go_num, HN, Lib.hid (by obtain ⟨n, rfl⟩ := HWx.out; exact ⟨_, World.drewN_drewN _ _ _⟩)⟩
        · have hjt' : ¬ (j : Int) < (T.size : Int) := by omega
          have HR : Hid (tx (sgnR (bl s)) = T) := Lib.hid (by
            rw [← HJ.out, sgn_hit HL.out (by rw [← HT.out, ← HP.out]; exact pfx_end (by omega)), ← HT.out]
            exact tx_bl T)
          clear HP
          go_wp2
          try rw [Exit.noGoto_ret]
          go_ret
          exact ⟨by rw [HR.out]; rfl, HWx.out⟩
    · have hi' : ¬ (i : Int) < 33 := by omega
      have HR : Hid (tx (sgnR (bl s)) = ⟨#[]⟩) := Lib.hid (by
        rw [← HJ.out, List.drop_of_length_le (show sgL.length ≤ i by have : sgL.length = 33 := rfl; omega)]
        rfl)
      clear hlt HJ
      go_wp2
      try rw [Exit.noGoto_ret]
      go_ret
      exact ⟨by rw [HR.out]; rfl, HW.out⟩
end Go.Proofs.YtjjacffacmpopaaDoor
