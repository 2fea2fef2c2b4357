/- lex: step, all, Tokens walked. -/
import Derived.Test.YtpgiljibicigeaaGreatDoorLexO
import Derived.Test.YtpgiljibicigeaaGreatDoorLexL
set_option linter.unusedVariables false
set_option linter.unusedSimpArgs false
namespace Go.Proofs.YtpgiljibicigeaaGreatDoor
open Go.RowKit UM QM LX

theorem sgT_pos {op S : List Nat} (h : (sgT' op S).1 = 0) (hS : S ≠ []) : 1 ≤ (sgT' op S).2.2.2.1 ∧ (sgT' op S).2.2.2.2.length ≤ op.length + 1 := by
  unfold sgT' at h ⊢
  rw [if_neg hS] at h ⊢
  have hl : 1 ≤ S.length := List.length_pos_iff.2 hS
  split
  · exact ⟨Nat.le_refl _, by simp; omega⟩
  split
  · exact ⟨Nat.le_refl _, by simp; omega⟩
  split
  · exact ⟨Nat.le_refl _, by simp⟩
  · exact ⟨hl, Nat.le_succ _⟩
theorem tk_pos {op : List Nat} {c : Nat} {t : List Nat} (h : (tkR op (c :: t)).1 = 0) : 1 ≤ (tkR op (c :: t)).2.2.2.1 ∧ (tkR op (c :: t)).2.2.2.2.length ≤ op.length + 1 := by
  rw [tk_eq] at h ⊢
  by_cases q1 : isLt c = true
  · rw [if_pos q1]; exact ⟨nmR_pos q1, Nat.le_succ _⟩
  rw [if_neg q1] at h ⊢
  by_cases q2 : isDg c = true
  · rw [if_pos q2]; exact ⟨nuR_pos q2, Nat.le_succ _⟩
  rw [if_neg q2] at h ⊢
  by_cases q3 : c = 46 ∧ 0 < nmR t
  · rw [if_pos q3]; exact ⟨by simp, Nat.le_succ _⟩
  rw [if_neg q3] at h ⊢
  by_cases q4 : c = 36 ∧ 0 < nmR t
  · rw [if_pos q4]; exact ⟨by simp, Nat.le_succ _⟩
  rw [if_neg q4] at h ⊢
  by_cases q5 : c = 64 ∧ 0 < nmR t
  · rw [if_pos q5]; exact ⟨by simp, Nat.le_succ _⟩
  rw [if_neg q5] at h ⊢
  by_cases q6 : c = 34
  · rw [if_pos q6] at h ⊢
    by_cases q7 : op.count 1 = 50
    · rw [if_pos q7] at h; cases h
    · rw [if_neg q7]; exact ⟨Nat.le_refl _, by simp⟩
  rw [if_neg q6] at h ⊢
  by_cases hS : sgnR (c :: t) = []
  · unfold sgT' at h; rw [if_pos hS] at h; cases h
  · exact sgT_pos h hS
/-- the state of a reading of tokens -/
def AllI (s : ByteArray) (p : Nat) (T : List Tk) (op : List Nat) (Q : List Tk × Nat × Nat) : Prop :=
  p ≤ s.size ∧ T.length ≤ p ∧ op.length ≤ p ∧ ∃ f, ((bl s).drop p).length < f ∧ LX.pre T (lxR f op p ((bl s).drop p)) = Q
theorem AllI.start (s : ByteArray) : AllI s 0 [] [] (lxR ((bl s).length + 1) [] 0 (bl s)) :=
  ⟨Nat.zero_le _, Nat.le_refl _, Nat.le_refl _, (bl s).length + 1, by rw [List.drop_zero]; omega, by rw [List.drop_zero]; unfold LX.pre; simp⟩
theorem AllI.fuel {s : ByteArray} {p : Nat} {T : List Tk} {op : List Nat} {Q : List Tk × Nat × Nat} (h : AllI s p T op Q) : ∃ f, ((bl s).drop p).length ≤ f ∧ LX.pre T (lxR (f + 1) op p ((bl s).drop p)) = Q := by
  obtain ⟨_, _, _, f, hf, hq⟩ := h
  cases f with
  | zero => omega
  | succ f => exact ⟨f, by omega, hq⟩
theorem drop_ne {s : ByteArray} {p : Nat} (h : p < s.size) : (bl s).drop p ≠ [] := by rw [bl_drop s p h]; simp
theorem AllI.fin {s : ByteArray} {p : Nat} {T : List Tk} {op : List Nat} {Q : List Tk × Nat × Nat} (h : AllI s p T op Q) (he : ¬ p + skR op ((bl s).drop p) < s.size) : Q = (T, s.size, if 0 < op.count 1 then 5 else 0) := by
  obtain ⟨f, _, hq⟩ := h.fuel
  have hp := h.1
  rw [← hq]
  simp only [lxR]
  rw [List.drop_drop, if_pos (bdrop_end (by omega)), List.length_drop, bl_len]
  unfold LX.pre
  rw [List.append_nil, show p + (s.size - p) = s.size by omega]
theorem AllI.tok {s : ByteArray} {p q : Nat} {T : List Tk} {op : List Nat} {Q : List Tk × Nat × Nat} (h : AllI s p T op Q) (hi : inn op ≠ 1) (hq : q = p + skR op ((bl s).drop p)) (he : q < s.size) :
    ((tkR op ((bl s).drop q)).1 = 0 → q + (tkR op ((bl s).drop q)).2.2.2.1 ≤ s.size → AllI s (q + (tkR op ((bl s).drop q)).2.2.2.1) (T ++ [((tkR op ((bl s).drop q)).2.1, (tkR op ((bl s).drop q)).2.2.1, q)]) (tkR op ((bl s).drop q)).2.2.2.2 Q) ∧
    ((tkR op ((bl s).drop q)).1 ≠ 0 → Q = (T, q, (tkR op ((bl s).drop q)).1)) := by
  obtain ⟨f, hf, hQ⟩ := h.fuel
  obtain ⟨hp, hT, hO, _⟩ := h
  have hd : ((bl s).drop p).drop (skR op ((bl s).drop p)) = (bl s).drop q := by rw [List.drop_drop, hq]
  have hd2 : ∀ n, ((bl s).drop p).drop (skR op ((bl s).drop p) + n) = (bl s).drop (q + n) := fun n => by rw [List.drop_drop, hq, Nat.add_assoc]
  simp only [lxR] at hQ
  rw [hd, if_neg (drop_ne he), if_neg hi, ← hq, hd2] at hQ
  have hbd := bl_drop s q he
  refine ⟨fun h0 hle => ?_, fun h0 => ?_⟩
  · rw [if_pos h0] at hQ
    have hpos := tk_pos (op := op) (c := s[q].toNat) (t := (bl s).drop (q + 1)) (by rw [← hbd]; exact h0)
    rw [← hbd] at hpos
    rw [List.length_drop, bl_len] at hf
    refine ⟨hle, by rw [List.length_append, List.length_singleton]; omega, by omega, f, by rw [List.length_drop, bl_len]; omega, ?_⟩
    rw [← hQ]; unfold LX.pre; simp
  · rw [if_neg h0] at hQ
    rw [← hQ]; unfold LX.pre; simp
theorem AllI.txt {s : ByteArray} {p : Nat} {T : List Tk} {t : List Nat} {Q : List Tk × Nat × Nat} (h : AllI s p T (1 :: t) Q) (he : p < s.size) :
    ((pcR ((bl s).drop p).length ((bl s).drop p)).1 = 0 → p + (pcR ((bl s).drop p).length ((bl s).drop p)).2.1 + 1 ≤ s.size → AllI s (p + (pcR ((bl s).drop p).length ((bl s).drop p)).2.1 + 1) (T ++ txR p (pcR ((bl s).drop p).length ((bl s).drop p)).2.1 (pcR ((bl s).drop p).length ((bl s).drop p)).2.2 ++ [(11, [], p + (pcR ((bl s).drop p).length ((bl s).drop p)).2.1)]) t Q) ∧
    ((pcR ((bl s).drop p).length ((bl s).drop p)).1 = 1 → p + (pcR ((bl s).drop p).length ((bl s).drop p)).2.1 + 2 ≤ s.size → AllI s (p + (pcR ((bl s).drop p).length ((bl s).drop p)).2.1 + 2) (T ++ txR p (pcR ((bl s).drop p).length ((bl s).drop p)).2.1 (pcR ((bl s).drop p).length ((bl s).drop p)).2.2 ++ [(9, [], p + (pcR ((bl s).drop p).length ((bl s).drop p)).2.1)]) (2 :: 1 :: t) Q) ∧
    ((pcR ((bl s).drop p).length ((bl s).drop p)).1 = 5 → Q = (T, s.size, 5) ∧ AllI s s.size T (1 :: t) Q) ∧
    ((pcR ((bl s).drop p).length ((bl s).drop p)).1 = 2 → Q = (T, p + (pcR ((bl s).drop p).length ((bl s).drop p)).2.1, 2)) := by
  obtain ⟨f, hf, hQ⟩ := h.fuel
  obtain ⟨hp, hT, hO, _⟩ := h
  have hsk : skR (1 :: t) ((bl s).drop p) = 0 := if_pos rfl
  simp only [lxR] at hQ
  rw [hsk, List.drop_zero, if_neg (drop_ne he), if_pos (show inn (1 :: t) = 1 from rfl)] at hQ
  rw [List.length_drop, bl_len] at hf
  generalize pcR ((bl s).drop p).length ((bl s).drop p) = q at *
  rw [List.length_cons] at hO
  refine ⟨fun h0 hle => ?_, fun h1 hle => ?_, fun h5 => ?_, fun h2 => ?_⟩
  · rw [if_pos h0, List.drop_drop, ← Nat.add_assoc] at hQ
    have hx : (txR p q.2.1 q.2.2).length ≤ q.2.1 := by unfold txR; split <;> simp <;> omega
    refine ⟨hle, by rw [List.length_append, List.length_append, List.length_singleton]; omega, by omega, f, by rw [List.length_drop, bl_len]; omega, ?_⟩
    rw [← hQ]; unfold LX.pre; simp
  · rw [if_neg (by omega), if_pos h1, List.drop_drop, ← Nat.add_assoc] at hQ
    have hx : (txR p q.2.1 q.2.2).length ≤ q.2.1 := by unfold txR; split <;> simp <;> omega
    refine ⟨hle, by rw [List.length_append, List.length_append, List.length_singleton]; omega, by simp; omega, f, by rw [List.length_drop, bl_len]; omega, ?_⟩
    rw [← hQ]; unfold LX.pre; simp
  · rw [if_neg (by omega), if_neg (by omega), if_pos h5, List.length_drop, bl_len] at hQ
    have hQ2 : Q = (T, s.size, 5) := by rw [← hQ]; unfold LX.pre; rw [List.append_nil, show p + (s.size - p) = s.size by omega]
    refine ⟨hQ2, Nat.le_refl _, by omega, by simp; omega, 1, by rw [bdrop_end (Nat.le_refl _)]; decide, ?_⟩
    rw [hQ2, bdrop_end (Nat.le_refl _)]
    simp only [lxR]
    rw [if_pos (by simp), if_pos (by rw [List.count_cons_self]; omega)]
    unfold LX.pre; simp
  · rw [if_neg (by omega), if_neg (by omega), if_neg (by omega)] at hQ
    rw [← hQ]; unfold LX.pre; simp
theorem sgB {w w' : World} {B : Nat} (h : Sg w) (hb : Below B w w') (hs : 2 < B) : Sg w' := fun i hi => by rw [hb.cell (p := ⟨2, i, none⟩) hs]; exact h i hi
set_option maxRecDepth 100000 in
set_option maxHeartbeats 4000000 in
theorem lxStep_tok (g : Nat) (s : ByteArray) (p : Nat) (T : List Tk) (op : List Nat) (w : World) (h : LB w g s p T op (op.count 1)) (ht : Sg w) (hs : s.size ≤ 100000) (hT : T.length ≤ 1000000) (hl : op.length ≤ 999999) (hlt : p < s.size) (hi : inn op ≠ 1) :
    Calls Tryz.prog 26 #[.pointer (some ⟨g, 0, none⟩)] w (ResTk g s p T op (tkR op ((bl s).drop p)) w) := by
  have HI := Lib.hid (innermost_any g s p T op _ w h (by omega))
  have HK := Lib.hid (fun n => lxToken_any g s p T op (w.drewN n) (h.dN n) ht hs hT hl hlt)
  have t0 : (((inn op : Nat) : Int) == 1) = false := by rw [beq_eq_false_iff_ne]; omega
  generalize tkR op ((bl s).drop p) = R at *
  generalize inn op = io at *
  clear h ht hi
  go_enter Tryz.func26, Tryz.ntmps26
  go_wp2_with fail
  refine HI.out.mono ?_
  rintro e w1 ⟨rfl, n, rfl⟩
  go_wp2_with fail
  refine (HK.out n).mono ?_
  rintro e w2 hr
  have hv : ∃ v : Nat, e = .returned (.int .i64 (v : Int)) := by
    unfold ResTk at hr
    split at hr
    · exact ⟨0, hr.1⟩
    · exact ⟨_, hr.1⟩
  obtain ⟨v, rfl⟩ := hv
  have HR : Hid (ResTk g s p T op R w (.returned (.int .i64 (v : Int))) w2) := Lib.hid (by
    unfold ResTk at hr ⊢
    split
    · rename_i h0
      rw [if_pos h0] at hr
      exact ⟨hr.1, hr.2.1, ((Fr.refl g w).dN n).trans hr.2.2⟩
    · rename_i h0
      rw [if_neg h0] at hr
      exact ⟨hr.1, hr.2.1, ((Fr.refl g w).dN n).trans hr.2.2⟩)
  clear hr
  go_wp2
  go_ret
  exact HR.out
set_option maxRecDepth 100000 in
set_option maxHeartbeats 4000000 in
theorem lxStep_txt (g : Nat) (s : ByteArray) (p : Nat) (T : List Tk) (t : List Nat) (w : World) (h : LB w g s p T (1 :: t) (t.count 1 + 1)) (ht : Sh w) (hs : s.size ≤ 100000) (hT : T.length ≤ 999999) (hl : t.length ≤ 999998) (hsg : 0 < g) :
    Calls Tryz.prog 26 #[.pointer (some ⟨g, 0, none⟩)] w (ResPc g s p T t (t.count 1) (pcR ((bl s).drop p).length ((bl s).drop p)) w) := by
  have HI := Lib.hid (innermost_any g s p T (1 :: t) _ w h (by rw [List.length_cons]; omega))
  have hc : t.count 1 ≤ t.length := List.count_le_length
  have HK := Lib.hid (fun n => lxPieces_any g s p T t (t.count 1) (w.drewN n) (h.dN n) ht hs hT hl (by omega) hsg)
  rw [show inn (1 :: t) = 1 from rfl] at HI
  generalize pcR ((bl s).drop p).length ((bl s).drop p) = R at *
  clear h ht hc
  go_enter Tryz.func26, Tryz.ntmps26
  go_wp2_with fail
  refine HI.out.mono ?_
  rintro e w1 ⟨rfl, n, rfl⟩
  go_wp2_with fail
  refine (HK.out n).mono ?_
  rintro e w2 ⟨hf, hr⟩
  have hv : ∃ v : Nat, e = .returned (.int .i64 (v : Int)) := by
    rcases hr with ⟨_, h, _⟩ | ⟨_, h, _⟩ | ⟨_, h | h, _⟩ | ⟨_, h, _⟩
    · exact ⟨0, h⟩
    · exact ⟨0, h⟩
    · exact ⟨0, h⟩
    · exact ⟨5, h⟩
    · exact ⟨2, h⟩
  obtain ⟨v, rfl⟩ := hv
  have HR : Hid (ResPc g s p T t (t.count 1) R w (.returned (.int .i64 (v : Int))) w2) := Lib.hid ⟨((Fr.refl g w).dN n).trans hf, hr⟩
  clear hr hf
  go_wp2
  go_ret
  exact HR.out
/-- what all leaves -/
def ResAll (g : Nat) (s : ByteArray) (Q : List Tk × Nat × Nat) (w : World) (e : Ending) (w' : World) : Prop :=
  e = .returned (.int .i64 (Q.2.2 : Int)) ∧ Fr g w w' ∧ ∃ p T op m, LB w' g s p T op m ∧ (Q.2.2 = 0 → T = Q.1) ∧ (Q.2.2 ≠ 0 → p = Q.2.1)
/-- what stands in a round of all -/
def AllW (w : World) (g : Nat) (s : ByteArray) (W : World) (p : Nat) (T : List Tk) (op : List Nat) : Prop := LB W g s p T op (op.count 1) ∧ Fr g w W
set_option maxRecDepth 100000 in
set_option maxHeartbeats 8000000 in
theorem lxAll_any (g : Nat) (s : ByteArray) (w : World) (h : LB w g s 0 [] [] 0) (ht : Sh w) (hsgn : Sg w) (hs : s.size ≤ 100000) (hsg : 0 < g) (hss : 2 < g) :
    Calls Tryz.prog 20 #[.pointer (some ⟨g, 0, none⟩)] w (ResAll g s (lxR ((bl s).length + 1) [] 0 (bl s)) w) := by
  have HQ := Lib.hid (AllI.start s)
  have HW : Hid (AllW w g s w 0 [] []) := Lib.hid ⟨h, Fr.refl g w⟩
  have HSh := Lib.hid (fun W (hf : Fr g w W) => shB ht hf.1 hsg)
  have HSg := Lib.hid (fun W (hf : Fr g w W) => sgB hsgn hf.1 hss)
  have hg := h.lt
  generalize lxR ((bl s).length + 1) [] 0 (bl s) = Q at *
  clear h ht hsgn
  go_enter Tryz.func20, Tryz.ntmps20
  go_wp2_with fail
  go_loopw [] (fun wr => ∃ (p : Nat) (T : List Tk) (op : List Nat), Hid (AllI s p T op Q) ∧ Hid (AllW w g s wr p T op)) (fun wr => s.size - (intOf ((wr.cell? ⟨g, 1, none⟩).getD undef)).toNat)
  case atStart => exact ⟨0, [], [], HQ, HW⟩
  case round =>
    obtain ⟨p, T, op, HJ, HP⟩ := hrel
    clear HW HQ
    have hp := HJ.out.1
    have hTl := HJ.out.2.1
    have hOl := HJ.out.2.2.1
    have HM : Hid ((intOf ((wr.cell? ⟨g, 1, none⟩).getD undef)).toNat = p) := Lib.hid (by rw [HP.out.1.cells.2.1]; simp [intOf])
    have HMo := Lib.hid (more_any g s p T op (op.count 1) wr HP.out.1 hs (by omega))
    by_cases hlt : p + skR op ((bl s).drop p) < s.size
    · rw [decide_eq_true hlt] at HMo
      obtain ⟨q, hq⟩ : ∃ q, q = p + skR op ((bl s).drop p) := ⟨_, rfl⟩
      have hpq : p ≤ q := by omega
      rw [← hq] at HMo hlt
      by_cases hi : inn op = 1
      · obtain ⟨t, rfl⟩ : ∃ t, op = 1 :: t := by
          cases op with
          | nil => simp [inn] at hi
          | cons a t => exact ⟨t, by rw [show a = 1 from hi]⟩
        have hq0 : q = p := by rw [hq, show skR (1 :: t) ((bl s).drop p) = 0 from if_pos rfl]; rfl
        subst hq0
        have hA := HJ.out.txt hlt
        have HA := Lib.hid hA
        have HSt := Lib.hid (fun W (hW : LB W g s q T (1 :: t) (t.count 1 + 1)) (hf : Fr g w W) => lxStep_txt g s q T t W hW (HSh.out W hf) hs (by omega) (by rw [List.length_cons] at hOl; omega) hsg)
        generalize pcR ((bl s).drop q).length ((bl s).drop q) = R at *
        clear hi hA hq
        go_wp2_with fail
        refine HMo.out.mono ?_
        rintro e w1 ⟨rfl, hb, hf⟩
        have HF1 := Lib.hid (HP.out.2.trans (Fr.gb hf (by have := HP.out.1.lt; omega)))
        rw [List.count_cons_self] at hb
        have HK := Lib.hid (HSt.out w1 hb HF1.out)
        clear hb hf
        go_wp2_with fail
        refine HK.out.mono ?_
        rintro e w2 ⟨hf, hr⟩
        have HF2 := Lib.hid (HF1.out.trans hf)
        clear hf
        rcases hr with ⟨h0, rfl, hb⟩ | ⟨h0, rfl, hb⟩ | ⟨h0, rfl | rfl, hb⟩ | ⟨h0, rfl, hb⟩
        · have hle := hb.cells.2.2.2.2
          have HJ2 := Lib.hid (HA.out.1 h0 hle)
          have HB := Lib.hid hb
          have k1'' := hb.cells.2.1
          clear hb h0
          go_wp2
          go_roundw
          case rel => exact ⟨_, _, t, HJ2, Lib.hid ⟨HB.out, HF2.out⟩⟩
          case measure => rw [HM.out, k1'']; simp only [Option.getD_some, intOf, Int.toNat_natCast]; omega
        · have hle := hb.cells.2.2.2.2
          have HJ2 := Lib.hid (HA.out.2.1 h0 hle)
          have HB := Lib.hid hb
          have k1'' := hb.cells.2.1
          clear hb h0
          go_wp2
          go_roundw
          case rel => exact ⟨_, _, 2 :: 1 :: t, HJ2, Lib.hid ⟨by rw [List.count_cons_of_ne (by decide), List.count_cons_self]; exact HB.out, HF2.out⟩⟩
          case measure => rw [HM.out, k1'']; simp only [Option.getD_some, intOf, Int.toNat_natCast]; omega
        · have HJ2 := Lib.hid (HA.out.2.2.1 h0).2
          have HB := Lib.hid hb
          have k1'' := hb.cells.2.1
          clear hb h0
          go_wp2
          go_roundw
          case rel => exact ⟨s.size, T, 1 :: t, Lib.hid HJ2.out, Lib.hid ⟨by rw [List.count_cons_self]; exact HB.out, HF2.out⟩⟩
          case measure => rw [HM.out, k1'']; simp only [Option.getD_some, intOf, Int.toNat_natCast]; omega
        · have HQ := Lib.hid (HA.out.2.2.1 h0).1
          have HB := Lib.hid hb
          clear hb h0
          go_wp2
          go_ret
          refine ⟨by rw [HQ.out]; rfl, HF2.out, s.size, T, _, _, HB.out, fun h => ?_, fun _ => by rw [HQ.out]⟩
          rw [HQ.out] at h; cases h
        · have HQ := Lib.hid (HA.out.2.2.2 h0)
          have HB := Lib.hid hb
          clear hb h0
          go_wp2
          go_ret
          refine ⟨by rw [HQ.out]; rfl, HF2.out, _, T, _, _, HB.out, fun h => ?_, fun _ => by rw [HQ.out]⟩
          rw [HQ.out] at h; cases h
      · have HA := Lib.hid (HJ.out.tok hi hq hlt)
        have HSt := Lib.hid (fun W (hW : LB W g s q T op (op.count 1)) (hf : Fr g w W) => lxStep_tok g s q T op W hW (HSg.out W hf) hs (by omega) (by omega) hlt hi)
        have hbd := bl_drop s q hlt
        have HTP : Hid ((tkR op ((bl s).drop q)).1 = 0 → 1 ≤ (tkR op ((bl s).drop q)).2.2.2.1) := Lib.hid (fun h0 => by
          rw [hbd] at h0 ⊢
          exact (tk_pos h0).1)
        generalize tkR op ((bl s).drop q) = R at *
        clear hi hq hbd
        go_wp2_with fail
        refine HMo.out.mono ?_
        rintro e w1 ⟨rfl, hb, hf⟩
        have HF1 := Lib.hid (HP.out.2.trans (Fr.gb hf (by have := HP.out.1.lt; omega)))
        have HK := Lib.hid (HSt.out w1 hb HF1.out)
        clear hb hf
        go_wp2_with fail
        refine HK.out.mono ?_
        intro e w2 hr
        unfold ResTk at hr
        by_cases h0 : R.1 = 0
        · rw [if_pos h0] at hr
          obtain ⟨rfl, hb, hf⟩ := hr
          have hle := hb.cells.2.2.2.2
          have HJ2 := Lib.hid (HA.out.1 h0 hle)
          have hpos := HTP.out h0
          have HB := Lib.hid hb
          have HF2 := Lib.hid (HF1.out.trans hf)
          have k1'' := hb.cells.2.1
          clear hb h0 hf
          go_wp2
          go_roundw
          case rel => exact ⟨_, _, _, HJ2, Lib.hid ⟨HB.out, HF2.out⟩⟩
          case measure => rw [HM.out, k1'']; simp only [Option.getD_some, intOf, Int.toNat_natCast]; omega
        · rw [if_neg h0] at hr
          obtain ⟨rfl, hb, hf⟩ := hr
          have HQ := Lib.hid (HA.out.2 h0)
          have HB := Lib.hid hb
          have HF2 := Lib.hid (HF1.out.trans hf)
          have t0 : ((R.1 : Int) != 0) = true := by rw [bne_iff_ne]; omega
          have H0 := Lib.hid h0
          clear hb h0 hf
          go_wp2
          go_ret
          refine ⟨by rw [HQ.out]; rfl, HF2.out, q, T, _, _, HB.out, fun h => ?_, fun _ => by rw [HQ.out]⟩
          rw [HQ.out] at h; exact absurd h H0.out
    · rw [decide_eq_false hlt] at HMo
      have HQ := Lib.hid (HJ.out.fin hlt)
      have hqs : p + skR op ((bl s).drop p) = s.size := by
        have := skR_le op ((bl s).drop p)
        rw [List.length_drop, bl_len] at this; omega
      rw [hqs] at HMo
      clear hlt hqs
      by_cases hc : 0 < op.count 1
      · rw [if_pos hc] at HQ
        have hc' : (0 : Int) < ((op.count 1 : Nat) : Int) := by omega
        clear hc
        generalize op.count 1 = c at *
        go_wp2_with fail
        refine HMo.out.mono ?_
        rintro e w1 ⟨rfl, hb, hf⟩
        have HF1 := Lib.hid (HP.out.2.trans (Fr.gb hf (by have := HP.out.1.lt; omega)))
        have HB := Lib.hid hb
        have k4 := hb.cells.2.2.1
        clear hb hf
        go_wp2
        go_ret
        refine ⟨by rw [HQ.out]; rfl, HF1.out, s.size, T, _, _, HB.out, fun h => ?_, fun _ => by rw [HQ.out]⟩
        rw [HQ.out] at h; cases h
      · rw [if_neg hc] at HQ
        have hc0 : op.count 1 = 0 := by omega
        rw [hc0] at HMo
        clear hc hc0
        go_wp2_with fail
        refine HMo.out.mono ?_
        rintro e w1 ⟨rfl, hb, hf⟩
        have HF1 := Lib.hid (HP.out.2.trans (Fr.gb hf (by have := HP.out.1.lt; omega)))
        have HB := Lib.hid hb
        have k4 := hb.cells.2.2.1
        clear hb hf
        go_wp2
        go_ret
        refine ⟨by rw [HQ.out]; rfl, HF1.out, s.size, T, _, _, HB.out, fun _ => by rw [HQ.out], fun h => ?_⟩
        rw [HQ.out] at h; exact absurd rfl h
end Go.Proofs.YtpgiljibicigeaaGreatDoor

/- lex: Tokens walked; what the statements' head asks. -/
namespace Go.Proofs.YtpgiljibicigeaaGreatDoor
open Go.RowKit UM QM LX

theorem LBX.fresh (s : ByteArray) (w : World) : LB (w.alloc (.cells #[.string s, .int .i64 0, .slice none 0 0, .slice none 0 0, .int .i64 0] 54)) w.heap.size s 0 [] [] 0 :=
  ⟨none, 0, none, 0, cell_new rfl, cell_new rfl, cell_new rfl, cell_new rfl, cell_new rfl, fun _ => frz_new rfl, OwnV.nil _ _ _ _, OwnV.nil _ _ _ _, Nat.zero_le _⟩
def ResTs (l : List Nat) (w : World) (e : Ending) (w' : World) : Prop :=
  ∃ ao c, e = .returned (.tuple #[.slice ao (tkF l).1.length c, .int .i64 ((tkF l).2.1 : Int), .int .i64 ((tkF l).2.2 : Int)]) ∧ OwnV w' w.heap.size 75 3 ao (tkF l).1.length c (tkc (tkF l).1) ∧ Below w.heap.size w w'
theorem ResTs.nil {l : List Nat} {w w' : World} {x y : Nat} (h : tkF l = ([], x, y)) (hb : Below w.heap.size w w') {vx vy : Int} (hx : vx = (x : Int)) (hy : vy = (y : Int)) : ResTs l w (.returned (.tuple #[.slice none 0 0, .int .i64 vx, .int .i64 vy])) w' := by
  subst hx hy
  refine ⟨none, 0, by rw [h]; rfl, ?_, hb⟩
  rw [h]; exact OwnV.nil _ _ _ _
set_option maxRecDepth 100000 in
set_option maxHeartbeats 4000000 in
theorem Tokens_any (s : ByteArray) (w : World) (hs : s.size ≤ 140737488351232) (ht : Sh w) (hsg : Sg w) :
    Calls Tryz.prog 14 #[.string s] w (ResTs (bl s) w) := by
  have hl := bl_len s
  by_cases h1 : 100000 < s.size
  · have hq : tkF (bl s) = ([], 0, 10) := by unfold tkF; rw [if_pos (by omega)]
    have HQ := Lib.hid hq
    have h1' : (100000 : Int) < (s.size : Int) := by omega
    clear hq hl h1
    go_enter Tryz.func14, Tryz.ntmps14
    go_wp2
    refine bodyPost_ret (v := .tuple #[.slice none 0 0, .int .i64 0, .int .i64 10]) (by simp [results, Tryz.results14, go_sem]) rfl ?_
    exact ResTs.nil HQ.out (Below.refl _ _) rfl rfl
  have h1' : ¬ (100000 : Int) < (s.size : Int) := by omega
  have HV := Lib.hid (Valid_any s w hs ht)
  by_cases h2 : vd (bl s) < s.size
  · have hq : tkF (bl s) = ([], vd (bl s), 7) := by unfold tkF; rw [if_neg (by omega), if_pos (by omega)]
    have HQ := Lib.hid hq
    have h2' : ((vd (bl s) : Nat) : Int) < (s.size : Int) := by omega
    clear hq hl h1 h2
    generalize vd (bl s) = v at *
    go_enter Tryz.func14, Tryz.ntmps14
    go_wp2_with fail
    refine HV.out.mono ?_
    rintro e w1 ⟨rfl, hb⟩
    have HB := Lib.hid hb
    clear hb
    go_wp2
    refine bodyPost_ret (v := .tuple #[.slice none 0 0, .int .i64 (v : Int), .int .i64 7]) (by simp [results, Tryz.results14, go_sem]) rfl ?_
    exact ResTs.nil HQ.out HB.out rfl rfl
  have h2' : ¬ ((vd (bl s) : Nat) : Int) < (s.size : Int) := by omega
  have HS : Hid (s.size ≤ 100000) := Lib.hid (by omega)
  have HQ : Hid (tkF (bl s) = if (lxR ((bl s).length + 1) [] 0 (bl s)).2.2 = 0 then ((lxR ((bl s).length + 1) [] 0 (bl s)).1, 0, 0) else ([], (lxR ((bl s).length + 1) [] 0 (bl s)).2)) := Lib.hid (by unfold tkF; rw [if_neg (by omega), if_neg (by omega)])
  have HTs : Hid (0 < w.heap.size ∧ 2 < w.heap.size) := Lib.hid ⟨lt_of_cell ht.1, lt_of_cell (hsg 0 (by decide))⟩
  have HSh := Lib.hid ht; have HSg := Lib.hid hsg
  have HA := Lib.hid (fun g W (h : LB W g s 0 [] [] 0) (a : Sh W) (b : Sg W) (c : 0 < g) (d : 2 < g) => lxAll_any g s W h a b HS.out c d)
  clear hl h1 h2 ht hsg hs HS
  generalize lxR ((bl s).length + 1) [] 0 (bl s) = R at *
  generalize vd (bl s) = v at *
  go_enter Tryz.func14, Tryz.ntmps14
  go_wp2_with fail
  refine HV.out.mono ?_
  rintro e w1 ⟨rfl, hb⟩
  have HB := Lib.hid hb
  have HL := Lib.hid (LBX.fresh s w1)
  have hbA : Below w1.heap.size w1 (w1.alloc (.cells #[.string s, .int .i64 0, .slice none 0 0, .slice none 0 0, .int .i64 0] 54)) := (Below.refl _ _).alloc (Nat.le_refl _) _
  have HC := Lib.hid (HA.out w1.heap.size _ HL.out ((HSh.out.below hb).below hbA) ((HSg.out.below hb).below hbA) (Nat.lt_of_lt_of_le HTs.out.1 hb.size) (Nat.lt_of_lt_of_le HTs.out.2 hb.size))
  have HBA := Lib.hid hbA
  clear hb HV HA HL hbA
  go_wp2_with fail
  refine HC.out.mono ?_
  rintro e w2 ⟨rfl, hf, p, T, op, m, ⟨a1, k1, a2, k2, hb⟩, hT, hp⟩
  have hbel : Below w.heap.size w w2 := HB.out.trans ((HBA.out.mono HB.out.size).trans (hf.1.mono HB.out.size))
  have HBL := Lib.hid hbel
  have hw : w.heap.size ≤ w1.heap.size + 1 := Nat.le_succ_of_le HB.out.size
  by_cases h0 : R.2.2 = 0
  · have hTR := hT h0
    have hq := HQ.out
    rw [if_pos h0] at hq
    have HR : Hid (ResTs (bl s) w (.returned (.tuple #[.slice a1 T.length k1, .int .i64 0, .int .i64 0])) w2) := Lib.hid (by
      refine ⟨a1, k1, by rw [hq, hTR]; rfl, ?_, hbel⟩
      rw [hq]
      have := hb.ot.mono hw
      rw [hTR] at this; exact this)
    have d2 := hb.c2
    have t0 : ((R.2.2 : Int) != 0) = false := by rw [bne_eq_false_iff_eq]; omega
    clear hT hp hb hf hbel h0 hTR hq HQ HC hw
    go_wp2
    refine bodyPost_ret (v := .tuple #[.slice a1 T.length k1, .int .i64 0, .int .i64 0]) (by simp [results, Tryz.results14, go_sem]) rfl ?_
    exact HR.out
  · have hq := HQ.out
    rw [if_neg h0] at hq
    have hpR := hp h0
    have HR : Hid (∀ n, ResTs (bl s) w (.returned (.tuple #[.slice none 0 0, .int .i64 (p : Int), .int .i64 (R.2.2 : Int)])) (w2.drewN n)) := Lib.hid (fun n => by
      refine ResTs.nil (x := R.2.1) (y := R.2.2) hq (bdN hbel n) (by rw [hpR]) rfl)
    have d1 := hb.c1
    have t0 : ((R.2.2 : Int) != 0) = true := by rw [bne_iff_ne]; omega
    clear hT hp hb hf hbel h0 hpR hq HQ HC hw
    go_wp2_with fail
    go_quiet (fail)
    go_wp2
    refine bodyPost_ret (v := .tuple #[.slice none 0 0, .int .i64 (p : Int), .int .i64 (R.2.2 : Int)]) (by simp [results, Tryz.results14, go_sem]) rfl ?_
    exact HR.out _
end Go.Proofs.YtpgiljibicigeaaGreatDoor
