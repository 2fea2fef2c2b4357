/- lex: sign walked. -/
import Derived.Test.YtpgiljibicigeaaGreatDoorLexJs
set_option linter.unusedVariables false
set_option linter.unusedSimpArgs false
namespace Go.Proofs.YtpgiljibicigeaaGreatDoor
open Go.RowKit UM QM LX

theorem txt_emp (S : List Nat) : (tx S).toList.isEmpty = S.isEmpty := by
  rw [ByteArray.toList_eq, tx_list]; cases S <;> rfl
theorem txt_one {S : List Nat} (hS : ∀ x ∈ S, x < 256) (c : UInt8) : ((tx S).toList == [c]) = decide (S = [c.toNat]) := by
  have h := beq_txt (tx S) ⟨#[c]⟩
  rw [bl_tx hS] at h
  rw [show (⟨#[c]⟩ : ByteArray).toList = [c] by rw [ByteArray.toList_eq]] at h
  exact h
theorem sgn_lo (r : List Nat) : ∀ x ∈ sgnR r, x < 256 := by
  intro x hx
  have hne : sgnR r ≠ [] := by intro h; rw [h] at hx; cases hx
  have := (fsF_mem hne).1
  have h : ∀ l ∈ sgL, ∀ x ∈ l, x < 256 := by decide
  exact h _ this x hx
theorem sgn_len (r : List Nat) : (sgnR r).length ≤ 3 := by
  by_cases hne : sgnR r = []
  · rw [hne]; decide
  · have h : ∀ l ∈ sgL, l.length ≤ 3 := by decide
    exact h _ (fsF_mem hne).1
/-- what the walk asks of the sign's text -/
structure SgF (s : ByteArray) (p : Nat) (st : ByteArray) (b0 b41 b40 : Bool) : Prop where
  e0 : st.toList.isEmpty = b0
  e41 : (st.toList == [41]) = b41
  e40 : (st.toList == [40]) = b40
  sz : st.size ≤ 3
  le : p + st.size ≤ s.size
  tk : ((bl s).drop p).take st.size = bl st
theorem SgF.mk' {s : ByteArray} {p : Nat} (hp : p ≤ s.size) : SgF s p (tx (sgnR ((bl s).drop p))) (sgnR ((bl s).drop p)).isEmpty (decide (sgnR ((bl s).drop p) = [41])) (decide (sgnR ((bl s).drop p) = [40])) := by
  have hlo := sgn_lo ((bl s).drop p)
  refine ⟨txt_emp _, txt_one hlo 41, txt_one hlo 40, by rw [tx_size]; exact sgn_len _, ?_, ?_⟩
  · rw [tx_size]
    by_cases hne : sgnR ((bl s).drop p) = []
    · rw [hne]; exact hp
    · have := (pfx_le (fsF_mem hne).2).1
      rw [List.length_drop, bl_len] at this
      show p + (fsF sgL ((bl s).drop p)).length ≤ s.size
      omega
  · rw [tx_size, bl_tx hlo]
    by_cases hne : sgnR ((bl s).drop p) = []
    · rw [hne]; rfl
    · exact (pfx_le (fsF_mem hne).2).2
/-- put, its numbers as the walk has them -/
theorem lxPutOp_any (st : ByteArray) (g : Nat) (s : ByteArray) (p : Nat) (T : List Tk) (op : List Nat) (m : Nat) (w : World) (h : LB w g s p T op m) (hs : s.size ≤ 100000) (hT : T.length ≤ 1000000) (h1 : p + st.size ≤ s.size) (htk : ((bl s).drop p).take st.size = bl st) :
    Calls Tryz.prog 54 #[.pointer (some ⟨g, 0, none⟩), .int .i64 6, .int .i64 (p : Int), .int .i64 ((p : Int) + (st.size : Int))] w (ResL g s (p + st.size) (T ++ [(6, bl st, p)]) op m (.tuple #[]) w) := by
  have := lxPut_any 6 p (p + st.size) g s p T op m w h hs hT (Nat.le_add_right _ _) h1
  rw [Nat.add_sub_cancel_left, htk] at this
  exact this
set_option maxRecDepth 100000 in
set_option maxHeartbeats 4000000 in
theorem lxSign_none (st : ByteArray) (g : Nat) (s : ByteArray) (p : Nat) (T : List Tk) (op : List Nat) (m : Nat) (w : World) (h : LB w g s p T op m) (HS : Hid (∀ n, Calls Tryz.prog 77 #[.string (s.extract p s.size)] (w.drewN n) fun e w' => e = .returned (.string st) ∧ ∃ k, w' = (w.drewN n).drewN k)) (hs : s.size ≤ 100000) (hT : T.length ≤ 1000000) (hl : op.length ≤ 1000000) (hF : SgF s p st true false false) :
    Calls Tryz.prog 58 #[.pointer (some ⟨g, 0, none⟩)] w (ResL g s p T op m (.int .i64 2) w) := by
  have H := Lib.hid h
  obtain ⟨c0, c1, c4, fz, hp⟩ := h.cells
  have hp' : (p : Int) ≤ (s.size : Int) := by omega
  obtain ⟨e0, e41, e40, hsz, hle, htk⟩ := hF
  have HTK := Lib.hid htk
  have s0 : IntKind.i64.wrap ((p : Int) + (st.size : Int)) = (p : Int) + (st.size : Int) := IntWalk.i64_in _ (by omega)
  clear h htk
  go_enter Tryz.func58, Tryz.ntmps58
  go_wp2_with fail
  go_quiet (first | (go_at_call 77; exact Calls.quiet_of (HS.out _)))
  go_wp2
  go_ret
  exact ⟨rfl, H.out.dN _, (Fr.refl _ _).dN _⟩
set_option maxRecDepth 100000 in
set_option maxHeartbeats 4000000 in
theorem lxSign_op (st : ByteArray) (g : Nat) (s : ByteArray) (p : Nat) (T : List Tk) (op : List Nat) (m : Nat) (w : World) (h : LB w g s p T op m) (HS : Hid (∀ n, Calls Tryz.prog 77 #[.string (s.extract p s.size)] (w.drewN n) fun e w' => e = .returned (.string st) ∧ ∃ k, w' = (w.drewN n).drewN k)) (hs : s.size ≤ 100000) (hT : T.length ≤ 1000000) (hl : op.length ≤ 1000000) (hF : SgF s p st false false false) :
    Calls Tryz.prog 58 #[.pointer (some ⟨g, 0, none⟩)] w (ResL g s (p + st.size) (T ++ [(6, bl st, p)]) op m (.int .i64 0) w) := by
  have H := Lib.hid h
  obtain ⟨c0, c1, c4, fz, hp⟩ := h.cells
  have hp' : (p : Int) ≤ (s.size : Int) := by omega
  obtain ⟨e0, e41, e40, hsz, hle, htk⟩ := hF
  have HTK := Lib.hid htk
  have s0 : IntKind.i64.wrap ((p : Int) + (st.size : Int)) = (p : Int) + (st.size : Int) := IntWalk.i64_in _ (by omega)
  have HP := Lib.hid (fun w h => lxPutOp_any st g s p T op m w h hs hT hle HTK.out)
  clear h htk
  go_enter Tryz.func58, Tryz.ntmps58
  go_wp2_with fail
  go_quiet (first | (go_at_call 77; exact Calls.quiet_of (HS.out _)))
  have H2 := Lib.hid (H.out.dN nq)
  have F2 : Hid (Fr g w (w.drewN nq)) := Lib.hid ((Fr.refl _ _).dN _)
  go_wp2_with fail
  refine (HP.out _ H2.out).mono ?_
  rintro e w3 ⟨rfl, hb, hf⟩
  have H3 := Lib.hid hb; have F3 := Lib.hid (F2.out.trans hf)
  clear hb hf
  go_wp2
  go_ret
  exact ⟨rfl, H3.out, F3.out⟩
set_option maxRecDepth 100000 in
set_option maxHeartbeats 4000000 in
theorem lxSign_open (st : ByteArray) (g : Nat) (s : ByteArray) (p : Nat) (T : List Tk) (op : List Nat) (m : Nat) (w : World) (h : LB w g s p T op m) (HS : Hid (∀ n, Calls Tryz.prog 77 #[.string (s.extract p s.size)] (w.drewN n) fun e w' => e = .returned (.string st) ∧ ∃ k, w' = (w.drewN n).drewN k)) (hs : s.size ≤ 100000) (hT : T.length ≤ 1000000) (hl : op.length ≤ 1000000) (hF : SgF s p st false false true) :
    Calls Tryz.prog 58 #[.pointer (some ⟨g, 0, none⟩)] w (ResL g s (p + st.size) (T ++ [(6, bl st, p)]) (3 :: op) m (.int .i64 0) w) := by
  have H := Lib.hid h
  obtain ⟨c0, c1, c4, fz, hp⟩ := h.cells
  have hp' : (p : Int) ≤ (s.size : Int) := by omega
  obtain ⟨e0, e41, e40, hsz, hle, htk⟩ := hF
  have HTK := Lib.hid htk
  have s0 : IntKind.i64.wrap ((p : Int) + (st.size : Int)) = (p : Int) + (st.size : Int) := IntWalk.i64_in _ (by omega)
  have HP := Lib.hid (fun w h => lxPutOp_any st g s p T (3 :: op) m w h hs hT hle HTK.out)
  have HU := Lib.hid (fun n => lxPush_any 3 g s p T op m (w.drewN n) (h.dN n) hl)
  clear h htk
  go_enter Tryz.func58, Tryz.ntmps58
  go_wp2_with fail
  go_quiet (first | (go_at_call 77; exact Calls.quiet_of (HS.out _)))
  go_wp2_with fail
  refine (HU.out _).mono ?_
  rintro e w2 ⟨rfl, hb, hf⟩
  have H2 := Lib.hid hb
  have F2 : Hid (Fr g w w2) := Lib.hid (((Fr.refl g w).dN nq).trans hf)
  clear hf c0 c1 c4 fz
  obtain ⟨_, c1, _, _, _⟩ := hb.cells
  clear hb
  go_wp2_with fail
  refine (HP.out _ H2.out).mono ?_
  rintro e w3 ⟨rfl, hb, hf⟩
  have H3 := Lib.hid hb; have F3 := Lib.hid (F2.out.trans hf)
  clear hb hf
  go_wp2
  go_ret
  exact ⟨rfl, H3.out, F3.out⟩
set_option maxRecDepth 100000 in
set_option maxHeartbeats 4000000 in
theorem lxSign_shut (st : ByteArray) (g : Nat) (s : ByteArray) (p : Nat) (T : List Tk) (op : List Nat) (m : Nat) (w : World) (h : LB w g s p T op m) (HS : Hid (∀ n, Calls Tryz.prog 77 #[.string (s.extract p s.size)] (w.drewN n) fun e w' => e = .returned (.string st) ∧ ∃ k, w' = (w.drewN n).drewN k)) (hs : s.size ≤ 100000) (hT : T.length ≤ 1000000) (hl : op.length ≤ 1000000) (hi : inn op ≠ 2 ∧ inn op ≠ 3) (hF : SgF s p st false true false) :
    Calls Tryz.prog 58 #[.pointer (some ⟨g, 0, none⟩)] w (ResL g s (p + st.size) (T ++ [(6, bl st, p)]) op m (.int .i64 0) w) := by
  have H := Lib.hid h
  obtain ⟨c0, c1, c4, fz, hp⟩ := h.cells
  have hp' : (p : Int) ≤ (s.size : Int) := by omega
  obtain ⟨e0, e41, e40, hsz, hle, htk⟩ := hF
  have HTK := Lib.hid htk
  have s0 : IntKind.i64.wrap ((p : Int) + (st.size : Int)) = (p : Int) + (st.size : Int) := IntWalk.i64_in _ (by omega)
  have HP := Lib.hid (fun w h => lxPutOp_any st g s p T op m w h hs hT hle HTK.out)
  have HI := Lib.hid (fun n => innermost_any g s p T op m (w.drewN n) (h.dN n) hl)
  have i2 : (((inn op : Nat) : Int) == 2) = false := by rw [beq_eq_false_iff_ne]; omega
  have i3 : (((inn op : Nat) : Int) == 3) = false := by rw [beq_eq_false_iff_ne]; omega
  generalize inn op = io at *
  clear hi
  clear h htk
  go_enter Tryz.func58, Tryz.ntmps58
  go_wp2_with fail
  go_quiet (first | (go_at_call 77; exact Calls.quiet_of (HS.out _)))
  go_wp2_with fail
  refine (HI.out _).mono ?_
  rintro e w1 ⟨rfl, n1, rfl⟩
  simp only [World.drewN_drewN]
  go_wp2_with fail
  refine (HI.out _).mono ?_
  rintro e w1 ⟨rfl, n2, rfl⟩
  have H2 := Lib.hid (H.out.dN (nq + n1 + n2))
  have F2 := Lib.hid ((Fr.refl g w).dN (nq + n1 + n2))
  go_wp2_with fail
  refine (HP.out _ H2.out).mono ?_
  rintro e w3 ⟨rfl, hb, hf⟩
  have H3 := Lib.hid hb; have F3 := Lib.hid (F2.out.trans hf)
  clear hb hf
  go_wp2
  go_ret
  exact ⟨rfl, H3.out, F3.out⟩
set_option maxRecDepth 100000 in
set_option maxHeartbeats 4000000 in
theorem lxSign_close (st : ByteArray) (x : Nat) (g : Nat) (s : ByteArray) (p : Nat) (T : List Tk) (op : List Nat) (m : Nat) (w : World) (h : LB w g s p T (x :: op) m) (HS : Hid (∀ n, Calls Tryz.prog 77 #[.string (s.extract p s.size)] (w.drewN n) fun e w' => e = .returned (.string st) ∧ ∃ k, w' = (w.drewN n).drewN k)) (hs : s.size ≤ 100000) (hT : T.length ≤ 1000000) (hl : op.length ≤ 999999) (hi : x = 3) (hF : SgF s p st false true false) :
    Calls Tryz.prog 58 #[.pointer (some ⟨g, 0, none⟩)] w (ResL g s (p + st.size) (T ++ [(6, bl st, p)]) op m (.int .i64 0) w) := by
  have H := Lib.hid h
  obtain ⟨c0, c1, c4, fz, hp⟩ := h.cells
  have hp' : (p : Int) ≤ (s.size : Int) := by omega
  obtain ⟨e0, e41, e40, hsz, hle, htk⟩ := hF
  have HTK := Lib.hid htk
  have s0 : IntKind.i64.wrap ((p : Int) + (st.size : Int)) = (p : Int) + (st.size : Int) := IntWalk.i64_in _ (by omega)
  have HP := Lib.hid (fun w h => lxPutOp_any st g s p T op m w h hs hT hle HTK.out)
  have HI := Lib.hid (fun n => innermost_any g s p T (x :: op) m (w.drewN n) (h.dN n) (by rw [List.length_cons]; omega))
  have HU := Lib.hid (fun n => lxPop_any x g s p T op m (w.drewN n) (h.dN n) (by omega))
  rw [show inn (x :: op) = 3 from hi] at HI
  clear hi
  clear h htk
  go_enter Tryz.func58, Tryz.ntmps58
  go_wp2_with fail
  go_quiet (first | (go_at_call 77; exact Calls.quiet_of (HS.out _)))
  go_wp2_with fail
  refine (HI.out _).mono ?_
  rintro e w1 ⟨rfl, n1, rfl⟩
  simp only [World.drewN_drewN]
  go_wp2_with fail
  refine (HI.out _).mono ?_
  rintro e w1 ⟨rfl, n2, rfl⟩
  simp only [World.drewN_drewN]
  go_wp2_with fail
  refine (HU.out _).mono ?_
  rintro e w2 ⟨rfl, hb, hf⟩
  have H2 := Lib.hid hb
  have F2 : Hid (Fr g w w2) := Lib.hid (((Fr.refl g w).dN _).trans hf)
  clear hf c0 c1 c4 fz
  obtain ⟨_, c1, _, _, _⟩ := hb.cells
  clear hb
  go_wp2_with fail
  refine (HP.out _ H2.out).mono ?_
  rintro e w3 ⟨rfl, hb, hf⟩
  have H3 := Lib.hid hb; have F3 := Lib.hid (F2.out.trans hf)
  clear hb hf
  go_wp2
  go_ret
  exact ⟨rfl, H3.out, F3.out⟩
set_option maxRecDepth 100000 in
set_option maxHeartbeats 4000000 in
theorem lxSign_out (st : ByteArray) (x : Nat) (g : Nat) (s : ByteArray) (p : Nat) (T : List Tk) (op : List Nat) (m : Nat) (w : World) (h : LB w g s p T (x :: op) m) (HS : Hid (∀ n, Calls Tryz.prog 77 #[.string (s.extract p s.size)] (w.drewN n) fun e w' => e = .returned (.string st) ∧ ∃ k, w' = (w.drewN n).drewN k)) (hs : s.size ≤ 100000) (hT : T.length ≤ 1000000) (hl : op.length ≤ 999999) (hi : x = 2) (hF : SgF s p st false true false) :
    Calls Tryz.prog 58 #[.pointer (some ⟨g, 0, none⟩)] w (ResL g s (p + st.size) (T ++ [(10, [], p)]) op m (.int .i64 0) w) := by
  have H := Lib.hid h
  obtain ⟨c0, c1, c4, fz, hp⟩ := h.cells
  have hp' : (p : Int) ≤ (s.size : Int) := by omega
  obtain ⟨e0, e41, e40, hsz, hle, htk⟩ := hF
  have HTK := Lib.hid htk
  have s0 : IntKind.i64.wrap ((p : Int) + (st.size : Int)) = (p : Int) + (st.size : Int) := IntWalk.i64_in _ (by omega)
  have HP := Lib.hid (fun w h => lxMark_any 10 st.size g s p T op m w h hs hT hle)
  have HI := Lib.hid (fun n => innermost_any g s p T (x :: op) m (w.drewN n) (h.dN n) (by rw [List.length_cons]; omega))
  have HU := Lib.hid (fun n => lxPop_any x g s p T op m (w.drewN n) (h.dN n) (by omega))
  rw [show inn (x :: op) = 2 from hi] at HI
  clear hi
  clear h htk
  go_enter Tryz.func58, Tryz.ntmps58
  go_wp2_with fail
  go_quiet (first | (go_at_call 77; exact Calls.quiet_of (HS.out _)))
  go_wp2_with fail
  refine (HI.out _).mono ?_
  rintro e w1 ⟨rfl, n1, rfl⟩
  simp only [World.drewN_drewN]
  go_wp2_with fail
  refine (HU.out _).mono ?_
  rintro e w2 ⟨rfl, hb, hf⟩
  have H2 := Lib.hid hb
  have F2 : Hid (Fr g w w2) := Lib.hid (((Fr.refl g w).dN _).trans hf)
  clear hf c0 c1 c4 fz
  obtain ⟨_, c1, _, _, _⟩ := hb.cells
  clear hb
  go_wp2_with fail
  refine (HP.out _ H2.out).mono ?_
  rintro e w3 ⟨rfl, hb, hf⟩
  have H3 := Lib.hid hb; have F3 := Lib.hid (F2.out.trans hf)
  clear hb hf
  go_wp2
  go_ret
  exact ⟨rfl, H3.out, F3.out⟩
/-- what sign and token leave, as tkR tells -/
def ResTk (g : Nat) (s : ByteArray) (p : Nat) (T : List Tk) (op : List Nat) (q : Nat × Nat × List Nat × Nat × List Nat) (w : World) (e : Ending) (w' : World) : Prop :=
  if q.1 = 0 then ResL g s (p + q.2.2.2.1) (T ++ [(q.2.1, q.2.2.1, p)]) q.2.2.2.2 (q.2.2.2.2.count 1) (.int .i64 0) w e w' else ResL g s p T op (op.count 1) (.int .i64 (q.1 : Int)) w e w'
theorem ResTk.bad {g : Nat} {s : ByteArray} {p : Nat} {T : List Tk} {op : List Nat} {q : Nat × Nat × List Nat × Nat × List Nat} {w : World} {e : Ending} {w' : World} (c a b : Nat) (x y : List Nat) (hq : q = (c, a, x, b, y)) (hc : c ≠ 0) (h : ResL g s p T op (op.count 1) (.int .i64 (c : Int)) w e w') : ResTk g s p T op q w e w' := by
  subst hq; unfold ResTk; rw [if_neg hc]; exact h
theorem ResTk.ok {g : Nat} {s : ByteArray} {p : Nat} {T : List Tk} {op : List Nat} {q : Nat × Nat × List Nat × Nat × List Nat} {w : World} {e : Ending} {w' : World} (k n m : Nat) (x o : List Nat) (hq : q = (0, k, x, n, o)) (hm : o.count 1 = m) (h : ResL g s (p + n) (T ++ [(k, x, p)]) o m (.int .i64 0) w e w') : ResTk g s p T op q w e w' := by
  subst hq; subst hm; unfold ResTk; rw [if_pos rfl]; exact h
/-- the part of tkR that tells of signs -/
def sgT' (op : List Nat) (S : List Nat) : Nat × Nat × List Nat × Nat × List Nat :=
  if S = [] then (2, 0, [], 0, op) else if S = [41] ∧ inn op = 2 then (0, 10, [], 1, op.tail) else if S = [41] ∧ inn op = 3 then (0, 6, [41], 1, op.tail) else if S = [40] then (0, 6, [40], 1, 3 :: op) else (0, 6, S, S.length, op)
theorem lxSign_any (g : Nat) (s : ByteArray) (p : Nat) (T : List Tk) (op : List Nat) (w : World) (h : LB w g s p T op (op.count 1)) (ht : Sg w) (hs : s.size ≤ 100000) (hT : T.length ≤ 1000000) (hl : op.length ≤ 999999) :
    Calls Tryz.prog 58 #[.pointer (some ⟨g, 0, none⟩)] w (ResTk g s p T op (sgT' op (sgnR ((bl s).drop p))) w) := by
  have HS : Hid (∀ n, Calls Tryz.prog 77 #[.string (s.extract p s.size)] (w.drewN n) fun e w' => e = .returned (.string (tx (sgnR ((bl s).drop p)))) ∧ ∃ k, w' = (w.drewN n).drewN k) := Lib.hid (fun n => by
    have := signOf_any (s.extract p s.size) (w.drewN n) ht
    rw [bl_extract] at this
    exact this)
  have hF := SgF.mk' (s := s) (p := p) h.cells.2.2.2.2
  have hlo := sgn_lo ((bl s).drop p)
  generalize sgnR ((bl s).drop p) = S at *
  have hb : bl (tx S) = S := bl_tx hlo
  have hz : (tx S).size = S.length := tx_size S
  unfold sgT'
  by_cases h1 : S = []
  · rw [if_pos h1]
    subst h1
    exact (lxSign_none _ g s p T op _ w h HS hs hT (by omega) hF).mono fun e w' r => ResTk.bad 2 0 0 [] op rfl (by decide) r
  rw [if_neg h1]
  have he : S.isEmpty = false := by cases S with | nil => exact absurd rfl h1 | cons => rfl
  rw [he] at hF
  by_cases h41 : S = [41]
  · have h40 : S ≠ [40] := by rw [h41]; decide
    rw [decide_eq_true h41, decide_eq_false h40] at hF
    rcases op with _ | ⟨x, t⟩
    · rw [if_neg (by simp [inn]), if_neg (by simp [inn]), if_neg h40]
      refine (lxSign_shut _ g s p T [] _ w h HS hs hT (by simp) (by simp [inn]) hF).mono fun e w' r => ResTk.ok 6 S.length _ S [] rfl rfl ?_
      rw [hb, hz] at r; exact r
    · rw [List.length_cons] at hl
      by_cases h2 : x = 2
      · rw [if_pos ⟨h41, h2⟩]
        refine (lxSign_out _ x g s p T t _ w h HS hs hT (by omega) h2 hF).mono fun e w' r => ResTk.ok 10 1 ((x :: t).count 1) [] t rfl ?_ ?_
        · rw [h2, List.count_cons_of_ne (by decide)]
        · rw [hz, h41] at r; exact r
      by_cases h3 : x = 3
      · rw [if_neg (fun h => h2 h.2), if_pos ⟨h41, h3⟩]
        refine (lxSign_close _ x g s p T t _ w h HS hs hT (by omega) h3 hF).mono fun e w' r => ResTk.ok 6 1 ((x :: t).count 1) [41] t rfl ?_ ?_
        · rw [h3, List.count_cons_of_ne (by decide)]
        · rw [hb, hz, h41] at r; exact r
      · rw [if_neg (fun h => h2 h.2), if_neg (fun h => h3 h.2), if_neg h40]
        refine (lxSign_shut _ g s p T (x :: t) _ w h HS hs hT (by rw [List.length_cons]; omega) ⟨h2, h3⟩ hF).mono fun e w' r => ResTk.ok 6 S.length _ S (x :: t) rfl rfl ?_
        rw [hb, hz] at r; exact r
  · rw [if_neg (fun h => h41 h.1), if_neg (fun h => h41 h.1)]
    rw [decide_eq_false h41] at hF
    by_cases h40 : S = [40]
    · rw [if_pos h40]
      rw [decide_eq_true h40] at hF
      refine (lxSign_open _ g s p T op _ w h HS hs hT (by omega) hF).mono fun e w' r => ResTk.ok 6 1 (op.count 1) [40] (3 :: op) rfl ?_ ?_
      · rw [List.count_cons_of_ne (by decide)]
      · rw [hb, hz, h40] at r; exact r
    · rw [if_neg h40]
      rw [decide_eq_false h40] at hF
      refine (lxSign_op _ g s p T op _ w h HS hs hT (by omega) hF).mono fun e w' r => ResTk.ok 6 S.length _ S op rfl rfl ?_
      rw [hb, hz] at r; exact r
end Go.Proofs.YtpgiljibicigeaaGreatDoor
