/- lex: token walked. -/
import Derived.Test.YtpgiljibicigeaaGreatDoorLexK
set_option linter.unusedVariables false
set_option linter.unusedSimpArgs false
namespace Go.Proofs.YtpgiljibicigeaaGreatDoor
open Go.RowKit UM QM LX

theorem tk_eq (op : List Nat) (c : Nat) (t : List Nat) : tkR op (c :: t) = (if isLt c = true then (0, 2, (c :: t).take (nmR (c :: t)), nmR (c :: t), op)
    else if isDg c = true then (0, 1, (c :: t).take (nuR (c :: t)), nuR (c :: t), op)
    else if c = 46 ∧ 0 < nmR t then (0, 3, t.take (nmR t), nmR t + 1, op)
    else if c = 36 ∧ 0 < nmR t then (0, 4, t.take (nmR t), nmR t + 1, op)
    else if c = 64 ∧ 0 < nmR t then (0, 5, (c :: t).take (nmR t + 1), nmR t + 1, op)
    else if c = 34 then (if op.count 1 = 50 then (6, 0, [], 0, op) else (0, 7, [], 1, 1 :: op))
    else sgT' op (sgnR (c :: t))) := rfl
theorem lxPutName_any (k n : Nat) (g : Nat) (s : ByteArray) (p : Nat) (T : List Tk) (op : List Nat) (m : Nat) (w : World) (h : LB w g s p T op m) (hs : s.size ≤ 100000) (hT : T.length ≤ 1000000) (h1 : p + 1 + n ≤ s.size) :
    Calls Tryz.prog 54 #[.pointer (some ⟨g, 0, none⟩), .int .i64 (k : Int), .int .i64 ((p : Int) + 1), .int .i64 ((p : Int) + 1 + (n : Int))] w (ResL g s (p + (n + 1)) (T ++ [(k, ((bl s).drop (p + 1)).take n, p)]) op m (.tuple #[]) w) := by
  have := lxPut_any k (p + 1) (p + 1 + n) g s p T op m w h hs hT (Nat.le_add_right _ _) h1
  rw [Nat.add_sub_cancel_left, show p + 1 + n = p + (n + 1) by omega] at this
  rw [show (p : Int) + 1 + (n : Int) = ((p + (n + 1) : Nat) : Int) by omega]
  exact this
theorem lxPutFmt_any (k n : Nat) (g : Nat) (s : ByteArray) (p : Nat) (T : List Tk) (op : List Nat) (m : Nat) (w : World) (h : LB w g s p T op m) (hs : s.size ≤ 100000) (hT : T.length ≤ 1000000) (h1 : p + 1 + n ≤ s.size) :
    Calls Tryz.prog 54 #[.pointer (some ⟨g, 0, none⟩), .int .i64 (k : Int), .int .i64 (p : Int), .int .i64 ((p : Int) + 1 + (n : Int))] w (ResL g s (p + (n + 1)) (T ++ [(k, ((bl s).drop p).take (n + 1), p)]) op m (.tuple #[]) w) := by
  have := lxPut_any k p (p + (n + 1)) g s p T op m w h hs hT (Nat.le_add_right _ _) (by omega)
  rw [Nat.add_sub_cancel_left] at this
  rw [show (p : Int) + 1 + (n : Int) = ((p + (n + 1) : Nat) : Int) by omega]
  exact this
theorem lxPutHere_any (k n : Nat) (g : Nat) (s : ByteArray) (p : Nat) (T : List Tk) (op : List Nat) (m : Nat) (w : World) (h : LB w g s p T op m) (hs : s.size ≤ 100000) (hT : T.length ≤ 1000000) (h1 : p + n ≤ s.size) :
    Calls Tryz.prog 54 #[.pointer (some ⟨g, 0, none⟩), .int .i64 (k : Int), .int .i64 (p : Int), .int .i64 ((p : Int) + (n : Int))] w (ResL g s (p + n) (T ++ [(k, ((bl s).drop p).take n, p)]) op m (.tuple #[]) w) := by
  have := lxPut_any k p (p + n) g s p T op m w h hs hT (Nat.le_add_right _ _) h1
  rw [Nat.add_sub_cancel_left] at this
  exact this
theorem ctest (c k : Nat) : ((c : Int) == (k : Int)) = decide (c = k) := by
  rw [Bool.eq_iff_iff, beq_iff_eq, decide_eq_true_iff]; omega
set_option maxRecDepth 100000 in
set_option maxHeartbeats 8000000 in
theorem lxToken_any (g : Nat) (s : ByteArray) (p : Nat) (T : List Tk) (op : List Nat) (w : World) (h : LB w g s p T op (op.count 1)) (ht : Sg w) (hs : s.size ≤ 100000) (hT : T.length ≤ 1000000) (hl : op.length ≤ 999999) (hlt : p < s.size) :
    Calls Tryz.prog 35 #[.pointer (some ⟨g, 0, none⟩)] w (ResTk g s p T op (tkR op ((bl s).drop p)) w) := by
  have H := Lib.hid h
  obtain ⟨c0, c1, c4, fz, hp⟩ := h.cells
  have e1 := hlt
  have hd := bl_drop s p hlt
  have hnl := nmR_le ((bl s).drop (p + 1))
  rw [List.length_drop, bl_len] at hnl
  have HNL := Lib.hid (show p + 1 + nmR ((bl s).drop (p + 1)) ≤ s.size by omega)
  clear hnl
  have HN := Lib.hid (show ∀ w, Calls Tryz.prog 52 #[.string s, .int .i64 ((p : Int) + 1)] w fun e w' => e = .returned (.int .i64 ((p + 1 + nmR ((bl s).drop (p + 1)) : Nat) : Int)) ∧ w = w' from fun w => nameEnd_any s (p + 1) w (by omega) (by omega))
  have HL := Lib.hid (fun w => lIsLetter_any s[p].toNat w)
  have HD := Lib.hid (fun w => lIsDigit_any s[p].toNat w)
  have HSg := Lib.hid (fun n => lxSign_any g s p T op (w.drewN n) (h.dN n) ht hs hT hl)
  have q := tk_eq op s[p].toNat ((bl s).drop (p + 1))
  rw [← hd] at q
  have HR : Hid (tkR op ((bl s).drop p) = tkR op ((bl s).drop p)) := Lib.hid rfl
  clear h ht hd
  generalize nmR ((bl s).drop (p + 1)) = n1 at *
  by_cases q1 : isLt s[p].toNat = true
  · rw [if_pos q1] at q
    rw [q1] at HL
    have HM := Lib.hid (fun w => nameEnd_any s p w (by omega) (by omega))
    have hml := nmR_le ((bl s).drop p)
    rw [List.length_drop, bl_len] at hml
    have HML := Lib.hid (show p + nmR ((bl s).drop p) ≤ s.size by omega)
    have HQ := Lib.hid q
    clear q1 hml q HR HSg HD
    generalize tkR op ((bl s).drop p) = R at *
    generalize nmR ((bl s).drop p) = n at *
    have HP := Lib.hid (fun w h => lxPutHere_any 2 n g s p T op (op.count 1) w h hs hT HML.out)
    go_enter Tryz.func35, Tryz.ntmps35
    go_wp2_with (first | ((with_reducible refine (HN.out _).mono ?_); rintro e w1 ⟨rfl, rfl⟩))
    go_quiet (fail)
    go_wp2_with (first | ((with_reducible refine (HL.out _).mono ?_); rintro e w1 ⟨rfl, rfl⟩))
    go_region_law (first | (go_simp; go_at_call 52; refine (HM.out _).mono ?_; rintro e w2 ⟨rfl, rfl⟩) | (go_simp; go_at_call 54; refine (HP.out _ (H.out.dN (nq + 1))).mono ?_; rintro e w3 ⟨rfl, hb, hf⟩))
    all_goals
      go_wp2
      go_ret
      exact ResTk.ok _ _ _ _ op HQ.out rfl ⟨rfl, hb, ((Fr.refl g w).dN (nq + 1)).trans hf⟩
  have q1' : isLt s[p].toNat = false := by simpa using q1
  rw [if_neg q1] at q
  rw [q1'] at HL
  clear q1 q1'
  by_cases q2 : isDg s[p].toNat = true
  · rw [if_pos q2] at q
    rw [q2] at HD
    have HM := Lib.hid (fun w => numberEnd_any s p w (by omega) (by omega))
    have hml := nuR_le ((bl s).drop p)
    rw [List.length_drop, bl_len] at hml
    have HML := Lib.hid (show p + nuR ((bl s).drop p) ≤ s.size by omega)
    have HQ := Lib.hid q
    clear q2 hml q HR HSg
    generalize tkR op ((bl s).drop p) = R at *
    generalize nuR ((bl s).drop p) = n at *
    have HP := Lib.hid (fun w h => lxPutHere_any 1 n g s p T op (op.count 1) w h hs hT HML.out)
    go_enter Tryz.func35, Tryz.ntmps35
    go_wp2_with (first | ((with_reducible refine (HN.out _).mono ?_); rintro e w1 ⟨rfl, rfl⟩))
    go_quiet (fail)
    go_wp2_with (first | ((with_reducible refine (HL.out _).mono ?_); rintro e w1 ⟨rfl, rfl⟩) | ((with_reducible refine (HD.out _).mono ?_); rintro e w1 ⟨rfl, rfl⟩))
    go_region_law (first | (go_simp; go_at_call 56; refine (HM.out _).mono ?_; rintro e w2 ⟨rfl, rfl⟩) | (go_simp; go_at_call 54; refine (HP.out _ (H.out.dN (nq + 1))).mono ?_; rintro e w3 ⟨rfl, hb, hf⟩))
    all_goals
      go_wp2
      go_ret
      exact ResTk.ok _ _ _ _ op HQ.out rfl ⟨rfl, hb, ((Fr.refl g w).dN (nq + 1)).trans hf⟩
  have q2' : isDg s[p].toNat = false := by simpa using q2
  rw [if_neg q2] at q
  rw [q2'] at HD
  clear q2 q2'
  have HL46 := Lib.hid (show ∀ w, Calls Tryz.prog 53 #[.int .u8 46] w fun e w' => e = .returned (.bool false) ∧ w = w' from fun w => lIsLetter_any 46 w)
  have HD46 := Lib.hid (show ∀ w, Calls Tryz.prog 55 #[.int .u8 46] w fun e w' => e = .returned (.bool false) ∧ w = w' from fun w => lIsDigit_any 46 w)
  have HL36 := Lib.hid (show ∀ w, Calls Tryz.prog 53 #[.int .u8 36] w fun e w' => e = .returned (.bool false) ∧ w = w' from fun w => lIsLetter_any 36 w)
  have HD36 := Lib.hid (show ∀ w, Calls Tryz.prog 55 #[.int .u8 36] w fun e w' => e = .returned (.bool false) ∧ w = w' from fun w => lIsDigit_any 36 w)
  have HL64 := Lib.hid (show ∀ w, Calls Tryz.prog 53 #[.int .u8 64] w fun e w' => e = .returned (.bool false) ∧ w = w' from fun w => lIsLetter_any 64 w)
  have HD64 := Lib.hid (show ∀ w, Calls Tryz.prog 55 #[.int .u8 64] w fun e w' => e = .returned (.bool false) ∧ w = w' from fun w => lIsDigit_any 64 w)
  have HL34 := Lib.hid (show ∀ w, Calls Tryz.prog 53 #[.int .u8 34] w fun e w' => e = .returned (.bool false) ∧ w = w' from fun w => lIsLetter_any 34 w)
  have HD34 := Lib.hid (show ∀ w, Calls Tryz.prog 55 #[.int .u8 34] w fun e w' => e = .returned (.bool false) ∧ w = w' from fun w => lIsDigit_any 34 w)
  have t46 : ((s[p].toNat : Int) == 46) = decide (s[p].toNat = 46) := ctest s[p].toNat 46
  have t36 : ((s[p].toNat : Int) == 36) = decide (s[p].toNat = 36) := ctest s[p].toNat 36
  have t64 : ((s[p].toNat : Int) == 64) = decide (s[p].toNat = 64) := ctest s[p].toNat 64
  have t34 : ((s[p].toNat : Int) == 34) = decide (s[p].toNat = 34) := ctest s[p].toNat 34
  by_cases h46 : s[p].toNat = 46 ∧ 0 < n1
  · have hn := h46.2
    have h46 := h46.1
    rw [if_pos ⟨h46, hn⟩] at q
    rw [decide_eq_true (h46)] at t46
    rw [decide_eq_false (by omega)] at t36
    rw [decide_eq_false (by omega)] at t64
    rw [decide_eq_false (by omega)] at t34
    have hn' : (p : Int) + 1 < (p : Int) + 1 + (n1 : Int) := by omega
    have HQ := Lib.hid q
    clear q HR HSg h46 hn
    generalize tkR op ((bl s).drop p) = R at *
    have HP := Lib.hid (fun w h => lxPutName_any 3 n1 g s p T op (op.count 1) w h hs hT HNL.out)
    go_enter Tryz.func35, Tryz.ntmps35
    go_wp2_with (first | ((with_reducible refine (HN.out _).mono ?_); rintro e w1 ⟨rfl, rfl⟩))
    go_quiet (fail)
    go_wp2_with (first | ((with_reducible refine (HL.out _).mono ?_); rintro e w1 ⟨rfl, rfl⟩) | ((with_reducible refine (HD.out _).mono ?_); rintro e w1 ⟨rfl, rfl⟩) | ((with_reducible refine (HL46.out _).mono ?_); rintro e w1 ⟨rfl, rfl⟩) | ((with_reducible refine (HD46.out _).mono ?_); rintro e w1 ⟨rfl, rfl⟩) | ((with_reducible refine (HL36.out _).mono ?_); rintro e w1 ⟨rfl, rfl⟩) | ((with_reducible refine (HD36.out _).mono ?_); rintro e w1 ⟨rfl, rfl⟩) | ((with_reducible refine (HL64.out _).mono ?_); rintro e w1 ⟨rfl, rfl⟩) | ((with_reducible refine (HD64.out _).mono ?_); rintro e w1 ⟨rfl, rfl⟩) | ((with_reducible refine (HL34.out _).mono ?_); rintro e w1 ⟨rfl, rfl⟩) | ((with_reducible refine (HD34.out _).mono ?_); rintro e w1 ⟨rfl, rfl⟩))
    refine (HP.out _ (H.out.dN nq)).mono ?_
    rintro e w3 ⟨rfl, hb, hf⟩
    go_wp2
    go_ret
    exact ResTk.ok _ _ _ _ op HQ.out rfl ⟨rfl, hb, ((Fr.refl g w).dN nq).trans hf⟩
  by_cases h36 : s[p].toNat = 36 ∧ 0 < n1
  · have hn := h36.2
    have h36 := h36.1
    rw [if_neg (by omega)] at q
    rw [if_pos ⟨h36, hn⟩] at q
    rw [decide_eq_false (by omega)] at t46
    rw [decide_eq_true (h36)] at t36
    rw [decide_eq_false (by omega)] at t64
    rw [decide_eq_false (by omega)] at t34
    have hn' : (p : Int) + 1 < (p : Int) + 1 + (n1 : Int) := by omega
    have HQ := Lib.hid q
    clear q HR HSg h36 hn
    generalize tkR op ((bl s).drop p) = R at *
    have HP := Lib.hid (fun w h => lxPutName_any 4 n1 g s p T op (op.count 1) w h hs hT HNL.out)
    go_enter Tryz.func35, Tryz.ntmps35
    go_wp2_with (first | ((with_reducible refine (HN.out _).mono ?_); rintro e w1 ⟨rfl, rfl⟩))
    go_quiet (fail)
    go_wp2_with (first | ((with_reducible refine (HL.out _).mono ?_); rintro e w1 ⟨rfl, rfl⟩) | ((with_reducible refine (HD.out _).mono ?_); rintro e w1 ⟨rfl, rfl⟩) | ((with_reducible refine (HL46.out _).mono ?_); rintro e w1 ⟨rfl, rfl⟩) | ((with_reducible refine (HD46.out _).mono ?_); rintro e w1 ⟨rfl, rfl⟩) | ((with_reducible refine (HL36.out _).mono ?_); rintro e w1 ⟨rfl, rfl⟩) | ((with_reducible refine (HD36.out _).mono ?_); rintro e w1 ⟨rfl, rfl⟩) | ((with_reducible refine (HL64.out _).mono ?_); rintro e w1 ⟨rfl, rfl⟩) | ((with_reducible refine (HD64.out _).mono ?_); rintro e w1 ⟨rfl, rfl⟩) | ((with_reducible refine (HL34.out _).mono ?_); rintro e w1 ⟨rfl, rfl⟩) | ((with_reducible refine (HD34.out _).mono ?_); rintro e w1 ⟨rfl, rfl⟩))
    refine (HP.out _ (H.out.dN nq)).mono ?_
    rintro e w3 ⟨rfl, hb, hf⟩
    go_wp2
    go_ret
    exact ResTk.ok _ _ _ _ op HQ.out rfl ⟨rfl, hb, ((Fr.refl g w).dN nq).trans hf⟩
  by_cases h64 : s[p].toNat = 64 ∧ 0 < n1
  · have hn := h64.2
    have h64 := h64.1
    rw [if_neg (by omega)] at q
    rw [if_neg (by omega)] at q
    rw [if_pos ⟨h64, hn⟩] at q
    rw [decide_eq_false (by omega)] at t46
    rw [decide_eq_false (by omega)] at t36
    rw [decide_eq_true (h64)] at t64
    rw [decide_eq_false (by omega)] at t34
    have hn' : (p : Int) + 1 < (p : Int) + 1 + (n1 : Int) := by omega
    have HQ := Lib.hid q
    clear q HR HSg h64 hn
    generalize tkR op ((bl s).drop p) = R at *
    have HP := Lib.hid (fun w h => lxPutFmt_any 5 n1 g s p T op (op.count 1) w h hs hT HNL.out)
    go_enter Tryz.func35, Tryz.ntmps35
    go_wp2_with (first | ((with_reducible refine (HN.out _).mono ?_); rintro e w1 ⟨rfl, rfl⟩))
    go_quiet (fail)
    go_wp2_with (first | ((with_reducible refine (HL.out _).mono ?_); rintro e w1 ⟨rfl, rfl⟩) | ((with_reducible refine (HD.out _).mono ?_); rintro e w1 ⟨rfl, rfl⟩) | ((with_reducible refine (HL46.out _).mono ?_); rintro e w1 ⟨rfl, rfl⟩) | ((with_reducible refine (HD46.out _).mono ?_); rintro e w1 ⟨rfl, rfl⟩) | ((with_reducible refine (HL36.out _).mono ?_); rintro e w1 ⟨rfl, rfl⟩) | ((with_reducible refine (HD36.out _).mono ?_); rintro e w1 ⟨rfl, rfl⟩) | ((with_reducible refine (HL64.out _).mono ?_); rintro e w1 ⟨rfl, rfl⟩) | ((with_reducible refine (HD64.out _).mono ?_); rintro e w1 ⟨rfl, rfl⟩) | ((with_reducible refine (HL34.out _).mono ?_); rintro e w1 ⟨rfl, rfl⟩) | ((with_reducible refine (HD34.out _).mono ?_); rintro e w1 ⟨rfl, rfl⟩))
    refine (HP.out _ (H.out.dN nq)).mono ?_
    rintro e w3 ⟨rfl, hb, hf⟩
    go_wp2
    go_ret
    exact ResTk.ok _ _ _ _ op HQ.out rfl ⟨rfl, hb, ((Fr.refl g w).dN nq).trans hf⟩
  rw [if_neg h46, if_neg h36, if_neg h64] at q
  by_cases h34 : s[p].toNat = 34
  · rw [if_pos h34] at q
    rw [decide_eq_false (by omega)] at t46 t36 t64
    rw [decide_eq_true h34] at t34
    by_cases hm : op.count 1 = 50
    · rw [if_pos hm] at q
      have HQ := Lib.hid q
      have HP := Lib.hid (fun n => lxBegin_deep g s p T op (w.drewN n) (by have := H.out.dN n; rw [hm] at this; exact this))
      have HM := Lib.hid hm
      clear q HR HSg h34 h46 h36 h64 hm
      generalize tkR op ((bl s).drop p) = R at *
      go_enter Tryz.func35, Tryz.ntmps35
      go_wp2_with (first | ((with_reducible refine (HN.out _).mono ?_); rintro e w1 ⟨rfl, rfl⟩))
      go_quiet (fail)
      go_wp2_with (first | ((with_reducible refine (HL.out _).mono ?_); rintro e w1 ⟨rfl, rfl⟩) | ((with_reducible refine (HD.out _).mono ?_); rintro e w1 ⟨rfl, rfl⟩) | ((with_reducible refine (HL46.out _).mono ?_); rintro e w1 ⟨rfl, rfl⟩) | ((with_reducible refine (HD46.out _).mono ?_); rintro e w1 ⟨rfl, rfl⟩) | ((with_reducible refine (HL36.out _).mono ?_); rintro e w1 ⟨rfl, rfl⟩) | ((with_reducible refine (HD36.out _).mono ?_); rintro e w1 ⟨rfl, rfl⟩) | ((with_reducible refine (HL64.out _).mono ?_); rintro e w1 ⟨rfl, rfl⟩) | ((with_reducible refine (HD64.out _).mono ?_); rintro e w1 ⟨rfl, rfl⟩) | ((with_reducible refine (HL34.out _).mono ?_); rintro e w1 ⟨rfl, rfl⟩) | ((with_reducible refine (HD34.out _).mono ?_); rintro e w1 ⟨rfl, rfl⟩))
      refine (HP.out nq).mono ?_
      rintro e w3 ⟨rfl, hb, hf⟩
      go_wp2
      go_ret
      refine ResTk.bad _ _ _ _ _ HQ.out (by decide) ⟨rfl, ?_, ((Fr.refl g w).dN nq).trans hf⟩
      rw [HM.out]; exact hb
    · rw [if_neg hm] at q
      have HQ := Lib.hid q
      have hcl : op.count 1 ≤ op.length := List.count_le_length
      have HP := Lib.hid (fun n => lxBegin_any g s p T op (op.count 1) (w.drewN n) (H.out.dN n) hs hT (by omega) hm (by omega) (by omega))
      clear q HR HSg h34 h46 h36 h64 hm hcl
      generalize tkR op ((bl s).drop p) = R at *
      go_enter Tryz.func35, Tryz.ntmps35
      go_wp2_with (first | ((with_reducible refine (HN.out _).mono ?_); rintro e w1 ⟨rfl, rfl⟩))
      go_quiet (fail)
      go_wp2_with (first | ((with_reducible refine (HL.out _).mono ?_); rintro e w1 ⟨rfl, rfl⟩) | ((with_reducible refine (HD.out _).mono ?_); rintro e w1 ⟨rfl, rfl⟩) | ((with_reducible refine (HL46.out _).mono ?_); rintro e w1 ⟨rfl, rfl⟩) | ((with_reducible refine (HD46.out _).mono ?_); rintro e w1 ⟨rfl, rfl⟩) | ((with_reducible refine (HL36.out _).mono ?_); rintro e w1 ⟨rfl, rfl⟩) | ((with_reducible refine (HD36.out _).mono ?_); rintro e w1 ⟨rfl, rfl⟩) | ((with_reducible refine (HL64.out _).mono ?_); rintro e w1 ⟨rfl, rfl⟩) | ((with_reducible refine (HD64.out _).mono ?_); rintro e w1 ⟨rfl, rfl⟩) | ((with_reducible refine (HL34.out _).mono ?_); rintro e w1 ⟨rfl, rfl⟩) | ((with_reducible refine (HD34.out _).mono ?_); rintro e w1 ⟨rfl, rfl⟩))
      refine (HP.out nq).mono ?_
      rintro e w3 ⟨rfl, hb, hf⟩
      go_wp2
      go_ret
      exact ResTk.ok _ _ _ _ _ HQ.out (by rw [List.count_cons_self]) ⟨rfl, hb, ((Fr.refl g w).dN nq).trans hf⟩
  rw [if_neg h34] at q
  rw [decide_eq_false h34] at t34
  rw [← q] at HSg
  clear q HR
  generalize tkR op ((bl s).drop p) = R at *
  have hcs : (((s[p].toNat : Int) == 46) = false ∧ ((s[p].toNat : Int) == 36) = false ∧ ((s[p].toNat : Int) == 64) = false) ∨ (n1 = 0 ∧ ((s[p].toNat : Int) == 46) = true ∧ ((s[p].toNat : Int) == 36) = false ∧ ((s[p].toNat : Int) == 64) = false) ∨ (n1 = 0 ∧ ((s[p].toNat : Int) == 46) = false ∧ ((s[p].toNat : Int) == 36) = true ∧ ((s[p].toNat : Int) == 64) = false) ∨ (n1 = 0 ∧ ((s[p].toNat : Int) == 46) = false ∧ ((s[p].toNat : Int) == 36) = false ∧ ((s[p].toNat : Int) == 64) = true) := by
    rw [t46, t36, t64]
    simp only [decide_eq_true_eq, decide_eq_false_iff_not]
    omega
  clear t46 t36 t64 h46 h36 h64 h34
  have fin : ∀ n e w', ResTk g s p T op R (w.drewN n) e w' → ResTk g s p T op R w e w' := by
    intro n e w' h
    unfold ResTk at h ⊢
    split
    · rename_i h0
      rw [if_pos h0] at h
      exact ⟨h.1, h.2.1, ((Fr.refl g w).dN n).trans h.2.2⟩
    · rename_i h0
      rw [if_neg h0] at h
      exact ⟨h.1, h.2.1, ((Fr.refl g w).dN n).trans h.2.2⟩
  have FIN := Lib.hid fin
  clear fin
  have hsh : ∀ n e w', ResTk g s p T op R (w.drewN n) e w' → ∃ v : Nat, e = .returned (.int .i64 (v : Int)) := by
    intro n e w' h
    unfold ResTk at h
    split at h
    · exact ⟨0, h.1⟩
    · exact ⟨_, h.1⟩
  have HSH := Lib.hid hsh
  clear hsh
  rcases hcs with ⟨t46, t36, t64⟩ | ⟨hn, t46, t36, t64⟩ | ⟨hn, t46, t36, t64⟩ | ⟨hn, t46, t36, t64⟩
  · skip
    go_enter Tryz.func35, Tryz.ntmps35
    go_wp2_with (first | ((with_reducible refine (HN.out _).mono ?_); rintro e w1 ⟨rfl, rfl⟩))
    go_quiet (fail)
    go_wp2_with (first | ((with_reducible refine (HL.out _).mono ?_); rintro e w1 ⟨rfl, rfl⟩) | ((with_reducible refine (HD.out _).mono ?_); rintro e w1 ⟨rfl, rfl⟩) | ((with_reducible refine (HL46.out _).mono ?_); rintro e w1 ⟨rfl, rfl⟩) | ((with_reducible refine (HD46.out _).mono ?_); rintro e w1 ⟨rfl, rfl⟩) | ((with_reducible refine (HL36.out _).mono ?_); rintro e w1 ⟨rfl, rfl⟩) | ((with_reducible refine (HD36.out _).mono ?_); rintro e w1 ⟨rfl, rfl⟩) | ((with_reducible refine (HL64.out _).mono ?_); rintro e w1 ⟨rfl, rfl⟩) | ((with_reducible refine (HD64.out _).mono ?_); rintro e w1 ⟨rfl, rfl⟩) | ((with_reducible refine (HL34.out _).mono ?_); rintro e w1 ⟨rfl, rfl⟩) | ((with_reducible refine (HD34.out _).mono ?_); rintro e w1 ⟨rfl, rfl⟩))
    refine (HSg.out nq).mono ?_
    rintro e w3 hr
    obtain ⟨v, rfl⟩ := HSH.out _ _ _ hr
    have HRR := Lib.hid (FIN.out _ _ _ hr)
    clear hr
    go_wp2
    go_ret
    exact HRR.out
  all_goals
    have hn' : ¬ (p : Int) + 1 < (p : Int) + 1 + (n1 : Int) := by omega
    clear hn
    go_enter Tryz.func35, Tryz.ntmps35
    go_wp2_with (first | ((with_reducible refine (HN.out _).mono ?_); rintro e w1 ⟨rfl, rfl⟩))
    go_quiet (fail)
    go_wp2_with (first | ((with_reducible refine (HL.out _).mono ?_); rintro e w1 ⟨rfl, rfl⟩) | ((with_reducible refine (HD.out _).mono ?_); rintro e w1 ⟨rfl, rfl⟩) | ((with_reducible refine (HL46.out _).mono ?_); rintro e w1 ⟨rfl, rfl⟩) | ((with_reducible refine (HD46.out _).mono ?_); rintro e w1 ⟨rfl, rfl⟩) | ((with_reducible refine (HL36.out _).mono ?_); rintro e w1 ⟨rfl, rfl⟩) | ((with_reducible refine (HD36.out _).mono ?_); rintro e w1 ⟨rfl, rfl⟩) | ((with_reducible refine (HL64.out _).mono ?_); rintro e w1 ⟨rfl, rfl⟩) | ((with_reducible refine (HD64.out _).mono ?_); rintro e w1 ⟨rfl, rfl⟩) | ((with_reducible refine (HL34.out _).mono ?_); rintro e w1 ⟨rfl, rfl⟩) | ((with_reducible refine (HD34.out _).mono ?_); rintro e w1 ⟨rfl, rfl⟩))
    refine (HSg.out nq).mono ?_
    rintro e w3 hr
    obtain ⟨v, rfl⟩ := HSH.out _ _ _ hr
    have HRR := Lib.hid (FIN.out _ _ _ hr)
    clear hr
    go_wp2
    go_ret
    exact HRR.out
end Go.Proofs.YtpgiljibicigeaaGreatDoor
