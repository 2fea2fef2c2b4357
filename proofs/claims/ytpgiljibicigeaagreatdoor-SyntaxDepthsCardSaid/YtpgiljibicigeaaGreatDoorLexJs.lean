/- lex: begin, end, enter walked. -/
import Derived.Test.YtpgiljibicigeaaGreatDoorLexGs
import Derived.Test.YtpgiljibicigeaaGreatDoorQuoXs
import Derived.Test.YtpgiljibicigeaaGreatDoorQuoPs
set_option linter.unusedVariables false
set_option linter.unusedSimpArgs false
namespace Go.Proofs.YtpgiljibicigeaaGreatDoor
open Go.RowKit UM QM LX

/-- a token without a text, laid at the next place -/
theorem lxMark_any (kind d : Nat) (g : Nat) (s : ByteArray) (p : Nat) (T : List Tk) (op : List Nat) (m : Nat) (w : World) (h : LB w g s p T op m) (hs : s.size ≤ 100000) (hT : T.length ≤ 1000000) (h1 : p + d ≤ s.size) :
    Calls Tryz.prog 54 #[.pointer (some ⟨g, 0, none⟩), .int .i64 (kind : Int), .int .i64 ((p : Int) + (d : Int)), .int .i64 ((p : Int) + (d : Int))] w (ResL g s (p + d) (T ++ [(kind, [], p)]) op m (.tuple #[]) w) := by
  have := lxPut_any kind (p + d) (p + d) g s p T op m w h hs hT (Nat.le_refl _) h1
  rw [Nat.sub_self, List.take_zero] at this
  exact this
theorem LB.dN {w : World} {g : Nat} {s : ByteArray} {p : Nat} {T : List Tk} {op : List Nat} {m : Nat} (h : LB w g s p T op m) (n : Nat) : LB (w.drewN n) g s p T op m := by
  obtain ⟨a1, k1, a2, k2, h⟩ := h
  exact ⟨a1, k1, a2, k2, h.dN n⟩
theorem LB.lt {w : World} {g : Nat} {s : ByteArray} {p : Nat} {T : List Tk} {op : List Nat} {m : Nat} (h : LB w g s p T op m) : g < w.heap.size := by
  obtain ⟨a1, k1, a2, k2, h⟩ := h
  exact h.lt
theorem LB.cells {w : World} {g : Nat} {s : ByteArray} {p : Nat} {T : List Tk} {op : List Nat} {m : Nat} (h : LB w g s p T op m) : w.cell? ⟨g, 0, none⟩ = some (.string s) ∧ w.cell? ⟨g, 1, none⟩ = some (.int .i64 (p : Int)) ∧ w.cell? ⟨g, 4, none⟩ = some (.int .i64 (m : Int)) ∧ (∀ j, w.frozen? ⟨g, j, none⟩ = false) ∧ p ≤ s.size := by
  obtain ⟨a1, k1, a2, k2, h⟩ := h
  exact ⟨h.c0, h.c1, h.c4, h.fz, h.pl⟩
theorem LB.keep {w : World} {g : Nat} {s : ByteArray} {p : Nat} {T : List Tk} {op : List Nat} {m : Nat} (h : LB w g s p T op m) (m' : Nat) {v : Int} (hv : v = (m' : Int)) : LB (w.setCell ⟨g, 4, none⟩ (.int .i64 v)) g s p T op m' := by
  obtain ⟨a1, k1, a2, k2, h⟩ := h
  exact ⟨a1, k1, a2, k2, h.keep m' hv⟩
set_option maxRecDepth 100000 in
set_option maxHeartbeats 4000000 in
theorem lxEnter_any (g : Nat) (s : ByteArray) (p : Nat) (T : List Tk) (op : List Nat) (m : Nat) (w : World) (h : LB w g s p T op m) (hs : s.size ≤ 100000) (hT : T.length ≤ 1000000) (hl : op.length ≤ 1000000) (h1 : p + 2 ≤ s.size) :
    Calls Tryz.prog 48 #[.pointer (some ⟨g, 0, none⟩)] w (ResL g s (p + 2) (T ++ [(9, [], p)]) (2 :: op) m (.tuple #[]) w) := by
  have HP := Lib.hid (lxPush_any 2 g s p T op m w h hl)
  have HM := Lib.hid (fun w h => lxMark_any 9 2 g s p T (2 :: op) m w h hs hT h1)
  clear h
  go_enter Tryz.func48, Tryz.ntmps48
  go_wp2_with fail
  refine HP.out.mono ?_
  rintro e w1 ⟨rfl, ⟨a1, k1, a2, k2, hb⟩, hf⟩
  have H1 := Lib.hid hb; have F1 := Lib.hid hf
  have c1 := hb.c1
  have hp := hb.pl
  have s0 : IntKind.i64.wrap ((p : Int) + 2) = (p : Int) + 2 := IntWalk.i64_in _ (by omega)
  clear hb hf HP
  go_wp2_with fail
  go_still_tail 11, (by kernel_rfl)
  change wpList _ _ _ _ _ w1.drew
  have H2 : Hid (LB w1.drew g s p T (2 :: op) m) := Lib.hid ⟨a1, k1, a2, k2, H1.out.dN 1⟩
  have F2 : Hid (Fr g w w1.drew) := Lib.hid (F1.out.dN 1)
  clear H1 F1 c1
  generalize w1.drew = w2 at *
  go_wp2_with fail
  refine (HM.out w2 H2.out).mono ?_
  rintro e w3 ⟨rfl, hb, hf⟩
  have H3 := Lib.hid hb; have F3 := Lib.hid (F2.out.trans hf)
  clear hb hf
  go_wp2
  refine bodyPost_end (v := .tuple #[]) (by simp [results, Tryz.results48, go_sem]) rfl ?_
  exact ⟨rfl, H3.out, F3.out⟩
set_option maxRecDepth 100000 in
set_option maxHeartbeats 4000000 in
theorem lxEnd_any (x : Nat) (g : Nat) (s : ByteArray) (p : Nat) (T : List Tk) (op : List Nat) (m : Nat) (w : World) (h : LB w g s p T (x :: op) (m + 1)) (hs : s.size ≤ 100000) (hT : T.length ≤ 1000000) (hl : op.length ≤ 1000000) (hm : m ≤ 1000000) (h1 : p + 1 ≤ s.size) :
    Calls Tryz.prog 46 #[.pointer (some ⟨g, 0, none⟩)] w (ResL g s (p + 1) (T ++ [(11, [], p)]) op m (.tuple #[]) w) := by
  have HM := Lib.hid (fun w h => lxMark_any 11 1 g s p T op m w h hs hT h1)
  have HP := Lib.hid (fun w h => lxPop_any x g s p T op m w h hl)
  obtain ⟨_, _, c4, fz, hp⟩ := h.cells
  have hg := h.lt
  have s1 : IntKind.i64.wrap (((m + 1 : Nat) : Int) - 1) = (m : Int) := by rw [show ((m + 1 : Nat) : Int) - 1 = (m : Int) by omega]; exact IntWalk.i64_in _ (by omega)
  have H0 : Hid (LB (w.setCell ⟨g, 4, none⟩ (.int .i64 (m : Int))) g s p T (x :: op) m) := Lib.hid (h.keep m rfl)
  have F0 : Hid (Fr g w (w.setCell ⟨g, 4, none⟩ (.int .i64 (m : Int)))) := Lib.hid (Fr.gb (gb_set (gb_refl _ _) _ _) (Nat.le_of_lt hg))
  obtain ⟨K, hK⟩ : ∃ K, m + 1 = K := ⟨_, rfl⟩
  rw [hK] at c4 s1
  have hK2 : 1 ≤ K := by omega
  have hK3 : K ≤ 1000001 := by omega
  have s2 : (K : Int) - 1 = (m : Int) := by omega
  have s0 : IntKind.i64.wrap ((p : Int) + 1) = (p : Int) + 1 := IntWalk.i64_in _ (by omega)
  clear hK h
  go_enter Tryz.func46, Tryz.ntmps46
  go_wp2_with fail
  refine (HP.out _ H0.out).mono ?_
  rintro e w1 ⟨rfl, hb, hf⟩
  have H1 := Lib.hid hb; have F1 := Lib.hid (F0.out.trans hf)
  clear hf HP H0 F0 c4 fz s1 s2
  obtain ⟨_, c1, _, _, _⟩ := hb.cells
  clear hb
  go_wp2_with fail
  go_still_tail 11, (by kernel_rfl)
  change wpList _ _ _ _ _ w1.drew
  have H2 : Hid (LB w1.drew g s p T op m) := Lib.hid (H1.out.dN 1)
  have F2 : Hid (Fr g w w1.drew) := Lib.hid (F1.out.dN 1)
  clear H1 F1 c1
  generalize w1.drew = w2 at *
  go_wp2_with fail
  refine (HM.out w2 H2.out).mono ?_
  rintro e w3 ⟨rfl, hb, hf⟩
  have H3 := Lib.hid hb; have F3 := Lib.hid (F2.out.trans hf)
  clear hb hf
  go_wp2
  refine bodyPost_end (v := .tuple #[]) (by simp [results, Tryz.results46, go_sem]) rfl ?_
  exact ⟨rfl, H3.out, F3.out⟩
set_option maxRecDepth 100000 in
set_option maxHeartbeats 4000000 in
theorem lxBegin_any (g : Nat) (s : ByteArray) (p : Nat) (T : List Tk) (op : List Nat) (m : Nat) (w : World) (h : LB w g s p T op m) (hs : s.size ≤ 100000) (hT : T.length ≤ 1000000) (hl : op.length ≤ 1000000) (hm : m ≠ 50) (hm2 : m ≤ 1000000) (h1 : p + 1 ≤ s.size) :
    Calls Tryz.prog 57 #[.pointer (some ⟨g, 0, none⟩)] w (ResL g s (p + 1) (T ++ [(7, [], p)]) (1 :: op) (m + 1) (.int .i64 0) w) := by
  have HM := Lib.hid (fun w h => lxMark_any 7 1 g s p T (1 :: op) (m + 1) w h hs hT h1)
  have HP := Lib.hid (fun w h => lxPush_any 1 g s p T op (m + 1) w h hl)
  obtain ⟨_, _, c4, fz, hp⟩ := h.cells
  have hg := h.lt
  have t0 : ((m : Int) == 50) = false := by rw [beq_eq_false_iff_ne]; omega
  have H0 : Hid (LB (w.setCell ⟨g, 4, none⟩ (.int .i64 ((m : Int) + 1))) g s p T op (m + 1)) := Lib.hid (h.keep (m + 1) (by omega))
  have F0 : Hid (Fr g w (w.setCell ⟨g, 4, none⟩ (.int .i64 ((m : Int) + 1)))) := Lib.hid (Fr.gb (gb_set (gb_refl _ _) _ _) (Nat.le_of_lt hg))
  have s0 : IntKind.i64.wrap ((p : Int) + 1) = (p : Int) + 1 := IntWalk.i64_in _ (by omega)
  clear h hm
  go_enter Tryz.func57, Tryz.ntmps57
  go_wp2_with fail
  refine (HP.out _ H0.out).mono ?_
  rintro e w1 ⟨rfl, hb, hf⟩
  have H1 := Lib.hid hb; have F1 := Lib.hid (F0.out.trans hf)
  clear hf HP H0 F0 c4 fz t0
  obtain ⟨_, c1, _, _, _⟩ := hb.cells
  clear hb
  go_wp2_with fail
  go_still_tail 11, (by kernel_rfl)
  change wpList _ _ _ _ _ w1.drew
  have H2 : Hid (LB w1.drew g s p T (1 :: op) (m + 1)) := Lib.hid (H1.out.dN 1)
  have F2 : Hid (Fr g w w1.drew) := Lib.hid (F1.out.dN 1)
  clear H1 F1 c1
  generalize w1.drew = w2 at *
  go_wp2_with fail
  refine (HM.out w2 H2.out).mono ?_
  rintro e w3 ⟨rfl, hb, hf⟩
  have H3 := Lib.hid hb; have F3 := Lib.hid (F2.out.trans hf)
  clear hb hf
  go_wp2
  go_ret
  exact ⟨rfl, H3.out, F3.out⟩
set_option maxHeartbeats 1000000 in
theorem lxBegin_deep (g : Nat) (s : ByteArray) (p : Nat) (T : List Tk) (op : List Nat) (w : World) (h : LB w g s p T op 50) :
    Calls Tryz.prog 57 #[.pointer (some ⟨g, 0, none⟩)] w (ResL g s p T op 50 (.int .i64 6) w) := by
  have H := Lib.hid h
  obtain ⟨_, _, c4, fz, hp⟩ := h.cells
  clear h
  go_enter Tryz.func57, Tryz.ntmps57
  go_wp2
  go_ret
  exact ⟨rfl, H.out, Fr.refl _ _⟩
end Go.Proofs.YtpgiljibicigeaaGreatDoor

/- lex: a row of pieces with backslashes, read whole. Nothing of the program. -/
namespace Go.Proofs.YtpgiljibicigeaaGreatDoor.LX
open Go.Proofs.YtpgiljibicigeaaGreatDoor UM QM

/-- a row of pieces; true: the last one is cut -/
inductive Rw : Bool → List Nat → Prop
  | nil : Rw false []
  | one : Rw true [92]
  | cutu (x : List Nat) (h : x.length < 4) : Rw true (92 :: 117 :: x)
  | two (b : Bool) (c : Nat) (t : List Nat) (h : c ≠ 117) (r : Rw b t) : Rw b (92 :: c :: t)
  | six (b : Bool) (a1 a2 a3 a4 : Nat) (t : List Nat) (r : Rw b t) : Rw b (92 :: 117 :: a1 :: a2 :: a3 :: a4 :: t)
theorem row_rw : ∀ (f : Nat) (r : List Nat), r.length ≤ f → (ecR f r ≤ r.length → Rw false (r.take (ecR f r))) ∧ (r.length < ecR f r → Rw true r)
  | 0, r, h => by
    have : r = [] := List.length_eq_zero_iff.1 (by omega)
    subst this
    exact ⟨fun _ => Rw.nil, fun h => by simp [ecR] at h⟩
  | f + 1, [], _ => ⟨fun _ => Rw.nil, fun h => by simp [ecR] at h⟩
  | f + 1, c :: t, h => by
    simp only [ecR]
    by_cases h92 : c = 92
    · rw [if_pos h92]
      subst h92
      by_cases h40 : t.head? = some 40
      · rw [if_pos h40]; exact ⟨fun _ => by rw [List.take_zero]; exact Rw.nil, fun h => absurd h (by omega)⟩
      rw [if_neg h40]
      by_cases h117 : t.head? = some 117
      · rw [if_pos h117]
        match t, h117, h with
        | x :: u, h117, h =>
          have hx : x = 117 := by simpa using h117
          subst hx
          match u, h with
          | [], _ => exact ⟨fun h => by simp at h, fun _ => Rw.cutu [] (by decide)⟩
          | [a], _ => exact ⟨fun h => by simp at h, fun _ => Rw.cutu [a] (by simp)⟩
          | [a, b], _ => exact ⟨fun h => by simp at h, fun _ => Rw.cutu [a, b] (by simp)⟩
          | [a, b, d], _ => exact ⟨fun h => by simp at h, fun _ => Rw.cutu [a, b, d] (by simp)⟩
          | a :: b :: d :: e :: v, h =>
            obtain ⟨i1, i2⟩ := row_rw f v (by simp at h; omega)
            simp only [List.drop_succ_cons, List.drop_zero, List.length_cons]
            refine ⟨fun hl => ?_, fun hl => Rw.six true a b d e v (i2 (by omega))⟩
            simp only [List.take_succ_cons]
            exact Rw.six false a b d e _ (i1 (by omega))
      · rw [if_neg h117]
        match t, h117, h with
        | [], _, _ => exact ⟨fun h => by simp at h, fun _ => Rw.one⟩
        | x :: u, h117, h =>
          have hx : x ≠ 117 := by simpa using h117
          obtain ⟨i1, i2⟩ := row_rw f u (by simp at h; omega)
          simp only [List.drop_succ_cons, List.drop_zero, List.length_cons]
          refine ⟨fun hl => ?_, fun hl => Rw.two true x u hx (i2 (by omega))⟩
          simp only [List.take_succ_cons]
          exact Rw.two false x _ hx (i1 (by omega))
    · rw [if_neg h92]; exact ⟨fun _ => by rw [List.take_zero]; exact Rw.nil, fun h => absurd h (by omega)⟩
theorem unitF_fail {l : List Nat} : ∀ {n k h : Nat}, (unitF l n k h).2.1 = false → (unitF l n k h).2.2 < k + n := by
  intro n
  induction n with
  | zero => intro k h hh; simp [unitF] at hh
  | succ n ih =>
    intro k h hh
    simp only [unitF] at hh ⊢
    cases hd : dgv (pk l k) with
    | none => simp
    | some d =>
      rw [hd] at hh
      have := ih hh
      simp only
      omega
theorem drop_pk {l x r : List Nat} {j c : Nat} (h : l.drop j = x ++ c :: r) : pk l (j + x.length) = (c : Nat) := by
  refine pk_of (r := r) ?_
  rw [← List.drop_drop, h, List.drop_left]
theorem un_cut {l x : List Nat} {j : Nat} (h : l.drop j = x ++ [34]) (hx : x.length < 4) : (un l j).2.1 = false := by
  rw [Bool.eq_false_iff]
  intro hc
  have := (unit_dig (l := l) (m := 4) (k := j) (x := 0) hc).2 x.length hx
  rw [drop_pk h] at this
  exact this rfl
theorem drop_len {l x : List Nat} {k : Nat} (h : l.drop k = x) (hx : x ≠ []) : l.length = k + x.length := by
  have := congrArg List.length h
  rw [List.length_drop] at this
  have : 0 < x.length := List.length_pos_iff.2 hx
  omega
theorem pk_end {l : List Nat} {k : Nat} (h : l.drop k = []) : pk l k = -1 := by
  unfold QM.pk
  rw [if_neg (by have := List.drop_eq_nil_iff.1 h; omega)]
/-- what a row does to a reader -/
def RwP (b : Bool) (t : List Nat) : Prop := ∀ {l : List Nat} {k : Nat} {xs : List Int} {e err : Nat}, l.drop k = t ++ [34] → Tl l k xs e err → (b = true → err ≠ 0) ∧ (b = false → err ≠ 0 → e < l.length)
theorem rw_tl : ∀ (n : Nat) {b : Bool} {t : List Nat}, t.length ≤ n → Rw b t → RwP b t := by
  intro n
  induction n with
  | zero =>
    intro b t hn hr
    have : t = [] := List.length_eq_zero_iff.1 (by omega)
    subst this
    cases hr
    intro l k xs e err hd ht
    have hp := pk_of hd
    cases ht with
    | stop _ => exact ⟨fun h => by simp at h, fun _ h => absurd rfl h⟩
    | bad h _ => exact absurd hp h
    | go h _ _ => exact absurd hp h
  | succ n ih =>
    intro b t hn hr l k xs e err hd ht
    cases hr with
    | nil =>
      have hp := pk_of hd
      cases ht with
      | stop _ => exact ⟨fun h => by simp at h, fun _ h => absurd rfl h⟩
      | bad h _ => exact absurd hp h
      | go h _ _ => exact absurd hp h
    | one =>
      have h0 := pk_of hd
      have h1 := pk_of (drop_next hd)
      have h2 := pk_end (drop_next (drop_next hd))
      have hpf : pieceF l k = (34, true, k + 2) := by rw [piece_esc h0]; unfold escF; rw [h1]; rfl
      refine ⟨fun _ => ?_, fun h => by simp at h⟩
      cases ht with
      | stop h => rw [h0] at h; exact absurd h (by decide)
      | bad _ h => rw [hpf] at h; cases h
      | go _ _ t2 =>
        rw [hpf] at t2
        cases t2 with
        | stop h => rw [h2] at h; exact absurd h (by decide)
        | bad _ _ => exact fault_ne _ _
        | go _ h _ => unfold pieceF at h; rw [h2, if_pos (by decide)] at h; cases h
    | cutu x hx =>
      have h0 := pk_of hd
      have h1 := pk_of (drop_next hd)
      have hu := un_cut (drop_next (drop_next hd)) hx
      have hpf : (pieceF l k).2.1 = false := by
        rw [piece_esc h0]; unfold escF; rw [h1]
        simp only [show ((117 : Nat) : Int) = 117 from rfl]
        unfold codedF
        rw [show k + 1 + 1 = k + 2 by omega] at *
        rw [if_pos hu]; rfl
      refine ⟨fun _ => ?_, fun h => by simp at h⟩
      cases ht with
      | stop h => rw [h0] at h; exact absurd h (by decide)
      | bad _ _ => exact fault_ne _ _
      | go _ h _ => rw [hpf] at h; cases h
    | two _ c t hc r =>
      have h0 := pk_of hd
      have h1 := pk_of (drop_next hd)
      have hl := drop_len hd (by simp)
      simp only [List.length_append, List.length_cons, List.length_nil] at hl hn
      have hcI : ((c : Nat) : Int) ≠ 117 := by omega
      have hpf : (pieceF l k).2.1 = true → (pieceF l k).2.2 = k + 2 := by
        rw [piece_esc h0]; unfold escF
        intro h
        split; · rfl
        split; · rfl
        split; · rfl
        split; · rfl
        split; · rfl
        split; · rfl
        rename_i a1 a2 a3 a4 a5 a6
        rw [if_neg a1, if_neg a2, if_neg a3, if_neg a4, if_neg a5, if_neg a6] at h
        rw [h1, if_neg hcI] at h
        cases h
      have hpb : (pieceF l k).2.1 = false → (pieceF l k).2.2 = k + 1 := by
        rw [piece_esc h0]; unfold escF
        intro h
        split; · rename_i a; rw [if_pos a] at h; cases h
        rename_i a1; rw [if_neg a1] at h
        split; · rename_i a; rw [if_pos a] at h; cases h
        rename_i a2; rw [if_neg a2] at h
        split; · rename_i a; rw [if_pos a] at h; cases h
        rename_i a3; rw [if_neg a3] at h
        split; · rename_i a; rw [if_pos a] at h; cases h
        rename_i a4; rw [if_neg a4] at h
        split; · rename_i a; rw [if_pos a] at h; cases h
        rename_i a5; rw [if_neg a5] at h
        split; · rename_i a; rw [if_pos a] at h; cases h
        rename_i a6; rw [if_neg a6] at h
        rw [h1, if_neg hcI]
      cases ht with
      | stop h => rw [h0] at h; exact absurd h (by decide)
      | bad _ h =>
        rw [hpb h]
        exact ⟨fun _ => fault_ne _ _, fun _ _ => by omega⟩
      | go _ h t2 =>
        rw [hpf h] at t2
        exact ih (by omega) r (drop_next (drop_next hd)) t2
    | six _ a1 a2 a3 a4 t r =>
      have h0 := pk_of hd
      have h1 := pk_of (drop_next hd)
      have d6 : l.drop (k + 6) = t ++ [34] := drop_next (drop_next (drop_next (drop_next (drop_next (drop_next hd)))))
      have hl := drop_len hd (by simp)
      simp only [List.length_append, List.length_cons, List.length_nil] at hl hn
      have hpf : pieceF l k = codedF l (k + 2) := by
        rw [piece_esc h0]; unfold escF; rw [h1]; rfl
      by_cases hu : (un l (k + 2)).2.1 = false
      · have hf := unitF_fail hu
        have hpc : pieceF l k = (0, false, (un l (k + 2)).2.2) := by rw [hpf]; unfold codedF; rw [if_pos hu]
        have hlt : (un l (k + 2)).2.2 < k + 6 := hf
        cases ht with
        | stop h => rw [h0] at h; exact absurd h (by decide)
        | bad _ _ =>
          rw [hpc]
          exact ⟨fun _ => fault_ne _ _, fun _ _ => by simp only; omega⟩
        | go _ h _ => rw [hpc] at h; cases h
      · have hu' : (un l (k + 2)).2.1 = true := by simpa using hu
        have h4 := un_four hu'
        have key : ∀ (x : Int), pieceF l k = (x, true, k + 6) → (b = true → err ≠ 0) ∧ (b = false → err ≠ 0 → e < l.length) := by
          intro x hx
          cases ht with
          | stop h => rw [h0] at h; exact absurd h (by decide)
          | bad _ h => rw [hx] at h; cases h
          | go _ _ t2 =>
            rw [hx] at t2
            exact ih (by omega) r d6 t2
        by_cases hs : (un l (k + 2)).1 < 55296 ∨ 57343 < (un l (k + 2)).1
        · exact key _ (by rw [hpf]; unfold codedF; rw [if_neg hu, if_pos hs, h4])
        by_cases hs2 : 56320 ≤ (un l (k + 2)).1
        · exact key _ (by rw [hpf]; unfold codedF; rw [if_neg hu, if_neg hs, if_pos hs2, h4])
        by_cases hw : (lowF l (un l (k + 2)).2.2).2.1 = true
        · have h12 := low_six hw
          rw [h4] at hw h12
          have hpc : ∃ x, pieceF l k = (x, true, k + 12) := ⟨_, by rw [hpf]; unfold codedF; rw [if_neg hu, if_neg hs, if_neg hs2, if_pos (by rw [h4]; exact hw), h4, h12]⟩
          obtain ⟨x, hx⟩ := hpc
          have hp6 : pk l (k + 6) = 92 := by
            unfold lowF at hw
            by_cases h : pk l (k + 2 + 4) ≠ 92
            · rw [if_pos h] at hw; cases hw
            · simpa using h
          have hp7 : pk l (k + 7) = 117 := by
            unfold lowF at hw
            rw [if_neg (by simpa using hp6)] at hw
            by_cases h : pk l (k + 2 + 4 + 1) ≠ 117
            · rw [if_pos h] at hw; cases hw
            · simpa using h
          have hu8 : (un l (k + 8)).2.1 = true := by
            unfold lowF at hw
            rw [if_neg (by simpa using hp6), if_neg (by simpa using hp7)] at hw
            simp only [Bool.and_eq_true] at hw
            exact hw.1.1
          cases r with
          | nil => rw [pk_of d6] at hp6; exact absurd hp6 (by decide)
          | one => rw [show k + 7 = k + 6 + 1 by omega, pk_of (drop_next d6)] at hp7; exact absurd hp7 (by decide)
          | cutu y hy =>
            have := un_cut (drop_next (drop_next d6)) hy
            rw [show k + 6 + 1 + 1 = k + 8 by omega, hu8] at this; cases this
          | two _ c t hc r =>
            rw [show k + 7 = k + 6 + 1 by omega, pk_of (drop_next d6)] at hp7; omega
          | six _ a1 a2 a3 a4 t r =>
            have d12 : l.drop (k + 12) = t ++ [34] := drop_next (drop_next (drop_next (drop_next (drop_next (drop_next d6)))))
            cases ht with
            | stop h => rw [h0] at h; exact absurd h (by decide)
            | bad _ h => rw [hx] at h; cases h
            | go _ _ t2 =>
              rw [hx] at t2
              simp only [List.length_cons] at hn
              exact ih (by omega) r d12 t2
        · exact key _ (by rw [hpf]; unfold codedF; rw [if_neg hu, if_neg hs, if_neg hs2, if_neg hw, h4])
/-- what quote.Read tells of a row -/
theorem rdR_row (r : List Nat) (h92 : r.head? = some 92) (h40 : (r.drop 1).head? ≠ some 40) :
    RdR (34 :: rowR r ++ [34]) (rdR r).1 (rdR r).2.1 (rdR r).2.2 ∧ (r.length < ecR r.length r → (rdR r).2.2 ≠ 0) ∧ (ecR r.length r ≤ r.length → (rdR r).2.2 ≠ 0 → (rdR r).2.1 ≤ (rowR r).length + 1) ∧ 2 ≤ (rdR r).2.1 ∧ (rdR r).2.1 ≤ (rowR r).length + 2 ∧ ((rdR r).2.2 = 0 → (rdR r).1 ≠ []) ∧ (rowR r).head? = some 92 := by
  obtain ⟨c, t, rfl⟩ : ∃ c t, r = c :: t := by
    cases r with
    | nil => simp at h92
    | cons c t => exact ⟨c, t, rfl⟩
  have hc : c = 92 := by simpa using h92
  subst hc
  have hec : 2 ≤ ecR (92 :: t).length (92 :: t) := by
    simp only [List.length_cons, ecR]
    rw [if_pos trivial, if_neg (by simpa using h40)]
    split <;> omega
  have hrow : ∃ u, rowR (92 :: t) = 92 :: u := by
    unfold rowR
    obtain ⟨m, hm⟩ : ∃ m, ecR (92 :: t).length (92 :: t) = m + 1 := ⟨_, (by omega : _ = (ecR (92 :: t).length (92 :: t) - 1) + 1)⟩
    rw [hm]; exact ⟨_, rfl⟩
  obtain ⟨u, hu⟩ := hrow
  have hspec := rdP_spec (34 :: rowR (92 :: t) ++ [34])
  have hd1 : (34 :: rowR (92 :: t) ++ [34]).drop 1 = rowR (92 :: t) ++ [34] := rfl
  have hp0 : pk (34 :: rowR (92 :: t) ++ [34]) 0 = 34 := pk_of (l := 34 :: rowR (92 :: t) ++ [34]) (k := 0) (r := rowR (92 :: t) ++ [34]) (c := 34) rfl
  have hp1 : pk (34 :: rowR (92 :: t) ++ [34]) 1 = 92 := pk_of (r := u ++ [34]) (by rw [hd1, hu]; rfl)
  have hT : Tl (34 :: rowR (92 :: t) ++ [34]) 1 (rdR (92 :: t)).1 (rdR (92 :: t)).2.1 (rdR (92 :: t)).2.2 := by
    rcases hspec with ⟨h, _⟩ | ⟨_, h⟩
    · exact absurd hp0 h
    · exact h
  have hlen : (34 :: rowR (92 :: t) ++ [34]).length = (rowR (92 :: t)).length + 2 := by simp
  refine ⟨hspec, fun hcut => ?_, fun hle herr => ?_, ?_, ?_, fun h0 => ?_, by rw [hu]; rfl⟩
  · have hr := (row_rw (92 :: t).length (92 :: t) (Nat.le_refl _)).2 hcut
    have he : rowR (92 :: t) = 92 :: t := by unfold rowR; exact List.take_of_length_le (by omega)
    have hr' : Rw true (rowR (92 :: t)) := by rw [he]; exact hr
    exact (rw_tl _ (Nat.le_refl _) hr' hd1 hT).1 rfl
  · have hr := (row_rw (92 :: t).length (92 :: t) (Nat.le_refl _)).1 hle
    have := (rw_tl _ (Nat.le_refl _) hr hd1 hT).2 rfl herr
    rw [hlen] at this; omega
  · generalize (rdR (92 :: t)).1 = xs at hT
    generalize (rdR (92 :: t)).2.1 = e at hT ⊢
    generalize (rdR (92 :: t)).2.2 = err at hT
    have hge : 2 ≤ (pieceF (34 :: rowR (92 :: t) ++ [34]) 1).2.2 := by
      rw [piece_esc hp1]
      have : pieceF (34 :: rowR (92 :: t) ++ [34]) 1 = escF (34 :: rowR (92 :: t) ++ [34]) 2 := piece_esc hp1
      exact esc_ge _ _
    cases hT with
    | stop h => rw [hp1] at h; exact absurd h (by decide)
    | bad _ _ => exact hge
    | go _ _ t2 => exact Nat.le_trans hge t2.le
  · have := RdR.fin hspec
    rw [hlen] at this; exact this
  · generalize (rdR (92 :: t)).1 = xs at hT ⊢
    generalize (rdR (92 :: t)).2.1 = e at hT
    generalize (rdR (92 :: t)).2.2 = err at hT h0
    cases hT with
    | stop h => rw [hp1] at h; exact absurd h (by decide)
    | bad _ _ => exact absurd h0 (fault_ne _ _)
    | go _ _ _ => simp
end Go.Proofs.YtpgiljibicigeaaGreatDoor.LX
