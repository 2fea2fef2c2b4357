/- lex: push, pop, begin, end, enter walked. -/
import Derived.Test.YtpgiljibicigeaaGreatDoorMarKs
import Derived.BigRegion
set_option linter.unusedVariables false
set_option linter.unusedSimpArgs false
namespace Go.Proofs.YtpgiljibicigeaaGreatDoor
open Go.RowKit UM QM LX

theorem infoU8v : (Tryz.prog.info? 5).map (fun i => (i.zero, i.size, i.bytes)) = some (some (.int .u8 0), 1, 1) := by kernel_rfl
theorem LBX.keep {w : World} {g : Nat} {s : ByteArray} {p : Nat} {T : List Tk} {op : List Nat} {m : Nat} {a1 : Option Addr} {k1 : Nat} {a2 : Option Addr} {k2 : Nat} (h : LBX w g s p T op m a1 k1 a2 k2) (m' : Nat) {v : Int} (hv : v = (m' : Int)) : LBX (w.setCell ⟨g, 4, none⟩ (.int .i64 v)) g s p T op m' a1 k1 a2 k2 := by
  subst hv
  have hg := gb_set (gb_refl w (some g)) 4 (.int .i64 (m' : Int))
  refine ⟨?_, ?_, ?_, ?_, by simp [go_sem, h.c4], fun j => by simp [go_sem, h.fz j], h.ot.gbl hg (Nat.lt_succ_self _), h.oo.gbl hg (Nat.lt_succ_self _), h.pl⟩
  · rw [World.cell?_setCell_other _ _ _ _ (by simp)]; exact h.c0
  · rw [World.cell?_setCell_other _ _ _ _ (by simp)]; exact h.c1
  · rw [World.cell?_setCell_other _ _ _ _ (by simp)]; exact h.c2
  · rw [World.cell?_setCell_other _ _ _ _ (by simp)]; exact h.c3
theorem LBX.putO {w w' : World} {g : Nat} {s : ByteArray} {p : Nat} {T : List Tk} {op op' : List Nat} {m : Nat} {a1 : Option Addr} {k1 : Nat} {a2 a2' : Option Addr} {k2 k2' n : Nat} (h : LBX w g s p T op m a1 k1 a2 k2) (hb : Below (g + 1) w w') (ho : Oth w w' a2) (hn : OwnV w' (g + 1) 5 1 a2' op'.length k2' (cs .u8 op'.reverse)) (hl : n = op'.length) :
    LBX (w'.setCell ⟨g, 3, none⟩ (.slice a2' n k2')) g s p T op' m a1 k1 a2' k2' := by
  subst hl
  have hs := gb_set (gb_refl w' (some g)) 3 (.slice a2' op'.length k2')
  have key : ∀ (j : Nat) (v : Value), w.cell? ⟨g, j, none⟩ = some v → w'.cell? ⟨g, j, none⟩ = some v := fun j v e => by rw [hb.cell (Nat.lt_succ_self g)]; exact e
  refine ⟨?_, ?_, ?_, by simp [go_sem, key _ _ h.c3], ?_, fun j => ?_, ((h.ot.oth ho (own_ne h.ot h.oo (by decide)))).gbl hs (Nat.lt_succ_self _), hn.gbl hs (Nat.lt_succ_self _), h.pl⟩
  · rw [World.cell?_setCell_other _ _ _ _ (by simp)]; exact key _ _ h.c0
  · rw [World.cell?_setCell_other _ _ _ _ (by simp)]; exact key _ _ h.c1
  · rw [World.cell?_setCell_other _ _ _ _ (by simp)]; exact key _ _ h.c2
  · rw [World.cell?_setCell_other _ _ _ _ (by simp)]; exact key _ _ h.c4
  · rw [World.frozen?_setCell]; exact (hb.frozen (p := ⟨g, j, none⟩) (Nat.lt_succ_self g)).trans (h.fz j)
set_option maxRecDepth 100000 in
set_option maxHeartbeats 4000000 in
theorem lxPush_any (x : Nat) (g : Nat) (s : ByteArray) (p : Nat) (T : List Tk) (op : List Nat) (m : Nat) (w : World) (h : LB w g s p T op m) (hl : op.length ≤ 1000000) :
    Calls Tryz.prog 69 #[.pointer (some ⟨g, 0, none⟩), .int .u8 (x : Int)] w (ResL g s p T (x :: op) m (.tuple #[]) w) := by
  obtain ⟨a1, c1', a2, c2', h⟩ := h
  have HX := Lib.hid h
  have hg := h.lt
  have c3 := h.c3
  clear h
  go_enter Tryz.func69, Tryz.ntmps69
  go_wp2_with (at_builtin; refine wp_row _ rfl _ _ 52 rfl (g + 1) 5 (.int .u8 0) 1 1 Tryz.underlying52 infoU8v rfl (by decide) a2 c2' op.length _ rfl _ rfl (by intro u hu; simp at hu; subst hu; rfl) _ rfl HX.out.oo (by omega) (by unfold maxLen; omega) (by omega) ?_; intro a3 c3' w2 e1 e2 e3; have d3 : w2.cell? ⟨g, 3, none⟩ = some (.slice a2 op.length c2') := (by rw [e2.cell (Nat.lt_succ_self g)]; exact c3); have f3 : w2.frozen? ⟨g, 3, none⟩ = false := (by rw [e2.frozen (p := ⟨g, 3, none⟩) (Nat.lt_succ_self g)]; exact HX.out.fz 3))
  have e4 : OwnV w2 (g + 1) 5 1 a3 (x :: op).length c3' (cs .u8 (x :: op).reverse) := by
    rw [List.reverse_cons, cs_append]; exact e1
  have HY := Lib.hid (HX.out.putO (n := op.length + 1) e2 e3 e4 rfl)
  have HF : Hid (Fr g w w2) := Lib.hid (Fr.oth HX.out.oo (.inr rfl) e2 e3)
  have hg2 : g < w2.heap.size := lt_of_cell d3
  clear e1 e2 e3 e4 c3 HX
  try go_wp2
  refine bodyPost_end (v := .tuple #[]) (by simp [results, Tryz.results69, go_sem]) rfl ?_
  exact ⟨rfl, ⟨a1, c1', a3, c3', HY.out⟩, HF.out.trans (Fr.gb (gb_set (gb_refl _ _) _ _) (Nat.le_of_lt hg2))⟩
theorem oth_refl (w : World) (a : Option Addr) : Oth w w a := ⟨Nat.le_refl _, fun _ _ _ => rfl⟩
set_option maxRecDepth 100000 in
set_option maxHeartbeats 4000000 in
theorem lxPop_any (x : Nat) (g : Nat) (s : ByteArray) (p : Nat) (T : List Tk) (op : List Nat) (m : Nat) (w : World) (h : LB w g s p T (x :: op) m) (hl : op.length ≤ 1000000) :
    Calls Tryz.prog 67 #[.pointer (some ⟨g, 0, none⟩)] w (ResL g s p T op m (.tuple #[]) w) := by
  obtain ⟨a1, c1', a2, c2', h⟩ := h
  have hg := h.lt
  have c3 := h.c3; have fz := h.fz
  obtain ⟨b, rfl, hc, hk⟩ := h.oo.push_top
  have hp : OwnV w (g + 1) 5 1 (some ⟨b, 0, none⟩) op.length c2' (cs .u8 op.reverse) := by
    have := h.oo
    rw [List.reverse_cons, cs_append] at this
    exact ownsRow_pop (by rw [cs_length, List.length_reverse, Nat.mul_one]) this
  have HY := Lib.hid (fun n => (h.dN n).putO (n := op.length) (op' := op) (Below.refl _ _) (oth_refl _ _) (OwnV.dN hp n) rfl)
  rw [List.length_cons] at c3
  have s0 : IntKind.i64.wrap (((op.length + 1 : Nat) : Int) - 1) = op.length := by rw [show ((op.length + 1 : Nat) : Int) - 1 = (op.length : Int) by omega]; exact IntWalk.i64_in _ (by omega)
  clear h hp hc
  obtain ⟨K, hK⟩ : ∃ K, op.length + 1 = K := ⟨_, rfl⟩
  rw [hK] at c3 s0 hk
  have hK1 : op.length ≤ K := by omega
  have hK2 : 1 ≤ K := by omega
  have hk2 : op.length ≤ c2' := by omega
  have hk3 : (op.length : Int) ≤ (c2' : Int) := by omega
  clear hK
  go_enter Tryz.func67, Tryz.ntmps67
  go_wp2_with fail
  go_region
  all_goals
    go_wp2
    refine bodyPost_end (v := .tuple #[]) (by simp [results, Tryz.results67, go_sem]) rfl ?_
    exact ⟨rfl, ⟨a1, c1', _, c2', HY.out _⟩, Fr.gb (gb_set (gb_dN (gb_refl _ _) _) _ _) (Nat.le_of_lt hg)⟩
end Go.Proofs.YtpgiljibicigeaaGreatDoor

/- lex: begin, end, enter walked. -/
namespace Go.Proofs.YtpgiljibicigeaaGreatDoor
open Go.RowKit UM QM LX

/-- a token without a text, laid at the next place -/
theorem lxMark_any (kind d : Nat) (g : Nat) (s : ByteArray) (p : Nat) (T : List Tk) (op : List Nat) (m : Nat) (w : World) (h : LB w g s p T op m) (hs : s.size ≤ 100000) (hT : T.length ≤ 1000000) (h1 : p + d ≤ s.size) :
    Calls Tryz.prog 54 #[.pointer (some ⟨g, 0, none⟩), .int .i64 (kind : Int), .int .i64 ((p : Int) + (d : Int)), .int .i64 ((p : Int) + (d : Int))] w (ResL g s (p + d) (T ++ [(kind, [], p)]) op m (.tuple #[]) w) := by
  have := lxPut_any kind (p + d) (p + d) g s p T op m w h hs hT (Nat.le_refl _) h1
  rw [Nat.sub_self, List.take_zero] at this
  exact this
theorem LB.dN {w : World} {g : Nat} {s : ByteArray} {p : Nat} {T : List Tk} {op : List Nat} {m : Nat} (h : LB w g s p T op m) (n : Nat) : LB (w.drewN n) g s p T op m := by
  obtain ⟨a1, k1, a2, k2, h⟩ := h
  exact ⟨a1, k1, a2, k2, h.dN n⟩
theorem LB.lt {w : World} {g : Nat} {s : ByteArray} {p : Nat} {T : List Tk} {op : List Nat} {m : Nat} (h : LB w g s p T op m) : g < w.heap.size := by
  obtain ⟨a1, k1, a2, k2, h⟩ := h
  exact h.lt
theorem LB.cells {w : World} {g : Nat} {s : ByteArray} {p : Nat} {T : List Tk} {op : List Nat} {m : Nat} (h : LB w g s p T op m) : w.cell? ⟨g, 0, none⟩ = some (.string s) ∧ w.cell? ⟨g, 1, none⟩ = some (.int .i64 (p : Int)) ∧ w.cell? ⟨g, 4, none⟩ = some (.int .i64 (m : Int)) ∧ (∀ j, w.frozen? ⟨g, j, none⟩ = false) ∧ p ≤ s.size := by
  obtain ⟨a1, k1, a2, k2, h⟩ := h
  exact ⟨h.c0, h.c1, h.c4, h.fz, h.pl⟩
theorem LB.keep {w : World} {g : Nat} {s : ByteArray} {p : Nat} {T : List Tk} {op : List Nat} {m : Nat} (h : LB w g s p T op m) (m' : Nat) {v : Int} (hv : v = (m' : Int)) : LB (w.setCell ⟨g, 4, none⟩ (.int .i64 v)) g s p T op m' := by
  obtain ⟨a1, k1, a2, k2, h⟩ := h
  exact ⟨a1, k1, a2, k2, h.keep m' hv⟩
set_option maxRecDepth 100000 in
set_option maxHeartbeats 4000000 in
theorem lxEnter_any (g : Nat) (s : ByteArray) (p : Nat) (T : List Tk) (op : List Nat) (m : Nat) (w : World) (h : LB w g s p T op m) (hs : s.size ≤ 100000) (hT : T.length ≤ 1000000) (hl : op.length ≤ 1000000) (h1 : p + 2 ≤ s.size) :
    Calls Tryz.prog 48 #[.pointer (some ⟨g, 0, none⟩)] w (ResL g s (p + 2) (T ++ [(9, [], p)]) (2 :: op) m (.tuple #[]) w) := by
  have HP := Lib.hid (lxPush_any 2 g s p T op m w h hl)
  have HM := Lib.hid (fun w h => lxMark_any 9 2 g s p T (2 :: op) m w h hs hT h1)
  clear h
  go_enter Tryz.func48, Tryz.ntmps48
  go_wp2_with fail
  refine HP.out.mono ?_
  rintro e w1 ⟨rfl, ⟨a1, k1, a2, k2, hb⟩, hf⟩
  have H1 := Lib.hid hb; have F1 := Lib.hid hf
  have c1 := hb.c1
  have hp := hb.pl
  have s0 : IntKind.i64.wrap ((p : Int) + 2) = (p : Int) + 2 := IntWalk.i64_in _ (by omega)
  clear hb hf HP
  go_wp2_with fail
  go_still_tail 11, (by kernel_rfl)
  change wpList _ _ _ _ _ w1.drew
  have H2 : Hid (LB w1.drew g s p T (2 :: op) m) := Lib.hid ⟨a1, k1, a2, k2, H1.out.dN 1⟩
  have F2 : Hid (Fr g w w1.drew) := Lib.hid (F1.out.dN 1)
  clear H1 F1 c1
  generalize w1.drew = w2 at *
  go_wp2_with fail
  refine (HM.out w2 H2.out).mono ?_
  rintro e w3 ⟨rfl, hb, hf⟩
  have H3 := Lib.hid hb; have F3 := Lib.hid (F2.out.trans hf)
  clear hb hf
  go_wp2
  refine bodyPost_end (v := .tuple #[]) (by simp [results, Tryz.results48, go_sem]) rfl ?_
  exact ⟨rfl, H3.out, F3.out⟩
set_option maxRecDepth 100000 in
set_option maxHeartbeats 4000000 in
theorem lxEnd_any (x : Nat) (g : Nat) (s : ByteArray) (p : Nat) (T : List Tk) (op : List Nat) (m : Nat) (w : World) (h : LB w g s p T (x :: op) (m + 1)) (hs : s.size ≤ 100000) (hT : T.length ≤ 1000000) (hl : op.length ≤ 1000000) (hm : m ≤ 1000000) (h1 : p + 1 ≤ s.size) :
    Calls Tryz.prog 46 #[.pointer (some ⟨g, 0, none⟩)] w (ResL g s (p + 1) (T ++ [(11, [], p)]) op m (.tuple #[]) w) := by
  have HM := Lib.hid (fun w h => lxMark_any 11 1 g s p T op m w h hs hT h1)
  have HP := Lib.hid (fun w h => lxPop_any x g s p T op m w h hl)
  obtain ⟨_, _, c4, fz, hp⟩ := h.cells
  have hg := h.lt
  have s1 : IntKind.i64.wrap (((m + 1 : Nat) : Int) - 1) = (m : Int) := by rw [show ((m + 1 : Nat) : Int) - 1 = (m : Int) by omega]; exact IntWalk.i64_in _ (by omega)
  have H0 : Hid (LB (w.setCell ⟨g, 4, none⟩ (.int .i64 (m : Int))) g s p T (x :: op) m) := Lib.hid (h.keep m rfl)
  have F0 : Hid (Fr g w (w.setCell ⟨g, 4, none⟩ (.int .i64 (m : Int)))) := Lib.hid (Fr.gb (gb_set (gb_refl _ _) _ _) (Nat.le_of_lt hg))
  obtain ⟨K, hK⟩ : ∃ K, m + 1 = K := ⟨_, rfl⟩
  rw [hK] at c4 s1
  have hK2 : 1 ≤ K := by omega
  have hK3 : K ≤ 1000001 := by omega
  have s2 : (K : Int) - 1 = (m : Int) := by omega
  have s0 : IntKind.i64.wrap ((p : Int) + 1) = (p : Int) + 1 := IntWalk.i64_in _ (by omega)
  clear hK h
  go_enter Tryz.func46, Tryz.ntmps46
  go_wp2_with fail
  refine (HP.out _ H0.out).mono ?_
  rintro e w1 ⟨rfl, hb, hf⟩
  have H1 := Lib.hid hb; have F1 := Lib.hid (F0.out.trans hf)
  clear hf HP H0 F0 c4 fz s1 s2
  obtain ⟨_, c1, _, _, _⟩ := hb.cells
  clear hb
  go_wp2_with fail
  go_still_tail 11, (by kernel_rfl)
  change wpList _ _ _ _ _ w1.drew
  have H2 : Hid (LB w1.drew g s p T op m) := Lib.hid (H1.out.dN 1)
  have F2 : Hid (Fr g w w1.drew) := Lib.hid (F1.out.dN 1)
  clear H1 F1 c1
  generalize w1.drew = w2 at *
  go_wp2_with fail
  refine (HM.out w2 H2.out).mono ?_
  rintro e w3 ⟨rfl, hb, hf⟩
  have H3 := Lib.hid hb; have F3 := Lib.hid (F2.out.trans hf)
  clear hb hf
  go_wp2
  refine bodyPost_end (v := .tuple #[]) (by simp [results, Tryz.results46, go_sem]) rfl ?_
  exact ⟨rfl, H3.out, F3.out⟩
set_option maxRecDepth 100000 in
set_option maxHeartbeats 4000000 in
theorem lxBegin_any (g : Nat) (s : ByteArray) (p : Nat) (T : List Tk) (op : List Nat) (m : Nat) (w : World) (h : LB w g s p T op m) (hs : s.size ≤ 100000) (hT : T.length ≤ 1000000) (hl : op.length ≤ 1000000) (hm : m ≠ 50) (hm2 : m ≤ 1000000) (h1 : p + 1 ≤ s.size) :
    Calls Tryz.prog 57 #[.pointer (some ⟨g, 0, none⟩)] w (ResL g s (p + 1) (T ++ [(7, [], p)]) (1 :: op) (m + 1) (.int .i64 0) w) := by
  have HM := Lib.hid (fun w h => lxMark_any 7 1 g s p T (1 :: op) (m + 1) w h hs hT h1)
  have HP := Lib.hid (fun w h => lxPush_any 1 g s p T op (m + 1) w h hl)
  obtain ⟨_, _, c4, fz, hp⟩ := h.cells
  have hg := h.lt
  have t0 : ((m : Int) == 50) = false := by rw [beq_eq_false_iff_ne]; omega
  have H0 : Hid (LB (w.setCell ⟨g, 4, none⟩ (.int .i64 ((m : Int) + 1))) g s p T op (m + 1)) := Lib.hid (h.keep (m + 1) (by omega))
  have F0 : Hid (Fr g w (w.setCell ⟨g, 4, none⟩ (.int .i64 ((m : Int) + 1)))) := Lib.hid (Fr.gb (gb_set (gb_refl _ _) _ _) (Nat.le_of_lt hg))
  have s0 : IntKind.i64.wrap ((p : Int) + 1) = (p : Int) + 1 := IntWalk.i64_in _ (by omega)
  clear h hm
  go_enter Tryz.func57, Tryz.ntmps57
  go_wp2_with fail
  refine (HP.out _ H0.out).mono ?_
  rintro e w1 ⟨rfl, hb, hf⟩
  have H1 := Lib.hid hb; have F1 := Lib.hid (F0.out.trans hf)
  clear hf HP H0 F0 c4 fz t0
  obtain ⟨_, c1, _, _, _⟩ := hb.cells
  clear hb
  go_wp2_with fail
  go_still_tail 11, (by kernel_rfl)
  change wpList _ _ _ _ _ w1.drew
  have H2 : Hid (LB w1.drew g s p T (1 :: op) (m + 1)) := Lib.hid (H1.out.dN 1)
  have F2 : Hid (Fr g w w1.drew) := Lib.hid (F1.out.dN 1)
  clear H1 F1 c1
  generalize w1.drew = w2 at *
  go_wp2_with fail
  refine (HM.out w2 H2.out).mono ?_
  rintro e w3 ⟨rfl, hb, hf⟩
  have H3 := Lib.hid hb; have F3 := Lib.hid (F2.out.trans hf)
  clear hb hf
  go_wp2
  go_ret
  exact ⟨rfl, H3.out, F3.out⟩
set_option maxHeartbeats 1000000 in
theorem lxBegin_deep (g : Nat) (s : ByteArray) (p : Nat) (T : List Tk) (op : List Nat) (w : World) (h : LB w g s p T op 50) :
    Calls Tryz.prog 57 #[.pointer (some ⟨g, 0, none⟩)] w (ResL g s p T op 50 (.int .i64 6) w) := by
  have H := Lib.hid h
  obtain ⟨_, _, c4, fz, hp⟩ := h.cells
  clear h
  go_enter Tryz.func57, Tryz.ntmps57
  go_wp2
  go_ret
  exact ⟨rfl, H.out, Fr.refl _ _⟩
end Go.Proofs.YtpgiljibicigeaaGreatDoor
