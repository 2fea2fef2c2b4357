/- lex: more, put, push, pop walked. -/
import Derived.Test.YtjjacffacmpopaaDoorLexG
import Derived.BigRegion
namespace Go.Proofs.YtjjacffacmpopaaDoor
open Go.RowKit UM QM LX

theorem bl_at_lt {s : ByteArray} {p : Nat} (h : (bl s).drop p ≠ []) : p < s.size := by
  rcases Nat.lt_or_ge p s.size with h1 | h1
  · exact h1
  · exact absurd (bdrop_end h1) h
def ResM (g : Nat) (s : ByteArray) (p : Nat) (T : List Tk) (op : List Nat) (m : Nat) (v : Value) (w : World) (e : Ending) (w' : World) : Prop := e = .returned v ∧ LB w' g s p T op m ∧ w.grownBy w' (some g)
set_option maxRecDepth 100000 in
set_option maxHeartbeats 4000000 in
theorem more_any (g : Nat) (s : ByteArray) (p : Nat) (T : List Tk) (op : List Nat) (m : Nat) (w : World) (h : LB w g s p T op m) (hs : s.size ≤ 100000) (hl : op.length ≤ 1000000) :
    Calls Tryd.prog 23 #[.pointer (some ⟨g, 0, none⟩)] w (ResM g s (p + skR op ((bl s).drop p)) T op m (.bool (decide (p + skR op ((bl s).drop p) < s.size))) w) := by
  have HI := Lib.hid (innermost_any g s p T op m w h hl)
  obtain ⟨a1, k1, a2, k2, h⟩ := h
  have HX := Lib.hid h
  have hp := h.pl
  have c0 := h.c0; have c1 := h.c1; have fz := h.fz
  clear h
  by_cases h1 : inn op = 1
  · have t0 : (((inn op : Nat) : Int) != 1) = false := by rw [bne_eq_false_iff_eq]; omega
    have e0 : skR op ((bl s).drop p) = 0 := if_pos h1
    rw [e0, Nat.add_zero]
    clear h1 e0
    generalize inn op = io at *
    go_enter Tryd.func23, Tryd.ntmps23
    go_wp2_with fail
    refine HI.out.mono ?_
    rintro e w1 ⟨rfl, n, rfl⟩
    go_wp2_with fail
    go_quiet (fail)
    go_wp2
    go_ret
    exact ⟨rfl, ⟨a1, k1, a2, k2, (HX.out.dN _).dN _⟩, gb_dN (gb_dN (gb_refl _ _) _) _⟩
  · have t0 : (((inn op : Nat) : Int) != 1) = true := by rw [bne_iff_ne]; omega
    have e0 : skR op ((bl s).drop p) = bkR false ((bl s).drop p) := if_neg h1
    rw [e0]
    have hb := bkR_le false ((bl s).drop p)
    rw [List.length_drop, bl_len] at hb
    have HB := Lib.hid (fun w => blanksEnd_any s p w (by omega) hp)
    clear h1 e0
    generalize inn op = io at *
    have hq : p + bkR false ((bl s).drop p) ≤ s.size := by omega
    generalize p + bkR false ((bl s).drop p) = q at *
    clear hb
    go_enter Tryd.func23, Tryd.ntmps23
    go_wp2_with fail
    refine HI.out.mono ?_
    rintro e w1 ⟨rfl, n, rfl⟩
    go_wp2_with fail
    go_region_law (go_simp; go_at_call 29; (with_reducible refine (HB.out _).mono ?_); rintro e w2 ⟨rfl, rfl⟩)
    all_goals
      have HY := Lib.hid ((HX.out.dN (n + 1)).at q hq rfl)
      have GB : Hid (w.grownBy ((w.drewN (n + 1)).setCell ⟨g, 1, none⟩ (.int .i64 (q : Int))) (some g)) := Lib.hid (gb_set (gb_dN (gb_refl _ _) _) _ _)
      generalize (w.drewN (n + 1)).setCell ⟨g, 1, none⟩ (.int .i64 (q : Int)) = w3 at *
      clear c0 c1 fz HX
      have c0 := HY.out.c0
      have c1 := HY.out.c1
      go_wp2_with fail
      go_quiet (fail)
      go_wp2
      go_ret
      exact ⟨rfl, ⟨a1, k1, a2, k2, HY.out.dN _⟩, gb_dN GB.out _⟩
theorem LBX.putT {w w' : World} {g : Nat} {s : ByteArray} {p : Nat} {T T' : List Tk} {op : List Nat} {m : Nat} {a1 a1' : Option Addr} {k1 k1' : Nat} {a2 : Option Addr} {k2 : Nat} (h : LBX w g s p T op m a1 k1 a2 k2) (hb : Below (g + 1) w w') (ho : Oth w w' a1) (hn : OwnV w' (g + 1) 30 3 a1' T'.length k1' (tkc T')) :
    LBX (w'.setCell ⟨g, 2, none⟩ (.slice a1' T'.length k1')) g s p T' op m a1' k1' a2 k2 := by
  have hs := gb_set (gb_refl w' (some g)) 2 (.slice a1' T'.length k1')
  have key : ∀ (j : Nat) (v : Value), w.cell? ⟨g, j, none⟩ = some v → w'.cell? ⟨g, j, none⟩ = some v := fun j v e => by rw [hb.cell (Nat.lt_succ_self g)]; exact e
  refine ⟨?_, ?_, by simp [go_sem, key _ _ h.c2], ?_, ?_, fun j => ?_, hn.gbl hs (Nat.lt_succ_self _), ((h.oo.oth ho (own_ne h.oo h.ot (by decide)))).gbl hs (Nat.lt_succ_self _), h.pl⟩
  · rw [World.cell?_setCell_other _ _ _ _ (by simp)]; exact key _ _ h.c0
  · rw [World.cell?_setCell_other _ _ _ _ (by simp)]; exact key _ _ h.c1
  · rw [World.cell?_setCell_other _ _ _ _ (by simp)]; exact key _ _ h.c3
  · rw [World.cell?_setCell_other _ _ _ _ (by simp)]; exact key _ _ h.c4
  · rw [World.frozen?_setCell]; exact (hb.frozen (p := ⟨g, j, none⟩) (Nat.lt_succ_self g)).trans (h.fz j)
/-- what a method leaves: the box, all else alone -/
def ResL (g : Nat) (s : ByteArray) (p : Nat) (T : List Tk) (op : List Nat) (m : Nat) (v : Value) (w : World) (e : Ending) (w' : World) : Prop := e = .returned v ∧ LB w' g s p T op m ∧ Fr g w w'
theorem own_alloc {w : World} {B : Nat} {e : TypeId} {size : Nat} {a : Option Addr} {n cap : Nat} {xs : List Value} (h : OwnV w B e size a n cap xs) (o : Obj) : OwnV (w.alloc o) B e size a n cap xs := World.ownsRow.alloc h o
set_option maxRecDepth 100000 in
set_option maxHeartbeats 4000000 in
theorem lxPut_any (kind k0 k1 : Nat) (g : Nat) (s : ByteArray) (p : Nat) (T : List Tk) (op : List Nat) (m : Nat) (w : World) (h : LB w g s p T op m) (hs : s.size ≤ 100000) (hT : T.length ≤ 1000000) (h0 : k0 ≤ k1) (h1 : k1 ≤ s.size) :
    Calls Tryd.prog 41 #[.pointer (some ⟨g, 0, none⟩), .int .i64 (kind : Int), .int .i64 (k0 : Int), .int .i64 (k1 : Int)] w (ResL g s k1 (T ++ [(kind, ((bl s).drop k0).take (k1 - k0), p)]) op m (.tuple #[]) w) := by
  obtain ⟨a1, c1', a2, c2', h⟩ := h
  have HX := Lib.hid h
  have hp := h.pl
  have hg := h.lt
  have c0 := h.c0; have c1 := h.c1; have c2 := h.c2; have fz := h.fz
  have i0 : (k0 : Int) ≤ (k1 : Int) := by omega
  have i1 : (k1 : Int) ≤ (s.size : Int) := by omega
  clear h
  have hx : tx (((bl s).drop k0).take (k1 - k0)) = s.extract k0 k1 := bl_inj (by
    rw [bl_tx (fun x hx => bl_lo s x (List.mem_of_mem_drop (List.mem_of_mem_take hx)))]
    unfold bl
    rw [← List.map_drop, ← List.map_take]
    congr 1
    rw [ByteArray.data_extract]; simp [List.take_drop])
  have HE := Lib.hid hx
  clear hx
  generalize hst : s.extract k0 k1 = st at *
  go_enter Tryd.func41, Tryd.ntmps41
  go_wp2_with fail
  go_region_law ((refine step_row _ rfl _ _ 24 rfl (g + 1) 30 _ 3 32 Tryd.underlying24 infoTok rfl (by decide) a1 c1' T.length (tkc T) rfl [.int .i64 (kind : Int), .string st, .int .i64 (p : Int)] rfl (by intro u hu; simp at hu; rcases hu with rfl | rfl | rfl <;> rfl) w.heap.size 1 rfl (by intro j u hj; rcases j with _ | _ | _ | j <;> simp at hj <;> subst hj <;> simp) (OwnV.dN (own_alloc HX.out.ot _) 1) (by omega) (by unfold maxLen; omega) (by simp; omega) ?_; intro a3 c3 w2 e1 e2 e3; have d2 : w2.cell? ⟨g, 2, none⟩ = some (.slice a1 T.length c1') := (by rw [e2.cell (Nat.lt_succ_self g)]; exact (cell_old hg).trans c2); have f2 : w2.frozen? ⟨g, 2, none⟩ = false := (by rw [e2.frozen (p := ⟨g, 2, none⟩) (Nat.lt_succ_self g)]; exact (frz_old hg).trans (fz 2))))
  all_goals
    have hbA : Below w.heap.size w (w.alloc (.cells #[.int .i64 (kind : Int), .string st, .int .i64 (p : Int)] 30)) := (Below.refl _ _).alloc (Nat.le_refl _) _
    have e4 : OwnV w2 (g + 1) 30 3 a3 (T ++ [(kind, ((bl s).drop k0).take (k1 - k0), p)]).length c3 (tkc (T ++ [(kind, ((bl s).drop k0).take (k1 - k0), p)])) := by
      rw [tkc_snoc, List.length_append, HE.out]; exact e1
    have HY := Lib.hid (((HX.out.below hbA).dN 1).putT e2 e3 e4)
    have HF : Hid (Fr g w w2) := Lib.hid ((Fr.below (hbA.drew) (Nat.le_of_lt hg)).trans (Fr.oth (OwnV.dN (own_alloc HX.out.ot _) 1) (.inl rfl) e2 e3))
    have hl2 : (T ++ [(kind, ((bl s).drop k0).take (k1 - k0), p)]).length = T.length + 1 := by simp
    rw [hl2] at HY
    have hz := e2.size
    have hg2 : g < w2.heap.size := lt_of_cell d2
    have HG : Hid (Fr g w (w2.setCell ⟨g, 2, none⟩ (.slice a3 (T.length + 1) c3))) := Lib.hid (HF.out.trans (Fr.gb (gb_set (gb_refl _ _) _ _) (Nat.le_of_lt hg2)))
    have hg3 : g < (w2.setCell ⟨g, 2, none⟩ (.slice a3 (T.length + 1) c3)).heap.size := by simpa using hg2
    clear e1 e2 e3 e4 d2 f2 c0 c1 c2 fz HX HF hl2 hbA hz hg2
    generalize w2.setCell ⟨g, 2, none⟩ (.slice a3 (T.length + 1) c3) = w3 at *
    generalize T ++ [(kind, ((bl s).drop k0).take (k1 - k0), p)] = T' at *
    have c1 := HY.out.c1
    have fz := HY.out.fz
    go_wp2
    refine bodyPost_end (v := .tuple #[]) (by simp [results, Tryd.results41, go_sem]) rfl ?_
    exact ⟨rfl, ⟨a3, c3, a2, c2', HY.out.at k1 h1 rfl⟩, HG.out.trans (Fr.gb (gb_set (gb_refl _ _) _ _) (Nat.le_of_lt hg3))⟩
end Go.Proofs.YtjjacffacmpopaaDoor

/- lex: push, pop, begin, end, enter walked. -/
namespace Go.Proofs.YtjjacffacmpopaaDoor
open Go.RowKit UM QM LX

theorem infoU8v : (Tryd.prog.info? 5).map (fun i => (i.zero, i.size, i.bytes)) = some (some (.int .u8 0), 1, 1) := by kernel_rfl
theorem LBX.keep {w : World} {g : Nat} {s : ByteArray} {p : Nat} {T : List Tk} {op : List Nat} {m : Nat} {a1 : Option Addr} {k1 : Nat} {a2 : Option Addr} {k2 : Nat} (h : LBX w g s p T op m a1 k1 a2 k2) (m' : Nat) {v : Int} (hv : v = (m' : Int)) : LBX (w.setCell ⟨g, 4, none⟩ (.int .i64 v)) g s p T op m' a1 k1 a2 k2 := by
  subst hv
  have hg := gb_set (gb_refl w (some g)) 4 (.int .i64 (m' : Int))
  refine ⟨?_, ?_, ?_, ?_, by simp [go_sem, h.c4], fun j => by simp [go_sem, h.fz j], h.ot.gbl hg (Nat.lt_succ_self _), h.oo.gbl hg (Nat.lt_succ_self _), h.pl⟩
  · rw [World.cell?_setCell_other _ _ _ _ (by simp)]; exact h.c0
  · rw [World.cell?_setCell_other _ _ _ _ (by simp)]; exact h.c1
  · rw [World.cell?_setCell_other _ _ _ _ (by simp)]; exact h.c2
  · rw [World.cell?_setCell_other _ _ _ _ (by simp)]; exact h.c3
theorem LBX.putO {w w' : World} {g : Nat} {s : ByteArray} {p : Nat} {T : List Tk} {op op' : List Nat} {m : Nat} {a1 : Option Addr} {k1 : Nat} {a2 a2' : Option Addr} {k2 k2' n : Nat} (h : LBX w g s p T op m a1 k1 a2 k2) (hb : Below (g + 1) w w') (ho : Oth w w' a2) (hn : OwnV w' (g + 1) 5 1 a2' op'.length k2' (cs .u8 op'.reverse)) (hl : n = op'.length) :
    LBX (w'.setCell ⟨g, 3, none⟩ (.slice a2' n k2')) g s p T op' m a1 k1 a2' k2' := by
  subst hl
  have hs := gb_set (gb_refl w' (some g)) 3 (.slice a2' op'.length k2')
  have key : ∀ (j : Nat) (v : Value), w.cell? ⟨g, j, none⟩ = some v → w'.cell? ⟨g, j, none⟩ = some v := fun j v e => by rw [hb.cell (Nat.lt_succ_self g)]; exact e
  refine ⟨?_, ?_, ?_, by simp [go_sem, key _ _ h.c3], ?_, fun j => ?_, ((h.ot.oth ho (own_ne h.ot h.oo (by decide)))).gbl hs (Nat.lt_succ_self _), hn.gbl hs (Nat.lt_succ_self _), h.pl⟩
  · rw [World.cell?_setCell_other _ _ _ _ (by simp)]; exact key _ _ h.c0
  · rw [World.cell?_setCell_other _ _ _ _ (by simp)]; exact key _ _ h.c1
  · rw [World.cell?_setCell_other _ _ _ _ (by simp)]; exact key _ _ h.c2
  · rw [World.cell?_setCell_other _ _ _ _ (by simp)]; exact key _ _ h.c4
  · rw [World.frozen?_setCell]; exact (hb.frozen (p := ⟨g, j, none⟩) (Nat.lt_succ_self g)).trans (h.fz j)
set_option maxRecDepth 100000 in
set_option maxHeartbeats 4000000 in
theorem lxPush_any (x : Nat) (g : Nat) (s : ByteArray) (p : Nat) (T : List Tk) (op : List Nat) (m : Nat) (w : World) (h : LB w g s p T op m) (hl : op.length ≤ 1000000) :
    Calls Tryd.prog 48 #[.pointer (some ⟨g, 0, none⟩), .int .u8 (x : Int)] w (ResL g s p T (x :: op) m (.tuple #[]) w) := by
  obtain ⟨a1, c1', a2, c2', h⟩ := h
  have HX := Lib.hid h
  have hg := h.lt
  have c3 := h.c3
  clear h
  go_enter Tryd.func48, Tryd.ntmps48
  go_wp2_with (at_builtin; refine wp_row _ rfl _ _ 38 rfl (g + 1) 5 (.int .u8 0) 1 1 Tryd.underlying38 infoU8v rfl (by decide) a2 c2' op.length _ rfl _ rfl (by intro u hu; simp at hu; subst hu; rfl) _ rfl HX.out.oo (by omega) (by unfold maxLen; omega) (by omega) ?_; intro a3 c3' w2 e1 e2 e3; have d3 : w2.cell? ⟨g, 3, none⟩ = some (.slice a2 op.length c2') := (by rw [e2.cell (Nat.lt_succ_self g)]; exact c3); have f3 : w2.frozen? ⟨g, 3, none⟩ = false := (by rw [e2.frozen (p := ⟨g, 3, none⟩) (Nat.lt_succ_self g)]; exact HX.out.fz 3))
  have e4 : OwnV w2 (g + 1) 5 1 a3 (x :: op).length c3' (cs .u8 (x :: op).reverse) := by
    rw [List.reverse_cons, cs_append]; exact e1
  have HY := Lib.hid (HX.out.putO (n := op.length + 1) e2 e3 e4 rfl)
  have HF : Hid (Fr g w w2) := Lib.hid (Fr.oth HX.out.oo (.inr rfl) e2 e3)
  have hg2 : g < w2.heap.size := lt_of_cell d3
  clear e1 e2 e3 e4 c3 HX
  try go_wp2
  refine bodyPost_end (v := .tuple #[]) (by simp [results, Tryd.results48, go_sem]) rfl ?_
  exact ⟨rfl, ⟨a1, c1', a3, c3', HY.out⟩, HF.out.trans (Fr.gb (gb_set (gb_refl _ _) _ _) (Nat.le_of_lt hg2))⟩
theorem oth_refl (w : World) (a : Option Addr) : Oth w w a := ⟨Nat.le_refl _, fun _ _ _ => rfl⟩
set_option maxRecDepth 100000 in
set_option maxHeartbeats 4000000 in
theorem lxPop_any (x : Nat) (g : Nat) (s : ByteArray) (p : Nat) (T : List Tk) (op : List Nat) (m : Nat) (w : World) (h : LB w g s p T (x :: op) m) (hl : op.length ≤ 1000000) :
    Calls Tryd.prog 46 #[.pointer (some ⟨g, 0, none⟩)] w (ResL g s p T op m (.tuple #[]) w) := by
  obtain ⟨a1, c1', a2, c2', h⟩ := h
  have hg := h.lt
  have c3 := h.c3; have fz := h.fz
  obtain ⟨b, rfl, hc, hk⟩ := h.oo.push_top
  have hp : OwnV w (g + 1) 5 1 (some ⟨b, 0, none⟩) op.length c2' (cs .u8 op.reverse) := by
    have := h.oo
    rw [List.reverse_cons, cs_append] at this
    exact ownsRow_pop (by rw [cs_length, List.length_reverse, Nat.mul_one]) this
  have HY := Lib.hid (fun n => (h.dN n).putO (n := op.length) (op' := op) (Below.refl _ _) (oth_refl _ _) (OwnV.dN hp n) rfl)
  rw [List.length_cons] at c3
  have s0 : IntKind.i64.wrap (((op.length + 1 : Nat) : Int) - 1) = op.length := by rw [show ((op.length + 1 : Nat) : Int) - 1 = (op.length : Int) by omega]; exact IntWalk.i64_in _ (by omega)
  clear h hp hc
  obtain ⟨K, hK⟩ : ∃ K, op.length + 1 = K := ⟨_, rfl⟩
  rw [hK] at c3 s0 hk
  have hK1 : op.length ≤ K := by omega
  have hK2 : 1 ≤ K := by omega
  have hk2 : op.length ≤ c2' := by omega
  have hk3 : (op.length : Int) ≤ (c2' : Int) := by omega
  clear hK
  go_enter Tryd.func46, Tryd.ntmps46
  go_wp2_with fail
  go_region
  all_goals
    go_wp2
    refine bodyPost_end (v := .tuple #[]) (by simp [results, Tryd.results46, go_sem]) rfl ?_
    exact ⟨rfl, ⟨a1, c1', _, c2', HY.out _⟩, Fr.gb (gb_set (gb_dN (gb_refl _ _) _) _ _) (Nat.le_of_lt hg)⟩
end Go.Proofs.YtjjacffacmpopaaDoor

/- lex: begin, end, enter walked. -/
namespace Go.Proofs.YtjjacffacmpopaaDoor
open Go.RowKit UM QM LX

/-- a token without a text, laid at the next place -/
theorem lxMark_any (kind d : Nat) (g : Nat) (s : ByteArray) (p : Nat) (T : List Tk) (op : List Nat) (m : Nat) (w : World) (h : LB w g s p T op m) (hs : s.size ≤ 100000) (hT : T.length ≤ 1000000) (h1 : p + d ≤ s.size) :
    Calls Tryd.prog 41 #[.pointer (some ⟨g, 0, none⟩), .int .i64 (kind : Int), .int .i64 ((p : Int) + (d : Int)), .int .i64 ((p : Int) + (d : Int))] w (ResL g s (p + d) (T ++ [(kind, [], p)]) op m (.tuple #[]) w) := by
  have := lxPut_any kind (p + d) (p + d) g s p T op m w h hs hT (Nat.le_refl _) h1
  rw [Nat.sub_self, List.take_zero] at this
  exact this
theorem LB.dN {w : World} {g : Nat} {s : ByteArray} {p : Nat} {T : List Tk} {op : List Nat} {m : Nat} (h : LB w g s p T op m) (n : Nat) : LB (w.drewN n) g s p T op m := by
  obtain ⟨a1, k1, a2, k2, h⟩ := h
  exact ⟨a1, k1, a2, k2, h.dN n⟩
theorem LB.lt {w : World} {g : Nat} {s : ByteArray} {p : Nat} {T : List Tk} {op : List Nat} {m : Nat} (h : LB w g s p T op m) : g < w.heap.size := by
  obtain ⟨a1, k1, a2, k2, h⟩ := h
  exact h.lt
theorem LB.cells {w : World} {g : Nat} {s : ByteArray} {p : Nat} {T : List Tk} {op : List Nat} {m : Nat} (h : LB w g s p T op m) : w.cell? ⟨g, 0, none⟩ = some (.string s) ∧ w.cell? ⟨g, 1, none⟩ = some (.int .i64 (p : Int)) ∧ w.cell? ⟨g, 4, none⟩ = some (.int .i64 (m : Int)) ∧ (∀ j, w.frozen? ⟨g, j, none⟩ = false) ∧ p ≤ s.size := by
  obtain ⟨a1, k1, a2, k2, h⟩ := h
  exact ⟨h.c0, h.c1, h.c4, h.fz, h.pl⟩
theorem LB.keep {w : World} {g : Nat} {s : ByteArray} {p : Nat} {T : List Tk} {op : List Nat} {m : Nat} (h : LB w g s p T op m) (m' : Nat) {v : Int} (hv : v = (m' : Int)) : LB (w.setCell ⟨g, 4, none⟩ (.int .i64 v)) g s p T op m' := by
  obtain ⟨a1, k1, a2, k2, h⟩ := h
  exact ⟨a1, k1, a2, k2, h.keep m' hv⟩
theorem LB.at {w : World} {g : Nat} {s : ByteArray} {p : Nat} {T : List Tk} {op : List Nat} {m : Nat} (h : LB w g s p T op m) (q : Nat) (hq : q ≤ s.size) {v : Int} (hv : v = (q : Int)) : LB (w.setCell ⟨g, 1, none⟩ (.int .i64 v)) g s q T op m := by
  obtain ⟨a1, k1, a2, k2, h⟩ := h
  exact ⟨a1, k1, a2, k2, h.at q hq hv⟩
theorem LB.below {w w' : World} {g : Nat} {s : ByteArray} {p : Nat} {T : List Tk} {op : List Nat} {m : Nat} (h : LB w g s p T op m) (hb : Below w.heap.size w w') : LB w' g s p T op m := by
  obtain ⟨a1, k1, a2, k2, h⟩ := h
  exact ⟨a1, k1, a2, k2, h.below hb⟩
set_option maxRecDepth 100000 in
set_option maxHeartbeats 4000000 in
theorem lxEnter_any (g : Nat) (s : ByteArray) (p : Nat) (T : List Tk) (op : List Nat) (m : Nat) (w : World) (h : LB w g s p T op m) (hs : s.size ≤ 100000) (hT : T.length ≤ 1000000) (hl : op.length ≤ 1000000) (h1 : p + 2 ≤ s.size) :
    Calls Tryd.prog 37 #[.pointer (some ⟨g, 0, none⟩)] w (ResL g s (p + 2) (T ++ [(9, [], p)]) (2 :: op) m (.tuple #[]) w) := by
  have HP := Lib.hid (lxPush_any 2 g s p T op m w h hl)
  have HM := Lib.hid (fun w h => lxMark_any 9 2 g s p T (2 :: op) m w h hs hT h1)
  clear h
  go_enter Tryd.func37, Tryd.ntmps37
  go_wp2_with fail
  refine HP.out.mono ?_
  rintro e w1 ⟨rfl, ⟨a1, k1, a2, k2, hb⟩, hf⟩
  have H1 := Lib.hid hb; have F1 := Lib.hid hf
  have c1 := hb.c1
  have hp := hb.pl
  have s0 : IntKind.i64.wrap ((p : Int) + 2) = (p : Int) + 2 := IntWalk.i64_in _ (by omega)
  clear hb hf HP
  go_wp2_with fail
  go_still_tail 11, (by kernel_rfl)
  change wpList _ _ _ _ _ w1.drew
  have H2 : Hid (LB w1.drew g s p T (2 :: op) m) := Lib.hid ⟨a1, k1, a2, k2, H1.out.dN 1⟩
  have F2 : Hid (Fr g w w1.drew) := Lib.hid (F1.out.dN 1)
  clear H1 F1 c1
  generalize w1.drew = w2 at *
  go_wp2_with fail
  refine (HM.out w2 H2.out).mono ?_
  rintro e w3 ⟨rfl, hb, hf⟩
  have H3 := Lib.hid hb; have F3 := Lib.hid (F2.out.trans hf)
  clear hb hf
  go_wp2
  refine bodyPost_end (v := .tuple #[]) (by simp [results, Tryd.results37, go_sem]) rfl ?_
  exact ⟨rfl, H3.out, F3.out⟩
set_option maxRecDepth 100000 in
set_option maxHeartbeats 4000000 in
theorem lxEnd_any (x : Nat) (g : Nat) (s : ByteArray) (p : Nat) (T : List Tk) (op : List Nat) (m : Nat) (w : World) (h : LB w g s p T (x :: op) (m + 1)) (hs : s.size ≤ 100000) (hT : T.length ≤ 1000000) (hl : op.length ≤ 1000000) (hm : m ≤ 1000000) (h1 : p + 1 ≤ s.size) :
    Calls Tryd.prog 35 #[.pointer (some ⟨g, 0, none⟩)] w (ResL g s (p + 1) (T ++ [(11, [], p)]) op m (.tuple #[]) w) := by
  have HM := Lib.hid (fun w h => lxMark_any 11 1 g s p T op m w h hs hT h1)
  have HP := Lib.hid (fun w h => lxPop_any x g s p T op m w h hl)
  obtain ⟨_, _, c4, fz, hp⟩ := h.cells
  have hg := h.lt
  have s1 : IntKind.i64.wrap (((m + 1 : Nat) : Int) - 1) = (m : Int) := by rw [show ((m + 1 : Nat) : Int) - 1 = (m : Int) by omega]; exact IntWalk.i64_in _ (by omega)
  have H0 : Hid (LB (w.setCell ⟨g, 4, none⟩ (.int .i64 (m : Int))) g s p T (x :: op) m) := Lib.hid (h.keep m rfl)
  have F0 : Hid (Fr g w (w.setCell ⟨g, 4, none⟩ (.int .i64 (m : Int)))) := Lib.hid (Fr.gb (gb_set (gb_refl _ _) _ _) (Nat.le_of_lt hg))
  obtain ⟨K, hK⟩ : ∃ K, m + 1 = K := ⟨_, rfl⟩
  rw [hK] at c4 s1
  have hK2 : 1 ≤ K := by omega
  have hK3 : K ≤ 1000001 := by omega
  have s2 : (K : Int) - 1 = (m : Int) := by omega
  have s0 : IntKind.i64.wrap ((p : Int) + 1) = (p : Int) + 1 := IntWalk.i64_in _ (by omega)
  clear hK h
  go_enter Tryd.func35, Tryd.ntmps35
  go_wp2_with fail
  refine (HP.out _ H0.out).mono ?_
  rintro e w1 ⟨rfl, hb, hf⟩
  have H1 := Lib.hid hb; have F1 := Lib.hid (F0.out.trans hf)
  clear hf HP H0 F0 c4 fz s1 s2
  obtain ⟨_, c1, _, _, _⟩ := hb.cells
  clear hb
  go_wp2_with fail
  go_still_tail 11, (by kernel_rfl)
  change wpList _ _ _ _ _ w1.drew
  have H2 : Hid (LB w1.drew g s p T op m) := Lib.hid (H1.out.dN 1)
  have F2 : Hid (Fr g w w1.drew) := Lib.hid (F1.out.dN 1)
  clear H1 F1 c1
  generalize w1.drew = w2 at *
  go_wp2_with fail
  refine (HM.out w2 H2.out).mono ?_
  rintro e w3 ⟨rfl, hb, hf⟩
  have H3 := Lib.hid hb; have F3 := Lib.hid (F2.out.trans hf)
  clear hb hf
  go_wp2
  refine bodyPost_end (v := .tuple #[]) (by simp [results, Tryd.results35, go_sem]) rfl ?_
  exact ⟨rfl, H3.out, F3.out⟩
set_option maxRecDepth 100000 in
set_option maxHeartbeats 4000000 in
theorem lxBegin_any (g : Nat) (s : ByteArray) (p : Nat) (T : List Tk) (op : List Nat) (m : Nat) (w : World) (h : LB w g s p T op m) (hs : s.size ≤ 100000) (hT : T.length ≤ 1000000) (hl : op.length ≤ 1000000) (hm : m ≠ 50) (hm2 : m ≤ 1000000) (h1 : p + 1 ≤ s.size) :
    Calls Tryd.prog 43 #[.pointer (some ⟨g, 0, none⟩)] w (ResL g s (p + 1) (T ++ [(7, [], p)]) (1 :: op) (m + 1) (.int .i64 0) w) := by
  have HM := Lib.hid (fun w h => lxMark_any 7 1 g s p T (1 :: op) (m + 1) w h hs hT h1)
  have HP := Lib.hid (fun w h => lxPush_any 1 g s p T op (m + 1) w h hl)
  obtain ⟨_, _, c4, fz, hp⟩ := h.cells
  have hg := h.lt
  have t0 : ((m : Int) == 50) = false := by rw [beq_eq_false_iff_ne]; omega
  have H0 : Hid (LB (w.setCell ⟨g, 4, none⟩ (.int .i64 ((m : Int) + 1))) g s p T op (m + 1)) := Lib.hid (h.keep (m + 1) (by omega))
  have F0 : Hid (Fr g w (w.setCell ⟨g, 4, none⟩ (.int .i64 ((m : Int) + 1)))) := Lib.hid (Fr.gb (gb_set (gb_refl _ _) _ _) (Nat.le_of_lt hg))
  have s0 : IntKind.i64.wrap ((p : Int) + 1) = (p : Int) + 1 := IntWalk.i64_in _ (by omega)
  clear h hm
  go_enter Tryd.func43, Tryd.ntmps43
  go_wp2_with fail
  refine (HP.out _ H0.out).mono ?_
  rintro e w1 ⟨rfl, hb, hf⟩
  have H1 := Lib.hid hb; have F1 := Lib.hid (F0.out.trans hf)
  clear hf HP H0 F0 c4 fz t0
  obtain ⟨_, c1, _, _, _⟩ := hb.cells
  clear hb
  go_wp2_with fail
  go_still_tail 11, (by kernel_rfl)
  change wpList _ _ _ _ _ w1.drew
  have H2 : Hid (LB w1.drew g s p T (1 :: op) (m + 1)) := Lib.hid (H1.out.dN 1)
  have F2 : Hid (Fr g w w1.drew) := Lib.hid (F1.out.dN 1)
  clear H1 F1 c1
  generalize w1.drew = w2 at *
  go_wp2_with fail
  refine (HM.out w2 H2.out).mono ?_
  rintro e w3 ⟨rfl, hb, hf⟩
  have H3 := Lib.hid hb; have F3 := Lib.hid (F2.out.trans hf)
  clear hb hf
  go_wp2
  go_ret
  exact ⟨rfl, H3.out, F3.out⟩
set_option maxHeartbeats 1000000 in
theorem lxBegin_deep (g : Nat) (s : ByteArray) (p : Nat) (T : List Tk) (op : List Nat) (w : World) (h : LB w g s p T op 50) :
    Calls Tryd.prog 43 #[.pointer (some ⟨g, 0, none⟩)] w (ResL g s p T op 50 (.int .i64 6) w) := by
  have H := Lib.hid h
  obtain ⟨_, _, c4, fz, hp⟩ := h.cells
  clear h
  go_enter Tryd.func43, Tryd.ntmps43
  go_wp2
  go_ret
  exact ⟨rfl, H.out, Fr.refl _ _⟩
end Go.Proofs.YtjjacffacmpopaaDoor
