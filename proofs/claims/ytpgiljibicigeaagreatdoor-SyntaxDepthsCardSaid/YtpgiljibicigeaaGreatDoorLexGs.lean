/- lex: the lexer's box; its small methods walked. -/
import Derived.Test.YtpgiljibicigeaaGreatDoorLexCs
import Derived.Test.YtpgiljibicigeaaGreatDoorLexFs
import Derived.Test.YtpgiljibicigeaaGreatDoorLimbKits
import Derived.Deep.RegionLaw
import Derived.StillTailTactics
import Derived.WalkSmall
import Derived.BigRegion
set_option linter.unusedVariables false
set_option linter.unusedSimpArgs false
namespace Go.Proofs.YtpgiljibicigeaaGreatDoor
open Go.RowKit UM QM LX

def tkc (T : List Tk) : List Value := T.flatMap fun t => [.int .i64 (t.1 : Int), .string (tx t.2.1), .int .i64 (t.2.2 : Int)]
theorem tkc_snoc (T : List Tk) (t : Tk) : tkc (T ++ [t]) = tkc T ++ [.int .i64 (t.1 : Int), .string (tx t.2.1), .int .i64 (t.2.2 : Int)] := by simp [tkc]
theorem infoTok : (Tryz.prog.info? 75).map (fun i => (i.zero, i.size, i.bytes)) = some (some (.agg #[.int .i64 0, .string ⟨#[]⟩, .int .i64 0]), 3, 32) := by kernel_rfl
/-- the lexer's box: p bytes gone through, tokens T, open op (the innermost one first) -/
structure LBX (w : World) (g : Nat) (s : ByteArray) (p : Nat) (T : List Tk) (op : List Nat) (m : Nat) (a1 : Option Addr) (k1 : Nat) (a2 : Option Addr) (k2 : Nat) : Prop where
  c0 : w.cell? ⟨g, 0, none⟩ = some (.string s)
  c1 : w.cell? ⟨g, 1, none⟩ = some (.int .i64 (p : Int))
  c2 : w.cell? ⟨g, 2, none⟩ = some (.slice a1 T.length k1)
  c3 : w.cell? ⟨g, 3, none⟩ = some (.slice a2 op.length k2)
  c4 : w.cell? ⟨g, 4, none⟩ = some (.int .i64 ((m : Nat) : Int))
  fz : ∀ j, w.frozen? ⟨g, j, none⟩ = false
  ot : OwnV w (g + 1) 75 3 a1 T.length k1 (tkc T)
  oo : OwnV w (g + 1) 5 1 a2 op.length k2 (cs .u8 op.reverse)
  pl : p ≤ s.size
def LB (w : World) (g : Nat) (s : ByteArray) (p : Nat) (T : List Tk) (op : List Nat) (m : Nat) : Prop := ∃ a1 k1 a2 k2, LBX w g s p T op m a1 k1 a2 k2
theorem OwnV.gbl {w w' : World} {B : Nat} {e : TypeId} {size : Nat} {a : Option Addr} {n cap g : Nat} {xs : List Value} (h : OwnV w B e size a n cap xs) (hg : w.grownBy w' (some g)) (hB : g < B) : OwnV w' B e size a n cap xs := by
  refine World.ownsRow.kept h hg ?_
  rcases h.shape with ⟨h1, _⟩ | ⟨g', cur, h1, hb, _⟩
  · left; rw [h1]; rfl
  · right; rw [h1]; intro e2; simp [Value.ownBlock] at e2; omega
theorem LBX.lt {w : World} {g : Nat} {s : ByteArray} {p : Nat} {T : List Tk} {op : List Nat} {m : Nat} {a1 : Option Addr} {k1 : Nat} {a2 : Option Addr} {k2 : Nat} (h : LBX w g s p T op m a1 k1 a2 k2) : g < w.heap.size := lt_of_cell h.c0
theorem LBX.dN {w : World} {g : Nat} {s : ByteArray} {p : Nat} {T : List Tk} {op : List Nat} {m : Nat} {a1 : Option Addr} {k1 : Nat} {a2 : Option Addr} {k2 : Nat} (h : LBX w g s p T op m a1 k1 a2 k2) (n : Nat) : LBX (w.drewN n) g s p T op m a1 k1 a2 k2 := ⟨h.c0, h.c1, h.c2, h.c3, h.c4, h.fz, h.ot, h.oo, h.pl⟩
theorem LBX.below {w w' : World} {g : Nat} {s : ByteArray} {p : Nat} {T : List Tk} {op : List Nat} {m : Nat} {a1 : Option Addr} {k1 : Nat} {a2 : Option Addr} {k2 : Nat} (h : LBX w g s p T op m a1 k1 a2 k2) (hb : Below w.heap.size w w') : LBX w' g s p T op m a1 k1 a2 k2 := by
  have key : ∀ (p : Addr) (v : Value), w.cell? p = some v → w'.cell? p = some v := fun p v e => by rw [hb.cell (lt_of_cell e)]; exact e
  exact ⟨key _ _ h.c0, key _ _ h.c1, key _ _ h.c2, key _ _ h.c3, key _ _ h.c4, fun j => (hb.frozen (p := ⟨g, j, none⟩) h.lt).trans (h.fz j), h.ot.below hb, h.oo.below hb, h.pl⟩
theorem LBX.at {w : World} {g : Nat} {s : ByteArray} {p : Nat} {T : List Tk} {op : List Nat} {m : Nat} {a1 : Option Addr} {k1 : Nat} {a2 : Option Addr} {k2 : Nat} (h : LBX w g s p T op m a1 k1 a2 k2) (q : Nat) (hq : q ≤ s.size) {v : Int} (hv : v = (q : Int)) : LBX (w.setCell ⟨g, 1, none⟩ (.int .i64 v)) g s q T op m a1 k1 a2 k2 := by
  subst hv
  have hg := gb_set (gb_refl w (some g)) 1 (.int .i64 (q : Int))
  refine ⟨?_, by simp [go_sem, h.c1], ?_, ?_, ?_, fun j => by simp [go_sem, h.fz j], h.ot.gbl hg (Nat.lt_succ_self _), h.oo.gbl hg (Nat.lt_succ_self _), hq⟩
  · rw [World.cell?_setCell_other _ _ _ _ (by simp)]; exact h.c0
  · rw [World.cell?_setCell_other _ _ _ _ (by simp)]; exact h.c2
  · rw [World.cell?_setCell_other _ _ _ _ (by simp)]; exact h.c3
  · rw [World.cell?_setCell_other _ _ _ _ (by simp)]; exact h.c4
/-- what a method of the lexer leaves alone: what lies below its box, and above it all that is neither tokens nor bytes -/
def Fr (g : Nat) (w w' : World) : Prop := Below g w w' ∧ ∀ k, k < w.heap.size → k ≠ g → (∀ cur t f, w.heap[k]? = some (.cells cur t f) → t ≠ 75 ∧ t ≠ 5) → w'.heap[k]? = w.heap[k]?
theorem Fr.refl (g : Nat) (w : World) : Fr g w w := ⟨Below.refl _ _, fun _ _ _ _ => rfl⟩
theorem Fr.trans {g : Nat} {a b c : World} (h : Fr g a b) (k : Fr g b c) : Fr g a c := by
  refine ⟨h.1.trans k.1, fun j hj hne ht => ?_⟩
  have e := h.2 j hj hne ht
  exact (k.2 j (Nat.lt_of_lt_of_le hj h.1.size) hne (fun cur t f hc => ht cur t f (by rw [← e]; exact hc))).trans e
theorem Fr.gb {g : Nat} {w w' : World} (h : w.grownBy w' (some g)) (hg : g ≤ w.heap.size) : Fr g w w' := ⟨gb_below h hg (Nat.le_refl _), fun k hk hne _ => h.block k hk (by simpa using hne)⟩
theorem Fr.dN {g : Nat} {w w' : World} (h : Fr g w w') (n : Nat) : Fr g w (w'.drewN n) := ⟨bdN h.1 n, h.2⟩
theorem Fr.below {g : Nat} {w w' : World} (h : Below w.heap.size w w') (hg : g ≤ w.heap.size) : Fr g w w' := ⟨h.mono hg, fun k hk _ _ => h.block k hk⟩
theorem Fr.oth {g : Nat} {w w' : World} {e : TypeId} {size : Nat} {a : Option Addr} {n cap : Nat} {xs : List Value} (h : OwnV w (g + 1) e size a n cap xs) (he : e = 75 ∨ e = 5) (hb : Below (g + 1) w w') (ho : Oth w w' a) : Fr g w w' := by
  refine ⟨hb.mono (Nat.le_succ _), fun k hk hne ht => ho.2 k hk ?_⟩
  rcases h.shape with ⟨h1, _⟩ | ⟨g', cur, h1, _, hh, _⟩
  · rw [h1]; simp
  · rw [h1]
    intro h2
    simp only [Option.some.injEq, Addr.mk.injEq, and_true] at h2
    subst h2
    have := ht _ _ _ hh
    rcases he with rfl | rfl
    · exact this.1 rfl
    · exact this.2 rfl
theorem OwnV.dN {w : World} {B : Nat} {e : TypeId} {size : Nat} {a : Option Addr} {n cap : Nat} {xs : List Value} (h : OwnV w B e size a n cap xs) (k : Nat) : OwnV (w.drewN k) B e size a n cap xs := h
/-- a row of tokens and a row of bytes lie apart -/
theorem own_ne {w : World} {B B' : Nat} {e e' : TypeId} {z z' : Nat} {a b : Option Addr} {n cap n' cap' : Nat} {xs xs' : List Value} (h : OwnV w B e z a n cap xs) (h' : OwnV w B' e' z' b n' cap' xs') (he : e ≠ e') : ∀ g, a = some ⟨g, 0, none⟩ → b ≠ some ⟨g, 0, none⟩ := by
  intro g h1 h2
  rcases h.shape with ⟨h3, _⟩ | ⟨g1, cur, h3, _, hh, _⟩
  · rw [h3] at h1; cases h1
  rcases h'.shape with ⟨h4, _⟩ | ⟨g2, cur', h4, _, hh', _⟩
  · rw [h4] at h2; cases h2
  rw [h3] at h1; rw [h4] at h2
  simp only [Option.some.injEq, Addr.mk.injEq, and_true] at h1 h2
  subst h1; subst h2
  rw [hh] at hh'
  simp only [Option.some.injEq, Obj.cells.injEq] at hh'
  exact he hh'.2.1
theorem OwnV.push_top {w : World} {B : Nat} {x : Nat} {t : List Nat} {a : Option Addr} {k : Nat} (h : OwnV w B 5 1 a (x :: t).length k (cs .u8 (x :: t).reverse)) : ∃ b, a = some ⟨b, 0, none⟩ ∧ w.cell? ⟨b, t.length, none⟩ = some (.int .u8 (x : Int)) ∧ t.length + 1 ≤ k := by
  rcases h.shape with ⟨_, _, h0, _⟩ | ⟨g', cur, h1, _⟩
  · cases h0
  · subst h1
    refine ⟨g', rfl, h.cellAt ?_, by have := h.cap.1; simpa using this⟩
    rw [List.reverse_cons, cs_append, List.getElem?_append_right (by simp [cs]), cs_length, List.length_reverse, Nat.sub_self]; rfl
def ResQ (v : Value) (w : World) (e : Ending) (w' : World) : Prop := e = .returned v ∧ ∃ n, w' = w.drewN n
set_option maxRecDepth 100000 in
set_option maxHeartbeats 2000000 in
theorem innermost_any (g : Nat) (s : ByteArray) (p : Nat) (T : List Tk) (op : List Nat) (m : Nat) (w : World) (h : LB w g s p T op m) (hl : op.length ≤ 1000000) :
    Calls Tryz.prog 32 #[.pointer (some ⟨g, 0, none⟩)] w (ResQ (.int .u8 (inn op : Nat)) w) := by
  obtain ⟨a1, k1, a2, k2, h⟩ := h
  rcases op with _ | ⟨x, t⟩
  · have c3 := h.c3
    clear h
    go_enter Tryz.func32, Tryz.ntmps32
    go_wp2
    go_ret
    exact ⟨rfl, 0, rfl⟩
  · have c3 := h.c3
    obtain ⟨b, rfl, hc, hk⟩ := h.oo.push_top
    have hx : inn (x :: t) = x := rfl
    rw [hx]
    rw [List.length_cons] at c3 hl
    have s0 : IntKind.i64.wrap (((t.length + 1 : Nat) : Int) - 1) = t.length := by rw [show ((t.length + 1 : Nat) : Int) - 1 = (t.length : Int) by omega]; exact IntWalk.i64_in _ (by omega)
    have t0 : (((t.length + 1 : Nat) : Int) == 0) = false := by rw [beq_eq_false_iff_ne]; omega
    clear h hx
    obtain ⟨K, hK⟩ : ∃ K, t.length + 1 = K := ⟨_, rfl⟩
    have hK1 : t.length < K := by omega
    have hK2 : 1 ≤ K := by omega
    rw [hK] at c3 s0 t0 hk hl
    clear hK
    generalize t.length = n at *
    have hK3 : (n : Int) < (K : Int) := by omega
    go_enter Tryz.func32, Tryz.ntmps32
    go_wp2_with fail
    go_quiet (fail)
    go_wp2
    go_ret
    exact ⟨rfl, _, rfl⟩
end Go.Proofs.YtpgiljibicigeaaGreatDoor

/- lex: more, put, push, pop walked. -/
namespace Go.Proofs.YtpgiljibicigeaaGreatDoor
open Go.RowKit UM QM LX

def ResMo (g : Nat) (s : ByteArray) (p : Nat) (T : List Tk) (op : List Nat) (m : Nat) (v : Value) (w : World) (e : Ending) (w' : World) : Prop := e = .returned v ∧ LB w' g s p T op m ∧ w.grownBy w' (some g)
set_option maxRecDepth 100000 in
set_option maxHeartbeats 4000000 in
theorem more_any (g : Nat) (s : ByteArray) (p : Nat) (T : List Tk) (op : List Nat) (m : Nat) (w : World) (h : LB w g s p T op m) (hs : s.size ≤ 100000) (hl : op.length ≤ 1000000) :
    Calls Tryz.prog 25 #[.pointer (some ⟨g, 0, none⟩)] w (ResMo g s (p + skR op ((bl s).drop p)) T op m (.bool (decide (p + skR op ((bl s).drop p) < s.size))) w) := by
  have HI := Lib.hid (innermost_any g s p T op m w h hl)
  obtain ⟨a1, k1, a2, k2, h⟩ := h
  have HX := Lib.hid h
  have hp := h.pl
  have c0 := h.c0; have c1 := h.c1; have fz := h.fz
  clear h
  by_cases h1 : inn op = 1
  · have t0 : (((inn op : Nat) : Int) != 1) = false := by rw [bne_eq_false_iff_eq]; omega
    have e0 : skR op ((bl s).drop p) = 0 := if_pos h1
    rw [e0, Nat.add_zero]
    clear h1 e0
    generalize inn op = io at *
    go_enter Tryz.func25, Tryz.ntmps25
    go_wp2_with fail
    refine HI.out.mono ?_
    rintro e w1 ⟨rfl, n, rfl⟩
    go_wp2_with fail
    go_quiet (fail)
    go_wp2
    go_ret
    exact ⟨rfl, ⟨a1, k1, a2, k2, (HX.out.dN _).dN _⟩, gb_dN (gb_dN (gb_refl _ _) _) _⟩
  · have t0 : (((inn op : Nat) : Int) != 1) = true := by rw [bne_iff_ne]; omega
    have e0 : skR op ((bl s).drop p) = bkR false ((bl s).drop p) := if_neg h1
    rw [e0]
    have hb := bkR_le false ((bl s).drop p)
    rw [List.length_drop, bl_len] at hb
    have HB := Lib.hid (fun w => blanksEnd_any s p w (by omega) hp)
    clear h1 e0
    generalize inn op = io at *
    have hq : p + bkR false ((bl s).drop p) ≤ s.size := by omega
    generalize p + bkR false ((bl s).drop p) = q at *
    clear hb
    go_enter Tryz.func25, Tryz.ntmps25
    go_wp2_with fail
    refine HI.out.mono ?_
    rintro e w1 ⟨rfl, n, rfl⟩
    go_wp2_with fail
    go_region_law (go_simp; go_at_call 33; (with_reducible refine (HB.out _).mono ?_); rintro e w2 ⟨rfl, rfl⟩)
    all_goals
      have HY := Lib.hid ((HX.out.dN (n + 1)).at q hq rfl)
      have GB : Hid (w.grownBy ((w.drewN (n + 1)).setCell ⟨g, 1, none⟩ (.int .i64 (q : Int))) (some g)) := Lib.hid (gb_set (gb_dN (gb_refl _ _) _) _ _)
      generalize (w.drewN (n + 1)).setCell ⟨g, 1, none⟩ (.int .i64 (q : Int)) = w3 at *
      clear c0 c1 fz HX
      have c0 := HY.out.c0
      have c1 := HY.out.c1
      go_wp2_with fail
      go_quiet (fail)
      go_wp2
      go_ret
      exact ⟨rfl, ⟨a1, k1, a2, k2, HY.out.dN _⟩, gb_dN GB.out _⟩
theorem LBX.putT {w w' : World} {g : Nat} {s : ByteArray} {p : Nat} {T T' : List Tk} {op : List Nat} {m : Nat} {a1 a1' : Option Addr} {k1 k1' : Nat} {a2 : Option Addr} {k2 : Nat} (h : LBX w g s p T op m a1 k1 a2 k2) (hb : Below (g + 1) w w') (ho : Oth w w' a1) (hn : OwnV w' (g + 1) 75 3 a1' T'.length k1' (tkc T')) :
    LBX (w'.setCell ⟨g, 2, none⟩ (.slice a1' T'.length k1')) g s p T' op m a1' k1' a2 k2 := by
  have hs := gb_set (gb_refl w' (some g)) 2 (.slice a1' T'.length k1')
  have key : ∀ (j : Nat) (v : Value), w.cell? ⟨g, j, none⟩ = some v → w'.cell? ⟨g, j, none⟩ = some v := fun j v e => by rw [hb.cell (Nat.lt_succ_self g)]; exact e
  refine ⟨?_, ?_, by simp [go_sem, key _ _ h.c2], ?_, ?_, fun j => ?_, hn.gbl hs (Nat.lt_succ_self _), ((h.oo.oth ho (own_ne h.oo h.ot (by decide)))).gbl hs (Nat.lt_succ_self _), h.pl⟩
  · rw [World.cell?_setCell_other _ _ _ _ (by simp)]; exact key _ _ h.c0
  · rw [World.cell?_setCell_other _ _ _ _ (by simp)]; exact key _ _ h.c1
  · rw [World.cell?_setCell_other _ _ _ _ (by simp)]; exact key _ _ h.c3
  · rw [World.cell?_setCell_other _ _ _ _ (by simp)]; exact key _ _ h.c4
  · rw [World.frozen?_setCell]; exact (hb.frozen (p := ⟨g, j, none⟩) (Nat.lt_succ_self g)).trans (h.fz j)
/-- what a method leaves: the box, all else alone -/
def ResL (g : Nat) (s : ByteArray) (p : Nat) (T : List Tk) (op : List Nat) (m : Nat) (v : Value) (w : World) (e : Ending) (w' : World) : Prop := e = .returned v ∧ LB w' g s p T op m ∧ Fr g w w'
theorem own_alloc {w : World} {B : Nat} {e : TypeId} {size : Nat} {a : Option Addr} {n cap : Nat} {xs : List Value} (h : OwnV w B e size a n cap xs) (o : Obj) : OwnV (w.alloc o) B e size a n cap xs := World.ownsRow.alloc h o
set_option maxRecDepth 100000 in
set_option maxHeartbeats 4000000 in
theorem lxPut_any (kind k0 k1 : Nat) (g : Nat) (s : ByteArray) (p : Nat) (T : List Tk) (op : List Nat) (m : Nat) (w : World) (h : LB w g s p T op m) (_hs : s.size ≤ 100000) (hT : T.length ≤ 1000000) (h0 : k0 ≤ k1) (h1 : k1 ≤ s.size) :
    Calls Tryz.prog 54 #[.pointer (some ⟨g, 0, none⟩), .int .i64 (kind : Int), .int .i64 (k0 : Int), .int .i64 (k1 : Int)] w (ResL g s k1 (T ++ [(kind, ((bl s).drop k0).take (k1 - k0), p)]) op m (.tuple #[]) w) := by
  obtain ⟨a1, c1', a2, c2', h⟩ := h
  have HX := Lib.hid h
  have hp := h.pl
  have hg := h.lt
  have c0 := h.c0; have c1 := h.c1; have c2 := h.c2; have fz := h.fz
  have i0 : (k0 : Int) ≤ (k1 : Int) := by omega
  have i1 : (k1 : Int) ≤ (s.size : Int) := by omega
  clear h
  have hx : tx (((bl s).drop k0).take (k1 - k0)) = s.extract k0 k1 := bl_inj (by
    rw [bl_tx (fun x hx => bl_lo s x (List.mem_of_mem_drop (List.mem_of_mem_take hx)))]
    unfold bl
    rw [← List.map_drop, ← List.map_take]
    congr 1
    rw [ByteArray.data_extract]; simp [List.take_drop])
  have HE := Lib.hid hx
  clear hx
  generalize hst : s.extract k0 k1 = st at *
  go_enter Tryz.func54, Tryz.ntmps54
  go_wp2_with fail
  go_region_law ((refine step_row _ rfl _ _ 39 rfl (g + 1) 75 _ 3 32 Tryz.underlying39 infoTok rfl (by decide) a1 c1' T.length (tkc T) rfl [.int .i64 (kind : Int), .string st, .int .i64 (p : Int)] rfl (by intro u hu; simp at hu; rcases hu with rfl | rfl | rfl <;> rfl) w.heap.size 1 rfl (by intro j u hj; rcases j with _ | _ | _ | j <;> simp at hj <;> subst hj <;> simp) (OwnV.dN (own_alloc HX.out.ot _) 1) (by omega) (by unfold maxLen; omega) (by simp; omega) ?_; intro a3 c3 w2 e1 e2 e3; have d2 : w2.cell? ⟨g, 2, none⟩ = some (.slice a1 T.length c1') := (by rw [e2.cell (Nat.lt_succ_self g)]; exact (cell_old hg).trans c2); have f2 : w2.frozen? ⟨g, 2, none⟩ = false := (by rw [e2.frozen (p := ⟨g, 2, none⟩) (Nat.lt_succ_self g)]; exact (frz_old hg).trans (fz 2))))
  all_goals
    have hbA : Below w.heap.size w (w.alloc (.cells #[.int .i64 (kind : Int), .string st, .int .i64 (p : Int)] 75)) := (Below.refl _ _).alloc (Nat.le_refl _) _
    have e4 : OwnV w2 (g + 1) 75 3 a3 (T ++ [(kind, ((bl s).drop k0).take (k1 - k0), p)]).length c3 (tkc (T ++ [(kind, ((bl s).drop k0).take (k1 - k0), p)])) := by
      rw [tkc_snoc, List.length_append, HE.out]; exact e1
    have HY := Lib.hid (((HX.out.below hbA).dN 1).putT e2 e3 e4)
    have HF : Hid (Fr g w w2) := Lib.hid ((Fr.below (hbA.drew) (Nat.le_of_lt hg)).trans (Fr.oth (OwnV.dN (own_alloc HX.out.ot _) 1) (.inl rfl) e2 e3))
    have hl2 : (T ++ [(kind, ((bl s).drop k0).take (k1 - k0), p)]).length = T.length + 1 := by simp
    rw [hl2] at HY
    have hz := e2.size
    have hg2 : g < w2.heap.size := lt_of_cell d2
    have HG : Hid (Fr g w (w2.setCell ⟨g, 2, none⟩ (.slice a3 (T.length + 1) c3))) := Lib.hid (HF.out.trans (Fr.gb (gb_set (gb_refl _ _) _ _) (Nat.le_of_lt hg2)))
    have hg3 : g < (w2.setCell ⟨g, 2, none⟩ (.slice a3 (T.length + 1) c3)).heap.size := by simpa using hg2
    clear e1 e2 e3 e4 d2 f2 c0 c1 c2 fz HX HF hl2 hbA hz hg2
    generalize w2.setCell ⟨g, 2, none⟩ (.slice a3 (T.length + 1) c3) = w3 at *
    generalize T ++ [(kind, ((bl s).drop k0).take (k1 - k0), p)] = T' at *
    have c1 := HY.out.c1
    have fz := HY.out.fz
    go_wp2
    refine bodyPost_end (v := .tuple #[]) (by simp [results, Tryz.results54, go_sem]) rfl ?_
    exact ⟨rfl, ⟨a3, c3, a2, c2', HY.out.at k1 h1 rfl⟩, HG.out.trans (Fr.gb (gb_set (gb_refl _ _) _ _) (Nat.le_of_lt hg3))⟩
end Go.Proofs.YtpgiljibicigeaaGreatDoor

/- lex: push, pop, begin, end, enter walked. -/
namespace Go.Proofs.YtpgiljibicigeaaGreatDoor
open Go.RowKit UM QM LX

theorem infoU8v : (Tryz.prog.info? 5).map (fun i => (i.zero, i.size, i.bytes)) = some (some (.int .u8 0), 1, 1) := by kernel_rfl
theorem LBX.keep {w : World} {g : Nat} {s : ByteArray} {p : Nat} {T : List Tk} {op : List Nat} {m : Nat} {a1 : Option Addr} {k1 : Nat} {a2 : Option Addr} {k2 : Nat} (h : LBX w g s p T op m a1 k1 a2 k2) (m' : Nat) {v : Int} (hv : v = (m' : Int)) : LBX (w.setCell ⟨g, 4, none⟩ (.int .i64 v)) g s p T op m' a1 k1 a2 k2 := by
  subst hv
  have hg := gb_set (gb_refl w (some g)) 4 (.int .i64 (m' : Int))
  refine ⟨?_, ?_, ?_, ?_, by simp [go_sem, h.c4], fun j => by simp [go_sem, h.fz j], h.ot.gbl hg (Nat.lt_succ_self _), h.oo.gbl hg (Nat.lt_succ_self _), h.pl⟩
  · rw [World.cell?_setCell_other _ _ _ _ (by simp)]; exact h.c0
  · rw [World.cell?_setCell_other _ _ _ _ (by simp)]; exact h.c1
  · rw [World.cell?_setCell_other _ _ _ _ (by simp)]; exact h.c2
  · rw [World.cell?_setCell_other _ _ _ _ (by simp)]; exact h.c3
theorem LBX.putO {w w' : World} {g : Nat} {s : ByteArray} {p : Nat} {T : List Tk} {op op' : List Nat} {m : Nat} {a1 : Option Addr} {k1 : Nat} {a2 a2' : Option Addr} {k2 k2' n : Nat} (h : LBX w g s p T op m a1 k1 a2 k2) (hb : Below (g + 1) w w') (ho : Oth w w' a2) (hn : OwnV w' (g + 1) 5 1 a2' op'.length k2' (cs .u8 op'.reverse)) (hl : n = op'.length) :
    LBX (w'.setCell ⟨g, 3, none⟩ (.slice a2' n k2')) g s p T op' m a1 k1 a2' k2' := by
  subst hl
  have hs := gb_set (gb_refl w' (some g)) 3 (.slice a2' op'.length k2')
  have key : ∀ (j : Nat) (v : Value), w.cell? ⟨g, j, none⟩ = some v → w'.cell? ⟨g, j, none⟩ = some v := fun j v e => by rw [hb.cell (Nat.lt_succ_self g)]; exact e
  refine ⟨?_, ?_, ?_, by simp [go_sem, key _ _ h.c3], ?_, fun j => ?_, ((h.ot.oth ho (own_ne h.ot h.oo (by decide)))).gbl hs (Nat.lt_succ_self _), hn.gbl hs (Nat.lt_succ_self _), h.pl⟩
  · rw [World.cell?_setCell_other _ _ _ _ (by simp)]; exact key _ _ h.c0
  · rw [World.cell?_setCell_other _ _ _ _ (by simp)]; exact key _ _ h.c1
  · rw [World.cell?_setCell_other _ _ _ _ (by simp)]; exact key _ _ h.c2
  · rw [World.cell?_setCell_other _ _ _ _ (by simp)]; exact key _ _ h.c4
  · rw [World.frozen?_setCell]; exact (hb.frozen (p := ⟨g, j, none⟩) (Nat.lt_succ_self g)).trans (h.fz j)
set_option maxRecDepth 100000 in
set_option maxHeartbeats 4000000 in
theorem lxPush_any (x : Nat) (g : Nat) (s : ByteArray) (p : Nat) (T : List Tk) (op : List Nat) (m : Nat) (w : World) (h : LB w g s p T op m) (hl : op.length ≤ 1000000) :
    Calls Tryz.prog 69 #[.pointer (some ⟨g, 0, none⟩), .int .u8 (x : Int)] w (ResL g s p T (x :: op) m (.tuple #[]) w) := by
  obtain ⟨a1, c1', a2, c2', h⟩ := h
  have HX := Lib.hid h
  have hg := h.lt
  have c3 := h.c3
  clear h
  go_enter Tryz.func69, Tryz.ntmps69
  go_wp2_with (at_builtin; refine wp_row _ rfl _ _ 52 rfl (g + 1) 5 (.int .u8 0) 1 1 Tryz.underlying52 infoU8v rfl (by decide) a2 c2' op.length _ rfl _ rfl (by intro u hu; simp at hu; subst hu; rfl) _ rfl HX.out.oo (by omega) (by unfold maxLen; omega) (by omega) ?_; intro a3 c3' w2 e1 e2 e3; have d3 : w2.cell? ⟨g, 3, none⟩ = some (.slice a2 op.length c2') := (by rw [e2.cell (Nat.lt_succ_self g)]; exact c3); have f3 : w2.frozen? ⟨g, 3, none⟩ = false := (by rw [e2.frozen (p := ⟨g, 3, none⟩) (Nat.lt_succ_self g)]; exact HX.out.fz 3))
  have e4 : OwnV w2 (g + 1) 5 1 a3 (x :: op).length c3' (cs .u8 (x :: op).reverse) := by
    rw [List.reverse_cons, cs_append]; exact e1
  have HY := Lib.hid (HX.out.putO (n := op.length + 1) e2 e3 e4 rfl)
  have HF : Hid (Fr g w w2) := Lib.hid (Fr.oth HX.out.oo (.inr rfl) e2 e3)
  have hg2 : g < w2.heap.size := lt_of_cell d3
  clear e1 e2 e3 e4 c3 HX
  try go_wp2
  refine bodyPost_end (v := .tuple #[]) (by simp [results, Tryz.results69, go_sem]) rfl ?_
  exact ⟨rfl, ⟨a1, c1', a3, c3', HY.out⟩, HF.out.trans (Fr.gb (gb_set (gb_refl _ _) _ _) (Nat.le_of_lt hg2))⟩
theorem oth_refl (w : World) (a : Option Addr) : Oth w w a := ⟨Nat.le_refl _, fun _ _ _ => rfl⟩
set_option maxRecDepth 100000 in
set_option maxHeartbeats 4000000 in
theorem lxPop_any (x : Nat) (g : Nat) (s : ByteArray) (p : Nat) (T : List Tk) (op : List Nat) (m : Nat) (w : World) (h : LB w g s p T (x :: op) m) (hl : op.length ≤ 1000000) :
    Calls Tryz.prog 67 #[.pointer (some ⟨g, 0, none⟩)] w (ResL g s p T op m (.tuple #[]) w) := by
  obtain ⟨a1, c1', a2, c2', h⟩ := h
  have hg := h.lt
  have c3 := h.c3; have fz := h.fz
  obtain ⟨b, rfl, hc, hk⟩ := h.oo.push_top
  have hp : OwnV w (g + 1) 5 1 (some ⟨b, 0, none⟩) op.length c2' (cs .u8 op.reverse) := by
    have := h.oo
    rw [List.reverse_cons, cs_append] at this
    exact ownsRow_pop (by rw [cs_length, List.length_reverse, Nat.mul_one]) this
  have HY := Lib.hid (fun n => (h.dN n).putO (n := op.length) (op' := op) (Below.refl _ _) (oth_refl _ _) (OwnV.dN hp n) rfl)
  rw [List.length_cons] at c3
  have s0 : IntKind.i64.wrap (((op.length + 1 : Nat) : Int) - 1) = op.length := by rw [show ((op.length + 1 : Nat) : Int) - 1 = (op.length : Int) by omega]; exact IntWalk.i64_in _ (by omega)
  clear h hp hc
  obtain ⟨K, hK⟩ : ∃ K, op.length + 1 = K := ⟨_, rfl⟩
  rw [hK] at c3 s0 hk
  have hK1 : op.length ≤ K := by omega
  have hK2 : 1 ≤ K := by omega
  have hk2 : op.length ≤ c2' := by omega
  have hk3 : (op.length : Int) ≤ (c2' : Int) := by omega
  clear hK
  go_enter Tryz.func67, Tryz.ntmps67
  go_wp2_with fail
  go_region
  all_goals
    go_wp2
    refine bodyPost_end (v := .tuple #[]) (by simp [results, Tryz.results67, go_sem]) rfl ?_
    exact ⟨rfl, ⟨a1, c1', _, c2', HY.out _⟩, Fr.gb (gb_set (gb_dN (gb_refl _ _) _) _ _) (Nat.le_of_lt hg)⟩
end Go.Proofs.YtpgiljibicigeaaGreatDoor
