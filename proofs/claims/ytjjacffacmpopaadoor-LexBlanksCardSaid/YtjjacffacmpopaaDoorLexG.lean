/- lex: the lexer's box; its small methods walked. -/
import Derived.Test.YtjjacffacmpopaaDoorLexE
import Derived.Test.YtjjacffacmpopaaDoorLexF
import Derived.Test.YtjjacffacmpopaaDoorMarK
import Derived.Test.YtjjacffacmpopaaDoorLimbMaths
import Derived.Deep.RegionLaw
import Derived.StillTailTactics
import Derived.WalkSmall
namespace Go.Proofs.YtjjacffacmpopaaDoor
open Go.RowKit UM QM LX

def tkc (T : List Tk) : List Value := T.flatMap fun t => [.int .i64 (t.1 : Int), .string (tx t.2.1), .int .i64 (t.2.2 : Int)]
theorem tkc_snoc (T : List Tk) (t : Tk) : tkc (T ++ [t]) = tkc T ++ [.int .i64 (t.1 : Int), .string (tx t.2.1), .int .i64 (t.2.2 : Int)] := by simp [tkc]
theorem infoTok : (Tryd.prog.info? 30).map (fun i => (i.zero, i.size, i.bytes)) = some (some (.agg #[.int .i64 0, .string ⟨#[]⟩, .int .i64 0]), 3, 32) := by kernel_rfl
/-- the lexer's box: p bytes gone through, tokens T, open op (the innermost one first) -/
structure LBX (w : World) (g : Nat) (s : ByteArray) (p : Nat) (T : List Tk) (op : List Nat) (m : Nat) (a1 : Option Addr) (k1 : Nat) (a2 : Option Addr) (k2 : Nat) : Prop where
  c0 : w.cell? ⟨g, 0, none⟩ = some (.string s)
  c1 : w.cell? ⟨g, 1, none⟩ = some (.int .i64 (p : Int))
  c2 : w.cell? ⟨g, 2, none⟩ = some (.slice a1 T.length k1)
  c3 : w.cell? ⟨g, 3, none⟩ = some (.slice a2 op.length k2)
  c4 : w.cell? ⟨g, 4, none⟩ = some (.int .i64 ((m : Nat) : Int))
  fz : ∀ j, w.frozen? ⟨g, j, none⟩ = false
  ot : OwnV w (g + 1) 30 3 a1 T.length k1 (tkc T)
  oo : OwnV w (g + 1) 5 1 a2 op.length k2 (cs .u8 op.reverse)
  pl : p ≤ s.size
def LB (w : World) (g : Nat) (s : ByteArray) (p : Nat) (T : List Tk) (op : List Nat) (m : Nat) : Prop := ∃ a1 k1 a2 k2, LBX w g s p T op m a1 k1 a2 k2
theorem OwnV.gbl {w w' : World} {B : Nat} {e : TypeId} {size : Nat} {a : Option Addr} {n cap g : Nat} {xs : List Value} (h : OwnV w B e size a n cap xs) (hg : w.grownBy w' (some g)) (hB : g < B) : OwnV w' B e size a n cap xs := by
  refine World.ownsRow.kept h hg ?_
  rcases h.shape with ⟨h1, _⟩ | ⟨g', cur, h1, hb, _⟩
  · left; rw [h1]; rfl
  · right; rw [h1]; intro e2; simp [Value.ownBlock] at e2; omega
theorem LBX.lt {w : World} {g : Nat} {s : ByteArray} {p : Nat} {T : List Tk} {op : List Nat} {m : Nat} {a1 : Option Addr} {k1 : Nat} {a2 : Option Addr} {k2 : Nat} (h : LBX w g s p T op m a1 k1 a2 k2) : g < w.heap.size := lt_of_cell h.c0
theorem LBX.dN {w : World} {g : Nat} {s : ByteArray} {p : Nat} {T : List Tk} {op : List Nat} {m : Nat} {a1 : Option Addr} {k1 : Nat} {a2 : Option Addr} {k2 : Nat} (h : LBX w g s p T op m a1 k1 a2 k2) (n : Nat) : LBX (w.drewN n) g s p T op m a1 k1 a2 k2 := ⟨h.c0, h.c1, h.c2, h.c3, h.c4, h.fz, h.ot, h.oo, h.pl⟩
theorem LBX.below {w w' : World} {g : Nat} {s : ByteArray} {p : Nat} {T : List Tk} {op : List Nat} {m : Nat} {a1 : Option Addr} {k1 : Nat} {a2 : Option Addr} {k2 : Nat} (h : LBX w g s p T op m a1 k1 a2 k2) (hb : Below w.heap.size w w') : LBX w' g s p T op m a1 k1 a2 k2 := by
  have key : ∀ (p : Addr) (v : Value), w.cell? p = some v → w'.cell? p = some v := fun p v e => by rw [hb.cell (lt_of_cell e)]; exact e
  exact ⟨key _ _ h.c0, key _ _ h.c1, key _ _ h.c2, key _ _ h.c3, key _ _ h.c4, fun j => (hb.frozen (p := ⟨g, j, none⟩) h.lt).trans (h.fz j), h.ot.below hb, h.oo.below hb, h.pl⟩
theorem LBX.at {w : World} {g : Nat} {s : ByteArray} {p : Nat} {T : List Tk} {op : List Nat} {m : Nat} {a1 : Option Addr} {k1 : Nat} {a2 : Option Addr} {k2 : Nat} (h : LBX w g s p T op m a1 k1 a2 k2) (q : Nat) (hq : q ≤ s.size) {v : Int} (hv : v = (q : Int)) : LBX (w.setCell ⟨g, 1, none⟩ (.int .i64 v)) g s q T op m a1 k1 a2 k2 := by
  subst hv
  have hg := gb_set (gb_refl w (some g)) 1 (.int .i64 (q : Int))
  refine ⟨?_, by simp [go_sem, h.c1], ?_, ?_, ?_, fun j => by simp [go_sem, h.fz j], h.ot.gbl hg (Nat.lt_succ_self _), h.oo.gbl hg (Nat.lt_succ_self _), hq⟩
  · rw [World.cell?_setCell_other _ _ _ _ (by simp)]; exact h.c0
  · rw [World.cell?_setCell_other _ _ _ _ (by simp)]; exact h.c2
  · rw [World.cell?_setCell_other _ _ _ _ (by simp)]; exact h.c3
  · rw [World.cell?_setCell_other _ _ _ _ (by simp)]; exact h.c4
/-- what a method of the lexer leaves alone: what lies below its box, and above it all that is neither tokens nor bytes -/
def Fr (g : Nat) (w w' : World) : Prop := Below g w w' ∧ ∀ k, k < w.heap.size → k ≠ g → (∀ cur t f, w.heap[k]? = some (.cells cur t f) → t ≠ 30 ∧ t ≠ 5) → w'.heap[k]? = w.heap[k]?
theorem Fr.refl (g : Nat) (w : World) : Fr g w w := ⟨Below.refl _ _, fun _ _ _ _ => rfl⟩
theorem Fr.trans {g : Nat} {a b c : World} (h : Fr g a b) (k : Fr g b c) : Fr g a c := by
  refine ⟨h.1.trans k.1, fun j hj hne ht => ?_⟩
  have e := h.2 j hj hne ht
  exact (k.2 j (Nat.lt_of_lt_of_le hj h.1.size) hne (fun cur t f hc => ht cur t f (by rw [← e]; exact hc))).trans e
theorem Fr.gb {g : Nat} {w w' : World} (h : w.grownBy w' (some g)) (hg : g ≤ w.heap.size) : Fr g w w' := ⟨gb_below h hg (Nat.le_refl _), fun k hk hne _ => h.block k hk (by simpa using hne)⟩
theorem Fr.dN {g : Nat} {w w' : World} (h : Fr g w w') (n : Nat) : Fr g w (w'.drewN n) := ⟨bdN h.1 n, h.2⟩
theorem Fr.below {g : Nat} {w w' : World} (h : Below w.heap.size w w') (hg : g ≤ w.heap.size) : Fr g w w' := ⟨h.mono hg, fun k hk _ _ => h.block k hk⟩
theorem Fr.oth {g : Nat} {w w' : World} {e : TypeId} {size : Nat} {a : Option Addr} {n cap : Nat} {xs : List Value} (h : OwnV w (g + 1) e size a n cap xs) (he : e = 30 ∨ e = 5) (hb : Below (g + 1) w w') (ho : Oth w w' a) : Fr g w w' := by
  refine ⟨hb.mono (Nat.le_succ _), fun k hk hne ht => ho.2 k hk ?_⟩
  rcases h.shape with ⟨h1, _⟩ | ⟨g', cur, h1, _, hh, _⟩
  · rw [h1]; simp
  · rw [h1]
    intro h2
    simp only [Option.some.injEq, Addr.mk.injEq, and_true] at h2
    subst h2
    have := ht _ _ _ hh
    rcases he with rfl | rfl
    · exact this.1 rfl
    · exact this.2 rfl
theorem OwnV.dN {w : World} {B : Nat} {e : TypeId} {size : Nat} {a : Option Addr} {n cap : Nat} {xs : List Value} (h : OwnV w B e size a n cap xs) (k : Nat) : OwnV (w.drewN k) B e size a n cap xs := h
/-- a row of tokens and a row of bytes lie apart -/
theorem own_ne {w : World} {B B' : Nat} {e e' : TypeId} {z z' : Nat} {a b : Option Addr} {n cap n' cap' : Nat} {xs xs' : List Value} (h : OwnV w B e z a n cap xs) (h' : OwnV w B' e' z' b n' cap' xs') (he : e ≠ e') : ∀ g, a = some ⟨g, 0, none⟩ → b ≠ some ⟨g, 0, none⟩ := by
  intro g h1 h2
  rcases h.shape with ⟨h3, _⟩ | ⟨g1, cur, h3, _, hh, _⟩
  · rw [h3] at h1; cases h1
  rcases h'.shape with ⟨h4, _⟩ | ⟨g2, cur', h4, _, hh', _⟩
  · rw [h4] at h2; cases h2
  rw [h3] at h1; rw [h4] at h2
  simp only [Option.some.injEq, Addr.mk.injEq, and_true] at h1 h2
  subst h1; subst h2
  rw [hh] at hh'
  simp only [Option.some.injEq, Obj.cells.injEq] at hh'
  exact he hh'.2.1
theorem OwnV.push_top {w : World} {B : Nat} {x : Nat} {t : List Nat} {a : Option Addr} {k : Nat} (h : OwnV w B 5 1 a (x :: t).length k (cs .u8 (x :: t).reverse)) : ∃ b, a = some ⟨b, 0, none⟩ ∧ w.cell? ⟨b, t.length, none⟩ = some (.int .u8 (x : Int)) ∧ t.length + 1 ≤ k := by
  rcases h.shape with ⟨_, _, h0, _⟩ | ⟨g', cur, h1, _⟩
  · cases h0
  · subst h1
    refine ⟨g', rfl, h.cellAt ?_, by have := h.cap.1; simpa using this⟩
    rw [List.reverse_cons, cs_append, List.getElem?_append_right (by simp [cs]), cs_length, List.length_reverse, Nat.sub_self]; rfl
def ResQ (v : Value) (w : World) (e : Ending) (w' : World) : Prop := e = .returned v ∧ ∃ n, w' = w.drewN n
set_option maxRecDepth 100000 in
set_option maxHeartbeats 2000000 in
theorem innermost_any (g : Nat) (s : ByteArray) (p : Nat) (T : List Tk) (op : List Nat) (m : Nat) (w : World) (h : LB w g s p T op m) (hl : op.length ≤ 1000000) :
    Calls Tryd.prog 28 #[.pointer (some ⟨g, 0, none⟩)] w (ResQ (.int .u8 (inn op : Nat)) w) := by
  obtain ⟨a1, k1, a2, k2, h⟩ := h
  rcases op with _ | ⟨x, t⟩
  · have c3 := h.c3
    clear h
    go_enter Tryd.func28, Tryd.ntmps28
    go_wp2
    go_ret
    exact ⟨rfl, 0, rfl⟩
  · have c3 := h.c3
    obtain ⟨b, rfl, hc, hk⟩ := h.oo.push_top
    have hx : inn (x :: t) = x := rfl
    rw [hx]
    rw [List.length_cons] at c3 hl
    have s0 : IntKind.i64.wrap (((t.length + 1 : Nat) : Int) - 1) = t.length := by rw [show ((t.length + 1 : Nat) : Int) - 1 = (t.length : Int) by omega]; exact IntWalk.i64_in _ (by omega)
    have t0 : (((t.length + 1 : Nat) : Int) == 0) = false := by rw [beq_eq_false_iff_ne]; omega
    clear h hx
    obtain ⟨K, hK⟩ : ∃ K, t.length + 1 = K := ⟨_, rfl⟩
    have hK1 : t.length < K := by omega
    have hK2 : 1 ≤ K := by omega
    rw [hK] at c3 s0 t0 hk hl
    clear hK
    generalize t.length = n at *
    have hK3 : (n : Int) < (K : Int) := by omega
    go_enter Tryd.func28, Tryd.ntmps28
    go_wp2_with fail
    go_quiet (fail)
    go_wp2
    go_ret
    exact ⟨rfl, _, rfl⟩
end Go.Proofs.YtjjacffacmpopaaDoor
