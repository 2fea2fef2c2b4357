/- Rows of the call's own, of whatever elements: appended to one by one; what other blocks hold stays. Nothing of the program. -/
import Derived.Test.YtpgiljibicigeaaGreatDoorLimbLaws
import Derived.Deep.DeepAppendWide
import Derived.Test.YtpgiljibicigeaaGreatDoorLexEs
import Derived.Deep.RegionLaw
import Derived.StillTailTactics
import Derived.WalkSmall
set_option linter.unusedVariables false
set_option linter.unusedSimpArgs false
namespace Go.Proofs.YtpgiljibicigeaaGreatDoor
open Go.RowKit

theorem addP (b o j : Nat) : (⟨b, o, none⟩ : Addr).add j = ⟨b, o + j, none⟩ := by unfold Addr.add; split <;> simp_all
/-- the slice owns the cells xs: n elements of 'size' cells each -/
def OwnV (w : World) (B : Nat) (e : TypeId) (size : Nat) (a : Option Addr) (n cap : Nat) (xs : List Value) : Prop := w.ownsRow B e size (.slice a n cap) n xs
/-- whatever block is not a's is as it was -/
def Oth (w w' : World) (a : Option Addr) : Prop := w.heap.size ≤ w'.heap.size ∧ ∀ k, k < w.heap.size → a ≠ some ⟨k, 0, none⟩ → w'.heap[k]? = w.heap[k]?
theorem OwnV.nil (w : World) (B : Nat) (e : TypeId) (size : Nat) : OwnV w B e size none 0 0 [] := World.ownsRow_nil w B e size
theorem OwnV.below {w w' : World} {B : Nat} {e : TypeId} {size : Nat} {a : Option Addr} {n cap : Nat} {xs : List Value} (h : OwnV w B e size a n cap xs) (hb : Below w.heap.size w w') : OwnV w' B e size a n cap xs := by
  refine ⟨h.1, ?_⟩
  rcases h.2 with h' | ⟨g, cap', cur, h', hB, hg, hr⟩
  · exact .inl h'
  · exact .inr ⟨g, cap', cur, h', hB, by rw [hb.block g (Array.getElem?_eq_some_iff.1 hg).1]; exact hg, hr⟩
theorem OwnV.oth {w w' : World} {B : Nat} {e : TypeId} {size : Nat} {a b : Option Addr} {n cap : Nat} {xs : List Value} (h : OwnV w B e size a n cap xs) (ho : Oth w w' b) (hab : ∀ g, a = some ⟨g, 0, none⟩ → b ≠ some ⟨g, 0, none⟩) : OwnV w' B e size a n cap xs := by
  refine ⟨h.1, ?_⟩
  rcases h.2 with h' | ⟨g, cap', cur, h', hB, hg, hr⟩
  · exact .inl h'
  · have e1 : a = some ⟨g, 0, none⟩ := by simp only [Value.slice.injEq] at h'; exact h'.1
    exact .inr ⟨g, cap', cur, h', hB, by rw [ho.2 g (Array.getElem?_eq_some_iff.1 hg).1 (hab g e1)]; exact hg, hr⟩
theorem OwnV.mono {w : World} {B B' : Nat} {e : TypeId} {size : Nat} {a : Option Addr} {n cap : Nat} {xs : List Value} (h : OwnV w B e size a n cap xs) (hB : B' ≤ B) : OwnV w B' e size a n cap xs := by
  refine ⟨h.1, ?_⟩
  rcases h.2 with h' | ⟨g, cap', cur, h', hBg, hr⟩
  · exact .inl h'
  · exact .inr ⟨g, cap', cur, h', Nat.le_trans hB hBg, hr⟩
theorem OwnV.shape {w : World} {B : Nat} {e : TypeId} {size : Nat} {a : Option Addr} {n cap : Nat} {xs : List Value} (h : OwnV w B e size a n cap xs) :
    (a = none ∧ cap = 0 ∧ n = 0 ∧ xs = []) ∨ ∃ g cur, a = some ⟨g, 0, none⟩ ∧ B ≤ g ∧ w.heap[g]? = some (.cells cur e (0, 0)) ∧ n ≤ cap ∧ cap ≤ maxLen := by
  have h1 := h.1
  rcases h.2 with ⟨h', hn⟩ | ⟨g, cap', cur, h', hb, hg, hnc, hcm, _, _⟩
  · simp only [Value.slice.injEq] at h'
    subst hn
    exact .inl ⟨h'.1, h'.2.2, rfl, List.eq_nil_of_length_eq_zero (by simpa using h1)⟩
  · simp only [Value.slice.injEq] at h'
    exact .inr ⟨g, cur, h'.1, hb, hg, by rw [h'.2.2]; exact hnc, by rw [h'.2.2]; exact hcm⟩
theorem OwnV.cap {w : World} {B : Nat} {e : TypeId} {size : Nat} {a : Option Addr} {n cap : Nat} {xs : List Value} (h : OwnV w B e size a n cap xs) : n ≤ cap ∧ cap ≤ maxLen := by
  rcases h.shape with ⟨_, rfl, rfl, _⟩ | ⟨_, _, _, _, _, h1, h2⟩
  · exact ⟨Nat.le_refl _, by unfold maxLen; omega⟩
  · exact ⟨h1, h2⟩
theorem OwnV.cellAt {w : World} {B : Nat} {e : TypeId} {size : Nat} {g n cap : Nat} {xs : List Value} (h : OwnV w B e size (some ⟨g, 0, none⟩) n cap xs) {j : Nat} {v : Value} (hj : xs[j]? = some v) : w.cell? ⟨g, j, none⟩ = some v := by
  have := World.ownsRow.cells h (g := g) rfl j v hj
  rwa [addP, Nat.zero_add] at this
theorem OwnV.frozen {w : World} {B : Nat} {e : TypeId} {size : Nat} {g n cap : Nat} {xs : List Value} (h : OwnV w B e size (some ⟨g, 0, none⟩) n cap xs) (j : Nat) : w.frozen? ⟨g, j, none⟩ = false := World.ownsRow.frozenAt h j
theorem OwnV.set {w : World} {B : Nat} {e : TypeId} {size : Nat} {g n cap : Nat} {xs : List Value} (h : OwnV w B e size (some ⟨g, 0, none⟩) n cap xs) (j : Nat) (v : Value) : OwnV (w.setCell ⟨g, j, none⟩ v) B e size (some ⟨g, 0, none⟩) n cap (xs.set j v) := (World.ownsRow.stored h j v).1
theorem cellOfBlock {w w' : World} {k : Nat} (h : w'.heap[k]? = w.heap[k]?) (j : Nat) : w'.cell? ⟨k, j, none⟩ = w.cell? ⟨k, j, none⟩ := by simp [World.cell?, h]

section
variable {P : Program} {ops : Array Oper} {rest : List Oper} {o : Oper} {a : Act} {Q : Exit → Act → World → Prop}
/-- 'append(l, y)', l the call's own row of whatever elements; it may grow. -/
theorem wp_row (w0 : World) (hg : o.guard = none) (s x : Operand) (t : TypeId)
    (hop : o.op = Op.call { callee := Callee.builtin Builtin.append, args := #[s, x], argTypes := #[t, t] })
    (B : Nat) (e : TypeId) (z : Value) (size bytes : Nat) (hu : P.underlying t = some (.slice e)) (hinfo : (P.info? e).map (fun i => (i.zero, i.size, i.bytes)) = some (some z, size, bytes)) (hzs : z.cells.size = size) (hsz : 0 < size)
    (ao : Option Addr) (cap n : Nat) (xs : List Value) (hs : a.eval s = .slice ao n cap) (arr : Array Value) (harr : arr.size = size) (h1 : ∀ u ∈ arr.toList, u.oneCell' = true) (e' : TypeId)
    (hx : a.eval x = .slice (some ⟨w0.heap.size, 0, none⟩) 1 1)
    (hown : OwnV w0 B e size ao n cap xs) (hbytes : ((n + 1) + (n + 1) / 4 + 192) * bytes ≤ 281474976710656) (hlen : n + 1 ≤ maxLen) (hB : B ≤ w0.heap.size)
    (hK : ∀ ao' cap' w', OwnV w' B e size ao' (n + 1) cap' (xs ++ arr.toList) → Below B w0 w' → Oth w0 w' ao → wpList P ops Q rest (a.put o.dst (.slice ao' (n + 1) cap')) w') :
    wpList P ops Q (o :: rest) a (w0.alloc (.cells arr e')) := by
  obtain ⟨i, hi, hz0, hz1, hz2⟩ := info_parts hinfo
  have hown' : (w0.alloc (.cells arr e')).ownsRow B e size (.slice ao n cap) n xs := World.ownsRow.alloc hown _
  refine wpList_append_own_wide _ hg s x t hop B e i z size bytes hu hi hz0 hz1 hz2 hzs hsz _ _ _ hs hown' ⟨w0.heap.size, 0, none⟩ 1 1 arr.toList hx (by simpa using harr) ?_ h1 hlen hbytes (by simp; omega) ?_
  · intro j u hj
    rw [addP, Nat.zero_add]
    simpa using hj
  · intro v' w' ho hgr hnil
    have hb : Below B w0 w' := ((Below.refl B w0).alloc hB _).grown hgr (by simp; omega) (fun j hj => (hown'.lt j hj).1)
    have hsh : ∃ ao' cap', v' = .slice ao' (n + 1) cap' := by
      rcases ho.2 with ⟨h1, h2⟩ | ⟨g, cap', cur, h1, _⟩
      · omega
      · exact ⟨_, _, h1⟩
    obtain ⟨ao', cap', rfl⟩ := hsh
    refine hK ao' cap' w' ho hb ⟨?_, fun k hk ha => ?_⟩
    · have := hgr.size
      simp at this; omega
    · have := hgr.block k (by simp; omega) (fun hk2 => ha (by
        rcases OwnV.shape hown with ⟨h1, _⟩ | ⟨g, cur, h1, _⟩
        · rw [h1] at hk2; simp [Value.ownBlock] at hk2
        · rw [h1] at hk2 ⊢
          simp [Value.ownBlock] at hk2
          rw [hk2]))
      rw [this]
      exact heap_alloc_old w0 _ hk
/-- the same as one step of a region that draws -/
theorem step_row {E : Prop} {K : Act → World → Prop} (wx : World) (hg : o.guard = none) (s x : Operand) (t : TypeId)
    (hop : o.op = Op.call { callee := Callee.builtin Builtin.append, args := #[s, x], argTypes := #[t, t] })
    (B : Nat) (e : TypeId) (z : Value) (size bytes : Nat) (hu : P.underlying t = some (.slice e)) (hinfo : (P.info? e).map (fun i => (i.zero, i.size, i.bytes)) = some (some z, size, bytes)) (hzs : z.cells.size = size) (hsz : 0 < size)
    (ao : Option Addr) (cap n : Nat) (xs : List Value) (hs : a.eval s = .slice ao n cap) (news : List Value) (hnl : news.length = size) (h1 : ∀ u ∈ news, u.oneCell' = true) (gx c : Nat)
    (hx : a.eval x = .slice (some ⟨gx, 0, none⟩) 1 c) (hcell : ∀ j u, news[j]? = some u → wx.cell? ⟨gx, j, none⟩ = some u)
    (hown : OwnV wx B e size ao n cap xs) (hbytes : ((n + 1) + (n + 1) / 4 + 192) * bytes ≤ 281474976710656) (hlen : n + 1 ≤ maxLen) (hB : B ≤ wx.heap.size)
    (hK : ∀ ao' cap' w', OwnV w' B e size ao' (n + 1) cap' (xs ++ news) → Below B wx w' → Oth wx w' ao → K (a.put o.dst (.slice ao' (n + 1) cap')) w') :
    if Region.wanted o (yielded ops a.tmps) = true then Oper.wp P o a wx K Q else E := by
  have hw : Region.wanted o (yielded ops a.tmps) = true := by simp [Region.wanted, hg]
  rw [if_pos hw]
  obtain ⟨i, hi, hz0, hz1, hz2⟩ := info_parts hinfo
  have hown' : wx.ownsRow B e size (.slice ao n cap) n xs := hown
  refine wp_append_own_wide _ s x t hop B e i z size bytes hu hi hz0 hz1 hz2 hzs hsz _ _ _ hs hown' ⟨gx, 0, none⟩ 1 c news hx (by simpa using hnl) ?_ h1 hlen hbytes hB ?_
  · intro j u hj
    rw [addP, Nat.zero_add]
    exact hcell j u hj
  · intro v' w' ho hgr hnil
    have hb : Below B wx w' := (Below.refl B wx).grown hgr hB (fun j hj => (hown'.lt j hj).1)
    have hsh : ∃ ao' cap', v' = .slice ao' (n + 1) cap' := by
      rcases ho.2 with ⟨h1, h2⟩ | ⟨g, cap', cur, h1, _⟩
      · omega
      · exact ⟨_, _, h1⟩
    obtain ⟨ao', cap', rfl⟩ := hsh
    refine hK ao' cap' w' ho hb ⟨hgr.size, fun k hk ha => ?_⟩
    exact hgr.block k hk (fun hk2 => ha (by
        rcases OwnV.shape hown with ⟨h1, _⟩ | ⟨g, cur, h1, _⟩
        · rw [h1] at hk2; simp [Value.ownBlock] at hk2
        · rw [h1] at hk2 ⊢
          simp [Value.ownBlock] at hk2
          rw [hk2]))
end
end Go.Proofs.YtpgiljibicigeaaGreatDoor

/- lex: the lexer's box; its small methods walked. -/
namespace Go.Proofs.YtpgiljibicigeaaGreatDoor
open Go.RowKit UM QM LX

def tkc (T : List Tk) : List Value := T.flatMap fun t => [.int .i64 (t.1 : Int), .string (tx t.2.1), .int .i64 (t.2.2 : Int)]
theorem tkc_snoc (T : List Tk) (t : Tk) : tkc (T ++ [t]) = tkc T ++ [.int .i64 (t.1 : Int), .string (tx t.2.1), .int .i64 (t.2.2 : Int)] := by simp [tkc]
theorem infoTok : (Tryz.prog.info? 75).map (fun i => (i.zero, i.size, i.bytes)) = some (some (.agg #[.int .i64 0, .string ⟨#[]⟩, .int .i64 0]), 3, 32) := by kernel_rfl
/-- the lexer's box: p bytes gone through, tokens T, open op (the innermost one first) -/
structure LBX (w : World) (g : Nat) (s : ByteArray) (p : Nat) (T : List Tk) (op : List Nat) (m : Nat) (a1 : Option Addr) (k1 : Nat) (a2 : Option Addr) (k2 : Nat) : Prop where
  c0 : w.cell? ⟨g, 0, none⟩ = some (.string s)
  c1 : w.cell? ⟨g, 1, none⟩ = some (.int .i64 (p : Int))
  c2 : w.cell? ⟨g, 2, none⟩ = some (.slice a1 T.length k1)
  c3 : w.cell? ⟨g, 3, none⟩ = some (.slice a2 op.length k2)
  c4 : w.cell? ⟨g, 4, none⟩ = some (.int .i64 ((m : Nat) : Int))
  fz : ∀ j, w.frozen? ⟨g, j, none⟩ = false
  ot : OwnV w (g + 1) 75 3 a1 T.length k1 (tkc T)
  oo : OwnV w (g + 1) 5 1 a2 op.length k2 (cs .u8 op.reverse)
  pl : p ≤ s.size
def LB (w : World) (g : Nat) (s : ByteArray) (p : Nat) (T : List Tk) (op : List Nat) (m : Nat) : Prop := ∃ a1 k1 a2 k2, LBX w g s p T op m a1 k1 a2 k2
theorem OwnV.gbl {w w' : World} {B : Nat} {e : TypeId} {size : Nat} {a : Option Addr} {n cap g : Nat} {xs : List Value} (h : OwnV w B e size a n cap xs) (hg : w.grownBy w' (some g)) (hB : g < B) : OwnV w' B e size a n cap xs := by
  refine World.ownsRow.kept h hg ?_
  rcases h.shape with ⟨h1, _⟩ | ⟨g', cur, h1, hb, _⟩
  · left; rw [h1]; rfl
  · right; rw [h1]; intro e2; simp [Value.ownBlock] at e2; omega
theorem LBX.lt {w : World} {g : Nat} {s : ByteArray} {p : Nat} {T : List Tk} {op : List Nat} {m : Nat} {a1 : Option Addr} {k1 : Nat} {a2 : Option Addr} {k2 : Nat} (h : LBX w g s p T op m a1 k1 a2 k2) : g < w.heap.size := lt_of_cell h.c0
theorem LBX.dN {w : World} {g : Nat} {s : ByteArray} {p : Nat} {T : List Tk} {op : List Nat} {m : Nat} {a1 : Option Addr} {k1 : Nat} {a2 : Option Addr} {k2 : Nat} (h : LBX w g s p T op m a1 k1 a2 k2) (n : Nat) : LBX (w.drewN n) g s p T op m a1 k1 a2 k2 := ⟨h.c0, h.c1, h.c2, h.c3, h.c4, h.fz, h.ot, h.oo, h.pl⟩
theorem LBX.below {w w' : World} {g : Nat} {s : ByteArray} {p : Nat} {T : List Tk} {op : List Nat} {m : Nat} {a1 : Option Addr} {k1 : Nat} {a2 : Option Addr} {k2 : Nat} (h : LBX w g s p T op m a1 k1 a2 k2) (hb : Below w.heap.size w w') : LBX w' g s p T op m a1 k1 a2 k2 := by
  have key : ∀ (p : Addr) (v : Value), w.cell? p = some v → w'.cell? p = some v := fun p v e => by rw [hb.cell (lt_of_cell e)]; exact e
  exact ⟨key _ _ h.c0, key _ _ h.c1, key _ _ h.c2, key _ _ h.c3, key _ _ h.c4, fun j => (hb.frozen (p := ⟨g, j, none⟩) h.lt).trans (h.fz j), h.ot.below hb, h.oo.below hb, h.pl⟩
theorem LBX.at {w : World} {g : Nat} {s : ByteArray} {p : Nat} {T : List Tk} {op : List Nat} {m : Nat} {a1 : Option Addr} {k1 : Nat} {a2 : Option Addr} {k2 : Nat} (h : LBX w g s p T op m a1 k1 a2 k2) (q : Nat) (hq : q ≤ s.size) {v : Int} (hv : v = (q : Int)) : LBX (w.setCell ⟨g, 1, none⟩ (.int .i64 v)) g s q T op m a1 k1 a2 k2 := by
  subst hv
  have hg := gb_set (gb_refl w (some g)) 1 (.int .i64 (q : Int))
  refine ⟨?_, by simp [go_sem, h.c1], ?_, ?_, ?_, fun j => by simp [go_sem, h.fz j], h.ot.gbl hg (Nat.lt_succ_self _), h.oo.gbl hg (Nat.lt_succ_self _), hq⟩
  · rw [World.cell?_setCell_other _ _ _ _ (by simp)]; exact h.c0
  · rw [World.cell?_setCell_other _ _ _ _ (by simp)]; exact h.c2
  · rw [World.cell?_setCell_other _ _ _ _ (by simp)]; exact h.c3
  · rw [World.cell?_setCell_other _ _ _ _ (by simp)]; exact h.c4
/-- what a method of the lexer leaves alone: what lies below its box, and above it all that is neither tokens nor bytes -/
def Fr (g : Nat) (w w' : World) : Prop := Below g w w' ∧ ∀ k, k < w.heap.size → k ≠ g → (∀ cur t f, w.heap[k]? = some (.cells cur t f) → t ≠ 75 ∧ t ≠ 5) → w'.heap[k]? = w.heap[k]?
theorem Fr.refl (g : Nat) (w : World) : Fr g w w := ⟨Below.refl _ _, fun _ _ _ _ => rfl⟩
theorem Fr.trans {g : Nat} {a b c : World} (h : Fr g a b) (k : Fr g b c) : Fr g a c := by
  refine ⟨h.1.trans k.1, fun j hj hne ht => ?_⟩
  have e := h.2 j hj hne ht
  exact (k.2 j (Nat.lt_of_lt_of_le hj h.1.size) hne (fun cur t f hc => ht cur t f (by rw [← e]; exact hc))).trans e
theorem Fr.gb {g : Nat} {w w' : World} (h : w.grownBy w' (some g)) (hg : g ≤ w.heap.size) : Fr g w w' := ⟨gb_below h hg (Nat.le_refl _), fun k hk hne _ => h.block k hk (by simpa using hne)⟩
theorem Fr.dN {g : Nat} {w w' : World} (h : Fr g w w') (n : Nat) : Fr g w (w'.drewN n) := ⟨bdN h.1 n, h.2⟩
theorem Fr.below {g : Nat} {w w' : World} (h : Below w.heap.size w w') (hg : g ≤ w.heap.size) : Fr g w w' := ⟨h.mono hg, fun k hk _ _ => h.block k hk⟩
theorem Fr.oth {g : Nat} {w w' : World} {e : TypeId} {size : Nat} {a : Option Addr} {n cap : Nat} {xs : List Value} (h : OwnV w (g + 1) e size a n cap xs) (he : e = 75 ∨ e = 5) (hb : Below (g + 1) w w') (ho : Oth w w' a) : Fr g w w' := by
  refine ⟨hb.mono (Nat.le_succ _), fun k hk hne ht => ho.2 k hk ?_⟩
  rcases h.shape with ⟨h1, _⟩ | ⟨g', cur, h1, _, hh, _⟩
  · rw [h1]; simp
  · rw [h1]
    intro h2
    simp only [Option.some.injEq, Addr.mk.injEq, and_true] at h2
    subst h2
    have := ht _ _ _ hh
    rcases he with rfl | rfl
    · exact this.1 rfl
    · exact this.2 rfl
theorem OwnV.dN {w : World} {B : Nat} {e : TypeId} {size : Nat} {a : Option Addr} {n cap : Nat} {xs : List Value} (h : OwnV w B e size a n cap xs) (k : Nat) : OwnV (w.drewN k) B e size a n cap xs := h
/-- a row of tokens and a row of bytes lie apart -/
theorem own_ne {w : World} {B B' : Nat} {e e' : TypeId} {z z' : Nat} {a b : Option Addr} {n cap n' cap' : Nat} {xs xs' : List Value} (h : OwnV w B e z a n cap xs) (h' : OwnV w B' e' z' b n' cap' xs') (he : e ≠ e') : ∀ g, a = some ⟨g, 0, none⟩ → b ≠ some ⟨g, 0, none⟩ := by
  intro g h1 h2
  rcases h.shape with ⟨h3, _⟩ | ⟨g1, cur, h3, _, hh, _⟩
  · rw [h3] at h1; cases h1
  rcases h'.shape with ⟨h4, _⟩ | ⟨g2, cur', h4, _, hh', _⟩
  · rw [h4] at h2; cases h2
  rw [h3] at h1; rw [h4] at h2
  simp only [Option.some.injEq, Addr.mk.injEq, and_true] at h1 h2
  subst h1; subst h2
  rw [hh] at hh'
  simp only [Option.some.injEq, Obj.cells.injEq] at hh'
  exact he hh'.2.1
theorem OwnV.push_top {w : World} {B : Nat} {x : Nat} {t : List Nat} {a : Option Addr} {k : Nat} (h : OwnV w B 5 1 a (x :: t).length k (cs .u8 (x :: t).reverse)) : ∃ b, a = some ⟨b, 0, none⟩ ∧ w.cell? ⟨b, t.length, none⟩ = some (.int .u8 (x : Int)) ∧ t.length + 1 ≤ k := by
  rcases h.shape with ⟨_, _, h0, _⟩ | ⟨g', cur, h1, _⟩
  · cases h0
  · subst h1
    refine ⟨g', rfl, h.cellAt ?_, by have := h.cap.1; simpa using this⟩
    rw [List.reverse_cons, cs_append, List.getElem?_append_right (by simp [cs]), cs_length, List.length_reverse, Nat.sub_self]; rfl
def ResQ (v : Value) (w : World) (e : Ending) (w' : World) : Prop := e = .returned v ∧ ∃ n, w' = w.drewN n
set_option maxRecDepth 100000 in
set_option maxHeartbeats 2000000 in
theorem innermost_any (g : Nat) (s : ByteArray) (p : Nat) (T : List Tk) (op : List Nat) (m : Nat) (w : World) (h : LB w g s p T op m) (hl : op.length ≤ 1000000) :
    Calls Tryz.prog 32 #[.pointer (some ⟨g, 0, none⟩)] w (ResQ (.int .u8 (inn op : Nat)) w) := by
  obtain ⟨a1, k1, a2, k2, h⟩ := h
  rcases op with _ | ⟨x, t⟩
  · have c3 := h.c3
    clear h
    go_enter Tryz.func32, Tryz.ntmps32
    go_wp2
    go_ret
    exact ⟨rfl, 0, rfl⟩
  · have c3 := h.c3
    obtain ⟨b, rfl, hc, hk⟩ := h.oo.push_top
    have hx : inn (x :: t) = x := rfl
    rw [hx]
    rw [List.length_cons] at c3 hl
    have s0 : IntKind.i64.wrap (((t.length + 1 : Nat) : Int) - 1) = t.length := by rw [show ((t.length + 1 : Nat) : Int) - 1 = (t.length : Int) by omega]; exact IntWalk.i64_in _ (by omega)
    have t0 : (((t.length + 1 : Nat) : Int) == 0) = false := by rw [beq_eq_false_iff_ne]; omega
    clear h hx
    obtain ⟨K, hK⟩ : ∃ K, t.length + 1 = K := ⟨_, rfl⟩
    have hK1 : t.length < K := by omega
    have hK2 : 1 ≤ K := by omega
    rw [hK] at c3 s0 t0 hk hl
    clear hK
    generalize t.length = n at *
    have hK3 : (n : Int) < (K : Int) := by omega
    go_enter Tryz.func32, Tryz.ntmps32
    go_wp2_with fail
    go_quiet (fail)
    go_wp2
    go_ret
    exact ⟨rfl, _, rfl⟩
end Go.Proofs.YtpgiljibicigeaaGreatDoor

/- lex: more, put, push, pop walked. -/
namespace Go.Proofs.YtpgiljibicigeaaGreatDoor
open Go.RowKit UM QM LX

def ResMo (g : Nat) (s : ByteArray) (p : Nat) (T : List Tk) (op : List Nat) (m : Nat) (v : Value) (w : World) (e : Ending) (w' : World) : Prop := e = .returned v ∧ LB w' g s p T op m ∧ w.grownBy w' (some g)
set_option maxRecDepth 100000 in
set_option maxHeartbeats 4000000 in
theorem more_any (g : Nat) (s : ByteArray) (p : Nat) (T : List Tk) (op : List Nat) (m : Nat) (w : World) (h : LB w g s p T op m) (hs : s.size ≤ 100000) (hl : op.length ≤ 1000000) :
    Calls Tryz.prog 25 #[.pointer (some ⟨g, 0, none⟩)] w (ResMo g s (p + skR op ((bl s).drop p)) T op m (.bool (decide (p + skR op ((bl s).drop p) < s.size))) w) := by
  have HI := Lib.hid (innermost_any g s p T op m w h hl)
  obtain ⟨a1, k1, a2, k2, h⟩ := h
  have HX := Lib.hid h
  have hp := h.pl
  have c0 := h.c0; have c1 := h.c1; have fz := h.fz
  clear h
  by_cases h1 : inn op = 1
  · have t0 : (((inn op : Nat) : Int) != 1) = false := by rw [bne_eq_false_iff_eq]; omega
    have e0 : skR op ((bl s).drop p) = 0 := if_pos h1
    rw [e0, Nat.add_zero]
    clear h1 e0
    generalize inn op = io at *
    go_enter Tryz.func25, Tryz.ntmps25
    go_wp2_with fail
    refine HI.out.mono ?_
    rintro e w1 ⟨rfl, n, rfl⟩
    go_wp2_with fail
    go_quiet (fail)
    go_wp2
    go_ret
    exact ⟨rfl, ⟨a1, k1, a2, k2, (HX.out.dN _).dN _⟩, gb_dN (gb_dN (gb_refl _ _) _) _⟩
  · have t0 : (((inn op : Nat) : Int) != 1) = true := by rw [bne_iff_ne]; omega
    have e0 : skR op ((bl s).drop p) = bkR false ((bl s).drop p) := if_neg h1
    rw [e0]
    have hb := bkR_le false ((bl s).drop p)
    rw [List.length_drop, bl_len] at hb
    have HB := Lib.hid (fun w => blanksEnd_any s p w (by omega) hp)
    clear h1 e0
    generalize inn op = io at *
    have hq : p + bkR false ((bl s).drop p) ≤ s.size := by omega
    generalize p + bkR false ((bl s).drop p) = q at *
    clear hb
    go_enter Tryz.func25, Tryz.ntmps25
    go_wp2_with fail
    refine HI.out.mono ?_
    rintro e w1 ⟨rfl, n, rfl⟩
    go_wp2_with fail
    go_region_law (go_simp; go_at_call 33; (with_reducible refine (HB.out _).mono ?_); rintro e w2 ⟨rfl, rfl⟩)
    all_goals
      have HY := Lib.hid ((HX.out.dN (n + 1)).at q hq rfl)
      have GB : Hid (w.grownBy ((w.drewN (n + 1)).setCell ⟨g, 1, none⟩ (.int .i64 (q : Int))) (some g)) := Lib.hid (gb_set (gb_dN (gb_refl _ _) _) _ _)
      generalize (w.drewN (n + 1)).setCell ⟨g, 1, none⟩ (.int .i64 (q : Int)) = w3 at *
      clear c0 c1 fz HX
      have c0 := HY.out.c0
      have c1 := HY.out.c1
      go_wp2_with fail
      go_quiet (fail)
      go_wp2
      go_ret
      exact ⟨rfl, ⟨a1, k1, a2, k2, HY.out.dN _⟩, gb_dN GB.out _⟩
theorem LBX.putT {w w' : World} {g : Nat} {s : ByteArray} {p : Nat} {T T' : List Tk} {op : List Nat} {m : Nat} {a1 a1' : Option Addr} {k1 k1' : Nat} {a2 : Option Addr} {k2 : Nat} (h : LBX w g s p T op m a1 k1 a2 k2) (hb : Below (g + 1) w w') (ho : Oth w w' a1) (hn : OwnV w' (g + 1) 75 3 a1' T'.length k1' (tkc T')) :
    LBX (w'.setCell ⟨g, 2, none⟩ (.slice a1' T'.length k1')) g s p T' op m a1' k1' a2 k2 := by
  have hs := gb_set (gb_refl w' (some g)) 2 (.slice a1' T'.length k1')
  have key : ∀ (j : Nat) (v : Value), w.cell? ⟨g, j, none⟩ = some v → w'.cell? ⟨g, j, none⟩ = some v := fun j v e => by rw [hb.cell (Nat.lt_succ_self g)]; exact e
  refine ⟨?_, ?_, by simp [go_sem, key _ _ h.c2], ?_, ?_, fun j => ?_, hn.gbl hs (Nat.lt_succ_self _), ((h.oo.oth ho (own_ne h.oo h.ot (by decide)))).gbl hs (Nat.lt_succ_self _), h.pl⟩
  · rw [World.cell?_setCell_other _ _ _ _ (by simp)]; exact key _ _ h.c0
  · rw [World.cell?_setCell_other _ _ _ _ (by simp)]; exact key _ _ h.c1
  · rw [World.cell?_setCell_other _ _ _ _ (by simp)]; exact key _ _ h.c3
  · rw [World.cell?_setCell_other _ _ _ _ (by simp)]; exact key _ _ h.c4
  · rw [World.frozen?_setCell]; exact (hb.frozen (p := ⟨g, j, none⟩) (Nat.lt_succ_self g)).trans (h.fz j)
/-- what a method leaves: the box, all else alone -/
def ResL (g : Nat) (s : ByteArray) (p : Nat) (T : List Tk) (op : List Nat) (m : Nat) (v : Value) (w : World) (e : Ending) (w' : World) : Prop := e = .returned v ∧ LB w' g s p T op m ∧ Fr g w w'
theorem own_alloc {w : World} {B : Nat} {e : TypeId} {size : Nat} {a : Option Addr} {n cap : Nat} {xs : List Value} (h : OwnV w B e size a n cap xs) (o : Obj) : OwnV (w.alloc o) B e size a n cap xs := World.ownsRow.alloc h o
set_option maxRecDepth 100000 in
set_option maxHeartbeats 4000000 in
theorem lxPut_any (kind k0 k1 : Nat) (g : Nat) (s : ByteArray) (p : Nat) (T : List Tk) (op : List Nat) (m : Nat) (w : World) (h : LB w g s p T op m) (_hs : s.size ≤ 100000) (hT : T.length ≤ 1000000) (h0 : k0 ≤ k1) (h1 : k1 ≤ s.size) :
    Calls Tryz.prog 54 #[.pointer (some ⟨g, 0, none⟩), .int .i64 (kind : Int), .int .i64 (k0 : Int), .int .i64 (k1 : Int)] w (ResL g s k1 (T ++ [(kind, ((bl s).drop k0).take (k1 - k0), p)]) op m (.tuple #[]) w) := by
  obtain ⟨a1, c1', a2, c2', h⟩ := h
  have HX := Lib.hid h
  have hp := h.pl
  have hg := h.lt
  have c0 := h.c0; have c1 := h.c1; have c2 := h.c2; have fz := h.fz
  have i0 : (k0 : Int) ≤ (k1 : Int) := by omega
  have i1 : (k1 : Int) ≤ (s.size : Int) := by omega
  clear h
  have hx : tx (((bl s).drop k0).take (k1 - k0)) = s.extract k0 k1 := bl_inj (by
    rw [bl_tx (fun x hx => bl_lo s x (List.mem_of_mem_drop (List.mem_of_mem_take hx)))]
    unfold bl
    rw [← List.map_drop, ← List.map_take]
    congr 1
    rw [ByteArray.data_extract]; simp [List.take_drop])
  have HE := Lib.hid hx
  clear hx
  generalize hst : s.extract k0 k1 = st at *
  go_enter Tryz.func54, Tryz.ntmps54
  go_wp2_with fail
  go_region_law ((refine step_row _ rfl _ _ 39 rfl (g + 1) 75 _ 3 32 Tryz.underlying39 infoTok rfl (by decide) a1 c1' T.length (tkc T) rfl [.int .i64 (kind : Int), .string st, .int .i64 (p : Int)] rfl (by intro u hu; simp at hu; rcases hu with rfl | rfl | rfl <;> rfl) w.heap.size 1 rfl (by intro j u hj; rcases j with _ | _ | _ | j <;> simp at hj <;> subst hj <;> simp) (OwnV.dN (own_alloc HX.out.ot _) 1) (by omega) (by unfold maxLen; omega) (by simp; omega) ?_; intro a3 c3 w2 e1 e2 e3; have d2 : w2.cell? ⟨g, 2, none⟩ = some (.slice a1 T.length c1') := (by rw [e2.cell (Nat.lt_succ_self g)]; exact (cell_old hg).trans c2); have f2 : w2.frozen? ⟨g, 2, none⟩ = false := (by rw [e2.frozen (p := ⟨g, 2, none⟩) (Nat.lt_succ_self g)]; exact (frz_old hg).trans (fz 2))))
  all_goals
    have hbA : Below w.heap.size w (w.alloc (.cells #[.int .i64 (kind : Int), .string st, .int .i64 (p : Int)] 75)) := (Below.refl _ _).alloc (Nat.le_refl _) _
    have e4 : OwnV w2 (g + 1) 75 3 a3 (T ++ [(kind, ((bl s).drop k0).take (k1 - k0), p)]).length c3 (tkc (T ++ [(kind, ((bl s).drop k0).take (k1 - k0), p)])) := by
      rw [tkc_snoc, List.length_append, HE.out]; exact e1
    have HY := Lib.hid (((HX.out.below hbA).dN 1).putT e2 e3 e4)
    have HF : Hid (Fr g w w2) := Lib.hid ((Fr.below (hbA.drew) (Nat.le_of_lt hg)).trans (Fr.oth (OwnV.dN (own_alloc HX.out.ot _) 1) (.inl rfl) e2 e3))
    have hl2 : (T ++ [(kind, ((bl s).drop k0).take (k1 - k0), p)]).length = T.length + 1 := by simp
    rw [hl2] at HY
    have hz := e2.size
    have hg2 : g < w2.heap.size := lt_of_cell d2
    have HG : Hid (Fr g w (w2.setCell ⟨g, 2, none⟩ (.slice a3 (T.length + 1) c3))) := Lib.hid (HF.out.trans (Fr.gb (gb_set (gb_refl _ _) _ _) (Nat.le_of_lt hg2)))
    have hg3 : g < (w2.setCell ⟨g, 2, none⟩ (.slice a3 (T.length + 1) c3)).heap.size := by simpa using hg2
    clear e1 e2 e3 e4 d2 f2 c0 c1 c2 fz HX HF hl2 hbA hz hg2
    generalize w2.setCell ⟨g, 2, none⟩ (.slice a3 (T.length + 1) c3) = w3 at *
    generalize T ++ [(kind, ((bl s).drop k0).take (k1 - k0), p)] = T' at *
    have c1 := HY.out.c1
    have fz := HY.out.fz
    go_wp2
    refine bodyPost_end (v := .tuple #[]) (by simp [results, Tryz.results54, go_sem]) rfl ?_
    exact ⟨rfl, ⟨a3, c3, a2, c2', HY.out.at k1 h1 rfl⟩, HG.out.trans (Fr.gb (gb_set (gb_refl _ _) _ _) (Nat.le_of_lt hg3))⟩
end Go.Proofs.YtpgiljibicigeaaGreatDoor
