/- Rows of the call's own, of whatever elements: appended to one by one; what other blocks hold stays. Nothing of the program. -/
import Derived.Test.YtjjacffacmpopaaDoorLimbMaths
import Derived.Deep.DeepAppendWide
namespace Go.Proofs.YtjjacffacmpopaaDoor
open Go.RowKit

theorem addP (b o j : Nat) : (⟨b, o, none⟩ : Addr).add j = ⟨b, o + j, none⟩ := by unfold Addr.add; split <;> simp_all
/-- the slice owns the cells xs: n elements of 'size' cells each -/
def OwnV (w : World) (B : Nat) (e : TypeId) (size : Nat) (a : Option Addr) (n cap : Nat) (xs : List Value) : Prop := w.ownsRow B e size (.slice a n cap) n xs
/-- whatever block is not a's is as it was -/
def Oth (w w' : World) (a : Option Addr) : Prop := w.heap.size ≤ w'.heap.size ∧ ∀ k, k < w.heap.size → a ≠ some ⟨k, 0, none⟩ → w'.heap[k]? = w.heap[k]?
theorem Oth.trans {w w1 w2 : World} {a b : Option Addr} (h : Oth w w1 a) (h2 : Oth w1 w2 b) (hb : b = a ∨ ∀ k, k < w.heap.size → b ≠ some ⟨k, 0, none⟩) : Oth w w2 a := by
  refine ⟨Nat.le_trans h.1 h2.1, fun k hk ha => ?_⟩
  rw [h2.2 k (Nat.lt_of_lt_of_le hk h.1) ?_, h.2 k hk ha]
  rcases hb with rfl | hb
  · exact ha
  · exact hb k hk
theorem OwnV.nil (w : World) (B : Nat) (e : TypeId) (size : Nat) : OwnV w B e size none 0 0 [] := World.ownsRow_nil w B e size
theorem OwnV.below {w w' : World} {B : Nat} {e : TypeId} {size : Nat} {a : Option Addr} {n cap : Nat} {xs : List Value} (h : OwnV w B e size a n cap xs) (hb : Below w.heap.size w w') : OwnV w' B e size a n cap xs := by
  refine ⟨h.1, ?_⟩
  rcases h.2 with h' | ⟨g, cap', cur, h', hB, hg, hr⟩
  · exact .inl h'
  · exact .inr ⟨g, cap', cur, h', hB, by rw [hb.block g (Array.getElem?_eq_some_iff.1 hg).1]; exact hg, hr⟩
theorem OwnV.oth {w w' : World} {B : Nat} {e : TypeId} {size : Nat} {a b : Option Addr} {n cap : Nat} {xs : List Value} (h : OwnV w B e size a n cap xs) (ho : Oth w w' b) (hab : ∀ g, a = some ⟨g, 0, none⟩ → b ≠ some ⟨g, 0, none⟩) : OwnV w' B e size a n cap xs := by
  refine ⟨h.1, ?_⟩
  rcases h.2 with h' | ⟨g, cap', cur, h', hB, hg, hr⟩
  · exact .inl h'
  · have e1 : a = some ⟨g, 0, none⟩ := by simp only [Value.slice.injEq] at h'; exact h'.1
    exact .inr ⟨g, cap', cur, h', hB, by rw [ho.2 g (Array.getElem?_eq_some_iff.1 hg).1 (hab g e1)]; exact hg, hr⟩
theorem OwnV.mono {w : World} {B B' : Nat} {e : TypeId} {size : Nat} {a : Option Addr} {n cap : Nat} {xs : List Value} (h : OwnV w B e size a n cap xs) (hB : B' ≤ B) : OwnV w B' e size a n cap xs := by
  refine ⟨h.1, ?_⟩
  rcases h.2 with h' | ⟨g, cap', cur, h', hBg, hr⟩
  · exact .inl h'
  · exact .inr ⟨g, cap', cur, h', Nat.le_trans hB hBg, hr⟩
theorem OwnV.shape {w : World} {B : Nat} {e : TypeId} {size : Nat} {a : Option Addr} {n cap : Nat} {xs : List Value} (h : OwnV w B e size a n cap xs) :
    (a = none ∧ cap = 0 ∧ n = 0 ∧ xs = []) ∨ ∃ g cur, a = some ⟨g, 0, none⟩ ∧ B ≤ g ∧ w.heap[g]? = some (.cells cur e (0, 0)) ∧ n ≤ cap ∧ cap ≤ maxLen := by
  have h1 := h.1
  rcases h.2 with ⟨h', hn⟩ | ⟨g, cap', cur, h', hb, hg, hnc, hcm, _, _⟩
  · simp only [Value.slice.injEq] at h'
    subst hn
    exact .inl ⟨h'.1, h'.2.2, rfl, List.eq_nil_of_length_eq_zero (by simpa using h1)⟩
  · simp only [Value.slice.injEq] at h'
    exact .inr ⟨g, cur, h'.1, hb, hg, by rw [h'.2.2]; exact hnc, by rw [h'.2.2]; exact hcm⟩
theorem OwnV.cap {w : World} {B : Nat} {e : TypeId} {size : Nat} {a : Option Addr} {n cap : Nat} {xs : List Value} (h : OwnV w B e size a n cap xs) : n ≤ cap ∧ cap ≤ maxLen := by
  rcases h.shape with ⟨_, rfl, rfl, _⟩ | ⟨_, _, _, _, _, h1, h2⟩
  · exact ⟨Nat.le_refl _, by unfold maxLen; omega⟩
  · exact ⟨h1, h2⟩
/-- a block of another type is no row of it -/
theorem OwnV.apart {w : World} {B : Nat} {e e' : TypeId} {size : Nat} {a : Option Addr} {n cap : Nat} {xs : List Value} (h : OwnV w B e size a n cap xs) {k : Nat} {arr : Array Value} {f : Nat × Nat} (hk : w.heap[k]? = some (.cells arr e' f)) (hne : e' ≠ e) : a ≠ some ⟨k, 0, none⟩ := by
  intro ha
  rcases h.shape with ⟨h1, _⟩ | ⟨g, cur, h1, _, hg, _⟩
  · rw [h1] at ha; cases ha
  · rw [h1] at ha
    simp only [Option.some.injEq, Addr.mk.injEq, and_true] at ha
    subst ha
    rw [hg] at hk
    simp only [Option.some.injEq, Obj.cells.injEq] at hk
    exact hne hk.2.1.symm
theorem OwnV.cellAt {w : World} {B : Nat} {e : TypeId} {size : Nat} {g n cap : Nat} {xs : List Value} (h : OwnV w B e size (some ⟨g, 0, none⟩) n cap xs) {j : Nat} {v : Value} (hj : xs[j]? = some v) : w.cell? ⟨g, j, none⟩ = some v := by
  have := World.ownsRow.cells h (g := g) rfl j v hj
  rwa [addP, Nat.zero_add] at this
theorem OwnV.frozen {w : World} {B : Nat} {e : TypeId} {size : Nat} {g n cap : Nat} {xs : List Value} (h : OwnV w B e size (some ⟨g, 0, none⟩) n cap xs) (j : Nat) : w.frozen? ⟨g, j, none⟩ = false := World.ownsRow.frozenAt h j
theorem OwnV.set {w : World} {B : Nat} {e : TypeId} {size : Nat} {g n cap : Nat} {xs : List Value} (h : OwnV w B e size (some ⟨g, 0, none⟩) n cap xs) (j : Nat) (v : Value) : OwnV (w.setCell ⟨g, j, none⟩ v) B e size (some ⟨g, 0, none⟩) n cap (xs.set j v) := (World.ownsRow.stored h j v).1
theorem Oth.setCell (w : World) (g j : Nat) (v : Value) : Oth w (w.setCell ⟨g, j, none⟩ v) (some ⟨g, 0, none⟩) := by
  refine ⟨by simp, fun k _ ha => ?_⟩
  have hne : k ≠ g := fun e => ha (by rw [e])
  exact heap_setCell_other _ _ _ _ hne
theorem Oth.ofBelow {w w' : World} (h : Below w.heap.size w w') (a : Option Addr) : Oth w w' a := ⟨h.size, fun k hk _ => h.block k hk⟩
theorem cellOfBlock {w w' : World} {k : Nat} (h : w'.heap[k]? = w.heap[k]?) (j : Nat) : w'.cell? ⟨k, j, none⟩ = w.cell? ⟨k, j, none⟩ := by simp [World.cell?, h]

section
variable {P : Program} {ops : Array Oper} {rest : List Oper} {o : Oper} {a : Act} {Q : Exit → Act → World → Prop}
/-- 'append(l, y)', l the call's own row of whatever elements; it may grow. -/
theorem wp_row (w0 : World) (hg : o.guard = none) (s x : Operand) (t : TypeId)
    (hop : o.op = Op.call { callee := Callee.builtin Builtin.append, args := #[s, x], argTypes := #[t, t] })
    (B : Nat) (e : TypeId) (z : Value) (size bytes : Nat) (hu : P.underlying t = some (.slice e)) (hinfo : (P.info? e).map (fun i => (i.zero, i.size, i.bytes)) = some (some z, size, bytes)) (hzs : z.cells.size = size) (hsz : 0 < size)
    (ao : Option Addr) (cap n : Nat) (xs : List Value) (hs : a.eval s = .slice ao n cap) (arr : Array Value) (harr : arr.size = size) (h1 : ∀ u ∈ arr.toList, u.oneCell' = true) (e' : TypeId)
    (hx : a.eval x = .slice (some ⟨w0.heap.size, 0, none⟩) 1 1)
    (hown : OwnV w0 B e size ao n cap xs) (hbytes : ((n + 1) + (n + 1) / 4 + 192) * bytes ≤ 281474976710656) (hlen : n + 1 ≤ maxLen) (hB : B ≤ w0.heap.size)
    (hK : ∀ ao' cap' w', OwnV w' B e size ao' (n + 1) cap' (xs ++ arr.toList) → Below B w0 w' → Oth w0 w' ao → wpList P ops Q rest (a.put o.dst (.slice ao' (n + 1) cap')) w') :
    wpList P ops Q (o :: rest) a (w0.alloc (.cells arr e')) := by
  obtain ⟨i, hi, hz0, hz1, hz2⟩ := info_parts hinfo
  have hown' : (w0.alloc (.cells arr e')).ownsRow B e size (.slice ao n cap) n xs := World.ownsRow.alloc hown _
  refine wpList_append_own_wide _ hg s x t hop B e i z size bytes hu hi hz0 hz1 hz2 hzs hsz _ _ _ hs hown' ⟨w0.heap.size, 0, none⟩ 1 1 arr.toList hx (by simpa using harr) ?_ h1 hlen hbytes (by simp; omega) ?_
  · intro j u hj
    rw [addP, Nat.zero_add]
    simpa using hj
  · intro v' w' ho hgr hnil
    have hb : Below B w0 w' := ((Below.refl B w0).alloc hB _).grown hgr (by simp; omega) (fun j hj => (hown'.lt j hj).1)
    have hsh : ∃ ao' cap', v' = .slice ao' (n + 1) cap' := by
      rcases ho.2 with ⟨h1, h2⟩ | ⟨g, cap', cur, h1, _⟩
      · omega
      · exact ⟨_, _, h1⟩
    obtain ⟨ao', cap', rfl⟩ := hsh
    refine hK ao' cap' w' ho hb ⟨?_, fun k hk ha => ?_⟩
    · have := hgr.size
      simp at this; omega
    · have := hgr.block k (by simp; omega) (fun hk2 => ha (by
        rcases OwnV.shape hown with ⟨h1, _⟩ | ⟨g, cur, h1, _⟩
        · rw [h1] at hk2; simp [Value.ownBlock] at hk2
        · rw [h1] at hk2 ⊢
          simp [Value.ownBlock] at hk2
          rw [hk2]))
      rw [this]
      exact heap_alloc_old w0 _ hk
/-- the same as one step of a region that draws -/
theorem step_row {E : Prop} {K : Act → World → Prop} (wx : World) (hg : o.guard = none) (s x : Operand) (t : TypeId)
    (hop : o.op = Op.call { callee := Callee.builtin Builtin.append, args := #[s, x], argTypes := #[t, t] })
    (B : Nat) (e : TypeId) (z : Value) (size bytes : Nat) (hu : P.underlying t = some (.slice e)) (hinfo : (P.info? e).map (fun i => (i.zero, i.size, i.bytes)) = some (some z, size, bytes)) (hzs : z.cells.size = size) (hsz : 0 < size)
    (ao : Option Addr) (cap n : Nat) (xs : List Value) (hs : a.eval s = .slice ao n cap) (news : List Value) (hnl : news.length = size) (h1 : ∀ u ∈ news, u.oneCell' = true) (gx c : Nat)
    (hx : a.eval x = .slice (some ⟨gx, 0, none⟩) 1 c) (hcell : ∀ j u, news[j]? = some u → wx.cell? ⟨gx, j, none⟩ = some u)
    (hown : OwnV wx B e size ao n cap xs) (hbytes : ((n + 1) + (n + 1) / 4 + 192) * bytes ≤ 281474976710656) (hlen : n + 1 ≤ maxLen) (hB : B ≤ wx.heap.size)
    (hK : ∀ ao' cap' w', OwnV w' B e size ao' (n + 1) cap' (xs ++ news) → Below B wx w' → Oth wx w' ao → K (a.put o.dst (.slice ao' (n + 1) cap')) w') :
    if Region.wanted o (yielded ops a.tmps) = true then Oper.wp P o a wx K Q else E := by
  have hw : Region.wanted o (yielded ops a.tmps) = true := by simp [Region.wanted, hg]
  rw [if_pos hw]
  obtain ⟨i, hi, hz0, hz1, hz2⟩ := info_parts hinfo
  have hown' : wx.ownsRow B e size (.slice ao n cap) n xs := hown
  refine wp_append_own_wide _ s x t hop B e i z size bytes hu hi hz0 hz1 hz2 hzs hsz _ _ _ hs hown' ⟨gx, 0, none⟩ 1 c news hx (by simpa using hnl) ?_ h1 hlen hbytes hB ?_
  · intro j u hj
    rw [addP, Nat.zero_add]
    exact hcell j u hj
  · intro v' w' ho hgr hnil
    have hb : Below B wx w' := (Below.refl B wx).grown hgr hB (fun j hj => (hown'.lt j hj).1)
    have hsh : ∃ ao' cap', v' = .slice ao' (n + 1) cap' := by
      rcases ho.2 with ⟨h1, h2⟩ | ⟨g, cap', cur, h1, _⟩
      · omega
      · exact ⟨_, _, h1⟩
    obtain ⟨ao', cap', rfl⟩ := hsh
    refine hK ao' cap' w' ho hb ⟨hgr.size, fun k hk ha => ?_⟩
    exact hgr.block k hk (fun hk2 => ha (by
        rcases OwnV.shape hown with ⟨h1, _⟩ | ⟨g, cur, h1, _⟩
        · rw [h1] at hk2; simp [Value.ownBlock] at hk2
        · rw [h1] at hk2 ⊢
          simp [Value.ownBlock] at hk2
          rw [hk2]))
end
end Go.Proofs.YtjjacffacmpopaaDoor
