/- lex: pieces walked. -/
import Derived.Test.YtpgiljibicigeaaGreatDoorLexMs
import Derived.Test.YtpgiljibicigeaaGreatDoorLexN
set_option linter.unusedVariables false
set_option linter.unusedSimpArgs false
namespace Go.Proofs.YtpgiljibicigeaaGreatDoor
open Go.RowKit UM QM LX

theorem app_app (x y : List Nat) (a b : Nat) (q : Nat × Nat × List Nat) : app x a (app y b q) = app (x ++ y) (a + b) q := by
  unfold app; simp [Nat.add_assoc]
theorem lxTl_len {l : List Nat} {k : Nat} {xs : List Int} {e err : Nat} (t : Tl l k xs e err) : k + xs.length ≤ e := by
  induction t with
  | stop hp => simp
  | bad h h2 => exact piece_ge
  | go hp h2 t ih =>
    have := piece_adv h2 (pk_ne h2)
    rw [List.length_cons]; omega
theorem row_enc (r : List Nat) (h92 : r.head? = some 92) (h40 : (r.drop 1).head? ≠ some 40) : (encL ((rdR r).1.map Int.toNat)).length ≤ 4 * ((rowR r).length + 1) := by
  have h := rdR_row r h92 h40
  have h1 := encL_len ((rdR r).1.map Int.toNat)
  rw [List.length_map] at h1
  have hT : 1 + (rdR r).1.length ≤ (rdR r).2.1 := by
    rcases h.1 with ⟨hp, _⟩ | ⟨_, ht⟩
    · exact absurd (pk_of (l := 34 :: rowR r ++ [34]) (k := 0) (r := rowR r ++ [34]) (c := 34) rfl) hp
    · exact lxTl_len ht
  have := h.2.2.2.2.1
  omega
/-- the state of a reading of pieces -/
def PcI (s : ByteArray) (p j : Nat) (x : List Nat) (Q : Nat × Nat × List Nat) : Prop :=
  p ≤ j ∧ j ≤ s.size ∧ x.length ≤ 8 * (j - p) ∧ ∃ f, ((bl s).drop j).length ≤ f ∧ app x (j - p) (pcR f ((bl s).drop j)) = Q
theorem PcI.start {s : ByteArray} {p : Nat} (hp : p ≤ s.size) : PcI s p p [] (pcR ((bl s).drop p).length ((bl s).drop p)) :=
  ⟨Nat.le_refl _, hp, by simp, _, Nat.le_refl _, by rw [Nat.sub_self]; unfold app; simp⟩
theorem PcI.fuel {s : ByteArray} {p j : Nat} {x : List Nat} {Q : Nat × Nat × List Nat} (h : PcI s p j x Q) (hj : j < s.size) : ∃ f, ((bl s).drop (j + 1)).length ≤ f ∧ app x (j - p) (pcR (f + 1) (s[j].toNat :: (bl s).drop (j + 1))) = Q := by
  obtain ⟨_, _, _, f, hf, hq⟩ := h
  rw [bl_drop s j hj] at hf hq
  cases f with
  | zero => simp at hf
  | succ f => exact ⟨f, by simpa using hf, hq⟩
theorem PcI.quote {s : ByteArray} {p j : Nat} {x : List Nat} {Q : Nat × Nat × List Nat} (h : PcI s p j x Q) (hj : j < s.size) (hc : s[j].toNat = 34) : Q = (0, j - p, x) := by
  obtain ⟨f, _, hq⟩ := h.fuel hj
  rw [← hq, hc]; simp [pcR, app]
theorem PcI.into {s : ByteArray} {p j : Nat} {x : List Nat} {Q : Nat × Nat × List Nat} (h : PcI s p j x Q) (hj : j < s.size) (hc : s[j].toNat = 92) (h2 : ((bl s).drop (j + 1)).head? = some 40) : Q = (1, j - p, x) := by
  obtain ⟨f, _, hq⟩ := h.fuel hj
  rw [← hq, hc]; simp [pcR, app, h2]
theorem PcI.plain {s : ByteArray} {p j : Nat} {x : List Nat} {Q : Nat × Nat × List Nat} (h : PcI s p j x Q) (hj : j < s.size) (h34 : s[j].toNat ≠ 34) (hc : s[j].toNat ≠ 92) : PcI s p (j + 1) (x ++ [s[j].toNat]) Q := by
  obtain ⟨f, hf, hq⟩ := h.fuel hj
  obtain ⟨h1, h2, h3, _⟩ := h
  refine ⟨by omega, hj, by rw [List.length_append, List.length_singleton]; omega, f, hf, ?_⟩
  rw [← hq]
  simp only [pcR]
  rw [if_neg h34, if_neg (fun h => hc h.1), if_neg hc, app_app, show j + 1 - p = j - p + 1 by omega]
theorem PcI.none {s : ByteArray} {p j : Nat} {x : List Nat} {Q : Nat × Nat × List Nat} (h : PcI s p j x Q) (hj : s.size ≤ j) : Q.1 = 5 := by
  obtain ⟨_, _, _, f, _, hq⟩ := h
  rw [← hq, bdrop_end hj]
  cases f <;> rfl
theorem PcI.esc {s : ByteArray} {p j : Nat} {x : List Nat} {Q : Nat × Nat × List Nat} (h : PcI s p j x Q) (hj : j < s.size) (hc : s[j].toNat = 92) (h40 : ((bl s).drop (j + 1)).head? ≠ some 40) :
    ((rdR ((bl s).drop j)).2.2 = 0 → PcI s p (j + (rowR ((bl s).drop j)).length) (x ++ encL ((rdR ((bl s).drop j)).1.map Int.toNat)) Q) ∧
    ((rdR ((bl s).drop j)).2.2 ≠ 0 → s.size - j + 1 ≤ (rdR ((bl s).drop j)).2.1 → Q.1 = 5) ∧
    ((rdR ((bl s).drop j)).2.2 ≠ 0 → ¬ s.size - j + 1 ≤ (rdR ((bl s).drop j)).2.1 → Q = (2, j - p + lasF (((bl s).drop j).take ((rdR ((bl s).drop j)).2.1 - 1)), x)) := by
  obtain ⟨f, hf, hq⟩ := h.fuel hj
  obtain ⟨h1, h2, h3, _⟩ := h
  have hd := bl_drop s j hj
  have h92 : ((bl s).drop j).head? = some 92 := by rw [hd, hc]; rfl
  have h40' : (((bl s).drop j).drop 1).head? ≠ some 40 := by rw [List.drop_drop]; exact h40
  have hrow := rdR_row _ h92 h40'
  have hlen : (s[j].toNat :: (bl s).drop (j + 1)).length = s.size - j := by rw [← hd, List.length_drop, bl_len]
  have hrl : (rowR ((bl s).drop j)).length ≤ s.size - j := by unfold rowR; rw [List.length_take, List.length_drop, bl_len]; omega
  have hr2 : 1 ≤ (rowR ((bl s).drop j)).length := by
    have := hrow.2.2.2.2.2.2
    cases hq : rowR ((bl s).drop j) with
    | nil => rw [hq] at this; simp at this
    | cons a t => simp
  have hstep : pcR (f + 1) (s[j].toNat :: (bl s).drop (j + 1)) = if (rdR ((bl s).drop j)).2.2 = 0 then app (encL ((rdR ((bl s).drop j)).1.map Int.toNat)) (rowR ((bl s).drop j)).length (pcR f (((bl s).drop j).drop (rowR ((bl s).drop j)).length)) else if s.size - j + 1 ≤ (rdR ((bl s).drop j)).2.1 then (5, s.size - j, []) else (2, lasF (((bl s).drop j).take ((rdR ((bl s).drop j)).2.1 - 1)), []) := by
    simp only [pcR]
    rw [if_neg (by omega), if_neg (fun h => h40 h.2), if_pos hc, ← hd, List.length_drop, bl_len]
  rw [hstep] at hq
  refine ⟨fun he => ?_, fun he hk => ?_, fun he hk => ?_⟩
  · rw [if_pos he, app_app, List.drop_drop] at hq
    refine ⟨by omega, by omega, ?_, f, ?_, ?_⟩
    · have hb : (encL ((rdR ((bl s).drop j)).1.map Int.toNat)).length ≤ 8 * (rowR ((bl s).drop j)).length := by
        have := row_enc _ h92 h40'
        omega
      rw [List.length_append]; omega
    · rw [List.length_drop, bl_len] at hf ⊢; omega
    · rw [← hq, show j + (rowR ((bl s).drop j)).length - p = j - p + (rowR ((bl s).drop j)).length by omega]
  · rw [if_neg he, if_pos hk] at hq; rw [← hq]; rfl
  · rw [if_neg he, if_neg hk] at hq; rw [← hq]; unfold app; simp
/-- a builder stays where only the lexer's box turns -/
theorem sb_kept {B b : Nat} {bs : List Value} {w w' : World} {g : Nat} (h : Lib.IsBuilder 83 5 B b bs w) (hg : w.grownBy w' (some g)) (hB : g < B) : Lib.IsBuilder 83 5 B b bs w' := by
  have key : ∀ p, Lib.BuilderAt 83 5 B b p bs w → Lib.BuilderAt 83 5 B b p bs w' := by
    rintro p ⟨h1, v, h2, h3, h4⟩
    have hlt : b < w.heap.size := by
      rcases Nat.lt_or_ge b w.heap.size with h' | h'
      · exact h'
      · simp [Array.getElem?_eq_none h'] at h2
    refine ⟨h1, v, by rw [hg.block b hlt (by simp; omega)]; exact h2, World.ownsRow.kept h3 hg ?_, h4⟩
    rcases h3.2 with ⟨rfl, _⟩ | ⟨g', cap, cur, rfl, hb', _⟩
    · left; rfl
    · right; intro e2; simp [Value.ownBlock] at e2; omega
  rcases h with h | h
  · exact .inl (key _ h)
  · exact .inr (key _ h)
theorem OwnV.low {w : World} {B : Nat} {e : TypeId} {size : Nat} {a : Option Addr} {n cap : Nat} {xs : List Value} (h : OwnV w B e size a n cap xs) : ∀ b, a = some ⟨b, 0, none⟩ → b < w.heap.size := by
  intro b hb
  rcases h.shape with ⟨h1, _⟩ | ⟨g', cur, h1, _, hh, _⟩
  · rw [h1] at hb; cases hb
  · rw [h1] at hb
    simp only [Option.some.injEq, Addr.mk.injEq, and_true] at hb
    subst hb
    rcases Nat.lt_or_ge g' w.heap.size with h' | h'
    · exact h'
    · simp [Array.getElem?_eq_none h'] at hh
def ResPc (g : Nat) (s : ByteArray) (p : Nat) (T : List Tk) (op : List Nat) (m : Nat) (q : Nat × Nat × List Nat) (w : World) (e : Ending) (w' : World) : Prop :=
  Fr g w w' ∧ ((q.1 = 0 ∧ e = .returned (.int .i64 0) ∧ LB w' g s (p + q.2.1 + 1) (T ++ txR p q.2.1 q.2.2 ++ [(11, [], p + q.2.1)]) op m) ∨
    (q.1 = 1 ∧ e = .returned (.int .i64 0) ∧ LB w' g s (p + q.2.1 + 2) (T ++ txR p q.2.1 q.2.2 ++ [(9, [], p + q.2.1)]) (2 :: 1 :: op) (m + 1)) ∨
    (q.1 = 5 ∧ (e = .returned (.int .i64 0) ∨ e = .returned (.int .i64 5)) ∧ LB w' g s s.size T (1 :: op) (m + 1)) ∨
    (q.1 = 2 ∧ e = .returned (.int .i64 2) ∧ LB w' g s (p + q.2.1) T (1 :: op) (m + 1)))
theorem u8s_app (x y : List Nat) : Lib.byteCells (u8s (x ++ y)) = Lib.byteCells (u8s x) ++ Lib.byteCells (u8s y) := by unfold Lib.byteCells u8s; rw [List.map_append, List.map_append]
/-- what stands in a round of pieces: the boxes pb of l, fb of first, sb of said -/
structure PcW (w : World) (g : Nat) (s : ByteArray) (p : Nat) (T : List Tk) (op : List Nat) (m : Nat) (a1 : Option Addr) (k1 : Nat) (a2 : Option Addr) (k2 : Nat) (pb fb sb : Nat) (W : World) (j : Nat) (x : List Nat) : Prop where
  lb : LBX W g s j T (1 :: op) (m + 1) a1 k1 a2 k2
  sd : Lib.IsBuilder 83 5 sb sb (Lib.byteCells (u8s x)) W
  kp : W.cell? ⟨pb, 0, none⟩ = some (.pointer (some ⟨g, 0, none⟩))
  ty : Typ W pb
  tf : Typ W fb
  kf : W.cell? ⟨fb, 0, none⟩ = some (.int .i64 (p : Int))
  gr : w.grownBy W (some g)
  sz : sb ≤ W.heap.size
/-- how the boxes stand to one another -/
def Nb (w : World) (g pb fb sb : Nat) : Prop := g < pb ∧ pb = w.heap.size ∧ fb = pb + 1 ∧ sb = pb + 2
theorem PcW.at {w : World} {g : Nat} {s : ByteArray} {p : Nat} {T : List Tk} {op : List Nat} {m : Nat} {a1 : Option Addr} {k1 : Nat} {a2 : Option Addr} {k2 pb fb sb : Nat} {W W' : World} {j j' : Nat} {x : List Nat} (h : PcW w g s p T op m a1 k1 a2 k2 pb fb sb W j x) (hn : Nb w g pb fb sb) (hl : LBX W' g s j' T (1 :: op) (m + 1) a1 k1 a2 k2) (hg : W.grownBy W' (some g)) : PcW w g s p T op m a1 k1 a2 k2 pb fb sb W' j' x := by
  obtain ⟨n1, n2, n3, n4⟩ := hn
  have h1 := lt_of_cell h.kp
  have h2 := lt_of_cell h.kf
  refine ⟨hl, sb_kept h.sd hg (by omega), hg.cell h.kp (by simp; omega), h.ty.of (hg.block _ h1 (by simp; omega)), h.tf.of (hg.block _ h2 (by simp; omega)), hg.cell h.kf (by simp; omega), gb_trans h.gr hg, Nat.le_trans h.sz hg.size⟩
theorem PcW.dN {w : World} {g : Nat} {s : ByteArray} {p : Nat} {T : List Tk} {op : List Nat} {m : Nat} {a1 : Option Addr} {k1 : Nat} {a2 : Option Addr} {k2 pb fb sb : Nat} {W : World} {j : Nat} {x : List Nat} (h : PcW w g s p T op m a1 k1 a2 k2 pb fb sb W j x) (n : Nat) : PcW w g s p T op m a1 k1 a2 k2 pb fb sb (W.drewN n) j x := ⟨h.lb.dN n, h.sd, h.kp, h.ty, h.tf, h.kf, gb_dN h.gr n, h.sz⟩
theorem PcW.wrote {w : World} {g : Nat} {s : ByteArray} {p : Nat} {T : List Tk} {op : List Nat} {m : Nat} {a1 : Option Addr} {k1 : Nat} {a2 : Option Addr} {k2 pb fb sb : Nat} {W W' : World} {j : Nat} {x y : List Nat} (h : PcW w g s p T op m a1 k1 a2 k2 pb fb sb W j x) (hn : Nb w g pb fb sb) (h1 : ∀ b, a1 = some ⟨b, 0, none⟩ → b < w.heap.size) (h2 : ∀ b, a2 = some ⟨b, 0, none⟩ → b < w.heap.size)
    (hs : Lib.BuilderAt 83 5 sb sb (.pointer (some ⟨sb, 0, none⟩)) (Lib.byteCells (u8s x) ++ Lib.byteCells (u8s y)) W') (hb : Below sb W W') : PcW w g s p T op m a1 k1 a2 k2 pb fb sb W' j (x ++ y) := by
  obtain ⟨n1, n2, n3, n4⟩ := hn
  refine ⟨h.lb.belowB hb (by omega) (fun b e => by have := h1 b e; omega) (fun b e => by have := h2 b e; omega), .inr (by rw [u8s_app]; exact hs), by rw [hb.cell (by simp; omega)]; exact h.kp, h.ty.of (hb.block _ (by omega)), h.tf.of (hb.block _ (by omega)), by rw [hb.cell (by simp; omega)]; exact h.kf, ?_, Nat.le_trans h.sz hb.size⟩
  have hgr := h.gr
  exact ⟨hb.os.trans hgr.os, hb.tape.trans hgr.tape, hb.output.trans hgr.output, Nat.le_trans hgr.size hb.size, fun k hk hne => (hb.block k (by omega)).trans (hgr.block k hk hne)⟩
/-- an elder block behind an allocation (two texts of the library bear one name for it, one with the place written, one without: this holds under either) -/
theorem hA_old (w : World) (o : Obj) {r : Nat} (h : r < w.heap.size) : (w.alloc o).heap[r]? = w.heap[r]? := by
  first
    | exact heap_alloc_old w o h
    | exact heap_alloc_old w o r h
theorem PcW.first {w : World} {g : Nat} {s : ByteArray} {p : Nat} {T : List Tk} {op : List Nat} {m : Nat} {a1 : Option Addr} {k1 : Nat} {a2 : Option Addr} {k2 : Nat} (h : LBX w g s p T (1 :: op) (m + 1) a1 k1 a2 k2) :
    PcW w g s p T op m a1 k1 a2 k2 w.heap.size (w.heap.size + 1) (w.heap.size + 1 + 1) (((w.alloc (.cells #[.pointer (some ⟨g, 0, none⟩)] 63)).alloc (.cells #[.int .i64 (p : Int)] 3)).alloc (.cells #[.pointer none, .slice none 0 0] 83)) p [] := by
  have hb : Below w.heap.size w (((w.alloc (.cells #[.pointer (some ⟨g, 0, none⟩)] 63)).alloc (.cells #[.int .i64 (p : Int)] 3)).alloc (.cells #[.pointer none, .slice none 0 0] 83)) := (((Below.refl _ _).alloc (Nat.le_refl _) _).alloc (by simp) _).alloc (by simp [Nat.add_assoc]) _
  refine ⟨h.below hb, ?_, (cell_old (by simp [Nat.add_assoc])).trans ((cell_old (by simp)).trans (cell_new rfl)), ?_, ?_, (cell_old (by simp [Nat.add_assoc])).trans (cell_new (by simp)), gb_of_below hb, by simp [Nat.add_assoc]⟩
  · have := Lib.fresh_isBuilder 83 5 ((w.alloc (.cells #[.pointer (some ⟨g, 0, none⟩)] 63)).alloc (.cells #[.int .i64 (p : Int)] 3))
    simpa [Lib.byteCells, u8s] using this
  · intro cur t f hc
    rw [hA_old _ _ (by simp [Nat.add_assoc]), hA_old _ _ (by simp), heap_alloc_new] at hc
    cases hc
    decide
  · intro cur t f hc
    rw [hA_old _ _ (by simp)] at hc
    have := heap_alloc_new (w.alloc (.cells #[.pointer (some ⟨g, 0, none⟩)] 63)) (.cells #[.int .i64 (p : Int)] 3)
    rw [show (w.alloc (.cells #[.pointer (some ⟨g, 0, none⟩)] 63)).heap.size = w.heap.size + 1 by simp] at this
    rw [this] at hc
    cases hc
    decide
theorem u8s_len (x : List Nat) : (Lib.byteCells (u8s x)).length = x.length := by unfold Lib.byteCells u8s; rw [List.length_map, List.length_map]
theorem u8s_tx (y : List Nat) : Lib.strCells (tx y) = Lib.byteCells (u8s y) := rfl
theorem u8s_one {c : Nat} (h : c < 256) : Lib.byteCells (u8s [c]) = [.int .u8 (c : Int)] := by
  unfold Lib.byteCells u8s
  show [Value.int .u8 ((UInt8.ofNat c).toNat : Int)] = _
  rw [UInt8.toNat_ofNat', Nat.mod_eq_of_lt h]
theorem fr_chain {g sb : Nat} {w wr w1 w2 : World} (h1 : w.grownBy wr (some g)) (hg : g < w.heap.size) (h2 : FrN sb g wr w1) (hsb : w.heap.size ≤ sb) (hz : sb ≤ wr.heap.size) (h3 : Fr g w1 w2) : Fr g w w2 := by
  have f1 : FrN w.heap.size g w wr := (Fr.gb h1 (Nat.le_of_lt hg)).n (Nat.le_refl _)
  have f2 : FrN w.heap.size g wr w1 := ⟨h2.1, fun k hk => h2.2 k (Nat.lt_of_lt_of_le hk hsb)⟩
  have f3 : FrN w.heap.size g w1 w2 := h3.n (Nat.le_trans hsb (Nat.le_trans hz h2.1.size))
  exact (f1.trans f2).trans f3
theorem shB {w w' : World} {B : Nat} (h : Sh w) (hb : Below B w w') (hs : 0 < B) : Sh w' := by
  obtain ⟨q0, q1, q2, q3, q4, q5, q6, q7, q8, q9, q10, q11⟩ := h
  have key : ∀ (p : Addr) (v : Value), p.block < B → w.cell? p = some v → w'.cell? p = some v := fun p v hp e => by rw [hb.cell hp]; exact e
  exact ⟨key _ _ hs q0, key _ _ hs q1, key _ _ hs q2, key _ _ hs q3, key _ _ hs q4, key _ _ hs q5, key _ _ hs q6, key _ _ hs q7, key _ _ hs q8, key _ _ hs q9, key _ _ hs q10, key _ _ hs q11⟩
/-- the closure, whatever has been read -/
theorem lxLay_any {w : World} {g : Nat} {s : ByteArray} {p : Nat} {T : List Tk} {op : List Nat} {m : Nat} {a1 : Option Addr} {k1 : Nat} {a2 : Option Addr} {k2 pb fb sb : Nat} {W : World} {j : Nat} {x : List Nat} (hT : T.length ≤ 999999) (h : PcW w g s p T op m a1 k1 a2 k2 pb fb sb W j x) (hn : Nb w g pb fb sb) (h1 : ∀ b, a1 = some ⟨b, 0, none⟩ → b < pb) (h2 : ∀ b, a2 = some ⟨b, 0, none⟩ → b < pb) (hj : p ≤ j) :
    Calls Tryz.prog 44 #[.pointer (some ⟨pb, 0, none⟩), .pointer (some ⟨fb, 0, none⟩), .pointer (some ⟨sb, 0, none⟩)] W (ResLay sb pb g s j (T ++ txR p (j - p) x) (1 :: op) (m + 1) W) := by
  obtain ⟨n1, n2, n3, n4⟩ := hn
  unfold txR
  by_cases hlt : p < j
  · rw [if_pos (by omega)]
    exact lxLay_yes sb pb fb sb g s j p T (1 :: op) (m + 1) W a1 k1 a2 k2 h.lb (by omega) h.kp h.kf hlt (by omega) (by omega) h.ty h.tf (by omega) (by omega) (by omega) (fun b e => by have := h1 b e; omega) (fun b e => by have := h2 b e; omega) x h.sd h.sz
  · rw [if_neg (by omega), List.append_nil]
    exact lxLay_no sb pb fb sb g s j p T (1 :: op) (m + 1) W ⟨a1, k1, a2, k2, h.lb⟩ h.kp h.kf hlt
theorem txR_len (p n : Nat) (x : List Nat) : (txR p n x).length ≤ 1 := by unfold txR; split <;> simp
set_option maxRecDepth 100000 in
set_option maxHeartbeats 8000000 in
theorem lxPieces_any (g : Nat) (s : ByteArray) (p : Nat) (T : List Tk) (op : List Nat) (m : Nat) (w : World) (h : LB w g s p T (1 :: op) (m + 1)) (ht : Sh w) (hs : s.size ≤ 100000) (hT : T.length ≤ 999999) (hl : op.length ≤ 999998) (hm : m ≤ 999999) (hsg : 0 < g) :
    Calls Tryz.prog 34 #[.pointer (some ⟨g, 0, none⟩)] w (ResPc g s p T op m (pcR ((bl s).drop p).length ((bl s).drop p)) w) := by
  obtain ⟨a1, k1, a2, k2, h⟩ := h
  have hg := h.lt
  have hp := h.pl
  have HL1 := Lib.hid h.ot.low
  have HL2 := Lib.hid h.oo.low
  have HQ := Lib.hid (PcI.start hp)
  have HT := Lib.hid ht
  generalize pcR ((bl s).drop p).length ((bl s).drop p) = Q at *
  have hmf : ∀ (fn : Fn) (first cap : Array Value) (w : World), (Instr.makeFunc fn first cap).run Tryz.prog w = .ok (.func fn first cap) w := fun _ _ _ _ => rfl
  have HX := Lib.hid h
  have c1 := h.c1
  clear h ht
  go_enter Tryz.func34, Tryz.ntmps34
  go_wp2_with fail
  have HW := Lib.hid (PcW.first HX.out)
  have HNb : Hid (Nb w g w.heap.size (w.heap.size + 1) (w.heap.size + 1 + 1)) := Lib.hid ⟨hg, rfl, rfl, rfl⟩
  clear c1 HX hmf
  generalize (((w.alloc (.cells #[.pointer (some ⟨g, 0, none⟩)] 63)).alloc (.cells #[.int .i64 (p : Int)] 3)).alloc (.cells #[.pointer none, .slice none 0 0] 83)) = w0 at *
  generalize hsb : w.heap.size + 1 + 1 = sb at *
  generalize hfb : w.heap.size + 1 = fb at *
  generalize hpb : w.heap.size = pb at *
  clear hsb hfb hpb
  go_loopw [] (fun wr => ∃ (j : Nat) (x : List Nat), Hid (PcI s p j x Q) ∧ Hid (PcW w g s p T op m a1 k1 a2 k2 pb fb sb wr j x)) (fun wr => s.size - (intOf ((wr.cell? ⟨g, 1, none⟩).getD undef)).toNat)
  case atStart => exact ⟨p, [], HQ, HW⟩
  case round =>
    obtain ⟨j, x, HJ, HP⟩ := hrel
    clear HW HQ
    have k0 := HP.out.lb.c0
    have k1' := HP.out.lb.c1
    have kp := HP.out.kp
    have hjs := HP.out.lb.pl
    obtain ⟨hpj, _, hxl, _⟩ := HJ.out
    have hgsz : w.grownBy wr (some g) := HP.out.gr
    have HG := Lib.hid hgsz
    clear hgsz
    by_cases hlt : j < s.size
    · have hlt' : (j : Int) < (s.size : Int) := by omega
      have hjs' : (j : Int) ≤ (s.size : Int) := by omega
      have hx0 : 0 < (s.extract j s.size).size := by rw [extract_size]; omega
      have hx1 : 0 < s.size - j := by omega
      have hcx : ((s.extract j s.size)[0]'hx0).toNat = s[j].toNat := by
        have h1 := at_some hx0
        have h2 := at_some hlt
        rw [bl_extract, List.getElem?_drop, Nat.add_zero, h2] at h1
        exact (Option.some.inj h1).symm
      have HLay := Lib.hid (fun n => lxLay_any hT (HP.out.dN n) HNb.out HL1.out HL2.out hpj)
      by_cases h34 : s[j].toNat = 34
      · have t34 : ((((s.extract j s.size)[0]'hx0).toNat : Int) == 34) = true := by rw [hcx, beq_iff_eq]; omega
        have HQ := Lib.hid (HJ.out.quote hlt h34)
        have hjs1 : j + 1 ≤ s.size := hlt
        clear h34 hcx hlt HJ hxl
        go_wp2_with fail
        go_quiet (fail)
        go_wp2_with fail
        go_quiet (fail)
        go_wp2_with fail
        refine (HLay.out _).mono ?_
        rintro e w1 ⟨rfl, hb, hf, hpb⟩
        have HE := Lib.hid (lxEnd_any 1 g s j (T ++ txR p (j - p) x) op m w1 hb hs (by have := txR_len p (j - p) x; rw [List.length_append]; omega) (by omega) (by omega) hjs1)
        have HF := Lib.hid hf
        clear hb hf k0 k1' kp
        go_wp2_with fail
        refine HE.out.mono ?_
        rintro e w2 ⟨rfl, hb, hf⟩
        have HFF := Lib.hid (fr_chain (gb_dN HG.out _) (by have := HNb.out.2.1; omega) HF.out (by have := HNb.out; obtain ⟨_, _, _, _⟩ := this; omega) HP.out.sz hf)
        have HB2 := Lib.hid hb
        clear hb hf
        go_wp2
        go_ret
        refine ⟨HFF.out, .inl ?_⟩
        rw [HQ.out]
        refine ⟨rfl, rfl, ?_⟩
        simp only
        rw [show p + (j - p) = j by omega]
        exact HB2.out
      have t34 : ((((s.extract j s.size)[0]'hx0).toNat : Int) == 34) = false := by rw [hcx, beq_eq_false_iff_ne]; omega
      have HPx := Lib.hid (fun w => hasPrefix_any s j 40 w)
      rw [show (40 : UInt8).toNat = 40 by rfl] at HPx
      by_cases h92 : s[j].toNat = 92
      · have t92 : ((((s.extract j s.size)[0]'hx0).toNat : Int) == 92) = true := by rw [hcx, beq_iff_eq]; omega
        rw [hpB_at hlt h92] at HPx
        by_cases h40 : ((bl s).drop (j + 1)).head? = some 40
        · rw [decide_eq_true h40] at HPx
          have HQ := Lib.hid (HJ.out.into hlt h92 h40)
          have hjs2 : j + 2 ≤ s.size := by
            rcases Nat.lt_or_ge (j + 1) s.size with h' | h'
            · exact h'
            · rw [bdrop_end h'] at h40; cases h40
          clear h34 h92 h40 hcx hlt HJ t92 hxl
          go_wp2_with fail
          go_quiet (fail)
          go_wp2_with fail
          go_quiet (fail)
          go_wp2_with fail
          refine (HPx.out _).mono ?_
          rintro e w1 ⟨rfl, rfl⟩
          go_wp2_with fail
          refine (HLay.out _).mono ?_
          rintro e w1 ⟨rfl, hb, hf, hpb⟩
          have HE := Lib.hid (lxEnter_any g s j (T ++ txR p (j - p) x) (1 :: op) (m + 1) w1 hb hs (by have := txR_len p (j - p) x; rw [List.length_append]; omega) (by rw [List.length_cons]; omega) hjs2)
          have HF := Lib.hid hf
          clear hb hf k0 k1' kp
          go_wp2_with fail
          refine HE.out.mono ?_
          rintro e w2 ⟨rfl, hb, hf⟩
          have HFF := Lib.hid (fr_chain (gb_dN HG.out _) (by have := HNb.out.2.1; omega) HF.out (by have := HNb.out; obtain ⟨_, _, _, _⟩ := this; omega) HP.out.sz hf)
          have HB2 := Lib.hid hb
          clear hb hf
          go_wp2
          go_ret
          refine ⟨HFF.out, .inr (.inl ?_)⟩
          rw [HQ.out]
          refine ⟨rfl, rfl, ?_⟩
          simp only
          rw [show p + (j - p) = j by omega]
          exact HB2.out
        · rw [decide_eq_false h40] at HPx
          have hE := HJ.out.esc hlt h92 h40
          have hd := bl_drop s j hlt
          have hh92 : ((bl s).drop j).head? = some 92 := by rw [hd, h92]; rfl
          have hh40 : (((bl s).drop j).drop 1).head? ≠ some 40 := by rw [List.drop_drop]; exact h40
          have hrow := rdR_row _ hh92 hh40
          have henc := row_enc _ hh92 hh40
          have HSh := Lib.hid (fun n => (shB HT.out (gb_below HG.out (by have := HNb.out; obtain ⟨_, _, _, _⟩ := this; omega) (Nat.le_refl g)) hsg).dN n)
          have hrl : (rowR ((bl s).drop j)).length ≤ s.size - j := by unfold rowR; rw [List.length_take, List.length_drop, bl_len]; omega
          have hr2 : 1 ≤ (rowR ((bl s).drop j)).length := by
            have := hrow.2.2.2.2.2.2
            cases hq : rowR ((bl s).drop j) with
            | nil => rw [hq] at this; simp at this
            | cons a t => simp
          by_cases he : (rdR ((bl s).drop j)).2.2 = 0
          · have HJ2 := Lib.hid (hE.1 he)
            have HX := Lib.hid (fun n => lxEsc_ok g s j T (1 :: op) (m + 1) a1 k1 a2 k2 (wr.drewN n) (HP.out.lb.dN n) (HSh.out n) hs hh92 hh40 he)
            have hys : (tx (encL ((rdR ((bl s).drop j)).1.map Int.toNat))).size ≤ 4 * ((rowR ((bl s).drop j)).length + 1) := by rw [tx_size]; exact henc
            clear h34 h92 h40 hcx hlt HJ hE hd hh92 hh40 hrow henc he HSh
            generalize encL ((rdR ((bl s).drop j)).1.map Int.toNat) = y at *
            generalize (rowR ((bl s).drop j)).length = n at *
            have HM : Hid ((intOf ((wr.cell? ⟨g, 1, none⟩).getD undef)).toNat = j) := Lib.hid (by rw [k1']; simp [intOf])
            go_wp2_with fail
            go_quiet (fail)
            go_wp2_with fail
            go_quiet (fail)
            go_wp2_with fail
            refine (HPx.out _).mono ?_
            rintro e w1 ⟨rfl, rfl⟩
            go_wp2_with fail
            refine (HX.out _).mono ?_
            rintro e w1 ⟨rfl, hb, hf⟩
            have HP1 := Lib.hid ((HP.out.dN _).at HNb.out hb hf)
            have HWs := Lib.hid (WriteString_any sb sb (Lib.byteCells (u8s x)) (tx y) w1 HP1.out.sd (by rw [u8s_len]; omega) HP1.out.sz)
            clear hb hf k0 k1' kp hys
            go_wp2_with fail
            refine HWs.out.mono ?_
            rintro e w2 ⟨rfl, hbs, hb2⟩
            rw [u8s_tx] at hbs
            have HP2 := Lib.hid (HP1.out.wrote (y := y) HNb.out (fun b e => by have := HL1.out b e; have := HNb.out.2.1; omega) (fun b e => by have := HL2.out b e; have := HNb.out.2.1; omega) hbs hb2)
            clear hbs hb2
            have k1'' := HP2.out.lb.c1
            go_wp2
            go_roundw
            case rel => exact ⟨j + n, x ++ y, HJ2, HP2⟩
            case measure => rw [HM.out, k1'']; simp [intOf]; omega
          · by_cases hk : s.size - j + 1 ≤ (rdR ((bl s).drop j)).2.1
            · have HQ := Lib.hid (hE.2.1 he hk)
              obtain ⟨K, hK⟩ : ∃ K, (rdR ((bl s).drop j)).2.1 = K + 1 := ⟨(rdR ((bl s).drop j)).2.1 - 1, by omega⟩
              have HX := Lib.hid (fun n => lxEsc_short g s j T (1 :: op) (m + 1) a1 k1 a2 k2 (wr.drewN n) (HP.out.lb.dN n) (HSh.out n) hs hh92 hh40 he K hK (by omega))
              clear h34 h92 h40 hcx hlt HJ hE hd hh92 hh40 hrow henc he HSh hk hK hrl hr2
              go_wp2_with fail
              go_quiet (fail)
              go_wp2_with fail
              go_quiet (fail)
              go_wp2_with fail
              refine (HPx.out _).mono ?_
              rintro e w1 ⟨rfl, rfl⟩
              go_wp2_with fail
              refine (HX.out _).mono ?_
              rintro e w1 ⟨rfl, hb, hf⟩
              have HB2 := Lib.hid hb
              have HFF := Lib.hid (Fr.gb (gb_trans (gb_dN HG.out _) hf) (by have := HNb.out; obtain ⟨_, _, _, _⟩ := this; omega))
              clear hb hf k0 k1' kp
              go_wp2
              go_ret
              exact ⟨HFF.out, .inr (.inr (.inl ⟨HQ.out, .inr rfl, ⟨a1, k1, a2, k2, HB2.out⟩⟩))⟩
            · have HQ := Lib.hid (hE.2.2 he hk)
              obtain ⟨K, hK⟩ : ∃ K, (rdR ((bl s).drop j)).2.1 = K + 1 := ⟨(rdR ((bl s).drop j)).2.1 - 1, by have := hrow.2.2.2.1; omega⟩
              have HX := Lib.hid (fun n => lxEsc_bad g s j T (1 :: op) (m + 1) a1 k1 a2 k2 (wr.drewN n) (HP.out.lb.dN n) (HSh.out n) hs hh92 hh40 he K hK (by omega))
              rw [hK, Nat.add_sub_cancel] at HQ
              clear h34 h92 h40 hcx hlt HJ hE hd hh92 hh40 hrow henc he HSh hk hK hrl hr2
              go_wp2_with fail
              go_quiet (fail)
              go_wp2_with fail
              go_quiet (fail)
              go_wp2_with fail
              refine (HPx.out _).mono ?_
              rintro e w1 ⟨rfl, rfl⟩
              go_wp2_with fail
              refine (HX.out _).mono ?_
              rintro e w1 ⟨rfl, hb, hf⟩
              have HB2 := Lib.hid hb
              have HFF := Lib.hid (Fr.gb (gb_trans (gb_dN HG.out _) hf) (by have := HNb.out; obtain ⟨_, _, _, _⟩ := this; omega))
              clear hb hf k0 k1' kp
              go_wp2
              go_ret
              refine ⟨HFF.out, .inr (.inr (.inr ?_))⟩
              rw [HQ.out]
              refine ⟨rfl, rfl, ⟨a1, k1, a2, k2, ?_⟩⟩
              simp only
              rw [show p + (j - p + lasF (((bl s).drop j).take K)) = j + lasF (((bl s).drop j).take K) by omega]
              exact HB2.out
      · have t92 : ((((s.extract j s.size)[0]'hx0).toNat : Int) == 92) = false := by rw [hcx, beq_eq_false_iff_ne]; omega
        rw [hpB_no hlt h92] at HPx
        have HJ2 := Lib.hid (HJ.out.plain hlt h34 h92)
        have hc256 : s[j].toNat < 256 := s[j].toNat_lt
        obtain ⟨c, hcc⟩ : ∃ c, s[j].toNat = c := ⟨_, rfl⟩
        rw [hcc] at HJ2 hc256 hcx
        have HCX := Lib.hid hcx
        have hjs1 : j + 1 ≤ s.size := hlt
        clear h34 h92 hcx hcc HJ hlt
        have HWb := Lib.hid (fun W (hW : PcW w g s p T op m a1 k1 a2 k2 pb fb sb W j x) => WriteByte_any sb sb (Lib.byteCells (u8s x)) ((((s.extract j s.size)[0]'hx0).toNat : Int)) W hW.sd (by rw [u8s_len]; omega) hW.sz)
        have HM : Hid ((intOf ((wr.cell? ⟨g, 1, none⟩).getD undef)).toNat = j) := Lib.hid (by rw [k1']; simp [intOf])
        go_wp2_with fail
        go_quiet (fail)
        go_wp2_with fail
        go_quiet (fail)
        go_wp2_with fail
        refine (HPx.out _).mono ?_
        rintro e w1 ⟨rfl, rfl⟩
        go_wp2_with fail
        refine (HWb.out _ (HP.out.dN _)).mono ?_
        rintro e w1 ⟨rfl, hbs, hb2⟩
        rw [HCX.out, ← u8s_one hc256] at hbs
        have HP1 := Lib.hid ((HP.out.dN _).wrote (y := [c]) HNb.out (fun b e => by have := HL1.out b e; have := HNb.out.2.1; omega) (fun b e => by have := HL2.out b e; have := HNb.out.2.1; omega) hbs hb2)
        clear hbs hb2 k0 k1' kp
        have kp := HP1.out.kp
        have k1'' := HP1.out.lb.c1
        have kfz := HP1.out.lb.fz
        go_wp2
        go_roundw
        case rel => exact ⟨j + 1, x ++ [c], HJ2, Lib.hid (HP1.out.at HNb.out (HP1.out.lb.at (j + 1) hjs1 (by omega)) (gb_set (gb_refl _ _) _ _))⟩
        case measure => rw [HM.out]; simp [intOf, go_sem, k1'']; omega
    · have hje : j = s.size := by omega
      have hlt' : ¬ (j : Int) < (s.size : Int) := by omega
      have HQ := Lib.hid (HJ.out.none (by omega))
      have HB2 : Hid (LBX wr g s s.size T (1 :: op) (m + 1) a1 k1 a2 k2) := Lib.hid (by have := HP.out.lb; rw [hje] at this; exact this)
      have HFF := Lib.hid (Fr.gb (gb_dN HG.out 1) (by have := HNb.out; obtain ⟨_, _, _, _⟩ := this; omega))
      clear hje hlt HJ
      go_wp2_with fail
      go_quiet (fail)
      go_wp2
      go_ret
      exact ⟨Fr.gb (gb_dN HG.out _) (by have := HNb.out; obtain ⟨_, _, _, _⟩ := this; omega), .inr (.inr (.inl ⟨HQ.out, .inl rfl, ⟨a1, k1, a2, k2, HB2.out.dN _⟩⟩))⟩
end Go.Proofs.YtpgiljibicigeaaGreatDoor
