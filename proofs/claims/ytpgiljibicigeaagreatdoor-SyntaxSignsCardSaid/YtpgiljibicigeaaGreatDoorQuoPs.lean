/- quote: what was written is read back. -/
import Derived.Test.YtpgiljibicigeaaGreatDoorUtfHs
import Derived.Deep.RegionLaw
import Derived.Test.YtpgiljibicigeaaGreatDoorQuoCs
set_option linter.unusedVariables false
set_option linter.unusedSimpArgs false
namespace Go.Proofs.YtpgiljibicigeaaGreatDoor
open Go.RowKit UM QM

theorem pk_of {l r : List Nat} {k c : Nat} (h : l.drop k = c :: r) : pk l k = (c : Nat) := by
  have hk : k < l.length := by
    rcases Nat.lt_or_ge k l.length with h' | h'
    · exact h'
    · rw [List.drop_of_length_le h'] at h; cases h
  unfold pk
  rw [if_pos hk]
  have e := List.drop_eq_getElem_cons hk
  rw [h] at e
  have e1 := (List.cons.inj e).1
  simp [hk, e1]
theorem drop_next {l r : List Nat} {k c : Nat} (h : l.drop k = c :: r) : l.drop (k + 1) = r := by
  rw [← List.drop_drop, h]; rfl
theorem dgv_hxd (d : Nat) (h : d < 16) : dgv ((hxd d : Nat) : Int) = some d := by
  have : ∀ k : _root_.Fin 16, dgv ((hxd k.val : Nat) : Int) = some k.val := by decide
  exact this ⟨d, h⟩
theorem unitF_step {l r : List Nat} {n k h d : Nat} (hd : d < 16) (e : l.drop k = hxd d :: r) : unitF l (n + 1) k h = unitF l n (k + 1) (h * 16 + d) := by
  simp only [unitF]
  rw [pk_of e, dgv_hxd d hd]
theorem un_hx {l r : List Nat} {k u : Nat} (hu : u < 65536) (e : l.drop k = hx4 u ++ r) : un l k = (((u : Nat) : Int), true, k + 4) := by
  unfold hx4 at e
  simp only [List.cons_append, List.nil_append] at e
  unfold un
  rw [unitF_step (Nat.mod_lt _ (by decide)) e]
  have e1 := drop_next e
  rw [unitF_step (Nat.mod_lt _ (by decide)) e1]
  have e2 := drop_next e1
  rw [unitF_step (Nat.mod_lt _ (by decide)) e2]
  have e3 := drop_next e2
  rw [unitF_step (Nat.mod_lt _ (by decide)) e3]
  simp only [unitF]
  have : (((0 * 16 + u / 4096 % 16) * 16 + u / 256 % 16) * 16 + u / 16 % 16) * 16 + u % 16 = u := by omega
  rw [this]
theorem drop_two {l r : List Nat} {k a b : Nat} (e : l.drop k = a :: b :: r) : l.drop (k + 2) = r := drop_next (drop_next e)
theorem esc_uni {l r : List Nat} {k u : Nat} (e : l.drop k = uni u ++ r) : pk l k = 92 ∧ escF l (k + 1) = codedF l (k + 2) ∧ l.drop (k + 2) = hx4 u ++ r := by
  unfold uni at e
  rw [List.append_assoc] at e
  have e0 : l.drop k = 92 :: 117 :: (hx4 u ++ r) := e
  refine ⟨pk_of e0, ?_, drop_two e0⟩
  have h := pk_of (drop_next e0)
  unfold escF
  rw [h]
  rfl
theorem piece_esc {l : List Nat} {k : Nat} (h : pk l k = 92) : pieceF l k = escF l (k + 1) := by
  unfold pieceF
  rw [h]
  rfl
theorem drop_add {l m r : List Nat} {k : Nat} (e : l.drop k = m ++ r) : l.drop (k + m.length) = r := by
  rw [← List.drop_drop, e]; simp
theorem coded_one {l r : List Nat} {k u : Nat} (hu : u < 65536) (hp : Pt u) (e : l.drop k = hx4 u ++ r) : codedF l k = (((u : Nat) : Int), true, k + 4) := by
  unfold codedF
  rw [un_hx hu e]
  obtain ⟨_, h2⟩ := hp
  rw [if_neg (by simp), if_pos (by simp only; omega)]
theorem low_hx {l r : List Nat} {k u : Nat} (hu : u < 65536) (h1 : 56320 ≤ u) (h2 : u ≤ 57343) (e : l.drop k = uni u ++ r) : lowF l k = (((u : Nat) : Int), true, k + 6) := by
  unfold uni at e
  rw [List.append_assoc] at e
  have e0 : l.drop k = 92 :: 117 :: (hx4 u ++ r) := e
  unfold lowF
  rw [pk_of e0, pk_of (drop_next e0), if_neg (by decide), if_neg (by decide), un_hx hu (drop_two e0)]
  have a1 : decide ((56320 : Int) ≤ ((u : Nat) : Int)) = true := by simp; omega
  have a2 : decide (((u : Nat) : Int) ≤ 57343) = true := by simp; omega
  simp only [a1, a2]
  rfl
theorem coded_two {l r : List Nat} {k q : Nat} (hq : q ≤ 1048575) (e : l.drop k = hx4 (55296 + q / 1024) ++ (uni (56320 + q % 1024) ++ r)) : codedF l k = (((65536 + q : Nat) : Int), true, k + 10) := by
  have h4 : (hx4 (55296 + q / 1024)).length = 4 := rfl
  have e2 := drop_add e
  rw [h4] at e2
  unfold codedF
  rw [un_hx (by omega) e]
  simp only
  rw [if_neg (by simp), if_neg (by omega), if_neg (by omega), low_hx (by omega) (by omega) (by omega) e2]
  simp only
  rw [if_pos trivial]
  refine Prod.ext ?_ rfl
  simp only
  omega
/-- a piece that was written is read as its code point -/
theorem piece_back {asc : Bool} {l r : List Nat} {k p : Nat} (hp : Pt p) (e : l.drop k = pieceW asc p ++ r) : pk l k ≠ 34 ∧ pieceF l k = (((p : Nat) : Int), true, k + (pieceW asc p).length) := by
  unfold pieceW at e ⊢
  by_cases c1 : letF p ≠ 0
  · rw [if_pos c1] at e ⊢
    have e0 : l.drop k = 92 :: letF p :: r := e
    have h1 := pk_of e0
    have h2 := pk_of (drop_next e0)
    refine ⟨by rw [h1]; decide, ?_⟩
    rw [piece_esc h1]
    unfold escF
    rw [h2]
    unfold letF at c1 ⊢
    by_cases d1 : p = 34
    · subst d1; rfl
    by_cases d2 : p = 92
    · subst d2; rfl
    by_cases d3 : p = 8
    · subst d3; rfl
    by_cases d4 : p = 9
    · subst d4; rfl
    by_cases d5 : p = 10
    · subst d5; rfl
    by_cases d6 : p = 12
    · subst d6; rfl
    by_cases d7 : p = 13
    · subst d7; rfl
    rw [if_neg d1, if_neg d2, if_neg d3, if_neg d4, if_neg d5, if_neg d6, if_neg d7] at c1
    exact absurd rfl c1
  rw [if_neg c1] at e ⊢
  have c1' : p ≠ 34 ∧ p ≠ 92 := by
    have c0 := Decidable.not_not.1 c1
    constructor
    · intro h; rw [h] at c0; cases c0
    · intro h; rw [h] at c0; cases c0
  have one : ∀ (hu : p < 65536), l.drop k = uni p ++ r → pk l k ≠ 34 ∧ pieceF l k = (((p : Nat) : Int), true, k + (uni p).length) := by
    intro hu e
    obtain ⟨h1, h2, h3⟩ := esc_uni e
    refine ⟨by rw [h1]; decide, ?_⟩
    rw [piece_esc h1, h2, coded_one hu hp h3]
    rfl
  by_cases c2 : p < 32 ∨ p = 127
  · rw [if_pos c2] at e ⊢
    exact one (by omega) e
  rw [if_neg c2] at e ⊢
  by_cases c3 : p ≤ 127 ∨ asc = false
  · rw [if_pos c3] at e ⊢
    by_cases c5 : p < 128
    · rw [enc1 c5] at e ⊢
      have h1 := pk_of (show l.drop k = p :: r from e)
      refine ⟨by rw [h1]; omega, ?_⟩
      unfold pieceF
      rw [h1, if_neg (by omega), if_neg (by omega), if_neg (by omega)]
      rfl
    · have hh : ∃ c t, enc p = c :: t ∧ 128 ≤ c := by
        unfold enc
        rw [if_neg c5]
        split
        · exact ⟨_, _, rfl, by omega⟩
        · split
          · exact ⟨_, _, rfl, by omega⟩
          · exact ⟨_, _, rfl, by omega⟩
      obtain ⟨c, t, hc, hc2⟩ := hh
      have h1 : pk l k = (c : Nat) := pk_of (r := t ++ r) (by rw [e, hc]; rfl)
      refine ⟨by rw [h1]; omega, ?_⟩
      unfold pieceF
      rw [h1, if_neg (by omega), if_pos (by omega)]
      have ht : (l.drop k).take 4 = enc p ++ r.take (4 - (enc p).length) := by
        rw [e, List.take_append, List.take_of_length_le (by rw [enc_len]; exact (en_pos p).2)]
      unfold pointF
      rw [ht, dcd_enc hp, if_pos rfl, enc_len]
  rw [if_neg c3] at e ⊢
  by_cases c4 : p ≤ 65535
  · rw [if_pos c4] at e ⊢
    exact one (by omega) e
  rw [if_neg c4] at e ⊢
  obtain ⟨q, hq⟩ : ∃ q, q = p - 65536 := ⟨_, rfl⟩
  rw [← hq] at e ⊢
  have hpq : p = 65536 + q := by omega
  have hq3 : q ≤ 1048575 := by have := hp.1; omega
  rw [List.append_assoc] at e
  obtain ⟨h1, h2, h3⟩ := esc_uni e
  refine ⟨by rw [h1]; decide, ?_⟩
  rw [piece_esc h1, h2, coded_two hq3 h3, hpq]
  rfl
theorem tl_back {asc : Bool} {m : List Nat} : ∀ {ps l : List Nat} {k : Nat}, (∀ p ∈ ps, Pt p) → l.drop k = ps.flatMap (pieceW asc) ++ (34 :: m) → Tl l k (toI ps) (k + (ps.flatMap (pieceW asc)).length + 1) 0
  | [], l, k, _, e => Tl.stop (pk_of e)
  | p :: ps, l, k, hp, e => by
    rw [List.flatMap_cons, List.append_assoc] at e
    obtain ⟨h1, h2⟩ := piece_back (hp p (List.mem_cons_self ..)) e
    have t := tl_back (fun q hq => hp q (List.mem_cons_of_mem _ hq)) (drop_add e)
    have := Tl.go' h1 h2 t
    rw [List.flatMap_cons, List.length_append]
    rw [Nat.add_assoc k] at this
    exact this
/-- what was written is read back -/
theorem read_back (asc : Bool) {ps : List Nat} (hp : ∀ p ∈ ps, Pt p) (m : List Nat) : RdR (wrt asc ps ++ m) (toI ps) (wrt asc ps).length 0 := by
  have e : wrt asc ps ++ m = 34 :: (ps.flatMap (pieceW asc) ++ (34 :: m)) := by unfold wrt; simp
  have t := tl_back (asc := asc) (m := m) hp (show (wrt asc ps ++ m).drop 1 = ps.flatMap (pieceW asc) ++ (34 :: m) by rw [e]; rfl)
  refine .inr ⟨by rw [e]; rfl, ?_⟩
  have hl : (wrt asc ps).length = 1 + (ps.flatMap (pieceW asc)).length + 1 := by unfold wrt; simp; omega
  rw [hl]; exact t
end Go.Proofs.YtpgiljibicigeaaGreatDoor

/- quote: Plain walked. -/
namespace Go.Proofs.YtpgiljibicigeaaGreatDoor
open Go.RowKit UM QM

end Go.Proofs.YtpgiljibicigeaaGreatDoor

/- quote: Is walked. -/
namespace Go.Proofs.YtpgiljibicigeaaGreatDoor
open Go.RowKit UM QM

attribute [local go_sem] Oper.semAt_some
theorem RB.gbFar {A B : World} {g r : Nat} {a : Option Addr} {cap : Nat} {l : List Nat} {k err : Nat} (h : RB A g a cap l k err) (hg : A.grownBy B (some r)) (hr : g ≠ r) (ha : 0 < l.length → Apart a r) (hs : ¬ 0 = r) : RB B g a cap l k err := by
  obtain ⟨h0, h1, h2, hf, hrd, hap, hk, hl, hlo, hcp, hsh, hsn⟩ := h
  refine ⟨hg.cell h0 (by simpa using hr), hg.cell h1 (by simpa using hr), hg.cell h2 (by simpa using hr), fun j => ?_, hrd.gbc hg ha, hap, hk, hl, hlo, hcp, hsh.gb hg hs, hsn⟩
  rw [World.frozen?_of_block (w := A) (hg.block g (lt_of_cell h0) (by simpa using hr))]
  exact hf j
theorem Tl.ex (l : List Nat) : ∀ (n j : Nat), l.length + 1 - j ≤ n → ∃ xs e err, Tl l j xs e err := by
  intro n
  induction n with
  | zero =>
    intro j hj
    by_cases h : pk l j = 34
    · exact ⟨_, _, _, Tl.stop h⟩
    · by_cases h2 : (pieceF l j).2.1 = true
      · have := pk_ne h2; omega
      · exact ⟨_, _, _, Tl.bad h (by simpa using h2)⟩
  | succ n ih =>
    intro j hj
    by_cases h : pk l j = 34
    · exact ⟨_, _, _, Tl.stop h⟩
    · by_cases h2 : (pieceF l j).2.1 = true
      · have := piece_adv h2 (pk_ne h2)
        obtain ⟨xs, e, err, t⟩ := ih (pieceF l j).2.2 (by omega)
        exact ⟨_, _, _, Tl.go h h2 t⟩
      · exact ⟨_, _, _, Tl.bad h (by simpa using h2)⟩
/-- what was told before a place is a beginning of all that is told -/
theorem rch_pre {l : List Nat} {pre xs : List Int} {j k err : Nat} (h : Rch l pre j) (hr : RdR l xs k err) : ∃ ys, xs = pre ++ ys := by
  obtain ⟨h0, h1⟩ := Tl.of h
  obtain ⟨ys, e', err', t⟩ := Tl.ex l _ j (Nat.le_refl _)
  have := RdR.det hr (.inr ⟨h0, h1 t⟩)
  exact ⟨ys, this.1⟩
/-- while the key goes along -/
def IIs (w0 : World) (key : ByteArray) (pre : List Int) (W : World) : Prop :=
  (∃ (ps : List Nat) (R : ByteArray), (∀ p ∈ ps, Pt p) ∧ pre = toI ps ∧ bl key = encL ps ++ bl R ∧ W.cell? ⟨w0.heap.size + 2, 0, none⟩ = some (.string R) ∧ W.frozen? ⟨w0.heap.size + 2, 0, none⟩ = false ∧ W.cell? ⟨w0.heap.size, 0, none⟩ = some (.bool false) ∧ W.frozen? ⟨w0.heap.size, 0, none⟩ = false) ∧ Below w0.heap.size w0 W
/-- when it did not -/
def XIs (w0 : World) (key : ByteArray) (pre : List Int) (W : World) : Prop :=
  (∃ (ps : List Nat), (∀ p ∈ ps, Pt p) ∧ pre = toI ps ∧ (∀ t, bl key ≠ encL ps ++ t) ∧ W.cell? ⟨w0.heap.size, 0, none⟩ = some (.bool false) ∧ W.frozen? ⟨w0.heap.size, 0, none⟩ = false) ∧ Below w0.heap.size w0 W
theorem IIs.own (w0 : World) (key : ByteArray) : OwnFrom (w0.heap.size + 3) (IIs w0 key) := by
  refine OwnFrom.and (Own.from ?_ _) (ownFrom_below (Nat.le_refl _) (by omega))
  rintro s A B row ⟨ps, R, h1, h2, h3, h4, h5, h6, h7⟩ hg hr
  exact ⟨ps, R, h1, h2, h3, cell_kept h4 hg hr, (frozen_kept h4 hg hr).trans h5, cell_kept h6 hg hr, (frozen_kept h6 hg hr).trans h7⟩
theorem XIs.own (w0 : World) (key : ByteArray) : OwnFrom (w0.heap.size + 3) (XIs w0 key) := by
  refine OwnFrom.and (Own.from ?_ _) (ownFrom_below (Nat.le_refl _) (by omega))
  rintro s A B row ⟨ps, h1, h2, h3, h6, h7⟩ hg hr
  exact ⟨ps, h1, h2, h3, cell_kept h6 hg hr, (frozen_kept h6 hg hr).trans h7⟩
theorem frz_gb {A B : World} {r : Nat} {p : Addr} {v : Value} (h : A.cell? p = some v) (hf : A.frozen? p = false) (hg : A.grownBy B (some r)) (hne : p.block ≠ r) : B.frozen? p = false := by
  rw [World.frozen?_of_block (w := A) (hg.block p.block (lt_of_cell h) (by simpa using hne))]; exact hf
theorem IIs.gb {w0 : World} {key : ByteArray} {pre : List Int} {A B : World} (h : IIs w0 key pre A) (hg : A.grownBy B (some (w0.heap.size + 1))) : IIs w0 key pre B := by
  obtain ⟨⟨ps, R, h1, h2, h3, h4, h5, h6, h7⟩, hb⟩ := h
  exact ⟨⟨ps, R, h1, h2, h3, hg.cell h4 (by simp), frz_gb h4 h5 hg (by simp), hg.cell h6 (by simp), frz_gb h6 h7 hg (by simp)⟩, hb.grown hg hb.size (fun k e => by cases e; omega)⟩
theorem XIs.gb {w0 : World} {key : ByteArray} {pre : List Int} {A B : World} (h : XIs w0 key pre A) (hg : A.grownBy B (some (w0.heap.size + 1))) : XIs w0 key pre B := by
  obtain ⟨⟨ps, h1, h2, h3, h6, h7⟩, hb⟩ := h
  exact ⟨⟨ps, h1, h2, h3, hg.cell h6 (by simp), frz_gb h6 h7 hg (by simp)⟩, hb.grown hg hb.size (fun k e => by cases e; omega)⟩
/-- a step of the key -/
theorem key_step {key R : ByteArray} {ps : List Nat} {p : Nat} (hp : Pt p) (h : bl key = encL ps ++ bl R) :
    (dcd (bl R) = (p, en p, true) ∧ en p ≤ R.size ∧ bl key = encL (ps ++ [p]) ++ bl (R.extract (en p) R.size)) ∨ (((dcd (bl R)).2.2 = false ∨ (dcd (bl R)).1 ≠ p) ∧ ∀ t, bl key ≠ encL (ps ++ [p]) ++ t) := by
  by_cases e : ∃ t, bl R = enc p ++ t
  · obtain ⟨t, e⟩ := e
    left
    have hl : en p ≤ R.size := by rw [← bl_len, e, List.length_append, enc_len]; omega
    refine ⟨by rw [e]; exact dcd_enc hp t, hl, ?_⟩
    rw [bl_extract, h, encL_append, encL_one, e, ← enc_len]
    simp
  · right
    constructor
    · rcases dcd_cases (bl R) with ⟨q, t, hq, e1, e2⟩ | ⟨_, e2⟩ | ⟨_, e2⟩
      · right
        rw [e2]
        intro e3
        simp only at e3
        subst e3
        exact e ⟨t, e1⟩
      · left; rw [e2]
      · left; rw [e2]
    · intro t ht
      rw [h, encL_append, encL_one, List.append_assoc] at ht
      exact e ⟨t, List.append_cancel_left ht⟩
end Go.Proofs.YtpgiljibicigeaaGreatDoor

/- quote: Is walked. -/
namespace Go.Proofs.YtpgiljibicigeaaGreatDoor
open Go.RowKit UM QM

attribute [local go_sem] Oper.semAt_some
theorem putCell {W : World} {p : Addr} {v : Value} (h : W.cell? p = some v) {D : Nat} (o : Obj) (hD : p.block < D) : (W.putObj D o).cell? p = some v := ((putBelow W D D o (Nat.le_refl _)).cell hD).trans h
theorem koN (W : World) (n : Nat) : KeepsOthers W (W.drewN n) := ⟨Nat.le_refl _, fun _ _ h _ => h⟩
theorem cell_new {W : World} {C : Array Value} {t : TypeId} {b j : Nat} (hb : b = W.heap.size) : (W.alloc (.cells C t)).cell? ⟨b, j, none⟩ = C[j]? := by subst hb; exact World.cell?_alloc_mark W C t (0, 0) j
theorem cell_old {W : World} {o : Obj} {p : Addr} (h : p.block < W.heap.size) : (W.alloc o).cell? p = W.cell? p := ((Below.refl W.heap.size W).alloc (Nat.le_refl _) o).cell h
theorem frz_new {W : World} {C : Array Value} {t : TypeId} {b j : Nat} (hb : b = W.heap.size) : (W.alloc (.cells C t)).frozen? ⟨b, j, none⟩ = false := by subst hb; simp
theorem frz_old {W : World} {o : Obj} {p : Addr} (h : p.block < W.heap.size) : (W.alloc o).frozen? p = W.frozen? p := ((Below.refl W.heap.size W).alloc (Nat.le_refl _) o).frozen h
end Go.Proofs.YtpgiljibicigeaaGreatDoor

/- quote: the bytes of a text as an argument. -/
namespace Go.Proofs.YtpgiljibicigeaaGreatDoor
open Go.RowKit UM QM

/-- where a law stands: nothing old has turned, the table is there -/
def Goes (w W : World) : Prop := Below w.heap.size w W ∧ Sh W
theorem Goes.next {w W W' : World} (h : Goes w W) (hb : Below W.heap.size W W') : Goes w W' := ⟨h.1.trans (hb.mono h.1.size), h.2.below hb⟩
theorem Goes.drew {w W : World} (h : Goes w W) : Goes w W.drew := ⟨h.1.drew, h.2⟩
section
variable (W : World) (e : TypeId) (q : List Nat)
theorem bw_below (s : ByteArray) : Below W.heap.size W (Lib.bytesWorld W e s) :=
  ⟨rfl, rfl, rfl, by rw [Lib.bytesWorld_size]; omega, fun k hk => Lib.bytesWorld_at_old W e s k hk⟩
theorem bw_rd (hq : ∀ x ∈ q, x < 256) : Rd (Lib.bytesWorld W e (tx q)) .u8 (some ⟨W.heap.size, 0, none⟩) q := by
  refine Rd.mk fun j hj => ?_
  rw [Nat.zero_add, Lib.bytesWorld_cell W e (tx q) j (by rw [tx_size]; exact hj)]
  have h4 : q[j]?.getD 0 < 256 := by rw [List.getElem?_eq_getElem hj]; exact hq _ (List.getElem_mem hj)
  have : ((tx q).data.toList.getD j 0).toNat = q[j]?.getD 0 := by
    rw [tx_list, List.getD_eq_getElem?_getD, List.getElem?_map, List.getElem?_eq_getElem hj]
    show (UInt8.ofNat q[j]).toNat = q[j]
    rw [UInt8.toNat_ofNat', Nat.mod_eq_of_lt (hq _ (List.getElem_mem hj))]
  rw [this]
theorem bw_cap (n : Nat) : n ≤ grownCap W n 0 e := grownCap_ge W n 0 e
theorem bw_spare (_hl : q.length ≤ 1000000000000) : Spare (Lib.bytesWorld W e (tx q)) W.heap.size q.length (grownCap W q.length 0 e) := by
  intro j h1 h2
  have hsz : (Lib.bytesCells W e (tx q)).size = grownCap W q.length 0 e := by
    unfold Lib.bytesCells
    have h0 : (tx q).data.size = q.length := tx_size q
    have := bw_cap W e q.length
    rw [Array.size_append, Array.size_map, Array.size_replicate, h0, tx_size]
    omega
  have hn := Lib.bytesWorld_at_new W e (tx q)
  constructor
  · unfold World.cell?
    simp only [hn]
    rw [if_neg (by simp), Array.getElem?_eq_getElem (by rw [hsz]; omega)]
    rfl
  · unfold World.frozen?
    simp only [hn]
    simp
    omega
end
theorem conv_bw (W : World) (q : List Nat) : (convert 9 52 (.string (tx q))).run Tryz.prog W = .ok (.slice (some ⟨W.heap.size, 0, none⟩) q.length (grownCap W q.length 0 5)) (Lib.bytesWorld W 5 (tx q)) := by
  have h := Lib.run_convert_string_bytes (P := Tryz.prog) W 9 52 5 (tx q) Tryz.underlying9 Tryz.underlying52 Tryz.underlying5
  rw [tx_size] at h
  exact h
theorem wrt_lo (asc : Bool) {ps : List Nat} (hp : ∀ p ∈ ps, Pt p) : ∀ x ∈ wrt asc ps, x < 256 := L3 (done := ps) (todo := []) (by simp) rfl hp
theorem wrt_len (asc : Bool) (ps : List Nat) : (wrt asc ps).length ≤ 12 * ps.length + 2 := by
  have := flat_len asc ps
  unfold wrt
  simp only [List.length_append, List.length_singleton]; omega
theorem bw_slot (W : World) (e : TypeId) (s : ByteArray) : ∀ b off, some (⟨W.heap.size, 0, none⟩ : Addr) = some ⟨b, off, none⟩ → b < (Lib.bytesWorld W e s).heap.size := fun b off h => by
  cases h
  rw [Lib.bytesWorld_size]; omega
end Go.Proofs.YtpgiljibicigeaaGreatDoor

/- quote: what Read tells of a beginning. -/
namespace Go.Proofs.YtpgiljibicigeaaGreatDoor
open Go.RowKit UM QM

/-- two texts that are the same below a place -/
def Same (l l' : List Nat) (n : Nat) : Prop := n ≤ l.length ∧ n ≤ l'.length ∧ ∀ k, k < n → l[k]?.getD 0 = l'[k]?.getD 0
theorem Same.symm {l l' : List Nat} {n : Nat} (h : Same l l' n) : Same l' l n := ⟨h.2.1, h.1, fun k hk => (h.2.2 k hk).symm⟩
theorem Same.pk {l l' : List Nat} {n k : Nat} (h : Same l l' n) (hk : k < n) : QM.pk l k = QM.pk l' k := by
  have h1 : k < l.length := Nat.lt_of_lt_of_le hk h.1
  have h2 : k < l'.length := Nat.lt_of_lt_of_le hk h.2.1
  unfold QM.pk
  rw [if_pos h1, if_pos h2, h.2.2 k hk]
theorem Same.unit {l l' : List Nat} {m : Nat} (h : Same l l' m) : ∀ {n k x : Nat}, (unitF l n k x).2.1 = true → (unitF l n k x).2.2 ≤ m → unitF l' n k x = unitF l n k x := by
  intro n
  induction n with
  | zero => intro k x _ _; rfl
  | succ n ih =>
    intro k x h1 h2
    simp only [unitF] at h1 h2 ⊢
    cases hd : dgv (QM.pk l k) with
    | none => rw [hd] at h1; cases h1
    | some d =>
      rw [hd] at h1 h2
      simp only at h1 h2 ⊢
      have hk : k + 1 ≤ m := Nat.le_trans unitF_ge h2
      rw [← h.pk (show k < m by omega), hd]
      exact ih h1 h2
theorem Same.un {l l' : List Nat} {m k : Nat} (h : Same l l' m) (h1 : (QM.un l k).2.1 = true) (h2 : (QM.un l k).2.2 ≤ m) : QM.un l' k = QM.un l k := h.unit h1 h2
theorem Same.low {l l' : List Nat} {m k : Nat} (h : Same l l' m) (h1 : (lowF l k).2.1 = true) (h2 : (lowF l k).2.2 ≤ m) : lowF l' k = lowF l k := by
  unfold lowF at h1 h2 ⊢
  by_cases d1 : QM.pk l k ≠ 92
  · rw [if_pos d1] at h1; cases h1
  rw [if_neg d1] at h1 h2 ⊢
  by_cases d2 : QM.pk l (k + 1) ≠ 117
  · rw [if_pos d2] at h1; cases h1
  rw [if_neg d2] at h1 h2 ⊢
  simp only [Bool.and_eq_true, decide_eq_true_eq] at h1
  simp only at h2
  have hg := un_ge l (k + 2)
  rw [h.pk (show k < m by omega)] at d1
  rw [h.pk (show k + 1 < m by omega)] at d2
  rw [if_neg d1, if_neg d2, h.un h1.1.1 h2]
theorem Same.coded {l l' : List Nat} {m k : Nat} (h : Same l l' m) (hst : ∀ u, u ≤ m → (lowF l' u).2.1 = true → (lowF l' u).2.2 ≤ m) (h1 : (codedF l k).2.1 = true) (h2 : (codedF l k).2.2 ≤ m) : codedF l' k = codedF l k := by
  have hu : (QM.un l k).2.1 = true ∧ (QM.un l k).2.2 ≤ m := by
    unfold codedF at h1 h2
    have hg := low_ge l (QM.un l k).2.2
    by_cases c0 : (QM.un l k).2.1 = false
    · rw [if_pos c0] at h1; cases h1
    refine ⟨by simpa using c0, ?_⟩
    rw [if_neg c0] at h2
    repeat' split at h2
    all_goals simp only at h2
    all_goals omega
  have he := h.un hu.1 hu.2
  unfold codedF at h1 h2 ⊢
  rw [he]
  generalize QM.un l k = U at *
  obtain ⟨u1, u2, u3⟩ := U
  simp only at hu h1 h2 ⊢
  have c0 : ¬ u2 = false := by rw [hu.1]; decide
  rw [if_neg c0] at h1 h2
  rw [if_neg c0, if_neg c0]
  by_cases c1 : u1 < 55296 ∨ 57343 < u1
  · rw [if_pos c1, if_pos c1]
  rw [if_neg c1] at h2
  rw [if_neg c1, if_neg c1]
  by_cases c2 : 56320 ≤ u1
  · rw [if_pos c2, if_pos c2]
  rw [if_neg c2] at h2
  rw [if_neg c2, if_neg c2]
  by_cases c3 : (lowF l u3).2.1 = true
  · rw [if_pos c3] at h2
    simp only at h2
    rw [h.low c3 h2]
  · have c4 : ¬ (lowF l' u3).2.1 = true := by
      intro c4
      have := h.symm.low c4 (hst u3 hu.2 c4)
      rw [this] at c3
      exact c3 c4
    rw [if_neg c3, if_neg c4]
theorem Same.esc {l l' : List Nat} {m k : Nat} (h : Same l l' m) (hst : ∀ u, u ≤ m → (lowF l' u).2.1 = true → (lowF l' u).2.2 ≤ m) (h1 : (escF l k).2.1 = true) (h2 : (escF l k).2.2 ≤ m) : escF l' k = escF l k := by
  have hk : k < m := by
    have hg := coded_ge l (k + 1)
    unfold escF at h1 h2
    repeat' split at h2
    all_goals (try simp only at h2)
    all_goals (try omega)
    rename_i a1 a2 a3 a4 a5 a6 a7
    rw [if_neg a1, if_neg a2, if_neg a3, if_neg a4, if_neg a5, if_neg a6, if_neg a7] at h1
    cases h1
  unfold escF at h1 h2 ⊢
  rw [← h.pk hk]
  by_cases c7 : QM.pk l k = 117
  · rw [c7] at h1 h2 ⊢
    exact h.coded hst h1 h2
  · rw [if_neg c7, if_neg c7]
theorem Same.take {l l' : List Nat} {m k j : Nat} (h : Same l l' m) (hj : k + j ≤ m) : (l'.drop k).take j = (l.drop k).take j := by
  have h1 := h.1
  have h2 := h.2.1
  apply List.ext_getElem
  · simp; omega
  · intro i hi1 hi2
    simp at hi1 hi2
    have := h.2.2 (k + i) (by omega)
    rw [List.getElem?_eq_getElem (by omega), List.getElem?_eq_getElem (by omega)] at this
    simp only [Option.getD_some] at this
    simp [this]
theorem Same.point {l l' : List Nat} {m k : Nat} (h : Same l l' m) (h1 : (pointF l k).2.1 = true) (h2 : (pointF l k).2.2 ≤ m) : pointF l' k = pointF l k := by
  unfold pointF at h1 h2 ⊢
  by_cases c3 : (dcd ((l.drop k).take 4)).2.2 = true
  · rw [if_pos c3] at h2 ⊢
    rcases dcd_cases ((l.drop k).take 4) with ⟨p, t, hp, e1, e⟩ | ⟨_, e⟩ | ⟨_, e⟩
    · rw [e] at h2
      simp only at h2
      have h4 := (en_pos p).2
      have ht := h.take h2
      have e5 : (l.drop k).take (en p) = enc p := by
        have := congrArg (List.take (en p)) e1
        rw [List.take_take, Nat.min_eq_left h4] at this
        rw [this, ← enc_len]; simp
      have e6 : (l'.drop k).take 4 = enc p ++ ((l'.drop k).take 4).drop (en p) := by
        have := List.take_append_drop (en p) ((l'.drop k).take 4)
        rw [List.take_take, Nat.min_eq_left h4, ht, e5] at this
        exact this.symm
      have e7 := dcd_enc hp (((l'.drop k).take 4).drop (en p))
      rw [← e6] at e7
      rw [e7, e, if_pos rfl]
    · rw [e] at c3; cases c3
    · rw [e] at c3; cases c3
  · rw [if_neg c3] at h1
    split at h1 <;> cases h1
theorem Same.piece {l l' : List Nat} {m k : Nat} (h : Same l l' m) (hst : ∀ u, u ≤ m → (lowF l' u).2.1 = true → (lowF l' u).2.2 ≤ m) (h1 : (pieceF l k).2.1 = true) (h2 : (pieceF l k).2.2 ≤ m) : pieceF l' k = pieceF l k := by
  have hk : k < m := Nat.lt_of_lt_of_le (piece_adv h1 (pk_ne h1)) h2
  unfold pieceF at h1 h2 ⊢
  rw [← h.pk hk]
  by_cases c1 : QM.pk l k < 32
  · rw [if_pos c1, if_pos c1]
  rw [if_neg c1] at h1 h2
  rw [if_neg c1, if_neg c1]
  by_cases c2 : 127 < QM.pk l k
  · rw [if_pos c2] at h1 h2
    rw [if_pos c2, if_pos c2]
    exact h.point h1 h2
  rw [if_neg c2] at h1 h2
  rw [if_neg c2, if_neg c2]
  by_cases c3 : QM.pk l k = 92
  · rw [if_pos c3] at h1 h2
    rw [if_pos c3, if_pos c3]
    exact h.esc hst h1 h2
  · rw [if_neg c3, if_neg c3]
theorem piece_ge {l : List Nat} {k : Nat} : k ≤ (pieceF l k).2.2 := by
  have h1 := esc_ge l (k + 1)
  unfold pieceF pointF
  by_cases c1 : QM.pk l k < 32
  · rw [if_pos c1]; exact Nat.le_refl _
  rw [if_neg c1]
  have hk : k < l.length := pk_pos (by omega)
  repeat' split
  all_goals (try simp only)
  all_goals omega
theorem Tl.le {l : List Nat} {k : Nat} {xs : List Int} {e err : Nat} (t : Tl l k xs e err) : k ≤ e := by
  induction t with
  | stop h => exact Nat.le_succ _
  | bad h h2 => exact piece_ge
  | go h h2 t ih => exact Nat.le_trans piece_ge ih
theorem fault_ne (l : List Nat) (k : Nat) : faultF l k ≠ 0 := by
  unfold faultF
  repeat' split
  all_goals decide
theorem Tl.same {l l' : List Nat} {k : Nat} {xs : List Int} {e err : Nat} (t : Tl l k xs e err) (h0 : err = 0) (h : Same l l' e) (hst : ∀ u, u ≤ e → (lowF l' u).2.1 = true → (lowF l' u).2.2 ≤ e) : Tl l' k xs e 0 := by
  induction t with
  | stop hp => exact Tl.stop (by rw [← h.pk (Nat.lt_succ_self _)]; exact hp)
  | bad h h2 => exact absurd h0 (fault_ne _ _)
  | go hp h2 t ih =>
    have hle := t.le
    have hpe := h.piece hst h2 hle
    have hk := piece_adv h2 (pk_ne h2)
    have := Tl.go (l := l') (by rw [← h.pk (Nat.lt_of_lt_of_le hk hle)]; exact hp) (by rw [hpe]; exact h2) (by rw [hpe]; exact ih h0 h hst)
    rw [hpe] at this
    exact this
end Go.Proofs.YtpgiljibicigeaaGreatDoor
