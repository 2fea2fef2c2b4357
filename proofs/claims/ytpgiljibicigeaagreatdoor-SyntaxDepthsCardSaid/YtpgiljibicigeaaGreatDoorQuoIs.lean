/- quote: Read walked. -/
import Derived.Shelf.Abstract
import Derived.Test.YtpgiljibicigeaaGreatDoorQuoEs
import Derived.Deep.RegionLaw
import Derived.Test.YtpgiljibicigeaaGreatDoorUtfEs
import Derived.Laws.AppendOwnNone
set_option linter.unusedVariables false
set_option linter.unusedSimpArgs false
namespace Go.Proofs.YtpgiljibicigeaaGreatDoor
open Go.RowKit UM QM

attribute [local go_sem] Oper.semAt_some
/-- below a block, what the reader's box holds stays -/
theorem RB.belowB {w w' : World} {g B : Nat} {a : Option Addr} {cap : Nat} {l : List Nat} {k err : Nat} (h : RB w g a cap l k err) (hb : Below B w w') (hg : g < B) (hab : ∀ b, a = some b → 0 < l.length → b.block < g) (hs : 0 < g) : RB w' g a cap l k err := by
  obtain ⟨h0, h1, h2, hf, hr, ha, hk, hl, hlo, hcp, ⟨q0, q1, q2, q3, q4, q5, q6, q7, q8, q9, q10, q11⟩, hsn⟩ := h
  have key : ∀ (p : Addr) (v : Value), p.block < B → w.cell? p = some v → w'.cell? p = some v := fun p v hp e => by rw [hb.cell hp]; exact e
  have hsB : 0 < B := Nat.lt_trans hs hg
  refine ⟨key _ _ hg h0, key _ _ hg h1, key _ _ hg h2, fun j => (hb.frozen (p := ⟨g, j, none⟩) hg).trans (hf j), ?_, ha, hk, hl, hlo, hcp, ⟨key _ _ hsB q0, key _ _ hsB q1, key _ _ hsB q2, key _ _ hsB q3, key _ _ hsB q4, key _ _ hsB q5, key _ _ hsB q6, key _ _ hsB q7, key _ _ hsB q8, key _ _ hsB q9, key _ _ hsB q10, key _ _ hsB q11⟩, hsn⟩
  intro j hj
  obtain ⟨b, off, e, hc⟩ := hr j hj
  exact ⟨b, off, e, key _ _ (by have := hab _ e (by omega); simp only at this ⊢; omega) hc⟩
theorem Kpr.of {g B : Nat} {a : Option Addr} {cap : Nat} {l : List Nat} {A A' : World} (hb : Below B A A') (hg : g < B) (hab : ∀ b, a = some b → 0 < l.length → b.block < g) (hs : 0 < g) : Kpr g a cap l A A' := fun _ _ h => h.belowB hb hg hab hs
theorem putBelow (W : World) (j B : Nat) (o : Obj) (h : B ≤ j) : Below B W (W.putObj j o) := ⟨rfl, rfl, rfl, by simp, fun _ hk => World.putObj_heap_other (by omega)⟩
/-- what has been laid so far, in the box behind the reader's -/
def IRd (w0 : World) (pre : List Int) (W : World) : Prop :=
  (∃ (ps : List Nat) (ao : Option Addr) (c : Nat), (∀ p ∈ ps, Pt p) ∧ pre = ps.map (fun p => ((p : Nat) : Int)) ∧ W.cell? ⟨w0.heap.size + 1, 0, none⟩ = some (.slice ao (encL ps).length c) ∧ W.frozen? ⟨w0.heap.size + 1, 0, none⟩ = false ∧ Own W (w0.heap.size + 2) 5 .u8 ao c (encL ps) ∧ w0.heap.size + 2 ≤ W.heap.size) ∧ Below w0.heap.size w0 W
theorem IRd.own (w0 : World) : OwnFrom (w0.heap.size + 2) (IRd w0) := by
  refine OwnFrom.and (Own.from ?_ _) (ownFrom_below (Nat.le_refl _) (by omega))
  rintro s A B row ⟨ps, ao, c, h1, h2, h3, h4, h5, h6⟩ hg hr
  refine ⟨ps, ao, c, h1, h2, cell_kept h3 hg hr, (frozen_kept h3 hg hr).trans h4, ?_, Nat.le_trans h6 hg.size⟩
  refine World.ownsRow.kept h5 hg ?_
  rcases h5.2 with ⟨e, _⟩ | ⟨g', cap', cur, e, _, hgo, _⟩
  · simp only [Value.slice.injEq] at e
    rw [e.1]; exact .inl rfl
  · right
    intro e2
    simp only [Value.slice.injEq] at e
    rw [e.1] at e2
    obtain ⟨o, ho, hc⟩ := hr g' (by rw [← e2]; rfl)
    rw [hgo] at ho
    cases ho; cases hc
theorem IRd.gb {w0 : World} {pre : List Int} {A B : World} (h : IRd w0 pre A) (hg : A.grownBy B (some w0.heap.size)) : IRd w0 pre B := by
  obtain ⟨⟨ps, ao, c, h1, h2, h3, h4, h5, h6⟩, h7⟩ := h
  refine ⟨⟨ps, ao, c, h1, h2, ?_, ?_, h5.gb hg (h5.apart (by omega)), Nat.le_trans h6 hg.size⟩, h7.grown hg (by omega) (fun k e => by cases e; exact Nat.le_refl _)⟩
  · exact hg.cell h3 (by simp)
  · rw [World.frozen?_of_block (w := A) (hg.block (w0.heap.size + 1) (by omega) (by simp))]; exact h4
def ResRd (l : List Nat) (w : World) (r : Ending) (w' : World) : Prop :=
  ∃ ps k err, (∀ p ∈ ps, Pt p) ∧ Fin l (ps.map (fun p => ((p : Nat) : Int))) k err ∧ r = .returned (.tuple #[.string (if err = 0 then tx (encL ps) else ⟨#[]⟩), .int .i64 (k : Nat), .int .i64 (err : Nat)]) ∧ Below w.heap.size w w'
set_option maxRecDepth 100000 in
set_option maxHeartbeats 4000000 in
theorem Read_any (a : Option Addr) (cap : Nat) (l : List Nat) (w : World) (hl : l.length ≤ 140737488353000) (hlo : LM.Lo 256 l) (hrd : Rd w .u8 a l) (ht : Sh w) (hcp : l.length ≤ cap) :
    Calls Tryz.prog 71 #[.slice a l.length cap] w (ResRd l w) := by
  have hab : ∀ b, a = some b → 0 < l.length → b.block < w.heap.size := by
    intro b hb hp
    obtain ⟨b', off, e, hc⟩ := hrd 0 hp
    rw [hb] at e; cases e
    exact lt_of_cell hc
  have hs : 0 < w.heap.size := lt_of_cell ht.1
  have HAB := Lib.hid hab; have HT := Lib.hid ht
  obtain ⟨V, hV⟩ : ∃ V, V = (w.alloc (.cells #[.slice a l.length cap, .int .i64 0, .int .i64 0] 111)).alloc (.cells #[.slice none 0 0] 52) := ⟨_, rfl⟩
  have zV : V.heap.size = w.heap.size + 2 := by rw [hV]; simp
  have bV : Below w.heap.size w V := by rw [hV]; exact ((Below.refl _ _).alloc (Nat.le_refl _) _).alloc (by simp) _
  have rV : RB V w.heap.size a cap l 0 0 := by
    refine ⟨by rw [hV]; simp, by rw [hV]; simp, by rw [hV]; simp, fun j => by rw [hV]; simp, hrd.below bV, ?_, Nat.zero_le _, hl, hlo, hcp, ht.below bV, by omega⟩
    intro hp b off e e2
    have := hrd.slot hp b off e
    omega
  have cV : V.cell? ⟨w.heap.size + 1, 0, none⟩ = some (.slice none 0 0) := by rw [hV]; simp
  have fV : V.frozen? ⟨w.heap.size + 1, 0, none⟩ = false := by rw [hV]; simp
  have iV : IRd w [] V := ⟨⟨[], none, 0, by simp, rfl, cV, fV, Own.nilNone _ _ _ _, by omega⟩, bV⟩
  refine callsIn_wide.1 (callsIn_of_wp_marks (n := 3) Tryz.func71 rfl trivial ?_ rfl)
  refine wpIn_wide.2 ?_
  simp only [Tryz.ntmps71, List.size_toArray, List.length_cons, List.length_nil, Nat.reduceAdd, Nat.reduceSub, Array.replicate_succ, Array.replicate_zero, List.push_toArray, List.append_toArray, List.nil_append, List.cons_append]
  have HV := Lib.hid hV; have HRV := Lib.hid rV; have HIV := Lib.hid iV
  clear hV rV iV cV fV bV hab
  go_wp2_with fail
  rw [← HV.out]
  refine (wpIn_wide (n := 3)).1 ?_
  refine range_st (n := 3) rfl (by omega) (gf := 81) (fa := #[.pointer (some ⟨w.heap.size, 0, none⟩)]) (lb := #[]) rfl trivial (enters_of Tryz.func81 (by kernel_rfl) rfl)
    (points_gives w.heap.size a cap l V) (fun _ => rfl)
    (fun r => HRV.out.below (((Below.refl _ _).alloc (Nat.le_refl _) _).alloc (by simp) _)) (fun A B hg => KeepsFrom.of_grownBy hg (fun j e => by cases e; omega))
    (fun A B C h1 h2 k err r => h2 k err (h1 k err r)) (fun W o o' _ _ => Kpr.of (putBelow W _ (w.heap.size + 1) o' (by omega)) (by omega) HAB.out hs)
    (IRd w) (fun _ _ => False) (by rw [zV]; exact IRd.own w) (fun _ _ _ _ h _ _ => h) (fun s A B h hg => h.gb hg) (fun _ _ _ h _ => h)
    HIV.out ?a1 ?assign ?body ?done ?stop
  case assign =>
    intro l x W K hK
    gi_wp2
    exact hK
  case body =>
    rintro lp pre x W ⟨⟨p, hp, rfl⟩, _, hwd⟩ ⟨⟨ps, ao, c, hps, rfl, hc, hf, ho, hsz⟩, hb⟩
    have hel : (encL ps).length + (enc p).length ≤ l.length := by
      have := hwd (ps ++ [p]) (by simp)
      rwa [encL_append, encL_one, List.length_append] at this
    clear hwd
    have HP := Lib.hid ((callsIn_wide (n := 0)).2 (putPoint_any p (w.heap.size + 2) ao c (encL ps) W hp (HT.out.below hb) hsz (by omega) ho))
    have HO := Lib.hid ho; have HB := Lib.hid hb
    clear ho hb
    gi_wp2
    refine ⟨trivial, (HP.out.inRound lp).mono ?_⟩
    rintro e A ⟨a2, c2, rfl, o2, b2, k2⟩
    have hc2 : A.cell? ⟨w.heap.size + 1, 0, none⟩ = some (.slice ao (encL ps).length c) := by rw [b2.cell (by simp)]; exact hc
    have hf2 : A.frozen? ⟨w.heap.size + 1, 0, none⟩ = false := by rw [b2.frozen (by simp)]; exact hf
    have O2 := Lib.hid o2; have B2 := Lib.hid b2; have K2 := Lib.hid k2
    clear o2 b2 k2
    gi_wp2
    have hB3 := (B2.out.mono (Nat.le_succ _)).setCell (p := ⟨w.heap.size + 1, 0, none⟩) (Nat.le_refl _) (Value.slice a2 ((encL ps).length + (enc p).length) c2)
    refine ⟨(K2.out.trans (KeepsOthers.setCell _ _ _)).from _, Kpr.of hB3 (by omega) HAB.out hs, ⟨⟨ps ++ [p], a2, c2, ?_, by simp, ?_, ?_, ?_, ?_⟩, HB.out.trans (hB3.mono (Nat.le_succ _))⟩⟩
    · intro q hq
      rcases List.mem_append.1 hq with h | h
      · exact hps q h
      · rw [List.mem_singleton.1 h]; exact hp
    · rw [encL_append, encL_one, List.length_append]
      exact World.cell?_setCell_same' _ _ _ (by rw [hc2]; rfl)
    · rw [World.frozen?_setCell]; exact hf2
    · rw [encL_append, encL_one]
      exact O2.out.gb (gb_set (gb_refl A (some (w.heap.size + 1))) 0 _) (O2.out.apart (by omega))
    · exact Nat.le_trans hsz hB3.size
  case done =>
    rintro D ys W0 W r hD ⟨k, err, hfin, hrb⟩ ⟨⟨ps, ao, c, hps, rfl, hc, hf, ho, hsz⟩, hb⟩ hW hK
    have hRB : RB W w.heap.size a cap l k err := by rw [hW]; exact hrb.belowB (putBelow W0 _ (w.heap.size + 1) _ (by omega)) (by omega) HAB.out hs
    obtain ⟨q0, q1, q2, qf, _⟩ := hRB
    clear hW hrb
    have HF := Lib.hid hfin
    clear hfin
    have HPS := Lib.hid hps
    by_cases he : err = 0
    · have hcv := fun n => conv_tx (P := Tryz.prog) (W.drewN n) 52 9 5 _ c ao (encL ps) (encL ps).length Tryz.underlying52 Tryz.underlying5 Tryz.underlying9 (ho.dN n) (encL_lo hps) rfl
      have hR : ∀ n, ResRd l w (.returned (.tuple #[.string (tx (encL ps)), .int .i64 (k : Nat), .int .i64 0])) ((W.drewN n).putObj D (.deferred none)) := by
        intro n
        refine ⟨ps, k, err, hps, HF.out, by rw [if_pos he, he]; rfl, (bdN hb n).trans (putBelow _ D _ _ (by omega))⟩
      have HR := Lib.hid hR
      subst he
      clear hR hps ho
      go_wp2
      go_quiet (fail)
      go_wp2
      refine ⟨by simp, .inl ⟨_, _, rfl, run_takeDeferred hK, ?_⟩⟩
      exact ⟨.tuple #[.string (tx (encL ps)), .int .i64 (k : Nat), .int .i64 0], by simp [results, Tryz.results71, go_sem], HR.out _⟩
    · have t0 : ((err : Int) != 0) = true := by simp [he]
      have hR : ∀ n, ResRd l w (.returned (.tuple #[.string ⟨#[]⟩, .int .i64 (k : Nat), .int .i64 (err : Nat)])) ((W.drewN n).putObj D (.deferred none)) := by
        intro n
        refine ⟨ps, k, err, hps, HF.out, by rw [if_neg he], (bdN hb n).trans (putBelow _ D _ _ (by omega))⟩
      have HR := Lib.hid hR
      clear hR hps ho he
      go_wp2
      go_quiet (fail)
      go_wp2
      refine ⟨by simp, .inl ⟨_, _, rfl, run_takeDeferred hK, ?_⟩⟩
      exact ⟨.tuple #[.string ⟨#[]⟩, .int .i64 (k : Nat), .int .i64 (err : Nat)], by simp [results, Tryz.results71, go_sem], HR.out _⟩
  case stop =>
    rintro D pre W0 W r _ _ h _ _
    exact h.elim
end Go.Proofs.YtpgiljibicigeaaGreatDoor

/- quote: what Read tells, determined by the bytes. -/
namespace Go.Proofs.YtpgiljibicigeaaGreatDoor
open Go.RowKit UM QM

/-- what is told from a place on, where it ends, with which error -/
inductive Tl (l : List Nat) : Nat → List Int → Nat → Nat → Prop
  | stop {k : Nat} (h : pk l k = 34) : Tl l k [] (k + 1) 0
  | bad {k : Nat} (h : pk l k ≠ 34) (h2 : (pieceF l k).2.1 = false) : Tl l k [] (pieceF l k).2.2 (faultF l (pieceF l k).2.2)
  | go {k : Nat} {xs : List Int} {e err : Nat} (h : pk l k ≠ 34) (h2 : (pieceF l k).2.1 = true) (t : Tl l (pieceF l k).2.2 xs e err) : Tl l k ((pieceF l k).1 :: xs) e err
theorem Tl.det {l : List Nat} {k : Nat} {xs : List Int} {e err : Nat} (h : Tl l k xs e err) : ∀ {xs' : List Int} {e' err' : Nat}, Tl l k xs' e' err' → xs = xs' ∧ e = e' ∧ err = err' := by
  induction h with
  | stop h =>
    intro xs' e' err' t
    cases t with
    | stop _ => exact ⟨rfl, rfl, rfl⟩
    | bad h' _ => exact absurd h h'
    | go h' _ _ => exact absurd h h'
  | bad h h2 =>
    intro xs' e' err' t
    cases t with
    | stop h' => exact absurd h' h
    | bad _ _ => exact ⟨rfl, rfl, rfl⟩
    | go _ h' _ => rw [h2] at h'; cases h'
  | go h h2 _ ih =>
    intro xs' e' err' t
    cases t with
    | stop h' => exact absurd h' h
    | bad _ h' => rw [h2] at h'; cases h'
    | go _ _ t' =>
      obtain ⟨r1, r2, r3⟩ := ih t'
      exact ⟨by rw [r1], r2, r3⟩
theorem Tl.of {l : List Nat} {pre : List Int} {j : Nat} (h : Rch l pre j) : pk l 0 = 34 ∧ ∀ {xs : List Int} {e err : Nat}, Tl l j xs e err → Tl l 1 (pre ++ xs) e err := by
  induction h with
  | start h => exact ⟨h, fun t => t⟩
  | step _ h1 h2 ih =>
    refine ⟨ih.1, fun {xs e err} t => ?_⟩
    have := ih.2 (Tl.go h1 h2 t)
    simpa using this
/-- what Read tells -/
def RdR (l : List Nat) (xs : List Int) (k err : Nat) : Prop := (pk l 0 ≠ 34 ∧ xs = [] ∧ k = 0 ∧ err = faultF l 0) ∨ (pk l 0 = 34 ∧ Tl l 1 xs k err)
theorem RdR.of {l : List Nat} {xs : List Int} {k err : Nat} (h : Fin l xs k err) : RdR l xs k err := by
  rcases h with h | ⟨j, hr, hp, rfl, rfl⟩ | ⟨j, hr, hp, hb, rfl, rfl⟩
  · exact .inl h
  · have := (Tl.of hr).2 (Tl.stop hp)
    rw [List.append_nil] at this
    exact .inr ⟨(Tl.of hr).1, this⟩
  · have := (Tl.of hr).2 (Tl.bad hp hb)
    rw [List.append_nil] at this
    exact .inr ⟨(Tl.of hr).1, this⟩
theorem RdR.det {l : List Nat} {xs xs' : List Int} {k err k' err' : Nat} (h : RdR l xs k err) (h' : RdR l xs' k' err') : xs = xs' ∧ k = k' ∧ err = err' := by
  rcases h with ⟨p, rfl, rfl, rfl⟩ | ⟨p, t⟩
  · rcases h' with ⟨_, rfl, rfl, rfl⟩ | ⟨p', _⟩
    · exact ⟨rfl, rfl, rfl⟩
    · exact absurd p' p
  · rcases h' with ⟨p', _⟩ | ⟨_, t'⟩
    · exact absurd p p'
    · exact t.det t'
def toI (ps : List Nat) : List Int := ps.map (fun p => ((p : Nat) : Int))
end Go.Proofs.YtpgiljibicigeaaGreatDoor

/- quote: what was written is read back. -/
namespace Go.Proofs.YtpgiljibicigeaaGreatDoor
open Go.RowKit UM QM

theorem pk_of {l r : List Nat} {k c : Nat} (h : l.drop k = c :: r) : pk l k = (c : Nat) := by
  have hk : k < l.length := by
    rcases Nat.lt_or_ge k l.length with h' | h'
    · exact h'
    · rw [List.drop_of_length_le h'] at h; cases h
  unfold pk
  rw [if_pos hk]
  have e := List.drop_eq_getElem_cons hk
  rw [h] at e
  have e1 := (List.cons.inj e).1
  simp [hk, e1]
theorem drop_next {l r : List Nat} {k c : Nat} (h : l.drop k = c :: r) : l.drop (k + 1) = r := by
  rw [← List.drop_drop, h]; rfl
theorem piece_esc {l : List Nat} {k : Nat} (h : pk l k = 92) : pieceF l k = escF l (k + 1) := by
  unfold pieceF
  rw [h]
  rfl
end Go.Proofs.YtpgiljibicigeaaGreatDoor

/- quote: Plain walked. -/
namespace Go.Proofs.YtpgiljibicigeaaGreatDoor
open Go.RowKit UM QM

end Go.Proofs.YtpgiljibicigeaaGreatDoor

/- quote: Is walked. -/
namespace Go.Proofs.YtpgiljibicigeaaGreatDoor
open Go.RowKit UM QM

attribute [local go_sem] Oper.semAt_some
theorem Tl.ex (l : List Nat) : ∀ (n j : Nat), l.length + 1 - j ≤ n → ∃ xs e err, Tl l j xs e err := by
  intro n
  induction n with
  | zero =>
    intro j hj
    by_cases h : pk l j = 34
    · exact ⟨_, _, _, Tl.stop h⟩
    · by_cases h2 : (pieceF l j).2.1 = true
      · have := pk_ne h2; omega
      · exact ⟨_, _, _, Tl.bad h (by simpa using h2)⟩
  | succ n ih =>
    intro j hj
    by_cases h : pk l j = 34
    · exact ⟨_, _, _, Tl.stop h⟩
    · by_cases h2 : (pieceF l j).2.1 = true
      · have := piece_adv h2 (pk_ne h2)
        obtain ⟨xs, e, err, t⟩ := ih (pieceF l j).2.2 (by omega)
        exact ⟨_, _, _, Tl.go h h2 t⟩
      · exact ⟨_, _, _, Tl.bad h (by simpa using h2)⟩
theorem frz_gb {A B : World} {r : Nat} {p : Addr} {v : Value} (h : A.cell? p = some v) (hf : A.frozen? p = false) (hg : A.grownBy B (some r)) (hne : p.block ≠ r) : B.frozen? p = false := by
  rw [World.frozen?_of_block (w := A) (hg.block p.block (lt_of_cell h) (by simpa using hne))]; exact hf
end Go.Proofs.YtpgiljibicigeaaGreatDoor

/- quote: Is walked. -/
namespace Go.Proofs.YtpgiljibicigeaaGreatDoor
open Go.RowKit UM QM

attribute [local go_sem] Oper.semAt_some
theorem cell_new {W : World} {C : Array Value} {t : TypeId} {b j : Nat} (hb : b = W.heap.size) : (W.alloc (.cells C t)).cell? ⟨b, j, none⟩ = C[j]? := by subst hb; exact World.cell?_alloc_mark W C t (0, 0) j
theorem cell_old {W : World} {o : Obj} {p : Addr} (h : p.block < W.heap.size) : (W.alloc o).cell? p = W.cell? p := ((Below.refl W.heap.size W).alloc (Nat.le_refl _) o).cell h
theorem frz_new {W : World} {C : Array Value} {t : TypeId} {b j : Nat} (hb : b = W.heap.size) : (W.alloc (.cells C t)).frozen? ⟨b, j, none⟩ = false := by subst hb; simp
theorem frz_old {W : World} {o : Obj} {p : Addr} (h : p.block < W.heap.size) : (W.alloc o).frozen? p = W.frozen? p := ((Below.refl W.heap.size W).alloc (Nat.le_refl _) o).frozen h
end Go.Proofs.YtpgiljibicigeaaGreatDoor

/- quote: the bytes of a text as an argument. -/
namespace Go.Proofs.YtpgiljibicigeaaGreatDoor
open Go.RowKit UM QM

section
variable (W : World) (e : TypeId) (q : List Nat)
theorem bw_below (s : ByteArray) : Below W.heap.size W (Lib.bytesWorld W e s) :=
  ⟨rfl, rfl, rfl, by rw [Lib.bytesWorld_size]; omega, fun k hk => Lib.bytesWorld_at_old W e s k hk⟩
theorem bw_rd (hq : ∀ x ∈ q, x < 256) : Rd (Lib.bytesWorld W e (tx q)) .u8 (some ⟨W.heap.size, 0, none⟩) q := by
  refine Rd.mk fun j hj => ?_
  rw [Nat.zero_add, Lib.bytesWorld_cell W e (tx q) j (by rw [tx_size]; exact hj)]
  have h4 : q[j]?.getD 0 < 256 := by rw [List.getElem?_eq_getElem hj]; exact hq _ (List.getElem_mem hj)
  have : ((tx q).data.toList.getD j 0).toNat = q[j]?.getD 0 := by
    rw [tx_list, List.getD_eq_getElem?_getD, List.getElem?_map, List.getElem?_eq_getElem hj]
    show (UInt8.ofNat q[j]).toNat = q[j]
    rw [UInt8.toNat_ofNat', Nat.mod_eq_of_lt (hq _ (List.getElem_mem hj))]
  rw [this]
theorem bw_cap (n : Nat) : n ≤ grownCap W n 0 e := grownCap_ge W n 0 e
end
theorem conv_bw (W : World) (q : List Nat) : (convert 9 52 (.string (tx q))).run Tryz.prog W = .ok (.slice (some ⟨W.heap.size, 0, none⟩) q.length (grownCap W q.length 0 5)) (Lib.bytesWorld W 5 (tx q)) := by
  have h := Lib.run_convert_string_bytes (P := Tryz.prog) W 9 52 5 (tx q) Tryz.underlying9 Tryz.underlying52 Tryz.underlying5
  rw [tx_size] at h
  exact h
end Go.Proofs.YtpgiljibicigeaaGreatDoor

/- quote: what Read tells of a beginning. -/
namespace Go.Proofs.YtpgiljibicigeaaGreatDoor
open Go.RowKit UM QM

theorem piece_ge {l : List Nat} {k : Nat} : k ≤ (pieceF l k).2.2 := by
  have h1 := esc_ge l (k + 1)
  unfold pieceF pointF
  by_cases c1 : QM.pk l k < 32
  · rw [if_pos c1]; exact Nat.le_refl _
  rw [if_neg c1]
  have hk : k < l.length := pk_pos (by omega)
  repeat' split
  all_goals (try simp only)
  all_goals omega
theorem Tl.le {l : List Nat} {k : Nat} {xs : List Int} {e err : Nat} (t : Tl l k xs e err) : k ≤ e := by
  induction t with
  | stop h => exact Nat.le_succ _
  | bad h h2 => exact piece_ge
  | go h h2 t ih => exact Nat.le_trans piece_ge ih
theorem fault_ne (l : List Nat) (k : Nat) : faultF l k ≠ 0 := by
  unfold faultF
  repeat' split
  all_goals decide
end Go.Proofs.YtpgiljibicigeaaGreatDoor

/- quote: what Read tells of the bytes up to a fault. -/
namespace Go.Proofs.YtpgiljibicigeaaGreatDoor
open Go.RowKit UM QM

theorem low_end (l : List Nat) (u : Nat) (h : (lowF l u).2.1 = true) : (lowF l u).2.2 ≤ l.length := by
  unfold lowF at h ⊢
  by_cases d1 : pk l u ≠ 92
  · rw [if_pos d1] at h; cases h
  rw [if_neg d1] at h ⊢
  by_cases d2 : pk l (u + 1) ≠ 117
  · rw [if_pos d2] at h; cases h
  rw [if_neg d2] at h ⊢
  have := pk_pos (l := l) (k := u + 1) (by have := Decidable.not_not.1 d2; omega)
  exact (unitF_at (l := l) (n := 4) (k := u + 2) (h := 0) (by omega)).2
end Go.Proofs.YtpgiljibicigeaaGreatDoor

/- quote: a text in quotes is read alike, whatever stands behind it. -/
namespace Go.Proofs.YtpgiljibicigeaaGreatDoor
open Go.RowKit UM QM

theorem unit_dig {l : List Nat} : ∀ {m k x : Nat}, (unitF l m k x).2.1 = true → (unitF l m k x).2.2 = k + m ∧ ∀ i, i < m → dgv (pk l (k + i)) ≠ none := by
  intro m
  induction m with
  | zero => intro k x _; exact ⟨rfl, fun i h => by omega⟩
  | succ m ih =>
    intro k x h1
    simp only [unitF] at h1 ⊢
    cases hd : dgv (pk l k) with
    | none => rw [hd] at h1; cases h1
    | some d =>
      rw [hd] at h1
      simp only at h1 ⊢
      obtain ⟨e1, e2⟩ := ih h1
      refine ⟨by omega, fun i hi => ?_⟩
      rcases Nat.eq_zero_or_pos i with rfl | h0
      · rw [Nat.add_zero, hd]; simp
      · have := e2 (i - 1) (by omega)
        rwa [show k + 1 + (i - 1) = k + i by omega] at this
end Go.Proofs.YtpgiljibicigeaaGreatDoor

/- 'append(l, more...)': l the call's own, more a slice that came in. -/
namespace Go.Proofs.YtpgiljibicigeaaGreatDoor
open Go.RowKit UM QM

section
variable {P : Program} {ops : Array Oper} {rest : List Oper} {o : Oper} {a : Act} {Q : Exit → Act → World → Prop}
end
theorem coded_le {l : List Nat} {k : Nat} (hk : k ≤ l.length) : (codedF l k).2.2 ≤ l.length := by
  have hu : (un l k).2.2 ≤ l.length := (unitF_at hk).2
  unfold codedF
  by_cases c0 : (un l k).2.1 = false
  · rw [if_pos c0]; exact hu
  rw [if_neg c0]
  by_cases c1 : (un l k).1 < 55296 ∨ 57343 < (un l k).1
  · rw [if_pos c1]; exact hu
  rw [if_neg c1]
  by_cases c2 : 56320 ≤ (un l k).1
  · rw [if_pos c2]; exact hu
  rw [if_neg c2]
  by_cases c3 : (lowF l (un l k).2.2).2.1 = true
  · rw [if_pos c3]; exact low_end l _ c3
  · rw [if_neg c3]; exact hu
theorem esc_le {l : List Nat} {k : Nat} (hk : k ≤ l.length) : (escF l k).2.2 ≤ l.length := by
  unfold escF
  by_cases h : pk l k = -1
  · rw [h]; exact hk
  have h1 := pk_pos h
  have h2 := coded_le (l := l) (k := k + 1) h1
  repeat' split
  all_goals (try simp only)
  all_goals omega
theorem piece_le {l : List Nat} {k : Nat} (hk : k ≤ l.length) : (pieceF l k).2.2 ≤ l.length := by
  unfold pieceF
  by_cases c1 : pk l k < 32
  · rw [if_pos c1]; exact hk
  rw [if_neg c1]
  have h1 : k < l.length := pk_pos (by omega)
  by_cases c2 : 127 < pk l k
  · rw [if_pos c2]
    unfold pointF
    by_cases c3 : (dcd ((l.drop k).take 4)).2.2 = true
    · rw [if_pos c3]
      rcases dcd_cases ((l.drop k).take 4) with ⟨p, t, hp, e1, e⟩ | ⟨_, e⟩ | ⟨_, e⟩
      · rw [e]
        have := congrArg List.length e1
        rw [List.length_append, enc_len, List.length_take, List.length_drop] at this
        simp only; omega
      · rw [e] at c3; cases c3
      · rw [e] at c3; cases c3
    rw [if_neg c3]
    by_cases c4 : cutB ((l.drop k).take 4) = true
    · rw [if_pos c4]; exact Nat.le_refl _
    · rw [if_neg c4]; exact hk
  rw [if_neg c2]
  by_cases c3 : pk l k = 92
  · rw [if_pos c3]; exact esc_le h1
  · rw [if_neg c3]; exact h1
theorem Tl.fin {l : List Nat} {k : Nat} {xs : List Int} {e err : Nat} (t : Tl l k xs e err) (hk : k ≤ l.length) : e ≤ l.length := by
  induction t with
  | stop hp => exact pk_pos (by rw [hp]; decide)
  | bad h h2 => exact piece_le hk
  | go hp h2 t ih => exact ih (piece_le hk)
theorem RdR.fin {l : List Nat} {xs : List Int} {n err : Nat} (h : RdR l xs n err) : n ≤ l.length := by
  rcases h with ⟨_, _, rfl, _⟩ | ⟨p, t⟩
  · exact Nat.zero_le _
  · exact t.fin (pk_pos (by rw [p]; decide))
end Go.Proofs.YtpgiljibicigeaaGreatDoor
