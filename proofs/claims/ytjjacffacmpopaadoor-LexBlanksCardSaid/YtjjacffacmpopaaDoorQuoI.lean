/- quote: Read walked. -/
import Derived.Shelf.Abstract
import Derived.Test.YtjjacffacmpopaaDoorQuoE
import Derived.Test.YtjjacffacmpopaaDoorQuoH
namespace Go.Proofs.YtjjacffacmpopaaDoor
open Go.RowKit UM QM

attribute [local go_sem] Oper.semAt_some
/-- below a block, what the reader's box holds stays -/
theorem RB.belowB {w w' : World} {g B : Nat} {a : Option Addr} {cap : Nat} {l : List Nat} {k err : Nat} (h : RB w g a cap l k err) (hb : Below B w w') (hg : g < B) (hab : ∀ b, a = some b → 0 < l.length → b.block < g) (hs : 1 < g) : RB w' g a cap l k err := by
  obtain ⟨h0, h1, h2, hf, hr, ha, hk, hl, hlo, hcp, ⟨q0, q1, q2, q3, q4, q5, q6, q7, q8, q9, q10, q11⟩, hsn⟩ := h
  have key : ∀ (p : Addr) (v : Value), p.block < B → w.cell? p = some v → w'.cell? p = some v := fun p v hp e => by rw [hb.cell hp]; exact e
  have hsB : 1 < B := Nat.lt_trans hs hg
  refine ⟨key _ _ hg h0, key _ _ hg h1, key _ _ hg h2, fun j => (hb.frozen (p := ⟨g, j, none⟩) hg).trans (hf j), ?_, ha, hk, hl, hlo, hcp, ⟨key _ _ hsB q0, key _ _ hsB q1, key _ _ hsB q2, key _ _ hsB q3, key _ _ hsB q4, key _ _ hsB q5, key _ _ hsB q6, key _ _ hsB q7, key _ _ hsB q8, key _ _ hsB q9, key _ _ hsB q10, key _ _ hsB q11⟩, hsn⟩
  intro j hj
  obtain ⟨b, off, e, hc⟩ := hr j hj
  exact ⟨b, off, e, key _ _ (by have := hab _ e (by omega); simp only at this ⊢; omega) hc⟩
theorem Kpr.of {g B : Nat} {a : Option Addr} {cap : Nat} {l : List Nat} {A A' : World} (hb : Below B A A') (hg : g < B) (hab : ∀ b, a = some b → 0 < l.length → b.block < g) (hs : 1 < g) : Kpr g a cap l A A' := fun _ _ h => h.belowB hb hg hab hs
theorem putBelow (W : World) (j B : Nat) (o : Obj) (h : B ≤ j) : Below B W (W.putObj j o) := ⟨rfl, rfl, rfl, by simp, fun _ hk => World.putObj_heap_other (by omega)⟩
/-- what has been laid so far, in the box behind the reader's -/
def IRd (w0 : World) (pre : List Int) (W : World) : Prop :=
  (∃ (ps : List Nat) (ao : Option Addr) (c : Nat), (∀ p ∈ ps, Pt p) ∧ pre = ps.map (fun p => ((p : Nat) : Int)) ∧ W.cell? ⟨w0.heap.size + 1, 0, none⟩ = some (.slice ao (encL ps).length c) ∧ W.frozen? ⟨w0.heap.size + 1, 0, none⟩ = false ∧ Own W (w0.heap.size + 2) 5 .u8 ao c (encL ps) ∧ w0.heap.size + 2 ≤ W.heap.size) ∧ Below w0.heap.size w0 W
theorem IRd.own (w0 : World) : OwnFrom (w0.heap.size + 2) (IRd w0) := by
  refine OwnFrom.and (Own.from ?_ _) (ownFrom_below (Nat.le_refl _) (by omega))
  rintro s A B row ⟨ps, ao, c, h1, h2, h3, h4, h5, h6⟩ hg hr
  refine ⟨ps, ao, c, h1, h2, cell_kept h3 hg hr, (frozen_kept h3 hg hr).trans h4, ?_, Nat.le_trans h6 hg.size⟩
  refine World.ownsRow.kept h5 hg ?_
  rcases h5.2 with ⟨e, _⟩ | ⟨g', cap', cur, e, _, hgo, _⟩
  · simp only [Value.slice.injEq] at e
    rw [e.1]; exact .inl rfl
  · right
    intro e2
    simp only [Value.slice.injEq] at e
    rw [e.1] at e2
    obtain ⟨o, ho, hc⟩ := hr g' (by rw [← e2]; rfl)
    rw [hgo] at ho
    cases ho; cases hc
theorem IRd.gb {w0 : World} {pre : List Int} {A B : World} (h : IRd w0 pre A) (hg : A.grownBy B (some w0.heap.size)) : IRd w0 pre B := by
  obtain ⟨⟨ps, ao, c, h1, h2, h3, h4, h5, h6⟩, h7⟩ := h
  refine ⟨⟨ps, ao, c, h1, h2, ?_, ?_, h5.gb hg (h5.apart (by omega)), Nat.le_trans h6 hg.size⟩, h7.grown hg (by omega) (fun k e => by cases e; exact Nat.le_refl _)⟩
  · exact hg.cell h3 (by simp)
  · rw [World.frozen?_of_block (w := A) (hg.block (w0.heap.size + 1) (by omega) (by simp))]; exact h4
def ResRd (l : List Nat) (w : World) (r : Ending) (w' : World) : Prop :=
  ∃ ps k err, (∀ p ∈ ps, Pt p) ∧ Fin l (ps.map (fun p => ((p : Nat) : Int))) k err ∧ r = .returned (.tuple #[.string (if err = 0 then tx (encL ps) else ⟨#[]⟩), .int .i64 (k : Nat), .int .i64 (err : Nat)]) ∧ Below w.heap.size w w'
set_option maxRecDepth 100000 in
set_option maxHeartbeats 4000000 in
theorem Read_any (a : Option Addr) (cap : Nat) (l : List Nat) (w : World) (hl : l.length ≤ 140737488353000) (hlo : LM.Lo 256 l) (hrd : Rd w .u8 a l) (ht : Sh w) (hcp : l.length ≤ cap) :
    Calls Tryd.prog 50 #[.slice a l.length cap] w (ResRd l w) := by
  have hab : ∀ b, a = some b → 0 < l.length → b.block < w.heap.size := by
    intro b hb hp
    obtain ⟨b', off, e, hc⟩ := hrd 0 hp
    rw [hb] at e; cases e
    exact lt_of_cell hc
  have hs : 1 < w.heap.size := lt_of_cell ht.1
  have HAB := Lib.hid hab; have HT := Lib.hid ht
  obtain ⟨V, hV⟩ : ∃ V, V = (w.alloc (.cells #[.slice a l.length cap, .int .i64 0, .int .i64 0] 73)).alloc (.cells #[.slice none 0 0] 38) := ⟨_, rfl⟩
  have zV : V.heap.size = w.heap.size + 2 := by rw [hV]; simp
  have bV : Below w.heap.size w V := by rw [hV]; exact ((Below.refl _ _).alloc (Nat.le_refl _) _).alloc (by simp) _
  have rV : RB V w.heap.size a cap l 0 0 := by
    refine ⟨by rw [hV]; simp, by rw [hV]; simp, by rw [hV]; simp, fun j => by rw [hV]; simp, hrd.below bV, ?_, Nat.zero_le _, hl, hlo, hcp, ht.below bV, by omega⟩
    intro hp b off e e2
    have := hrd.slot hp b off e
    omega
  have cV : V.cell? ⟨w.heap.size + 1, 0, none⟩ = some (.slice none 0 0) := by rw [hV]; simp
  have fV : V.frozen? ⟨w.heap.size + 1, 0, none⟩ = false := by rw [hV]; simp
  have iV : IRd w [] V := ⟨⟨[], none, 0, by simp, rfl, cV, fV, Own.nilNone _ _ _ _, by omega⟩, bV⟩
  refine callsIn_wide.1 (callsIn_of_wp_marks (n := 3) Tryd.func50 rfl trivial ?_ rfl)
  refine wpIn_wide.2 ?_
  simp only [Tryd.ntmps50, List.size_toArray, List.length_cons, List.length_nil, Nat.reduceAdd, Nat.reduceSub, Array.replicate_succ, Array.replicate_zero, List.push_toArray, List.append_toArray, List.nil_append, List.cons_append]
  have HV := Lib.hid hV; have HRV := Lib.hid rV; have HIV := Lib.hid iV
  clear hV rV iV cV fV bV hab
  go_wp2_with fail
  rw [← HV.out]
  refine (wpIn_wide (n := 3)).1 ?_
  refine range_st (n := 3) rfl (by omega) (gf := 58) (fa := #[.pointer (some ⟨w.heap.size, 0, none⟩)]) (lb := #[]) rfl trivial (enters_of Tryd.func58 (by kernel_rfl) rfl)
    (points_gives w.heap.size a cap l V) (fun _ => rfl)
    (fun r => HRV.out.below (((Below.refl _ _).alloc (Nat.le_refl _) _).alloc (by simp) _)) (fun A B hg => KeepsFrom.of_grownBy hg (fun j e => by cases e; omega))
    (fun A B C h1 h2 k err r => h2 k err (h1 k err r)) (fun W o o' _ _ => Kpr.of (putBelow W _ (w.heap.size + 1) o' (by omega)) (by omega) HAB.out hs)
    (IRd w) (fun _ _ => False) (by rw [zV]; exact IRd.own w) (fun _ _ _ _ h _ _ => h) (fun s A B h hg => h.gb hg) (fun _ _ _ h _ => h)
    HIV.out ?a1 ?assign ?body ?done ?stop
  case assign =>
    intro l x W K hK
    gi_wp2
    exact hK
  case body =>
    rintro lp pre x W ⟨⟨p, hp, rfl⟩, _, hwd⟩ ⟨⟨ps, ao, c, hps, rfl, hc, hf, ho, hsz⟩, hb⟩
    have hel : (encL ps).length + (enc p).length ≤ l.length := by
      have := hwd (ps ++ [p]) (by simp)
      rwa [encL_append, encL_one, List.length_append] at this
    clear hwd
    have HP := Lib.hid ((callsIn_wide (n := 0)).2 (putPoint_any p (w.heap.size + 2) ao c (encL ps) W hp (HT.out.below hb) hsz (by omega) ho))
    have HO := Lib.hid ho; have HB := Lib.hid hb
    clear ho hb
    gi_wp2
    refine ⟨trivial, (HP.out.inRound lp).mono ?_⟩
    rintro e A ⟨a2, c2, rfl, o2, b2, k2⟩
    have hc2 : A.cell? ⟨w.heap.size + 1, 0, none⟩ = some (.slice ao (encL ps).length c) := by rw [b2.cell (by simp)]; exact hc
    have hf2 : A.frozen? ⟨w.heap.size + 1, 0, none⟩ = false := by rw [b2.frozen (by simp)]; exact hf
    have O2 := Lib.hid o2; have B2 := Lib.hid b2; have K2 := Lib.hid k2
    clear o2 b2 k2
    gi_wp2
    have hB3 := (B2.out.mono (Nat.le_succ _)).setCell (p := ⟨w.heap.size + 1, 0, none⟩) (Nat.le_refl _) (Value.slice a2 ((encL ps).length + (enc p).length) c2)
    refine ⟨(K2.out.trans (KeepsOthers.setCell _ _ _)).from _, Kpr.of hB3 (by omega) HAB.out hs, ⟨⟨ps ++ [p], a2, c2, ?_, by simp, ?_, ?_, ?_, ?_⟩, HB.out.trans (hB3.mono (Nat.le_succ _))⟩⟩
    · intro q hq
      rcases List.mem_append.1 hq with h | h
      · exact hps q h
      · rw [List.mem_singleton.1 h]; exact hp
    · rw [encL_append, encL_one, List.length_append]
      exact World.cell?_setCell_same' _ _ _ (by rw [hc2]; rfl)
    · rw [World.frozen?_setCell]; exact hf2
    · rw [encL_append, encL_one]
      exact O2.out.gb (gb_set (gb_refl A (some (w.heap.size + 1))) 0 _) (O2.out.apart (by omega))
    · exact Nat.le_trans hsz hB3.size
  case done =>
    rintro D ys W0 W r hD ⟨k, err, hfin, hrb⟩ ⟨⟨ps, ao, c, hps, rfl, hc, hf, ho, hsz⟩, hb⟩ hW hK
    have hRB : RB W w.heap.size a cap l k err := by rw [hW]; exact hrb.belowB (putBelow W0 _ (w.heap.size + 1) _ (by omega)) (by omega) HAB.out hs
    obtain ⟨q0, q1, q2, qf, _⟩ := hRB
    clear hW hrb
    have HF := Lib.hid hfin
    clear hfin
    have HPS := Lib.hid hps
    by_cases he : err = 0
    · have hcv := fun n => conv_tx (P := Tryd.prog) (W.drewN n) 38 9 5 _ c ao (encL ps) (encL ps).length Tryd.underlying38 Tryd.underlying5 Tryd.underlying9 (ho.dN n) (encL_lo hps) rfl
      have hR : ∀ n, ResRd l w (.returned (.tuple #[.string (tx (encL ps)), .int .i64 (k : Nat), .int .i64 0])) ((W.drewN n).putObj D (.deferred none)) := by
        intro n
        refine ⟨ps, k, err, hps, HF.out, by rw [if_pos he, he]; rfl, (bdN hb n).trans (putBelow _ D _ _ (by omega))⟩
      have HR := Lib.hid hR
      subst he
      clear hR hps ho
      go_wp2
      go_quiet (fail)
      go_wp2
      refine ⟨by simp, .inl ⟨_, _, rfl, run_takeDeferred hK, ?_⟩⟩
      exact ⟨.tuple #[.string (tx (encL ps)), .int .i64 (k : Nat), .int .i64 0], by simp [results, Tryd.results50, go_sem], HR.out _⟩
    · have t0 : ((err : Int) != 0) = true := by simp [he]
      have hR : ∀ n, ResRd l w (.returned (.tuple #[.string ⟨#[]⟩, .int .i64 (k : Nat), .int .i64 (err : Nat)])) ((W.drewN n).putObj D (.deferred none)) := by
        intro n
        refine ⟨ps, k, err, hps, HF.out, by rw [if_neg he], (bdN hb n).trans (putBelow _ D _ _ (by omega))⟩
      have HR := Lib.hid hR
      clear hR hps ho he
      go_wp2
      go_quiet (fail)
      go_wp2
      refine ⟨by simp, .inl ⟨_, _, rfl, run_takeDeferred hK, ?_⟩⟩
      exact ⟨.tuple #[.string ⟨#[]⟩, .int .i64 (k : Nat), .int .i64 (err : Nat)], by simp [results, Tryd.results50, go_sem], HR.out _⟩
  case stop =>
    rintro D pre W0 W r _ _ h _ _
    exact h.elim
end Go.Proofs.YtjjacffacmpopaaDoor
