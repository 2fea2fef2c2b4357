/- Valid and Cmp of the program. -/
import Derived.Test.YtpgiljibicigeaaGreatDoorQuoCs
import Derived.Lib.IndexBytes
import Derived.Deep.RegionHeld3
import Derived.Deep.RegionWith
import Derived.Test.YtpgiljibicigeaaGreatDoorQuoDs
import Derived.Shelf.Abstract
set_option linter.unusedVariables false
set_option linter.unusedSimpArgs false
namespace Go.Proofs.YtpgiljibicigeaaGreatDoor
open Go.RowKit UM

theorem bl_extract (s : ByteArray) (k : Nat) : bl (s.extract k s.size) = (bl s).drop k := by
  unfold bl
  rw [Lib.extract_to_end, List.map_drop]
theorem extract_size (s : ByteArray) (k : Nat) : (s.extract k s.size).size = s.size - k := by
  have := bl_len (s.extract k s.size)
  rw [bl_extract, List.length_drop, bl_len] at this
  exact this.symm
theorem UI.dN {s : ByteArray} {B : Nat} {w0 : World} {K : Nat} {e : TypeId} {k : IntKind} {wr : World} {pos : Nat} {ao : Option Addr} {cap : Nat} {L : List Nat} (h : UI s B w0 K e k wr pos ao cap L) (n : Nat) : UI s B w0 K e k (wr.drewN n) pos ao cap L :=
  ⟨h.it, h.own.dN n, bdN h.bw n, h.kb, h.hB⟩
theorem ok_of_ne {l : List Nat} {c wd : Nat} {b : Bool} (h : dcd l = (c, wd, b)) (hc : c ≠ 65533) : b = true := by
  rcases dcd_cases l with ⟨p, t, _, _, e⟩ | ⟨_, e⟩ | ⟨_, e⟩ <;> rw [h] at e <;> simp only [Prod.mk.injEq] at e
  · exact e.2.2
  · exact absurd e.1 hc
  · exact absurd e.1 hc
def ResV (m : Nat) (w : World) (r : Ending) (w' : World) : Prop := r = .returned (.int .i64 m) ∧ Below w.heap.size w w'
set_option maxHeartbeats 4000000 in
theorem Valid_any (s : ByteArray) (w : World) (hs : s.size ≤ 140737488351232) (ht : Sh w) : Calls Tryz.prog 19 #[.string s] w (ResV (vd (bl s)) w) := by
  have HT := Lib.hid ht
  clear ht
  go_enter Tryz.func19, Tryz.ntmps19
  go_wp2
  go_loopw [] (fun wr => ∃ (pos : Nat), pos ≤ s.size ∧ UI s w.heap.size w w.heap.size 3 .i64 wr pos none 0 [] ∧ Hid (vd (bl s) = pos + vd ((bl s).drop pos))) (fun wr => s.size - wr.iterPos w.heap.size)
  case atStart =>
    exact ⟨0, Nat.zero_le _, ⟨World.iter_heap w s 0, Own.nilNone _ _ _ _, (Below.refl _ _).alloc (Nat.le_refl _) _, Nat.le_refl _, Nat.le_refl _⟩, Lib.hid (by simp)⟩
  case round =>
    obtain ⟨pos, hps, I, HX⟩ := hrel
    by_cases hp : pos < s.size
    · obtain ⟨c, wd, hd, hdd, hc, hw1, hw2, _, _⟩ := next_pt s pos hp
      have hnx : ∀ ty, (Instr.next (.pointer (some ⟨w.heap.size, 0, none⟩)) true ty).run Tryz.prog wr = _ := fun ty => Lib.run_next_any_at wr w.heap.size s pos ty I.it hp
      rw [hd.out] at hnx
      simp only at hnx
      have I2 := I.iter (pos + wd)
      have HIT := Lib.hid I.it
      have hgo : (dcd ((bl s).drop pos)).2.2 = true → vd (bl s) = (pos + wd) + vd ((bl s).drop (pos + wd)) := by
        intro h
        rw [HX.out, vd_go h, hdd.out]
        simp only
        rw [List.drop_drop]; omega
      have HGO := Lib.hid hgo
      clear hgo I
      by_cases hr : c = 65533
      · subst hr
        have hD := Decode_any (s.extract pos s.size) (wr.iterAt w.heap.size s (pos + wd)) (by rw [extract_size]; omega) (HT.out.below I2.bw)
        unfold ResDec at hD
        rw [bl_extract, hdd.out] at hD
        simp only at hD
        have HD := Lib.hid hD
        clear hD
        rcases hsd : (dcd ((bl s).drop pos)).2.2 with _ | _
        · rw [hsd] at HD
          have HE : Hid (vd (bl s) = pos) := Lib.hid (by rw [HX.out, vd_stop hsd]; rfl)
          clear hsd HGO
          go_wp2_with fail
          refine HD.out.mono ?_
          rintro r w2 ⟨rfl, n2, rfl⟩
          have HB := Lib.hid (bdN I2.bw n2)
          clear I2
          go_wp2
          go_ret
          exact ⟨ret_int (by rw [HE.out]), HB.out⟩
        · rw [hsd] at HD
          have HE := Lib.hid (HGO.out hsd)
          clear hsd HGO
          go_wp2_with fail
          refine HD.out.mono ?_
          rintro r w2 ⟨rfl, n2, rfl⟩
          have I3 := I2.dN n2
          clear I2
          go_wp2
          go_roundw
          case rel => exact ⟨pos + wd, hw2, I3, HE⟩
          case measure => exact it_less HIT.out I3.it hp (by omega)
      · have hsd : (dcd ((bl s).drop pos)).2.2 = true := ok_of_ne hdd.out hr
        have HE := Lib.hid (HGO.out hsd)
        have h1 : ((c : Int) != 65533) = true := by simp; omega
        have h2 : ¬ (c : Int) = 65533 := by omega
        clear hsd HGO
        go_wp2
        go_roundw
        case rel => exact ⟨pos + wd, hw2, I2, HE⟩
        case measure => exact it_less HIT.out I2.it hp (by omega)
    · have hnx : ∀ ty, (Instr.next (.pointer (some ⟨w.heap.size, 0, none⟩)) true ty).run Tryz.prog wr = _ := fun ty => Lib.run_next_end_at wr w.heap.size s pos ty I.it hp
      have HE : Hid (vd (bl s) = s.size) := Lib.hid (by rw [HX.out, List.drop_of_length_le (by rw [bl_len]; omega)]; show pos + 0 = _; omega)
      have HB := Lib.hid I.bw
      clear I
      go_wp2
      go_ret
      exact ⟨ret_int (by rw [HE.out]), HB.out⟩

end Go.Proofs.YtpgiljibicigeaaGreatDoor

/- The document's size, Is, Bytes, Encode. -/
namespace Go.Proofs.YtpgiljibicigeaaGreatDoor
open Go.RowKit UM

end Go.Proofs.YtpgiljibicigeaaGreatDoor

/- The document's Decode. -/
namespace Go.Proofs.YtpgiljibicigeaaGreatDoor
open Go.RowKit UM

theorem txt_eq {l : List Nat} {t : ByteArray} (hl : ∀ x ∈ l, x < 256) : ((tx l).toList == t.toList) = decide (l = bl t) := by
  rw [ByteArray.toList_eq, ByteArray.toList_eq, Bool.eq_iff_iff, beq_iff_eq, decide_eq_true_iff]
  constructor
  · intro h
    rw [← bl_tx hl]
    unfold bl; rw [h]
  · intro h
    have : tx l = t := by rw [h, tx_bl]
    rw [this]
end Go.Proofs.YtpgiljibicigeaaGreatDoor

/- quote: written walked. -/
namespace Go.Proofs.YtpgiljibicigeaaGreatDoor
open Go.RowKit UM QM

end Go.Proofs.YtpgiljibicigeaaGreatDoor

/- quote: Read walked. -/
namespace Go.Proofs.YtpgiljibicigeaaGreatDoor
open Go.RowKit UM QM

attribute [local go_sem] Oper.semAt_some
/-- below a block, what the reader's box holds stays -/
theorem RB.belowB {w w' : World} {g B : Nat} {a : Option Addr} {cap : Nat} {l : List Nat} {k err : Nat} (h : RB w g a cap l k err) (hb : Below B w w') (hg : g < B) (hab : ∀ b, a = some b → 0 < l.length → b.block < g) (hs : 0 < g) : RB w' g a cap l k err := by
  obtain ⟨h0, h1, h2, hf, hr, ha, hk, hl, hlo, hcp, ⟨q0, q1, q2, q3, q4, q5, q6, q7, q8, q9, q10, q11⟩, hsn⟩ := h
  have key : ∀ (p : Addr) (v : Value), p.block < B → w.cell? p = some v → w'.cell? p = some v := fun p v hp e => by rw [hb.cell hp]; exact e
  have hsB : 0 < B := Nat.lt_trans hs hg
  refine ⟨key _ _ hg h0, key _ _ hg h1, key _ _ hg h2, fun j => (hb.frozen (p := ⟨g, j, none⟩) hg).trans (hf j), ?_, ha, hk, hl, hlo, hcp, ⟨key _ _ hsB q0, key _ _ hsB q1, key _ _ hsB q2, key _ _ hsB q3, key _ _ hsB q4, key _ _ hsB q5, key _ _ hsB q6, key _ _ hsB q7, key _ _ hsB q8, key _ _ hsB q9, key _ _ hsB q10, key _ _ hsB q11⟩, hsn⟩
  intro j hj
  obtain ⟨b, off, e, hc⟩ := hr j hj
  exact ⟨b, off, e, key _ _ (by have := hab _ e (by omega); simp only at this ⊢; omega) hc⟩
theorem Kpr.of {g B : Nat} {a : Option Addr} {cap : Nat} {l : List Nat} {A A' : World} (hb : Below B A A') (hg : g < B) (hab : ∀ b, a = some b → 0 < l.length → b.block < g) (hs : 0 < g) : Kpr g a cap l A A' := fun _ _ h => h.belowB hb hg hab hs
theorem putBelow (W : World) (j B : Nat) (o : Obj) (h : B ≤ j) : Below B W (W.putObj j o) := ⟨rfl, rfl, rfl, by simp, fun _ hk => World.putObj_heap_other (by omega)⟩
/-- what has been laid so far, in the box behind the reader's -/
def IRd (w0 : World) (pre : List Int) (W : World) : Prop :=
  (∃ (ps : List Nat) (ao : Option Addr) (c : Nat), (∀ p ∈ ps, Pt p) ∧ pre = ps.map (fun p => ((p : Nat) : Int)) ∧ W.cell? ⟨w0.heap.size + 1, 0, none⟩ = some (.slice ao (encL ps).length c) ∧ W.frozen? ⟨w0.heap.size + 1, 0, none⟩ = false ∧ Own W (w0.heap.size + 2) 5 .u8 ao c (encL ps) ∧ w0.heap.size + 2 ≤ W.heap.size) ∧ Below w0.heap.size w0 W
theorem IRd.own (w0 : World) : OwnFrom (w0.heap.size + 2) (IRd w0) := by
  refine OwnFrom.and (Own.from ?_ _) (ownFrom_below (Nat.le_refl _) (by omega))
  rintro s A B row ⟨ps, ao, c, h1, h2, h3, h4, h5, h6⟩ hg hr
  refine ⟨ps, ao, c, h1, h2, cell_kept h3 hg hr, (frozen_kept h3 hg hr).trans h4, ?_, Nat.le_trans h6 hg.size⟩
  refine World.ownsRow.kept h5 hg ?_
  rcases h5.2 with ⟨e, _⟩ | ⟨g', cap', cur, e, _, hgo, _⟩
  · simp only [Value.slice.injEq] at e
    rw [e.1]; exact .inl rfl
  · right
    intro e2
    simp only [Value.slice.injEq] at e
    rw [e.1] at e2
    obtain ⟨o, ho, hc⟩ := hr g' (by rw [← e2]; rfl)
    rw [hgo] at ho
    cases ho; cases hc
theorem IRd.gb {w0 : World} {pre : List Int} {A B : World} (h : IRd w0 pre A) (hg : A.grownBy B (some w0.heap.size)) : IRd w0 pre B := by
  obtain ⟨⟨ps, ao, c, h1, h2, h3, h4, h5, h6⟩, h7⟩ := h
  refine ⟨⟨ps, ao, c, h1, h2, ?_, ?_, h5.gb hg (h5.apart (by omega)), Nat.le_trans h6 hg.size⟩, h7.grown hg (by omega) (fun k e => by cases e; exact Nat.le_refl _)⟩
  · exact hg.cell h3 (by simp)
  · rw [World.frozen?_of_block (w := A) (hg.block (w0.heap.size + 1) (by omega) (by simp))]; exact h4
def ResRd (l : List Nat) (w : World) (r : Ending) (w' : World) : Prop :=
  ∃ ps k err, (∀ p ∈ ps, Pt p) ∧ Fin l (ps.map (fun p => ((p : Nat) : Int))) k err ∧ r = .returned (.tuple #[.string (if err = 0 then tx (encL ps) else ⟨#[]⟩), .int .i64 (k : Nat), .int .i64 (err : Nat)]) ∧ Below w.heap.size w w'
set_option maxRecDepth 100000 in
set_option maxHeartbeats 4000000 in
theorem Read_any (a : Option Addr) (cap : Nat) (l : List Nat) (w : World) (hl : l.length ≤ 140737488353000) (hlo : LM.Lo 256 l) (hrd : Rd w .u8 a l) (ht : Sh w) (hcp : l.length ≤ cap) :
    Calls Tryz.prog 71 #[.slice a l.length cap] w (ResRd l w) := by
  have hab : ∀ b, a = some b → 0 < l.length → b.block < w.heap.size := by
    intro b hb hp
    obtain ⟨b', off, e, hc⟩ := hrd 0 hp
    rw [hb] at e; cases e
    exact lt_of_cell hc
  have hs : 0 < w.heap.size := lt_of_cell ht.1
  have HAB := Lib.hid hab; have HT := Lib.hid ht
  obtain ⟨V, hV⟩ : ∃ V, V = (w.alloc (.cells #[.slice a l.length cap, .int .i64 0, .int .i64 0] 111)).alloc (.cells #[.slice none 0 0] 52) := ⟨_, rfl⟩
  have zV : V.heap.size = w.heap.size + 2 := by rw [hV]; simp
  have bV : Below w.heap.size w V := by rw [hV]; exact ((Below.refl _ _).alloc (Nat.le_refl _) _).alloc (by simp) _
  have rV : RB V w.heap.size a cap l 0 0 := by
    refine ⟨by rw [hV]; simp, by rw [hV]; simp, by rw [hV]; simp, fun j => by rw [hV]; simp, hrd.below bV, ?_, Nat.zero_le _, hl, hlo, hcp, ht.below bV, by omega⟩
    intro hp b off e e2
    have := hrd.slot hp b off e
    omega
  have cV : V.cell? ⟨w.heap.size + 1, 0, none⟩ = some (.slice none 0 0) := by rw [hV]; simp
  have fV : V.frozen? ⟨w.heap.size + 1, 0, none⟩ = false := by rw [hV]; simp
  have iV : IRd w [] V := ⟨⟨[], none, 0, by simp, rfl, cV, fV, Own.nilNone _ _ _ _, by omega⟩, bV⟩
  refine callsIn_wide.1 (callsIn_of_wp_marks (n := 3) Tryz.func71 rfl trivial ?_ rfl)
  refine wpIn_wide.2 ?_
  simp only [Tryz.ntmps71, List.size_toArray, List.length_cons, List.length_nil, Nat.reduceAdd, Nat.reduceSub, Array.replicate_succ, Array.replicate_zero, List.push_toArray, List.append_toArray, List.nil_append, List.cons_append]
  have HV := Lib.hid hV; have HRV := Lib.hid rV; have HIV := Lib.hid iV
  clear hV rV iV cV fV bV hab
  go_wp2_with fail
  rw [← HV.out]
  refine (wpIn_wide (n := 3)).1 ?_
  refine range_st (n := 3) rfl (by omega) (gf := 81) (fa := #[.pointer (some ⟨w.heap.size, 0, none⟩)]) (lb := #[]) rfl trivial (enters_of Tryz.func81 (by kernel_rfl) rfl)
    (points_gives w.heap.size a cap l V) (fun _ => rfl)
    (fun r => HRV.out.below (((Below.refl _ _).alloc (Nat.le_refl _) _).alloc (by simp) _)) (fun A B hg => KeepsFrom.of_grownBy hg (fun j e => by cases e; omega))
    (fun A B C h1 h2 k err r => h2 k err (h1 k err r)) (fun W o o' _ _ => Kpr.of (putBelow W _ (w.heap.size + 1) o' (by omega)) (by omega) HAB.out hs)
    (IRd w) (fun _ _ => False) (by rw [zV]; exact IRd.own w) (fun _ _ _ _ h _ _ => h) (fun s A B h hg => h.gb hg) (fun _ _ _ h _ => h)
    HIV.out ?a1 ?assign ?body ?done ?stop
  case assign =>
    intro l x W K hK
    gi_wp2
    exact hK
  case body =>
    rintro lp pre x W ⟨⟨p, hp, rfl⟩, _, hwd⟩ ⟨⟨ps, ao, c, hps, rfl, hc, hf, ho, hsz⟩, hb⟩
    have hel : (encL ps).length + (enc p).length ≤ l.length := by
      have := hwd (ps ++ [p]) (by simp)
      rwa [encL_append, encL_one, List.length_append] at this
    clear hwd
    have HP := Lib.hid ((callsIn_wide (n := 0)).2 (putPoint_any p (w.heap.size + 2) ao c (encL ps) W hp (HT.out.below hb) hsz (by omega) ho))
    have HO := Lib.hid ho; have HB := Lib.hid hb
    clear ho hb
    gi_wp2
    refine ⟨trivial, (HP.out.inRound lp).mono ?_⟩
    rintro e A ⟨a2, c2, rfl, o2, b2, k2⟩
    have hc2 : A.cell? ⟨w.heap.size + 1, 0, none⟩ = some (.slice ao (encL ps).length c) := by rw [b2.cell (by simp)]; exact hc
    have hf2 : A.frozen? ⟨w.heap.size + 1, 0, none⟩ = false := by rw [b2.frozen (by simp)]; exact hf
    have O2 := Lib.hid o2; have B2 := Lib.hid b2; have K2 := Lib.hid k2
    clear o2 b2 k2
    gi_wp2
    have hB3 := (B2.out.mono (Nat.le_succ _)).setCell (p := ⟨w.heap.size + 1, 0, none⟩) (Nat.le_refl _) (Value.slice a2 ((encL ps).length + (enc p).length) c2)
    refine ⟨(K2.out.trans (KeepsOthers.setCell _ _ _)).from _, Kpr.of hB3 (by omega) HAB.out hs, ⟨⟨ps ++ [p], a2, c2, ?_, by simp, ?_, ?_, ?_, ?_⟩, HB.out.trans (hB3.mono (Nat.le_succ _))⟩⟩
    · intro q hq
      rcases List.mem_append.1 hq with h | h
      · exact hps q h
      · rw [List.mem_singleton.1 h]; exact hp
    · rw [encL_append, encL_one, List.length_append]
      exact World.cell?_setCell_same' _ _ _ (by rw [hc2]; rfl)
    · rw [World.frozen?_setCell]; exact hf2
    · rw [encL_append, encL_one]
      exact O2.out.gb (gb_set (gb_refl A (some (w.heap.size + 1))) 0 _) (O2.out.apart (by omega))
    · exact Nat.le_trans hsz hB3.size
  case done =>
    rintro D ys W0 W r hD ⟨k, err, hfin, hrb⟩ ⟨⟨ps, ao, c, hps, rfl, hc, hf, ho, hsz⟩, hb⟩ hW hK
    have hRB : RB W w.heap.size a cap l k err := by rw [hW]; exact hrb.belowB (putBelow W0 _ (w.heap.size + 1) _ (by omega)) (by omega) HAB.out hs
    obtain ⟨q0, q1, q2, qf, _⟩ := hRB
    clear hW hrb
    have HF := Lib.hid hfin
    clear hfin
    have HPS := Lib.hid hps
    by_cases he : err = 0
    · have hcv := fun n => conv_tx (P := Tryz.prog) (W.drewN n) 52 9 5 _ c ao (encL ps) (encL ps).length Tryz.underlying52 Tryz.underlying5 Tryz.underlying9 (ho.dN n) (encL_lo hps) rfl
      have hR : ∀ n, ResRd l w (.returned (.tuple #[.string (tx (encL ps)), .int .i64 (k : Nat), .int .i64 0])) ((W.drewN n).putObj D (.deferred none)) := by
        intro n
        refine ⟨ps, k, err, hps, HF.out, by rw [if_pos he, he]; rfl, (bdN hb n).trans (putBelow _ D _ _ (by omega))⟩
      have HR := Lib.hid hR
      subst he
      clear hR hps ho
      go_wp2
      go_quiet (fail)
      go_wp2
      refine ⟨by simp, .inl ⟨_, _, rfl, run_takeDeferred hK, ?_⟩⟩
      exact ⟨.tuple #[.string (tx (encL ps)), .int .i64 (k : Nat), .int .i64 0], by simp [results, Tryz.results71, go_sem], HR.out _⟩
    · have t0 : ((err : Int) != 0) = true := by simp [he]
      have hR : ∀ n, ResRd l w (.returned (.tuple #[.string ⟨#[]⟩, .int .i64 (k : Nat), .int .i64 (err : Nat)])) ((W.drewN n).putObj D (.deferred none)) := by
        intro n
        refine ⟨ps, k, err, hps, HF.out, by rw [if_neg he], (bdN hb n).trans (putBelow _ D _ _ (by omega))⟩
      have HR := Lib.hid hR
      clear hR hps ho he
      go_wp2
      go_quiet (fail)
      go_wp2
      refine ⟨by simp, .inl ⟨_, _, rfl, run_takeDeferred hK, ?_⟩⟩
      exact ⟨.tuple #[.string ⟨#[]⟩, .int .i64 (k : Nat), .int .i64 (err : Nat)], by simp [results, Tryz.results71, go_sem], HR.out _⟩
  case stop =>
    rintro D pre W0 W r _ _ h _ _
    exact h.elim
end Go.Proofs.YtpgiljibicigeaaGreatDoor

/- quote: what Read tells, determined by the bytes. -/
namespace Go.Proofs.YtpgiljibicigeaaGreatDoor
open Go.RowKit UM QM

/-- what is told from a place on, where it ends, with which error -/
inductive Tl (l : List Nat) : Nat → List Int → Nat → Nat → Prop
  | stop {k : Nat} (h : pk l k = 34) : Tl l k [] (k + 1) 0
  | bad {k : Nat} (h : pk l k ≠ 34) (h2 : (pieceF l k).2.1 = false) : Tl l k [] (pieceF l k).2.2 (faultF l (pieceF l k).2.2)
  | go {k : Nat} {xs : List Int} {e err : Nat} (h : pk l k ≠ 34) (h2 : (pieceF l k).2.1 = true) (t : Tl l (pieceF l k).2.2 xs e err) : Tl l k ((pieceF l k).1 :: xs) e err
theorem Tl.det {l : List Nat} {k : Nat} {xs : List Int} {e err : Nat} (h : Tl l k xs e err) : ∀ {xs' : List Int} {e' err' : Nat}, Tl l k xs' e' err' → xs = xs' ∧ e = e' ∧ err = err' := by
  induction h with
  | stop h =>
    intro xs' e' err' t
    cases t with
    | stop _ => exact ⟨rfl, rfl, rfl⟩
    | bad h' _ => exact absurd h h'
    | go h' _ _ => exact absurd h h'
  | bad h h2 =>
    intro xs' e' err' t
    cases t with
    | stop h' => exact absurd h' h
    | bad _ _ => exact ⟨rfl, rfl, rfl⟩
    | go _ h' _ => rw [h2] at h'; cases h'
  | go h h2 _ ih =>
    intro xs' e' err' t
    cases t with
    | stop h' => exact absurd h' h
    | bad _ h' => rw [h2] at h'; cases h'
    | go _ _ t' =>
      obtain ⟨r1, r2, r3⟩ := ih t'
      exact ⟨by rw [r1], r2, r3⟩
theorem Tl.of {l : List Nat} {pre : List Int} {j : Nat} (h : Rch l pre j) : pk l 0 = 34 ∧ ∀ {xs : List Int} {e err : Nat}, Tl l j xs e err → Tl l 1 (pre ++ xs) e err := by
  induction h with
  | start h => exact ⟨h, fun t => t⟩
  | step _ h1 h2 ih =>
    refine ⟨ih.1, fun {xs e err} t => ?_⟩
    have := ih.2 (Tl.go h1 h2 t)
    simpa using this
/-- what Read tells -/
def RdR (l : List Nat) (xs : List Int) (k err : Nat) : Prop := (pk l 0 ≠ 34 ∧ xs = [] ∧ k = 0 ∧ err = faultF l 0) ∨ (pk l 0 = 34 ∧ Tl l 1 xs k err)
theorem RdR.of {l : List Nat} {xs : List Int} {k err : Nat} (h : Fin l xs k err) : RdR l xs k err := by
  rcases h with h | ⟨j, hr, hp, rfl, rfl⟩ | ⟨j, hr, hp, hb, rfl, rfl⟩
  · exact .inl h
  · have := (Tl.of hr).2 (Tl.stop hp)
    rw [List.append_nil] at this
    exact .inr ⟨(Tl.of hr).1, this⟩
  · have := (Tl.of hr).2 (Tl.bad hp hb)
    rw [List.append_nil] at this
    exact .inr ⟨(Tl.of hr).1, this⟩
theorem RdR.det {l : List Nat} {xs xs' : List Int} {k err k' err' : Nat} (h : RdR l xs k err) (h' : RdR l xs' k' err') : xs = xs' ∧ k = k' ∧ err = err' := by
  rcases h with ⟨p, rfl, rfl, rfl⟩ | ⟨p, t⟩
  · rcases h' with ⟨_, rfl, rfl, rfl⟩ | ⟨p', _⟩
    · exact ⟨rfl, rfl, rfl⟩
    · exact absurd p' p
  · rcases h' with ⟨p', _⟩ | ⟨_, t'⟩
    · exact absurd p p'
    · exact t.det t'
def toI (ps : List Nat) : List Int := ps.map (fun p => ((p : Nat) : Int))
end Go.Proofs.YtpgiljibicigeaaGreatDoor
