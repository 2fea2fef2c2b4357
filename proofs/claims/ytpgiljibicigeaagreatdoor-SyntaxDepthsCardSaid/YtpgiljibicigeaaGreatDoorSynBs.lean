/- syntax: next, fault, unfit, isSign, is walked. -/
import Derived.Test.YtpgiljibicigeaaGreatDoorSynMathBs
import Derived.Deep.Cut
import Derived.Deep.DeepCutAuto
set_option linter.unusedVariables false
set_option linter.unusedSimpArgs false
namespace Go.Proofs.YtpgiljibicigeaaGreatDoor
open Go.RowKit SX

theorem bel2 {B nw : Nat} {w w1 : World} (h : Below B w w1) (hb : B ≤ nw) (a b : Value) : Below B w ((w1.setCell ⟨nw, 0, none⟩ a).setCell ⟨nw, 1, none⟩ b) :=
  (h.setCell (p := ⟨nw, 0, none⟩) hb a).setCell (p := ⟨nw, 1, none⟩) hb b
theorem infoI0 : (Tryz.prog.info? 3).map (fun i => i.size) = some 1 := by kernel_rfl
theorem fieldTok (x y z : Value) (w : World) : (Instr.field 75 (.agg #[x, y, z]) 2).run Tryz.prog w = .ok z w := by
  have h := run_underlying (P := Tryz.prog) (w := w) Tryz.underlying75
  cases hq : Tryz.prog.info? 3 with
  | none => have := infoI0; rw [hq] at this; cases this
  | some i =>
    have h2 := infoI0
    rw [hq] at h2
    have hz : i.size = 1 := by simpa using h2
    simp [Instr.field, h, part, asAgg, isAgg, typeInfo, sizeOf, hq, hz, go_sem]
theorem fieldTok0 (x y z : Value) (w : World) : (Instr.field 75 (.agg #[x, y, z]) 0).run Tryz.prog w = .ok x w := by
  have h := run_underlying (P := Tryz.prog) (w := w) Tryz.underlying75
  cases hq : Tryz.prog.info? 3 with
  | none => have := infoI0; rw [hq] at this; cases this
  | some i =>
    have h2 := infoI0
    rw [hq] at h2
    have hz : i.size = 1 := by simpa using h2
    simp [Instr.field, h, part, asAgg, isAgg, typeInfo, sizeOf, hq, hz, go_sem]
theorem fieldTok1 (x y z : Value) (w : World) : (Instr.field 75 (.agg #[x, y, z]) 1).run Tryz.prog w = .ok y w := by
  have h := run_underlying (P := Tryz.prog) (w := w) Tryz.underlying75
  cases hq : Tryz.prog.info? 3 with
  | none => have := infoI0; rw [hq] at this; cases this
  | some i =>
    have h2 := infoI0
    rw [hq] at h2
    have hz : i.size = 1 := by simpa using h2
    simp [Instr.field, h, part, asAgg, isAgg, typeInfo, sizeOf, hq, hz, go_sem]
set_option maxRecDepth 100000 in
set_option maxHeartbeats 4000000 in
theorem syNext {v : Ev} (hE : EvK v) {w : World} {g i pp : Nat} (h : PB v w g i pp) :
    Calls Tryz.prog 36 #[.pointer (some ⟨g, 0, none⟩)] w fun e w' => e = .returned (nxV (tkn v i)) ∧ Below w.heap.size w w' := by
  have HC := Lib.hid (fun W (hb : Below w.heap.size w W) => syBehind hE (h.below hb) 0 (by decide))
  rw [show nxV (tkn v i) = .agg #[.int .i64 ((tkn v i).1 : Int), .string (tkn v i).2.1, .int .i64 ((tkn v i).2.2 : Int)] from rfl]
  simp only [Nat.add_zero] at HC
  rw [show nxV (tkn v i) = .agg #[.int .i64 ((tkn v i).1 : Int), .string (tkn v i).2.1, .int .i64 ((tkn v i).2.2 : Int)] from rfl] at HC
  generalize tkn v i = t at *
  obtain ⟨k, s, a⟩ := t
  simp only at HC ⊢
  clear h hE
  go_enter Tryz.func36, Tryz.ntmps36
  go_wp2_with fail
  have hb1 : Below w.heap.size w (w.alloc (.cells #[.int .i64 0, .string ⟨#[]⟩, .int .i64 0] 75)) := (Below.refl _ _).alloc (Nat.le_refl _) _
  refine (HC.out _ hb1).mono ?_
  rintro e w2 ⟨rfl, hb⟩
  have hl : w.heap.size < (w.alloc (.cells #[.int .i64 0, .string ⟨#[]⟩, .int .i64 0] 75)).heap.size := by simp
  have r0 : w2.cell? ⟨w.heap.size, 0, none⟩ = some (.int .i64 0) := by rw [hb.cell hl]; exact cell_new rfl
  have r1 : w2.cell? ⟨w.heap.size, 1, none⟩ = some (.string ⟨#[]⟩) := by rw [hb.cell hl]; exact cell_new rfl
  have r2 : w2.cell? ⟨w.heap.size, 2, none⟩ = some (.int .i64 0) := by rw [hb.cell hl]; exact cell_new rfl
  have f0 : ∀ j, w2.frozen? ⟨w.heap.size, j, none⟩ = false := fun j => (hb.frozen (p := ⟨w.heap.size, j, none⟩) hl).trans (frz_new rfl)
  have HS : Hid (Below w.heap.size w w2) := Lib.hid (hb1.trans (hb.mono hb1.size))
  clear hb hb1 hl HC
  generalize hnw : w.heap.size = nw at *
  have HNW := Lib.hid hnw
  clear hnw
  go_wp2
  refine bodyPost_ret (v := .agg #[.int .i64 (k : Int), .string s, .int .i64 (a : Int)]) (by simp [results, Tryz.results36, go_sem, r0, r1, r2]) rfl ?_
  exact ⟨rfl, by rw [HNW.out]; exact bel3 HS.out (Nat.le_refl _) _ _ _⟩
set_option maxRecDepth 100000 in
set_option maxHeartbeats 4000000 in
theorem syFault {v : Ev} (hE : EvK v) {w : World} {g i pp : Nat} (h : PB v w g i pp) (er : Nat) :
    Calls Tryz.prog 27 #[.pointer (some ⟨g, 0, none⟩), .int .i64 (er : Int)] w fun e w' => e = .returned (.agg #[.int .i64 (plc v i : Int), .int .i64 (er : Int)]) ∧ Below w.heap.size w w' := by
  have HC := Lib.hid (fun W (hb : Below w.heap.size w W) => syNext hE (h.below hb))
  obtain ⟨ao, cap, h⟩ := h
  have c0 := h.c0; have c1 := h.c1; have c2 := h.c2
  have hg := h.lt
  have hil := h.il
  have hl := hE.len
  unfold plc
  have hb1 : Below w.heap.size w (w.alloc (.cells #[.int .i64 0, .int .i64 0] 58)) := (Below.refl _ _).alloc (Nat.le_refl _) _
  obtain ⟨w1, hW⟩ : ∃ x, w.alloc (.cells #[.int .i64 0, .int .i64 0] 58) = x := ⟨_, rfl⟩
  have hs1 : w.heap.size < w1.heap.size := by rw [← hW]; simp
  have k0 : w1.cell? ⟨g, 0, none⟩ = some (.slice ao v.L.length cap) := by rw [← hW, cell_old hg]; exact c0
  have k1 : w1.cell? ⟨g, 1, none⟩ = some (.int .i64 (i : Int)) := by rw [← hW, cell_old hg]; exact c1
  have k2 : w1.cell? ⟨g, 2, none⟩ = some (.int .i64 (v.E : Int)) := by rw [← hW, cell_old hg]; exact c2
  have r0 : w1.cell? ⟨w.heap.size, 0, none⟩ = some (.int .i64 0) := by rw [← hW]; exact cell_new rfl
  have r1 : w1.cell? ⟨w.heap.size, 1, none⟩ = some (.int .i64 0) := by rw [← hW]; exact cell_new rfl
  have f0 : ∀ j, w1.frozen? ⟨w.heap.size, j, none⟩ = false := fun j => by rw [← hW]; exact frz_new rfl
  have HS : Hid (Below w.heap.size w w1) := Lib.hid (by rw [← hW]; exact hb1)
  have HW := Lib.hid hW
  have HS1 := Lib.hid hs1
  by_cases he : i = v.L.length
  · rw [if_pos he]
    subst he
    clear h hE HC c0 c1 c2 hg hil hb1 hW hs1
    go_enter Tryz.func27, Tryz.ntmps27
    go_wp2_with fail
    rw [HW.out]
    generalize hnw : w.heap.size = nw at *
    have HNW := Lib.hid hnw
    clear hnw HW HS1
    go_quiet (fail)
    go_wp2
    refine bodyPost_ret (v := .agg #[.int .i64 (v.E : Int), .int .i64 (er : Int)]) (by simp [results, Tryz.results27, go_sem, r0, r1]) rfl ?_
    exact ⟨rfl, by rw [HNW.out]; exact bel2 (bdN HS.out _) (Nat.le_refl _) _ _⟩
  · rw [if_neg he]
    have he1 : ((i : Int) == (v.L.length : Int)) = false := by rw [beq_eq_false_iff_ne]; omega
    have he2 : ¬ (i : Int) = (v.L.length : Int) := by omega
    rw [show nxV (tkn v i) = .agg #[.int .i64 ((tkn v i).1 : Int), .string (tkn v i).2.1, .int .i64 ((tkn v i).2.2 : Int)] from rfl] at HC
    generalize tkn v i = t at *
    obtain ⟨k, s, a⟩ := t
    simp only at HC ⊢
    clear h hE c0 c1 c2 hg hil hb1 hW hs1 he
    go_enter Tryz.func27, Tryz.ntmps27
    go_wp2_with fail
    rw [HW.out]
    go_quiet (fail)
    go_wp2_with fail
    refine (HC.out _ (bdN HS.out _)).mono ?_
    rintro e w2 ⟨rfl, hb⟩
    have hl2 : w.heap.size < (w1.drewN nq).heap.size := HS1.out
    have s0 : w2.cell? ⟨w.heap.size, 0, none⟩ = some (.int .i64 0) := by rw [hb.cell hl2]; exact r0
    have s1 : w2.cell? ⟨w.heap.size, 1, none⟩ = some (.int .i64 0) := by rw [hb.cell hl2]; exact r1
    have g0 : ∀ j, w2.frozen? ⟨w.heap.size, j, none⟩ = false := fun j => (hb.frozen (p := ⟨w.heap.size, j, none⟩) hl2).trans (f0 j)
    have HS2 : Hid (Below w.heap.size w w2) := Lib.hid ((bdN HS.out nq).trans (hb.mono (show w.heap.size ≤ (w1.drewN nq).heap.size from HS.out.size)))
    have ft := fieldTok
    clear hb hl2 HC HS HS1 r0 r1 f0 k0 k1 k2 HW
    generalize hnw : w.heap.size = nw at *
    have HNW := Lib.hid hnw
    clear hnw
    go_wp2
    refine bodyPost_ret (v := .agg #[.int .i64 (a : Int), .int .i64 (er : Int)]) (by simp [results, Tryz.results27, go_sem, s0, s1]) rfl ?_
    exact ⟨rfl, by rw [HNW.out]; exact bel2 HS2.out (Nat.le_refl _) _ _⟩
set_option maxRecDepth 100000 in
set_option maxHeartbeats 4000000 in
theorem syUnfit {v : Ev} (hE : EvK v) {w : World} {g i pp : Nat} (h : PB v w g i pp) :
    Calls Tryz.prog 23 #[.pointer (some ⟨g, 0, none⟩)] w fun e w' => e = .returned (.agg #[.int .i64 (plc v i : Int), .int .i64 ((if i = v.L.length then 5 else 2 : Nat) : Int)]) ∧ Below w.heap.size w w' := by
  have HC := Lib.hid (fun W (hb : Below w.heap.size w W) er => syFault hE (h.below hb) er)
  obtain ⟨ao, cap, h⟩ := h
  have c0 := h.c0; have c1 := h.c1
  have hg := h.lt
  have hil := h.il
  have hb1 : Below w.heap.size w (w.alloc (.cells #[.int .i64 0, .int .i64 0] 58)) := (Below.refl _ _).alloc (Nat.le_refl _) _
  obtain ⟨w1, hW⟩ : ∃ x, w.alloc (.cells #[.int .i64 0, .int .i64 0] 58) = x := ⟨_, rfl⟩
  have hs1 : w.heap.size < w1.heap.size := by rw [← hW]; simp
  have k0 : w1.cell? ⟨g, 0, none⟩ = some (.slice ao v.L.length cap) := by rw [← hW, cell_old hg]; exact c0
  have k1 : w1.cell? ⟨g, 1, none⟩ = some (.int .i64 (i : Int)) := by rw [← hW, cell_old hg]; exact c1
  have r0 : w1.cell? ⟨w.heap.size, 0, none⟩ = some (.int .i64 0) := by rw [← hW]; exact cell_new rfl
  have r1 : w1.cell? ⟨w.heap.size, 1, none⟩ = some (.int .i64 0) := by rw [← hW]; exact cell_new rfl
  have f0 : ∀ j, w1.frozen? ⟨w.heap.size, j, none⟩ = false := fun j => by rw [← hW]; exact frz_new rfl
  have HS : Hid (Below w.heap.size w w1) := Lib.hid (by rw [← hW]; exact hb1)
  have HW := Lib.hid hW
  have HS1 := Lib.hid hs1
  obtain ⟨X, hX⟩ : ∃ X, plc v i = X := ⟨_, rfl⟩
  rw [hX] at HC ⊢
  have key : ∀ er : Nat, ∀ W, Below w.heap.size w W → w.heap.size < W.heap.size → W.cell? ⟨w.heap.size, 0, none⟩ = some (.int .i64 0) → W.cell? ⟨w.heap.size, 1, none⟩ = some (.int .i64 0) → (∀ j, W.frozen? ⟨w.heap.size, j, none⟩ = false) → Calls Tryz.prog 27 #[.pointer (some ⟨g, 0, none⟩), .int .i64 (er : Int)] W fun e w2 => e = .returned (.agg #[.int .i64 (X : Int), .int .i64 (er : Int)]) ∧ w2.cell? ⟨w.heap.size, 0, none⟩ = some (.int .i64 0) ∧ w2.cell? ⟨w.heap.size, 1, none⟩ = some (.int .i64 0) ∧ (∀ j, w2.frozen? ⟨w.heap.size, j, none⟩ = false) ∧ Hid (Below w.heap.size w w2) := fun er W h1 h2 h3 h4 h5 => by
    refine (HC.out W h1 er).mono ?_
    rintro e w2 ⟨rfl, hb⟩
    exact ⟨rfl, by rw [hb.cell h2]; exact h3, by rw [hb.cell h2]; exact h4, fun j => (hb.frozen (p := ⟨w.heap.size, j, none⟩) h2).trans (h5 j), Lib.hid (h1.trans (hb.mono h1.size))⟩
  have HK := Lib.hid key
  by_cases he : i = v.L.length
  · rw [if_pos he]
    subst he
    clear h hE HC c0 c1 hg hil hb1 hW hs1 key hX
    go_enter Tryz.func23, Tryz.ntmps23
    go_wp2_with fail
    rw [HW.out]
    go_quiet (fail)
    go_wp2_with fail
    refine (HK.out 5 _ (bdN HS.out _) HS1.out r0 r1 f0).mono ?_
    rintro e w2 ⟨rfl, s0, s1, g0, HS2⟩
    clear HK HS HS1 r0 r1 f0 k0 k1 HW
    generalize hnw : w.heap.size = nw at *
    have HNW := Lib.hid hnw
    clear hnw
    go_wp2
    refine bodyPost_ret (v := .agg #[.int .i64 (X : Int), .int .i64 5]) (by simp [results, Tryz.results23, go_sem, s0, s1]) rfl ?_
    exact ⟨rfl, by rw [HNW.out]; exact bel2 HS2.out (Nat.le_refl _) _ _⟩
  · rw [if_neg he]
    have he1 : ((i : Int) == (v.L.length : Int)) = false := by rw [beq_eq_false_iff_ne]; omega
    have he2 : ¬ (i : Int) = (v.L.length : Int) := by omega
    clear h hE HC c0 c1 hg hil hb1 hW hs1 key hX he
    go_enter Tryz.func23, Tryz.ntmps23
    go_wp2_with fail
    rw [HW.out]
    go_quiet (fail)
    go_wp2_with fail
    refine (HK.out 2 _ (bdN HS.out _) HS1.out r0 r1 f0).mono ?_
    rintro e w2 ⟨rfl, s0, s1, g0, HS2⟩
    clear HK HS HS1 r0 r1 f0 k0 k1 HW
    generalize hnw : w.heap.size = nw at *
    have HNW := Lib.hid hnw
    clear hnw
    go_wp2
    refine bodyPost_ret (v := .agg #[.int .i64 (X : Int), .int .i64 2]) (by simp [results, Tryz.results23, go_sem, s0, s1]) rfl ?_
    exact ⟨rfl, by rw [HNW.out]; exact bel2 HS2.out (Nat.le_refl _) _ _⟩
theorem seq_val (a b : ByteArray) : (a.toList == b.toList) = SX.seq a b := by unfold SX.seq; rw [ByteArray.toList_eq, ByteArray.toList_eq]
set_option maxRecDepth 100000 in
set_option maxHeartbeats 4000000 in
theorem syIsSign (t : T3) (S : ByteArray) (w : World) :
    Calls Tryz.prog 78 #[nxV t, .string S] w fun e w' => e = .returned (.bool (isT t S)) ∧ Below w.heap.size w w' := by
  obtain ⟨k, s, a⟩ := t
  show Calls Tryz.prog 78 #[.agg #[.int .i64 (k : Int), .string s, .int .i64 (a : Int)], .string S] w fun e w' => e = .returned (.bool ((k == 6 || k == 2) && SX.seq s S)) ∧ Below w.heap.size w w'
  have HB : Hid (Below w.heap.size w (w.alloc (.cells #[.int .i64 (k : Int), .string s, .int .i64 (a : Int)] 75))) := Lib.hid ((Below.refl _ _).alloc (Nat.le_refl _) _)
  have HV := Lib.hid (seq_val s S)
  obtain ⟨b, hb⟩ : ∃ b, SX.seq s S = b := ⟨_, rfl⟩
  rw [hb] at HV ⊢
  have hq : (s.toList == S.toList) = b := HV.out
  clear hb
  by_cases h6 : k = 6
  · subst h6
    go_enter Tryz.func78, Tryz.ntmps78
    go_wp2
    go_ret
    exact ⟨rfl, HB.out⟩
  by_cases h2 : k = 2
  · subst h2
    go_enter Tryz.func78, Tryz.ntmps78
    go_wp2
    go_ret
    exact ⟨rfl, HB.out⟩
  · have e6 : ((k : Int) == 6) = false := by rw [beq_eq_false_iff_ne]; omega
    have e2 : ((k : Int) == 2) = false := by rw [beq_eq_false_iff_ne]; omega
    have e7 : (k == 6) = false := by rw [beq_eq_false_iff_ne]; omega
    have e3 : (k == 2) = false := by rw [beq_eq_false_iff_ne]; omega
    rw [e7, e3, Bool.false_or, Bool.false_and]
    clear h6 h2 e7 e3
    go_enter Tryz.func78, Tryz.ntmps78
    go_wp2
    go_ret
    exact ⟨rfl, HB.out⟩
set_option maxRecDepth 100000 in
set_option maxHeartbeats 4000000 in
theorem syIs {v : Ev} (hE : EvK v) {w : World} {g i pp : Nat} (h : PB v w g i pp) (S : ByteArray) :
    Calls Tryz.prog 60 #[.pointer (some ⟨g, 0, none⟩), .string S] w fun e w' => e = .returned (.bool (isS v i S)) ∧ Below w.heap.size w w' := by
  have HC := Lib.hid (syNext hE h)
  unfold isS
  have HI := Lib.hid (syIsSign (tkn v i) S)
  generalize isT (tkn v i) S = b at *
  generalize nxV (tkn v i) = T at *
  clear h hE
  go_enter Tryz.func60, Tryz.ntmps60
  go_wp2_with fail
  refine HC.out.mono ?_
  rintro e w1 ⟨rfl, hb⟩
  have HB := Lib.hid hb
  clear hb HC
  go_wp2_with fail
  refine (HI.out w1).mono ?_
  rintro e w2 ⟨rfl, hb⟩
  have HB2 := Lib.hid (HB.out.trans (hb.mono HB.out.size))
  clear hb HI HB
  go_wp2
  go_ret
  exact ⟨rfl, HB2.out⟩
end Go.Proofs.YtpgiljibicigeaaGreatDoor

/- syntax: skip, need, take, takeOwn walked. -/
namespace Go.Proofs.YtpgiljibicigeaaGreatDoor
open Go.RowKit SX

/-- what the parser gives up with -/
def pan (a e : Nat) : List PanicEntry := [{ v := .iface 58 (.agg #[.int .i64 (a : Int), .int .i64 (e : Int)]), recovered := false }]
/-- what a rule tells: its value, and the box behind it, else the fault -/
def Out {α : Type} (v : Ev) (g pp : Nat) (w : World) (R : Rs α) (V : α → Value → World → Prop) (e : Ending) (w' : World) : Prop :=
  match R with
  | .ok x j => ∃ u, e = .returned u ∧ V x u w' ∧ PB v w' g j pp ∧ w.grownBy w' (some g)
  | .err a er => e = .panicked (pan a er) ∧ w.grownBy w' (some g)
theorem wd_below {w W : World} (h : Wd w) (hb : Below w.heap.size w W) : Wd W := fun i hi => by rw [hb.cell (lt_of_cell (h i hi))]; exact h i hi
def VU : Unit → Value → World → Prop := fun _ u _ => u = .tuple #[]
def VS : ByteArray → Value → World → Prop := fun s u _ => u = .string s
theorem out_cases {α : Type} {v : Ev} {g pp : Nat} {w : World} {R : Rs α} {V : α → Value → World → Prop} {e : Ending} {w' : World} (h : Out v g pp w R V e w') : (∃ x j u, R = .ok x j ∧ e = .returned u ∧ V x u w' ∧ PB v w' g j pp ∧ w.grownBy w' (some g)) ∨ (∃ a er, R = .err a er ∧ e = .panicked (pan a er) ∧ w.grownBy w' (some g)) := by
  cases R with
  | ok x j =>
    obtain ⟨u, h1, h2, h3, h4⟩ := h
    exact .inl ⟨x, j, u, rfl, h1, h2, h3, h4⟩
  | err a er => exact .inr ⟨a, er, rfl, h.1, h.2⟩
theorem gbOfB {w w' : World} {g : Nat} (h : Below w.heap.size w w') : w.grownBy w' (some g) := gb_of_below h
set_option maxRecDepth 100000 in
set_option maxHeartbeats 4000000 in
theorem sySkipYes {v : Ev} (hE : EvK v) {w : World} {g i pp : Nat} (h : PB v w g i pp) {S : ByteArray} (hS : isS v i S = true) :
    Calls Tryz.prog 37 #[.pointer (some ⟨g, 0, none⟩), .string S] w fun e w' => e = .returned (.bool true) ∧ PB v w' g (i + 1) pp ∧ w.grownBy w' (some g) := by
  have HC := Lib.hid (syIs hE h S)
  rw [hS] at HC
  have hi : i < v.L.length := by
    rcases Nat.lt_or_ge i v.L.length with h' | h'
    · exact h'
    · unfold isS at hS; rw [tkn_no h'] at hS; simp [isT] at hS
  have hl := hE.len
  have HP := Lib.hid (fun W (hb : Below w.heap.size w W) => h.below hb)
  have HI := Lib.hid hi
  have hib : (i : Int) < 200000 := by omega
  clear h hE hS hi hl
  go_enter Tryz.func37, Tryz.ntmps37
  go_wp2_with fail
  refine HC.out.mono ?_
  rintro e w1 ⟨rfl, hb⟩
  obtain ⟨ao, cap, hp⟩ := HP.out w1 hb
  have c1 := hp.c1; have fz := hp.fz
  have HQ := Lib.hid hp
  have HB := Lib.hid hb
  have hg := hp.lt
  clear hp hb HC HP
  go_wp2
  go_ret
  exact ⟨rfl, ⟨ao, cap, HQ.out.step HI.out (by omega)⟩, gb_set (gbOfB HB.out) _ _⟩
set_option maxRecDepth 100000 in
set_option maxHeartbeats 4000000 in
theorem sySkipNo {v : Ev} (hE : EvK v) {w : World} {g i pp : Nat} (h : PB v w g i pp) {S : ByteArray} (hS : isS v i S = false) :
    Calls Tryz.prog 37 #[.pointer (some ⟨g, 0, none⟩), .string S] w fun e w' => e = .returned (.bool false) ∧ PB v w' g i pp ∧ w.grownBy w' (some g) := by
  have HC := Lib.hid (syIs hE h S)
  rw [hS] at HC
  have HP := Lib.hid (fun W (hb : Below w.heap.size w W) => h.below hb)
  clear h hE hS
  go_enter Tryz.func37, Tryz.ntmps37
  go_wp2_with fail
  refine HC.out.mono ?_
  rintro e w1 ⟨rfl, hb⟩
  have HB := Lib.hid hb
  clear hb HC
  go_wp2
  go_ret
  exact ⟨rfl, HP.out _ HB.out, gbOfB HB.out⟩
set_option maxRecDepth 100000 in
set_option maxHeartbeats 4000000 in
theorem syNeed {v : Ev} (hE : EvK v) {w : World} {g i pp : Nat} (h : PB v w g i pp) (S : ByteArray) :
    Calls Tryz.prog 40 #[.pointer (some ⟨g, 0, none⟩), .string S] w (Out v g pp w (ned v S i) VU) := by
  unfold ned
  cases hS : isS v i S with
  | true =>
    have HC := Lib.hid (sySkipYes hE h hS)
    clear h hE hS
    go_enter Tryz.func40, Tryz.ntmps40
    go_wp2_with fail
    refine HC.out.mono ?_
    rintro e w1 ⟨rfl, hp, hb⟩
    have HP := Lib.hid hp; have HB := Lib.hid hb
    clear hp hb HC
    go_wp2
    refine bodyPost_end (v := .tuple #[]) (by simp [results, Tryz.results40, go_sem]) rfl ?_
    exact ⟨_, rfl, rfl, HP.out, HB.out⟩
  | false =>
    have HC := Lib.hid (sySkipNo hE h hS)
    have HU := Lib.hid (fun W (hp : PB v W g i pp) => syUnfit hE hp)
    rw [if_neg (by decide)]
    unfold unf
    obtain ⟨X, hX⟩ : ∃ X, plc v i = X := ⟨_, rfl⟩
    obtain ⟨Y, hY⟩ : ∃ Y, (if i = v.L.length then 5 else 2 : Nat) = Y := ⟨_, rfl⟩
    rw [hX, hY] at HU ⊢
    clear h hE hS hX hY
    go_enter Tryz.func40, Tryz.ntmps40
    go_wp2_with fail
    refine HC.out.mono ?_
    rintro e w1 ⟨rfl, hp, hb⟩
    have HU2 := Lib.hid (HU.out w1 hp)
    have HB := Lib.hid hb
    clear hp hb HC HU
    go_wp2_with fail
    refine HU2.out.mono ?_
    rintro e w2 ⟨rfl, hb⟩
    have HB2 : Hid (w.grownBy w2 (some g)) := Lib.hid (gb_trans HB.out (gbOfB hb))
    clear hb HU2 HB
    go_wp2
    exact ⟨rfl, rfl, HB2.out⟩
set_option maxRecDepth 100000 in
set_option maxHeartbeats 4000000 in
theorem syTake {v : Ev} (hE : EvK v) {w : World} {g i pp : Nat} (h : PB v w g i pp) (K : Nat) (hK : 1 ≤ K) :
    Calls Tryz.prog 39 #[.pointer (some ⟨g, 0, none⟩), .int .i64 (K : Int)] w (Out v g pp w (tak v K i) VS) := by
  unfold tak
  have HC := Lib.hid (syNext hE h)
  rw [show nxV (tkn v i) = .agg #[.int .i64 ((tkn v i).1 : Int), .string (tkn v i).2.1, .int .i64 ((tkn v i).2.2 : Int)] from rfl] at HC
  have hl := hE.len
  by_cases hk : (tkn v i).1 = K
  · rw [if_pos hk]
    rw [hk] at HC
    have hi : i < v.L.length := by
      rcases Nat.lt_or_ge i v.L.length with h' | h'
      · exact h'
      · rw [tkn_no h'] at hk
        have : (0 : Nat) = K := hk
        omega
    generalize (tkn v i).2.1 = s at *
    generalize (tkn v i).2.2 = a at *
    have HP := Lib.hid (fun W (hb : Below w.heap.size w W) => h.below hb)
    have HI := Lib.hid hi
    have hib : (i : Int) < 200000 := by omega
    have hgw := h.lt
    clear h hE hk hi hl
    go_enter Tryz.func39, Tryz.ntmps39
    go_wp2_with fail
    refine HC.out.mono ?_
    rintro e w1 ⟨rfl, hb⟩
    obtain ⟨ao, cap, hp⟩ := HP.out w1 hb
    have HB := Lib.hid hb
    have hgs : g < w1.heap.size := hp.lt
    have c1 := hp.c1; have fz := hp.fz
    have HQ : Hid (∀ (n : Int) (o : Obj), n = ((i + 1 : Nat) : Int) → PB v ((w1.setCell ⟨g, 1, none⟩ (.int .i64 n)).alloc o) g (i + 1) pp) := Lib.hid (fun n o hn => ⟨ao, cap, (hp.step HI.out hn).below ((Below.refl _ _).alloc (Nat.le_refl _) _)⟩)
    have HB2 : Hid (∀ (u : Value) (o : Obj), w.grownBy ((w1.setCell ⟨g, 1, none⟩ u).alloc o) (some g)) := Lib.hid (fun u o => gb_trans (gb_set (gbOfB hb) 1 u) (gbOfB ((Below.refl _ _).alloc (Nat.le_refl _) _)))
    have n1 : ¬ g = w1.heap.size := by omega
    have n2 : ¬ w1.heap.size = g := by omega
    clear hb HC hp HB HP
    go_wp2
    go_ret
    exact ⟨_, rfl, rfl, HQ.out _ _ (by omega), HB2.out _ _⟩
  · rw [if_neg hk]
    unfold unf
    have HU := Lib.hid (fun W (hp : PB v W g i pp) => syUnfit hE hp)
    obtain ⟨X, hX⟩ : ∃ X, plc v i = X := ⟨_, rfl⟩
    obtain ⟨Y, hY⟩ : ∃ Y, (if i = v.L.length then 5 else 2 : Nat) = Y := ⟨_, rfl⟩
    rw [hX, hY] at HU
    rw [hX, hY]
    have e1 : (((tkn v i).1 : Int) != (K : Int)) = true := by rw [bne_iff_ne]; omega
    have e2 : ¬ ((tkn v i).1 : Int) = (K : Int) := by omega
    generalize (tkn v i).1 = k at *
    generalize (tkn v i).2.1 = s at *
    generalize (tkn v i).2.2 = a at *
    have HP := Lib.hid (fun W (hb : Below w.heap.size w W) => h.below hb)
    clear h hE hk hl hX hY
    go_enter Tryz.func39, Tryz.ntmps39
    go_wp2_with fail
    refine HC.out.mono ?_
    rintro e w1 ⟨rfl, hb⟩
    have hb2 : Below w.heap.size w (w1.alloc (.cells #[.int .i64 (k : Int), .string s, .int .i64 (a : Int)] 75)) := hb.alloc hb.size _
    have HU2 := Lib.hid (HU.out _ (HP.out _ hb2))
    have HB2 := Lib.hid hb2
    clear hb hb2 HC HU HP
    go_wp2_with fail
    refine HU2.out.mono ?_
    rintro e w2 ⟨rfl, hb⟩
    have HB3 : Hid (w.grownBy w2 (some g)) := Lib.hid (gb_trans (gbOfB HB2.out) (gbOfB hb))
    clear hb HU2 HB2
    go_wp2
    exact ⟨rfl, rfl, HB3.out⟩
set_option maxRecDepth 100000 in
set_option maxHeartbeats 4000000 in
theorem syTakeOwn {v : Ev} (hE : EvK v) (hw : v.wrd = fun s => wdF (bl s)) {w : World} {g i pp : Nat} (h : PB v w g i pp) :
    Calls Tryz.prog 126 #[.pointer (some ⟨g, 0, none⟩)] w (Out v g pp w (ownF v i) VS) := by
  unfold ownF
  have hWd := h.tb.2.1
  have HC := Lib.hid (syNext hE h)
  rw [show nxV (tkn v i) = .agg #[.int .i64 ((tkn v i).1 : Int), .string (tkn v i).2.1, .int .i64 ((tkn v i).2.2 : Int)] from rfl] at HC
  have HW := Lib.hid (fun W (hb : Below w.heap.size w W) => Word_any (tkn v i).2.1 W (wd_below hWd hb))
  rw [show wdF (bl (tkn v i).2.1) = v.wrd (tkn v i).2.1 by rw [hw]] at HW
  have HT := Lib.hid (fun W (hp : PB v W g i pp) => syTake hE hp 2 (by decide))
  have HU := Lib.hid (fun W (hp : PB v W g i pp) => syUnfit hE hp)
  have HP := Lib.hid (fun W (hb : Below w.heap.size w W) => h.below hb)
  cases hb : v.wrd (tkn v i).2.1 with
  | true =>
    rw [hb] at HW
    rw [if_pos rfl]
    unfold unf
    obtain ⟨X, hX⟩ : ∃ X, plc v i = X := ⟨_, rfl⟩
    obtain ⟨Y, hY⟩ : ∃ Y, (if i = v.L.length then 5 else 2 : Nat) = Y := ⟨_, rfl⟩
    rw [hX, hY] at HU
    rw [hX, hY]
    generalize (tkn v i).1 = k at *
    generalize (tkn v i).2.1 = s at *
    generalize (tkn v i).2.2 = a at *
    have ft := fieldTok1
    clear h hE hb hX hY HT hw hWd
    go_enter Tryz.func126, Tryz.ntmps126
    go_wp2_with fail
    refine HC.out.mono ?_
    rintro e w1 ⟨rfl, hb⟩
    have HW2 := Lib.hid (HW.out _ hb)
    have HU2 := Lib.hid (HU.out _ (HP.out _ hb))
    have HB := Lib.hid hb
    clear hb HC HW HP HU
    go_wp2_with fail
    refine HW2.out.mono ?_
    rintro e w2 ⟨rfl, rfl⟩
    clear HW2
    go_wp2_with fail
    refine HU2.out.mono ?_
    rintro e w2 ⟨rfl, hb⟩
    have HB3 : Hid (w.grownBy w2 (some g)) := Lib.hid (gb_trans (gbOfB HB.out) (gbOfB hb))
    clear hb HU2 HB
    go_wp2
    exact ⟨rfl, rfl, HB3.out⟩
  | false =>
    rw [hb] at HW
    rw [if_neg (by decide)]
    generalize (tkn v i).1 = k at *
    generalize (tkn v i).2.1 = s at *
    generalize (tkn v i).2.2 = a at *
    have ft := fieldTok1
    clear hE hb HU hw hWd
    go_enter Tryz.func126, Tryz.ntmps126
    go_wp2_with fail
    refine HC.out.mono ?_
    rintro e w1 ⟨rfl, hb⟩
    have HW2 := Lib.hid (HW.out _ hb)
    have HT2 := Lib.hid (HT.out _ (HP.out _ hb))
    have HB := Lib.hid hb
    clear hb HC HW HP HT h
    go_wp2_with fail
    refine HW2.out.mono ?_
    rintro e w2 ⟨rfl, rfl⟩
    clear HW2
    go_wp2_with fail
    refine HT2.out.mono ?_
    intro e w2 ho
    clear HT2
    generalize tak v 2 i = R at *
    rcases out_cases ho with ⟨x, j, u, rfl, rfl, hv, hp, hb⟩ | ⟨x, er, rfl, rfl, hb⟩
    · have HO : Hid (Out v g pp w (Rs.ok x j) VS (.returned u) w2) := Lib.hid ⟨u, rfl, hv, hp, gb_trans (gbOfB HB.out) hb⟩
      clear ho hv hp hb HB
      go_wp2
      go_ret
      exact HO.out
    · have HO := Lib.hid (gb_trans (gbOfB HB.out) hb)
      clear ho hb HB
      go_wp2
      exact ⟨rfl, rfl, HO.out⟩
end Go.Proofs.YtpgiljibicigeaaGreatDoor
