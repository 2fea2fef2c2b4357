/- syntax: the parser's box, a part in memory; next, behind, fault, unfit, is walked. -/
import Derived.Test.YtpgiljibicigeaaGreatDoorSynMaths
import Derived.Test.YtpgiljibicigeaaGreatDoorLexPs
import Derived.Test.YtpgiljibicigeaaGreatDoorSynMathB
import Derived.BigQuiet
import Derived.BigRegion
set_option linter.unusedVariables false
set_option linter.unusedSimpArgs false
namespace Go.Proofs.YtpgiljibicigeaaGreatDoor
open Go.RowKit SX

/-- the tokens' cells -/
def t3c : List T3 → List Value
  | [] => []
  | t :: L => .int .i64 (t.1 : Int) :: .string t.2.1 :: .int .i64 (t.2.2 : Int) :: t3c L
theorem t3c_at : ∀ {L : List T3} {i : Nat} {t : T3}, L[i]? = some t → (t3c L)[i * 3]? = some (.int .i64 (t.1 : Int)) ∧ (t3c L)[i * 3 + 1]? = some (.string t.2.1) ∧ (t3c L)[i * 3 + 2]? = some (.int .i64 (t.2.2 : Int))
  | [], _, _, h => by simp at h
  | u :: L, 0, t, h => by
    have : u = t := by simpa using h
    subst this
    exact ⟨rfl, rfl, rfl⟩
  | u :: L, i + 1, t, h => by
    have ih := t3c_at (L := L) (i := i) (t := t) (by simpa using h)
    have e : t3c (u :: L) = [.int .i64 (u.1 : Int), .string u.2.1, .int .i64 (u.2.2 : Int)] ++ t3c L := rfl
    have key : ∀ j, (t3c (u :: L))[j + 3]? = (t3c L)[j]? := fun j => by
      rw [e, List.getElem?_append_right (by simp)]; rfl
    refine ⟨?_, ?_, ?_⟩
    · rw [show (i + 1) * 3 = i * 3 + 3 by omega, key]; exact ih.1
    · rw [show (i + 1) * 3 + 1 = i * 3 + 1 + 3 by omega, key]; exact ih.2.1
    · rw [show (i + 1) * 3 + 2 = i * 3 + 2 + 3 by omega, key]; exact ih.2.2
structure EvK (v : Ev) : Prop where
  len : v.L.length ≤ 100000
  en : v.E ≤ 100000
  tk : ∀ t ∈ v.L, t.1 ≤ 11 ∧ t.2.2 ≤ 100000 ∧ t.2.1.size ≤ 1000000
theorem EvK.of {v : Ev} (h : EvK v) (i : Nat) : (tkn v i).1 ≤ 11 ∧ (tkn v i).2.2 ≤ 100000 ∧ (tkn v i).2.1.size ≤ 1000000 := by
  unfold SX.tkn
  cases hq : v.L[i]? with
  | none => exact ⟨by decide, by decide, by decide⟩
  | some t => exact h.tk t (List.mem_of_getElem? hq)
/-- the table of signs of two sides -/
def ssT : List Value := sgs.flatMap fun r => [.string r.1, .int .i64 (r.2.1 : Int), .int .i64 (r.2.2.1 : Int), .int .i64 (r.2.2.2 : Int)]
def Ss (w : World) : Prop := ∀ j u, ssT[j]? = some u → w.cell? ⟨1, j, none⟩ = some u
def TBs (w : World) : Prop := Tab w ∧ Wd w ∧ Ss w
/-- the tables stand below the box -/
def TB (w : World) (g : Nat) : Prop := ∃ w0, w0.heap.size ≤ g ∧ w0.heap.size ≤ w.heap.size ∧ TBs w0 ∧ Below w0.heap.size w0 w
theorem TB.gb {w w' : World} {g : Nat} (h : TB w g) (hg : w.grownBy w' (some g)) : TB w' g := by
  obtain ⟨w0, h1, h2, h3, h4⟩ := h
  exact ⟨w0, h1, Nat.le_trans h2 hg.size, h3, h4.trans (gb_below hg h2 h1)⟩
theorem TB.get {w : World} {g : Nat} (h : TB w g) : TBs w := by
  obtain ⟨w0, h1, h2, ⟨h3, h4, h5⟩, hb⟩ := h
  exact ⟨h3.below hb, h4.below hb, fun j u hj => by rw [hb.cell (lt_of_cell (h5 j u hj))]; exact h5 j u hj⟩
/-- where the tokens lie -/
def TokS (v : Ev) (w : World) (g : Nat) (ao : Option Addr) : Prop := v.L = [] ∨ ∃ tb, ao = some ⟨tb, 0, none⟩ ∧ tb < g ∧ ∀ j u, (t3c v.L)[j]? = some u → w.cell? ⟨tb, j, none⟩ = some u
structure PBX (v : Ev) (w : World) (g i pp : Nat) (ao : Option Addr) (cap : Nat) : Prop where
  c0 : w.cell? ⟨g, 0, none⟩ = some (.slice ao v.L.length cap)
  c1 : w.cell? ⟨g, 1, none⟩ = some (.int .i64 (i : Int))
  c2 : w.cell? ⟨g, 2, none⟩ = some (.int .i64 (v.E : Int))
  c3 : w.cell? ⟨g, 3, none⟩ = some (.int .i64 (pp : Int))
  fz : ∀ j, w.frozen? ⟨g, j, none⟩ = false
  tk : TokS v w g ao
  il : i ≤ v.L.length
  pl : pp ≤ 600
  tb : TB w g
def PB (v : Ev) (w : World) (g i pp : Nat) : Prop := ∃ ao cap, PBX v w g i pp ao cap
theorem PBX.lt {v : Ev} {w : World} {g i pp : Nat} {ao : Option Addr} {cap : Nat} (h : PBX v w g i pp ao cap) : g < w.heap.size := lt_of_cell h.c0
theorem PB.lt {v : Ev} {w : World} {g i pp : Nat} (h : PB v w g i pp) : g < w.heap.size := by obtain ⟨_, _, h⟩ := h; exact h.lt
theorem PBX.below {v : Ev} {w w' : World} {g i pp : Nat} {ao : Option Addr} {cap : Nat} (h : PBX v w g i pp ao cap) (hb : Below w.heap.size w w') : PBX v w' g i pp ao cap := by
  have hg := h.lt
  have key : ∀ (b j : Nat) (u : Value), b < w.heap.size → w.cell? ⟨b, j, none⟩ = some u → w'.cell? ⟨b, j, none⟩ = some u := fun b j u hl e => by rw [hb.cell (p := ⟨b, j, none⟩) hl]; exact e
  refine ⟨key _ _ _ hg h.c0, key _ _ _ hg h.c1, key _ _ _ hg h.c2, key _ _ _ hg h.c3, fun j => (hb.frozen (p := ⟨g, j, none⟩) hg).trans (h.fz j), ?_, h.il, h.pl, h.tb.gb (gb_of_below hb)⟩
  rcases h.tk with e | ⟨tb, e, hl, hc⟩
  · exact .inl e
  · exact .inr ⟨tb, e, hl, fun j u hu => key _ _ _ (Nat.lt_trans hl hg) (hc j u hu)⟩
theorem PB.below {v : Ev} {w w' : World} {g i pp : Nat} (h : PB v w g i pp) (hb : Below w.heap.size w w') : PB v w' g i pp := by
  obtain ⟨a, c, h⟩ := h; exact ⟨a, c, h.below hb⟩
theorem PB.dN {v : Ev} {w : World} {g i pp : Nat} (h : PB v w g i pp) (n : Nat) : PB v (w.drewN n) g i pp := by
  obtain ⟨a, c, h⟩ := h; exact ⟨a, c, h.c0, h.c1, h.c2, h.c3, h.fz, h.tk, h.il, h.pl, h.tb.gb (gb_dN (gb_refl _ _) n)⟩
/-- the place is set -/
theorem PBX.step {v : Ev} {w : World} {g i pp : Nat} {ao : Option Addr} {cap : Nat} (h : PBX v w g i pp ao cap) {k : Nat} (hk : k ≤ v.L.length) {n : Int} (hn : n = (k : Int)) : PBX v (w.setCell ⟨g, 1, none⟩ (.int .i64 n)) g k pp ao cap := by
  subst hn
  refine ⟨?_, by simp [go_sem, h.c1], ?_, ?_, fun j => by simp [go_sem, h.fz j], ?_, hk, h.pl, h.tb.gb (gb_set (gb_refl _ _) _ _)⟩
  · rw [World.cell?_setCell_other _ _ _ _ (by simp)]; exact h.c0
  · rw [World.cell?_setCell_other _ _ _ _ (by simp)]; exact h.c2
  · rw [World.cell?_setCell_other _ _ _ _ (by simp)]; exact h.c3
  · rcases h.tk with e | ⟨tb, e, hl, hc⟩
    · exact .inl e
    · exact .inr ⟨tb, e, hl, fun j u hu => by rw [World.cell?_setCell_other _ _ _ _ (by simp)]; exact hc j u hu⟩
/-- so many pipes -/
theorem PBX.pip {v : Ev} {w : World} {g i pp : Nat} {ao : Option Addr} {cap : Nat} (h : PBX v w g i pp ao cap) {k : Nat} (hk : k ≤ 600) {n : Int} (hn : n = (k : Int)) : PBX v (w.setCell ⟨g, 3, none⟩ (.int .i64 n)) g i k ao cap := by
  subst hn
  refine ⟨?_, ?_, ?_, by simp [go_sem, h.c3], fun j => by simp [go_sem, h.fz j], ?_, h.il, hk, h.tb.gb (gb_set (gb_refl _ _) _ _)⟩
  · rw [World.cell?_setCell_other _ _ _ _ (by simp)]; exact h.c0
  · rw [World.cell?_setCell_other _ _ _ _ (by simp)]; exact h.c1
  · rw [World.cell?_setCell_other _ _ _ _ (by simp)]; exact h.c2
  · rcases h.tk with e | ⟨tb, e, hl, hc⟩
    · exact .inl e
    · exact .inr ⟨tb, e, hl, fun j u hu => by rw [World.cell?_setCell_other _ _ _ _ (by simp)]; exact hc j u hu⟩
theorem bel3 {B nw : Nat} {w w1 : World} (h : Below B w w1) (hb : B ≤ nw) (a b c : Value) : Below B w (((w1.setCell ⟨nw, 0, none⟩ a).setCell ⟨nw, 1, none⟩ b).setCell ⟨nw, 2, none⟩ c) :=
  ((h.setCell (p := ⟨nw, 0, none⟩) hb a).setCell (p := ⟨nw, 1, none⟩) hb b).setCell (p := ⟨nw, 2, none⟩) hb c
theorem PB.il {v : Ev} {w : World} {g i pp : Nat} (h : PB v w g i pp) : i ≤ v.L.length := by obtain ⟨_, _, h⟩ := h; exact h.il
theorem PB.tb {v : Ev} {w : World} {g i pp : Nat} (h : PB v w g i pp) : TBs w := by obtain ⟨_, _, h⟩ := h; exact h.tb.get
/-- what is said of the tokens -/
structure EvA (v : Ev) : Prop where
  k : EvK v
  q : EvQ v
  nm : v.num = fun s => (prsA s).err
  wd : v.wrd = fun s => wdF (bl s)
def nxV (t : T3) : Value := .agg #[.int .i64 (t.1 : Int), .string t.2.1, .int .i64 (t.2.2 : Int)]
theorem tkn_at {v : Ev} {i : Nat} (h : i < v.L.length) : v.L[i]? = some (tkn v i) := by
  unfold tkn; rw [List.getElem?_eq_getElem h]; rfl
theorem tkn_no {v : Ev} {i : Nat} (h : v.L.length ≤ i) : tkn v i = (0, ⟨#[]⟩, 0) := by
  unfold tkn; rw [List.getElem?_eq_none h]; rfl
set_option maxRecDepth 100000 in
set_option maxHeartbeats 4000000 in
theorem syBehind {v : Ev} (hE : EvK v) {w : World} {g i pp : Nat} (h : PB v w g i pp) (n : Nat) (hn : n ≤ 1) :
    Calls Tryz.prog 59 #[.pointer (some ⟨g, 0, none⟩), .int .i64 (n : Int)] w fun e w' => e = .returned (nxV (tkn v (i + n))) ∧ Below w.heap.size w w' := by
  obtain ⟨ao, cap, h⟩ := h
  have hl := hE.len
  have hi := h.il
  have c0 := h.c0; have c1 := h.c1
  have s0 : IntKind.i64.wrap ((i : Int) + (n : Int)) = ((i + n : Nat) : Int) := by rw [show (i : Int) + (n : Int) = ((i + n : Nat) : Int) by omega]; exact IntWalk.i64_in _ (by omega)
  have hg := h.lt
  have ng1 : ¬ g = w.heap.size := by omega
  have ng2 : ¬ w.heap.size = g := by omega
  by_cases hlt : i + n < v.L.length
  · obtain ⟨tb, rfl, htb, hc⟩ : ∃ tb, ao = some ⟨tb, 0, none⟩ ∧ tb < g ∧ ∀ j u, (t3c v.L)[j]? = some u → w.cell? ⟨tb, j, none⟩ = some u := by
      rcases h.tk with e | e
      · rw [e] at hlt; simp at hlt
      · exact e
    obtain ⟨q0, q1, q2⟩ := t3c_at (tkn_at hlt)
    have d0 := hc _ _ q0; have d1 := hc _ _ q1; have d2 := hc _ _ q2
    have HB : Hid (Below w.heap.size w w) := Lib.hid (Below.refl _ _)
    have E : nxV (tkn v (i + n)) = .agg #[.int .i64 ((tkn v (i + n)).1 : Int), .string (tkn v (i + n)).2.1, .int .i64 ((tkn v (i + n)).2.2 : Int)] := rfl
    rw [E]
    generalize tkn v (i + n) = t at *
    obtain ⟨k, s, a⟩ := t
    simp only at d0 d1 d2 ⊢
    have f1 : ¬ (v.L.length : Int) ≤ ((i + n : Nat) : Int) := by omega
    have f2 : ((i + n : Nat) : Int) < (v.L.length : Int) := by omega
    have hib : ((i + n : Nat) : Int) ≤ 1000000 := by omega
    have nt1 : ¬ tb = w.heap.size := by omega
    have nt2 : ¬ w.heap.size = tb := by omega
    generalize hm : i + n = m at *
    have HM := Lib.hid hm
    have HT : Hid (tb < w.heap.size) := Lib.hid (by omega)
    clear hm h hc q0 q1 q2 hlt hi htb E hE
    go_enter Tryz.func59, Tryz.ntmps59
    go_wp2_with fail
    obtain ⟨w1, hW⟩ : ∃ x, w.alloc (.cells #[.int .i64 0, .string ⟨#[]⟩, .int .i64 0] 75) = x := ⟨_, rfl⟩
    have hB1 : Below w.heap.size w w1 := by rw [← hW]; exact (Below.refl _ _).alloc (Nat.le_refl _) _
    have k0 : w1.cell? ⟨g, 0, none⟩ = some (.slice (some ⟨tb, 0, none⟩) v.L.length cap) := by rw [← hW, cell_old hg]; exact c0
    have k1 : w1.cell? ⟨g, 1, none⟩ = some (.int .i64 (i : Int)) := by rw [← hW, cell_old hg]; exact c1
    have r0 : w1.cell? ⟨w.heap.size, 0, none⟩ = some (.int .i64 0) := by rw [← hW]; exact cell_new rfl
    have r1 : w1.cell? ⟨w.heap.size, 1, none⟩ = some (.string ⟨#[]⟩) := by rw [← hW]; exact cell_new rfl
    have r2 : w1.cell? ⟨w.heap.size, 2, none⟩ = some (.int .i64 0) := by rw [← hW]; exact cell_new rfl
    have f0 : ∀ j, w1.frozen? ⟨w.heap.size, j, none⟩ = false := fun j => by rw [← hW]; exact frz_new rfl
    have htbw : tb < w.heap.size := HT.out
    have y0 : w1.cell? ⟨tb, m * 3, none⟩ = some (.int .i64 (k : Int)) := by rw [← hW, cell_old htbw]; exact d0
    have y1 : w1.cell? ⟨tb, m * 3 + 1, none⟩ = some (.string s) := by rw [← hW, cell_old htbw]; exact d1
    have y2 : w1.cell? ⟨tb, m * 3 + 2, none⟩ = some (.int .i64 (a : Int)) := by rw [← hW, cell_old htbw]; exact d2
    rw [hW]
    have HB1 := Lib.hid hB1
    have HS : Hid (Below w.heap.size w w1) := Lib.hid hB1
    clear hW hB1 c0 c1 d0 d1 d2 hg ng1 ng2 HB
    generalize hnw : w.heap.size = nw at *
    have HNW := Lib.hid hnw
    clear hnw
    go_quiet (fail)
    go_wp2_with fail
    go_region
    all_goals
      go_wp2_with fail
      refine bodyPost_ret (v := .agg #[.int .i64 (k : Int), .string s, .int .i64 (a : Int)]) (by simp [results, Tryz.results59, go_sem, r0, r1, r2]) rfl ?_
      exact ⟨rfl, by rw [HNW.out]; exact bel3 (bdN HS.out _) (Nat.le_refl _) _ _ _⟩
  · have E : nxV (tkn v (i + n)) = .agg #[.int .i64 0, .string ⟨#[]⟩, .int .i64 0] := by rw [tkn_no (by omega)]; rfl
    rw [E]
    have f1 : (v.L.length : Int) ≤ ((i + n : Nat) : Int) := by omega
    generalize hm : i + n = m at *
    clear hm h hlt hi E hE
    go_enter Tryz.func59, Tryz.ntmps59
    go_wp2_with fail
    obtain ⟨w1, hW⟩ : ∃ x, w.alloc (.cells #[.int .i64 0, .string ⟨#[]⟩, .int .i64 0] 75) = x := ⟨_, rfl⟩
    have hB1 : Below w.heap.size w w1 := by rw [← hW]; exact (Below.refl _ _).alloc (Nat.le_refl _) _
    have k0 : w1.cell? ⟨g, 0, none⟩ = some (.slice ao v.L.length cap) := by rw [← hW, cell_old hg]; exact c0
    have k1 : w1.cell? ⟨g, 1, none⟩ = some (.int .i64 (i : Int)) := by rw [← hW, cell_old hg]; exact c1
    have r0 : w1.cell? ⟨w.heap.size, 0, none⟩ = some (.int .i64 0) := by rw [← hW]; exact cell_new rfl
    have r1 : w1.cell? ⟨w.heap.size, 1, none⟩ = some (.string ⟨#[]⟩) := by rw [← hW]; exact cell_new rfl
    have r2 : w1.cell? ⟨w.heap.size, 2, none⟩ = some (.int .i64 0) := by rw [← hW]; exact cell_new rfl
    have f0 : ∀ j, w1.frozen? ⟨w.heap.size, j, none⟩ = false := fun j => by rw [← hW]; exact frz_new rfl
    rw [hW]
    have HS : Hid (Below w.heap.size w w1) := Lib.hid hB1
    clear hW hB1 c0 c1 hg ng1 ng2
    generalize hnw : w.heap.size = nw at *
    have HNW := Lib.hid hnw
    clear hnw
    go_quiet (fail)
    go_wp2_with fail
    refine bodyPost_ret (v := .agg #[.int .i64 0, .string ⟨#[]⟩, .int .i64 0]) (by simp [results, Tryz.results59, go_sem, r0, r1, r2]) rfl ?_
    exact ⟨rfl, by rw [HNW.out]; exact bel3 (bdN HS.out _) (Nat.le_refl _) _ _ _⟩
end Go.Proofs.YtpgiljibicigeaaGreatDoor

/- syntax: next, fault, unfit, isSign, is walked. -/
namespace Go.Proofs.YtpgiljibicigeaaGreatDoor
open Go.RowKit SX

theorem bel2 {B nw : Nat} {w w1 : World} (h : Below B w w1) (hb : B ≤ nw) (a b : Value) : Below B w ((w1.setCell ⟨nw, 0, none⟩ a).setCell ⟨nw, 1, none⟩ b) :=
  (h.setCell (p := ⟨nw, 0, none⟩) hb a).setCell (p := ⟨nw, 1, none⟩) hb b
theorem infoI0 : (Tryz.prog.info? 3).map (fun i => i.size) = some 1 := by kernel_rfl
theorem fieldTok (x y z : Value) (w : World) : (Instr.field 75 (.agg #[x, y, z]) 2).run Tryz.prog w = .ok z w := by
  have h := run_underlying (P := Tryz.prog) (w := w) Tryz.underlying75
  cases hq : Tryz.prog.info? 3 with
  | none => have := infoI0; rw [hq] at this; cases this
  | some i =>
    have h2 := infoI0
    rw [hq] at h2
    have hz : i.size = 1 := by simpa using h2
    simp [Instr.field, h, part, asAgg, isAgg, typeInfo, sizeOf, hq, hz, go_sem]
theorem fieldTok0 (x y z : Value) (w : World) : (Instr.field 75 (.agg #[x, y, z]) 0).run Tryz.prog w = .ok x w := by
  have h := run_underlying (P := Tryz.prog) (w := w) Tryz.underlying75
  cases hq : Tryz.prog.info? 3 with
  | none => have := infoI0; rw [hq] at this; cases this
  | some i =>
    have h2 := infoI0
    rw [hq] at h2
    have hz : i.size = 1 := by simpa using h2
    simp [Instr.field, h, part, asAgg, isAgg, typeInfo, sizeOf, hq, hz, go_sem]
theorem fieldTok1 (x y z : Value) (w : World) : (Instr.field 75 (.agg #[x, y, z]) 1).run Tryz.prog w = .ok y w := by
  have h := run_underlying (P := Tryz.prog) (w := w) Tryz.underlying75
  cases hq : Tryz.prog.info? 3 with
  | none => have := infoI0; rw [hq] at this; cases this
  | some i =>
    have h2 := infoI0
    rw [hq] at h2
    have hz : i.size = 1 := by simpa using h2
    simp [Instr.field, h, part, asAgg, isAgg, typeInfo, sizeOf, hq, hz, go_sem]
set_option maxRecDepth 100000 in
set_option maxHeartbeats 4000000 in
theorem syNext {v : Ev} (hE : EvK v) {w : World} {g i pp : Nat} (h : PB v w g i pp) :
    Calls Tryz.prog 36 #[.pointer (some ⟨g, 0, none⟩)] w fun e w' => e = .returned (nxV (tkn v i)) ∧ Below w.heap.size w w' := by
  have HC := Lib.hid (fun W (hb : Below w.heap.size w W) => syBehind hE (h.below hb) 0 (by decide))
  rw [show nxV (tkn v i) = .agg #[.int .i64 ((tkn v i).1 : Int), .string (tkn v i).2.1, .int .i64 ((tkn v i).2.2 : Int)] from rfl]
  simp only [Nat.add_zero] at HC
  rw [show nxV (tkn v i) = .agg #[.int .i64 ((tkn v i).1 : Int), .string (tkn v i).2.1, .int .i64 ((tkn v i).2.2 : Int)] from rfl] at HC
  generalize tkn v i = t at *
  obtain ⟨k, s, a⟩ := t
  simp only at HC ⊢
  clear h hE
  go_enter Tryz.func36, Tryz.ntmps36
  go_wp2_with fail
  have hb1 : Below w.heap.size w (w.alloc (.cells #[.int .i64 0, .string ⟨#[]⟩, .int .i64 0] 75)) := (Below.refl _ _).alloc (Nat.le_refl _) _
  refine (HC.out _ hb1).mono ?_
  rintro e w2 ⟨rfl, hb⟩
  have hl : w.heap.size < (w.alloc (.cells #[.int .i64 0, .string ⟨#[]⟩, .int .i64 0] 75)).heap.size := by simp
  have r0 : w2.cell? ⟨w.heap.size, 0, none⟩ = some (.int .i64 0) := by rw [hb.cell hl]; exact cell_new rfl
  have r1 : w2.cell? ⟨w.heap.size, 1, none⟩ = some (.string ⟨#[]⟩) := by rw [hb.cell hl]; exact cell_new rfl
  have r2 : w2.cell? ⟨w.heap.size, 2, none⟩ = some (.int .i64 0) := by rw [hb.cell hl]; exact cell_new rfl
  have f0 : ∀ j, w2.frozen? ⟨w.heap.size, j, none⟩ = false := fun j => (hb.frozen (p := ⟨w.heap.size, j, none⟩) hl).trans (frz_new rfl)
  have HS : Hid (Below w.heap.size w w2) := Lib.hid (hb1.trans (hb.mono hb1.size))
  clear hb hb1 hl HC
  generalize hnw : w.heap.size = nw at *
  have HNW := Lib.hid hnw
  clear hnw
  go_wp2
  refine bodyPost_ret (v := .agg #[.int .i64 (k : Int), .string s, .int .i64 (a : Int)]) (by simp [results, Tryz.results36, go_sem, r0, r1, r2]) rfl ?_
  exact ⟨rfl, by rw [HNW.out]; exact bel3 HS.out (Nat.le_refl _) _ _ _⟩
set_option maxRecDepth 100000 in
set_option maxHeartbeats 4000000 in
theorem syFault {v : Ev} (hE : EvK v) {w : World} {g i pp : Nat} (h : PB v w g i pp) (er : Nat) :
    Calls Tryz.prog 27 #[.pointer (some ⟨g, 0, none⟩), .int .i64 (er : Int)] w fun e w' => e = .returned (.agg #[.int .i64 (plc v i : Int), .int .i64 (er : Int)]) ∧ Below w.heap.size w w' := by
  have HC := Lib.hid (fun W (hb : Below w.heap.size w W) => syNext hE (h.below hb))
  obtain ⟨ao, cap, h⟩ := h
  have c0 := h.c0; have c1 := h.c1; have c2 := h.c2
  have hg := h.lt
  have hil := h.il
  have hl := hE.len
  unfold plc
  have hb1 : Below w.heap.size w (w.alloc (.cells #[.int .i64 0, .int .i64 0] 58)) := (Below.refl _ _).alloc (Nat.le_refl _) _
  obtain ⟨w1, hW⟩ : ∃ x, w.alloc (.cells #[.int .i64 0, .int .i64 0] 58) = x := ⟨_, rfl⟩
  have hs1 : w.heap.size < w1.heap.size := by rw [← hW]; simp
  have k0 : w1.cell? ⟨g, 0, none⟩ = some (.slice ao v.L.length cap) := by rw [← hW, cell_old hg]; exact c0
  have k1 : w1.cell? ⟨g, 1, none⟩ = some (.int .i64 (i : Int)) := by rw [← hW, cell_old hg]; exact c1
  have k2 : w1.cell? ⟨g, 2, none⟩ = some (.int .i64 (v.E : Int)) := by rw [← hW, cell_old hg]; exact c2
  have r0 : w1.cell? ⟨w.heap.size, 0, none⟩ = some (.int .i64 0) := by rw [← hW]; exact cell_new rfl
  have r1 : w1.cell? ⟨w.heap.size, 1, none⟩ = some (.int .i64 0) := by rw [← hW]; exact cell_new rfl
  have f0 : ∀ j, w1.frozen? ⟨w.heap.size, j, none⟩ = false := fun j => by rw [← hW]; exact frz_new rfl
  have HS : Hid (Below w.heap.size w w1) := Lib.hid (by rw [← hW]; exact hb1)
  have HW := Lib.hid hW
  have HS1 := Lib.hid hs1
  by_cases he : i = v.L.length
  · rw [if_pos he]
    subst he
    clear h hE HC c0 c1 c2 hg hil hb1 hW hs1
    go_enter Tryz.func27, Tryz.ntmps27
    go_wp2_with fail
    rw [HW.out]
    generalize hnw : w.heap.size = nw at *
    have HNW := Lib.hid hnw
    clear hnw HW HS1
    go_quiet (fail)
    go_wp2
    refine bodyPost_ret (v := .agg #[.int .i64 (v.E : Int), .int .i64 (er : Int)]) (by simp [results, Tryz.results27, go_sem, r0, r1]) rfl ?_
    exact ⟨rfl, by rw [HNW.out]; exact bel2 (bdN HS.out _) (Nat.le_refl _) _ _⟩
  · rw [if_neg he]
    have he1 : ((i : Int) == (v.L.length : Int)) = false := by rw [beq_eq_false_iff_ne]; omega
    have he2 : ¬ (i : Int) = (v.L.length : Int) := by omega
    rw [show nxV (tkn v i) = .agg #[.int .i64 ((tkn v i).1 : Int), .string (tkn v i).2.1, .int .i64 ((tkn v i).2.2 : Int)] from rfl] at HC
    generalize tkn v i = t at *
    obtain ⟨k, s, a⟩ := t
    simp only at HC ⊢
    clear h hE c0 c1 c2 hg hil hb1 hW hs1 he
    go_enter Tryz.func27, Tryz.ntmps27
    go_wp2_with fail
    rw [HW.out]
    go_quiet (fail)
    go_wp2_with fail
    refine (HC.out _ (bdN HS.out _)).mono ?_
    rintro e w2 ⟨rfl, hb⟩
    have hl2 : w.heap.size < (w1.drewN nq).heap.size := HS1.out
    have s0 : w2.cell? ⟨w.heap.size, 0, none⟩ = some (.int .i64 0) := by rw [hb.cell hl2]; exact r0
    have s1 : w2.cell? ⟨w.heap.size, 1, none⟩ = some (.int .i64 0) := by rw [hb.cell hl2]; exact r1
    have g0 : ∀ j, w2.frozen? ⟨w.heap.size, j, none⟩ = false := fun j => (hb.frozen (p := ⟨w.heap.size, j, none⟩) hl2).trans (f0 j)
    have HS2 : Hid (Below w.heap.size w w2) := Lib.hid ((bdN HS.out nq).trans (hb.mono (show w.heap.size ≤ (w1.drewN nq).heap.size from HS.out.size)))
    have ft := fieldTok
    clear hb hl2 HC HS HS1 r0 r1 f0 k0 k1 k2 HW
    generalize hnw : w.heap.size = nw at *
    have HNW := Lib.hid hnw
    clear hnw
    go_wp2
    refine bodyPost_ret (v := .agg #[.int .i64 (a : Int), .int .i64 (er : Int)]) (by simp [results, Tryz.results27, go_sem, s0, s1]) rfl ?_
    exact ⟨rfl, by rw [HNW.out]; exact bel2 HS2.out (Nat.le_refl _) _ _⟩
set_option maxRecDepth 100000 in
set_option maxHeartbeats 4000000 in
theorem syUnfit {v : Ev} (hE : EvK v) {w : World} {g i pp : Nat} (h : PB v w g i pp) :
    Calls Tryz.prog 23 #[.pointer (some ⟨g, 0, none⟩)] w fun e w' => e = .returned (.agg #[.int .i64 (plc v i : Int), .int .i64 ((if i = v.L.length then 5 else 2 : Nat) : Int)]) ∧ Below w.heap.size w w' := by
  have HC := Lib.hid (fun W (hb : Below w.heap.size w W) er => syFault hE (h.below hb) er)
  obtain ⟨ao, cap, h⟩ := h
  have c0 := h.c0; have c1 := h.c1
  have hg := h.lt
  have hil := h.il
  have hb1 : Below w.heap.size w (w.alloc (.cells #[.int .i64 0, .int .i64 0] 58)) := (Below.refl _ _).alloc (Nat.le_refl _) _
  obtain ⟨w1, hW⟩ : ∃ x, w.alloc (.cells #[.int .i64 0, .int .i64 0] 58) = x := ⟨_, rfl⟩
  have hs1 : w.heap.size < w1.heap.size := by rw [← hW]; simp
  have k0 : w1.cell? ⟨g, 0, none⟩ = some (.slice ao v.L.length cap) := by rw [← hW, cell_old hg]; exact c0
  have k1 : w1.cell? ⟨g, 1, none⟩ = some (.int .i64 (i : Int)) := by rw [← hW, cell_old hg]; exact c1
  have r0 : w1.cell? ⟨w.heap.size, 0, none⟩ = some (.int .i64 0) := by rw [← hW]; exact cell_new rfl
  have r1 : w1.cell? ⟨w.heap.size, 1, none⟩ = some (.int .i64 0) := by rw [← hW]; exact cell_new rfl
  have f0 : ∀ j, w1.frozen? ⟨w.heap.size, j, none⟩ = false := fun j => by rw [← hW]; exact frz_new rfl
  have HS : Hid (Below w.heap.size w w1) := Lib.hid (by rw [← hW]; exact hb1)
  have HW := Lib.hid hW
  have HS1 := Lib.hid hs1
  obtain ⟨X, hX⟩ : ∃ X, plc v i = X := ⟨_, rfl⟩
  rw [hX] at HC ⊢
  have key : ∀ er : Nat, ∀ W, Below w.heap.size w W → w.heap.size < W.heap.size → W.cell? ⟨w.heap.size, 0, none⟩ = some (.int .i64 0) → W.cell? ⟨w.heap.size, 1, none⟩ = some (.int .i64 0) → (∀ j, W.frozen? ⟨w.heap.size, j, none⟩ = false) → Calls Tryz.prog 27 #[.pointer (some ⟨g, 0, none⟩), .int .i64 (er : Int)] W fun e w2 => e = .returned (.agg #[.int .i64 (X : Int), .int .i64 (er : Int)]) ∧ w2.cell? ⟨w.heap.size, 0, none⟩ = some (.int .i64 0) ∧ w2.cell? ⟨w.heap.size, 1, none⟩ = some (.int .i64 0) ∧ (∀ j, w2.frozen? ⟨w.heap.size, j, none⟩ = false) ∧ Hid (Below w.heap.size w w2) := fun er W h1 h2 h3 h4 h5 => by
    refine (HC.out W h1 er).mono ?_
    rintro e w2 ⟨rfl, hb⟩
    exact ⟨rfl, by rw [hb.cell h2]; exact h3, by rw [hb.cell h2]; exact h4, fun j => (hb.frozen (p := ⟨w.heap.size, j, none⟩) h2).trans (h5 j), Lib.hid (h1.trans (hb.mono h1.size))⟩
  have HK := Lib.hid key
  by_cases he : i = v.L.length
  · rw [if_pos he]
    subst he
    clear h hE HC c0 c1 hg hil hb1 hW hs1 key hX
    go_enter Tryz.func23, Tryz.ntmps23
    go_wp2_with fail
    rw [HW.out]
    go_quiet (fail)
    go_wp2_with fail
    refine (HK.out 5 _ (bdN HS.out _) HS1.out r0 r1 f0).mono ?_
    rintro e w2 ⟨rfl, s0, s1, g0, HS2⟩
    clear HK HS HS1 r0 r1 f0 k0 k1 HW
    generalize hnw : w.heap.size = nw at *
    have HNW := Lib.hid hnw
    clear hnw
    go_wp2
    refine bodyPost_ret (v := .agg #[.int .i64 (X : Int), .int .i64 5]) (by simp [results, Tryz.results23, go_sem, s0, s1]) rfl ?_
    exact ⟨rfl, by rw [HNW.out]; exact bel2 HS2.out (Nat.le_refl _) _ _⟩
  · rw [if_neg he]
    have he1 : ((i : Int) == (v.L.length : Int)) = false := by rw [beq_eq_false_iff_ne]; omega
    have he2 : ¬ (i : Int) = (v.L.length : Int) := by omega
    clear h hE HC c0 c1 hg hil hb1 hW hs1 key hX he
    go_enter Tryz.func23, Tryz.ntmps23
    go_wp2_with fail
    rw [HW.out]
    go_quiet (fail)
    go_wp2_with fail
    refine (HK.out 2 _ (bdN HS.out _) HS1.out r0 r1 f0).mono ?_
    rintro e w2 ⟨rfl, s0, s1, g0, HS2⟩
    clear HK HS HS1 r0 r1 f0 k0 k1 HW
    generalize hnw : w.heap.size = nw at *
    have HNW := Lib.hid hnw
    clear hnw
    go_wp2
    refine bodyPost_ret (v := .agg #[.int .i64 (X : Int), .int .i64 2]) (by simp [results, Tryz.results23, go_sem, s0, s1]) rfl ?_
    exact ⟨rfl, by rw [HNW.out]; exact bel2 HS2.out (Nat.le_refl _) _ _⟩
theorem seq_val (a b : ByteArray) : (a.toList == b.toList) = SX.seq a b := by unfold SX.seq; rw [ByteArray.toList_eq, ByteArray.toList_eq]
set_option maxRecDepth 100000 in
set_option maxHeartbeats 4000000 in
theorem syIsSign (t : T3) (S : ByteArray) (w : World) :
    Calls Tryz.prog 78 #[nxV t, .string S] w fun e w' => e = .returned (.bool (isT t S)) ∧ Below w.heap.size w w' := by
  obtain ⟨k, s, a⟩ := t
  show Calls Tryz.prog 78 #[.agg #[.int .i64 (k : Int), .string s, .int .i64 (a : Int)], .string S] w fun e w' => e = .returned (.bool ((k == 6 || k == 2) && SX.seq s S)) ∧ Below w.heap.size w w'
  have HB : Hid (Below w.heap.size w (w.alloc (.cells #[.int .i64 (k : Int), .string s, .int .i64 (a : Int)] 75))) := Lib.hid ((Below.refl _ _).alloc (Nat.le_refl _) _)
  have HV := Lib.hid (seq_val s S)
  obtain ⟨b, hb⟩ : ∃ b, SX.seq s S = b := ⟨_, rfl⟩
  rw [hb] at HV ⊢
  have hq : (s.toList == S.toList) = b := HV.out
  clear hb
  by_cases h6 : k = 6
  · subst h6
    go_enter Tryz.func78, Tryz.ntmps78
    go_wp2
    go_ret
    exact ⟨rfl, HB.out⟩
  by_cases h2 : k = 2
  · subst h2
    go_enter Tryz.func78, Tryz.ntmps78
    go_wp2
    go_ret
    exact ⟨rfl, HB.out⟩
  · have e6 : ((k : Int) == 6) = false := by rw [beq_eq_false_iff_ne]; omega
    have e2 : ((k : Int) == 2) = false := by rw [beq_eq_false_iff_ne]; omega
    have e7 : (k == 6) = false := by rw [beq_eq_false_iff_ne]; omega
    have e3 : (k == 2) = false := by rw [beq_eq_false_iff_ne]; omega
    rw [e7, e3, Bool.false_or, Bool.false_and]
    clear h6 h2 e7 e3
    go_enter Tryz.func78, Tryz.ntmps78
    go_wp2
    go_ret
    exact ⟨rfl, HB.out⟩
set_option maxRecDepth 100000 in
set_option maxHeartbeats 4000000 in
theorem syIs {v : Ev} (hE : EvK v) {w : World} {g i pp : Nat} (h : PB v w g i pp) (S : ByteArray) :
    Calls Tryz.prog 60 #[.pointer (some ⟨g, 0, none⟩), .string S] w fun e w' => e = .returned (.bool (isS v i S)) ∧ Below w.heap.size w w' := by
  have HC := Lib.hid (syNext hE h)
  unfold isS
  have HI := Lib.hid (syIsSign (tkn v i) S)
  generalize isT (tkn v i) S = b at *
  generalize nxV (tkn v i) = T at *
  clear h hE
  go_enter Tryz.func60, Tryz.ntmps60
  go_wp2_with fail
  refine HC.out.mono ?_
  rintro e w1 ⟨rfl, hb⟩
  have HB := Lib.hid hb
  clear hb HC
  go_wp2_with fail
  refine (HI.out w1).mono ?_
  rintro e w2 ⟨rfl, hb⟩
  have HB2 := Lib.hid (HB.out.trans (hb.mono HB.out.size))
  clear hb HI HB
  go_wp2
  go_ret
  exact ⟨rfl, HB2.out⟩
end Go.Proofs.YtpgiljibicigeaaGreatDoor
