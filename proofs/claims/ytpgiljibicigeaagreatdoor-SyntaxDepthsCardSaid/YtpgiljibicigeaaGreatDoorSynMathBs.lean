/- syntax: what is read lies further on, is no deeper than four times its tokens, of right kinds; faults lie within the text. Nothing of the program. -/
import Derived.Test.YtpgiljibicigeaaGreatDoorLexMaths
import Derived.Test.YtpgiljibicigeaaGreatDoorLexPs
import Derived.BigQuiet
import Derived.BigRegion
set_option linter.unusedVariables false
set_option linter.unusedSimpArgs false
namespace Go.Proofs.YtpgiljibicigeaaGreatDoor.SX

mutual
def rgt : Nd → Bool
  | .mk k _ ks => decide (1 ≤ k) && decide (k ≤ 32) && rgs ks
def rgs : List Nd → Bool
  | [] => true
  | x :: ks => rgt x && rgs ks
end
section
variable {v : Ev}
structure EvQ (v : Ev) : Prop where
  at_ : ∀ t ∈ v.L, t.2.2 ≤ v.E
  num : ∀ s, v.num s ≠ 5
theorem isS_lt {i : Nat} {s : ByteArray} (h : isS v i s = true) : i < v.L.length := by
  rcases Nat.lt_or_ge i v.L.length with h' | h'
  · exact h'
  · unfold isS tkn at h; rw [List.getElem?_eq_none h'] at h; simp [isT] at h
theorem tak_iv (hq : EvQ v) {k i : Nat} (hi : i ≤ v.L.length) (hk : 1 ≤ k) : (tak v k i).all (T1 v i) (Qe v) := by
  unfold tak; split
  · rename_i h; exact ⟨rfl, tkn_lt h hk⟩
  · exact unf_iv hq hi _
theorem ned_iv (hq : EvQ v) {s : ByteArray} {i : Nat} (hi : i ≤ v.L.length) : (ned v s i).all (T1 v i) (Qe v) := by
  unfold ned; split
  · rename_i h; exact ⟨rfl, isS_lt h⟩
  · exact unf_iv hq hi _
structure IvK (v : Ev) (K : Kn) : Prop where
  pipe : ∀ pp i, i ≤ v.L.length → (K.pipe pp i).all (P1 v 0 i) (Qe v)
  climb : ∀ l pp i, i ≤ v.L.length → (K.climb l pp i).all (P1 v 0 i) (Qe v)
  neg : ∀ pp i, i ≤ v.L.length → (K.neg pp i).all (P1 v 0 i) (Qe v)
  post : ∀ pp i, i ≤ v.L.length → (K.post pp i).all (P1 v 0 i) (Qe v)
  pat : ∀ pp i, i ≤ v.L.length → (K.pat pp i).all (P1 v 0 i) (Qe v)
  choice : ∀ pp i, i ≤ v.L.length → (K.choice pp i).all (P1 v 0 i) (Qe v)
theorem rowF_iv (hq : EvQ v) {item : Nat → Rs Nd} (hit : ∀ i, i ≤ v.L.length → (item i).all (P1 v 0 i) (Qe v)) (btw fin : ByteArray) {i : Nat} (hi : i ≤ v.L.length) : (rowF v item btw fin i).all (P2 v i) (Qe v) := by
  unfold rowF
  refine all_bind (hit i hi) fun x j hx => ?_
  obtain ⟨h1, h2, h3, h4⟩ := hx
  exact rowL_iv hq hit btw fin i _ _ j (by omega) h2 (by simp only [dps]; omega) (by simp [rgs, h4])
variable {K : Kn}
theorem climbF_iv (hq : EvQ v) (hK : IvK v K) (l pp : Nat) {i : Nat} (hi : i ≤ v.L.length) : (climbF v K l pp i).all (P1 v 0 i) (Qe v) := by
  unfold climbF
  refine all_bind (negF_iv hq hK pp hi) fun x j hx => ?_
  exact climbL_iv hq hK l pp i _ x _ j hx.1 hx.2.1 (by have := hx.2.2.1; omega) hx.2.2.2
theorem paramF_iv (hq : EvQ v) {i : Nat} (hi : i ≤ v.L.length) : (paramF v i).all (P1 v 0 i) (Qe v) := by
  unfold paramF; split
  · refine all_bind (tak_iv hq hi (by decide)) fun _ j hj => ?_
    obtain ⟨rfl, hj⟩ := hj
    exact ⟨by omega, hj, by simp only [dpt, dps]; omega, by simp [rgt, rgs]⟩
  · refine all_bind (tak_iv hq hi (by decide)) fun _ j hj => ?_
    obtain ⟨rfl, hj⟩ := hj
    exact ⟨by omega, hj, by simp only [dpt, dps]; omega, by simp [rgt, rgs]⟩
theorem defF_iv (hq : EvQ v) (hK : IvK v K) (pp : Nat) {i : Nat} (hi : i ≤ v.L.length) : (defF v K pp i).all (P1 v 0 i) (Qe v) := by
  unfold defF
  refine all_bind (tak_iv hq hi (by decide)) fun s j hj => ?_
  obtain ⟨rfl, hj⟩ := hj
  split
  · rename_i h; have := isS_lt h
    refine all_bind (rowF_iv hq (fun i hi => paramF_iv hq hi) _ _ (show i + 1 + 1 ≤ v.L.length by omega)) fun ks k hk => ?_
    obtain ⟨h1, h2, h3, h4⟩ := hk
    exact defR_iv hq hK pp s ks h2 (by omega) (by omega) h4
  · exact defR_iv hq hK pp s [] hj (by omega) (by simp only [dps]; omega) rfl
end
end Go.Proofs.YtpgiljibicigeaaGreatDoor.SX

/- syntax: the parser's box, a part in memory; next, behind, fault, unfit, is walked. -/
namespace Go.Proofs.YtpgiljibicigeaaGreatDoor
open Go.RowKit SX

/-- the tokens' cells -/
def t3c : List T3 → List Value
  | [] => []
  | t :: L => .int .i64 (t.1 : Int) :: .string t.2.1 :: .int .i64 (t.2.2 : Int) :: t3c L
theorem t3c_at : ∀ {L : List T3} {i : Nat} {t : T3}, L[i]? = some t → (t3c L)[i * 3]? = some (.int .i64 (t.1 : Int)) ∧ (t3c L)[i * 3 + 1]? = some (.string t.2.1) ∧ (t3c L)[i * 3 + 2]? = some (.int .i64 (t.2.2 : Int))
  | [], _, _, h => by simp at h
  | u :: L, 0, t, h => by
    have : u = t := by simpa using h
    subst this
    exact ⟨rfl, rfl, rfl⟩
  | u :: L, i + 1, t, h => by
    have ih := t3c_at (L := L) (i := i) (t := t) (by simpa using h)
    have e : t3c (u :: L) = [.int .i64 (u.1 : Int), .string u.2.1, .int .i64 (u.2.2 : Int)] ++ t3c L := rfl
    have key : ∀ j, (t3c (u :: L))[j + 3]? = (t3c L)[j]? := fun j => by
      rw [e, List.getElem?_append_right (by simp)]; rfl
    refine ⟨?_, ?_, ?_⟩
    · rw [show (i + 1) * 3 = i * 3 + 3 by omega, key]; exact ih.1
    · rw [show (i + 1) * 3 + 1 = i * 3 + 1 + 3 by omega, key]; exact ih.2.1
    · rw [show (i + 1) * 3 + 2 = i * 3 + 2 + 3 by omega, key]; exact ih.2.2
structure EvK (v : Ev) : Prop where
  len : v.L.length ≤ 100000
  en : v.E ≤ 100000
  tk : ∀ t ∈ v.L, t.1 ≤ 11 ∧ t.2.2 ≤ 100000 ∧ t.2.1.size ≤ 1000000
theorem EvK.of {v : Ev} (h : EvK v) (i : Nat) : (tkn v i).1 ≤ 11 ∧ (tkn v i).2.2 ≤ 100000 ∧ (tkn v i).2.1.size ≤ 1000000 := by
  unfold SX.tkn
  cases hq : v.L[i]? with
  | none => exact ⟨by decide, by decide, by decide⟩
  | some t => exact h.tk t (List.mem_of_getElem? hq)
/-- the table of signs of two sides -/
def ssT : List Value := sgs.flatMap fun r => [.string r.1, .int .i64 (r.2.1 : Int), .int .i64 (r.2.2.1 : Int), .int .i64 (r.2.2.2 : Int)]
def Ss (w : World) : Prop := ∀ j u, ssT[j]? = some u → w.cell? ⟨1, j, none⟩ = some u
def TBs (w : World) : Prop := Tab w ∧ Wd w ∧ Ss w
/-- the tables stand below the box -/
def TB (w : World) (g : Nat) : Prop := ∃ w0, w0.heap.size ≤ g ∧ w0.heap.size ≤ w.heap.size ∧ TBs w0 ∧ Below w0.heap.size w0 w
theorem TB.gb {w w' : World} {g : Nat} (h : TB w g) (hg : w.grownBy w' (some g)) : TB w' g := by
  obtain ⟨w0, h1, h2, h3, h4⟩ := h
  exact ⟨w0, h1, Nat.le_trans h2 hg.size, h3, h4.trans (gb_below hg h2 h1)⟩
theorem TB.get {w : World} {g : Nat} (h : TB w g) : TBs w := by
  obtain ⟨w0, h1, h2, ⟨h3, h4, h5⟩, hb⟩ := h
  exact ⟨h3.below hb, h4.below hb, fun j u hj => by rw [hb.cell (lt_of_cell (h5 j u hj))]; exact h5 j u hj⟩
/-- where the tokens lie -/
def TokS (v : Ev) (w : World) (g : Nat) (ao : Option Addr) : Prop := v.L = [] ∨ ∃ tb, ao = some ⟨tb, 0, none⟩ ∧ tb < g ∧ ∀ j u, (t3c v.L)[j]? = some u → w.cell? ⟨tb, j, none⟩ = some u
structure PBX (v : Ev) (w : World) (g i pp : Nat) (ao : Option Addr) (cap : Nat) : Prop where
  c0 : w.cell? ⟨g, 0, none⟩ = some (.slice ao v.L.length cap)
  c1 : w.cell? ⟨g, 1, none⟩ = some (.int .i64 (i : Int))
  c2 : w.cell? ⟨g, 2, none⟩ = some (.int .i64 (v.E : Int))
  c3 : w.cell? ⟨g, 3, none⟩ = some (.int .i64 (pp : Int))
  fz : ∀ j, w.frozen? ⟨g, j, none⟩ = false
  tk : TokS v w g ao
  il : i ≤ v.L.length
  pl : pp ≤ 600
  tb : TB w g
def PB (v : Ev) (w : World) (g i pp : Nat) : Prop := ∃ ao cap, PBX v w g i pp ao cap
theorem PBX.lt {v : Ev} {w : World} {g i pp : Nat} {ao : Option Addr} {cap : Nat} (h : PBX v w g i pp ao cap) : g < w.heap.size := lt_of_cell h.c0
theorem PB.lt {v : Ev} {w : World} {g i pp : Nat} (h : PB v w g i pp) : g < w.heap.size := by obtain ⟨_, _, h⟩ := h; exact h.lt
theorem PBX.below {v : Ev} {w w' : World} {g i pp : Nat} {ao : Option Addr} {cap : Nat} (h : PBX v w g i pp ao cap) (hb : Below w.heap.size w w') : PBX v w' g i pp ao cap := by
  have hg := h.lt
  have key : ∀ (b j : Nat) (u : Value), b < w.heap.size → w.cell? ⟨b, j, none⟩ = some u → w'.cell? ⟨b, j, none⟩ = some u := fun b j u hl e => by rw [hb.cell (p := ⟨b, j, none⟩) hl]; exact e
  refine ⟨key _ _ _ hg h.c0, key _ _ _ hg h.c1, key _ _ _ hg h.c2, key _ _ _ hg h.c3, fun j => (hb.frozen (p := ⟨g, j, none⟩) hg).trans (h.fz j), ?_, h.il, h.pl, h.tb.gb (gb_of_below hb)⟩
  rcases h.tk with e | ⟨tb, e, hl, hc⟩
  · exact .inl e
  · exact .inr ⟨tb, e, hl, fun j u hu => key _ _ _ (Nat.lt_trans hl hg) (hc j u hu)⟩
theorem PB.below {v : Ev} {w w' : World} {g i pp : Nat} (h : PB v w g i pp) (hb : Below w.heap.size w w') : PB v w' g i pp := by
  obtain ⟨a, c, h⟩ := h; exact ⟨a, c, h.below hb⟩
theorem PB.dN {v : Ev} {w : World} {g i pp : Nat} (h : PB v w g i pp) (n : Nat) : PB v (w.drewN n) g i pp := by
  obtain ⟨a, c, h⟩ := h; exact ⟨a, c, h.c0, h.c1, h.c2, h.c3, h.fz, h.tk, h.il, h.pl, h.tb.gb (gb_dN (gb_refl _ _) n)⟩
/-- the place is set -/
theorem PBX.step {v : Ev} {w : World} {g i pp : Nat} {ao : Option Addr} {cap : Nat} (h : PBX v w g i pp ao cap) {k : Nat} (hk : k ≤ v.L.length) {n : Int} (hn : n = (k : Int)) : PBX v (w.setCell ⟨g, 1, none⟩ (.int .i64 n)) g k pp ao cap := by
  subst hn
  refine ⟨?_, by simp [go_sem, h.c1], ?_, ?_, fun j => by simp [go_sem, h.fz j], ?_, hk, h.pl, h.tb.gb (gb_set (gb_refl _ _) _ _)⟩
  · rw [World.cell?_setCell_other _ _ _ _ (by simp)]; exact h.c0
  · rw [World.cell?_setCell_other _ _ _ _ (by simp)]; exact h.c2
  · rw [World.cell?_setCell_other _ _ _ _ (by simp)]; exact h.c3
  · rcases h.tk with e | ⟨tb, e, hl, hc⟩
    · exact .inl e
    · exact .inr ⟨tb, e, hl, fun j u hu => by rw [World.cell?_setCell_other _ _ _ _ (by simp)]; exact hc j u hu⟩
/-- so many pipes -/
theorem PBX.pip {v : Ev} {w : World} {g i pp : Nat} {ao : Option Addr} {cap : Nat} (h : PBX v w g i pp ao cap) {k : Nat} (hk : k ≤ 600) {n : Int} (hn : n = (k : Int)) : PBX v (w.setCell ⟨g, 3, none⟩ (.int .i64 n)) g i k ao cap := by
  subst hn
  refine ⟨?_, ?_, ?_, by simp [go_sem, h.c3], fun j => by simp [go_sem, h.fz j], ?_, h.il, hk, h.tb.gb (gb_set (gb_refl _ _) _ _)⟩
  · rw [World.cell?_setCell_other _ _ _ _ (by simp)]; exact h.c0
  · rw [World.cell?_setCell_other _ _ _ _ (by simp)]; exact h.c1
  · rw [World.cell?_setCell_other _ _ _ _ (by simp)]; exact h.c2
  · rcases h.tk with e | ⟨tb, e, hl, hc⟩
    · exact .inl e
    · exact .inr ⟨tb, e, hl, fun j u hu => by rw [World.cell?_setCell_other _ _ _ _ (by simp)]; exact hc j u hu⟩
theorem bel3 {B nw : Nat} {w w1 : World} (h : Below B w w1) (hb : B ≤ nw) (a b c : Value) : Below B w (((w1.setCell ⟨nw, 0, none⟩ a).setCell ⟨nw, 1, none⟩ b).setCell ⟨nw, 2, none⟩ c) :=
  ((h.setCell (p := ⟨nw, 0, none⟩) hb a).setCell (p := ⟨nw, 1, none⟩) hb b).setCell (p := ⟨nw, 2, none⟩) hb c
theorem PB.il {v : Ev} {w : World} {g i pp : Nat} (h : PB v w g i pp) : i ≤ v.L.length := by obtain ⟨_, _, h⟩ := h; exact h.il
theorem PB.tb {v : Ev} {w : World} {g i pp : Nat} (h : PB v w g i pp) : TBs w := by obtain ⟨_, _, h⟩ := h; exact h.tb.get
/-- what is said of the tokens -/
structure EvA (v : Ev) : Prop where
  k : EvK v
  q : EvQ v
  nm : v.num = fun s => (prsA s).err
  wd : v.wrd = fun s => wdF (bl s)
def nxV (t : T3) : Value := .agg #[.int .i64 (t.1 : Int), .string t.2.1, .int .i64 (t.2.2 : Int)]
theorem tkn_at {v : Ev} {i : Nat} (h : i < v.L.length) : v.L[i]? = some (tkn v i) := by
  unfold tkn; rw [List.getElem?_eq_getElem h]; rfl
theorem tkn_no {v : Ev} {i : Nat} (h : v.L.length ≤ i) : tkn v i = (0, ⟨#[]⟩, 0) := by
  unfold tkn; rw [List.getElem?_eq_none h]; rfl
set_option maxRecDepth 100000 in
set_option maxHeartbeats 4000000 in
theorem syBehind {v : Ev} (hE : EvK v) {w : World} {g i pp : Nat} (h : PB v w g i pp) (n : Nat) (hn : n ≤ 1) :
    Calls Tryz.prog 59 #[.pointer (some ⟨g, 0, none⟩), .int .i64 (n : Int)] w fun e w' => e = .returned (nxV (tkn v (i + n))) ∧ Below w.heap.size w w' := by
  obtain ⟨ao, cap, h⟩ := h
  have hl := hE.len
  have hi := h.il
  have c0 := h.c0; have c1 := h.c1
  have s0 : IntKind.i64.wrap ((i : Int) + (n : Int)) = ((i + n : Nat) : Int) := by rw [show (i : Int) + (n : Int) = ((i + n : Nat) : Int) by omega]; exact IntWalk.i64_in _ (by omega)
  have hg := h.lt
  have ng1 : ¬ g = w.heap.size := by omega
  have ng2 : ¬ w.heap.size = g := by omega
  by_cases hlt : i + n < v.L.length
  · obtain ⟨tb, rfl, htb, hc⟩ : ∃ tb, ao = some ⟨tb, 0, none⟩ ∧ tb < g ∧ ∀ j u, (t3c v.L)[j]? = some u → w.cell? ⟨tb, j, none⟩ = some u := by
      rcases h.tk with e | e
      · rw [e] at hlt; simp at hlt
      · exact e
    obtain ⟨q0, q1, q2⟩ := t3c_at (tkn_at hlt)
    have d0 := hc _ _ q0; have d1 := hc _ _ q1; have d2 := hc _ _ q2
    have HB : Hid (Below w.heap.size w w) := Lib.hid (Below.refl _ _)
    have E : nxV (tkn v (i + n)) = .agg #[.int .i64 ((tkn v (i + n)).1 : Int), .string (tkn v (i + n)).2.1, .int .i64 ((tkn v (i + n)).2.2 : Int)] := rfl
    rw [E]
    generalize tkn v (i + n) = t at *
    obtain ⟨k, s, a⟩ := t
    simp only at d0 d1 d2 ⊢
    have f1 : ¬ (v.L.length : Int) ≤ ((i + n : Nat) : Int) := by omega
    have f2 : ((i + n : Nat) : Int) < (v.L.length : Int) := by omega
    have hib : ((i + n : Nat) : Int) ≤ 1000000 := by omega
    have nt1 : ¬ tb = w.heap.size := by omega
    have nt2 : ¬ w.heap.size = tb := by omega
    generalize hm : i + n = m at *
    have HM := Lib.hid hm
    have HT : Hid (tb < w.heap.size) := Lib.hid (by omega)
    clear hm h hc q0 q1 q2 hlt hi htb E hE
    go_enter Tryz.func59, Tryz.ntmps59
    go_wp2_with fail
    obtain ⟨w1, hW⟩ : ∃ x, w.alloc (.cells #[.int .i64 0, .string ⟨#[]⟩, .int .i64 0] 75) = x := ⟨_, rfl⟩
    have hB1 : Below w.heap.size w w1 := by rw [← hW]; exact (Below.refl _ _).alloc (Nat.le_refl _) _
    have k0 : w1.cell? ⟨g, 0, none⟩ = some (.slice (some ⟨tb, 0, none⟩) v.L.length cap) := by rw [← hW, cell_old hg]; exact c0
    have k1 : w1.cell? ⟨g, 1, none⟩ = some (.int .i64 (i : Int)) := by rw [← hW, cell_old hg]; exact c1
    have r0 : w1.cell? ⟨w.heap.size, 0, none⟩ = some (.int .i64 0) := by rw [← hW]; exact cell_new rfl
    have r1 : w1.cell? ⟨w.heap.size, 1, none⟩ = some (.string ⟨#[]⟩) := by rw [← hW]; exact cell_new rfl
    have r2 : w1.cell? ⟨w.heap.size, 2, none⟩ = some (.int .i64 0) := by rw [← hW]; exact cell_new rfl
    have f0 : ∀ j, w1.frozen? ⟨w.heap.size, j, none⟩ = false := fun j => by rw [← hW]; exact frz_new rfl
    have htbw : tb < w.heap.size := HT.out
    have y0 : w1.cell? ⟨tb, m * 3, none⟩ = some (.int .i64 (k : Int)) := by rw [← hW, cell_old htbw]; exact d0
    have y1 : w1.cell? ⟨tb, m * 3 + 1, none⟩ = some (.string s) := by rw [← hW, cell_old htbw]; exact d1
    have y2 : w1.cell? ⟨tb, m * 3 + 2, none⟩ = some (.int .i64 (a : Int)) := by rw [← hW, cell_old htbw]; exact d2
    rw [hW]
    have HB1 := Lib.hid hB1
    have HS : Hid (Below w.heap.size w w1) := Lib.hid hB1
    clear hW hB1 c0 c1 d0 d1 d2 hg ng1 ng2 HB
    generalize hnw : w.heap.size = nw at *
    have HNW := Lib.hid hnw
    clear hnw
    go_quiet (fail)
    go_wp2_with fail
    go_region
    all_goals
      go_wp2_with fail
      refine bodyPost_ret (v := .agg #[.int .i64 (k : Int), .string s, .int .i64 (a : Int)]) (by simp [results, Tryz.results59, go_sem, r0, r1, r2]) rfl ?_
      exact ⟨rfl, by rw [HNW.out]; exact bel3 (bdN HS.out _) (Nat.le_refl _) _ _ _⟩
  · have E : nxV (tkn v (i + n)) = .agg #[.int .i64 0, .string ⟨#[]⟩, .int .i64 0] := by rw [tkn_no (by omega)]; rfl
    rw [E]
    have f1 : (v.L.length : Int) ≤ ((i + n : Nat) : Int) := by omega
    generalize hm : i + n = m at *
    clear hm h hlt hi E hE
    go_enter Tryz.func59, Tryz.ntmps59
    go_wp2_with fail
    obtain ⟨w1, hW⟩ : ∃ x, w.alloc (.cells #[.int .i64 0, .string ⟨#[]⟩, .int .i64 0] 75) = x := ⟨_, rfl⟩
    have hB1 : Below w.heap.size w w1 := by rw [← hW]; exact (Below.refl _ _).alloc (Nat.le_refl _) _
    have k0 : w1.cell? ⟨g, 0, none⟩ = some (.slice ao v.L.length cap) := by rw [← hW, cell_old hg]; exact c0
    have k1 : w1.cell? ⟨g, 1, none⟩ = some (.int .i64 (i : Int)) := by rw [← hW, cell_old hg]; exact c1
    have r0 : w1.cell? ⟨w.heap.size, 0, none⟩ = some (.int .i64 0) := by rw [← hW]; exact cell_new rfl
    have r1 : w1.cell? ⟨w.heap.size, 1, none⟩ = some (.string ⟨#[]⟩) := by rw [← hW]; exact cell_new rfl
    have r2 : w1.cell? ⟨w.heap.size, 2, none⟩ = some (.int .i64 0) := by rw [← hW]; exact cell_new rfl
    have f0 : ∀ j, w1.frozen? ⟨w.heap.size, j, none⟩ = false := fun j => by rw [← hW]; exact frz_new rfl
    rw [hW]
    have HS : Hid (Below w.heap.size w w1) := Lib.hid hB1
    clear hW hB1 c0 c1 hg ng1 ng2
    generalize hnw : w.heap.size = nw at *
    have HNW := Lib.hid hnw
    clear hnw
    go_quiet (fail)
    go_wp2_with fail
    refine bodyPost_ret (v := .agg #[.int .i64 0, .string ⟨#[]⟩, .int .i64 0]) (by simp [results, Tryz.results59, go_sem, r0, r1, r2]) rfl ?_
    exact ⟨rfl, by rw [HNW.out]; exact bel3 (bdN HS.out _) (Nat.le_refl _) _ _ _⟩
end Go.Proofs.YtpgiljibicigeaaGreatDoor
