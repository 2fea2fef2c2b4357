/- syntax: all walked. -/
import Derived.Test.YtpgiljibicigeaaGreatDoorSynVs
set_option linter.unusedVariables false
set_option linter.unusedSimpArgs false
namespace Go.Proofs.YtpgiljibicigeaaGreatDoor
open Go.RowKit SX

/-- what the parser tells of all tokens -/
def AllR (v : Ev) (g : Nat) (w : World) (R : Rs Nd) (e : Ending) (w' : World) : Prop :=
  match R with
  | .ok x _ => ∃ b, e = .returned (.tuple #[ptr b, .int .i64 0, .int .i64 0]) ∧ PR w' g x b ∧ w.grownBy w' (some g)
  | .err a er => e = .returned (.tuple #[.pointer none, .int .i64 (a : Int), .int .i64 (er : Int)]) ∧ w.grownBy w' (some g)
theorem gb_bel {w w4 w5 : World} {g : Nat} (h : w.grownBy w4 (some g)) (hb : Below w.heap.size w4 w5) : w.grownBy w5 (some g) :=
  ⟨hb.os.trans h.os, hb.tape.trans h.tape, hb.output.trans h.output, Nat.le_trans h.size hb.size, fun k hk hne => (hb.block k hk).trans (h.block k hk hne)⟩
set_option maxRecDepth 100000 in
set_option maxHeartbeats 4000000 in
theorem syAll {v : Ev} (hA : Hid (EvA v)) {w : World} {g : Nat} (h : PB v w g 0 0) : Calls Tryz.prog 15 #[ptr g] w (AllR v g w (allF v)) := by
  have hmf : ∀ (fn : Fn) (first cap : Array Value) (w : World), (Instr.makeFunc fn first cap).run Tryz.prog w = .ok (.func fn first cap) w := fun _ _ _ _ => rfl
  obtain ⟨w3, hw3⟩ : ∃ x, (((w.alloc (.cells #[.pointer none] 44)).alloc (.cells #[.int .i64 0] 3)).alloc (.cells #[.int .i64 0] 27)) = x := ⟨_, rfl⟩
  obtain ⟨nb, hnb⟩ : ∃ n, w.heap.size = n := ⟨_, rfl⟩
  have hlt := h.lt
  rw [hnb] at hlt
  have hbe : Below w.heap.size w w3 := by rw [← hw3]; exact (((Below.refl _ _).alloc (Nat.le_refl _) _).alloc (by simp) _).alloc (by simp; omega) _
  have hs3 : w3.heap.size = nb + 3 := by rw [← hw3, ← hnb]; simp
  have k2 : w3.cell? ⟨nb, 0, none⟩ = some (.pointer none) := by rw [← hw3, ← hnb, cell_old (by simp; omega), cell_old (by simp)]; exact cell_new rfl
  have k3 : w3.cell? ⟨nb + 1, 0, none⟩ = some (.int .i64 0) := by rw [← hw3, ← hnb, cell_old (by simp)]; exact cell_new (by simp)
  have k4 : w3.cell? ⟨nb + 1 + 1, 0, none⟩ = some (.int .i64 0) := by rw [← hw3, ← hnb]; exact cell_new (by simp)
  have z2 : w3.frozen? ⟨nb, 0, none⟩ = false := by rw [← hw3, ← hnb, frz_old (by simp; omega), frz_old (by simp)]; exact frz_new rfl
  have z3 : w3.frozen? ⟨nb + 1, 0, none⟩ = false := by rw [← hw3, ← hnb, frz_old (by simp)]; exact frz_new (by simp)
  have z4 : w3.frozen? ⟨nb + 1 + 1, 0, none⟩ = false := by rw [← hw3, ← hnb]; exact frz_new (by simp)
  have hc := (syKn (g := g) hA (v.L.length + 1)).pipe 0 (by omega) w3 0 (nb + 2) (by omega) (by omega) (h.below hbe)
  obtain ⟨R, hR⟩ : ∃ R, (kn v (v.L.length + 1)).pipe 0 0 = R := ⟨_, rfl⟩
  have hall : allF v = R.bind fun t i => if i < v.L.length then unf v i else .ok t i := by rw [← hR]; rfl
  rw [hall]
  have hc2 : Calls Tryz.prog 22 #[ptr g] w3 (Out v g 0 w3 R (VN (nb + 2))) := by rw [← hR]; exact hc
  have HC := Lib.hid hc2
  have HG : Hid (w.grownBy w3 (some g)) := Lib.hid (gbOfB hbe)
  have HLT := Lib.hid hlt
  have HW3 := Lib.hid hw3
  have HNB := Lib.hid hnb
  have HS3 := Lib.hid hs3
  clear hc hc2 hR hall hbe hlt hw3 hnb hs3 h
  go_enter_defers Tryz.func15, Tryz.ntmps15
  go_wp2_with fail
  rw [HW3.out, HNB.out]
  refine HC.out.mono ?_
  intro e w4 ho
  clear HC
  rcases out_cases ho with ⟨x, j, u, rfl, rfl, hv, hp, hb⟩ | ⟨a, er, rfl, rfl, hb⟩
  · obtain ⟨b, rfl, hx⟩ := hv
    have ng : ∀ k, nb ≤ k → k ≠ g := fun k h e => by have := HLT.out; omega
    have d2 := hb.cell k2 (by simpa using ng nb (by omega))
    have d3 := hb.cell k3 (by simpa using ng (nb + 1) (by omega))
    have d4 := hb.cell k4 (by simpa using ng (nb + 1 + 1) (by omega))
    have e2 := frz_gb k2 z2 hb (ng nb (by omega))
    have e3 := frz_gb k3 z3 hb (ng (nb + 1) (by omega))
    have e4 := frz_gb k4 z4 hb (ng (nb + 1 + 1) (by omega))
    obtain ⟨l, rfl⟩ : ∃ l, nb = l + 1 := ⟨nb - 1, by have := HLT.out; omega⟩
    have HPB : Hid (∀ W, Below (l + 1) w4 W → PB v W g j 0) := Lib.hid (fun W hW => hp.bel2 hW (by have := HLT.out; omega))
    have HX := Lib.hid hx
    have HG4 := Lib.hid (gb_trans HG.out hb)
    have HSZ : Hid (l + 1 + 3 ≤ w4.heap.size) := Lib.hid (by have := hb.size; have := HS3.out; omega)
    obtain ⟨ao, cap, hp⟩ := hp
    have p0 := hp.c0; have p1 := hp.c1
    have hil := hp.il
    have hlen := hA.out.k.len
    have g1 : ¬ g = l + 1 := by have := HLT.out; omega
    have g2 : ¬ l + 1 = g := by omega
    clear k2 k3 k4 z2 z3 z4 hp hb ho hx HG
    have HSW : Hid (w.heap.size ≤ l + 1) := Lib.hid (by have := HNB.out; omega)
    by_cases hj : j < v.L.length
    · have hji : (j : Int) < (v.L.length : Int) := by omega
      have HJ := Lib.hid hj
      obtain ⟨X, hX⟩ : ∃ X, plc v j = X := ⟨_, rfl⟩
      obtain ⟨Y, hY⟩ : ∃ Y, (if j = v.L.length then 5 else 2 : Nat) = Y := ⟨_, rfl⟩
      have HU : Hid (∀ n, Calls Tryz.prog 23 #[ptr g] ((w4.setCell ⟨l + 1, 0, none⟩ (.pointer (some ⟨b, 0, none⟩))).drewN n) fun e w' => e = .returned (.agg #[.int .i64 (X : Int), .int .i64 (Y : Int)]) ∧ w'.cell? ⟨l + 1, 0, none⟩ = some (ptr b) ∧ w'.cell? ⟨l + 1 + 1, 0, none⟩ = some (.int .i64 0) ∧ w'.cell? ⟨l + 1 + 2, 0, none⟩ = some (.int .i64 0) ∧ w'.frozen? ⟨l + 1, 0, none⟩ = false ∧ w'.frozen? ⟨l + 1 + 1, 0, none⟩ = false ∧ w'.frozen? ⟨l + 1 + 2, 0, none⟩ = false ∧ Below (l + 1) w4 w') := Lib.hid (fun n => by
        have hW : Below (l + 1) w4 ((w4.setCell ⟨l + 1, 0, none⟩ (.pointer (some ⟨b, 0, none⟩))).drewN n) := bdN ((Below.refl _ _).setCell (p := ⟨l + 1, 0, none⟩) (Nat.le_refl _) _) n
        have hu := syUnfit hA.out.k (HPB.out _ hW)
        rw [hX, hY] at hu
        refine hu.mono ?_
        rintro e w' ⟨rfl, hb⟩
        have hs := HSZ.out
        have hs2 : ((w4.setCell ⟨l + 1, 0, none⟩ (.pointer (some ⟨b, 0, none⟩))).drewN n).heap.size = w4.heap.size := by simp
        rw [hs2] at hb
        refine ⟨rfl, ?_, ?_, ?_, ?_, ?_, ?_, hW.trans (hb.mono (by omega))⟩
        · rw [hb.cell (p := ⟨l + 1, 0, none⟩) (by show l + 1 < _; omega)]; simp [go_sem, d2]
        · rw [hb.cell (p := ⟨l + 1 + 1, 0, none⟩) (by show l + 1 + 1 < _; omega)]; simp [go_sem, d3]
        · rw [hb.cell (p := ⟨l + 1 + 2, 0, none⟩) (by show l + 1 + 2 < _; omega)]; simp [go_sem]; exact d4
        · rw [hb.frozen (p := ⟨l + 1, 0, none⟩) (by show l + 1 < _; omega)]; simp [go_sem, e2]
        · rw [hb.frozen (p := ⟨l + 1 + 1, 0, none⟩) (by show l + 1 + 1 < _; omega)]; simp [go_sem, e3]
        · rw [hb.frozen (p := ⟨l + 1 + 2, 0, none⟩) (by show l + 1 + 2 < _; omega)]; simp [go_sem]; exact e4)
      have EE : Hid (((Rs.ok x j : Rs Nd).bind fun t i => if i < v.L.length then unf v i else Rs.ok t i) = Rs.err X Y) := Lib.hid (by
        dsimp only [Rs.bind]; rw [if_pos hj]; unfold unf; rw [hX, hY])
      clear hj hX hY
      go_wp2_with fail
      go_quiet (fail)
      go_wp2_with fail
      refine (HU.out _).mono ?_
      rintro e w6 ⟨rfl, u2, u3, u4, v2, v3, v4, hbe⟩
      have HCA := Lib.hid (allCatch (N := l + 1) u2 u3 u4 v2 v3 v4 (Nat.le_refl _) (a := X) (er := Y))
      have HB6 := Lib.hid hbe
      clear u2 u3 u4 v2 v3 v4 hbe HU d2 d3 d4 e2 e3 e4 p0 p1 hil
      go_wp2_with fail
      refine leaves_cons (f := 21) (args := #[.pointer (some ⟨l + 1, 0, none⟩), .pointer (some ⟨l + 1 + 1, 0, none⟩), .pointer (some ⟨l + 1 + 1 + 1, 0, none⟩)]) (by simp) (by simp [go_sem]) ?_
      refine HCA.out.mono ?_
      rintro e u' w7 ⟨rfl, rfl, r2, r3, r4, hb7⟩
      simp [Leaves, settle, results, Tryz.results15, go_sem, r2, r3, r4]
      rw [EE.out]
      exact ⟨rfl, gb_bel HG4.out ((HB6.out.trans hb7).mono HSW.out)⟩
    · have hji : ¬ (j : Int) < (v.L.length : Int) := by omega
      have HF : Hid (∀ n, PR (((((w4.setCell ⟨l + 1, 0, none⟩ (.pointer (some ⟨b, 0, none⟩))).drewN n).setCell ⟨l + 1, 0, none⟩ (.pointer (some ⟨b, 0, none⟩))).setCell ⟨l + 1 + 1, 0, none⟩ (.int .i64 0)).setCell ⟨l + 1 + 1 + 1, 0, none⟩ (.int .i64 0)) g x b ∧ w.grownBy (((((w4.setCell ⟨l + 1, 0, none⟩ (.pointer (some ⟨b, 0, none⟩))).drewN n).setCell ⟨l + 1, 0, none⟩ (.pointer (some ⟨b, 0, none⟩))).setCell ⟨l + 1 + 1, 0, none⟩ (.int .i64 0)).setCell ⟨l + 1 + 1 + 1, 0, none⟩ (.int .i64 0)) (some g)) := Lib.hid (fun n => by
        refine ⟨PRA.to (fun k hk hs => ⟨?_, by have := HLT.out; omega⟩) HX.out, gb_bel HG4.out (Below.mono ?_ HSW.out)⟩
        · rw [Below.heap_setCell _ _ _ _ (by show k ≠ l + 1 + 1 + 1; omega), Below.heap_setCell _ _ _ _ (by show k ≠ l + 1 + 1; omega), Below.heap_setCell _ _ _ _ (by show k ≠ l + 1; omega)]
          exact Below.heap_setCell _ _ _ _ (by show k ≠ l + 1; omega)
        · exact (((bdN ((Below.refl _ _).setCell (p := ⟨l + 1, 0, none⟩) (Nat.le_refl _) _) n).setCell (p := ⟨l + 1, 0, none⟩) (Nat.le_refl _) _).setCell (p := ⟨l + 1 + 1, 0, none⟩) (by show l + 1 ≤ l + 1 + 1; omega) _).setCell (p := ⟨l + 1 + 1 + 1, 0, none⟩) (by show l + 1 ≤ l + 1 + 1 + 1; omega) _)
      have EE : Hid (((Rs.ok x j : Rs Nd).bind fun t i => if i < v.L.length then unf v i else Rs.ok t i) = Rs.ok x j) := Lib.hid (by
        dsimp only [Rs.bind]; rw [if_neg hj])
      clear hj
      go_wp2_with fail
      go_quiet (fail)
      go_wp2_with fail
      refine leaves_cons (f := 21) (args := #[.pointer (some ⟨l + 1, 0, none⟩), .pointer (some ⟨l + 1 + 1, 0, none⟩), .pointer (some ⟨l + 1 + 1 + 1, 0, none⟩)]) (by simp) (by simp [go_sem]) ?_
      refine (allIdle _ _ _).mono ?_
      rintro e u' w7 ⟨rfl, rfl, rfl⟩
      simp [Leaves, settle, results, Tryz.results15, go_sem, d2, d3, d4]
      rw [EE.out]
      exact ⟨b, rfl, (HF.out _).1, (HF.out _).2⟩
  · have HGE := Lib.hid (gb_trans HG.out hb)
    have ng : ∀ k, nb ≤ k → k ≠ g := fun k h e => by have := HLT.out; omega
    have d2 := hb.cell k2 (by simpa using ng nb (by omega))
    have d3 := hb.cell k3 (by simpa using ng (nb + 1) (by omega))
    have d4 := hb.cell k4 (by simpa using ng (nb + 1 + 1) (by omega))
    have e2 := frz_gb k2 z2 hb (ng nb (by omega))
    have e3 := frz_gb k3 z3 hb (ng (nb + 1) (by omega))
    have e4 := frz_gb k4 z4 hb (ng (nb + 1 + 1) (by omega))
    have HCA := Lib.hid (allCatch (N := nb) d2 d3 d4 e2 e3 e4 (Nat.le_refl _) (a := a) (er := er))
    have HSZ : Hid (w.heap.size ≤ nb) := Lib.hid (by have := HNB.out; omega)
    clear d2 d3 d4 e2 e3 e4 ng hb ho k2 k3 k4 z2 z3 z4
    go_wp2_with fail
    refine leaves_cons (f := 21) (args := #[.pointer (some ⟨nb, 0, none⟩), .pointer (some ⟨nb + 1, 0, none⟩), .pointer (some ⟨nb + 1 + 1, 0, none⟩)]) (by simp) (by simp [go_sem]) ?_
    refine HCA.out.mono ?_
    rintro e u' w5 ⟨rfl, rfl, r2, r3, r4, hbe⟩
    simp [Leaves, settle, results, Tryz.results15, go_sem, r2, r3, r4]
    exact ⟨rfl, gb_bel HGE.out (hbe.mono HSZ.out)⟩
end Go.Proofs.YtpgiljibicigeaaGreatDoor
