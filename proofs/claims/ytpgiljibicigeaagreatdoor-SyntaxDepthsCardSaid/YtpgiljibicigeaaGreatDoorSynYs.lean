/- syntax: all walked. -/
import Derived.Test.YtpgiljibicigeaaGreatDoorSynVs
import Derived.Deep.RegionHeld3
set_option linter.unusedVariables false
set_option linter.unusedSimpArgs false
namespace Go.Proofs.YtpgiljibicigeaaGreatDoor
open Go.RowKit SX

/-- what the parser tells of all tokens -/
def AllR (v : Ev) (g : Nat) (w : World) (R : Rs Nd) (e : Ending) (w' : World) : Prop :=
  match R with
  | .ok x _ => ∃ b, e = .returned (.tuple #[ptr b, .int .i64 0, .int .i64 0]) ∧ PR w' g x b ∧ w.grownBy w' (some g)
  | .err a er => e = .returned (.tuple #[.pointer none, .int .i64 (a : Int), .int .i64 (er : Int)]) ∧ w.grownBy w' (some g)
theorem gb_bel {w w4 w5 : World} {g : Nat} (h : w.grownBy w4 (some g)) (hb : Below w.heap.size w4 w5) : w.grownBy w5 (some g) :=
  ⟨hb.os.trans h.os, hb.tape.trans h.tape, hb.output.trans h.output, Nat.le_trans h.size hb.size, fun k hk hne => (hb.block k hk).trans (h.block k hk hne)⟩
set_option maxRecDepth 100000 in
set_option maxHeartbeats 4000000 in
theorem syAll {v : Ev} (hA : Hid (EvA v)) {w : World} {g : Nat} (h : PB v w g 0 0) : Calls Tryz.prog 15 #[ptr g] w (AllR v g w (allF v)) := by
  have hmf : ∀ (fn : Fn) (first cap : Array Value) (w : World), (Instr.makeFunc fn first cap).run Tryz.prog w = .ok (.func fn first cap) w := fun _ _ _ _ => rfl
  obtain ⟨w3, hw3⟩ : ∃ x, (((w.alloc (.cells #[.pointer none] 44)).alloc (.cells #[.int .i64 0] 3)).alloc (.cells #[.int .i64 0] 27)) = x := ⟨_, rfl⟩
  obtain ⟨nb, hnb⟩ : ∃ n, w.heap.size = n := ⟨_, rfl⟩
  have hlt := h.lt
  rw [hnb] at hlt
  have hbe : Below w.heap.size w w3 := by rw [← hw3]; exact (((Below.refl _ _).alloc (Nat.le_refl _) _).alloc (by simp) _).alloc (by simp; omega) _
  have hs3 : w3.heap.size = nb + 3 := by rw [← hw3, ← hnb]; simp
  have k2 : w3.cell? ⟨nb, 0, none⟩ = some (.pointer none) := by rw [← hw3, ← hnb, cell_old (by simp; omega), cell_old (by simp)]; exact cell_new rfl
  have k3 : w3.cell? ⟨nb + 1, 0, none⟩ = some (.int .i64 0) := by rw [← hw3, ← hnb, cell_old (by simp)]; exact cell_new (by simp)
  have k4 : w3.cell? ⟨nb + 1 + 1, 0, none⟩ = some (.int .i64 0) := by rw [← hw3, ← hnb]; exact cell_new (by simp)
  have z2 : w3.frozen? ⟨nb, 0, none⟩ = false := by rw [← hw3, ← hnb, frz_old (by simp; omega), frz_old (by simp)]; exact frz_new rfl
  have z3 : w3.frozen? ⟨nb + 1, 0, none⟩ = false := by rw [← hw3, ← hnb, frz_old (by simp)]; exact frz_new (by simp)
  have z4 : w3.frozen? ⟨nb + 1 + 1, 0, none⟩ = false := by rw [← hw3, ← hnb]; exact frz_new (by simp)
  have hc := (syKn (g := g) hA (v.L.length + 1)).pipe 0 (by omega) w3 0 (nb + 2) (by omega) (by omega) (h.below hbe)
  obtain ⟨R, hR⟩ : ∃ R, (kn v (v.L.length + 1)).pipe 0 0 = R := ⟨_, rfl⟩
  have hall : allF v = R.bind fun t i => if i < v.L.length then unf v i else .ok t i := by rw [← hR]; rfl
  rw [hall]
  have hc2 : Calls Tryz.prog 22 #[ptr g] w3 (Out v g 0 w3 R (VN (nb + 2))) := by rw [← hR]; exact hc
  have HC := Lib.hid hc2
  have HG : Hid (w.grownBy w3 (some g)) := Lib.hid (gbOfB hbe)
  have HLT := Lib.hid hlt
  have HW3 := Lib.hid hw3
  have HNB := Lib.hid hnb
  have HS3 := Lib.hid hs3
  clear hc hc2 hR hall hbe hlt hw3 hnb hs3 h
  go_enter_defers Tryz.func15, Tryz.ntmps15
  go_wp2_with fail
  rw [HW3.out, HNB.out]
  refine HC.out.mono ?_
  intro e w4 ho
  clear HC
  rcases out_cases ho with ⟨x, j, u, rfl, rfl, hv, hp, hb⟩ | ⟨a, er, rfl, rfl, hb⟩
  · obtain ⟨b, rfl, hx⟩ := hv
    have ng : ∀ k, nb ≤ k → k ≠ g := fun k h e => by have := HLT.out; omega
    have d2 := hb.cell k2 (by simpa using ng nb (by omega))
    have d3 := hb.cell k3 (by simpa using ng (nb + 1) (by omega))
    have d4 := hb.cell k4 (by simpa using ng (nb + 1 + 1) (by omega))
    have e2 := frz_gb k2 z2 hb (ng nb (by omega))
    have e3 := frz_gb k3 z3 hb (ng (nb + 1) (by omega))
    have e4 := frz_gb k4 z4 hb (ng (nb + 1 + 1) (by omega))
    obtain ⟨l, rfl⟩ : ∃ l, nb = l + 1 := ⟨nb - 1, by have := HLT.out; omega⟩
    have HPB : Hid (∀ W, Below (l + 1) w4 W → PB v W g j 0) := Lib.hid (fun W hW => hp.bel2 hW (by have := HLT.out; omega))
    have HX := Lib.hid hx
    have HG4 := Lib.hid (gb_trans HG.out hb)
    have HSZ : Hid (l + 1 + 3 ≤ w4.heap.size) := Lib.hid (by have := hb.size; have := HS3.out; omega)
    obtain ⟨ao, cap, hp⟩ := hp
    have p0 := hp.c0; have p1 := hp.c1
    have hil := hp.il
    have hlen := hA.out.k.len
    have g1 : ¬ g = l + 1 := by have := HLT.out; omega
    have g2 : ¬ l + 1 = g := by omega
    clear k2 k3 k4 z2 z3 z4 hp hb ho hx HG
    have HSW : Hid (w.heap.size ≤ l + 1) := Lib.hid (by have := HNB.out; omega)
    by_cases hj : j < v.L.length
    · have hji : (j : Int) < (v.L.length : Int) := by omega
      have HJ := Lib.hid hj
      obtain ⟨X, hX⟩ : ∃ X, plc v j = X := ⟨_, rfl⟩
      obtain ⟨Y, hY⟩ : ∃ Y, (if j = v.L.length then 5 else 2 : Nat) = Y := ⟨_, rfl⟩
      have HU : Hid (∀ n, Calls Tryz.prog 23 #[ptr g] ((w4.setCell ⟨l + 1, 0, none⟩ (.pointer (some ⟨b, 0, none⟩))).drewN n) fun e w' => e = .returned (.agg #[.int .i64 (X : Int), .int .i64 (Y : Int)]) ∧ w'.cell? ⟨l + 1, 0, none⟩ = some (ptr b) ∧ w'.cell? ⟨l + 1 + 1, 0, none⟩ = some (.int .i64 0) ∧ w'.cell? ⟨l + 1 + 2, 0, none⟩ = some (.int .i64 0) ∧ w'.frozen? ⟨l + 1, 0, none⟩ = false ∧ w'.frozen? ⟨l + 1 + 1, 0, none⟩ = false ∧ w'.frozen? ⟨l + 1 + 2, 0, none⟩ = false ∧ Below (l + 1) w4 w') := Lib.hid (fun n => by
        have hW : Below (l + 1) w4 ((w4.setCell ⟨l + 1, 0, none⟩ (.pointer (some ⟨b, 0, none⟩))).drewN n) := bdN ((Below.refl _ _).setCell (p := ⟨l + 1, 0, none⟩) (Nat.le_refl _) _) n
        have hu := syUnfit hA.out.k (HPB.out _ hW)
        rw [hX, hY] at hu
        refine hu.mono ?_
        rintro e w' ⟨rfl, hb⟩
        have hs := HSZ.out
        have hs2 : ((w4.setCell ⟨l + 1, 0, none⟩ (.pointer (some ⟨b, 0, none⟩))).drewN n).heap.size = w4.heap.size := by simp
        rw [hs2] at hb
        refine ⟨rfl, ?_, ?_, ?_, ?_, ?_, ?_, hW.trans (hb.mono (by omega))⟩
        · rw [hb.cell (p := ⟨l + 1, 0, none⟩) (by show l + 1 < _; omega)]; simp [go_sem, d2]
        · rw [hb.cell (p := ⟨l + 1 + 1, 0, none⟩) (by show l + 1 + 1 < _; omega)]; simp [go_sem, d3]
        · rw [hb.cell (p := ⟨l + 1 + 2, 0, none⟩) (by show l + 1 + 2 < _; omega)]; simp [go_sem]; exact d4
        · rw [hb.frozen (p := ⟨l + 1, 0, none⟩) (by show l + 1 < _; omega)]; simp [go_sem, e2]
        · rw [hb.frozen (p := ⟨l + 1 + 1, 0, none⟩) (by show l + 1 + 1 < _; omega)]; simp [go_sem, e3]
        · rw [hb.frozen (p := ⟨l + 1 + 2, 0, none⟩) (by show l + 1 + 2 < _; omega)]; simp [go_sem]; exact e4)
      have EE : Hid (((Rs.ok x j : Rs Nd).bind fun t i => if i < v.L.length then unf v i else Rs.ok t i) = Rs.err X Y) := Lib.hid (by
        dsimp only [Rs.bind]; rw [if_pos hj]; unfold unf; rw [hX, hY])
      clear hj hX hY
      go_wp2_with fail
      go_quiet (fail)
      go_wp2_with fail
      refine (HU.out _).mono ?_
      rintro e w6 ⟨rfl, u2, u3, u4, v2, v3, v4, hbe⟩
      have HCA := Lib.hid (allCatch (N := l + 1) u2 u3 u4 v2 v3 v4 (Nat.le_refl _) (a := X) (er := Y))
      have HB6 := Lib.hid hbe
      clear u2 u3 u4 v2 v3 v4 hbe HU d2 d3 d4 e2 e3 e4 p0 p1 hil
      go_wp2_with fail
      refine leaves_cons (f := 21) (args := #[.pointer (some ⟨l + 1, 0, none⟩), .pointer (some ⟨l + 1 + 1, 0, none⟩), .pointer (some ⟨l + 1 + 1 + 1, 0, none⟩)]) (by simp) (by simp [go_sem]) ?_
      refine HCA.out.mono ?_
      rintro e u' w7 ⟨rfl, rfl, r2, r3, r4, hb7⟩
      simp [Leaves, settle, results, Tryz.results15, go_sem, r2, r3, r4]
      rw [EE.out]
      exact ⟨rfl, gb_bel HG4.out ((HB6.out.trans hb7).mono HSW.out)⟩
    · have hji : ¬ (j : Int) < (v.L.length : Int) := by omega
      have HF : Hid (∀ n, PR (((((w4.setCell ⟨l + 1, 0, none⟩ (.pointer (some ⟨b, 0, none⟩))).drewN n).setCell ⟨l + 1, 0, none⟩ (.pointer (some ⟨b, 0, none⟩))).setCell ⟨l + 1 + 1, 0, none⟩ (.int .i64 0)).setCell ⟨l + 1 + 1 + 1, 0, none⟩ (.int .i64 0)) g x b ∧ w.grownBy (((((w4.setCell ⟨l + 1, 0, none⟩ (.pointer (some ⟨b, 0, none⟩))).drewN n).setCell ⟨l + 1, 0, none⟩ (.pointer (some ⟨b, 0, none⟩))).setCell ⟨l + 1 + 1, 0, none⟩ (.int .i64 0)).setCell ⟨l + 1 + 1 + 1, 0, none⟩ (.int .i64 0)) (some g)) := Lib.hid (fun n => by
        refine ⟨PRA.to (fun k hk hs => ⟨?_, by have := HLT.out; omega⟩) HX.out, gb_bel HG4.out (Below.mono ?_ HSW.out)⟩
        · rw [Below.heap_setCell _ _ _ _ (by show k ≠ l + 1 + 1 + 1; omega), Below.heap_setCell _ _ _ _ (by show k ≠ l + 1 + 1; omega), Below.heap_setCell _ _ _ _ (by show k ≠ l + 1; omega)]
          exact Below.heap_setCell _ _ _ _ (by show k ≠ l + 1; omega)
        · exact (((bdN ((Below.refl _ _).setCell (p := ⟨l + 1, 0, none⟩) (Nat.le_refl _) _) n).setCell (p := ⟨l + 1, 0, none⟩) (Nat.le_refl _) _).setCell (p := ⟨l + 1 + 1, 0, none⟩) (by show l + 1 ≤ l + 1 + 1; omega) _).setCell (p := ⟨l + 1 + 1 + 1, 0, none⟩) (by show l + 1 ≤ l + 1 + 1 + 1; omega) _)
      have EE : Hid (((Rs.ok x j : Rs Nd).bind fun t i => if i < v.L.length then unf v i else Rs.ok t i) = Rs.ok x j) := Lib.hid (by
        dsimp only [Rs.bind]; rw [if_neg hj])
      clear hj
      go_wp2_with fail
      go_quiet (fail)
      go_wp2_with fail
      refine leaves_cons (f := 21) (args := #[.pointer (some ⟨l + 1, 0, none⟩), .pointer (some ⟨l + 1 + 1, 0, none⟩), .pointer (some ⟨l + 1 + 1 + 1, 0, none⟩)]) (by simp) (by simp [go_sem]) ?_
      refine (allIdle _ _ _).mono ?_
      rintro e u' w7 ⟨rfl, rfl, rfl⟩
      simp [Leaves, settle, results, Tryz.results15, go_sem, d2, d3, d4]
      rw [EE.out]
      exact ⟨b, rfl, (HF.out _).1, (HF.out _).2⟩
  · have HGE := Lib.hid (gb_trans HG.out hb)
    have ng : ∀ k, nb ≤ k → k ≠ g := fun k h e => by have := HLT.out; omega
    have d2 := hb.cell k2 (by simpa using ng nb (by omega))
    have d3 := hb.cell k3 (by simpa using ng (nb + 1) (by omega))
    have d4 := hb.cell k4 (by simpa using ng (nb + 1 + 1) (by omega))
    have e2 := frz_gb k2 z2 hb (ng nb (by omega))
    have e3 := frz_gb k3 z3 hb (ng (nb + 1) (by omega))
    have e4 := frz_gb k4 z4 hb (ng (nb + 1 + 1) (by omega))
    have HCA := Lib.hid (allCatch (N := nb) d2 d3 d4 e2 e3 e4 (Nat.le_refl _) (a := a) (er := er))
    have HSZ : Hid (w.heap.size ≤ nb) := Lib.hid (by have := HNB.out; omega)
    clear d2 d3 d4 e2 e3 e4 ng hb ho k2 k3 k4 z2 z3 z4
    go_wp2_with fail
    refine leaves_cons (f := 21) (args := #[.pointer (some ⟨nb, 0, none⟩), .pointer (some ⟨nb + 1, 0, none⟩), .pointer (some ⟨nb + 1 + 1, 0, none⟩)]) (by simp) (by simp [go_sem]) ?_
    refine HCA.out.mono ?_
    rintro e u' w5 ⟨rfl, rfl, r2, r3, r4, hbe⟩
    simp [Leaves, settle, results, Tryz.results15, go_sem, r2, r3, r4]
    exact ⟨rfl, gb_bel HGE.out (hbe.mono HSZ.out)⟩
end Go.Proofs.YtpgiljibicigeaaGreatDoor

/- syntax: nodes in memory; part.node walked. -/
namespace Go.Proofs.YtpgiljibicigeaaGreatDoor
open Go.RowKit SX

mutual
/-- the value u is the node that stands for a tree; A: what is said of the rows of its kids -/
def ND (w : World) (A : Nat → Prop) : Nd → Value → Prop
  | .mk k s ks, u => ∃ ao cap, u = .agg #[.int .i64 (k : Int), .string s, .slice ao ks.length cap] ∧ NDs w A ks ao 0
def NDs (w : World) (A : Nat → Prop) : List Nd → Option Addr → Nat → Prop
  | [], _, _ => True
  | x :: ks, ao, j => (∃ q c0 c1 c2, ao = some ⟨q, 0, none⟩ ∧ A q ∧ w.cell? ⟨q, j * 3, none⟩ = some c0 ∧ w.cell? ⟨q, j * 3 + 1, none⟩ = some c1 ∧ w.cell? ⟨q, j * 3 + 2, none⟩ = some c2 ∧ ND w A x (.agg #[c0, c1, c2])) ∧ NDs w A ks ao (j + 1)
end
mutual
theorem ND.to {w w' : World} {A B : Nat → Prop} (h : ∀ k, A k → k < w.heap.size → w'.heap[k]? = w.heap[k]? ∧ B k) : ∀ {x : Nd} {u : Value}, ND w A x u → ND w' B x u
  | .mk k s ks, u, hp => by
    unfold ND at hp ⊢
    obtain ⟨ao, cap, e, hs⟩ := hp
    exact ⟨ao, cap, e, NDs.to h hs⟩
theorem NDs.to {w w' : World} {A B : Nat → Prop} (h : ∀ k, A k → k < w.heap.size → w'.heap[k]? = w.heap[k]? ∧ B k) : ∀ {ks : List Nd} {ao : Option Addr} {j : Nat}, NDs w A ks ao j → NDs w' B ks ao j
  | [], _, _, _ => by unfold NDs; trivial
  | x :: ks, ao, j, hp => by
    unfold NDs at hp ⊢
    obtain ⟨⟨q, c0, c1, c2, e, hA, h0, h1, h2, hx⟩, hr⟩ := hp
    obtain ⟨he, hB⟩ := h q hA (lt_of_cell h0)
    have hc : ∀ j, w'.cell? ⟨q, j, none⟩ = w.cell? ⟨q, j, none⟩ := fun j => World.cell?_of_block (w := w) he
    exact ⟨⟨q, c0, c1, c2, e, hB, (hc _).trans h0, (hc _).trans h1, (hc _).trans h2, ND.to h hx⟩, NDs.to h hr⟩
end
theorem nds_mk {w : World} {A : Nat → Prop} {q : Nat} (hg : A q) : ∀ (ks : List Nd) (j : Nat), (∀ (i : Nat) (x : Nd), ks[i]? = some x → ∃ c0 c1 c2, w.cell? ⟨q, (j + i) * 3, none⟩ = some c0 ∧ w.cell? ⟨q, (j + i) * 3 + 1, none⟩ = some c1 ∧ w.cell? ⟨q, (j + i) * 3 + 2, none⟩ = some c2 ∧ ND w A x (.agg #[c0, c1, c2])) → NDs w A ks (some ⟨q, 0, none⟩) j
  | [], _, _ => by unfold NDs; trivial
  | x :: ks, j, h => by
    unfold NDs
    obtain ⟨c0, c1, c2, h0, h1, h2, hx⟩ := h 0 x rfl
    refine ⟨⟨q, c0, c1, c2, rfl, hg, h0, h1, h2, hx⟩, nds_mk hg ks (j + 1) fun i y hy => ?_⟩
    have := h (i + 1) y (by simpa using hy)
    rwa [show j + (i + 1) = j + 1 + i by omega] at this
theorem len_szs : ∀ (ks : List Nd), ks.length ≤ szs ks
  | [] => by simp
  | .mk k s js :: ks => by have := len_szs ks; simp only [szs, siz, List.length_cons]; omega
theorem siz_le : ∀ {ks : List Nd} {i : Nat} {x : Nd}, ks[i]? = some x → siz x ≤ szs ks
  | [], _, _, h => by simp at h
  | y :: ks, 0, x, h => by
    obtain rfl : y = x := by simpa using h
    simp only [szs]; omega
  | y :: ks, i + 1, x, h => by
    have := siz_le (ks := ks) (i := i) (x := x) (by simpa using h)
    simp only [szs]; omega
def ResNd (x : Nd) (w : World) (e : Ending) (w' : World) : Prop := ∃ u, e = .returned u ∧ ND w' (fun k => w.heap.size ≤ k) x u ∧ Below w.heap.size w w'
theorem infoNd : (Tryz.prog.info? 24).map (fun i => (i.zero, i.size, i.bytes)) = some (some (.agg #[.int .i64 0, .string ⟨#[]⟩, .slice none 0 0]), 3, 48) := by kernel_rfl
/-- what stands in the loop over the kids -/
structure NL (w : World) (nb k : Nat) (s : ByteArray) (ks : List Nd) (ao : Option Addr) (L : List Value) (i : Nat) (wr : World) : Prop where
  n0 : wr.cell? ⟨nb + 1, 0, none⟩ = some (.int .i64 (k : Int))
  n1 : wr.cell? ⟨nb + 1, 1, none⟩ = some (.string s)
  n2 : wr.cell? ⟨nb + 1, 2, none⟩ = some (.slice ao ks.length ks.length)
  r : ∀ j, j < 3 → ∃ u, wr.cell? ⟨nb, j, none⟩ = some u
  rf : ∀ j, wr.frozen? ⟨nb, j, none⟩ = false
  be : Below nb w wr
  row : ks = [] ∨ ∃ q, ao = some ⟨q, 0, none⟩ ∧ nb + 2 ≤ q ∧ OwnV wr (nb + 2) 24 3 ao ks.length ks.length L ∧ ∀ j x, j < i → ks[j]? = some x → ∃ c0 c1 c2, L[j * 3]? = some c0 ∧ L[j * 3 + 1]? = some c1 ∧ L[j * 3 + 2]? = some c2 ∧ ND wr (fun m => q < m) x (.agg #[c0, c1, c2])
theorem NL.nd {w wr : World} {nb k : Nat} {s : ByteArray} {ks : List Nd} {ao : Option Addr} {L : List Value} (h : NL w nb k s ks ao L ks.length wr) (hw : w.heap.size = nb) {w' : World} (hb : ∀ m, nb < m → w'.heap[m]? = wr.heap[m]?) : ND w' (fun m => w.heap.size ≤ m) (.mk k s ks) (.agg #[.int .i64 (k : Int), .string s, .slice ao ks.length ks.length]) := by
  unfold ND
  refine ⟨ao, _, rfl, ?_⟩
  rcases h.row with e | ⟨q, rfl, hq, ho, hk⟩
  · subst e; unfold NDs; trivial
  · refine nds_mk (by omega) ks 0 fun i x hx => ?_
    rw [Nat.zero_add]
    obtain ⟨c0, c1, c2, h0, h1, h2, hn⟩ := hk i x (List.getElem?_eq_some_iff.1 hx).1 hx
    have hc : ∀ j, w'.cell? ⟨q, j, none⟩ = wr.cell? ⟨q, j, none⟩ := fun j => World.cell?_of_block (w := wr) (hb q (by omega))
    exact ⟨c0, c1, c2, (hc _).trans (ho.cellAt h0), (hc _).trans (ho.cellAt h1), (hc _).trans (ho.cellAt h2), ND.to (fun m hm _ => ⟨hb m (by omega), by omega⟩) hn⟩
theorem NL.fin {w wr : World} {nb k : Nat} {s : ByteArray} {ks : List Nd} {ao : Option Addr} {L : List Value} (h : NL w nb k s ks ao L ks.length wr) (hw : w.heap.size = nb) (a0 a1 a2 : Value) : ResNd (.mk k s ks) w (.returned (.agg #[.int .i64 (k : Int), .string s, .slice ao ks.length ks.length])) (((wr.setCell ⟨nb, 0, none⟩ a0).setCell ⟨nb, 1, none⟩ a1).setCell ⟨nb, 2, none⟩ a2) :=
  ⟨_, rfl, h.nd hw (fun m hm => by rw [Below.heap_setCell _ _ _ _ (by show m ≠ nb; omega), Below.heap_setCell _ _ _ _ (by show m ≠ nb; omega), Below.heap_setCell _ _ _ _ (by show m ≠ nb; omega)]), by
    rw [hw]
    exact ((h.be.setCell (p := ⟨nb, 0, none⟩) (Nat.le_refl _) _).setCell (p := ⟨nb, 1, none⟩) (Nat.le_refl _) _).setCell (p := ⟨nb, 2, none⟩) (Nat.le_refl _) _⟩
theorem NL.step {w wr w4 : World} {nb k i q : Nat} {s : ByteArray} {ks : List Nd} {L : List Value} {x : Nd} {c0 c1 c2 : Value} (h : NL w nb k s ks (some ⟨q, 0, none⟩) L i wr) (hb : Below wr.heap.size wr w4) (hx : ks[i]? = some x) (hn : ND w4 (fun m => wr.heap.size ≤ m) x (.agg #[c0, c1, c2])) :
    NL w nb k s ks (some ⟨q, 0, none⟩) (((L.set (i * 3) c0).set (i * 3 + 1) c1).set (i * 3 + 2) c2) (i + 1) (((w4.setCell ⟨q, i * 3, none⟩ c0).setCell ⟨q, i * 3 + 1, none⟩ c1).setCell ⟨q, i * 3 + 2, none⟩ c2) := by
  have hil := (List.getElem?_eq_some_iff.1 hx).1
  have hne : ks ≠ [] := by intro e; rw [e] at hil; simp at hil
  obtain ⟨q', e, hq, ho, hk⟩ := h.row.resolve_left hne
  obtain rfl : q = q' := by injection e with e; injection e
  have hqs := ho.low q rfl
  have hL := ho.1
  have key : ∀ m, m ≠ q → (((w4.setCell ⟨q, i * 3, none⟩ c0).setCell ⟨q, i * 3 + 1, none⟩ c1).setCell ⟨q, i * 3 + 2, none⟩ c2).heap[m]? = w4.heap[m]? := fun m hm => by
    rw [Below.heap_setCell _ _ _ _ (by simpa using hm), Below.heap_setCell _ _ _ _ (by simpa using hm), Below.heap_setCell _ _ _ _ (by simpa using hm)]
  have l1 := lt_of_cell h.n0
  simp only at l1
  have cell : ∀ m j, m < wr.heap.size → m ≠ q → (((w4.setCell ⟨q, i * 3, none⟩ c0).setCell ⟨q, i * 3 + 1, none⟩ c1).setCell ⟨q, i * 3 + 2, none⟩ c2).cell? ⟨m, j, none⟩ = wr.cell? ⟨m, j, none⟩ := fun m j hm hq => World.cell?_of_block (w := wr) ((key m hq).trans (hb.block m hm))
  refine ⟨(cell _ _ l1 (by omega)).trans h.n0, (cell _ _ l1 (by omega)).trans h.n1, (cell _ _ l1 (by omega)).trans h.n2, fun j hj => ?_, fun j => ?_, ?_, .inr ⟨q, rfl, hq, (((ho.below hb).set _ _).set _ _).set _ _, fun j y hj hy => ?_⟩⟩
  · obtain ⟨u, hu⟩ := h.r j hj
    exact ⟨u, (cell _ _ (by omega) (by omega)).trans hu⟩
  · exact (World.frozen?_of_block (w := wr) ((key nb (by omega)).trans (hb.block nb (by omega)))).trans (h.rf j)
  · exact (((h.be.trans (hb.mono (by omega))).setCell (p := ⟨q, i * 3, none⟩) (by show nb ≤ q; omega) _).setCell (p := ⟨q, i * 3 + 1, none⟩) (by show nb ≤ q; omega) _).setCell (p := ⟨q, i * 3 + 2, none⟩) (by show nb ≤ q; omega) _
  · rcases Nat.lt_or_ge j i with hji | hji
    · obtain ⟨d0, d1, d2, h0, h1, h2, hd⟩ := hk j y hji hy
      refine ⟨d0, d1, d2, ?_, ?_, ?_, ND.to (fun m hm hs => ⟨(key m (by omega)).trans (hb.block m hs), hm⟩) hd⟩
      · rw [List.getElem?_set_ne (by omega), List.getElem?_set_ne (by omega), List.getElem?_set_ne (by omega)]; exact h0
      · rw [List.getElem?_set_ne (by omega), List.getElem?_set_ne (by omega), List.getElem?_set_ne (by omega)]; exact h1
      · rw [List.getElem?_set_ne (by omega), List.getElem?_set_ne (by omega), List.getElem?_set_ne (by omega)]; exact h2
    · obtain rfl : j = i := by omega
      obtain rfl : x = y := by rw [hx] at hy; injection hy
      have hl3 : j * 3 + 2 < L.length := by rw [hL]; omega
      refine ⟨c0, c1, c2, ?_, ?_, ?_, ND.to (fun m hm hs => ⟨key m (by omega), by omega⟩) hn⟩
      · rw [List.getElem?_set_ne (by omega), List.getElem?_set_ne (by omega), List.getElem?_set_self (by omega)]
      · rw [List.getElem?_set_ne (by omega), List.getElem?_set_self (by simp; omega)]
      · rw [List.getElem?_set_self (by simp; omega)]
set_option maxRecDepth 100000 in
set_option maxHeartbeats 8000000 in
theorem syNodeD (d : Nat) (IH : Hid (∀ (x : Nd) (w : World) (b : Nat) (A : Nat → Prop), dpt x ≤ d → siz x ≤ 100000000 → PRA w A x b → Calls Tryz.prog 16 #[ptr b] w (ResNd x w))) (k : Nat) (s : ByteArray) (ks : List Nd) (w : World) (b : Nat) (A : Nat → Prop) (hd : dps ks ≤ d) (hz : szs ks ≤ 100000000) (hp : PRA w A (.mk k s ks) b) :
    Calls Tryz.prog 16 #[ptr b] w (ResNd (.mk k s ks) w) := by
  unfold PRA at hp
  obtain ⟨_, h0, h1, ⟨a, cap, h2, hs⟩, _, _⟩ := hp
  have hlt := lt_of_cell h0
  simp only at hlt
  obtain ⟨w1, hw1⟩ : ∃ W, w.alloc (.cells #[.int .i64 0, .string ⟨#[]⟩, .slice none 0 0] 24) = W := ⟨_, rfl⟩
  obtain ⟨nb, hnb⟩ : ∃ n, w.heap.size = n := ⟨_, rfl⟩
  rw [hnb] at hlt
  have hbe : Below nb w w1 := by rw [← hw1]; exact (Below.refl _ _).alloc (by omega) _
  have hs1 : w1.heap.size = nb + 1 := by rw [← hw1, ← hnb]; simp
  have k0 : w1.cell? ⟨b, 0, none⟩ = some (.int .i64 (k : Int)) := by rw [hbe.cell (p := ⟨b, 0, none⟩) hlt]; exact h0
  have k1 : w1.cell? ⟨b, 1, none⟩ = some (.string s) := by rw [hbe.cell (p := ⟨b, 1, none⟩) hlt]; exact h1
  have HW1 := Lib.hid hw1
  have HNB := Lib.hid hnb
  have HBE := Lib.hid hbe
  have HPS := Lib.hid hs
  have HK2 := Lib.hid h2
  have HLT := Lib.hid hlt
  have HS1 := Lib.hid hs1
  have HD := Lib.hid hd; have HZ := Lib.hid hz
  have r0 : w1.cell? ⟨nb, 0, none⟩ = some (.int .i64 0) := by rw [← hw1]; exact cell_new hnb.symm
  have r1 : w1.cell? ⟨nb, 1, none⟩ = some (.string ⟨#[]⟩) := by rw [← hw1]; exact cell_new hnb.symm
  have r2 : w1.cell? ⟨nb, 2, none⟩ = some (.slice none 0 0) := by rw [← hw1]; exact cell_new hnb.symm
  have fr : ∀ j, w1.frozen? ⟨nb, j, none⟩ = false := fun j => by rw [← hw1]; exact frz_new hnb.symm
  clear h0 h1 h2 hs hbe hd hz hw1 hnb hlt hs1
  go_enter Tryz.func16, Tryz.ntmps16
  go_wp2_with fail
  rw [HW1.out, HNB.out]
  have x1 : ¬ b = w1.heap.size := by have := HLT.out; have := HS1.out; omega
  have x2 : ¬ w1.heap.size = b := fun e => x1 e.symm
  go_region_held3 (fun w' => w'.cell? ⟨b, 0, none⟩ = some (.int .i64 (k : Int)) ∧ w'.cell? ⟨b, 1, none⟩ = some (.string s)) (first | go_keep | exact ⟨k0, k1⟩) (fail)
  obtain ⟨w2, hw2⟩ : ∃ W, (w1.alloc (.cells #[.int .i64 (k : Int), .string s, .slice none 0 0] 24)).drew = W := ⟨_, rfl⟩
  have hs1 := HS1.out
  have n0 : w2.cell? ⟨nb + 1, 0, none⟩ = some (.int .i64 (k : Int)) := by rw [← hw2]; exact cell_new (W := w1) hs1.symm
  have n1 : w2.cell? ⟨nb + 1, 1, none⟩ = some (.string s) := by rw [← hw2]; exact cell_new (W := w1) hs1.symm
  have n2 : w2.cell? ⟨nb + 1, 2, none⟩ = some (.slice none 0 0) := by rw [← hw2]; exact cell_new (W := w1) hs1.symm
  have nf : ∀ j, w2.frozen? ⟨nb + 1, j, none⟩ = false := fun j => by rw [← hw2]; exact frz_new (W := w1) hs1.symm
  have hb12 : Below (nb + 1) w1 w2 := by rw [← hw2]; exact ((Below.refl _ _).alloc (by omega) _).drew
  have hbe : Below nb w w2 := HBE.out.trans (hb12.mono (by omega))
  have hs2 : w2.heap.size = nb + 2 := by rw [← hw2]; simp [hs1]
  have q0 : w2.cell? ⟨nb, 0, none⟩ = some (.int .i64 0) := (hb12.cell (p := ⟨nb, 0, none⟩) (Nat.lt_succ_self _)).trans r0
  have q1 : w2.cell? ⟨nb, 1, none⟩ = some (.string ⟨#[]⟩) := (hb12.cell (p := ⟨nb, 1, none⟩) (Nat.lt_succ_self _)).trans r1
  have q2 : w2.cell? ⟨nb, 2, none⟩ = some (.slice none 0 0) := (hb12.cell (p := ⟨nb, 2, none⟩) (Nat.lt_succ_self _)).trans r2
  have qf : ∀ j, w2.frozen? ⟨nb, j, none⟩ = false := fun j => (hb12.frozen (p := ⟨nb, j, none⟩) (Nat.lt_succ_self _)).trans (fr j)
  have HQ : Hid (∀ j, j < 3 → ∃ u, w2.cell? ⟨nb, j, none⟩ = some u) := Lib.hid (fun j hj => by
    match j, hj with
    | 0, _ => exact ⟨_, q0⟩
    | 1, _ => exact ⟨_, q1⟩
    | 2, _ => exact ⟨_, q2⟩)
  have HQF := Lib.hid qf
  have kc : w2.cell? ⟨b, 2, none⟩ = some (.slice a ks.length cap) := (hbe.cell (p := ⟨b, 2, none⟩) HLT.out).trans HK2.out
  have HB2 := Lib.hid hbe; have HS2 := Lib.hid hs2
  have HKN : Hid (w2.cell? ⟨nb + 1, 0, none⟩ = some (.int .i64 (k : Int)) ∧ w2.cell? ⟨nb + 1, 1, none⟩ = some (.string s)) := Lib.hid ⟨n0, n1⟩
  have HKC := Lib.hid kc
  have y1 : ¬ b = nb + 1 := by have := HLT.out; omega
  have y2 : ¬ nb + 1 = b := by omega
  rw [hw2, hs1]
  clear hw2 hs1 r0 r1 r2 fr k0 k1 hb12 hbe hs2 x1 x2 HBE HK2 HS1 q0 q1 q2 qf
  rcases List.eq_nil_or_concat ks with hnil | ⟨_, _, hne⟩
  · have hl0 : ks.length = 0 := by rw [hnil]; rfl
    have HL0 : Hid (NL w nb k s ks none [] 0 w2) := Lib.hid ⟨n0, n1, by rw [hl0]; exact n2, HQ.out, HQF.out, HB2.out, .inl hnil⟩
    subst hnil
    have kc' : w2.cell? ⟨b, 2, none⟩ = some (.slice a 0 cap) := kc
    clear kc hl0 n0 n1 n2 nf
    go_wp2_with fail
    go_loopg [33] 0 (fun gk s33 wr => s33 = .int .i64 0 ∧ Hid (NL w nb k s [] none [] 0 wr))
    case atStart => exact ⟨rfl, HL0⟩
    case round =>
      obtain ⟨rfl, HR⟩ := hrel
      have m0 := HR.out.n0; have m1 := HR.out.n1; have m2 : wr.cell? ⟨nb + 1, 2, none⟩ = some (.slice none 0 0) := HR.out.n2
      obtain ⟨v0, r0⟩ := HR.out.r 0 (by decide); obtain ⟨v1, r1⟩ := HR.out.r 1 (by decide); obtain ⟨v2, r2⟩ := HR.out.r 2 (by decide)
      have rf := HR.out.rf
      go_wp2
      refine bodyPost_ret (v := .agg #[.int .i64 (k : Int), .string s, .slice none 0 0]) (by simp [results, Tryz.results16, go_sem, r0, r1, r2]) rfl ?_
      exact HR.out.fin HNB.out _ _ _
  · have hpos : (0 : Int) < (ks.length : Int) := by rw [hne]; simp
    obtain ⟨ti, hti, hz0, hz1, hz2⟩ := info_parts infoNd
    have hkn : ks.length ≤ 100000000 := Nat.le_trans (len_szs ks) HZ.out
    have HTI := Lib.hid hz2
    have HKL := Lib.hid hkn
    have HNE : Hid (ks ≠ []) := Lib.hid (by rw [hne]; simp)
    clear hne hz2 hkn
    go_wp2_with (at_make; refine wpList_make_full _ rfl _ _ 22 rfl (nb + 2) 24 ti (.agg #[.int .i64 0, .string ⟨#[]⟩, .slice none 0 0]) 3 Tryz.underlying22 hti hz0 hz1 .i64 .i64 _ _ ks.length rfl rfl rfl rfl (by have := HTI.out; have := HKL.out; rw [HTI.out]; omega) (by have := HKL.out; unfold maxLen; omega) (by rw [HS2.out]; exact Nat.le_refl _) ?_; intro w3 e1 e2; rw [HS2.out] at e1 ⊢; have g2 := e2.cell n2 (by simp); have kc3 := e2.cell kc (by simp); have gf : w3.frozen? ⟨nb + 1, 2, none⟩ = false := (World.frozen?_of_block (w := w2) (e2.block (nb + 1) (by rw [HS2.out]; omega) (by simp))).trans (nf 2))
    have HL0 : Hid (NL w nb k s ks (some ⟨nb + 2, 0, none⟩) _ 0 (w3.setCell ⟨nb + 1, 2, none⟩ (.slice (some ⟨nb + 2, 0, none⟩) ks.length ks.length))) := Lib.hid ⟨by simp [go_sem]; exact e2.cell n0 (by simp), by simp [go_sem]; exact e2.cell n1 (by simp), by simp [go_sem, g2], fun j hj => by
      obtain ⟨u, hu⟩ := HQ.out j hj
      exact ⟨u, by rw [World.cell?_setCell_other _ _ _ _ (by simp)]; exact e2.cell hu (by simp)⟩, fun j => by
      simp [go_sem]
      exact (World.frozen?_of_block (w := w2) (e2.block nb (by rw [HS2.out]; omega) (by simp))).trans (HQF.out j), (HB2.out.grown e2 (by rw [HS2.out]; omega) (by simp)).setCell (p := ⟨nb + 1, 2, none⟩) (by show nb ≤ nb + 1; omega) _, .inr ⟨nb + 2, rfl, Nat.le_refl _, OwnV.gbl (g := nb + 1) e1 (gb_set (gb_refl _ _) 2 _) (by omega), fun j x hj => by omega⟩⟩
    generalize (madeCells (Value.agg #[Value.int IntKind.i64 0, Value.string ⟨#[]⟩, Value.slice none 0 0]).cells (ks.length * 3)).toList = L0 at *
    clear n0 n1 n2 nf g2 gf kc3 e1 e2 kc hz0 hz1 hti HTI
    go_loopg [33] ks.length (fun gk s33 wr => ∃ (i : Nat) (L : List Value), i + gk = ks.length ∧ s33 = .int .i64 (i : Int) ∧ Hid (NL w nb k s ks (some ⟨nb + 2, 0, none⟩) L i wr))
    case atStart => exact ⟨0, L0, by omega, rfl, HL0⟩
    case round =>
      obtain ⟨i, L, hi, rfl, HR⟩ := hrel
      by_cases hlt : i < ks.length
      · obtain ⟨f, rfl⟩ : ∃ f, gk = f + 1 := ⟨gk - 1, by omega⟩
        have hltI : (i : Int) < (ks.length : Int) := by omega
        have hib : (i : Int) ≤ 100000000 := by have := HKL.out; omega
        obtain ⟨x, hx⟩ : ∃ x, ks[i]? = some x := ⟨_, List.getElem?_eq_getElem hlt⟩
        obtain ⟨ab, bk, rfl, hc, hpx⟩ := HPS.out.get hx
        rw [Nat.zero_add] at hc
        have hcl := lt_of_cell hc
        simp only [HNB.out] at hcl
        have kk : wr.cell? ⟨ab, i, none⟩ = some (ptr bk) := (HR.out.be.cell (p := ⟨ab, i, none⟩) hcl).trans hc
        have m2 := HR.out.n2
        have HC : Hid (∀ n, Calls Tryz.prog 16 #[ptr bk] (wr.drewN n) fun e w' => ∃ (z : Int) (t : ByteArray) (ao' : Option Addr) (n' c' : Nat), e = .returned (.agg #[.int .i64 z, .string t, .slice ao' n' c']) ∧ ND w' (fun m => wr.heap.size ≤ m) x (.agg #[.int .i64 z, .string t, .slice ao' n' c']) ∧ Below wr.heap.size wr w') := Lib.hid (fun n => by
          have hpr : PRA (wr.drewN n) A x bk := PRA.to (w := w) (w' := wr.drewN n) (fun m hm hs => ⟨HR.out.be.block m (by rw [← HNB.out]; exact hs), hm⟩) hpx
          refine (IH.out x (wr.drewN n) bk A (Nat.le_trans (dpt_le hx) HD.out) (Nat.le_trans (siz_le hx) HZ.out) hpr).mono ?_
          rintro e w' ⟨u, rfl, hn, hb⟩
          obtain ⟨k', s', js⟩ := x
          have hn' := hn
          unfold ND at hn'
          obtain ⟨ao', cap', rfl, _⟩ := hn'
          exact ⟨_, _, _, _, _, rfl, hn, ⟨hb.os, hb.tape, hb.output, hb.size, hb.block⟩⟩)
        obtain ⟨q', eq', _, ho, _⟩ := HR.out.row.resolve_left HNE.out
        obtain rfl : nb + 2 = q' := by injection eq' with e; injection e
        have HO := Lib.hid ho
        have hL := ho.1
        obtain ⟨l0, hl0⟩ : ∃ u, L[i * 3]? = some u := ⟨_, List.getElem?_eq_getElem (by omega)⟩
        obtain ⟨l1, hl1⟩ : ∃ u, L[i * 3 + 1]? = some u := ⟨_, List.getElem?_eq_getElem (by omega)⟩
        obtain ⟨l2, hl2⟩ : ∃ u, L[i * 3 + 2]? = some u := ⟨_, List.getElem?_eq_getElem (by omega)⟩
        have HLL := Lib.hid hl0; have HLM := Lib.hid hl1; have HLN := Lib.hid hl2
        have HX := Lib.hid hx; have HI := Lib.hid hi
        clear hl0 hl1 hl2 hL ho eq' hx hpx hc hcl hlt hi
        go_upto_region 7 with (fail)
        go_region_held3 (fun w' => w'.cell? ⟨nb + 1, 2, none⟩ = some (.slice (some ⟨nb + 2, 0, none⟩) ks.length ks.length)) (first | go_keep | exact z2 | exact m2)
          ((first
            | (go_at_call 16; refine (HC.out _).mono ?_; rintro e w4 ⟨zz, tt, aa, n9, c9, rfl, hn, hb⟩; have z2 := (hb.cell (lt_of_cell m2)).trans m2; have s0 := (HO.out.below hb).cellAt HLL.out; have s1 := (HO.out.below hb).cellAt HLM.out; have s2 := (HO.out.below hb).cellAt HLN.out; have sf := (HO.out.below hb).frozen; have HN4 := Lib.hid hn; have HB4 := Lib.hid hb; clear hn hb)))
        have HNX := Lib.hid (HR.out.step HB4.out HX.out HN4.out)
        go_wp2
        go_roundg f
        case measure => omega
        case rel => exact ⟨i + 1, _, by have := HI.out; omega, rfl, HNX⟩
      · have hltI : ¬ (i : Int) < (ks.length : Int) := by omega
        obtain rfl : i = ks.length := by omega
        have m0 := HR.out.n0; have m1 := HR.out.n1; have m2 := HR.out.n2
        obtain ⟨v0, r0⟩ := HR.out.r 0 (by decide); obtain ⟨v1, r1⟩ := HR.out.r 1 (by decide); obtain ⟨v2, r2⟩ := HR.out.r 2 (by decide)
        have rf := HR.out.rf
        go_wp2
        refine bodyPost_ret (v := .agg #[.int .i64 (k : Int), .string s, .slice (some ⟨nb + 2, 0, none⟩) ks.length ks.length]) (by simp [results, Tryz.results16, go_sem, r0, r1, r2]) rfl ?_
        exact HR.out.fin HNB.out _ _ _
theorem syNode : ∀ (d : Nat) (x : Nd) (w : World) (b : Nat) (A : Nat → Prop), dpt x ≤ d → siz x ≤ 100000000 → PRA w A x b → Calls Tryz.prog 16 #[ptr b] w (ResNd x w)
  | 0, .mk k s ks, w, b, A, hd, _, _ => by simp only [dpt] at hd; omega
  | d + 1, .mk k s ks, w, b, A, hd, hz, hp => syNodeD d (Lib.hid (syNode d)) k s ks w b A (by simp only [dpt] at hd; omega) (by simp only [siz] at hz; omega) hp
end Go.Proofs.YtpgiljibicigeaaGreatDoor
