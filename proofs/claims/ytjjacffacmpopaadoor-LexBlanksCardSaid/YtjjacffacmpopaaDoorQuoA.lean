/- quote's reader: its box; peek, take, fault, digitOf, unit walked. -/
import Derived.Test.YtjjacffacmpopaaDoorQuoMath
import Derived.Test.YtjjacffacmpopaaDoorUtfD
import Derived.Test.YtjjacffacmpopaaDoorLimbMaths
import Derived.Deep.QuietTactic
import Derived.BigQuiet
import Derived.IntWalk
namespace Go.Proofs.YtjjacffacmpopaaDoor
open Go.RowKit UM QM

theorem Rd.gbc {w w' : World} {k : IntKind} {a : Option Addr} {l : List Nat} {g : Nat} (h : Rd w k a l) (hg : w.grownBy w' (some g)) (hne : 0 < l.length → Apart a g) : Rd w' k a l := fun j hj => (Rd.gb h hg (hne (by omega))) j hj
theorem Rd.slot {w : World} {k : IntKind} {a : Option Addr} {l : List Nat} (h : Rd w k a l) (hp : 0 < l.length) : ∀ b off, a = some ⟨b, off, none⟩ → b < w.heap.size := fun b off e => by
  obtain ⟨b', off', e', hc⟩ := h 0 hp
  rw [e] at e'; cases e'
  exact lt_of_cell hc
/-- a reader's box, over the bytes l -/
def RB (w : World) (g : Nat) (a : Option Addr) (cap : Nat) (l : List Nat) (k err : Nat) : Prop :=
  w.cell? ⟨g, 0, none⟩ = some (.slice a l.length cap) ∧ w.cell? ⟨g, 1, none⟩ = some (.int .i64 (k : Int)) ∧ w.cell? ⟨g, 2, none⟩ = some (.int .i64 (err : Int)) ∧ (∀ j, w.frozen? ⟨g, j, none⟩ = false) ∧ Rd w .u8 a l ∧ (0 < l.length → Apart a g) ∧ k ≤ l.length ∧ l.length ≤ 140737488353000 ∧ LM.Lo 256 l ∧ l.length ≤ cap ∧ Sh w ∧ ¬ 1 = g
theorem RB.dN {w : World} {g : Nat} {a : Option Addr} {cap : Nat} {l : List Nat} {k err : Nat} (h : RB w g a cap l k err) (n : Nat) : RB (w.drewN n) g a cap l k err := h
theorem gb_dN {w wr : World} {row : Option Nat} (h : w.grownBy wr row) (n : Nat) : w.grownBy (wr.drewN n) row := ⟨h.os, h.tape, h.output, h.size, h.block⟩
theorem Sh.gb {w w' : World} {r : Nat} (h : Sh w) (hg : w.grownBy w' (some r)) (hne : ¬ 1 = r) : Sh w' := by
  obtain ⟨a, b, c, d, e, f, g, h, i, j, k, l⟩ := h
  have key : ∀ (o : Nat) (v : Value), w.cell? ⟨1, o, none⟩ = some v → w'.cell? ⟨1, o, none⟩ = some v := fun o v h => hg.cell h (by intro e2; exact hne (by simpa using e2))
  exact ⟨key _ _ a, key _ _ b, key _ _ c, key _ _ d, key _ _ e, key _ _ f, key _ _ g, key _ _ h, key _ _ i, key _ _ j, key _ _ k, key _ _ l⟩
theorem RB.put {w : World} {g : Nat} {a : Option Addr} {cap : Nat} {l : List Nat} {k err : Nat} (h : RB w g a cap l k err) (k' : Nat) (hk : k' ≤ l.length) {v : Int} (hv : v = (k' : Int)) : RB (w.setCell ⟨g, 1, none⟩ (.int .i64 v)) g a cap l k' err := by
  subst hv
  obtain ⟨h0, h1, h2, hf, hr, ha, hk2, hl, hlo, hcp, hsh, hsn⟩ := h
  refine ⟨by simp [go_sem, h0, h1], by simp [go_sem, h1], by simp [go_sem, h2, h1], fun j => by simp [go_sem, hf j], Rd.gbc hr (gb_set (gb_refl w (some g)) 1 _) ha, ha, hk, hl, hlo, hcp, hsh.gb (gb_set (gb_refl w (some g)) 1 _) hsn, hsn⟩
def ResP (g : Nat) (a : Option Addr) (cap : Nat) (l : List Nat) (r : Int × Bool × Nat) (w : World) (e : Ending) (w' : World) : Prop :=
  e = .returned (.tuple #[.int .i64 r.1, .bool r.2.1]) ∧ RB w' g a cap l r.2.2 0 ∧ w.grownBy w' (some g)

set_option maxRecDepth 100000 in
set_option maxHeartbeats 1000000 in
theorem peek_any (g : Nat) (a : Option Addr) (cap : Nat) (l : List Nat) (k err : Nat) (w : World) (h : RB w g a cap l k err) :
    Calls Tryd.prog 67 #[.pointer (some ⟨g, 0, none⟩)] w fun e w' => e = .returned (.int .i64 (pk l k)) ∧ ∃ n, w' = w.drewN n := by
  obtain ⟨h0, h1, h2, hf, hr, ha, hk, hl, hlo, _⟩ := h
  have HR := Lib.hid hr
  have HLo := Lib.hid hlo
  clear h2 hf ha hr hlo
  by_cases hlt : k < l.length
  · have hp : pk l k = ((l[k]?.getD 0 : Nat) : Int) := if_pos hlt
    obtain ⟨b, off, x, ea, HX, hx, hc⟩ := HR.out.get HLo.out k hlt
    rw [hp, ← HX.out]
    subst ea
    clear hp HR HLo
    go_enter Tryd.func67, Tryd.ntmps67
    go_wp2
    go_quiet (fail)
    go_wp2
    go_quiet (fail)
    go_wp2
    go_ret
    exact ⟨rfl, _, World.drewN_drewN _ _ _⟩
  · have hp : pk l k = -1 := if_neg hlt
    rw [hp]
    clear hp HR HLo
    go_enter Tryd.func67, Tryd.ntmps67
    go_wp2
    go_quiet (fail)
    go_wp2
    go_ret
    exact ⟨rfl, _, rfl⟩
def ResT2 (g : Nat) (a : Option Addr) (cap : Nat) (l : List Nat) (k : Nat) (b : Bool) (w : World) (e : Ending) (w' : World) : Prop :=
  e = .returned (.bool b) ∧ RB w' g a cap l k 0 ∧ w.grownBy w' (some g)
set_option maxRecDepth 100000 in
set_option maxHeartbeats 1000000 in
theorem take_yes (c : Int) (g : Nat) (a : Option Addr) (cap : Nat) (l : List Nat) (k : Nat) (w : World) (h : RB w g a cap l k 0) (hc : pk l k = c) (hn : c ≠ -1) :
    Calls Tryd.prog 63 #[.pointer (some ⟨g, 0, none⟩), .int .i64 c] w (ResT2 g a cap l (k + 1) true w) := by
  have HP := Lib.hid (peek_any g a cap l k 0 w h)
  have hlt : k < l.length := pk_pos (by rw [hc]; exact hn)
  have HB := Lib.hid h
  have hl := h.2.2.2.2.2.2.2.1
  obtain ⟨h0, h1, h2, hf, _⟩ := h
  rw [hc] at HP
  clear hc hn h0 h2
  go_enter Tryd.func63, Tryd.ntmps63
  go_wp2_with (refine HP.out.mono ?_; rintro e w1 ⟨rfl, n, rfl⟩)
  go_ret
  exact ⟨rfl, (HB.out.dN _).put (k + 1) (by omega) (by omega), gb_set (gb_dN (gb_refl _ _) _) _ _⟩
set_option maxRecDepth 100000 in
set_option maxHeartbeats 1000000 in
theorem take_no (c : Int) (g : Nat) (a : Option Addr) (cap : Nat) (l : List Nat) (k : Nat) (w : World) (h : RB w g a cap l k 0) (hc : pk l k ≠ c) :
    Calls Tryd.prog 63 #[.pointer (some ⟨g, 0, none⟩), .int .i64 c] w (ResT2 g a cap l k false w) := by
  have HP := Lib.hid (peek_any g a cap l k 0 w h)
  have HB := Lib.hid h
  have ht : (pk l k != c) = true := by simp [hc]
  clear hc h
  generalize pk l k = p at *
  go_enter Tryd.func63, Tryd.ntmps63
  go_wp2_with (refine HP.out.mono ?_; rintro e w1 ⟨rfl, n, rfl⟩)
  go_ret
  exact ⟨rfl, HB.out.dN _, gb_dN (gb_refl _ _) _⟩
set_option maxRecDepth 100000 in
set_option maxHeartbeats 1000000 in
theorem fault_any (g : Nat) (a : Option Addr) (cap : Nat) (l : List Nat) (k err : Nat) (w : World) (h : RB w g a cap l k err) :
    Calls Tryd.prog 64 #[.pointer (some ⟨g, 0, none⟩)] w fun e w' => e = .returned (.int .i64 (faultF l k : Nat)) ∧ ∃ n, w' = w.drewN n := by
  have HP := Lib.hid (peek_any g a cap l k err w h)
  clear h
  unfold faultF
  generalize pk l k = p at *
  by_cases h1 : p = -1
  · rw [if_pos h1]
    subst h1
    go_enter Tryd.func64, Tryd.ntmps64
    go_wp2_with (refine HP.out.mono ?_; rintro e w1 ⟨rfl, n, rfl⟩)
    go_ret
    exact ⟨rfl, _, rfl⟩
  · rw [if_neg h1]
    have ht : (p == -1) = false := by simp [h1]
    clear h1
    by_cases h2 : 127 < p
    · rw [if_pos h2]
      go_enter Tryd.func64, Tryd.ntmps64
      go_wp2_with (refine HP.out.mono ?_; rintro e w1 ⟨rfl, n, rfl⟩)
      go_ret
      exact ⟨rfl, _, rfl⟩
    · rw [if_neg h2]
      go_enter Tryd.func64, Tryd.ntmps64
      go_wp2_with (refine HP.out.mono ?_; rintro e w1 ⟨rfl, n, rfl⟩)
      go_ret
      exact ⟨rfl, _, rfl⟩
def digR (c : Int) : Int × Bool := match dgv c with | none => (0, false) | some d => ((d : Nat), true)
set_option maxRecDepth 100000 in
set_option maxHeartbeats 1000000 in
theorem digitOf_any (c : Int) (hc : -1 ≤ c) (hc2 : c < 256) (w : World) :
    Calls Tryd.prog 75 #[.int .i64 c] w fun e w' => e = .returned (.tuple #[.int .i64 (digR c).1, .bool (digR c).2]) ∧ w = w' := by
  unfold digR dgv
  by_cases a1 : 48 ≤ c ∧ c ≤ 57
  · rw [if_pos a1]
    obtain ⟨a1, a2⟩ := a1
    go_enter Tryd.func75, Tryd.ntmps75
    go_wp2
    go_ret2
    exact ⟨by congr 3; simp; omega, rfl⟩
  · rw [if_neg a1]
    by_cases b1 : 97 ≤ c ∧ c ≤ 102
    · rw [if_pos b1]
      obtain ⟨b1, b2⟩ := b1
      go_enter Tryd.func75, Tryd.ntmps75
      go_wp2
      go_ret2
      exact ⟨by congr 3; simp; omega, rfl⟩
    · rw [if_neg b1]
      by_cases d1 : 65 ≤ c ∧ c ≤ 70
      · rw [if_pos d1]
        obtain ⟨d1, d2⟩ := d1
        have a2 : ¬ c ≤ 57 := by omega
        have b2 : ¬ 97 ≤ c := by omega
        go_enter Tryd.func75, Tryd.ntmps75
        go_wp2
        go_ret2
        exact ⟨by congr 3; simp; omega, rfl⟩
      · rw [if_neg d1]
        by_cases a2 : 48 ≤ c
        all_goals by_cases b2 : 97 ≤ c
        all_goals by_cases d2 : 65 ≤ c
        all_goals first
          | (exfalso; omega)
          | (have a3 : 48 ≤ c → ¬ c ≤ 57 := by omega
             have b3 : 97 ≤ c → ¬ c ≤ 102 := by omega
             have d3 : 65 ≤ c → ¬ c ≤ 70 := by omega
             clear a1 b1 d1
             go_enter Tryd.func75, Tryd.ntmps75
             first
               | (have a4 := a3 a2; have b4 := b3 b2; have d4 := d3 d2; clear a3 b3 d3; go_wp2)
               | (have a4 := a3 a2; have d4 := d3 d2; clear a3 b3 d3; go_wp2)
               | (have a4 := a3 a2; clear a3 b3 d3; go_wp2)
               | (clear a3 b3 d3; go_wp2)
             go_ret2
             exact ⟨rfl, rfl⟩)
end Go.Proofs.YtjjacffacmpopaaDoor
