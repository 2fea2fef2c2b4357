/- valid's reader: its box; the small methods walked. -/
import Derived.Test.YtefaieglhllioaaDoorValMaths
import Derived.Test.YtefaieglhllioaaDoorQuoJ
import Derived.Test.YtefaieglhllioaaDoorParA
import Derived.Deep.QuietTactic
import Derived.BigQuiet
import Derived.IntWalk
import Derived.Lib.ConvBytes
import Derived.Deep.RegionHeld3
namespace Go.Proofs.YtefaieglhllioaaDoor
open Go.RowKit UM QM VM

/-- the words of the brackets that are open -/
def WB (w : World) (g : Nat) (s : List Bool) : Prop :=
  ∃ f : Nat → BitVec 64, w.cell? ⟨g, 2, none⟩ = some (.int .u64 (BM.val (f 0))) ∧ w.cell? ⟨g, 3, none⟩ = some (.int .u64 (BM.val (f 1))) ∧ w.cell? ⟨g, 4, none⟩ = some (.int .u64 (BM.val (f 2))) ∧ w.cell? ⟨g, 5, none⟩ = some (.int .u64 (BM.val (f 3))) ∧ ∀ j, j < s.length → (f (j / 64)).getLsbD (j % 64) = s[j]?.getD false
/-- what stays of a reader's box over the bytes l -/
def VK (w : World) (g : Nat) (a : Option Addr) (cap : Nat) (l : List Nat) (m : Nat) : Prop :=
  w.cell? ⟨g, 0, none⟩ = some (.slice a l.length cap) ∧ w.cell? ⟨g, 7, none⟩ = some (.int .i64 (m : Int)) ∧ (∀ j, w.frozen? ⟨g, j, none⟩ = false) ∧ Rd w .u8 a l ∧ (0 < l.length → Apart a g) ∧ l.length ≤ 140737488353000 ∧ LM.Lo 256 l ∧ l.length ≤ cap ∧ Sh w ∧ ¬ 0 = g ∧ m ≤ 200
/-- a reader's box: k bytes gone through, s open, m at most, d: the next one is too many -/
def VB (w : World) (g : Nat) (a : Option Addr) (cap : Nat) (l : List Nat) (m k : Nat) (s : List Bool) (d : Bool) : Prop :=
  w.cell? ⟨g, 1, none⟩ = some (.int .i64 (k : Int)) ∧ WB w g s ∧ w.cell? ⟨g, 6, none⟩ = some (.int .i64 (s.length : Int)) ∧ w.cell? ⟨g, 8, none⟩ = some (.bool d) ∧ k ≤ l.length ∧ s.length ≤ 200 ∧ VK w g a cap l m
theorem VK.set {w : World} {g : Nat} {a : Option Addr} {cap : Nat} {l : List Nat} {m : Nat} (h : VK w g a cap l m) {i : Nat} (h0 : i ≠ 0) (h7 : i ≠ 7) (v : Value) : VK (w.setCell ⟨g, i, none⟩ v) g a cap l m := by
  obtain ⟨c0, c7, hf, hr, ha, hl, hlo, hcp, hsh, hsn, hm⟩ := h
  have hg := gb_set (gb_refl w (some g)) i v
  refine ⟨?_, ?_, fun j => by simp [go_sem, hf j], Rd.gbc hr hg ha, ha, hl, hlo, hcp, hsh.gb hg hsn, hsn, hm⟩
  · rw [World.cell?_setCell_other _ _ _ _ (by intro e; simp at e <;> omega)]; exact c0
  · rw [World.cell?_setCell_other _ _ _ _ (by intro e; simp at e <;> omega)]; exact c7
theorem VK.gb {w w' : World} {g : Nat} {a : Option Addr} {cap : Nat} {l : List Nat} {m : Nat} (h : VK w g a cap l m) (hb : Below w.heap.size w w') : VK w' g a cap l m := by
  obtain ⟨c0, c7, hf, hr, ha, hl, hlo, hcp, hsh, hsn, hm⟩ := h
  have hg := lt_of_cell c0
  exact ⟨cellP hb c0, cellP hb c7, fun j => (hb.frozen (p := ⟨g, j, none⟩) hg).trans (hf j), hr.below hb, ha, hl, hlo, hcp, hsh.below hb, hsn, hm⟩
theorem WB.below {w w' : World} {g : Nat} {s : List Bool} (h : WB w g s) (hb : Below w.heap.size w w') : WB w' g s := by
  obtain ⟨f, h0, h1, h2, h3, h4⟩ := h
  exact ⟨f, cellP hb h0, cellP hb h1, cellP hb h2, cellP hb h3, h4⟩
theorem VB.below {w w' : World} {g : Nat} {a : Option Addr} {cap : Nat} {l : List Nat} {m k : Nat} {s : List Bool} {d : Bool} (h : VB w g a cap l m k s d) (hb : Below w.heap.size w w') : VB w' g a cap l m k s d := by
  obtain ⟨c1, hw, c6, c8, hk, hs, hv⟩ := h
  exact ⟨cellP hb c1, hw.below hb, cellP hb c6, cellP hb c8, hk, hs, hv.gb hb⟩
theorem VB.dN {w : World} {g : Nat} {a : Option Addr} {cap : Nat} {l : List Nat} {m k : Nat} {s : List Bool} {d : Bool} (h : VB w g a cap l m k s d) (n : Nat) : VB (w.drewN n) g a cap l m k s d := h
theorem WB.set {w : World} {g : Nat} {s : List Bool} (h : WB w g s) {i : Nat} (hi : i < 2 ∨ 5 < i) (v : Value) : WB (w.setCell ⟨g, i, none⟩ v) g s := by
  obtain ⟨f, h0, h1, h2, h3, h4⟩ := h
  refine ⟨f, ?_, ?_, ?_, ?_, h4⟩
  all_goals (rw [World.cell?_setCell_other _ _ _ _ (by intro e; simp at e <;> omega)]; assumption)
theorem VB.put {w : World} {g : Nat} {a : Option Addr} {cap : Nat} {l : List Nat} {m k : Nat} {s : List Bool} {d : Bool} (h : VB w g a cap l m k s d) (k' : Nat) (hk : k' ≤ l.length) {v : Int} (hv : v = (k' : Int)) : VB (w.setCell ⟨g, 1, none⟩ (.int .i64 v)) g a cap l m k' s d := by
  subst hv
  obtain ⟨c1, hw, c6, c8, _, hs, hvk⟩ := h
  refine ⟨by simp [go_sem, c1], hw.set (by omega) _, ?_, ?_, hk, hs, hvk.set (by omega) (by omega) _⟩
  all_goals (rw [World.cell?_setCell_other _ _ _ _ (by simp)]; assumption)
theorem VB.deep {w : World} {g : Nat} {a : Option Addr} {cap : Nat} {l : List Nat} {m k : Nat} {s : List Bool} {d : Bool} (h : VB w g a cap l m k s d) (d' : Bool) : VB (w.setCell ⟨g, 8, none⟩ (.bool d')) g a cap l m k s d' := by
  obtain ⟨c1, hw, c6, c8, hk, hs, hvk⟩ := h
  refine ⟨?_, hw.set (by omega) _, ?_, by simp [go_sem, c8], hk, hs, hvk.set (by omega) (by omega) _⟩
  all_goals (rw [World.cell?_setCell_other _ _ _ _ (by simp)]; assumption)
theorem VB.facts {w : World} {g : Nat} {a : Option Addr} {cap : Nat} {l : List Nat} {m k : Nat} {s : List Bool} {d : Bool} (h : VB w g a cap l m k s d) : k ≤ l.length ∧ l.length ≤ 140737488353000 ∧ LM.Lo 256 l ∧ s.length ≤ 200 ∧ m ≤ 200 := ⟨h.2.2.2.2.1, h.2.2.2.2.2.2.2.2.2.2.2.1, h.2.2.2.2.2.2.2.2.2.2.2.2.1, h.2.2.2.2.2.1, h.2.2.2.2.2.2.2.2.2.2.2.2.2.2.2.2⟩
/-- the cells that the methods read -/
theorem VB.cells {w : World} {g : Nat} {a : Option Addr} {cap : Nat} {l : List Nat} {m k : Nat} {s : List Bool} {d : Bool} (h : VB w g a cap l m k s d) : w.cell? ⟨g, 0, none⟩ = some (.slice a l.length cap) ∧ w.cell? ⟨g, 1, none⟩ = some (.int .i64 (k : Int)) ∧ w.cell? ⟨g, 6, none⟩ = some (.int .i64 (s.length : Int)) ∧ w.cell? ⟨g, 7, none⟩ = some (.int .i64 (m : Int)) ∧ w.cell? ⟨g, 8, none⟩ = some (.bool d) ∧ (∀ j, w.frozen? ⟨g, j, none⟩ = false) := ⟨h.2.2.2.2.2.2.1, h.1, h.2.2.1, h.2.2.2.2.2.2.2.1, h.2.2.2.1, h.2.2.2.2.2.2.2.2.1⟩
theorem VB.rd {w : World} {g : Nat} {a : Option Addr} {cap : Nat} {l : List Nat} {m k : Nat} {s : List Bool} {d : Bool} (h : VB w g a cap l m k s d) : Rd w .u8 a l := h.2.2.2.2.2.2.2.2.2.1

set_option maxRecDepth 100000 in
set_option maxHeartbeats 1000000 in
theorem atEnd_any (g : Nat) (a : Option Addr) (cap : Nat) (l : List Nat) (m k : Nat) (s : List Bool) (d : Bool) (w : World) (h : VB w g a cap l m k s d) :
    Calls Tryd.prog 12 #[.pointer (some ⟨g, 0, none⟩)] w fun e w' => e = .returned (.bool (decide (k = l.length))) ∧ ∃ n, w' = w.drewN n := by
  obtain ⟨c0, c1, c6, c7, c8, hf⟩ := h.cells
  obtain ⟨hk, hl, _⟩ := h.facts
  clear h c6 c7 c8
  by_cases hlt : k = l.length
  · rw [decide_eq_true hlt]
    have h2 : (l.length : Int) ≤ (k : Int) := by omega
    clear hlt
    go_enter Tryd.func12, Tryd.ntmps12
    go_wp2
    go_quiet (fail)
    go_wp2
    go_ret
    exact ⟨rfl, _, rfl⟩
  · rw [decide_eq_false hlt]
    have h2 : ¬ (l.length : Int) ≤ (k : Int) := by omega
    have h3 : decide (l.length ≤ k) = false := decide_eq_false (by omega)
    have H3 := Lib.hid h3
    clear h3
    go_enter Tryd.func12, Tryd.ntmps12
    go_wp2
    go_quiet (fail)
    go_wp2
    go_ret
    exact ⟨congrArg (fun b => Ending.returned (.bool b)) H3.out, _, rfl⟩
set_option maxRecDepth 100000 in
set_option maxHeartbeats 1000000 in
theorem vpeek_any (g : Nat) (a : Option Addr) (cap : Nat) (l : List Nat) (m k : Nat) (s : List Bool) (d : Bool) (w : World) (h : VB w g a cap l m k s d) :
    Calls Tryd.prog 24 #[.pointer (some ⟨g, 0, none⟩)] w fun e w' => e = .returned (.int .i64 (pk l k)) ∧ ∃ n, w' = w.drewN n := by
  have HA := Lib.hid (atEnd_any g a cap l m k s d w h)
  have HR := Lib.hid h.rd
  obtain ⟨c0, c1, c6, c7, c8, hf⟩ := h.cells
  obtain ⟨hk, hl, hlo, _⟩ := h.facts
  have HLo := Lib.hid hlo
  clear h c6 c7 c8 hlo
  by_cases hlt : k = l.length
  · rw [pk_ge (by omega)]
    rw [decide_eq_true hlt] at HA
    clear hlt HR HLo
    go_enter Tryd.func24, Tryd.ntmps24
    go_wp2_with (refine HA.out.mono ?_; rintro e w1 ⟨rfl, n, rfl⟩)
    go_ret
    exact ⟨rfl, _, rfl⟩
  · rw [decide_eq_false hlt] at HA
    have hlt2 : k < l.length := by omega
    have hp : pk l k = ((l[k]?.getD 0 : Nat) : Int) := if_pos hlt2
    obtain ⟨b, off, x, ea, HX, hx, hc⟩ := HR.out.get HLo.out k hlt2
    rw [hp, ← HX.out]
    subst ea
    clear hp HR HLo hlt
    go_enter Tryd.func24, Tryd.ntmps24
    go_wp2_with (refine HA.out.mono ?_; rintro e w1 ⟨rfl, n, rfl⟩)
    go_quiet (fail)
    go_wp2
    go_ret
    exact ⟨rfl, _, World.drewN_drewN _ _ _⟩
def ResV2 (g : Nat) (a : Option Addr) (cap : Nat) (l : List Nat) (m k : Nat) (s : List Bool) (d : Bool) (b : Bool) (w : World) (e : Ending) (w' : World) : Prop :=
  e = .returned (.bool b) ∧ VB w' g a cap l m k s d ∧ w.grownBy w' (some g)
set_option maxRecDepth 100000 in
set_option maxHeartbeats 1000000 in
theorem vtake_yes (c : Int) (g : Nat) (a : Option Addr) (cap : Nat) (l : List Nat) (m k : Nat) (s : List Bool) (d : Bool) (w : World) (h : VB w g a cap l m k s d) (hc : pk l k = c) (hn : c ≠ -1) :
    Calls Tryd.prog 19 #[.pointer (some ⟨g, 0, none⟩), .int .i64 c] w (ResV2 g a cap l m (k + 1) s d true w) := by
  have HP := Lib.hid (vpeek_any g a cap l m k s d w h)
  have hlt : k < l.length := pk_pos (by rw [hc]; exact hn)
  have HB := Lib.hid h
  have hl := h.facts.2.1
  obtain ⟨c0, c1, c6, c7, c8, hf⟩ := h.cells
  rw [hc] at HP
  clear hc hn h c0 c6 c7 c8
  go_enter Tryd.func19, Tryd.ntmps19
  go_wp2_with (refine HP.out.mono ?_; rintro e w1 ⟨rfl, n, rfl⟩)
  go_ret
  exact ⟨rfl, (HB.out.dN _).put (k + 1) (by omega) (by omega), gb_set (gb_dN (gb_refl _ _) _) _ _⟩
set_option maxRecDepth 100000 in
set_option maxHeartbeats 1000000 in
theorem vtake_no (c : Int) (g : Nat) (a : Option Addr) (cap : Nat) (l : List Nat) (m k : Nat) (s : List Bool) (d : Bool) (w : World) (h : VB w g a cap l m k s d) (hc : pk l k ≠ c) :
    Calls Tryd.prog 19 #[.pointer (some ⟨g, 0, none⟩), .int .i64 c] w (ResV2 g a cap l m k s d false w) := by
  have HP := Lib.hid (vpeek_any g a cap l m k s d w h)
  have HB := Lib.hid h
  have ht : (pk l k != c) = true := by simp [hc]
  clear hc h
  generalize pk l k = p at *
  go_enter Tryd.func19, Tryd.ntmps19
  go_wp2_with (refine HP.out.mono ?_; rintro e w1 ⟨rfl, n, rfl⟩)
  go_ret
  exact ⟨rfl, HB.out.dN _, gb_dN (gb_refl _ _) _⟩
/-- take, whatever the byte -/
theorem vtake_any (c : Int) (hn : c ≠ -1) (g : Nat) (a : Option Addr) (cap : Nat) (l : List Nat) (m k : Nat) (s : List Bool) (d : Bool) (w : World) (h : VB w g a cap l m k s d) :
    Calls Tryd.prog 19 #[.pointer (some ⟨g, 0, none⟩), .int .i64 c] w (ResV2 g a cap l m (if pk l k = c then k + 1 else k) s d (decide (pk l k = c)) w) := by
  by_cases hc : pk l k = c
  · rw [if_pos hc, decide_eq_true hc]; exact vtake_yes c g a cap l m k s d w h hc hn
  · rw [if_neg hc, decide_eq_false hc]; exact vtake_no c g a cap l m k s d w h hc
set_option maxHeartbeats 1000000 in
theorem isBlank_any (c : Int) (w : World) : Calls Tryd.prog 15 #[.int .u8 c] w fun e w' => e = .returned (.bool (isB c)) ∧ w = w' := by
  unfold isB
  go_enter Tryd.func15, Tryd.ntmps15
  by_cases h1 : c = 32
  · subst h1; go_wp2; go_ret; exact ⟨rfl, rfl⟩
  have t1 : (c == 32) = false := by simp [h1]
  rw [t1]
  clear h1
  by_cases h2 : c = 9
  · subst h2; go_wp2; go_ret; exact ⟨rfl, rfl⟩
  have t2 : (c == 9) = false := by simp [h2]
  rw [t2]
  clear h2
  by_cases h3 : c = 10
  · subst h3; go_wp2; go_ret; exact ⟨rfl, rfl⟩
  have t3 : (c == 10) = false := by simp [h3]
  rw [t3]
  clear h3
  go_wp2
  go_ret
  exact ⟨by simp, rfl⟩
set_option maxHeartbeats 1000000 in
theorem visDigit_any (c : Int) (w : World) : Calls Tryd.prog 18 #[.int .u8 c] w fun e w' => e = .returned (.bool (isD c)) ∧ w = w' := by
  unfold isD
  go_enter Tryd.func18, Tryd.ntmps18
  by_cases h1 : 48 ≤ c
  · rw [decide_eq_true h1]
    by_cases h2 : c ≤ 57
    · rw [decide_eq_true h2]
      go_wp2; go_ret; exact ⟨rfl, rfl⟩
    · rw [decide_eq_false h2]
      go_wp2; go_ret; exact ⟨by simp [h2], rfl⟩
  · rw [decide_eq_false h1]
    go_wp2; go_ret; exact ⟨rfl, rfl⟩
set_option maxHeartbeats 1000000 in
theorem beginsNumber_any (c : Int) (w : World) : Calls Tryd.prog 16 #[.int .u8 c] w fun e w' => e = .returned (.bool (isN c)) ∧ w = w' := by
  have HD := Lib.hid (fun w => visDigit_any c w)
  unfold isN
  go_enter Tryd.func16, Tryd.ntmps16
  by_cases h1 : c = 45
  · subst h1; go_wp2; go_ret; exact ⟨rfl, rfl⟩
  have t1 : (c == 45) = false := by simp [h1]
  rw [t1]
  clear h1
  go_wp2_with (refine (HD.out _).mono ?_; rintro e w1 ⟨rfl, rfl⟩)
  go_ret
  exact ⟨by simp, rfl⟩
end Go.Proofs.YtefaieglhllioaaDoor

/- valid's reader: blanks, digits, a word walked. -/
namespace Go.Proofs.YtefaieglhllioaaDoor
open Go.RowKit UM QM VM

def ResV1 (g : Nat) (a : Option Addr) (cap : Nat) (l : List Nat) (m k : Nat) (s : List Bool) (d : Bool) (w : World) (e : Ending) (w' : World) : Prop :=
  e = .returned (.tuple #[]) ∧ VB w' g a cap l m k s d ∧ w.grownBy w' (some g)
set_option maxRecDepth 100000 in
set_option maxHeartbeats 2000000 in
theorem blanks_any (g : Nat) (a : Option Addr) (cap : Nat) (l : List Nat) (m k : Nat) (s : List Bool) (d : Bool) (w : World) (h : VB w g a cap l m k s d) :
    Calls Tryd.prog 11 #[.pointer (some ⟨g, 0, none⟩)] w (ResV1 g a cap l m (bk l k) s d w) := by
  have HB := Lib.hid h
  have HG : Hid (w.grownBy w (some g)) := Lib.hid (gb_refl _ _)
  obtain ⟨_, hl, _⟩ := h.facts
  clear h
  go_enter Tryd.func11, Tryd.ntmps11
  go_wp2_with fail
  go_loopw [] (fun wr => ∃ j : Nat, Hid (bk l j = bk l k) ∧ Hid (VB wr g a cap l m j s d) ∧ Hid (w.grownBy wr (some g))) (fun wr => l.length - (intOf ((wr.cell? ⟨g, 1, none⟩).getD undef)).toNat)
  case atStart => exact ⟨k, Lib.hid rfl, HB, HG⟩
  case round =>
    obtain ⟨j, HJ, HR, HW⟩ := hrel
    have HA := Lib.hid (fun n => atEnd_any g a cap l m j s d (wr.drewN n) (HR.out.dN n))
    obtain ⟨c0, c1, c6, c7, c8, hf⟩ := HR.out.cells
    obtain ⟨hj, _, hlo, _⟩ := HR.out.facts
    clear c6 c7 c8 HB HG
    by_cases he : j = l.length
    · rw [decide_eq_true he] at HA
      have HX : Hid (j = bk l k) := Lib.hid (by rw [← HJ.out, he]; exact (runP_end (Nat.le_refl _)).symm)
      clear he c0 c1 hf hlo
      go_wp2_with fail
      go_quiet (first | (go_at_call 12; exact Calls.quiet_of (HA.out _)))
      go_wp2
      refine bodyPost_end (v := .tuple #[]) (by simp [results, Tryd.results11, go_sem]) rfl ?_
      exact ⟨rfl, by rw [← HX.out]; exact HR.out.dN _, gb_dN HW.out _⟩
    · rw [decide_eq_false he] at HA
      have hlt : j < l.length := by omega
      obtain ⟨b, off, x, ea, HX, hx, hc⟩ := HR.out.rd.get hlo j hlt
      have hp : pk l j = (x : Int) := by rw [HX.out]; exact if_pos hlt
      have HI := Lib.hid (fun w => isBlank_any (x : Int) w)
      subst ea
      clear he hlo HX
      by_cases hb : isB (x : Int) = true
      · rw [hb] at HI
        have HN : Hid (bk l (j + 1) = bk l k) := Lib.hid (by rw [← HJ.out]; exact (runP_yes hlt (by rw [hp]; exact hb)).symm)
        have HM : Hid ((intOf ((wr.cell? ⟨g, 1, none⟩).getD undef)).toNat = j) := Lib.hid (by rw [c1]; simp [intOf])
        clear hp hb HJ
        go_wp2_with fail
        go_quiet (first | (go_at_call 12; exact Calls.quiet_of (HA.out _)) | (go_at_call 15; exact still (HI.out _)))
        go_wp2
        go_roundw
        case rel => exact ⟨j + 1, HN, Lib.hid ((HR.out.dN _).put (j + 1) (by omega) (by omega)), Lib.hid (gb_set (gb_dN HW.out _) _ _)⟩
        case measure => simp [HM.out, intOf, go_sem, c1]; omega
      · have hb' : isB (x : Int) = false := by simpa using hb
        rw [hb'] at HI
        have HX : Hid (j = bk l k) := Lib.hid (by rw [← HJ.out]; exact (runP_no (by rw [hp]; exact hb')).symm)
        clear hp hb hb' HJ
        go_wp2_with fail
        go_quiet (first | (go_at_call 12; exact Calls.quiet_of (HA.out _)) | (go_at_call 15; exact still (HI.out _)))
        go_wp2
        refine bodyPost_end (v := .tuple #[]) (by simp [results, Tryd.results11, go_sem]) rfl ?_
        exact ⟨rfl, by rw [← HX.out]; exact HR.out.dN _, gb_dN HW.out _⟩
end Go.Proofs.YtefaieglhllioaaDoor

/- valid's reader: digits, words, what is open, faults walked. -/
namespace Go.Proofs.YtefaieglhllioaaDoor
open Go.RowKit UM QM VM

def ResVB (g : Nat) (a : Option Addr) (cap : Nat) (l : List Nat) (m : Nat) (s : List Bool) (d : Bool) (r : Bool × Nat) (w : World) (e : Ending) (w' : World) : Prop :=
  e = .returned (.bool r.1) ∧ VB w' g a cap l m r.2 s d ∧ w.grownBy w' (some g)
set_option maxRecDepth 100000 in
set_option maxHeartbeats 2000000 in
theorem vdigits_any (g : Nat) (a : Option Addr) (cap : Nat) (l : List Nat) (m k : Nat) (s : List Bool) (d : Bool) (w : World) (h : VB w g a cap l m k s d) :
    Calls Tryd.prog 34 #[.pointer (some ⟨g, 0, none⟩)] w (ResVB g a cap l m s d (decide (k < dg l k), dg l k) w) := by
  have HB := Lib.hid h
  have HG : Hid (w.grownBy w (some g)) := Lib.hid (gb_refl _ _)
  obtain ⟨_, hl, _⟩ := h.facts
  obtain ⟨z0, z1, z6, z7, z8, zf⟩ := h.cells
  clear h z0 z6 z7 z8
  go_enter Tryd.func34, Tryd.ntmps34
  go_wp2_with fail
  clear z1 zf
  go_loopw [] (fun wr => ∃ j : Nat, Hid (dg l j = dg l k) ∧ Hid (VB wr g a cap l m j s d) ∧ Hid (w.grownBy wr (some g))) (fun wr => l.length - (intOf ((wr.cell? ⟨g, 1, none⟩).getD undef)).toNat)
  case atStart => exact ⟨k, Lib.hid rfl, HB, HG⟩
  case round =>
    obtain ⟨j, HJ, HR, HW⟩ := hrel
    have HA := Lib.hid (fun n => atEnd_any g a cap l m j s d (wr.drewN n) (HR.out.dN n))
    obtain ⟨c0, c1, c6, c7, c8, hf⟩ := HR.out.cells
    obtain ⟨hj, _, hlo, _⟩ := HR.out.facts
    clear c6 c7 c8 HB HG
    have fin : ∀ wx, Hid (j = dg l k) → Hid (VB wx g a cap l m j s d) → Hid (w.grownBy wx (some g)) → ResVB g a cap l m s d (decide (k < dg l k), dg l k) w (.returned (.bool (decide (k < j)))) wx := fun wx h1 h2 h3 => ⟨by rw [h1.out], by have := h2.out; rw [h1.out] at this; exact this, h3.out⟩
    have FIN := Lib.hid fin
    clear fin
    by_cases he : j = l.length
    · rw [decide_eq_true he] at HA
      have HX : Hid (j = dg l k) := Lib.hid (by rw [← HJ.out, he]; exact (runP_end (Nat.le_refl _)).symm)
      clear he c0 hlo
      go_wp2_with fail
      go_quiet (first | (go_at_call 12; exact Calls.quiet_of (HA.out _)))
      go_wp2
      go_ret
      exact FIN.out _ HX (Lib.hid (HR.out.dN _)) (Lib.hid (gb_dN HW.out _))
    · rw [decide_eq_false he] at HA
      have hlt : j < l.length := by omega
      obtain ⟨b, off, x, ea, HX, hx, hc⟩ := HR.out.rd.get hlo j hlt
      have hp : pk l j = (x : Int) := by rw [HX.out]; exact if_pos hlt
      have HI := Lib.hid (fun w => visDigit_any (x : Int) w)
      subst ea
      clear he hlo HX
      by_cases hb : isD (x : Int) = true
      · rw [hb] at HI
        have HN : Hid (dg l (j + 1) = dg l k) := Lib.hid (by rw [← HJ.out]; exact (runP_yes hlt (by rw [hp]; exact hb)).symm)
        have HM : Hid ((intOf ((wr.cell? ⟨g, 1, none⟩).getD undef)).toNat = j) := Lib.hid (by rw [c1]; simp [intOf])
        clear hp hb HJ
        go_wp2_with fail
        go_quiet (first | (go_at_call 12; exact Calls.quiet_of (HA.out _)) | (go_at_call 18; exact still (HI.out _)))
        go_wp2
        go_roundw
        case rel => exact ⟨j + 1, HN, Lib.hid ((HR.out.dN _).put (j + 1) (by omega) (by omega)), Lib.hid (gb_set (gb_dN HW.out _) _ _)⟩
        case measure => simp [HM.out, intOf, go_sem, c1]; omega
      · have hb' : isD (x : Int) = false := by simpa using hb
        rw [hb'] at HI
        have HX : Hid (j = dg l k) := Lib.hid (by rw [← HJ.out]; exact (runP_no (by rw [hp]; exact hb')).symm)
        clear hp hb hb' HJ
        go_wp2_with fail
        go_quiet (first | (go_at_call 12; exact Calls.quiet_of (HA.out _)) | (go_at_call 18; exact still (HI.out _)))
        go_wp2
        go_ret
        exact FIN.out _ HX (Lib.hid (HR.out.dN _)) (Lib.hid (gb_dN HW.out _))
/-- the signs of a word from i on -/
def wsF (t : ByteArray) (i : Nat) : List Int := ((t.data.toList.drop i).map (fun b => (b.toNat : Int)))
theorem wsF_step {t : ByteArray} {i : Nat} (h : i < t.size) : wsF t i = (t[i].toNat : Int) :: wsF t (i + 1) := by
  unfold wsF
  rw [List.drop_eq_getElem_cons (by simpa using h)]
  rfl
theorem wsF_end {t : ByteArray} {i : Nat} (h : t.size ≤ i) : wsF t i = [] := by
  unfold wsF
  rw [List.drop_of_length_le (by simpa using h)]; rfl
set_option maxRecDepth 100000 in
set_option maxHeartbeats 2000000 in
theorem word_any (t : ByteArray) (ht : t.size ≤ 100) (g : Nat) (a : Option Addr) (cap : Nat) (l : List Nat) (m k : Nat) (s : List Bool) (d : Bool) (w : World) (h : VB w g a cap l m k s d) :
    Calls Tryd.prog 29 #[.pointer (some ⟨g, 0, none⟩), .string t] w (ResVB g a cap l m s d (wordF l k (wsF t 0)) w) := by
  have HB := Lib.hid h
  have HG : Hid (w.grownBy w (some g)) := Lib.hid (gb_refl _ _)
  clear h
  go_enter Tryd.func29, Tryd.ntmps29
  go_wp2_with fail
  go_loopw [8] (fun s8 wr => ∃ i j : Nat, i ≤ t.size ∧ s8 = .int .i64 i ∧ Hid (wordF l j (wsF t i) = wordF l k (wsF t 0)) ∧ Hid (VB wr g a cap l m j s d) ∧ Hid (w.grownBy wr (some g))) (fun s8 _ => t.size - (intOf s8).toNat)
  case atStart => exact ⟨0, k, by omega, rfl, Lib.hid rfl, HB, HG⟩
  case round =>
    obtain ⟨i, j, hi, rfl, HJ, HR, HW⟩ := hrel
    clear HB HG
    by_cases hlt : i < t.size
    · have hst := HJ.out
      rw [wsF_step hlt] at hst
      simp only [wordF] at hst
      have e1 := hlt
      have hc2 : ((t[i].toNat : Nat) : Int) ≠ -1 := by omega
      by_cases hc : pk l j = (t[i].toNat : Int)
      · rw [if_pos hc] at hst
        have HS := Lib.hid hst
        have HT := Lib.hid (vtake_yes _ g a cap l m j s d wr HR.out hc hc2)
        have hb := t[i].toNat_lt
        clear hst hc hc2 HJ
        go_wp2_with (refine HT.out.mono ?_; rintro e w1 ⟨rfl, hb2, hg⟩; have HB1 := Lib.hid hb2; have HG1 := Lib.hid (gb_trans HW.out hg); clear hb2 hg)
        go_roundw
        case rel => exact ⟨i + 1, j + 1, by omega, by go_num, HS, HB1, HG1⟩
        case measure => simp [intOf]; omega
      · rw [if_neg hc] at hst
        have HS := Lib.hid hst
        have HT := Lib.hid (vtake_no _ g a cap l m j s d wr HR.out hc)
        have hb := t[i].toNat_lt
        clear hst hc hc2 HJ
        go_wp2_with fail
        refine HT.out.mono ?_
        rintro e w1 ⟨rfl, hb2, hg⟩
        have HB1 := Lib.hid hb2
        have HG1 := Lib.hid (gb_trans HW.out hg)
        clear hb2 hg
        go_wp2
        go_ret
        exact ⟨by rw [← HS.out]; rfl, by rw [← HS.out]; exact HB1.out, HG1.out⟩
    · have hst := HJ.out
      rw [wsF_end (by omega)] at hst
      have HS := Lib.hid hst
      clear hst HJ
      go_wp2
      go_ret
      exact ⟨by rw [← HS.out]; rfl, by rw [← HS.out]; exact HR.out, HW.out⟩
set_option maxRecDepth 100000 in
set_option maxHeartbeats 2000000 in
theorem follows_any (g : Nat) (a : Option Addr) (cap : Nat) (l : List Nat) (m k : Nat) (s : List Bool) (d : Bool) (w : World) (h : VB w g a cap l m k s d) :
    Calls Tryd.prog 26 #[.pointer (some ⟨g, 0, none⟩)] w fun e w' => e = .returned (.int .i64 (fol s : Nat)) ∧ w = w' := by
  obtain ⟨c0, c1, c6, c7, c8, hf⟩ := h.cells
  clear h c0 c1 c7 c8
  unfold fol
  by_cases h0 : s.length = 0
  · rw [if_pos h0]
    have h1 : ((s.length : Int) == 0) = true := by simp [h0]
    rw [h0] at c6
    clear h0 h1
    go_enter Tryd.func26, Tryd.ntmps26
    go_wp2
    go_ret
    exact ⟨rfl, rfl⟩
  · rw [if_neg h0]
    have h1 : ((s.length : Int) == 0) = false := by rw [beq_eq_false_iff_ne]; omega
    generalize s.length = n at *
    clear h0
    go_enter Tryd.func26, Tryd.ntmps26
    go_wp2
    go_ret
    exact ⟨rfl, rfl⟩
end Go.Proofs.YtefaieglhllioaaDoor

/- valid's reader: what is open walked. (By wip/tools/genvald.py.) -/
namespace Go.Proofs.YtefaieglhllioaaDoor
open Go.RowKit UM QM VM

theorem VB.of {w w' : World} {g : Nat} {a : Option Addr} {cap : Nat} {l : List Nat} {m k : Nat} {s s' : List Bool} {d : Bool} (h : VB w g a cap l m k s d) (hg : w.grownBy w' (some g)) (hf : ∀ j, w'.frozen? ⟨g, j, none⟩ = false)
    (c0 : w'.cell? ⟨g, 0, none⟩ = w.cell? ⟨g, 0, none⟩) (c1 : w'.cell? ⟨g, 1, none⟩ = w.cell? ⟨g, 1, none⟩) (c7 : w'.cell? ⟨g, 7, none⟩ = w.cell? ⟨g, 7, none⟩) (c8 : w'.cell? ⟨g, 8, none⟩ = w.cell? ⟨g, 8, none⟩)
    (hw : WB w' g s') (c6 : w'.cell? ⟨g, 6, none⟩ = some (.int .i64 (s'.length : Int))) (hs : s'.length ≤ 200) : VB w' g a cap l m k s' d := by
  obtain ⟨x1, _, _, x8, hk, _, x0, x7, _, hr, ha, hl, hlo, hcp, hsh, hsn, hm⟩ := h
  exact ⟨by rw [c1]; exact x1, hw, c6, by rw [c8]; exact x8, hk, hs, by rw [c0]; exact x0, by rw [c7]; exact x7, hf, Rd.gbc hr hg ha, ha, hl, hlo, hcp, hsh.gb hg hsn, hsn, hm⟩
theorem pw_at (r i : Nat) (hi : i < 64) (hr : r < 64) : (BM.pw r).getLsbD i = decide (i = r) := by
  unfold BM.pw
  rw [BitVec.getLsbD_shiftLeft]
  by_cases h : i = r
  · subst h; simp [hi]
  · by_cases h2 : i < r
    · simp [h, h2]
    · have : i - r ≠ 0 := by omega
      simp [h, h2, hi, BitVec.getLsbD_one, this]
theorem put_no (y : BitVec 64) (r i : Nat) (hi : i < 64) (hr : r < 64) : (BM.andNot y (BM.pw r)).getLsbD i = if i = r then false else y.getLsbD i := by
  unfold BM.andNot
  rw [BitVec.getLsbD_and, BitVec.getLsbD_not, pw_at r i hi hr]
  by_cases h : i = r <;> simp [h, hi, hr]
theorem put_yes (y : BitVec 64) (r i : Nat) (hi : i < 64) (hr : r < 64) : (BM.andNot y (BM.pw r) ||| BM.pw r).getLsbD i = if i = r then true else y.getLsbD i := by
  rw [BitVec.getLsbD_or, put_no y r i hi hr, pw_at r i hi hr]
  by_cases h : i = r <;> simp [h]
theorem newbits {f : Nat → BitVec 64} {s : List Bool} {b : Bool} {x : BitVec 64} (hx : ∀ i, i < 64 → x.getLsbD i = if i = s.length % 64 then b else (f (s.length / 64)).getLsbD i) (fb : ∀ j, j < s.length → (f (j / 64)).getLsbD (j % 64) = s[j]?.getD false) :
    ∀ j, j < (s ++ [b]).length → ((if j / 64 = s.length / 64 then x else f (j / 64))).getLsbD (j % 64) = (s ++ [b])[j]?.getD false := by
  intro j hj
  rw [List.length_append, List.length_singleton] at hj
  by_cases h : j = s.length
  · subst h
    rw [if_pos rfl, hx _ (by omega), if_pos rfl]
    simp
  · rw [List.getElem?_append_left (by omega), ← fb j (by omega)]
    by_cases h2 : j / 64 = s.length / 64
    · rw [if_pos h2, hx _ (by omega), if_neg (by omega), h2]
    · rw [if_neg h2]
theorem cellsP {w : World} {g i j : Nat} {v : Value} (hij : i ≠ j) : (w.setCell ⟨g, i, none⟩ v).cell? ⟨g, j, none⟩ = w.cell? ⟨g, j, none⟩ := World.cell?_setCell_other _ _ _ _ (by intro e; simp at e <;> omega)
def ResV0 (g : Nat) (a : Option Addr) (cap : Nat) (l : List Nat) (m k : Nat) (s : List Bool) (d : Bool) (w : World) (e : Ending) (w' : World) : Prop :=
  e = .returned (.tuple #[]) ∧ VB w' g a cap l m k s d ∧ w.grownBy w' (some g)
/-- one bracket more -/
theorem VB.pushed {w w' : World} {g : Nat} {a : Option Addr} {cap : Nat} {l : List Nat} {m k : Nat} {s : List Bool} {d b : Bool} (h : VB w g a cap l m k s d) {f : Nat → BitVec 64} {q : Nat} {x : BitVec 64} (h4 : ∀ i, i < 4 → w.cell? ⟨g, 2 + i, none⟩ = some (.int .u64 (BM.val (f i)))) (hq : q < 4) (hg : w.grownBy w' (some g)) (hf : ∀ j, w'.frozen? ⟨g, j, none⟩ = w.frozen? ⟨g, j, none⟩)
    (hc : ∀ j, j ≠ 2 + q → j ≠ 6 → w'.cell? ⟨g, j, none⟩ = w.cell? ⟨g, j, none⟩) (hx : w'.cell? ⟨g, 2 + q, none⟩ = some (.int .u64 (BM.val x))) (h6 : w'.cell? ⟨g, 6, none⟩ = some (.int .i64 ((s.length : Int) + 1))) (hs : s.length < 200)
    (hb : ∀ j, j < (s ++ [b]).length → ((if j / 64 = q then x else f (j / 64))).getLsbD (j % 64) = (s ++ [b])[j]?.getD false) : VB w' g a cap l m k (s ++ [b]) d := by
  have hw : ∀ i, i < 4 → w'.cell? ⟨g, 2 + i, none⟩ = some (.int .u64 (BM.val ((fun i => if i = q then x else f i) i))) := fun i hi => by
    by_cases e : i = q
    · subst e; simp only [if_true]; exact hx
    · simp only [e, if_false]; rw [hc (2 + i) (by omega) (by omega)]; exact h4 i hi
  refine h.of hg (fun j => (hf j).trans (h.cells.2.2.2.2.2 j)) (hc 0 (by omega) (by omega)) (hc 1 (by omega) (by omega)) (hc 7 (by omega) (by omega)) (hc 8 (by omega) (by omega)) ⟨fun i => if i = q then x else f i, hw 0 (by omega), hw 1 (by omega), hw 2 (by omega), hw 3 (by omega), hb⟩ ?_ ?_
  · rw [h6]; simp
  · simp; omega
set_option maxRecDepth 100000 in
set_option maxHeartbeats 4000000 in
theorem push_0 (b : Bool) (g : Nat) (a : Option Addr) (cap : Nat) (l : List Nat) (m k : Nat) (s : List Bool) (d : Bool) (w : World) (h : VB w g a cap l m k s d) (hs : s.length / 64 = 0) (hs2 : s.length < 200) :
    Calls Tryd.prog 32 #[.pointer (some ⟨g, 2, none⟩), .bool b] w (ResV0 g a cap l m k (s ++ [b]) d w) := by
  have HB := Lib.hid h
  obtain ⟨c0, c1, c6, c7, c8, hf⟩ := h.cells
  obtain ⟨f, f0, f1, f2, f3, fb⟩ := h.2.1
  have h4 : ∀ i, i < 4 → w.cell? ⟨g, 2 + i, none⟩ = some (.int .u64 (BM.val (f i))) := fun i hi => by
    match i, hi with
    | 0, _ => exact f0
    | 1, _ => exact f1
    | 2, _ => exact f2
    | 3, _ => exact f3
  have H4 := Lib.hid h4
  have hq : (s.length : Int) / 64 = 0 := by omega
  have HX0 := Lib.hid (newbits (f := f) (b := false) (x := BM.andNot (f (s.length / 64)) (BM.pw (s.length % 64))) (fun i hi => put_no _ _ _ hi (by omega)) fb)
  have HX1 := Lib.hid (newbits (f := f) (b := true) (x := BM.andNot (f (s.length / 64)) (BM.pw (s.length % 64)) ||| BM.pw (s.length % 64)) (fun i hi => put_yes _ _ _ hi (by omega)) fb)
  rw [hs] at HX0 HX1
  have HP0 := Lib.hid (fun w' x b => HB.out.pushed (w' := w') (q := 0) (x := x) (b := b) H4.out (by decide))
  have HF := Lib.hid hf
  generalize s.length = n at *
  clear h c0 c1 c7 c8 fb h4 f1 f2 f3 hs HB H4
  cases b
  all_goals
    go_enter Tryd.func32, Tryd.ntmps32
    go_wp2_with fail
    go_region
    go_wp2_with fail
    try go_region
    try go_wp2
    refine bodyPost_end (v := .tuple #[]) (by simp [results, Tryd.results32, go_sem]) rfl ?_
    rw [u_one, u_andNot]
  · have hg : w.grownBy (((w.setCell ⟨g, 2, none⟩ (.int .u64 (BM.val (BM.andNot (f 0) (BM.pw (n % 64)))))).setCell ⟨g, 6, none⟩ (.int .i64 ((n : Int) + 1))).drew) (some g) := gb_drew (gb_set (gb_set (gb_refl _ _) _ _) _ _)
    refine ⟨rfl, HP0.out _ _ _ hg (fun j => by simp [go_sem]) (fun j h1 h2 => ?_) ?_ ?_ hs2 HX0.out, hg⟩
    · show (World.setCell _ _ _).cell? _ = _
      rw [cellsP (by omega), cellsP (by omega)]
    · show (World.setCell _ _ _).cell? _ = _
      rw [cellsP (by decide)]
      exact World.cell?_setCell_same' _ _ _ (by rw [f0]; rfl)
    · show (World.setCell _ _ _).cell? _ = _
      exact World.cell?_setCell_same' _ _ _ (by rw [cellsP (by decide), c6]; rfl)
  · rw [u_or]
    have hg : w.grownBy ((((w.setCell ⟨g, 2, none⟩ (.int .u64 (BM.val (BM.andNot (f 0) (BM.pw (n % 64)))))).setCell ⟨g, 2, none⟩ (.int .u64 (BM.val (BM.andNot (f 0) (BM.pw (n % 64)) ||| BM.pw (n % 64))))).setCell ⟨g, 6, none⟩ (.int .i64 ((n : Int) + 1))).drew.drew) (some g) := gb_drew (gb_drew (gb_set (gb_set (gb_set (gb_refl _ _) _ _) _ _) _ _))
    refine ⟨rfl, HP0.out _ _ _ hg (fun j => by simp [go_sem]) (fun j h1 h2 => ?_) ?_ ?_ hs2 HX1.out, hg⟩
    · show (World.setCell _ _ _).cell? _ = _
      rw [cellsP (by omega), cellsP (by omega), cellsP (by omega)]
    · show (World.setCell _ _ _).cell? _ = _
      rw [cellsP (by decide)]
      refine World.cell?_setCell_same' _ _ _ ?_
      rw [World.cell?_setCell_same' _ _ _ (by rw [f0]; rfl)]; rfl
    · show (World.setCell _ _ _).cell? _ = _
      refine World.cell?_setCell_same' _ _ _ ?_
      rw [cellsP (by decide), cellsP (by decide), c6]; rfl

set_option maxRecDepth 100000 in
set_option maxHeartbeats 4000000 in
theorem push_1 (b : Bool) (g : Nat) (a : Option Addr) (cap : Nat) (l : List Nat) (m k : Nat) (s : List Bool) (d : Bool) (w : World) (h : VB w g a cap l m k s d) (hs : s.length / 64 = 1) (hs2 : s.length < 200) :
    Calls Tryd.prog 32 #[.pointer (some ⟨g, 2, none⟩), .bool b] w (ResV0 g a cap l m k (s ++ [b]) d w) := by
  have HB := Lib.hid h
  obtain ⟨c0, c1, c6, c7, c8, hf⟩ := h.cells
  obtain ⟨f, f0, f1, f2, f3, fb⟩ := h.2.1
  have h4 : ∀ i, i < 4 → w.cell? ⟨g, 2 + i, none⟩ = some (.int .u64 (BM.val (f i))) := fun i hi => by
    match i, hi with
    | 0, _ => exact f0
    | 1, _ => exact f1
    | 2, _ => exact f2
    | 3, _ => exact f3
  have H4 := Lib.hid h4
  have hq : (s.length : Int) / 64 = 1 := by omega
  have HX0 := Lib.hid (newbits (f := f) (b := false) (x := BM.andNot (f (s.length / 64)) (BM.pw (s.length % 64))) (fun i hi => put_no _ _ _ hi (by omega)) fb)
  have HX1 := Lib.hid (newbits (f := f) (b := true) (x := BM.andNot (f (s.length / 64)) (BM.pw (s.length % 64)) ||| BM.pw (s.length % 64)) (fun i hi => put_yes _ _ _ hi (by omega)) fb)
  rw [hs] at HX0 HX1
  have HP0 := Lib.hid (fun w' x b => HB.out.pushed (w' := w') (q := 1) (x := x) (b := b) H4.out (by decide))
  have HF := Lib.hid hf
  generalize s.length = n at *
  clear h c0 c1 c7 c8 fb h4 f0 f2 f3 hs HB H4
  cases b
  all_goals
    go_enter Tryd.func32, Tryd.ntmps32
    go_wp2_with fail
    go_region
    go_wp2_with fail
    try go_region
    try go_wp2
    refine bodyPost_end (v := .tuple #[]) (by simp [results, Tryd.results32, go_sem]) rfl ?_
    rw [u_one, u_andNot]
  · have hg : w.grownBy (((w.setCell ⟨g, 3, none⟩ (.int .u64 (BM.val (BM.andNot (f 1) (BM.pw (n % 64)))))).setCell ⟨g, 6, none⟩ (.int .i64 ((n : Int) + 1))).drew) (some g) := gb_drew (gb_set (gb_set (gb_refl _ _) _ _) _ _)
    refine ⟨rfl, HP0.out _ _ _ hg (fun j => by simp [go_sem]) (fun j h1 h2 => ?_) ?_ ?_ hs2 HX0.out, hg⟩
    · show (World.setCell _ _ _).cell? _ = _
      rw [cellsP (by omega), cellsP (by omega)]
    · show (World.setCell _ _ _).cell? _ = _
      rw [cellsP (by decide)]
      exact World.cell?_setCell_same' _ _ _ (by rw [f1]; rfl)
    · show (World.setCell _ _ _).cell? _ = _
      exact World.cell?_setCell_same' _ _ _ (by rw [cellsP (by decide), c6]; rfl)
  · rw [u_or]
    have hg : w.grownBy ((((w.setCell ⟨g, 3, none⟩ (.int .u64 (BM.val (BM.andNot (f 1) (BM.pw (n % 64)))))).setCell ⟨g, 3, none⟩ (.int .u64 (BM.val (BM.andNot (f 1) (BM.pw (n % 64)) ||| BM.pw (n % 64))))).setCell ⟨g, 6, none⟩ (.int .i64 ((n : Int) + 1))).drew.drew) (some g) := gb_drew (gb_drew (gb_set (gb_set (gb_set (gb_refl _ _) _ _) _ _) _ _))
    refine ⟨rfl, HP0.out _ _ _ hg (fun j => by simp [go_sem]) (fun j h1 h2 => ?_) ?_ ?_ hs2 HX1.out, hg⟩
    · show (World.setCell _ _ _).cell? _ = _
      rw [cellsP (by omega), cellsP (by omega), cellsP (by omega)]
    · show (World.setCell _ _ _).cell? _ = _
      rw [cellsP (by decide)]
      refine World.cell?_setCell_same' _ _ _ ?_
      rw [World.cell?_setCell_same' _ _ _ (by rw [f1]; rfl)]; rfl
    · show (World.setCell _ _ _).cell? _ = _
      refine World.cell?_setCell_same' _ _ _ ?_
      rw [cellsP (by decide), cellsP (by decide), c6]; rfl

set_option maxRecDepth 100000 in
set_option maxHeartbeats 4000000 in
theorem push_2 (b : Bool) (g : Nat) (a : Option Addr) (cap : Nat) (l : List Nat) (m k : Nat) (s : List Bool) (d : Bool) (w : World) (h : VB w g a cap l m k s d) (hs : s.length / 64 = 2) (hs2 : s.length < 200) :
    Calls Tryd.prog 32 #[.pointer (some ⟨g, 2, none⟩), .bool b] w (ResV0 g a cap l m k (s ++ [b]) d w) := by
  have HB := Lib.hid h
  obtain ⟨c0, c1, c6, c7, c8, hf⟩ := h.cells
  obtain ⟨f, f0, f1, f2, f3, fb⟩ := h.2.1
  have h4 : ∀ i, i < 4 → w.cell? ⟨g, 2 + i, none⟩ = some (.int .u64 (BM.val (f i))) := fun i hi => by
    match i, hi with
    | 0, _ => exact f0
    | 1, _ => exact f1
    | 2, _ => exact f2
    | 3, _ => exact f3
  have H4 := Lib.hid h4
  have hq : (s.length : Int) / 64 = 2 := by omega
  have HX0 := Lib.hid (newbits (f := f) (b := false) (x := BM.andNot (f (s.length / 64)) (BM.pw (s.length % 64))) (fun i hi => put_no _ _ _ hi (by omega)) fb)
  have HX1 := Lib.hid (newbits (f := f) (b := true) (x := BM.andNot (f (s.length / 64)) (BM.pw (s.length % 64)) ||| BM.pw (s.length % 64)) (fun i hi => put_yes _ _ _ hi (by omega)) fb)
  rw [hs] at HX0 HX1
  have HP0 := Lib.hid (fun w' x b => HB.out.pushed (w' := w') (q := 2) (x := x) (b := b) H4.out (by decide))
  have HF := Lib.hid hf
  generalize s.length = n at *
  clear h c0 c1 c7 c8 fb h4 f0 f1 f3 hs HB H4
  cases b
  all_goals
    go_enter Tryd.func32, Tryd.ntmps32
    go_wp2_with fail
    go_region
    go_wp2_with fail
    try go_region
    try go_wp2
    refine bodyPost_end (v := .tuple #[]) (by simp [results, Tryd.results32, go_sem]) rfl ?_
    rw [u_one, u_andNot]
  · have hg : w.grownBy (((w.setCell ⟨g, 4, none⟩ (.int .u64 (BM.val (BM.andNot (f 2) (BM.pw (n % 64)))))).setCell ⟨g, 6, none⟩ (.int .i64 ((n : Int) + 1))).drew) (some g) := gb_drew (gb_set (gb_set (gb_refl _ _) _ _) _ _)
    refine ⟨rfl, HP0.out _ _ _ hg (fun j => by simp [go_sem]) (fun j h1 h2 => ?_) ?_ ?_ hs2 HX0.out, hg⟩
    · show (World.setCell _ _ _).cell? _ = _
      rw [cellsP (by omega), cellsP (by omega)]
    · show (World.setCell _ _ _).cell? _ = _
      rw [cellsP (by decide)]
      exact World.cell?_setCell_same' _ _ _ (by rw [f2]; rfl)
    · show (World.setCell _ _ _).cell? _ = _
      exact World.cell?_setCell_same' _ _ _ (by rw [cellsP (by decide), c6]; rfl)
  · rw [u_or]
    have hg : w.grownBy ((((w.setCell ⟨g, 4, none⟩ (.int .u64 (BM.val (BM.andNot (f 2) (BM.pw (n % 64)))))).setCell ⟨g, 4, none⟩ (.int .u64 (BM.val (BM.andNot (f 2) (BM.pw (n % 64)) ||| BM.pw (n % 64))))).setCell ⟨g, 6, none⟩ (.int .i64 ((n : Int) + 1))).drew.drew) (some g) := gb_drew (gb_drew (gb_set (gb_set (gb_set (gb_refl _ _) _ _) _ _) _ _))
    refine ⟨rfl, HP0.out _ _ _ hg (fun j => by simp [go_sem]) (fun j h1 h2 => ?_) ?_ ?_ hs2 HX1.out, hg⟩
    · show (World.setCell _ _ _).cell? _ = _
      rw [cellsP (by omega), cellsP (by omega), cellsP (by omega)]
    · show (World.setCell _ _ _).cell? _ = _
      rw [cellsP (by decide)]
      refine World.cell?_setCell_same' _ _ _ ?_
      rw [World.cell?_setCell_same' _ _ _ (by rw [f2]; rfl)]; rfl
    · show (World.setCell _ _ _).cell? _ = _
      refine World.cell?_setCell_same' _ _ _ ?_
      rw [cellsP (by decide), cellsP (by decide), c6]; rfl

set_option maxRecDepth 100000 in
set_option maxHeartbeats 4000000 in
theorem push_3 (b : Bool) (g : Nat) (a : Option Addr) (cap : Nat) (l : List Nat) (m k : Nat) (s : List Bool) (d : Bool) (w : World) (h : VB w g a cap l m k s d) (hs : s.length / 64 = 3) (hs2 : s.length < 200) :
    Calls Tryd.prog 32 #[.pointer (some ⟨g, 2, none⟩), .bool b] w (ResV0 g a cap l m k (s ++ [b]) d w) := by
  have HB := Lib.hid h
  obtain ⟨c0, c1, c6, c7, c8, hf⟩ := h.cells
  obtain ⟨f, f0, f1, f2, f3, fb⟩ := h.2.1
  have h4 : ∀ i, i < 4 → w.cell? ⟨g, 2 + i, none⟩ = some (.int .u64 (BM.val (f i))) := fun i hi => by
    match i, hi with
    | 0, _ => exact f0
    | 1, _ => exact f1
    | 2, _ => exact f2
    | 3, _ => exact f3
  have H4 := Lib.hid h4
  have hq : (s.length : Int) / 64 = 3 := by omega
  have HX0 := Lib.hid (newbits (f := f) (b := false) (x := BM.andNot (f (s.length / 64)) (BM.pw (s.length % 64))) (fun i hi => put_no _ _ _ hi (by omega)) fb)
  have HX1 := Lib.hid (newbits (f := f) (b := true) (x := BM.andNot (f (s.length / 64)) (BM.pw (s.length % 64)) ||| BM.pw (s.length % 64)) (fun i hi => put_yes _ _ _ hi (by omega)) fb)
  rw [hs] at HX0 HX1
  have HP0 := Lib.hid (fun w' x b => HB.out.pushed (w' := w') (q := 3) (x := x) (b := b) H4.out (by decide))
  have HF := Lib.hid hf
  generalize s.length = n at *
  clear h c0 c1 c7 c8 fb h4 f0 f1 f2 hs HB H4
  cases b
  all_goals
    go_enter Tryd.func32, Tryd.ntmps32
    go_wp2_with fail
    go_region
    go_wp2_with fail
    try go_region
    try go_wp2
    refine bodyPost_end (v := .tuple #[]) (by simp [results, Tryd.results32, go_sem]) rfl ?_
    rw [u_one, u_andNot]
  · have hg : w.grownBy (((w.setCell ⟨g, 5, none⟩ (.int .u64 (BM.val (BM.andNot (f 3) (BM.pw (n % 64)))))).setCell ⟨g, 6, none⟩ (.int .i64 ((n : Int) + 1))).drew) (some g) := gb_drew (gb_set (gb_set (gb_refl _ _) _ _) _ _)
    refine ⟨rfl, HP0.out _ _ _ hg (fun j => by simp [go_sem]) (fun j h1 h2 => ?_) ?_ ?_ hs2 HX0.out, hg⟩
    · show (World.setCell _ _ _).cell? _ = _
      rw [cellsP (by omega), cellsP (by omega)]
    · show (World.setCell _ _ _).cell? _ = _
      rw [cellsP (by decide)]
      exact World.cell?_setCell_same' _ _ _ (by rw [f3]; rfl)
    · show (World.setCell _ _ _).cell? _ = _
      exact World.cell?_setCell_same' _ _ _ (by rw [cellsP (by decide), c6]; rfl)
  · rw [u_or]
    have hg : w.grownBy ((((w.setCell ⟨g, 5, none⟩ (.int .u64 (BM.val (BM.andNot (f 3) (BM.pw (n % 64)))))).setCell ⟨g, 5, none⟩ (.int .u64 (BM.val (BM.andNot (f 3) (BM.pw (n % 64)) ||| BM.pw (n % 64))))).setCell ⟨g, 6, none⟩ (.int .i64 ((n : Int) + 1))).drew.drew) (some g) := gb_drew (gb_drew (gb_set (gb_set (gb_set (gb_refl _ _) _ _) _ _) _ _))
    refine ⟨rfl, HP0.out _ _ _ hg (fun j => by simp [go_sem]) (fun j h1 h2 => ?_) ?_ ?_ hs2 HX1.out, hg⟩
    · show (World.setCell _ _ _).cell? _ = _
      rw [cellsP (by omega), cellsP (by omega), cellsP (by omega)]
    · show (World.setCell _ _ _).cell? _ = _
      rw [cellsP (by decide)]
      refine World.cell?_setCell_same' _ _ _ ?_
      rw [World.cell?_setCell_same' _ _ _ (by rw [f3]; rfl)]; rfl
    · show (World.setCell _ _ _).cell? _ = _
      refine World.cell?_setCell_same' _ _ _ ?_
      rw [cellsP (by decide), cellsP (by decide), c6]; rfl

theorem push_any (b : Bool) (g : Nat) (a : Option Addr) (cap : Nat) (l : List Nat) (m k : Nat) (s : List Bool) (d : Bool) (w : World) (h : VB w g a cap l m k s d) (hs2 : s.length < 200) :
    Calls Tryd.prog 32 #[.pointer (some ⟨g, 2, none⟩), .bool b] w (ResV0 g a cap l m k (s ++ [b]) d w) := by
  have hq : s.length / 64 = 0 ∨ s.length / 64 = 1 ∨ s.length / 64 = 2 ∨ s.length / 64 = 3 := by omega
  rcases hq with hq | hq | hq | hq
  · exact push_0 b g a cap l m k s d w h hq hs2
  · exact push_1 b g a cap l m k s d w h hq hs2
  · exact push_2 b g a cap l m k s d w h hq hs2
  · exact push_3 b g a cap l m k s d w h hq hs2
set_option maxRecDepth 100000 in
set_option maxHeartbeats 2000000 in
theorem bpop_any (g : Nat) (a : Option Addr) (cap : Nat) (l : List Nat) (m k : Nat) (s : List Bool) (d : Bool) (w : World) (h : VB w g a cap l m k s d) (hs : s ≠ []) :
    Calls Tryd.prog 25 #[.pointer (some ⟨g, 2, none⟩)] w (ResV0 g a cap l m k s.dropLast d w) := by
  have HB := Lib.hid h
  have hl := List.length_pos_iff.2 hs
  have HL : Hid ((s.dropLast.length : Int) = (s.length : Int) - 1) := Lib.hid (by rw [List.length_dropLast]; omega)
  have hs2 := h.facts.2.2.2.1
  obtain ⟨c0, c1, c6, c7, c8, hf⟩ := h.cells
  have C6 := Lib.hid c6
  have HF := Lib.hid hf
  have b1 : (1 : Int) ≤ (s.length : Int) := by omega
  have b2 : (s.length : Int) ≤ 200 := by omega
  generalize hn : (s.length : Int) = n at *
  have HN := Lib.hid hn
  clear h c0 c1 c7 c8 hs hn
  go_enter Tryd.func25, Tryd.ntmps25
  go_wp2
  refine bodyPost_end (v := .tuple #[]) (by simp [results, Tryd.results25, go_sem]) rfl ?_
  have hg := gb_set (gb_refl w (some g)) 6 (.int .i64 (n - 1))
  obtain ⟨f, f0, f1, f2, f3, fb⟩ := HB.out.2.1
  refine ⟨rfl, HB.out.of hg (fun j => by simpa [go_sem] using HF.out j) (cellsP (by decide)) (cellsP (by decide)) (cellsP (by decide)) (cellsP (by decide)) ⟨f, ?_, ?_, ?_, ?_, ?_⟩ ?_ ?_, hg⟩
  · rw [cellsP (by decide)]; exact f0
  · rw [cellsP (by decide)]; exact f1
  · rw [cellsP (by decide)]; exact f2
  · rw [cellsP (by decide)]; exact f3
  · intro j hj
    rw [List.length_dropLast] at hj
    rw [fb j (by omega), List.getElem?_dropLast, if_pos (by omega)]
  · rw [HL.out]
    exact World.cell?_setCell_same' _ _ _ (by rw [C6.out]; rfl)
  · rw [List.length_dropLast]; omega
theorem top_at {s : List Bool} {n : Nat} (h : s.length = n + 1) : top s = s[n]?.getD false := by
  unfold top
  rw [List.getLast?_eq_getElem?, h]; rfl
set_option maxRecDepth 100000 in
set_option maxHeartbeats 2000000 in
theorem object_0 (g : Nat) (a : Option Addr) (cap : Nat) (l : List Nat) (m k : Nat) (s : List Bool) (d : Bool) (w : World) (h : VB w g a cap l m k s d) (p : Nat) (hs : s.length = p + 1) (hp : p / 64 = 0) :
    Calls Tryd.prog 31 #[.pointer (some ⟨g, 2, none⟩)] w fun e w' => e = .returned (.bool (top s)) ∧ w = w' := by
  obtain ⟨c0, c1, c6, c7, c8, hf⟩ := h.cells
  obtain ⟨f, f0, f1, f2, f3, fb⟩ := h.2.1
  have hb := fb p (by omega)
  rw [hp, ← top_at hs] at hb
  have HB := Lib.hid hb
  have hq : (p : Int) / 64 = 0 := by omega
  have h1 : (s.length : Int) - 1 = (p : Int) := by omega
  have hs2 := h.facts.2.2.2.1
  have hp2 : p < 200 := by omega
  clear hs hp hb fb h c0 c1 c7 c8 f1 f2 f3
  generalize s.length = n at *
  go_enter Tryd.func31, Tryd.ntmps31
  go_wp2
  go_ret
  exact ⟨ret_bool (by first | exact (bit_is _ _).trans HB.out | (rw [bit_is]; exact HB.out)), rfl⟩

set_option maxRecDepth 100000 in
set_option maxHeartbeats 2000000 in
theorem object_1 (g : Nat) (a : Option Addr) (cap : Nat) (l : List Nat) (m k : Nat) (s : List Bool) (d : Bool) (w : World) (h : VB w g a cap l m k s d) (p : Nat) (hs : s.length = p + 1) (hp : p / 64 = 1) :
    Calls Tryd.prog 31 #[.pointer (some ⟨g, 2, none⟩)] w fun e w' => e = .returned (.bool (top s)) ∧ w = w' := by
  obtain ⟨c0, c1, c6, c7, c8, hf⟩ := h.cells
  obtain ⟨f, f0, f1, f2, f3, fb⟩ := h.2.1
  have hb := fb p (by omega)
  rw [hp, ← top_at hs] at hb
  have HB := Lib.hid hb
  have hq : (p : Int) / 64 = 1 := by omega
  have h1 : (s.length : Int) - 1 = (p : Int) := by omega
  have hs2 := h.facts.2.2.2.1
  have hp2 : p < 200 := by omega
  clear hs hp hb fb h c0 c1 c7 c8 f0 f2 f3
  generalize s.length = n at *
  go_enter Tryd.func31, Tryd.ntmps31
  go_wp2
  go_ret
  exact ⟨ret_bool (by first | exact (bit_is _ _).trans HB.out | (rw [bit_is]; exact HB.out)), rfl⟩

set_option maxRecDepth 100000 in
set_option maxHeartbeats 2000000 in
theorem object_2 (g : Nat) (a : Option Addr) (cap : Nat) (l : List Nat) (m k : Nat) (s : List Bool) (d : Bool) (w : World) (h : VB w g a cap l m k s d) (p : Nat) (hs : s.length = p + 1) (hp : p / 64 = 2) :
    Calls Tryd.prog 31 #[.pointer (some ⟨g, 2, none⟩)] w fun e w' => e = .returned (.bool (top s)) ∧ w = w' := by
  obtain ⟨c0, c1, c6, c7, c8, hf⟩ := h.cells
  obtain ⟨f, f0, f1, f2, f3, fb⟩ := h.2.1
  have hb := fb p (by omega)
  rw [hp, ← top_at hs] at hb
  have HB := Lib.hid hb
  have hq : (p : Int) / 64 = 2 := by omega
  have h1 : (s.length : Int) - 1 = (p : Int) := by omega
  have hs2 := h.facts.2.2.2.1
  have hp2 : p < 200 := by omega
  clear hs hp hb fb h c0 c1 c7 c8 f0 f1 f3
  generalize s.length = n at *
  go_enter Tryd.func31, Tryd.ntmps31
  go_wp2
  go_ret
  exact ⟨ret_bool (by first | exact (bit_is _ _).trans HB.out | (rw [bit_is]; exact HB.out)), rfl⟩

set_option maxRecDepth 100000 in
set_option maxHeartbeats 2000000 in
theorem object_3 (g : Nat) (a : Option Addr) (cap : Nat) (l : List Nat) (m k : Nat) (s : List Bool) (d : Bool) (w : World) (h : VB w g a cap l m k s d) (p : Nat) (hs : s.length = p + 1) (hp : p / 64 = 3) :
    Calls Tryd.prog 31 #[.pointer (some ⟨g, 2, none⟩)] w fun e w' => e = .returned (.bool (top s)) ∧ w = w' := by
  obtain ⟨c0, c1, c6, c7, c8, hf⟩ := h.cells
  obtain ⟨f, f0, f1, f2, f3, fb⟩ := h.2.1
  have hb := fb p (by omega)
  rw [hp, ← top_at hs] at hb
  have HB := Lib.hid hb
  have hq : (p : Int) / 64 = 3 := by omega
  have h1 : (s.length : Int) - 1 = (p : Int) := by omega
  have hs2 := h.facts.2.2.2.1
  have hp2 : p < 200 := by omega
  clear hs hp hb fb h c0 c1 c7 c8 f0 f1 f2
  generalize s.length = n at *
  go_enter Tryd.func31, Tryd.ntmps31
  go_wp2
  go_ret
  exact ⟨ret_bool (by first | exact (bit_is _ _).trans HB.out | (rw [bit_is]; exact HB.out)), rfl⟩

theorem object_any (g : Nat) (a : Option Addr) (cap : Nat) (l : List Nat) (m k : Nat) (s : List Bool) (d : Bool) (w : World) (h : VB w g a cap l m k s d) (hs : s ≠ []) :
    Calls Tryd.prog 31 #[.pointer (some ⟨g, 2, none⟩)] w fun e w' => e = .returned (.bool (top s)) ∧ w = w' := by
  have hl := List.length_pos_iff.2 hs
  have hs2 := h.facts.2.2.2.1
  obtain ⟨p, hp⟩ : ∃ p, s.length = p + 1 := ⟨s.length - 1, by omega⟩
  have hq : p / 64 = 0 ∨ p / 64 = 1 ∨ p / 64 = 2 ∨ p / 64 = 3 := by omega
  rcases hq with hq | hq | hq | hq
  · exact object_0 g a cap l m k s d w h p hp hq
  · exact object_1 g a cap l m k s d w h p hp hq
  · exact object_2 g a cap l m k s d w h p hp hq
  · exact object_3 g a cap l m k s d w h p hp hq
end Go.Proofs.YtefaieglhllioaaDoor
