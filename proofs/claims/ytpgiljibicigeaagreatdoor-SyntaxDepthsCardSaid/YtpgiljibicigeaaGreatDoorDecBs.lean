/- Walks of dec: isInRange, tell. -/
import Derived.Test.YtpgiljibicigeaaGreatDoorLimbMathFs
import Derived.Defers
import Derived.Deep.RegionHeld3
import Derived.Test.YtpgiljibicigeaaGreatDoorShelf
import Derived.Lib.ItoaLen
import Derived.Lib.Repeat
import Derived.BigQuiet
import Derived.Deep.DeepMust
set_option linter.unusedVariables false
set_option linter.unusedSimpArgs false
namespace Go.Proofs.YtpgiljibicigeaaGreatDoor
open Go.RowKit LM

set_option maxHeartbeats 2000000 in
theorem isInRange_any (s : Bool) (a : Option Addr) (c : Nat) (l : List Nat) (e : Int) (w : World) (hl : l.length ≤ 1000000) (he : -1000000 ≤ e) (he2 : e ≤ 1000000) (hlo : Lo 4294967296 l) (hrd : Rd w .u32 a l) (htab : Tab w) :
    Calls Tryz.prog 135 #[.agg #[.bool s, .slice a l.length c, .int .i64 e]] w fun r w' => r = .returned (.bool (inR ⟨s, vl 1000000000 l, e⟩)) ∧ Below w.heap.size w w' := by
  have hd := fun W hb => Digits_any a c l W (by omega) hlo (hrd.below' (w' := W) hb (Nat.le_refl _)) (htab.below hb)
  have hdl : dl (vl 1000000000 l) ≤ 9000009 := by
    have := dg10_le hlo l.length
    rw [List.take_length] at this
    unfold dl; omega
  have hR : ∀ d : Nat, d = dl (vl 1000000000 l) → inR ⟨s, vl 1000000000 l, e⟩ = decide (d ≤ 400 ∧ -10000 ≤ e + d - 1 ∧ e + d - 1 ≤ 10000) := fun d hd => by unfold inR; rw [hd]
  have HD := Lib.hid hd; have HR := Lib.hid hR
  clear hd hR hlo hrd
  go_enter Tryz.func135, Tryz.ntmps135
  go_wp2_with fail
  refine (HD.out _ ((Below.refl _ _).alloc (Nat.le_refl _) _)).mono ?_
  rintro r w1 ⟨rfl, hb1⟩
  have bb := ((Below.refl w.heap.size w).alloc (Nat.le_refl _) (.cells #[.bool s, .slice a l.length c, .int .i64 e] 127)).trans (hb1.mono (by simp))
  have hcell : w1.cell? ⟨w.heap.size, 2, none⟩ = some (.int .i64 e) := by rw [hb1.cell (by simp)]; simp
  obtain ⟨d, hd⟩ : ∃ d, d = (dg 10 (vl 1000000000 l)).length := ⟨_, rfl⟩
  have hdm : d ≤ 9000009 := by rw [hd]; exact hdl
  have hin := HR.out d hd
  rw [← hd]
  have HIN := Lib.hid hin
  clear hin hd hb1
  by_cases h1 : d ≤ 400
  · by_cases h2 : -10000 ≤ e + d - 1
    · have hr : inR ⟨s, vl 1000000000 l, e⟩ = decide (e + d - 1 ≤ 10000) := by rw [HIN.out]; simp [h1, h2]
      have HRR := Lib.hid hr
      clear hr
      go_wp2
      go_ret
      exact ⟨ret_bool HRR.out.symm, bb⟩
    · have hr : inR ⟨s, vl 1000000000 l, e⟩ = false := by rw [HIN.out]; simp [h2]
      have HRR := Lib.hid hr
      clear hr
      go_wp2
      go_ret
      exact ⟨ret_bool HRR.out.symm, bb⟩
  · have hr : inR ⟨s, vl 1000000000 l, e⟩ = false := by rw [HIN.out]; simp [h1]
    have HRR := Lib.hid hr
    clear hr
    go_wp2
    go_ret
    exact ⟨ret_bool HRR.out.symm, bb⟩

set_option maxHeartbeats 2000000 in
/-- the deferred closure, where the number fits -/
theorem tell1_in (g1 g2 : Nat) (s : Bool) (a : Option Addr) (c : Nat) (l : List Nat) (e : Int) (u : FrameMode) (w : World) (hl : l.length ≤ 1000000) (he : -1000000 ≤ e) (he2 : e ≤ 1000000) (hlo : Lo 4294967296 l) (hrd : Rd w .u32 a l) (htab : Tab w)
    (h0 : w.cell? ⟨g1, 0, none⟩ = some (.bool s)) (h1 : w.cell? ⟨g1, 1, none⟩ = some (.slice a l.length c)) (h2 : w.cell? ⟨g1, 2, none⟩ = some (.int .i64 e)) (hin : inR ⟨s, vl 1000000000 l, e⟩ = true) :
    CallsD Tryz.prog 134 #[.pointer (some ⟨g1, 0, none⟩), .pointer (some ⟨g2, 0, none⟩)] u w fun r u' w' => u' = u ∧ r = .returned (.tuple #[]) ∧ Below w.heap.size w w' := by
  have hI := isInRange_any s a c l e w hl he he2 hlo hrd htab
  rw [hin] at hI
  have HI := Lib.hid hI
  clear hI hin hlo hrd
  go_enter_d Tryz.func134, Tryz.ntmps134
  go_wp2_with fail
  refine HI.out.mono ?_
  rintro r w1 ⟨rfl, hb⟩
  go_wp2
  go_end0
  exact ⟨rfl, hb⟩
set_option maxHeartbeats 2000000 in
/-- the deferred closure, where the number doesn't -/
theorem tell1_out (g1 g2 : Nat) (s : Bool) (a : Option Addr) (c : Nat) (l : List Nat) (e : Int) (u : FrameMode) (w : World) (hl : l.length ≤ 1000000) (he : -1000000 ≤ e) (he2 : e ≤ 1000000) (hlo : Lo 4294967296 l) (hrd : Rd w .u32 a l) (htab : Tab w)
    (h0 : w.cell? ⟨g1, 0, none⟩ = some (.bool s)) (h1 : w.cell? ⟨g1, 1, none⟩ = some (.slice a l.length c)) (h2 : w.cell? ⟨g1, 2, none⟩ = some (.int .i64 e)) {x : Value} (h3 : w.cell? ⟨g2, 0, none⟩ = some x) (hne : g1 ≠ g2) (f1 : ∀ j, w.frozen? ⟨g1, j, none⟩ = false) (f2 : w.frozen? ⟨g2, 0, none⟩ = false) (hin : inR ⟨s, vl 1000000000 l, e⟩ = false) :
    CallsD Tryz.prog 134 #[.pointer (some ⟨g1, 0, none⟩), .pointer (some ⟨g2, 0, none⟩)] u w fun r u' w' => u' = u ∧ r = .returned (.tuple #[]) ∧ w'.cell? ⟨g1, 0, none⟩ = some (.bool false) ∧ w'.cell? ⟨g1, 1, none⟩ = some (.slice none 0 0) ∧ w'.cell? ⟨g1, 2, none⟩ = some (.int .i64 0) ∧ w'.cell? ⟨g2, 0, none⟩ = some (.int .i64 3) ∧ (∀ B, B ≤ g1 → B ≤ g2 → Below B w w') := by
  have hI := isInRange_any s a c l e w hl he he2 hlo hrd htab
  rw [hin] at hI
  have HI := Lib.hid hI
  have hg1 := lt_of_cell h0
  have hg2 := lt_of_cell h3
  clear hI hin hlo hrd
  go_enter_d Tryz.func134, Tryz.ntmps134
  go_wp2_with fail
  refine HI.out.mono ?_
  rintro r w1 ⟨rfl, hb⟩
  have k0 : w1.cell? ⟨g1, 0, none⟩ = some (.bool s) := by rw [hb.cell (p := ⟨g1, 0, none⟩) hg1]; exact h0
  have k1 : w1.cell? ⟨g1, 1, none⟩ = some (.slice a l.length c) := by rw [hb.cell (p := ⟨g1, 1, none⟩) hg1]; exact h1
  have k2 : w1.cell? ⟨g1, 2, none⟩ = some (.int .i64 e) := by rw [hb.cell (p := ⟨g1, 2, none⟩) hg1]; exact h2
  have k3 : w1.cell? ⟨g2, 0, none⟩ = some x := by rw [hb.cell (p := ⟨g2, 0, none⟩) hg2]; exact h3
  have j1 : ∀ j, w1.frozen? ⟨g1, j, none⟩ = false := fun j => by rw [hb.frozen (p := ⟨g1, j, none⟩) hg1]; exact f1 j
  have j2 : w1.frozen? ⟨g2, 0, none⟩ = false := by rw [hb.frozen (p := ⟨g2, 0, none⟩) hg2]; exact f2
  clear h0 h1 h2 h3 f1 f2 HI
  go_wp2
  go_end0
  refine ⟨rfl, ?_, ?_, ?_, ?_, fun B hB1 hB2 => ?_⟩
  · rw [World.cell?_setCell_other, World.cell?_setCell_other, World.cell?_setCell_other, World.cell?_setCell_same (u := .bool s)]
    · exact k0
    all_goals (intro h; simp at h; try omega)
  · rw [World.cell?_setCell_other, World.cell?_setCell_other, World.cell?_setCell_same (u := .slice a l.length c)]
    · rw [World.cell?_setCell_other]
      · exact k1
      · intro h; simp at h
    all_goals (intro h; simp at h; try omega)
  · rw [World.cell?_setCell_other, World.cell?_setCell_same (u := .int .i64 e)]
    · rw [World.cell?_setCell_other, World.cell?_setCell_other]
      · exact k2
      all_goals (intro h; simp at h)
    all_goals (intro h; simp at h; try omega)
  · rw [World.cell?_setCell_same (u := x)]
    rw [World.cell?_setCell_other, World.cell?_setCell_other, World.cell?_setCell_other]
    · exact k3
    all_goals (intro h; simp at h; try omega)
  · exact (((((hb.mono (by omega)).setCell hB1 _).setCell hB1 _).setCell hB1 _).setCell hB2 _)
theorem Own.setFar {w : World} {B cap : Nat} {e : TypeId} {k : IntKind} {a : Option Addr} {l : List Nat} {g : Nat} (h : Own w B e k a cap l) (hap : Apart a g) (j : Nat) (v : Value) : Own (w.setCell ⟨g, j, none⟩ v) B e k a cap l := h.gb (gb_set (gb_refl _ _) _ _) hap
set_option maxHeartbeats 4000000 in
theorem tell_any (s : Bool) (a : Option Addr) (c v : Nat) (e : Int) (w : World) (hz : tz v ≤ 30000) (hl : (dg 1000000000 v).length ≤ 100000) (he : -900000 ≤ e) (he2 : e ≤ 900000) (hrd : Rd w .u32 a (dg 1000000000 v)) (htab : Tab w) :
    Calls Tryz.prog 123 #[.bool s, .slice a (dg 1000000000 v).length c, .int .i64 e] w fun r w' => ∃ a' c', r = .returned (.tuple #[.agg #[.bool (tellA s v e).p.neg, .slice a' (dg 1000000000 (tellA s v e).p.m).length c', .int .i64 (tellA s v e).p.e], .int .i64 ((tellA s v e).err : Nat)]) ∧
      Own w' w.heap.size 141 .u32 a' c' (dg 1000000000 (tellA s v e).p.m) ∧ Below w.heap.size w w' := by
  have hmf : ∀ (fn : Fn) (first cap : Array Value) (w : World), (Instr.makeFunc fn first cap).run Tryz.prog w = .ok (.func fn first cap) w := fun _ _ _ _ => rfl
  rcases Nat.eq_zero_or_pos v with h0 | h0
  · subst h0
    rw [dg_zero]
    go_enter_defers Tryz.func123, Tryz.ntmps123
    go_wp2
    have hA : tellA s 0 e = ⟨0, zP⟩ := by
      have h1 : pl s 0 e = zP := rfl
      unfold tellA; rw [h1, if_pos zP_in]
    rw [hA]
    refine leaves_cons (f := 134) (args := #[.pointer (some ⟨w.heap.size, 0, none⟩), .pointer (some ⟨w.heap.size + 1, 0, none⟩)]) (by simp) (by simp [go_sem]) ?_
    refine (tell1_in w.heap.size (w.heap.size + 1) false none 0 [] 0 .returning _ (by simp) (by omega) (by omega) (Lo_nil _) (Rd.nil _ _ _) (htab.below (((Below.refl _ _).alloc (Nat.le_refl _) _).alloc (by simp) _)) (by simp) (by simp) (by simp) zP_in).mono ?_
    rintro r u' w' ⟨rfl, rfl, hb⟩
    have c0 : w'.cell? ⟨w.heap.size, 0, none⟩ = some (.bool false) := by rw [hb.cell (by simp; omega)]; simp
    have c1 : w'.cell? ⟨w.heap.size, 1, none⟩ = some (.slice none 0 0) := by rw [hb.cell (by simp; omega)]; simp
    have c2 : w'.cell? ⟨w.heap.size, 2, none⟩ = some (.int .i64 0) := by rw [hb.cell (by simp; omega)]; simp
    have c3 : w'.cell? ⟨w.heap.size + 1, 0, none⟩ = some (.int .i64 0) := by rw [hb.cell (by simp)]; simp
    refine ⟨.tuple #[.agg #[.bool false, .slice none 0 0, .int .i64 0], .int .i64 0], by simp [results, Tryz.results123, go_sem, c0, c1, c2, c3], none, 0, ?_, ?_, ?_⟩
    · show _ = Ending.returned (.tuple #[.agg #[.bool false, .slice none (dg 1000000000 0).length 0, .int .i64 0], .int .i64 0])
      rw [dg_zero]; rfl
    · show Own w' _ _ .u32 none 0 (dg 1000000000 0)
      rw [dg_zero]; exact Own.nilNone _ _ _ _
    · exact (((Below.refl _ _).alloc (Nat.le_refl _) _).alloc (by simp) _).trans (hb.mono (by simp; omega))
  · have hT : ∀ W, Below w.heap.size w W → Calls Tryz.prog 136 #[.slice a (dg 1000000000 v).length c] W fun r w' => r = .returned (.int .i64 (tz v : Nat)) ∧ W = w' := fun W hb => by
      have h := noughtsAtEnd_any a c (dg 1000000000 v) W (by omega) (Lo_dg (by omega) _) (by rw [vl_dg (by omega)]; exact h0) (hrd.below hb)
      rw [vl_dg (by omega)] at h; exact h
    have hC : ∀ W, Below w.heap.size w W → Calls Tryz.prog 137 #[.slice a (dg 1000000000 v).length c, .int .i64 (tz v : Nat)] W fun e w' => ∃ a1 c1 a2 c2 n2, e = .returned (.tuple #[.slice a1 (dg 1000000000 (core v)).length c1, .slice a2 n2 c2, .int .i64 0]) ∧
        Own w' W.heap.size 141 .u32 a1 c1 (dg 1000000000 (core v)) ∧ Below W.heap.size W w' := fun W hb => by
      have h := Cut_any a c (dg 1000000000 v) (tz v) W hz (by omega) (Lo_mono (Lo_dg (by omega) _) (by omega)) (hrd.below hb)
      rw [vl_dg (by omega)] at h
      exact h.mono fun e w' ⟨a1, c1, a2, c2, he, o1, o2, hb⟩ => ⟨a1, c1, a2, c2, _, he, o1, hb⟩
    have hpos : 0 < (dg 1000000000 v).length := by rw [dg_pos (by omega) h0]; simp
    obtain ⟨n, hn⟩ : ∃ n, n = (dg 1000000000 v).length := ⟨_, rfl⟩
    obtain ⟨t, ht⟩ : ∃ t, t = tz v := ⟨_, rfl⟩
    rw [← hn] at hpos hl hC hT ⊢
    rw [← ht] at hz hC hT
    have HT := Lib.hid hT; have HC := Lib.hid hC; have HTZ := Lib.hid ht; have HN := Lib.hid hn
    clear hT hC hn ht
    go_enter_defers Tryz.func123, Tryz.ntmps123
    go_wp2_with fail
    refine (HT.out _ (((Below.refl _ _).alloc (Nat.le_refl _) _).alloc (by simp) _)).mono ?_
    rintro r w1 ⟨rfl, rfl⟩
    go_wp2_with fail
    refine (HC.out _ (((Below.refl _ _).alloc (Nat.le_refl _) _).alloc (by simp) _)).mono ?_
    rintro r w2 ⟨a1, c1, a2, c2, n2, rfl, hr1, hb⟩
    have k0 : w2.cell? ⟨w.heap.size, 0, none⟩ = some (.bool s) := by rw [hb.cell (by simp; omega)]; simp
    have k1 : w2.cell? ⟨w.heap.size, 1, none⟩ = some (.slice none 0 0) := by rw [hb.cell (by simp; omega)]; simp
    have k2 : w2.cell? ⟨w.heap.size, 2, none⟩ = some (.int .i64 (e + t)) := by rw [hb.cell (by simp; omega)]; simp
    have k3 : w2.cell? ⟨w.heap.size + 1, 0, none⟩ = some (.int .i64 0) := by rw [hb.cell (by simp)]; simp
    have f1 : ∀ j, w2.frozen? ⟨w.heap.size, j, none⟩ = false := fun j => by rw [hb.frozen (by simp; omega)]; simp
    have f2 : w2.frozen? ⟨w.heap.size + 1, 0, none⟩ = false := by rw [hb.frozen (by simp)]; simp
    have bb := (((Below.refl w.heap.size w).alloc (Nat.le_refl _) (.cells #[.bool s, .slice none 0 0, .int .i64 (e + t)] 127)).alloc (by simp) (.cells #[.int .i64 0] 27)).trans (hb.mono (by simp; omega))
    have hsz : w.heap.size + 1 < w2.heap.size := by have := hb.size; simp at this; omega
    clear hb
    have ap1 : Apart a1 w.heap.size := hr1.apart (by simp; omega)
    have ap2 : Apart a1 (w.heap.size + 1) := hr1.apart (by simp)
    have hrd1 := hr1.mono (show w.heap.size ≤ _ by simp; omega)
    clear hr1
    go_wp2
    have q0 : (((((w2.setCell ⟨w.heap.size, 1, none⟩ (.slice a1 (dg 1000000000 (core v)).length c1)).setCell ⟨w.heap.size, 0, none⟩ (.bool s)).setCell ⟨w.heap.size, 1, none⟩ (.slice a1 (dg 1000000000 (core v)).length c1)).setCell ⟨w.heap.size, 2, none⟩ (.int .i64 (e + (t : Int)))).setCell ⟨w.heap.size + 1, 0, none⟩ (.int .i64 0)).cell? ⟨w.heap.size, 0, none⟩ = some (.bool s) := by simp [go_sem, k0, k1, k2, k3]
    have q1 : (((((w2.setCell ⟨w.heap.size, 1, none⟩ (.slice a1 (dg 1000000000 (core v)).length c1)).setCell ⟨w.heap.size, 0, none⟩ (.bool s)).setCell ⟨w.heap.size, 1, none⟩ (.slice a1 (dg 1000000000 (core v)).length c1)).setCell ⟨w.heap.size, 2, none⟩ (.int .i64 (e + (t : Int)))).setCell ⟨w.heap.size + 1, 0, none⟩ (.int .i64 0)).cell? ⟨w.heap.size, 1, none⟩ = some (.slice a1 (dg 1000000000 (core v)).length c1) := by simp [go_sem, k0, k1, k2, k3]
    have q2 : (((((w2.setCell ⟨w.heap.size, 1, none⟩ (.slice a1 (dg 1000000000 (core v)).length c1)).setCell ⟨w.heap.size, 0, none⟩ (.bool s)).setCell ⟨w.heap.size, 1, none⟩ (.slice a1 (dg 1000000000 (core v)).length c1)).setCell ⟨w.heap.size, 2, none⟩ (.int .i64 (e + (t : Int)))).setCell ⟨w.heap.size + 1, 0, none⟩ (.int .i64 0)).cell? ⟨w.heap.size, 2, none⟩ = some (.int .i64 (e + (t : Int))) := by simp [go_sem, k0, k1, k2, k3]
    have q3 : (((((w2.setCell ⟨w.heap.size, 1, none⟩ (.slice a1 (dg 1000000000 (core v)).length c1)).setCell ⟨w.heap.size, 0, none⟩ (.bool s)).setCell ⟨w.heap.size, 1, none⟩ (.slice a1 (dg 1000000000 (core v)).length c1)).setCell ⟨w.heap.size, 2, none⟩ (.int .i64 (e + (t : Int)))).setCell ⟨w.heap.size + 1, 0, none⟩ (.int .i64 0)).cell? ⟨w.heap.size + 1, 0, none⟩ = some (.int .i64 0) := by simp [go_sem, k0, k1, k2, k3]
    have z1 : ∀ j, (((((w2.setCell ⟨w.heap.size, 1, none⟩ (.slice a1 (dg 1000000000 (core v)).length c1)).setCell ⟨w.heap.size, 0, none⟩ (.bool s)).setCell ⟨w.heap.size, 1, none⟩ (.slice a1 (dg 1000000000 (core v)).length c1)).setCell ⟨w.heap.size, 2, none⟩ (.int .i64 (e + (t : Int)))).setCell ⟨w.heap.size + 1, 0, none⟩ (.int .i64 0)).frozen? ⟨w.heap.size, j, none⟩ = false := fun j => by simp [go_sem, f1]
    have z2 : (((((w2.setCell ⟨w.heap.size, 1, none⟩ (.slice a1 (dg 1000000000 (core v)).length c1)).setCell ⟨w.heap.size, 0, none⟩ (.bool s)).setCell ⟨w.heap.size, 1, none⟩ (.slice a1 (dg 1000000000 (core v)).length c1)).setCell ⟨w.heap.size, 2, none⟩ (.int .i64 (e + (t : Int)))).setCell ⟨w.heap.size + 1, 0, none⟩ (.int .i64 0)).frozen? ⟨w.heap.size + 1, 0, none⟩ = false := by simp [go_sem, f2]
    have b3 : Below w.heap.size w (((((w2.setCell ⟨w.heap.size, 1, none⟩ (.slice a1 (dg 1000000000 (core v)).length c1)).setCell ⟨w.heap.size, 0, none⟩ (.bool s)).setCell ⟨w.heap.size, 1, none⟩ (.slice a1 (dg 1000000000 (core v)).length c1)).setCell ⟨w.heap.size, 2, none⟩ (.int .i64 (e + (t : Int)))).setCell ⟨w.heap.size + 1, 0, none⟩ (.int .i64 0)) := ((((bb.setCell (Nat.le_refl _) _).setCell (Nat.le_refl _) _).setCell (Nat.le_refl _) _).setCell (Nat.le_refl _) _).setCell (Nat.le_succ _) _
    have r3 : Own (((((w2.setCell ⟨w.heap.size, 1, none⟩ (.slice a1 (dg 1000000000 (core v)).length c1)).setCell ⟨w.heap.size, 0, none⟩ (.bool s)).setCell ⟨w.heap.size, 1, none⟩ (.slice a1 (dg 1000000000 (core v)).length c1)).setCell ⟨w.heap.size, 2, none⟩ (.int .i64 (e + (t : Int)))).setCell ⟨w.heap.size + 1, 0, none⟩ (.int .i64 0)) w.heap.size 141 .u32 a1 c1 (dg 1000000000 (core v)) := ((((hrd1.setFar ap1 _ _).setFar ap1 _ _).setFar ap1 _ _).setFar ap1 _ _).setFar ap2 _ _
    generalize (((((w2.setCell ⟨w.heap.size, 1, none⟩ (.slice a1 (dg 1000000000 (core v)).length c1)).setCell ⟨w.heap.size, 0, none⟩ (.bool s)).setCell ⟨w.heap.size, 1, none⟩ (.slice a1 (dg 1000000000 (core v)).length c1)).setCell ⟨w.heap.size, 2, none⟩ (.int .i64 (e + (t : Int)))).setCell ⟨w.heap.size + 1, 0, none⟩ (.int .i64 0)) = w3 at *
    clear k0 k1 k2 k3 f1 f2 bb hrd1
    have hpl : pl s v e = ⟨s, core v, e + (t : Int)⟩ := by unfold pl; rw [if_neg (by omega), HTZ.out]
    have hcl : (dg 1000000000 (core v)).length ≤ 100000 := by
      have h1 := dg_len_le (b := 1000000000) (by omega) (core_le v)
      rw [← HN.out] at h1; omega
    have hvc : vl 1000000000 (dg 1000000000 (core v)) = core v := vl_dg (by omega) _
    have hlc : Lo 4294967296 (dg 1000000000 (core v)) := Lo_mono (Lo_dg (by omega) _) (by omega)
    rcases hin : inR ⟨s, core v, e + (t : Int)⟩ with _ | _
    · have hA : tellA s v e = ⟨3, zP⟩ := by unfold tellA; rw [hpl, if_neg (by rw [hin]; exact Bool.false_ne_true)]
      rw [hA]
      refine leaves_cons (f := 134) (args := #[.pointer (some ⟨w.heap.size, 0, none⟩), .pointer (some ⟨w.heap.size + 1, 0, none⟩)]) (by simp) (by simp [go_sem]) ?_
      refine (tell1_out w.heap.size (w.heap.size + 1) s a1 c1 (dg 1000000000 (core v)) (e + (t : Int)) .returning w3 (by omega) (by omega) (by omega) hlc r3.rd (htab.below b3) q0 q1 q2 q3 (by omega) z1 z2 (by rw [hvc]; exact hin)).mono ?_
      rintro r u' w' ⟨rfl, rfl, c0, c1, c2, c3, hb⟩
      refine ⟨.tuple #[.agg #[.bool false, .slice none 0 0, .int .i64 0], .int .i64 3], by simp [results, Tryz.results123, go_sem, c0, c1, c2, c3], none, 0, ?_, ?_, ?_⟩
      · show _ = Ending.returned (.tuple #[.agg #[.bool false, .slice none (dg 1000000000 0).length 0, .int .i64 0], .int .i64 3])
        rw [dg_zero]; rfl
      · show Own w' _ _ .u32 none 0 (dg 1000000000 0)
        rw [dg_zero]; exact Own.nilNone _ _ _ _
      · exact b3.trans (hb w.heap.size (Nat.le_refl _) (by omega))
    · have hA : tellA s v e = ⟨0, ⟨s, core v, e + (t : Int)⟩⟩ := by unfold tellA; rw [hpl, if_pos hin]
      rw [hA]
      refine leaves_cons (f := 134) (args := #[.pointer (some ⟨w.heap.size, 0, none⟩), .pointer (some ⟨w.heap.size + 1, 0, none⟩)]) (by simp) (by simp [go_sem]) ?_
      refine (tell1_in w.heap.size (w.heap.size + 1) s a1 c1 (dg 1000000000 (core v)) (e + (t : Int)) .returning w3 (by omega) (by omega) (by omega) hlc r3.rd (htab.below b3) q0 q1 q2 (by rw [hvc]; exact hin)).mono ?_
      rintro r u' w' ⟨rfl, rfl, hb⟩
      have g1 := lt_of_cell q0
      have g2 := lt_of_cell q3
      have c0 : w'.cell? ⟨w.heap.size, 0, none⟩ = some (.bool s) := by rw [hb.cell g1]; exact q0
      have c1' : w'.cell? ⟨w.heap.size, 1, none⟩ = some (.slice a1 (dg 1000000000 (core v)).length c1) := by rw [hb.cell (p := ⟨w.heap.size, 1, none⟩) g1]; exact q1
      have c2 : w'.cell? ⟨w.heap.size, 2, none⟩ = some (.int .i64 (e + (t : Int))) := by rw [hb.cell (p := ⟨w.heap.size, 2, none⟩) g1]; exact q2
      have c3 : w'.cell? ⟨w.heap.size + 1, 0, none⟩ = some (.int .i64 0) := by rw [hb.cell g2]; exact q3
      exact ⟨.tuple #[.agg #[.bool s, .slice a1 (dg 1000000000 (core v)).length c1, .int .i64 (e + (t : Int))], .int .i64 0], by simp [results, Tryz.results123, go_sem, c0, c1', c2, c3], a1, c1, rfl, r3.below hb, b3.trans (hb.mono b3.size)⟩
end Go.Proofs.YtpgiljibicigeaaGreatDoor

/- Walks of dec: Norm, Neg. -/
namespace Go.Proofs.YtpgiljibicigeaaGreatDoor
open Go.RowKit LM

def ResA (A : Ans) (w : World) (r : Ending) (w' : World) : Prop := ∃ a' c', r = .returned (.tuple #[.agg #[.bool A.p.neg, .slice a' (dg 1000000000 A.p.m).length c', .int .i64 A.p.e], .int .i64 (A.err : Nat)]) ∧ Own w' w.heap.size 141 .u32 a' c' (dg 1000000000 A.p.m) ∧ Below w.heap.size w w'

end Go.Proofs.YtpgiljibicigeaaGreatDoor

/- Walks of dec: withPower, withPoint, withoutSign, Text. -/
namespace Go.Proofs.YtpgiljibicigeaaGreatDoor
open Go.RowKit LM

def txt (l : List UInt8) : ByteArray := ⟨l.toArray⟩
theorem txt_size (l : List UInt8) : (txt l).size = l.length := by simp [txt, ByteArray.size]
theorem txt_list (l : List UInt8) : (txt l).data.toList = l := rfl

end Go.Proofs.YtpgiljibicigeaaGreatDoor

/- Walks: the document's answer: Sub, Text. -/
namespace Go.Proofs.YtpgiljibicigeaaGreatDoor
open Go.RowKit LM

end Go.Proofs.YtpgiljibicigeaaGreatDoor

/- Walks of the document's answer for dec: Make, Head, Fits. -/
namespace Go.Proofs.YtpgiljibicigeaaGreatDoor
open Go.RowKit LM

end Go.Proofs.YtpgiljibicigeaaGreatDoor

/- Walks of the document's answer for dec: Take, To, Norm, Same. -/
namespace Go.Proofs.YtpgiljibicigeaaGreatDoor
open Go.RowKit LM

theorem cellB {w w' : World} {p : Addr} {v : Value} (h : w.cell? p = some v) (hb : Below w.heap.size w w') : w'.cell? p = some v := by rw [hb.cell (lt_of_cell h)]; exact h
end Go.Proofs.YtpgiljibicigeaaGreatDoor
