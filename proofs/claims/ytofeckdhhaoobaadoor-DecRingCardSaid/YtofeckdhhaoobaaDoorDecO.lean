/- Walks of dec.Of and the document's Of. -/
import Derived.Test.YtofeckdhhaoobaaDoorDecF
import Derived.Test.YtofeckdhhaoobaaDoorDecGs
namespace Go.Proofs.YtofeckdhhaoobaaDoor
open Go.RowKit LM

theorem valRes {w1 : World} {b : Nat} {x0 x1 x2 : Value} (k0 : w1.cell? ⟨b, 0, none⟩ = some x0) (k1 : w1.cell? ⟨b, 1, none⟩ = some x1) (k2 : w1.cell? ⟨b, 2, none⟩ = some x2) (v0 v1 v2 : Value) (o : Obj) :
    ((((w1.setCell ⟨b, 0, none⟩ v0).setCell ⟨b, 1, none⟩ v1).setCell ⟨b, 2, none⟩ v2).alloc o).cell? ⟨b, 0, none⟩ = some v0 ∧
    ((((w1.setCell ⟨b, 0, none⟩ v0).setCell ⟨b, 1, none⟩ v1).setCell ⟨b, 2, none⟩ v2).alloc o).cell? ⟨b, 1, none⟩ = some v1 ∧
    ((((w1.setCell ⟨b, 0, none⟩ v0).setCell ⟨b, 1, none⟩ v1).setCell ⟨b, 2, none⟩ v2).alloc o).cell? ⟨b, 2, none⟩ = some v2 := by
  have s0 : (((w1.setCell ⟨b, 0, none⟩ v0).setCell ⟨b, 1, none⟩ v1).setCell ⟨b, 2, none⟩ v2).cell? ⟨b, 0, none⟩ = some v0 := by simp [go_sem, k0]
  have s1 : (((w1.setCell ⟨b, 0, none⟩ v0).setCell ⟨b, 1, none⟩ v1).setCell ⟨b, 2, none⟩ v2).cell? ⟨b, 1, none⟩ = some v1 := by simp [go_sem, k1]
  have s2 : (((w1.setCell ⟨b, 0, none⟩ v0).setCell ⟨b, 1, none⟩ v1).setCell ⟨b, 2, none⟩ v2).cell? ⟨b, 2, none⟩ = some v2 := by simp [go_sem, k2]
  exact ⟨cellB s0 ((Below.refl _ _).alloc (Nat.le_refl _) o), cellB s1 ((Below.refl _ _).alloc (Nat.le_refl _) o), cellB s2 ((Below.refl _ _).alloc (Nat.le_refl _) o)⟩

theorem inR_small {s : Bool} {v : Nat} (h : (dg 10 v).length ≤ 20) : inR (pl s v 0) = true := by
  rcases Nat.eq_zero_or_pos v with h0 | h0
  · subst h0; exact zP_in
  · have hp : pl s v 0 = ⟨s, core v, 0 + tz v⟩ := by unfold pl; rw [if_neg (by omega)]
    have htz := tz_len h0
    have hcore : (dg 10 v).drop (tz v) = dg 10 (core v) := dg_drop (by omega) _ _
    have hcl : (dg 10 (core v)).length = (dg 10 v).length - tz v := by rw [← hcore, List.length_drop]
    rw [hp]; unfold inR dl
    exact decide_eq_true (by simp only; omega)
theorem dg10_u64 {v : Nat} (h : v < 18446744073709551616) : (dg 10 v).length ≤ 20 :=
  dg_len_of_lt (by omega) (by rw [show (10 : Nat) ^ 20 = 100000000000000000000 by decide]; omega)
theorem tell_small {s : Bool} {v : Nat} (h : v < 18446744073709551616) : tellA s v 0 = ⟨0, pl s v 0⟩ := by
  unfold tellA; rw [if_pos (inR_small (dg10_u64 h))]

set_option maxHeartbeats 4000000 in
set_option maxRecDepth 20000 in
theorem DOf_any (n : Int) (w : World) (h1 : -9223372036854775808 ≤ n) (h2 : n ≤ 9223372036854775807) (htab : Tab w) :
    Calls Tryd.prog 18 #[.int .i64 n] w (ResV (pl (decide (n < 0)) n.natAbs 0) w) := by
  obtain ⟨v, hv⟩ : ∃ v, v = n.natAbs := ⟨_, rfl⟩
  rw [← hv]
  have hv64 : v < 18446744073709551616 := by omega
  have hd10 := dg10_u64 hv64
  have hd9 := dg_len_9 v
  have htz : tz v ≤ 30000 := by
    rcases Nat.eq_zero_or_pos v with e | e
    · rw [e, tz_zero]; omega
    · have := tz_len e; omega
  have hO := fun W => Of_any v W hv64
  have hT := fun s a c W hr ht => tell_any s a c v 0 W htz (by omega) (by omega) (by omega) hr ht
  have hS : ∀ s, tellA s v 0 = ⟨0, pl s v 0⟩ := fun s => tell_small hv64
  have HO := Lib.hid hO
  by_cases hn : n < 0
  · have hT := hT true
    rw [hS] at hT
    have HT := Lib.hid hT
    have hd : decide (n < 0) = true := decide_eq_true hn
    rw [hd]
    have hx : n = -(v : Int) := by omega
    subst hx
    clear hT hS hO hd hd10 hd9 htz hv
    go_enter Tryd.func18, Tryd.ntmps18
    go_wp2_with fail
    rw [show IntKind.u64.wrap (-IntKind.u64.wrap (-(v : Int))) = (v : Int) by simp [IntKind.wrap, IntKind.bits, IntKind.signed]; omega]
    refine (HO.out _).mono ?_
    rintro r w1 ⟨a1, c1, rfl, ho1, hb1⟩
    have b1 := ((Below.refl w.heap.size w).alloc (Nat.le_refl _) (.cells #[.bool false, .slice none 0 0, .int .i64 0] 24)).trans (hb1.mono (by simp))
    have k0 : w1.cell? ⟨w.heap.size, 0, none⟩ = some (.bool false) := by rw [hb1.cell (by simp)]; simp
    have k1 : w1.cell? ⟨w.heap.size, 1, none⟩ = some (.slice none 0 0) := by rw [hb1.cell (by simp)]; simp
    have k2 : w1.cell? ⟨w.heap.size, 2, none⟩ = some (.int .i64 0) := by rw [hb1.cell (by simp)]; simp
    have kf : ∀ j, w1.frozen? ⟨w.heap.size, j, none⟩ = false := fun j => by rw [hb1.frozen (by simp)]; simp
    clear hb1
    go_wp2_with fail
    refine (HT.out a1 c1 _ ho1.rd (htab.below b1)).mono ?_
    rintro r w2 ⟨a2, c2, rfl, ho2, hb2⟩
    have hb3 := hb2.alloc hb2.size (.cells #[.bool (pl true v 0).neg, .slice a2 (dg 1000000000 (pl true v 0).m).length c2, .int .i64 (pl true v 0).e] 24)
    have b3 := b1.trans (hb3.mono b1.size)
    have hsz : w.heap.size < w1.heap.size := lt_of_cell k0
    have i0 := cellB k0 hb2
    have i1 := cellB k1 hb2
    have i2 := cellB k2 hb2
    have jf : ∀ j, w2.frozen? ⟨w.heap.size, j, none⟩ = false := fun j => by rw [hb2.frozen (p := ⟨w.heap.size, j, none⟩) hsz]; exact kf j
    have ap := ho2.apart hsz
    have b2 := b1.trans (hb2.mono b1.size)
    obtain ⟨z0, z1, z2⟩ := valRes i0 i1 i2 (.bool (pl true v 0).neg) (.slice a2 (dg 1000000000 (pl true v 0).m).length c2) (.int .i64 (pl true v 0).e) (.cells #[.bool (pl true v 0).neg, .slice a2 (dg 1000000000 (pl true v 0).m).length c2, .int .i64 (pl true v 0).e] 24)
    have HOWN := ((((ho2.mono b1.size).setFar ap 0 (.bool (pl true v 0).neg)).setFar ap 1 (.slice a2 (dg 1000000000 (pl true v 0).m).length c2)).setFar ap 2 (.int .i64 (pl true v 0).e)).below ((Below.refl _ _).alloc (Nat.le_refl _) (.cells #[.bool (pl true v 0).neg, .slice a2 (dg 1000000000 (pl true v 0).m).length c2, .int .i64 (pl true v 0).e] 24))
    have hb4 := (Below.refl w2.heap.size w2).alloc (Nat.le_refl _) (.cells #[.bool (pl true v 0).neg, .slice a2 (dg 1000000000 (pl true v 0).m).length c2, .int .i64 (pl true v 0).e] 24)
    have q0 := cellB i0 hb4
    have q1 := cellB i1 hb4
    have q2 := cellB i2 hb4
    have hsz2 : w.heap.size < w2.heap.size := lt_of_cell i0
    have qf := fun j => (hb4.frozen (p := ⟨w.heap.size, j, none⟩) hsz2).trans (jf j)
    clear ho1 ho2 hb2 hb3 hb4
    go_wp2
    refine bodyPost_ret (v := .agg #[.bool (pl true v 0).neg, .slice a2 (dg 1000000000 (pl true v 0).m).length c2, .int .i64 (pl true v 0).e]) (by simp [results, Tryd.results18, go_sem, z0, z1, z2]) rfl ?_
    exact ⟨a2, c2, rfl, HOWN, (((b2.setCell (Nat.le_refl _) _).setCell (Nat.le_refl _) _).setCell (Nat.le_refl _) _).alloc (by simpa using b2.size) _⟩
  · have hT := hT false
    rw [hS] at hT
    have HT := Lib.hid hT
    have hd : decide (n < 0) = false := decide_eq_false hn
    rw [hd]
    have hx : n = (v : Int) := by omega
    subst hx
    clear hT hS hO hd hd10 hd9 htz hv
    go_enter Tryd.func18, Tryd.ntmps18
    go_wp2_with fail
    refine (HO.out _).mono ?_
    rintro r w1 ⟨a1, c1, rfl, ho1, hb1⟩
    have b1 := ((Below.refl w.heap.size w).alloc (Nat.le_refl _) (.cells #[.bool false, .slice none 0 0, .int .i64 0] 24)).trans (hb1.mono (by simp))
    have k0 : w1.cell? ⟨w.heap.size, 0, none⟩ = some (.bool false) := by rw [hb1.cell (by simp)]; simp
    have k1 : w1.cell? ⟨w.heap.size, 1, none⟩ = some (.slice none 0 0) := by rw [hb1.cell (by simp)]; simp
    have k2 : w1.cell? ⟨w.heap.size, 2, none⟩ = some (.int .i64 0) := by rw [hb1.cell (by simp)]; simp
    have kf : ∀ j, w1.frozen? ⟨w.heap.size, j, none⟩ = false := fun j => by rw [hb1.frozen (by simp)]; simp
    clear hb1
    go_wp2_with fail
    refine (HT.out a1 c1 _ ho1.rd (htab.below b1)).mono ?_
    rintro r w2 ⟨a2, c2, rfl, ho2, hb2⟩
    have hb3 := hb2.alloc hb2.size (.cells #[.bool (pl false v 0).neg, .slice a2 (dg 1000000000 (pl false v 0).m).length c2, .int .i64 (pl false v 0).e] 24)
    have b3 := b1.trans (hb3.mono b1.size)
    have hsz : w.heap.size < w1.heap.size := lt_of_cell k0
    have i0 := cellB k0 hb2
    have i1 := cellB k1 hb2
    have i2 := cellB k2 hb2
    have jf : ∀ j, w2.frozen? ⟨w.heap.size, j, none⟩ = false := fun j => by rw [hb2.frozen (p := ⟨w.heap.size, j, none⟩) hsz]; exact kf j
    have ap := ho2.apart hsz
    have b2 := b1.trans (hb2.mono b1.size)
    obtain ⟨z0, z1, z2⟩ := valRes i0 i1 i2 (.bool (pl false v 0).neg) (.slice a2 (dg 1000000000 (pl false v 0).m).length c2) (.int .i64 (pl false v 0).e) (.cells #[.bool (pl false v 0).neg, .slice a2 (dg 1000000000 (pl false v 0).m).length c2, .int .i64 (pl false v 0).e] 24)
    have HOWN := ((((ho2.mono b1.size).setFar ap 0 (.bool (pl false v 0).neg)).setFar ap 1 (.slice a2 (dg 1000000000 (pl false v 0).m).length c2)).setFar ap 2 (.int .i64 (pl false v 0).e)).below ((Below.refl _ _).alloc (Nat.le_refl _) (.cells #[.bool (pl false v 0).neg, .slice a2 (dg 1000000000 (pl false v 0).m).length c2, .int .i64 (pl false v 0).e] 24))
    have hb4 := (Below.refl w2.heap.size w2).alloc (Nat.le_refl _) (.cells #[.bool (pl false v 0).neg, .slice a2 (dg 1000000000 (pl false v 0).m).length c2, .int .i64 (pl false v 0).e] 24)
    have q0 := cellB i0 hb4
    have q1 := cellB i1 hb4
    have q2 := cellB i2 hb4
    have hsz2 : w.heap.size < w2.heap.size := lt_of_cell i0
    have qf := fun j => (hb4.frozen (p := ⟨w.heap.size, j, none⟩) hsz2).trans (jf j)
    clear ho1 ho2 hb2 hb3 hb4
    go_wp2
    refine bodyPost_ret (v := .agg #[.bool (pl false v 0).neg, .slice a2 (dg 1000000000 (pl false v 0).m).length c2, .int .i64 (pl false v 0).e]) (by simp [results, Tryd.results18, go_sem, z0, z1, z2]) rfl ?_
    exact ⟨a2, c2, rfl, HOWN, (((b2.setCell (Nat.le_refl _) _).setCell (Nat.le_refl _) _).setCell (Nat.le_refl _) _).alloc (by simpa using b2.size) _⟩
end Go.Proofs.YtofeckdhhaoobaaDoor
