/- the law SyntaxSigns walked. -/
import Derived.Test.YtpgiljibicigeaaGreatDoorSynSg
import Derived.Deep.RegionHeld3
import Derived.Deep.DeepCutAuto
import Derived.BigQuiet
set_option linter.unusedVariables false
set_option linter.unusedSimpArgs false
namespace Go.Proofs.YtpgiljibicigeaaGreatDoor
open Go.RowKit UM QM LX SX

theorem ResPs_two {k j : Nat} {t : ByteArray} {x y : Nd} {w w' : World} {e : Ending} (hr : ResPs (.ok (.mk k t [x, y]) j) w e w') :
    ∃ q cap, e = .returned (.tuple #[.agg #[.int .i64 (k : Int), .string t, .slice (some ⟨q, 0, none⟩) 2 cap], .int .i64 0, .int .i64 0]) ∧ (w'.cell? ⟨q, 1, none⟩ = some (.string (txN x)) ∧ w'.cell? ⟨q, 4, none⟩ = some (.string (txN y))) ∧ Below w.heap.size w w' ∧ w.heap.size ≤ q := by
  obtain ⟨u, rfl, hn, hb⟩ := hr
  unfold ND at hn
  obtain ⟨ao, cap, rfl, hk⟩ := hn
  unfold NDs at hk
  obtain ⟨⟨q, c0, c1, c2, rfl, hq, h0, h1, _, hx⟩, hk⟩ := hk
  unfold NDs at hk
  obtain ⟨⟨q', d0, d1, d2, e2, _, g0, g1, _, hy⟩, _⟩ := hk
  injection e2 with e2
  injection e2 with e2
  subst e2
  obtain ⟨kx, tx', xs⟩ := x
  obtain ⟨ky, ty, ys⟩ := y
  unfold ND at hx hy
  obtain ⟨_, _, ex, _⟩ := hx
  obtain ⟨_, _, ey, _⟩ := hy
  simp only [Value.agg.injEq, Array.mk.injEq, List.cons.injEq, and_true] at ex ey
  obtain ⟨rfl, rfl, _⟩ := ex
  obtain ⟨rfl, rfl, _⟩ := ey
  exact ⟨q, cap, rfl, ⟨h1, g1⟩, hb, hq⟩
theorem seq_to {a b : ByteArray} (h : SX.seq a b = true) : a = b := by
  unfold SX.seq at h
  rw [beq_iff_eq] at h
  cases a; cases b
  simpa using h
/-- what stands behind the parse -/
def SgnF (w2 : World) (nb : Nat) (k : Nat) (T X Y : ByteArray) (W : World) : Prop :=
  ∃ q cap, W.cell? ⟨nb, 0, none⟩ = some (.int .i64 (k : Int)) ∧ W.cell? ⟨nb, 1, none⟩ = some (.string T) ∧ W.cell? ⟨nb, 2, none⟩ = some (.slice (some ⟨q, 0, none⟩) 2 cap) ∧ W.cell? ⟨q, 1, none⟩ = some (.string X) ∧ W.cell? ⟨q, 4, none⟩ = some (.string Y) ∧ Below w2.heap.size w2 W
set_option maxRecDepth 100000 in
set_option maxHeartbeats 8000000 in
theorem syntaxSigns_walk {i j : Nat} (w : World) (ht : Sh w ∧ Sg w ∧ TBs w) (hi : i < 256) (hj : j < 256) : Calls Tryz.prog 6 #[.int .u8 (i : Int), .int .u8 (j : Int)] w fun r w' => r = .returned (.bool true) ∧ Below w.heap.size w w' := by
  have X := Lib.hid (yshown_any w ht.1 ht.2.1 ht.2.2)
  obtain ⟨a, ha⟩ : ∃ a, i % 9 = a := ⟨_, rfl⟩
  obtain ⟨b, hb⟩ : ∃ b, j % 9 = b := ⟨_, rfl⟩
  have ra : (i : Int).tmod 9 = (a : Int) := by rw [Int.tmod_eq_emod_of_nonneg (by omega)]; omega
  have rb : (j : Int).tmod 9 = (b : Int) := by rw [Int.tmod_eq_emod_of_nonneg (by omega)]; omega
  have ha9 : a < 9 := by omega
  have hb9 : b < 9 := by omega
  have aI : (a : Int) < 9 := by omega
  have bI : (b : Int) < 9 := by omega
  have iI : (i : Int) < 256 := by omega
  have jI : (j : Int) < 256 := by omega
  have HCH := Lib.hid (ch_at ha9 hb9)
  have HA := Lib.hid ha9; have HB := Lib.hid hb9
  clear ha hb hi hj ht ha9 hb9
  go_enter Tryz.func6, Tryz.ntmps6
  go_wp2_with fail
  refine X.out.mono ?_
  rintro r w1 ⟨rfl, hg⟩
  have G1 := Lib.hid hg
  clear hg X
  go_upto_region 6 with (fail)
  obtain ⟨sb, hsb⟩ : ∃ n, w1.heap.size = n := ⟨_, rfl⟩
  obtain ⟨w2, hw2⟩ : ∃ W, (w1.alloc (.cells #[.string ⟨#[47, 47]⟩, .string ⟨#[111, 114]⟩, .string ⟨#[97, 110, 100]⟩, .string ⟨#[61, 61]⟩, .string ⟨#[43]⟩, .string ⟨#[45]⟩, .string ⟨#[42]⟩, .string ⟨#[47]⟩, .string ⟨#[37]⟩] 9)).alloc (.cells #[.int .i64 0, .int .i64 2, .int .i64 3, .int .i64 4, .int .i64 5, .int .i64 5, .int .i64 6, .int .i64 6, .int .i64 6] 3) = W := ⟨_, rfl⟩
  have hbe : Below w1.heap.size w1 w2 := by rw [← hw2]; exact ((Below.refl _ _).alloc (Nat.le_refl _) _).alloc (by simp) _
  have hsg : ∀ k, k < 9 → w2.cell? ⟨sb, k, none⟩ = some (.string (sgA k)) := fun k hk => by
    rw [← hw2, cell_old (by simp; omega), cell_new hsb.symm]
    match k, hk with
    | 0, _ => rfl
    | 1, _ => rfl
    | 2, _ => rfl
    | 3, _ => rfl
    | 4, _ => rfl
    | 5, _ => rfl
    | 6, _ => rfl
    | 7, _ => rfl
    | 8, _ => rfl
  have hst : ∀ k, k < 9 → w2.cell? ⟨sb + 1, k, none⟩ = some (.int .i64 (stA k : Int)) := fun k hk => by
    rw [← hw2, cell_new (by simp; omega)]
    match k, hk with
    | 0, _ => rfl
    | 1, _ => rfl
    | 2, _ => rfl
    | 3, _ => rfl
    | 4, _ => rfl
    | 5, _ => rfl
    | 6, _ => rfl
    | 7, _ => rfl
    | 8, _ => rfl
  have HSG := Lib.hid hsg; have HST := Lib.hid hst
  have G2 := Lib.hid (G1.out.next hbe)
  have s0 := hsg a HA.out
  have s1 := hsg b HB.out
  rw [hw2, hsb]
  clear hw2 hsb hbe hsg hst G1
  have htx : ∀ k, k < 9 → (sgA k).size ≤ 3 := fun k hk => by
    match k, hk with
    | 0, _ => exact (by decide)
    | 1, _ => exact (by decide)
    | 2, _ => exact (by decide)
    | 3, _ => exact (by decide)
    | 4, _ => exact (by decide)
    | 5, _ => exact (by decide)
    | 6, _ => exact (by decide)
    | 7, _ => exact (by decide)
    | 8, _ => exact (by decide)
  have hz : (txS a b).size ≤ 140737488351232 := by
    have h1 := htx a HA.out; have h2 := htx b HB.out
    unfold txS
    simp only [ByteArray.size_append]
    have e1 : (⟨#[49, 32]⟩ : ByteArray).size = 2 := rfl
    have e2 : (⟨#[32, 50, 32]⟩ : ByteArray).size = 3 := rfl
    have e3 : (⟨#[32, 51]⟩ : ByteArray).size = 2 := rfl
    omega
  have HP := Lib.hid (fun W (h : Below w2.heap.size w2 W) => Parse_all (txS a b) W hz ((G2.out.next h).2.1) ((G2.out.next h).2.2.1) ((G2.out.next h).2.2.2))
  obtain ⟨R, hR⟩ : ∃ R, parF (txS a b) = R := ⟨_, rfl⟩
  have hch := HCH.out
  rw [hR] at HP hch
  have HCR := Lib.hid hch
  have zA := htx a HA.out; have zB := htx b HB.out
  clear hz htx hR hch HCH
  generalize hA' : sgA a = SA at *
  generalize hB' : sgA b = SB at *
  have hct : txS a b = ⟨#[49, 32]⟩ ++ SA ++ ⟨#[32, 50, 32]⟩ ++ SB ++ ⟨#[32, 51]⟩ := by unfold txS; rw [hA', hB']
  rw [hct] at HP
  have HSA := Lib.hid hA'; have HSB := Lib.hid hB'
  clear hct hA' hB'
  have HG := Lib.hid (fun W (h : Below w2.heap.size w2 W) => (G2.out.next h).1)
  cases R with
  | err a0 e0 =>
    have h := HCR.out
    simp only [chR, Bool.and_eq_true, decide_eq_true_eq] at h
    obtain ⟨⟨h3, h4⟩, h5⟩ := h
    subst h3 h4 h5
    obtain rfl : SA = SB := by have := s0.symm.trans s1; simpa using this
    have HPE : Hid (∀ W, Below w2.heap.size w2 W → Calls Tryz.prog 9 #[.string (⟨#[49, 32]⟩ ++ SA ++ ⟨#[32, 50, 32]⟩ ++ SA ++ ⟨#[32, 51]⟩)] W fun e w' => e = .returned (.tuple #[ndZ, .int .i64 (a0 : Int), .int .i64 2]) ∧ Below w2.heap.size w2 w' ∧ Below W.heap.size W w') := Lib.hid (fun W hW => (HP.out W hW).mono fun e w' h => ⟨h.1, hW.trans (h.2.mono hW.size), h.2⟩)
    have HPB : Hid (Calls Tryz.prog 9 #[.string (⟨#[49, 32]⟩ ++ SA ++ ⟨#[32, 50, 32]⟩ ++ SA ++ ⟨#[32, 51]⟩)] (w2.alloc (.cells #[.int .i64 0, .string ⟨#[]⟩, .slice none 0 0] 24)).drew fun e w' => e = .returned (.tuple #[ndZ, .int .i64 (a0 : Int), .int .i64 2]) ∧ Below w2.heap.size w2 w' ∧ w'.cell? ⟨w2.heap.size, 0, none⟩ = some (.int .i64 0) ∧ w'.cell? ⟨w2.heap.size, 1, none⟩ = some (.string ⟨#[]⟩) ∧ w'.cell? ⟨w2.heap.size, 2, none⟩ = some (.slice none 0 0) ∧ ∀ j, w'.frozen? ⟨w2.heap.size, j, none⟩ = false) := Lib.hid (by
      obtain ⟨W, hW⟩ : ∃ W, (w2.alloc (.cells #[.int .i64 0, .string ⟨#[]⟩, .slice none 0 0] 24)).drew = W := ⟨_, rfl⟩
      have hb1 : Below w2.heap.size w2 W := by rw [← hW]; exact ((Below.refl _ _).alloc (Nat.le_refl _) _).drew
      have hsz : w2.heap.size < W.heap.size := by rw [← hW]; simp
      have c0 : W.cell? ⟨w2.heap.size, 0, none⟩ = some (.int .i64 0) := by rw [← hW]; exact cell_new (W := w2) rfl
      have c1 : W.cell? ⟨w2.heap.size, 1, none⟩ = some (.string ⟨#[]⟩) := by rw [← hW]; exact cell_new (W := w2) rfl
      have c2 : W.cell? ⟨w2.heap.size, 2, none⟩ = some (.slice none 0 0) := by rw [← hW]; exact cell_new (W := w2) rfl
      have cf : ∀ j, W.frozen? ⟨w2.heap.size, j, none⟩ = false := fun j => by rw [← hW]; exact frz_new (W := w2) rfl
      rw [hW]
      refine (HPE.out W hb1).mono fun e w' h => ?_
      exact ⟨h.1, h.2.1, (h.2.2.cell (p := ⟨w2.heap.size, 0, none⟩) hsz).trans c0, (h.2.2.cell (p := ⟨w2.heap.size, 1, none⟩) hsz).trans c1, (h.2.2.cell (p := ⟨w2.heap.size, 2, none⟩) hsz).trans c2, fun j => (h.2.2.frozen (p := ⟨w2.heap.size, j, none⟩) hsz).trans (cf j)⟩)
    clear HP HCR HST HSG
    have b1 : ¬ (9223372036854775807 < 2 + SA.size) := by omega
    have b2 : ¬ (9223372036854775807 < 2 + SA.size + 3) := by omega
    have b3 : ¬ (9223372036854775807 < 2 + SA.size + 3 + SA.size) := by omega
    have b4 : ¬ (9223372036854775807 < 2 + SA.size + 3 + SA.size + 2) := by omega
    have n1 : ¬ sb = w2.heap.size := by have := lt_of_cell s0; simp only at this; omega
    have n2 : ¬ w2.heap.size = sb := fun e => n1 e.symm
    go_region_held3 (fun w' => w'.cell? ⟨sb, 3, none⟩ = some (.string SA)) (first | go_keep | exact s0 | exact z0)
      ((first
        | (go_at_call 9; refine (HPE.out w2.drew (Below.refl _ _).drew).mono ?_; rintro e w4 ⟨rfl, hb, _⟩; have z0 := (hb.cell (lt_of_cell s0)).trans s0; have HB4 := Lib.hid hb; clear hb)
        | (go_at_call 9; refine HPB.out.mono ?_; rintro e w4 ⟨rfl, hb, y0, y1, y2, yf⟩; have z0 := (hb.cell (lt_of_cell s0)).trans s0; have HB4 := Lib.hid hb; clear hb)))
    all_goals go_wp2
    all_goals go_ret
    · exact ⟨rfl, G2.out.1.trans ((HB4.out.mono G2.out.1.size).trans (((Below.refl _ _).alloc (Nat.le_trans G2.out.1.size HB4.out.size) _)))⟩
    · exact ⟨rfl, G2.out.1.trans (((HB4.out.setCell (p := ⟨w2.heap.size, 0, none⟩) (Nat.le_refl _) _).setCell (p := ⟨w2.heap.size, 1, none⟩) (Nat.le_refl _) _).setCell (p := ⟨w2.heap.size, 2, none⟩) (Nat.le_refl _) _ |>.mono G2.out.1.size)⟩
  | ok x j0 =>
    obtain ⟨k, T, ks⟩ := x
    have h := HCR.out
    clear HCR
    rcases ks with _ | ⟨x1, _ | ⟨y1, _ | ⟨z1, zs⟩⟩⟩
    · simp [chR] at h
    · simp [chR] at h
    rotate_left
    · simp [chR] at h
    simp only [chR, Bool.and_eq_true, Bool.not_eq_true'] at h
    obtain ⟨h3, h4⟩ := h
    have HPE : Hid (∀ W, Below w2.heap.size w2 W → Calls Tryz.prog 9 #[.string (⟨#[49, 32]⟩ ++ SA ++ ⟨#[32, 50, 32]⟩ ++ SB ++ ⟨#[32, 51]⟩)] W fun e w' => ∃ q cap, e = .returned (.tuple #[.agg #[.int .i64 (k : Int), .string T, .slice (some ⟨q, 0, none⟩) 2 cap], .int .i64 0, .int .i64 0]) ∧ (w'.cell? ⟨q, 1, none⟩ = some (.string (txN x1)) ∧ w'.cell? ⟨q, 4, none⟩ = some (.string (txN y1))) ∧ Below w2.heap.size w2 w' ∧ Below W.heap.size W w' ∧ W.heap.size ≤ q) := Lib.hid (fun W hW => (HP.out W hW).mono fun e w' h => by
      obtain ⟨q, cap, e1, e2, e3, e4⟩ := ResPs_two h
      exact ⟨q, cap, e1, e2, hW.trans (e3.mono hW.size), e3, e4⟩)
    have HPB : Hid (Calls Tryz.prog 9 #[.string (⟨#[49, 32]⟩ ++ SA ++ ⟨#[32, 50, 32]⟩ ++ SB ++ ⟨#[32, 51]⟩)] (w2.alloc (.cells #[.int .i64 0, .string ⟨#[]⟩, .slice none 0 0] 24)).drew fun e w' => ∃ q cap, e = .returned (.tuple #[.agg #[.int .i64 (k : Int), .string T, .slice (some ⟨q, 0, none⟩) 2 cap], .int .i64 0, .int .i64 0]) ∧ (w'.cell? ⟨q, 1, none⟩ = some (.string (txN x1)) ∧ w'.cell? ⟨q, 4, none⟩ = some (.string (txN y1)) ∧ w2.heap.size ≠ q) ∧ Below w2.heap.size w2 w' ∧ w'.cell? ⟨w2.heap.size, 0, none⟩ = some (.int .i64 0) ∧ w'.cell? ⟨w2.heap.size, 1, none⟩ = some (.string ⟨#[]⟩) ∧ w'.cell? ⟨w2.heap.size, 2, none⟩ = some (.slice none 0 0) ∧ ∀ j, w'.frozen? ⟨w2.heap.size, j, none⟩ = false) := Lib.hid (by
      obtain ⟨W, hW⟩ : ∃ W, (w2.alloc (.cells #[.int .i64 0, .string ⟨#[]⟩, .slice none 0 0] 24)).drew = W := ⟨_, rfl⟩
      have hb1 : Below w2.heap.size w2 W := by rw [← hW]; exact ((Below.refl _ _).alloc (Nat.le_refl _) _).drew
      have hsz : w2.heap.size < W.heap.size := by rw [← hW]; simp
      have c0 : W.cell? ⟨w2.heap.size, 0, none⟩ = some (.int .i64 0) := by rw [← hW]; exact cell_new (W := w2) rfl
      have c1 : W.cell? ⟨w2.heap.size, 1, none⟩ = some (.string ⟨#[]⟩) := by rw [← hW]; exact cell_new (W := w2) rfl
      have c2 : W.cell? ⟨w2.heap.size, 2, none⟩ = some (.slice none 0 0) := by rw [← hW]; exact cell_new (W := w2) rfl
      have cf : ∀ j, W.frozen? ⟨w2.heap.size, j, none⟩ = false := fun j => by rw [← hW]; exact frz_new (W := w2) rfl
      rw [hW]
      refine (HPE.out W hb1).mono fun e w' h => ?_
      obtain ⟨q, cap, e1, ⟨e2, e3⟩, e4, e5, e6⟩ := h
      have k0 := (e5.cell (p := ⟨w2.heap.size, 1, none⟩) hsz).trans c1
      have k2 := (e5.cell (p := ⟨w2.heap.size, 2, none⟩) hsz).trans c2
      refine ⟨q, cap, e1, ⟨e2, e3, by omega⟩, e4, (e5.cell (p := ⟨w2.heap.size, 0, none⟩) hsz).trans c0, k0, k2, fun j => (e5.frozen (p := ⟨w2.heap.size, j, none⟩) hsz).trans (cf j)⟩)
    clear HP
    have b1 : ¬ (9223372036854775807 < 2 + SA.size) := by omega
    have b2 : ¬ (9223372036854775807 < 2 + SA.size + 3) := by omega
    have b3 : ¬ (9223372036854775807 < 2 + SA.size + 3 + SB.size) := by omega
    have b4 : ¬ (9223372036854775807 < 2 + SA.size + 3 + SB.size + 2) := by omega
    have n1 : ¬ sb = w2.heap.size := by have := lt_of_cell s0; simp only at this; omega
    have n2 : ¬ w2.heap.size = sb := fun e => n1 e.symm
    have H3 := Lib.hid h3; have H4 := Lib.hid h4
    clear h3 h4
    go_cut [10, 11, 12] (fun s10 s11 s12 wx => ∃ nb, s10 = .pointer (some ⟨nb, 0, none⟩) ∧ s11 = .int .i64 0 ∧ s12 = .int .i64 0 ∧ Hid (SgnF w2 nb k T (txN x1) (txN y1) wx))
    case first =>
      go_region_held3 (fun w' => w'.cell? ⟨sb, a, none⟩ = some (.string SA) ∧ w'.cell? ⟨sb, b, none⟩ = some (.string SB)) (first | go_keep | exact ⟨s0, s1⟩ | exact ⟨z0, z1⟩)
        ((first
          | (go_at_call 9; refine (HPE.out w2.drew (Below.refl _ _).drew).mono ?_; rintro e w4 ⟨q, cap, rfl, ⟨t0, t1⟩, hb, _, _⟩; have z0 := (hb.cell (lt_of_cell s0)).trans s0; have z1 := (hb.cell (lt_of_cell s1)).trans s1; have HB4 := Lib.hid hb; clear hb)
          | (go_at_call 9; refine HPB.out.mono ?_; rintro e w4 ⟨q, cap, rfl, ⟨t0, t1, tq⟩, hb, y0, y1, y2, yf⟩; have z0 := (hb.cell (lt_of_cell s0)).trans s0; have z1 := (hb.cell (lt_of_cell s1)).trans s1; have HB4 := Lib.hid hb; clear hb)))
      · go_wp2
        go_meet
        have hbe : Below w4.heap.size w4 (w4.alloc (.cells #[.int .i64 (k : Int), .string T, .slice (some ⟨q, 0, none⟩) 2 cap] 24)) := (Below.refl _ _).alloc (Nat.le_refl _) _
        exact ⟨_, rfl, rfl, rfl, Lib.hid ⟨q, cap, cell_new (W := w4) rfl, cell_new (W := w4) rfl, cell_new (W := w4) rfl, (hbe.cell (lt_of_cell t0)).trans t0, (hbe.cell (lt_of_cell t1)).trans t1, HB4.out.trans (hbe.mono HB4.out.size)⟩⟩
      · go_wp2
        go_meet
        have tq' : ¬ q = w2.heap.size := fun e => tq e.symm
        exact ⟨_, rfl, rfl, rfl, Lib.hid ⟨q, cap, by simp [go_sem, y0, y1, y2, yf], by simp [go_sem, y0, y1, y2, yf], by simp [go_sem, y0, y1, y2, yf], by simp [go_sem, t0, tq, tq'], by simp [go_sem, t1, tq, tq'], ((HB4.out.setCell (p := ⟨w2.heap.size, 0, none⟩) (Nat.le_refl _) _).setCell (p := ⟨w2.heap.size, 1, none⟩) (Nat.le_refl _) _).setCell (p := ⟨w2.heap.size, 2, none⟩) (Nat.le_refl _) _⟩⟩
    case rest =>
      obtain ⟨nb, rfl, rfl, rfl, HF⟩ := hcut
      obtain ⟨q, cap, f0, f1, f2, f3, f4, fb⟩ := HF.out
      have g0 := (fb.cell (lt_of_cell s0)).trans s0
      have g1 := (fb.cell (lt_of_cell s1)).trans s1
      have p0 := (fb.cell (lt_of_cell (HST.out a HA.out))).trans (HST.out a HA.out)
      have p1 := (fb.cell (lt_of_cell (HST.out b HB.out))).trans (HST.out b HB.out)
      have HFB := Lib.hid fb
      clear fb s0 s1 HF HPE HPB b1 b2 b3 b4 n1 n2 zA zB f0
      go_upto_region 7 with (fail)
      go_cut [49] (fun s49 wx => s49 = .bool false ∧ wc = wx)
      case first =>
        have h3 := H3.out
        clear f1 f2 f3 f4 g0 g1 p0 p1
        by_cases ha3 : a = 3
        · have e1 : ((a : Int) == 3) = true := by rw [beq_iff_eq]; omega
          have hb3 : b ≠ 3 := by intro e; rw [ha3, e] at h3; simp at h3
          have e2 : ((b : Int) == 3) = false := by rw [beq_eq_false_iff_ne]; omega
          clear ha3 hb3 h3
          go_wp2
          go_meet
          exact ⟨rfl, rfl⟩
        · have e1 : ((a : Int) == 3) = false := by rw [beq_eq_false_iff_ne]; omega
          clear ha3 h3
          go_wp2
          go_meet
          exact ⟨rfl, rfl⟩
      case rest =>
        obtain ⟨rfl, rfl⟩ := hcut
        go_upto_region 11 with (fail)
        go_cut [13] (fun s13 wx => s13 = .bool (lft a b) ∧ ∃ n, wx = wc.drewN n)
        case first =>
          clear f1 f2 f3 f4 g0 g1
          have q0 := p0
          have q1 := p1
          have hl : lft a b = (decide (stA b < stA a) || (decide (stA a = stA b) && decide (a ≠ 0))) := rfl
          have HL := Lib.hid hl
          clear hl
          generalize stA a = sa at *
          generalize stA b = sc at *
          by_cases c1 : sc < sa
          · have d1 : (sc : Int) < (sa : Int) := by omega
            have d2 : decide ((sc : Int) < (sa : Int)) = true := decide_eq_true d1
            have d5 : decide (sc < sa) = true := decide_eq_true c1
            have HC := Lib.hid c1
            clear c1 d1
            go_big_quiet (fail)
            go_wp2
            go_meet
            exact ⟨by rw [HL.out]; simp [HC.out], _, rfl⟩
          · have d1 : ¬ (sc : Int) < (sa : Int) := by omega
            have d2 : decide ((sc : Int) < (sa : Int)) = false := decide_eq_false d1
            by_cases c2 : sa = sc
            · subst c2
              have d3 : ((sa : Int) == (sa : Int)) = true := by simp
              by_cases c3 : a = 0
              · have d4 : ((a : Int) != 0) = false := by rw [bne_eq_false_iff_eq]; omega
                have HC := Lib.hid c3
                clear c1 d1 c3
                go_big_quiet (fail)
                go_wp2
                go_meet
                exact ⟨by rw [HL.out]; simp [HC.out], _, rfl⟩
              · have d4 : ((a : Int) != 0) = true := by rw [bne_iff_ne]; omega
                have HC := Lib.hid c3
                clear c1 d1 c3
                go_big_quiet (fail)
                go_wp2
                go_meet
                exact ⟨by rw [HL.out]; simp [HC.out], _, rfl⟩
            · have d3 : ((sa : Int) == (sc : Int)) = false := by rw [beq_eq_false_iff_ne]; omega
              have d5 : (sa == sc) = false := by rw [beq_eq_false_iff_ne]; omega
              have d6 : decide (sa = sc) = false := decide_eq_false c2
              have d7 : decide (sc < sa) = false := decide_eq_false c1
              have d8 : decide ((sa : Int) = (sc : Int)) = false := decide_eq_false (by omega)
              have HC := Lib.hid c1; have HC2 := Lib.hid c2
              clear c1 d1 c2
              go_big_quiet (fail)
              go_wp2
              go_meet
              exact ⟨by rw [HL.out]; simp [HC.out, HC2.out], _, rfl⟩
        case rest =>
          obtain ⟨rfl, n, hwc⟩ := hcut
          have h4 := H4.out
          cases hl : lft a b with
          | true =>
            rw [hl] at h4
            simp only [if_true, Bool.and_eq_true] at h4
            have t1 := seq_to h4.1.1; have t2 := seq_to h4.1.2; have t3 := seq_to h4.2
            rw [HSB.out] at t1; rw [HSA.out] at t2
            rw [t1] at f1; rw [t2] at f3; rw [t3] at f4
            clear t1 t2 t3 h4 hl p0 p1
            subst hwc
            go_wp2_with fail
            go_big_quiet (fail)
            go_wp2
            go_ret
            exact ⟨rfl, G2.out.1.trans ((bdN (bdN HFB.out n) _).mono G2.out.1.size)⟩
          | false =>
            rw [hl] at h4
            simp only [Bool.false_eq_true, if_false, Bool.and_eq_true] at h4
            have t1 := seq_to h4.1.1; have t2 := seq_to h4.1.2; have t3 := seq_to h4.2
            rw [HSA.out] at t1; rw [HSB.out] at t2
            rw [t1] at f1; rw [t2] at f4; rw [t3] at f3
            clear t1 t2 t3 h4 hl p0 p1
            subst hwc
            go_wp2_with fail
            go_big_quiet (fail)
            go_wp2
            go_ret
            exact ⟨rfl, G2.out.1.trans ((bdN (bdN HFB.out n) _).mono G2.out.1.size)⟩
theorem syntaxSigns_row {x y : Int} (w : World) (ht : Sh w ∧ Sg w ∧ TBs w) (hx : (Lit.int .u8 x).wf = true) (hy : (Lit.int .u8 y).wf = true) : Calls Tryz.prog 6 #[.int .u8 x, .int .u8 y] w fun r w' => r = .returned (.bool true) ∧ Below w.heap.size w w' := by
  have k0 : IntKind.min .u8 = 0 := rfl
  have k1 : IntKind.max .u8 = 255 := rfl
  have b1 : 0 ≤ x ∧ x < 256 := by simp only [Lit.wf, k0, k1, Bool.and_eq_true, decide_eq_true_eq] at hx; omega
  have b2 : 0 ≤ y ∧ y < 256 := by simp only [Lit.wf, k0, k1, Bool.and_eq_true, decide_eq_true_eq] at hy; omega
  obtain ⟨i, rfl⟩ := Int.eq_ofNat_of_zero_le b1.1
  obtain ⟨j, rfl⟩ := Int.eq_ofNat_of_zero_le b2.1
  exact syntaxSigns_walk w ht (by omega) (by omega)
end Go.Proofs.YtpgiljibicigeaaGreatDoor
