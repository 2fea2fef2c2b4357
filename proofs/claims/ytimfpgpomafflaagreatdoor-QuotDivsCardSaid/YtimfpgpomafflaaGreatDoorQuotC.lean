/- quot: plain numbers rounded. -/
import Derived.Test.YtimfpgpomafflaaGreatDoorQuotB
namespace Go.Proofs.YtimfpgpomafflaaGreatDoor
open Go.RowKit LM

theorem pow_few9 {k : Nat} (hk : k ≤ 30000) : (dg 1000000000 (10 ^ k)).length ≤ 30001 := by
  have h1 : dl (10 ^ k) ≤ k + 1 := dl_lt (by rw [Nat.pow_succ]; have := Nat.pow_pos (n := k) (show 0 < 10 by omega); omega)
  have h2 := dg_len_9 (10 ^ k)
  unfold dl at h1
  omega
theorem few9_lt {u v : Nat} (h : u < v) (hv : (dg 1000000000 v).length ≤ 40000) : (dg 1000000000 u).length ≤ 40000 := by
  rcases Nat.eq_zero_or_pos u with h0 | h0
  · rw [h0, dg_zero]; exact Nat.zero_le _
  · have h1 := dg_lower (b := 1000000000) (by omega) u h0
    have h2 := dg_upper (b := 1000000000) (by omega) v
    have h3 := (Nat.pow_lt_pow_iff_right (by omega : 1 < 1000000000)).1 (Nat.lt_of_le_of_lt h1 (Nat.lt_trans h h2))
    omega
theorem few9_dbl {u : Nat} (hu : (dg 1000000000 u).length ≤ 50000) : (dg 1000000000 (u + u)).length ≤ 100000 := by
  rcases Nat.eq_zero_or_pos u with h0 | h0
  · rw [h0, dg_zero]; exact Nat.zero_le _
  · have h1 := dg_lower (b := 1000000000) (by omega) (u + u) (by omega)
    have h2 := dg_upper (b := 1000000000) (by omega) u
    have h4 : u + u < 1000000000 ^ ((dg 1000000000 u).length + 1) := by rw [Nat.pow_succ]; omega
    have h3 := (Nat.pow_lt_pow_iff_right (by omega : 1 < 1000000000)).1 (Nat.lt_of_le_of_lt h1 h4)
    omega
theorem few9_dbl' {u : Nat} (hu : (dg 1000000000 u).length ≤ 30000) : (dg 1000000000 (u + 1)).length ≤ 30001 := by
  have h1 := dg_lower (b := 1000000000) (by omega) (u + 1) (by omega)
  have h2 := dg_upper (b := 1000000000) (by omega) u
  have h4 : u + 1 < 1000000000 ^ ((dg 1000000000 u).length + 1) := by rw [Nat.pow_succ]; omega
  have h3 := (Nat.pow_lt_pow_iff_right (by omega : 1 < 1000000000)).1 (Nat.lt_of_le_of_lt h1 h4)
  omega
set_option maxHeartbeats 8000000 in
theorem cutWhole_no (way : Nat) (p : Pl) (he : 0 ≤ p.e) (a : Option Addr) (c : Nat) (w : World) (hr : Rd w .u32 a (dg 1000000000 p.m)) :
    Calls Tryz.prog 41 #[.agg #[.bool p.neg, .slice a (dg 1000000000 p.m).length c, .int .i64 p.e], .int .i64 way] w fun r w' => r = .returned (.agg #[.bool p.neg, .slice a (dg 1000000000 p.m).length c, .int .i64 p.e]) ∧ Below w.heap.size w w' := by
  have hW := fun W => isWhole_any p.neg a (dg 1000000000 p.m).length c p.e W
  rw [show decide (0 ≤ p.e) = true from decide_eq_true he] at hW
  have HW := Lib.hid hW
  clear hW hr he
  generalize (dg 1000000000 p.m).length = n at *
  go_enter Tryz.func41, Tryz.ntmps41
  have b0 := ((Below.refl w.heap.size w).alloc (Nat.le_refl _) (.cells #[.bool p.neg, .slice a n c, .int .i64 p.e] 24)).alloc (by simp) (.cells #[.bool false, .slice none 0 0, .int .i64 0] 24)
  have B0 := Lib.hid b0
  clear b0
  go_wp2_with fail
  refine (HW.out _).mono ?_
  rintro r w2 ⟨rfl, hb⟩
  have k0 : w2.cell? ⟨w.heap.size, 0, none⟩ = some (.bool p.neg) := by rw [hb.cell (by simp; omega)]; simp
  have k1 : w2.cell? ⟨w.heap.size, 1, none⟩ = some (.slice a n c) := by rw [hb.cell (by simp; omega)]; simp
  have k2 : w2.cell? ⟨w.heap.size, 2, none⟩ = some (.int .i64 p.e) := by rw [hb.cell (by simp; omega)]; simp
  have u0 : w2.cell? ⟨w.heap.size + 1, 0, none⟩ = some (.bool false) := by rw [hb.cell (by simp)]; simp
  have u1 : w2.cell? ⟨w.heap.size + 1, 1, none⟩ = some (.slice none 0 0) := by rw [hb.cell (by simp)]; simp
  have u2 : w2.cell? ⟨w.heap.size + 1, 2, none⟩ = some (.int .i64 0) := by rw [hb.cell (by simp)]; simp
  have uf : ∀ j, w2.frozen? ⟨w.heap.size + 1, j, none⟩ = false := fun j => by rw [hb.frozen (by simp)]; simp
  have B2 := Lib.hid (B0.out.trans (hb.mono (by simp; omega)))
  clear hb
  go_wp2
  refine bodyPost_ret (v := .agg #[.bool p.neg, .slice a n c, .int .i64 p.e]) (by simp [results, Tryz.results41, go_sem, u0, u1, u2]) rfl ?_
  exact ⟨rfl, ((B2.out.setCell (by simp) _).setCell (by simp) _).setCell (by simp) _⟩
theorem shiftOne (k : Nat) (g : Nat) (A : Int) (hA : A = (k : Int)) (W : World) (hk : k ≤ 30000) (hc : W.cell? ⟨g, 0, none⟩ = some (.int .u32 1)) :
    Calls Tryz.prog 71 #[.slice (some ⟨g, 0, none⟩) 1 1, .int .i64 A] W fun e w' => ∃ a' c', e = .returned (.tuple #[.slice a' (dg 1000000000 (10 ^ k)).length c', .int .i64 0]) ∧ Rd w' .u32 a' (dg 1000000000 (10 ^ k)) ∧ Below W.heap.size W w' := by
  have h1 : Rd W .u32 (some ⟨g, 0, none⟩) (dg 1000000000 1) := by
    rw [dg_one9]
    intro j hj
    obtain rfl : j = 0 := by simpa using hj
    exact ⟨g, 0, rfl, hc⟩
  have h := shift_int 1 (some ⟨g, 0, none⟩) 1 k hA W hk (by rw [dg_one9]; simp) h1
  rw [dg_one9, Nat.one_mul] at h
  exact h.mono fun e w' ⟨a, c, he, ho, hb⟩ => ⟨a, c, he, ho.rd, hb⟩
/-- what a rounded number's cells are -/
def ResC (q : Pl) (w : World) (r : Ending) (w' : World) : Prop := ∃ a c, r = .returned (.agg #[.bool q.neg, .slice a (dg 1000000000 q.m).length c, .int .i64 q.e]) ∧ Rd w' .u32 a (dg 1000000000 q.m) ∧ Below w.heap.size w w'
theorem norm_whole {s : Bool} {v : Nat} (h : dl v ≤ 400) : normA (dg 1000000000 v).length s (vl 1000000000 (dg 1000000000 v)) 0 = ⟨0, pl s v 0⟩ := by
  have h2 := dg9_few' (m := v) h
  unfold normA
  have hn : nearB (dg 1000000000 v).length 0 = true := decide_eq_true (by omega)
  rw [vl_dg (by omega), if_pos hn, tell_whole h]
theorem allocCell {W : World} {o : Obj} {p : Addr} {v : Value} (h : W.cell? p = some v) : (W.alloc o).cell? p = some v := cellB h ((Below.refl W.heap.size W).alloc (Nat.le_refl _) o)
theorem allocFroz {W : World} {o : Obj} {b j : Nat} {x : Bool} (hb : b < W.heap.size) (h : W.frozen? ⟨b, j, none⟩ = x) : (W.alloc o).frozen? ⟨b, j, none⟩ = x := by rw [((Below.refl W.heap.size W).alloc (Nat.le_refl _) o).frozen (p := ⟨b, j, none⟩) hb]; exact h
set_option maxHeartbeats 8000000 in
set_option maxRecDepth 20000 in
theorem cutWhole_yes (way : Nat) (hw : way ≤ 4) (p : Pl) (hin : inR p = true) (he : p.e < 0) (a : Option Addr) (c : Nat) (w : World) (hr : Rd w .u32 a (dg 1000000000 p.m)) (htab : Tab w) :
    Calls Tryz.prog 41 #[.agg #[.bool p.neg, .slice a (dg 1000000000 p.m).length c, .int .i64 p.e], .int .i64 way] w (ResC (cutP way p) w) := by
  have hW := fun W => isWhole_any p.neg a (dg 1000000000 p.m).length c p.e W
  rw [show decide (0 ≤ p.e) = false from decide_eq_false (by omega)] at hW
  have hbd := inR_bounds hin
  obtain ⟨k, hk⟩ : ∃ k, k = plc p := ⟨_, rfl⟩
  have hke : -p.e = (k : Int) := by rw [hk]; unfold plc; omega
  have hk3 : k ≤ 10400 := by omega
  have hfew := cutV_few (way := way) hin he
  have hcp : cutP way p = pl p.neg (cutV way p) 0 := by unfold cutP; rw [if_neg (by omega)]
  have hcv : cutV way p = rnd way p.neg (p.m / 10 ^ k) (p.m % 10 ^ k) (10 ^ k) := by rw [hk]; rfl
  have hm9 := dg9_few' (m := p.m) hbd.1
  have hd9 := pow_few9 (k := k) (by omega)
  have hpos : 0 < 10 ^ k := Nat.pow_pos (by omega)
  have hr9 := few9_lt (Nat.mod_lt p.m hpos) (by omega)
  have hq9 := few9_lt (u := p.m / 10 ^ k) (v := p.m + 1) (Nat.lt_succ_of_le (Nat.div_le_self _ _)) (Nat.le_trans (few9_dbl' (by omega)) (by omega))
  have hDv := fun b cb W hb rb => divide_any p.m (10 ^ k) a b c cb W (by omega) (by omega) hpos (hr.below' (w' := W) hb (Nat.le_refl _)) rb
  have hRo := fun x1 x2 x3 y1 y2 y3 W g1 g2 g3 => round_any way hw p.neg (p.m / 10 ^ k) (p.m % 10 ^ k) (10 ^ k) x1 x2 x3 y1 y2 y3 W (by omega) (by omega) (few9_dbl (by omega)) (by omega) g1 g2 g3
  rw [← hcv] at hRo
  have hNo := fun x y W hb rx => DNorm_any p.neg x y (dg 1000000000 (cutV way p)) 0 W (by have := dg9_few' (m := cutV way p) hfew; omega) (lo9 _) rx (htab.below hb)
  rw [norm_whole hfew] at hNo
  rw [hcp]
  have hSh := fun g A hA W hc => shiftOne k g A hA W (by omega) hc
  generalize pl p.neg (cutV way p) 0 = q at *
  generalize cutV way p = cv at *
  have HW := Lib.hid hW; have HS := Lib.hid hSh; have HD := Lib.hid hDv; have HR := Lib.hid hRo; have HN := Lib.hid hNo
  clear hk hW hSh hDv hRo hNo hcp hcv hm9 hr9 hq9 hfew hin hbd hr hd9
  generalize (dg 1000000000 p.m).length = n at *
  go_enter Tryz.func41, Tryz.ntmps41
  have b0 := ((Below.refl w.heap.size w).alloc (Nat.le_refl _) (.cells #[.bool p.neg, .slice a n c, .int .i64 p.e] 24)).alloc (by simp) (.cells #[.bool false, .slice none 0 0, .int .i64 0] 24)
  have B0 := Lib.hid b0
  clear b0
  go_wp2_with fail
  refine (HW.out _).mono ?_
  rintro r w2 ⟨rfl, hb⟩
  have k0 : w2.cell? ⟨w.heap.size, 0, none⟩ = some (.bool p.neg) := by rw [hb.cell (by simp; omega)]; simp
  have k1 : w2.cell? ⟨w.heap.size, 1, none⟩ = some (.slice a n c) := by rw [hb.cell (by simp; omega)]; simp
  have k2 : w2.cell? ⟨w.heap.size, 2, none⟩ = some (.int .i64 p.e) := by rw [hb.cell (by simp; omega)]; simp
  have u0 : w2.cell? ⟨w.heap.size + 1, 0, none⟩ = some (.bool false) := by rw [hb.cell (by simp)]; simp
  have u1 : w2.cell? ⟨w.heap.size + 1, 1, none⟩ = some (.slice none 0 0) := by rw [hb.cell (by simp)]; simp
  have u2 : w2.cell? ⟨w.heap.size + 1, 2, none⟩ = some (.int .i64 0) := by rw [hb.cell (by simp)]; simp
  have uf : ∀ j, w2.frozen? ⟨w.heap.size + 1, j, none⟩ = false := fun j => by rw [hb.frozen (by simp)]; simp
  have B2 := Lib.hid (B0.out.trans (hb.mono (by simp; omega)))
  clear hb
  have b3 := B2.out.alloc B2.out.size (.cells #[.int .u32 1] 40)
  have bq := (Below.refl w2.heap.size w2).alloc (Nat.le_refl _) (.cells #[.int .u32 1] 40)
  have k2a : (w2.alloc (.cells #[.int .u32 1] 40)).cell? ⟨w.heap.size, 2, none⟩ = some (.int .i64 p.e) := by rw [bq.cell (lt_of_cell k2)]; exact k2
  have B3 := Lib.hid b3
  clear b3
  go_wp2_with fail
  refine (HS.out _ _ (by omega) _ (by simp)).mono ?_
  rintro r w4 ⟨a4, c4, rfl, r4, hb4⟩
  have j0 := cellB (cellB k0 bq) hb4; have j1 := cellB (cellB k1 bq) hb4; have j2 := cellB k2a hb4
  have v0 := cellB (cellB u0 bq) hb4; have v1 := cellB (cellB u1 bq) hb4; have v2 := cellB (cellB u2 bq) hb4
  have v3 : ∀ j, w4.frozen? ⟨w.heap.size + 1, j, none⟩ = false := fun j => by rw [hb4.frozen (by have := lt_of_cell u0; simp at this ⊢; omega), bq.frozen (by have := lt_of_cell u0; simp at this ⊢; omega)]; exact uf j
  have bb := B3.out.trans (hb4.mono B3.out.size)
  clear hb4 bq k0 k1 k2 k2a u0 u1 u2 uf B2 B3
  go_wp2_with fail
  go_region_held3 (fun w' => w'.cell? ⟨w.heap.size, 0, none⟩ = some (.bool p.neg) ∧ w'.cell? ⟨w.heap.size, 1, none⟩ = some (.slice a n c)) (first | exact ⟨j0, j1⟩ | exact ⟨i0, i1⟩ | exact ⟨g0, g1⟩ | go_keep)
    (first
      | (go_at_call 72; refine (HD.out _ _ _ bb.drew (r4.below' ((Below.refl w4.heap.size w4).drew) (Nat.le_refl _))).mono ?_; rintro e w5 ⟨a1, c1, a2, c2, rfl, q1, q2, hb5⟩; have q3 := r4.below' ((Below.refl w4.heap.size w4).drew.trans (hb5.mono (Nat.le_refl _))) (Nat.le_refl _); have bb5 := bb.drew.trans (hb5.mono bb.size); have i0 : w5.cell? ⟨w.heap.size, 0, none⟩ = some (.bool p.neg) := (by rw [hb5.cell (lt_of_cell j0)]; exact j0); have i1 : w5.cell? ⟨w.heap.size, 1, none⟩ = some (.slice a n c) := (by rw [hb5.cell (lt_of_cell j1)]; exact j1))
      | (go_at_call 73; refine (HR.out _ _ _ _ _ _ _ q1 q2 q3).mono ?_; rintro e w6 ⟨a6, c6, rfl, r6, hb6⟩; have g0 := cellB i0 hb6; have g1 := cellB i1 hb6))
  have o0 : w6.cell? ⟨w.heap.size + 1, 0, none⟩ = some (.bool false) := cellB (by rw [hb5.cell (lt_of_cell v0)]; exact v0) hb6
  have o1 : w6.cell? ⟨w.heap.size + 1, 1, none⟩ = some (.slice none 0 0) := cellB (by rw [hb5.cell (lt_of_cell v1)]; exact v1) hb6
  have o2 : w6.cell? ⟨w.heap.size + 1, 2, none⟩ = some (.int .i64 0) := cellB (by rw [hb5.cell (lt_of_cell v2)]; exact v2) hb6
  have l5 : w.heap.size + 1 < w5.heap.size := by have h1 := hb5.size; have h2 : w4.heap.size ≤ w4.drew.heap.size := Nat.le_refl _; have h3 := lt_of_cell v0; simp at h3; omega
  have l4 : w.heap.size + 1 < w4.drew.heap.size := lt_of_cell v0
  have l6 : w.heap.size + 1 < w6.heap.size := lt_of_cell o0
  have of : ∀ j, w6.frozen? ⟨w.heap.size + 1, j, none⟩ = false := fun j => by rw [hb6.frozen l5, hb5.frozen (p := ⟨w.heap.size + 1, j, none⟩) l4]; exact v3 j
  have B6 := Lib.hid (bb5.trans (hb6.mono bb5.size))
  have R6 := Lib.hid r6
  clear j0 j1 j2 v0 v1 v2 v3 bb bb5 hb5 hb6 i0 i1 q1 q2 q3 r4 r6 l5
  go_wp2_with fail
  refine (HN.out _ _ _ B6.out R6.out).mono ?_
  rintro e w7 ⟨a7, c7, rfl, ho7, hb7⟩
  have p0 := cellB o0 hb7; have p1 := cellB o1 hb7; have p2 := cellB o2 hb7
  have pf : ∀ j, w7.frozen? ⟨w.heap.size + 1, j, none⟩ = false := fun j => by rw [hb7.frozen (p := ⟨w.heap.size + 1, j, none⟩) l6]; exact of j
  have B7 := Lib.hid (B6.out.trans (hb7.mono B6.out.size))
  have R7 := Lib.hid ho7.rd
  clear hb7 ho7 o0 o1 o2 of g0 g1 R6 B6 HW HS HD HR HN
  have l7 : w.heap.size + 1 < w7.heap.size := lt_of_cell p0
  clear htab
  have s0 : (w7.alloc (.cells #[.bool q.neg, .slice a7 (dg 1000000000 q.m).length c7, .int .i64 q.e] 24)).cell? ⟨w.heap.size + 1, 0, none⟩ = some (.bool false) := allocCell p0
  have s1 : ((w7.setCell ⟨w.heap.size + 1, 0, none⟩ (.bool q.neg)).alloc (.cells #[.bool q.neg, .slice a7 (dg 1000000000 q.m).length c7, .int .i64 q.e] 24)).cell? ⟨w.heap.size + 1, 1, none⟩ = some (.slice none 0 0) := allocCell (by simp [go_sem, p1])
  have s2 : (((w7.setCell ⟨w.heap.size + 1, 0, none⟩ (.bool q.neg)).setCell ⟨w.heap.size + 1, 1, none⟩ (.slice a7 (dg 1000000000 q.m).length c7)).alloc (.cells #[.bool q.neg, .slice a7 (dg 1000000000 q.m).length c7, .int .i64 q.e] 24)).cell? ⟨w.heap.size + 1, 2, none⟩ = some (.int .i64 0) := allocCell (by simp [go_sem, p2])
  have sf0 : (w7.alloc (.cells #[.bool q.neg, .slice a7 (dg 1000000000 q.m).length c7, .int .i64 q.e] 24)).frozen? ⟨w.heap.size + 1, 0, none⟩ = false := allocFroz (by simpa using l7) (by simp [go_sem, pf])
  have sf1 : ((w7.setCell ⟨w.heap.size + 1, 0, none⟩ (.bool q.neg)).alloc (.cells #[.bool q.neg, .slice a7 (dg 1000000000 q.m).length c7, .int .i64 q.e] 24)).frozen? ⟨w.heap.size + 1, 1, none⟩ = false := allocFroz (by simpa using l7) (by simp [go_sem, pf])
  have sf2 : (((w7.setCell ⟨w.heap.size + 1, 0, none⟩ (.bool q.neg)).setCell ⟨w.heap.size + 1, 1, none⟩ (.slice a7 (dg 1000000000 q.m).length c7)).alloc (.cells #[.bool q.neg, .slice a7 (dg 1000000000 q.m).length c7, .int .i64 q.e] 24)).frozen? ⟨w.heap.size + 1, 2, none⟩ = false := allocFroz (by simpa using l7) (by simp [go_sem, pf])
  have f0 : ((((w7.setCell ⟨w.heap.size + 1, 0, none⟩ (.bool q.neg)).setCell ⟨w.heap.size + 1, 1, none⟩ (.slice a7 (dg 1000000000 q.m).length c7)).setCell ⟨w.heap.size + 1, 2, none⟩ (.int .i64 q.e)).alloc (.cells #[.bool q.neg, .slice a7 (dg 1000000000 q.m).length c7, .int .i64 q.e] 24)).cell? ⟨w.heap.size + 1, 0, none⟩ = some (.bool q.neg) := allocCell (by simp [go_sem, p0])
  have f1 : ((((w7.setCell ⟨w.heap.size + 1, 0, none⟩ (.bool q.neg)).setCell ⟨w.heap.size + 1, 1, none⟩ (.slice a7 (dg 1000000000 q.m).length c7)).setCell ⟨w.heap.size + 1, 2, none⟩ (.int .i64 q.e)).alloc (.cells #[.bool q.neg, .slice a7 (dg 1000000000 q.m).length c7, .int .i64 q.e] 24)).cell? ⟨w.heap.size + 1, 1, none⟩ = some (.slice a7 (dg 1000000000 q.m).length c7) := allocCell (by simp [go_sem, p1])
  have f2 : ((((w7.setCell ⟨w.heap.size + 1, 0, none⟩ (.bool q.neg)).setCell ⟨w.heap.size + 1, 1, none⟩ (.slice a7 (dg 1000000000 q.m).length c7)).setCell ⟨w.heap.size + 1, 2, none⟩ (.int .i64 q.e)).alloc (.cells #[.bool q.neg, .slice a7 (dg 1000000000 q.m).length c7, .int .i64 q.e] 24)).cell? ⟨w.heap.size + 1, 2, none⟩ = some (.int .i64 q.e) := allocCell (by simp [go_sem, p2])
  have R9 := Lib.hid ((((R7.out.setOther p0 (v := .bool q.neg) (by simp)).setOther (g := w.heap.size + 1) (j := 1) (v := .slice a7 (dg 1000000000 q.m).length c7) (v0 := .slice none 0 0) (by simp [go_sem, p1]) (by simp)).setOther (g := w.heap.size + 1) (j := 2) (v := .int .i64 q.e) (v0 := .int .i64 0) (by simp [go_sem, p2]) (by simp)).below ((Below.refl _ _).alloc (Nat.le_refl _) (.cells #[.bool q.neg, .slice a7 (dg 1000000000 q.m).length c7, .int .i64 q.e] 24)))
  have B9 := Lib.hid ((((B7.out.setCell (p := ⟨w.heap.size + 1, 0, none⟩) (by simp) (.bool q.neg)).setCell (p := ⟨w.heap.size + 1, 1, none⟩) (by simp) (.slice a7 (dg 1000000000 q.m).length c7)).setCell (p := ⟨w.heap.size + 1, 2, none⟩) (by simp) (.int .i64 q.e)).alloc (by simpa using B7.out.size) (.cells #[.bool q.neg, .slice a7 (dg 1000000000 q.m).length c7, .int .i64 q.e] 24))
  go_wp2
  refine bodyPost_ret (v := .agg #[.bool q.neg, .slice a7 (dg 1000000000 q.m).length c7, .int .i64 q.e]) (by simp [results, Tryz.results41, go_sem, f0, f1, f2]) rfl ?_
  exact ⟨a7, c7, rfl, R9.out, B9.out⟩
end Go.Proofs.YtimfpgpomafflaaGreatDoor
