/- Walk of the document's Of. -/
import Derived.Test.YtofeckdhhaoobaaDoorDecO
namespace Go.Proofs.YtofeckdhhaoobaaDoor
open Go.RowKit LM

theorem pl_dl {s : Bool} {v : Nat} (h : v < 18446744073709551616) : (dg 10 (pl s v 0).m).length ≤ 1000000 := by
  have := pl_len (s := s) (v := v) (e := 0)
  have := dg10_u64 h
  omega

set_option maxHeartbeats 4000000 in
set_option maxRecDepth 20000 in
theorem ROf_any (n : Int) (w : World) (h1 : -9223372036854775808 ≤ n) (h2 : n ≤ 9223372036854775807) :
    Calls Tryd.prog 19 #[.int .i64 n] w (ResV (pl (decide (n < 0)) n.natAbs 0) w) := by
  obtain ⟨v, hv⟩ : ∃ v, v = n.natAbs := ⟨_, rfl⟩
  rw [← hv]
  have hv64 : v < 18446744073709551616 := by omega
  have hd10 := dg10_u64 hv64
  have hM := fun s a c W hr => Make_any s a c v 0 W (by omega) (by omega) (by omega) hr
  have hT := fun s a c W hr => ToD_any (pl s v 0) a c W (pl_dl hv64) hr
  have HM := Lib.hid hM
  have HT := Lib.hid hT
  by_cases hn : n < 0
  · have hd : decide (n < 0) = true := decide_eq_true hn
    rw [hd]
    have hx : n = -(v : Int) := by omega
    have hv0 : 0 < v := by omega
    have hS := fun W => Small_any (v / 10) W (by omega)
    have hdg : v % 10 :: dg 10 (v / 10) = dg 10 v := (dg_pos (by omega) hv0).symm
    have hln : 1 + (dg 10 (v / 10)).length = (dg 10 v).length := by rw [← hdg, List.length_cons, Nat.add_comm]
    have hb1 : (([v % 10] : List Nat).length + (dg 10 (v / 10)).length) * 1 ≤ 140737488355328 := by simp; omega
    have hb2 : ([v % 10] : List Nat).length + (dg 10 (v / 10)).length ≤ maxLen := by unfold maxLen; simp; omega
    have HS := Lib.hid hS; have HDG := Lib.hid hdg; have HLN := Lib.hid hln; have HB1 := Lib.hid hb1; have HB2 := Lib.hid hb2
    subst hx
    have q1 : (-(v : Int)).tdiv 10 = -((v / 10 : Nat) : Int) := by rw [Int.neg_tdiv]; rfl
    have q2 : (-(v : Int)).tmod 10 = -((v % 10 : Nat) : Int) := by rw [Int.neg_tmod]; rfl
    have hm10 : v % 10 < 10 := Nat.mod_lt _ (by decide)
    have hdd : v / 10 ≤ 922337203685477580 := by omega
    generalize v / 10 = d at *
    generalize v % 10 = z at *
    clear hT hM hS hd hd10 hv hdg hln hb1 hb2
    go_enter Tryd.func19, Tryd.ntmps19
    go_wp2_with fail
    refine (HS.out _).mono ?_
    rintro r w1 ⟨a1, c1, rfl, ho1, hb1⟩
    have b1 := ((Below.refl w.heap.size w).alloc (Nat.le_refl _) (.cells #[.bool false, .slice none 0 0, .int .i64 0] 24)).trans (hb1.mono (by simp))
    have k0 : w1.cell? ⟨w.heap.size, 0, none⟩ = some (.bool false) := by rw [hb1.cell (by simp)]; simp
    have k1 : w1.cell? ⟨w.heap.size, 1, none⟩ = some (.slice none 0 0) := by rw [hb1.cell (by simp)]; simp
    have k2 : w1.cell? ⟨w.heap.size, 2, none⟩ = some (.int .i64 0) := by rw [hb1.cell (by simp)]; simp
    have kf : ∀ j, w1.frozen? ⟨w.heap.size, j, none⟩ = false := fun j => by rw [hb1.frozen (by simp)]; simp
    clear hb1
    have hnn := fun h => ho1.none_nil h
    have hrr := ho1.rd
    have HNN := Lib.hid hnn; have HRR := Lib.hid hrr
    clear hnn hrr
    have hsz1 : w.heap.size < w1.heap.size := lt_of_cell k0
    go_wp2_with (at_builtin; refine wp_cat _ rfl _ _ 54 rfl (w.heap.size + 1) 5 .u8 1 Tryd.underlying54 infoU8 _ a1 1 c1 1 _ [z] (dg 10 d) rfl rfl rfl rfl ((ownLit1 w1 _ _ z rfl).mono hsz1) (HRR.out.alloc _) HNN.out HB1.out HB2.out (by simp; omega) ?_)
    intro a2 c2 w2 hown2 hb2 _
    have hA := (Below.refl (w.heap.size + 1) w1).alloc hsz1 (.cells #[.int .u8 (z : Int)] 5)
    have hb3 := hA.trans hb2
    have b2 := b1.trans (hb3.mono (Nat.le_succ _))
    have HRC := Lib.hid (RdC.ofOwn (show Own w2 (w.heap.size + 1) 5 .u8 a2 c2 (dg 10 v) by rw [← HDG.out]; exact hown2))
    have i0 : w2.cell? ⟨w.heap.size, 0, none⟩ = some (.bool false) := by rw [hb3.cell (p := ⟨w.heap.size, 0, none⟩) (Nat.lt_succ_self _)]; exact k0
    have i1 : w2.cell? ⟨w.heap.size, 1, none⟩ = some (.slice none 0 0) := by rw [hb3.cell (p := ⟨w.heap.size, 1, none⟩) (Nat.lt_succ_self _)]; exact k1
    have i2 : w2.cell? ⟨w.heap.size, 2, none⟩ = some (.int .i64 0) := by rw [hb3.cell (p := ⟨w.heap.size, 2, none⟩) (Nat.lt_succ_self _)]; exact k2
    have jf : ∀ j, w2.frozen? ⟨w.heap.size, j, none⟩ = false := fun j => by rw [hb3.frozen (p := ⟨w.heap.size, j, none⟩) (Nat.lt_succ_self _)]; exact kf j
    clear k0 k1 k2 kf hA hb3 hb2 hown2 b1 HRR HNN ho1
    have k0 := i0
    have k1 := i1
    have k2 := i2
    have kf := jf
    clear i0 i1 i2 jf
    go_wp2_with fail
    rw [HLN.out]
    refine (HM.out true _ _ _ HRC.out).mono ?_
    rintro r w3 ⟨a3, c3, rfl, hr3, hb3⟩
    have b3 := b2.trans (hb3.mono b2.size)
    have hs3 := lt_of_cell k0
    have u0 := cellB k0 hb3
    have u1 := cellB k1 hb3
    have u2 := cellB k2 hb3
    have uf : ∀ j, w3.frozen? ⟨w.heap.size, j, none⟩ = false := fun j => by rw [hb3.frozen (p := ⟨w.heap.size, j, none⟩) hs3]; exact kf j
    clear k0 k1 k2 kf hb3
    go_wp2_with fail
    refine (HT.out true a3 c3 _ hr3).mono ?_
    rintro r w4 ⟨a4, c4, rfl, ho4, hb4⟩
    have b4 := b3.trans (hb4.mono b3.size)
    have ap := ho4.apart (lt_of_cell u0)
    have hown := ho4.mono b3.size
    have hs4 := lt_of_cell u0
    have k0 := cellB u0 hb4
    have k1 := cellB u1 hb4
    have k2 := cellB u2 hb4
    have kf : ∀ j, w4.frozen? ⟨w.heap.size, j, none⟩ = false := fun j => by rw [hb4.frozen (p := ⟨w.heap.size, j, none⟩) hs4]; exact uf j
    clear u0 u1 u2 uf hb4 ho4 hr3
    go_wp2
    refine bodyPost_ret (v := .agg #[.bool (pl true v 0).neg, .slice a4 (dg 1000000000 (pl true v 0).m).length c4, .int .i64 (pl true v 0).e]) (by simp [results, Tryd.results19, go_sem, k0, k1, k2]) rfl ?_
    exact ⟨a4, c4, rfl, ((hown.setFar ap _ _).setFar ap _ _).setFar ap _ _, ((b4.setCell (Nat.le_refl _) _).setCell (Nat.le_refl _) _).setCell (Nat.le_refl _) _⟩
  · have hd : decide (n < 0) = false := decide_eq_false hn
    rw [hd]
    have hx : n = (v : Int) := by omega
    have hS := fun W => Small_any v W (by omega)
    have HS := Lib.hid hS
    subst hx
    clear hT hM hS hd hd10 hv
    go_enter Tryd.func19, Tryd.ntmps19
    go_wp2_with fail
    refine (HS.out _).mono ?_
    rintro r w1 ⟨a1, c1, rfl, ho1, hb1⟩
    have b1 := ((Below.refl w.heap.size w).alloc (Nat.le_refl _) (.cells #[.bool false, .slice none 0 0, .int .i64 0] 24)).trans (hb1.mono (by simp))
    have k0 : w1.cell? ⟨w.heap.size, 0, none⟩ = some (.bool false) := by rw [hb1.cell (by simp)]; simp
    have k1 : w1.cell? ⟨w.heap.size, 1, none⟩ = some (.slice none 0 0) := by rw [hb1.cell (by simp)]; simp
    have k2 : w1.cell? ⟨w.heap.size, 2, none⟩ = some (.int .i64 0) := by rw [hb1.cell (by simp)]; simp
    have kf : ∀ j, w1.frozen? ⟨w.heap.size, j, none⟩ = false := fun j => by rw [hb1.frozen (by simp)]; simp
    clear hb1
    have HRC := Lib.hid (RdC.ofOwn ho1)
    clear ho1
    go_wp2_with fail
    refine (HM.out false _ _ _ HRC.out).mono ?_
    rintro r w3 ⟨a3, c3, rfl, hr3, hb3⟩
    have b3 := b1.trans (hb3.mono b1.size)
    have u0 := cellB k0 hb3
    have u1 := cellB k1 hb3
    have u2 := cellB k2 hb3
    have hs3 := lt_of_cell k0
    have uf : ∀ j, w3.frozen? ⟨w.heap.size, j, none⟩ = false := fun j => by rw [hb3.frozen (p := ⟨w.heap.size, j, none⟩) hs3]; exact kf j
    clear k0 k1 k2 kf hb3
    go_wp2_with fail
    refine (HT.out false a3 c3 _ hr3).mono ?_
    rintro r w4 ⟨a4, c4, rfl, ho4, hb4⟩
    have b4 := b3.trans (hb4.mono b3.size)
    have ap := ho4.apart (lt_of_cell u0)
    have hown := ho4.mono b3.size
    have k0 := cellB u0 hb4
    have k1 := cellB u1 hb4
    have k2 := cellB u2 hb4
    have hs4 := lt_of_cell u0
    have kf : ∀ j, w4.frozen? ⟨w.heap.size, j, none⟩ = false := fun j => by rw [hb4.frozen (p := ⟨w.heap.size, j, none⟩) hs4]; exact uf j
    clear u0 u1 u2 uf hb4 ho4 hr3
    go_wp2
    refine bodyPost_ret (v := .agg #[.bool (pl false v 0).neg, .slice a4 (dg 1000000000 (pl false v 0).m).length c4, .int .i64 (pl false v 0).e]) (by simp [results, Tryd.results19, go_sem, k0, k1, k2]) rfl ?_
    exact ⟨a4, c4, rfl, ((hown.setFar ap _ _).setFar ap _ _).setFar ap _ _, ((b4.setCell (Nat.le_refl _) _).setCell (Nat.le_refl _) _).setCell (Nat.le_refl _) _⟩
end Go.Proofs.YtofeckdhhaoobaaDoor
