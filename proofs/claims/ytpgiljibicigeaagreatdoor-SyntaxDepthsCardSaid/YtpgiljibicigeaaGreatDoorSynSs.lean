/- syntax: climb walked. -/
import Derived.Test.YtpgiljibicigeaaGreatDoorSynQs
import Derived.Deep.RegionHeld3
set_option linter.unusedVariables false
set_option linter.unusedSimpArgs false
namespace Go.Proofs.YtpgiljibicigeaaGreatDoor
open Go.RowKit SX

theorem twoS_mem {v : Ev} {i : Nat} {r : ByteArray × Nat × Nat × Nat} (h : twoS v i = some r) : r ∈ sgs := List.mem_of_find?_eq_some h
theorem sgs_le : ∀ r ∈ sgs, r.2.1 ≤ 8 ∧ r.2.2.1 ≤ 8 ∧ r.2.2.2 ≤ 8 := by decide
/-- a goal shown, another left in its place (a region's arm that ends in a panic) -/
theorem byPanic {C D : Prop} (h : C) (_ : D) : C := h
set_option maxRecDepth 100000 in
set_option maxHeartbeats 16000000 in
theorem syClimb {v : Ev} {g n : Nat} {K : Kn} (hA : Hid (EvA v)) (hK : Hid (HKs v g K n)) (hI : Hid (IvK v K)) (least : Nat) {i : Nat} (hn : v.L.length - i < n + 1)
    (w : World) (pp l : Nat) (hgl : g ≤ l) (hlw : l < w.heap.size) (h : PB v w g i pp) :
    Calls Tryz.prog 42 #[ptr g, .int .i64 (least : Int)] w (Out v g pp w (climbF v K least pp i) (VN l)) := by
  have HLE := Lib.hid hA.out.k.len
  have HL : Hid (g ≤ l ∧ l < w.heap.size) := Lib.hid ⟨hgl, hlw⟩
  have HJ0 := Lib.hid hn
  have hc := syNegated hA hK hI hn w pp l hgl hlw h
  have hi := negF_iv hA.out.q hI.out pp h.il
  obtain ⟨R1, hR1⟩ : ∃ R, negF v K pp i = R := ⟨_, rfl⟩
  obtain ⟨R, hR⟩ : ∃ R, climbF v K least pp i = R := ⟨_, rfl⟩
  rw [hR]
  have hR' := hR
  unfold climbF at hR'
  rw [hR1] at hi hR'
  have hc2 : Calls Tryz.prog 63 #[ptr g] w (Out v g pp w R1 (VN l)) := by rw [← hR1]; exact hc
  have HC := Lib.hid hc2; have HI := Lib.hid hi; have HR := Lib.hid hR'
  clear hc hc2 hi hR1 hR hR' h hgl hlw hn
  go_enter Tryz.func42, Tryz.ntmps42
  go_wp2_with fail
  refine HC.out.mono ?_
  intro e w1 ho
  clear HC
  rcases out_cases ho with ⟨x, j, u, rfl, rfl, hv, hp, hb⟩ | ⟨a, er, rfl, rfl, hb⟩
  · obtain ⟨b, rfl, hx⟩ := hv
    have ht : P1 v 0 i x j := HI.out
    have HP1 := Lib.hid hp; have HG1 := Lib.hid hb; have HX1 := Lib.hid hx
    have HRL : Hid (climbL v K least pp (v.L.length + 1) x 8 j = R) := Lib.hid HR.out
    have HD : Hid (i < j ∧ dpt x + 4 * i ≤ 4 * j) := Lib.hid ⟨ht.1, ht.2.2.1⟩
    clear ho hp hb hx ht HI HR
    go_wp2_with fail
    go_loopg [5, 6] (v.L.length + 1) (fun gk s5 s6 wr => ∃ (m : Nd) (bm k st : Nat), v.L.length < k + gk ∧ s5 = ptr bm ∧ s6 = .int .i64 (st : Int) ∧ Hid (PR wr l m bm) ∧ Hid (PB v wr g k pp) ∧ Hid (w.grownBy wr (some g)) ∧ Hid (climbL v K least pp gk m st k = R) ∧ Hid (i < k ∧ dpt m + 4 * i ≤ 4 * k))
    case atStart => exact ⟨x, b, j, 8, by omega, rfl, rfl, HX1, HP1, HG1, HRL, HD⟩
    case round =>
      obtain ⟨m, bm, k, st, hk, rfl, rfl, HXM, HP0, HG0, HRL, HD⟩ := hrel
      obtain ⟨f, rfl⟩ : ∃ f, gk = f + 1 := ⟨gk - 1, by have := HP0.out.il; omega⟩
      have HAL : Hid (k ≤ v.L.length ∧ v.L.length < k + (f + 1)) := Lib.hid ⟨HP0.out.il, hk⟩
      have HDM : Hid (dpt m ≤ 500000) := Lib.hid (by have := HD.out.2; have := HP0.out.il; have := HLE.out; omega)
      have hrl := HRL.out
      rw [climbL] at hrl
      have hq := syTwo hA.out.k HP0.out
      clear hk
      cases ht : twoS v k with
      | none =>
        rw [ht] at hrl hq
        have HRR : Hid (Rs.ok m k = R) := Lib.hid hrl
        have HQ := Lib.hid hq
        clear hrl hq ht HRL
        go_wp2_with fail
        refine HQ.out.mono ?_
        rintro e w2 ⟨rfl, hb⟩
        unfold rowO
        have hb2 : ∀ o, Below wr.heap.size wr (w2.alloc o) := fun o => hb.alloc hb.size o
        have HF : Hid (∀ o, Out v g pp w R (VN l) (.returned (ptr bm)) (w2.alloc o)) := Lib.hid (fun o => by
          rw [← HRR.out]
          exact ⟨_, rfl, ⟨bm, rfl, HXM.out.bel (hb2 o)⟩, HP0.out.below (hb2 o), gb_trans HG0.out (gbOfB (hb2 o))⟩)
        clear hb hb2 HQ HXM HP0 HG0
        go_wp2
        go_ret
        exact HF.out _
      | some r =>
        rw [ht] at hrl hq
        have hlt := twoS_lt ht
        obtain ⟨l1, l2, l3⟩ := sgs_le r (twoS_mem ht)
        obtain ⟨S, s1, s2, s3⟩ := r
        simp only at hrl l1 l2 l3
        have HQ := Lib.hid hq
        have HLT := Lib.hid hlt
        clear hq ht HRL hlt
        by_cases hst : s1 < least ∨ st < s2
        · rw [if_pos hst] at hrl
          have HRR : Hid (Rs.ok m k = R) := Lib.hid hrl
          have HS := Lib.hid hst
          clear hrl hst
          go_wp2_with fail
          refine HQ.out.mono ?_
          rintro e w2 ⟨rfl, hb⟩
          unfold rowO rowV
          have hb2 : ∀ o, Below wr.heap.size wr (w2.alloc o) := fun o => hb.alloc hb.size o
          have HF : Hid (∀ o, Out v g pp w R (VN l) (.returned (ptr bm)) (w2.alloc o)) := Lib.hid (fun o => by
            rw [← HRR.out]
            exact ⟨_, rfl, ⟨bm, rfl, HXM.out.bel (hb2 o)⟩, HP0.out.below (hb2 o), gb_trans HG0.out (gbOfB (hb2 o))⟩)
          clear hb hb2 HQ HXM HP0 HG0
          by_cases h1 : s1 < least
          · have h1' : (s1 : Int) < (least : Int) := by omega
            clear h1
            go_wp2
            go_ret
            exact HF.out _
          · have h1' : ¬ (s1 : Int) < (least : Int) := by omega
            have h2' : (st : Int) < (s2 : Int) := by have := HS.out; omega
            clear h1
            go_wp2
            go_ret
            exact HF.out _
        · rw [if_neg hst] at hrl
          have HRR := Lib.hid hrl
          have h1' : ¬ (s1 : Int) < (least : Int) := by omega
          have h2' : ¬ (st : Int) < (s2 : Int) := by omega
          have d1 : decide ((s1 : Int) < (least : Int)) = false := decide_eq_false h1'
          have d2 : decide ((st : Int) < (s2 : Int)) = false := decide_eq_false h2'
          have d3 : decide (s1 < least) = false := decide_eq_false (by omega)
          have d4 : decide (st < s2) = false := decide_eq_false (by omega)
          clear hrl hst
          go_wp2_with fail
          refine HQ.out.mono ?_
          rintro e w2 ⟨rfl, hb⟩
          unfold rowO rowV
          obtain ⟨ao, cap, hpx⟩ := HP0.out.below hb
          have c1 := hpx.c1; have fz := hpx.fz
          have hgl := hpx.lt
          have n1 : ¬ g = w2.heap.size := by omega
          have n2 : ¬ w2.heap.size = g := by omega
          have hib : (k : Int) < 200000 := by have := HLT.out; have := HLE.out; omega
          obtain ⟨w3, hw3⟩ : ∃ x, (w2.setCell ⟨g, 1, none⟩ (.int .i64 ((k : Int) + 1))).alloc (.cells #[.string S, .int .i64 (s1 : Int), .int .i64 (s2 : Int), .int .i64 (s3 : Int)] 97) = x := ⟨_, rfl⟩
          have HW3 := Lib.hid hw3
          have hba : ∀ o, Below (w2.setCell ⟨g, 1, none⟩ (.int .i64 ((k : Int) + 1))).heap.size (w2.setCell ⟨g, 1, none⟩ (.int .i64 ((k : Int) + 1))) ((w2.setCell ⟨g, 1, none⟩ (.int .i64 ((k : Int) + 1))).alloc o) := fun o => (Below.refl _ _).alloc (Nat.le_refl _) _
          have HP3 : Hid (PB v w3 g (k + 1) pp) := Lib.hid (by rw [← hw3]; exact ⟨ao, cap, (hpx.step HLT.out (by omega)).below (hba _)⟩)
          have hg3 : wr.grownBy w3 (some g) := by rw [← hw3]; exact gb_trans (gb_set (gbOfB hb) 1 _) (gbOfB (hba _))
          have HG3 := Lib.hid (gb_trans HG0.out hg3)
          have HX3 := Lib.hid (HXM.out.keep hg3 HL.out.1)
          have hsz : (w2.setCell ⟨g, 1, none⟩ (.int .i64 ((k : Int) + 1))).heap.size = w2.heap.size := by simp
          have y0 : w3.cell? ⟨w2.heap.size, 0, none⟩ = some (.string S) := by rw [← hw3]; exact cell_new hsz.symm
          have y1 : w3.cell? ⟨w2.heap.size, 1, none⟩ = some (.int .i64 (s1 : Int)) := by rw [← hw3]; exact cell_new hsz.symm
          have y3 : w3.cell? ⟨w2.heap.size, 3, none⟩ = some (.int .i64 (s3 : Int)) := by rw [← hw3]; exact cell_new hsz.symm
          have HY := Lib.hid (show w3.cell? ⟨w2.heap.size, 0, none⟩ = some (.string S) ∧ w3.cell? ⟨w2.heap.size, 1, none⟩ = some (.int .i64 (s1 : Int)) ∧ w3.cell? ⟨w2.heap.size, 3, none⟩ = some (.int .i64 (s3 : Int)) from ⟨y0, y1, y3⟩)
          have hc := fun n => hK.out.climb s3 (k + 1) (by have := HJ0.out; have := HD.out; have := HLT.out; omega) (w3.drewN n) pp l HL.out.1 (Nat.lt_of_lt_of_le HL.out.2 HG3.out.size) (HP3.out.dN n)
          have hi := hI.out.climb s3 pp (k + 1) HP3.out.il
          have HN := Lib.hid n1
          clear HQ hb hpx HXM HP0 HG0 HP3 hw3 hba hg3 hsz y0 y1 y3
          obtain ⟨R2, hR2⟩ : ∃ R, K.climb s3 pp (k + 1) = R := ⟨_, rfl⟩
          have hrr := HRR.out
          rw [hR2] at hi hrr
          simp only [hR2] at hc
          cases R2 with
          | ok x2 j2 =>
            have ht2 : P1 v 0 (k + 1) x2 j2 := hi
            have HR2 : Hid (climbL v K least pp f (heldN S m x2) s1 j2 = R) := Lib.hid hrr
            have HJ2 : Hid (k + 1 < j2 ∧ j2 ≤ v.L.length ∧ dpt x2 + 4 * (k + 1) ≤ 4 * j2) := Lib.hid ⟨ht2.1, ht2.2.1, ht2.2.2.1⟩
            have HC : Hid (∀ n, Calls Tryz.prog 42 #[ptr g, .int .i64 (s3 : Int)] (w3.drewN n) fun e w' => ∃ b2, e = .returned (ptr b2) ∧ PR w' l x2 b2 ∧ PB v w' g j2 pp ∧ w3.grownBy w' (some g)) := Lib.hid (fun n => (hc n).mono (by
              rintro e w' ⟨u, rfl, ⟨b2, rfl, hx⟩, hp, hb⟩
              exact ⟨b2, rfl, hx, hp, gb_trans (gb_dN (gb_refl _ _) n) hb⟩))
            have HH : Hid (∀ W b2, PR W l m bm → PR W l x2 b2 → l < W.heap.size → Calls Tryz.prog 65 #[.string S, ptr bm, ptr b2] W (ResPt W l (heldN S m x2))) := Lib.hid (fun W b2 h1 h2 h3 => syHeld S h3 h1 h2 (by have := HDM.out; omega) (by have := HJ2.out; have := HLE.out; omega))
            clear hc hi hrr hR2 ht2 HRR
            go_upto_region 6 with (fail)
            rw [HW3.out]
            clear c1 fz hgl n1 n2 HW3 d1 d2 d3 d4 h1' h2'
            generalize w2.heap.size = nb at *
            obtain ⟨y0, y1, y3⟩ := HY.out
            go_region_held3 (fun w' => w'.cell? ⟨nb, 0, none⟩ = some (.string S) ∧ w'.cell? ⟨nb, 1, none⟩ = some (.int .i64 (s1 : Int)) ∧ w'.cell? ⟨nb, 3, none⟩ = some (.int .i64 (s3 : Int))) (first | go_keep | exact ⟨z0, z1, z3⟩ | exact ⟨x0, x1, x3⟩ | exact ⟨y0, y1, y3⟩)
              (first
                | (go_at_call 42; refine (HC.out _).mono ?_; rintro e w4 ⟨b2, rfl, hx, hp, hb⟩; have HX4 := Lib.hid hx; have HP4 := Lib.hid hp; have HB4 := Lib.hid hb; have x0 := hb.cell y0 (by simpa using Ne.symm HN.out); have x1 := hb.cell y1 (by simpa using Ne.symm HN.out); have x3 := hb.cell y3 (by simpa using Ne.symm HN.out); clear hx hp hb)
                | (go_at_call 65; refine (HH.out _ _ (HX3.out.keep HB4.out HL.out.1) HX4.out (Nat.lt_of_lt_of_le HL.out.2 (gb_trans HG3.out HB4.out).size)).mono ?_; rintro e w5 ⟨b3, rfl, hb, hx⟩; have HX5 := Lib.hid hx; have HB5 := Lib.hid hb; have z0 := (gbOfB (g := g) hb).cell x0 (by simpa using Ne.symm HN.out); have z1 := (gbOfB (g := g) hb).cell x1 (by simpa using Ne.symm HN.out); have z3 := (gbOfB (g := g) hb).cell x3 (by simpa using Ne.symm HN.out); clear hx hb))
            have HP5 : Hid (PB v _ g j2 pp) := Lib.hid (HP4.out.below HB5.out)
            have HG5 := Lib.hid (gb_trans (gb_trans HG3.out HB4.out) (gbOfB (g := g) HB5.out))
            have HDN : Hid (i < j2 ∧ dpt (heldN S m x2) + 4 * i ≤ 4 * j2) := Lib.hid (by have := HJ2.out; have := HD.out; rw [heldN_d]; omega)
            clear x0 x1 x3 y0 y1 y3 z0 z1 z3 HC HH HY HX3 HX4 HP4 HB4 HB5
            go_wp2
            go_roundg f
            case measure => omega
            case rel => exact ⟨heldN S m x2, b3, j2, s1, by have := HAL.out; have := HJ2.out; omega, rfl, rfl, HX5, HP5, HG5, HR2, HDN⟩
          | err a er =>
            have HR2 : Hid (R = Rs.err a er) := Lib.hid hrr.symm
            have HC : Hid (∀ n, Calls Tryz.prog 42 #[ptr g, .int .i64 (s3 : Int)] (w3.drewN n) fun e w' => e = .panicked (pan a er) ∧ w3.grownBy w' (some g)) := Lib.hid (fun n => (hc n).mono (by
              rintro e w' ⟨rfl, hb⟩
              exact ⟨rfl, gb_trans (gb_dN (gb_refl _ _) n) hb⟩))
            clear hc hi hrr hR2 HRR
            go_upto_region 6 with (fail)
            rw [HW3.out]
            clear c1 fz hgl n1 n2 HW3 d1 d2 d3 d4 h1' h2'
            generalize w2.heap.size = nb at *
            obtain ⟨y0, y1, y3⟩ := HY.out
            go_region_law (go_simp; go_at_call 42; refine (HC.out _).mono ?_; rintro e w4 ⟨rfl, hb⟩; refine byPanic (D := wpAny Tryz.prog .any #[] (fun _ _ _ => True) 0 #[] ⟨#[], []⟩ w4) ?_ ?_; · (refine ⟨rfl, ?_⟩; show Out v g pp w R (VN l) _ _; rw [HR2.out]; exact ⟨rfl, gb_trans HG3.out hb⟩))
            all_goals trivial
  · have HG := Lib.hid hb
    have HE : Hid (R = Rs.err a er) := Lib.hid HR.out.symm
    clear ho hb HI HR
    go_wp2
    refine ⟨rfl, ?_⟩
    rw [HE.out]
    exact ⟨rfl, HG.out⟩
end Go.Proofs.YtpgiljibicigeaaGreatDoor

/- syntax: two parts more behind a row that may be none. -/
namespace Go.Proofs.YtpgiljibicigeaaGreatDoor
open Go.RowKit SX

theorem wp_rowQ {ops : Array Oper} {rest : List Oper} {o : Oper} {a : Act} {Q : Exit → Act → World → Prop} (w0 : World) (hg : o.guard = none) (s x : Operand)
    (hop : o.op = Op.call { callee := Callee.builtin Builtin.append, args := #[s, x], argTypes := #[47, 47] })
    {l m b c cap : Nat} {ao : Option Addr} {ks : List Nd} {bs : List Nat} {y z : Nd} (e' : TypeId) (hs : a.eval s = .slice ao ks.length cap)
    (hx : a.eval x = .slice (some ⟨w0.heap.size, 0, none⟩) 2 2)
    (hrow : RowS w0 l ao cap ks bs) (hy : PR w0 m y b) (hz : PR w0 m z c) (hm : ∀ q, ao = some ⟨q, 0, none⟩ → q ≤ m) (hlm : l ≤ m) (hn : ks.length ≤ 1000000) (hB : l < w0.heap.size)
    (hK : ∀ ao' cap' w', PRs w' (fun k => l < k) (ks ++ [y, z]) ao' 0 → Below (l + 1) w0 w' → Oth w0 w' ao → wpList Tryz.prog ops Q rest (a.put o.dst (.slice ao' (ks.length + 2) cap')) w') :
    wpList Tryz.prog ops Q (o :: rest) a (w0.alloc (.cells #[ptr b, ptr c] e')) := by
  obtain ⟨i, hi, hz0, hz1, hz2⟩ := info_parts infoPt
  have hown' : (w0.alloc (.cells #[ptr b, ptr c] e')).ownsRow (l + 1) 44 1 (.slice ao ks.length cap) ks.length (bs.map ptr) := World.ownsRow.alloc hrow.own _
  refine wpList_append_own_wide _ hg s x 47 hop (l + 1) 44 i (.pointer none) 1 8 Tryz.underlying47 hi hz0 hz1 hz2 rfl (by decide) _ _ _ hs hown' ⟨w0.heap.size, 0, none⟩ 2 2 [ptr b, ptr c] hx rfl ?_ (by intro u hu; simp at hu; rcases hu with rfl | rfl <;> rfl) (by unfold maxLen; omega) (by omega) (by simp; omega) ?_
  · intro j u hj
    rw [addP, Nat.zero_add]
    rw [cell_new rfl, List.getElem?_toArray]; exact hj
  · intro v' w' ho hgr hnil
    have hb : Below (l + 1) w0 w' := ((Below.refl (l + 1) w0).alloc hB _).grown hgr (by simp; omega) (fun j hj => (hown'.lt j hj).1)
    have hsh : ∃ ao' cap', v' = .slice ao' (ks.length + 2) cap' := by
      rcases ho.2 with ⟨h1, h2⟩ | ⟨g, cap', cur, h1, _⟩
      · omega
      · exact ⟨_, _, h1⟩
    obtain ⟨ao', cap', rfl⟩ := hsh
    have hoth : Oth w0 w' ao := by
      refine ⟨?_, fun k hk ha => ?_⟩
      · have := hgr.size
        simp at this; omega
      · rw [hgr.block k (by simp; omega) (fun hk2 => ha (by
          rcases hrow.own.shape with ⟨h1, _⟩ | ⟨q, cur, h1, _⟩
          · subst h1; simp [Value.ownBlock] at hk2
          · subst h1; simp [Value.ownBlock] at hk2; rw [hk2]))]
        exact heap_alloc_old w0 _ hk
    refine hK ao' cap' w' ?_ hb hoth
    have ho' : OwnV w' (l + 1) 44 1 ao' (ks.length + 2) cap' (bs.map ptr ++ [ptr b, ptr c]) := ho
    rcases ho'.shape with ⟨_, _, h3, _⟩ | ⟨q, cur, rfl, h2, _⟩
    · omega
    · refine prs_mk (show l < q by omega) (ks ++ [y, z]) 0 fun i u hu => ?_
      rw [Nat.zero_add]
      have hml : (bs.map ptr).length = ks.length := by rw [List.length_map]; exact hrow.len
      have hnew : ∀ (x : Nd) (d : Nat), PR w0 m x d → PRA w' (fun k => l < k) x d := fun x d hp => PRA.to (fun k hk hs => ⟨hoth.2 k hs (fun e => by have := hm k e; omega), by omega⟩) hp
      rcases Nat.lt_or_ge i ks.length with hi | hi
      · rw [List.getElem?_append_left hi] at hu
        obtain ⟨d, h1, h2⟩ := hrow.it i u hu
        exact ⟨d, ho'.cellAt (by rw [List.getElem?_append_left (by rw [hml]; exact hi), List.getElem?_map, h1]; rfl), h2.to (fun k hk hs => ⟨hoth.2 k hs hk.2, hk.1⟩)⟩
      · rw [List.getElem?_append_right hi] at hu
        obtain ⟨j, hj⟩ : ∃ j, i = ks.length + j := ⟨i - ks.length, by omega⟩
        subst hj
        rw [Nat.add_sub_cancel_left] at hu
        have hat : ∀ t, [ptr b, ptr c][j]? = some t → w'.cell? ⟨q, ks.length + j, none⟩ = some t := fun t ht => ho'.cellAt (by rw [List.getElem?_append_right (by omega), hml, Nat.add_sub_cancel_left]; exact ht)
        match j, hu with
        | 0, hu =>
          obtain rfl : y = u := by simpa using hu
          exact ⟨b, hat _ rfl, hnew _ _ hy⟩
        | 1, hu =>
          obtain rfl : z = u := by simpa using hu
          exact ⟨c, hat _ rfl, hnew _ _ hz⟩
        | j + 2, hu => simp at hu
theorem dps_two (ks : List Nd) (x y : Nd) : dps (ks ++ [x, y]) = max (dps ks) (max (dpt x) (dpt y)) := by
  rw [show ks ++ [x, y] = (ks ++ [x]) ++ [y] by simp, dps_app, dps_app]; omega
end Go.Proofs.YtpgiljibicigeaaGreatDoor
