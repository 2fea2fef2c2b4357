/- The document's division: what it tells is of its own. -/
import Derived.Test.YtimfpgpomafflaaGreatDoorLimbZd
import Derived.Test.YtimfpgpomafflaaGreatDoorDecOd
namespace Go.Proofs.YtimfpgpomafflaaGreatDoor
open Go.RowKit LM


theorem RDiv_own (a b : Option Addr) (ca cb v u : Nat) (w : World) (hl : (dg 10 v).length ≤ 1000000) (hm : (dg 10 u).length ≤ 1000000) (hu : 0 < u) (ha : Rd w .u8 a (dg 10 v)) (hb : Rd w .u8 b (dg 10 u)) :
    Calls Tryz.prog 47 #[.slice a (dg 10 v).length ca, .slice b (dg 10 u).length cb] w fun e w' => ∃ a1 c1 a2 c2, e = .returned (.tuple #[.slice a1 (dg 10 (v / u)).length c1, .slice a2 (dg 10 (v % u)).length c2]) ∧
      Own w' w.heap.size 5 .u8 a1 c1 (dg 10 (v / u)) ∧ Own w' (w.heap.size + 1) 5 .u8 a2 c2 (dg 10 (v % u)) ∧ Below w.heap.size w w' := by
  have hlx := Lo_dg (b := 10) (by omega) v
  have hvx := vl_dg (b := 10) (by omega) v
  have HLX := Lib.hid hlx; have HVX := Lib.hid hvx
  clear hlx hvx
  generalize dg 10 v = x at *
  obtain ⟨m, hmm⟩ : ∃ m, m = (dg 10 u).length := ⟨_, rfl⟩
  have HM := Lib.hid hmm
  rw [← hmm] at hm ⊢
  clear hmm
  go_enter Tryz.func47, Tryz.ntmps47
  go_wp2_with (at_make; refine wp_make _ rfl _ _ 51 rfl w.heap.size 5 .u8 1 Tryz.underlying51 infoU8 _ _ _ _ x.length rfl rfl (by omega) (by omega) (by omega) (by unfold maxLen; omega) (Nat.le_refl _) ?_)
  intro w1 hown1 hb1
  have hszg : w.heap.size < w1.heap.size := hown1.ge.2
  have ha9 : ∀ W, Below w.heap.size w W → Rd W .u8 a x := fun W hW => ha.below hW
  have hb9 : ∀ W, Below w.heap.size w W → Rd W .u8 b (dg 10 u) := fun W hW => hb.below hW
  have HA := Lib.hid ha9; have HB := Lib.hid hb9
  clear ha hb ha9 hb9
  go_wp2_with fail
  go_loopw [7, 8] (fun v7 i wr => ∃ (k r n cap : Nat) (ao : Option Addr) (D : List Nat), k ≤ x.length ∧ i = .int .i64 ((k : Int) - 1) ∧ v7 = .slice ao n cap ∧ Hid (n = (dg 10 r).length) ∧ r < u ∧ Hid (D.length = x.length - k) ∧ Hid (Lo 10 D) ∧ Hid (vl 10 (x.drop k) = vl 10 D * u + r) ∧
      Own wr w.heap.size 5 .u8 (some ⟨w.heap.size, 0, none⟩) x.length (List.replicate k 0 ++ D) ∧ Own wr (w.heap.size + 1) 5 .u8 ao cap (dg 10 r) ∧ Below w.heap.size w wr) (fun _ i _ => (intOf i + 1).toNat)
  case atStart => exact ⟨x.length, 0, 0, 0, none, [], Nat.le_refl _, rfl, rfl, Lib.hid (by rw [dg_zero]; rfl), hu, Lib.hid (by simp), Lo_nil _, Lib.hid (by rw [List.drop_length]; simp [vl]), by rw [List.append_nil]; exact hown1, by rw [dg_zero]; exact Own.nilNone _ _ _ _, hb1⟩
  case round =>
    obtain ⟨k, r, n, cap, ao, D, hk, rfl, rfl, HN, hr, HDL, HDLo, HV, hownq, hownr, hbl⟩ := hrel
    clear hown1 hb1 hszg
    have hszq : w.heap.size < wr.heap.size := hownq.ge.2
    rcases Nat.eq_zero_or_pos k with hk0 | hk0
    · have hkz : k ≤ 0 := by omega
      have hv := HV.out
      have hdl := HDL.out
      rw [hk0] at hownq hdl
      rw [hk0, List.drop_zero, HVX.out] at hv
      rw [List.replicate_zero, List.nil_append] at hownq
      obtain ⟨e1, e2⟩ := rdiv_end hv hr
      have htr : tr D = dg 10 (v / u) := by rw [tr_eq (by omega) HDLo.out, e1]
      have hownq2 := hownq.take (tr D).length (by have := tr_take D; rw [this]; simp; omega)
      rw [← tr_take, htr] at hownq2
      rw [e2] at hownr HN
      have hT : Calls Tryz.prog 83 #[.slice (some ⟨w.heap.size, 0, none⟩) x.length x.length] wr fun e w' => e = .returned (.slice (some ⟨w.heap.size, 0, none⟩) (dg 10 (v / u)).length x.length) ∧ wr = w' := by
        have h := rtrim_any (some ⟨w.heap.size, 0, none⟩) x.length D wr (by omega) hownq.rd hownq.cap.1
        rw [htr, hdl, Nat.sub_zero] at h; exact h
      have HT := Lib.hid hT
      clear hT htr hownq hv hdl e1 e2 hk0
      go_wp2_with fail
      refine HT.out.mono ?_
      rintro e w5 ⟨rfl, rfl⟩
      go_wp2
      go_ret2
      exact ⟨_, _, ao, cap, by rw [← HN.out]; rfl, hownq2, hownr, hbl⟩
    · obtain ⟨i, rfl⟩ : ∃ i, k = i + 1 := ⟨k - 1, by omega⟩
      obtain ⟨b1, o1, z, e1, HZ, hz, hc⟩ := (HA.out wr hbl).get HLX.out i (by omega)
      subst e1
      have hrl : (dg 10 r).length ≤ 1000000 := Nat.le_trans (dg_len_le (by omega) (Nat.le_of_lt hr)) (by rw [← HM.out]; exact hm)
      have hb1 : (([z] : List Nat).length + (dg 10 r).length) * 1 ≤ 140737488355328 := by simp; omega
      have hb2 : ([z] : List Nat).length + (dg 10 r).length ≤ maxLen := by unfold maxLen; simp; omega
      have hnn := fun h => hownr.none_nil h
      have hrr := hownr.rd
      have HB1 := Lib.hid hb1; have HB2 := Lib.hid hb2; have HNN := Lib.hid hnn; have HRR := Lib.hid hrr
      clear hb1 hb2 hnn hrr
      go_wp2_with (at_builtin; refine wp_cat _ rfl _ _ 51 rfl (w.heap.size + 1) 5 .u8 1 Tryz.underlying51 infoU8 _ ao 1 cap 1 n [z] (dg 10 r) rfl HN.out rfl rfl ((ownLit1 wr _ _ z rfl).mono hszq) (HRR.out.alloc _) HNN.out HB1.out HB2.out (by simp; omega) ?_)
      intro a4 c4 w4 hown4 hb4 hg4
      have hq4 : Own w4 w.heap.size 5 .u8 (some ⟨w.heap.size, 0, none⟩) x.length (List.replicate (i + 1) 0 ++ D) :=
        World.ownsRow.kept (World.ownsRow.alloc hownq _) hg4 (.inr (by simp [Value.ownBlock]; omega))
      have hbl4 := (hbl.alloc (Nat.le_of_lt hszq) (.cells #[.int .u8 (z : Int)] 5)).trans (hb4.mono (Nat.le_succ _))
      have hin := rdiv_in (r := r) hz
      have hown5 : Own w4 (w.heap.size + 1) 5 .u8 a4 c4 (z :: dg 10 r) := hown4
      have hl4 : (z :: dg 10 r).length = 1 + n := by rw [List.length_cons, ← HN.out, Nat.add_comm]
      have hT := rtrim_any a4 c4 (z :: dg 10 r) w4 (by rw [hl4, HN.out]; omega) hown5.rd hown5.cap.1
      have hr4 := hown5.take (tr (z :: dg 10 r)).length (by have := tr_take (z :: dg 10 r); rw [this]; simp; omega)
      rw [← tr_take, hin] at hr4
      rw [hl4, hin] at hT
      rw [q_open] at hq4
      have HT := Lib.hid hT
      clear hT hin hl4 hown4 hown5 hb4 hg4 hownq hownr hbl HRR HNN HB1 HB2 hc
      go_wp2_with fail
      refine HT.out.mono ?_
      rintro e w5 ⟨rfl, rfl⟩
      have hts0 : 0 * u + (z + 10 * r) = z + 10 * r := by omega
      have HTS := Lib.hid hts0
      have HR4 := Lib.hid hr4; have HQ4 := Lib.hid hq4
      clear hts0 hr4 hq4 HT
      go_wp2_with fail
      go_loopw [7] (fun v7 ws => ∃ (t s n cap : Nat) (ao : Option Addr), t ≤ 9 ∧ v7 = .slice ao n cap ∧ Hid (n = (dg 10 s).length) ∧ Hid (t * u + s = z + 10 * r) ∧ s ≤ z + 10 * r ∧
          Own ws w.heap.size 5 .u8 (some ⟨w.heap.size, 0, none⟩) x.length (List.replicate i 0 ++ t :: D) ∧ Own ws (w.heap.size + 1) 5 .u8 ao cap (dg 10 s) ∧ Below w.heap.size w ws) (fun _ ws => 10 - (intOf ((ws.cell? ⟨w.heap.size, i, none⟩).getD (.int .u8 0))).toNat)
      case atStart => exact ⟨0, z + 10 * r, _, c4, a4, by omega, rfl, rfl, HTS, by omega, HQ4.out, HR4.out, hbl4⟩
      case round =>
        obtain ⟨t, s, n, cap, ao, ht, rfl, HN, HS, hsz, hq, hrr, hbl⟩ := hrel
        have hsl : (dg 10 s).length ≤ 1000001 := by
          have h1 : s < 10 * u := by omega
          have h2 : s < 10 ^ (m + 1) := by
            have h3 := dg_upper (b := 10) (by omega) u
            rw [← HM.out] at h3
            rw [Nat.pow_succ]; omega
          exact Nat.le_trans (dg_len_of_lt (by omega) h2) (by omega)
        have hcq := hq.cell i (by simp)
        rw [q_get] at hcq
        have HCQ0 := Lib.hid hcq
        have hfq := hq.frozen i
        have hC := RCmp_any ao b cap cb s u wr (by omega) (by rw [← HM.out]; omega) hrr.rd (HB.out wr hbl)
        rw [← HN.out, ← HM.out] at hC
        rcases Nat.lt_or_ge s u with hlt | hge
        · rw [cmpN_lt hlt] at hC
          have HC := Lib.hid hC
          have hV2 := rdiv_round (x := x) (by omega) HZ.out HV.out HS.out
          have hD2 : (t :: D).length = x.length - i := by rw [List.length_cons, HDL.out]; omega
          have hL2 : Lo 10 (t :: D) := by
            intro y hy
            rcases List.mem_cons.1 hy with rfl | hy
            · omega
            · exact HDLo.out y hy
          have HV2 := Lib.hid hV2; have HD2 := Lib.hid hD2; have HL2 := Lib.hid hL2
          clear hC hV2 hD2 hL2 HR4 HQ4 hbl4
          go_wp2_with fail
          refine HC.out.mono ?_
          rintro e w6 ⟨rfl, hb6⟩
          have q6 := hq.below hb6
          have r6 := hrr.below hb6
          have bl6 := hbl.trans (hb6.mono hbl.size)
          clear hb6 hq hrr hbl hcq hfq
          go_wp2
          go_roundw
          case rel => exact ⟨i, s, n, cap, ao, t :: D, by omega, by go_num, rfl, HN, hlt, HD2, HL2, HV2, q6, r6, bl6⟩
          case measure => simp [intOf]
        · have h9 := rdiv_nine hr hz HS.out hge
          have hC2 : Calls Tryz.prog 75 #[.slice ao n cap, .slice b m cb] wr fun e w' => ∃ cv : Int, 0 ≤ cv ∧ e = .returned (.int .i64 cv) ∧ Below wr.heap.size wr w' :=
            hC.mono fun e w' ⟨he, hb⟩ => ⟨_, by unfold cmpN; rw [if_neg (by omega)]; split <;> omega, he, hb⟩
          have HC := Lib.hid hC2
          have hSub := fun W (rq : Rd W .u8 ao (dg 10 s)) (bq : Rd W .u8 b (dg 10 u)) => RSub_any ao b cap cb (dg 10 s) (dg 10 u) W (by omega) (dg_len_le (by omega) hge) (Lo_dg (by omega) _) (Lo_dg (by omega) _) (by rw [vl_dg (by omega), vl_dg (by omega)]; exact hge) rq bq
          rw [← HN.out, ← HM.out, vl_dg (by omega), vl_dg (by omega)] at hSub
          have HSUB := Lib.hid hSub
          have hs2 : (t + 1) * u + (s - u) = z + 10 * r := by rw [rdiv_less hge]; exact HS.out
          have HS2 := Lib.hid hs2
          clear hC hC2 hSub hs2 HR4 HQ4 hbl4
          go_wp2_with fail
          refine HC.out.mono ?_
          rintro e w6 ⟨cv, hcv, rfl, hb6⟩
          have q6 := hq.below hb6
          have r6 := hrr.below hb6
          have bl6 := hbl.trans (hb6.mono hbl.size)
          clear hb6 hq hrr hcq hfq
          go_wp2_with fail
          refine (HSUB.out w6 r6.rd (HB.out w6 bl6)).mono ?_
          rintro e w7 ⟨a7, c7, rfl, ho7, hb7⟩
          have q7 := q6.below hb7
          have bl7 := bl6.trans (hb7.mono bl6.size)
          have r7 := ho7.mono (show w.heap.size + 1 ≤ w6.heap.size from q6.ge.2)
          have hcq := q7.cell i (by simp)
          rw [q_get] at hcq
          have hfq := q7.frozen i
          have hset : ∀ yv : Int, yv = ((t + 1 : Nat) : Int) → Own (w7.setCell ⟨w.heap.size, i, none⟩ (.int .u8 yv)) w.heap.size 5 .u8 (some ⟨w.heap.size, 0, none⟩) x.length (List.replicate i 0 ++ (t + 1) :: D) := by
            intro yv hyv
            have := q7.set' i _ hyv
            rw [q_set] at this; exact this
          have hset2 : ∀ v, Own (w7.setCell ⟨w.heap.size, i, none⟩ v) (w.heap.size + 1) 5 .u8 a7 c7 (dg 10 (s - u)) := fun v => r7.gb (gb_set (gb_refl _ _) _ _) (r7.apart (Nat.lt_succ_self _))
          have hm7 : ∀ yv : Int, (w7.setCell ⟨w.heap.size, i, none⟩ (.int .u8 yv)).cell? ⟨w.heap.size, i, none⟩ = some (.int .u8 yv) := fun yv => by simp [go_sem, hcq]
          have HSET := Lib.hid hset; have HSET2 := Lib.hid hset2; have HM7 := Lib.hid hm7
          clear hset hset2 hm7 hb7 ho7 q6 r6 bl6
          go_wp2
          go_roundw
          case rel => exact ⟨t + 1, s - u, _, c7, a7, h9, rfl, rfl, HS2, by omega, HSET.out _ (by omega), HSET2.out _, bl7.setCell (Nat.le_refl _) _⟩
          case measure => rw [HM7.out, HCQ0.out]; simp [intOf]; omega

def ResDv (v u : Nat) (w : World) (r : Ending) (w' : World) : Prop := ∃ a1 c1 a2 c2, r = .returned (.tuple #[.slice a1 (dg 10 (v / u)).length c1, .slice a2 (dg 10 (v % u)).length c2]) ∧ RdC w' a1 c1 (v / u) ∧ RdC w' a2 c2 (v % u) ∧ Below w.heap.size w w'
theorem div10 (v u : Nat) (a b : Option Addr) (ca cb : Nat) (w : World) (hl : (dg 10 v).length ≤ 1000000) (hm : (dg 10 u).length ≤ 1000000) (hu : 0 < u) (ha : RdC w a ca v) (hb : RdC w b cb u) :
    Calls Tryz.prog 47 #[.slice a (dg 10 v).length ca, .slice b (dg 10 u).length cb] w (ResDv v u w) :=
  (RDiv_own a b ca cb v u w hl hm hu ha.1 hb.1).mono fun e w' ⟨a1, c1, a2, c2, h, o1, o2, hbl⟩ => ⟨a1, c1, a2, c2, h, RdC.ofOwn o1, RdC.ofOwn o2, hbl⟩
end Go.Proofs.YtimfpgpomafflaaGreatDoor
