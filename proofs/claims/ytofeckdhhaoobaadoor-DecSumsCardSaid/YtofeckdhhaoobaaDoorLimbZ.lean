/- Walks: the document's answer: Mul, Parse. -/
import Derived.Test.YtofeckdhhaoobaaDoorLimbY
import Derived.StillTailTactics
import Derived.IntWalk
namespace Go.Proofs.YtofeckdhhaoobaaDoor
open Go.RowKit LM

theorem dig_mul {p q : Nat} (hp : p < 10) (hq : q < 10) : p * q ≤ 81 := by
  have : p * q ≤ 9 * 9 := Nat.mul_le_mul (by omega) (by omega)
  omega

set_option maxHeartbeats 8000000 in
set_option maxRecDepth 100000 in
/-- the document's product -/
theorem RMul_any (a b : Option Addr) (ca cb : Nat) (x y : List Nat) (w : World) (hl : x.length ≤ 1000000) (hm : y.length ≤ 1000000) (hxl : Lo 10 x) (hyl : Lo 10 y) (ha : Rd w .u8 a x) (hb : Rd w .u8 b y) :
    Calls Tryd.prog 63 #[.slice a x.length ca, .slice b y.length cb] w fun e w' => ∃ a' cap', e = .returned (.slice a' (dg 10 (vl 10 x * vl 10 y)).length cap') ∧
      Own w' w.heap.size 5 .u8 a' cap' (dg 10 (vl 10 x * vl 10 y)) ∧ Below w.heap.size w w' := by
  have HXL := Lib.hid hxl; have HYL := Lib.hid hyl
  clear hxl hyl
  go_enter Tryd.func63, Tryd.ntmps63
  go_wp2_with (at_make; refine wp_make _ rfl _ _ 114 rfl w.heap.size 3 .i64 8 Tryd.underlying114 infoInt _ _ _ _ (x.length + y.length + 1) rfl rfl (by omega) (by omega) (by omega) (by unfold maxLen; omega) (Nat.le_refl _) ?_)
  intro w1 hown1 hb1
  obtain ⟨N, hN⟩ : ∃ N, N = x.length + y.length + 1 := ⟨_, rfl⟩
  have HN := Lib.hid hN
  have hN1 : x.length + y.length + 1 ≤ N := by omega
  have hN2 : N ≤ 2000001 := by omega
  have hN3 : N ≤ x.length + y.length + 1 := by omega
  have hIN : (x.length : Int) + (y.length : Int) + 1 = (N : Int) := by omega
  rw [← hN] at hown1
  have HIN := Lib.hid hIN
  clear hN hIN
  have hg1 : w.heap.size < w1.heap.size := hown1.ge.2
  go_wp2_with fail
  go_loopw [6] (fun i wr => ∃ (k : Nat) (S : List Nat), k ≤ x.length ∧ i = .int .i64 k ∧ Hid (S.length = N) ∧ Hid (Mb k 0 S) ∧ Hid (vl 10 S = vl 10 (x.take k) * vl 10 y) ∧
      Own wr w.heap.size 3 .i64 (some ⟨w.heap.size, 0, none⟩) N S ∧ Below w.heap.size w wr) (fun i _ => x.length - (intOf i).toNat)
  case atStart => exact ⟨0, List.replicate N 0, Nat.zero_le _, rfl, Lib.hid (List.length_replicate), Lib.hid (Mb_zero _), Lib.hid (by rw [vl_zeros]; simp [vl]), hown1, hb1⟩
  case round =>
    obtain ⟨k, S, hk, rfl, HSL, HSB, HSV, hown, hbl⟩ := hrel
    by_cases hlt : k < x.length
    · have HOWN := Lib.hid hown
      clear hown1 hown
      go_wp2_with fail
      go_loopw [7] (fun i ws => ∃ (j : Nat) (S : List Nat), j ≤ y.length ∧ i = .int .i64 j ∧ Hid (S.length = N) ∧ Hid (Mb k j S) ∧ Hid (∀ p, p = x[k]?.getD 0 → vl 10 S = vl 10 (x.take k) * vl 10 y + 10 ^ k * (p * vl 10 (y.take j))) ∧
          Own ws w.heap.size 3 .i64 (some ⟨w.heap.size, 0, none⟩) N S ∧ Below w.heap.size w ws) (fun i _ => y.length - (intOf i).toNat)
      case atStart => exact ⟨0, S, Nat.zero_le _, rfl, HSL, HSB, Lib.hid (fun p _ => by rw [HSV.out]; simp [vl]), HOWN.out, hbl⟩
      case round =>
        obtain ⟨j, S, hj, rfl, HSL, HSB, HSV, hown, hbl⟩ := hrel
        by_cases hjt : j < y.length
        · obtain ⟨b1, o1, p, e1, HP, hp, cp⟩ := (ha.below hbl).get HXL.out k hlt
          obtain ⟨b2, o2, q, e2, HQ, hq, cq⟩ := (hb.below hbl).get HYL.out j hjt
          subst e1 e2
          have hpq := dig_mul hp hq
          have cs := hown.cell (k + j) (by rw [HSL.out]; omega)
          have hfr := hown.frozen (k + j)
          have hsb := Mb_at HSB.out
          obtain ⟨s, hs⟩ : ∃ s, s = S[k + j]?.getD 0 := ⟨_, rfl⟩
          rw [← hs] at cs hsb
          have HS := Lib.hid hs
          have hi0 : (0 : Int) ≤ (p : Int) * (q : Int) := by rw [← Int.natCast_mul]; omega
          have hi1 : (p : Int) * (q : Int) ≤ 81 := by rw [← Int.natCast_mul]; omega
          have hown2 : ∀ yv : Int, yv = ((s + p * q : Nat) : Int) → Own ((wr.setCell ⟨w.heap.size, k + j, none⟩ (.int .i64 yv))) w.heap.size 3 .i64 (some ⟨w.heap.size, 0, none⟩) N (S.set (k + j) (s + p * q)) :=
            fun yv hyv => hown.set' (k + j) _ hyv
          have HO2 := Lib.hid hown2
          clear hs hown hown2
          have q1 : IntKind.i64.wrap ((k : Int) + (j : Int)) = (k : Int) + (j : Int) := IntWalk.i64_in _ (by omega)
          have q2 : (0 : Int) ≤ (k : Int) + (j : Int) := by omega
          have q3 : ((k : Int) + (j : Int)).toNat = k + j := by omega
          have q4 : IntKind.i64.wrap ((p : Int) * (q : Int)) = (p : Int) * (q : Int) := IntWalk.i64_in _ (by omega)
          have q5 : IntKind.i64.wrap ((s : Int) + (p : Int) * (q : Int)) = (s : Int) + (p : Int) * (q : Int) := IntWalk.i64_in _ (by omega)
          have q6 : (k : Int) + (j : Int) < (x.length : Int) + (y.length : Int) + 1 := by omega
          have q7 : k + j < x.length + y.length + 1 := by omega
          go_wp2_with fail
          go_still_tail 22, (by kernel_rfl)
          clear q1 q2 q3 q4 q5 q6 q7
          go_wp2
          go_roundw
          case rel => exact ⟨j + 1, S.set (k + j) (s + p * q), by omega, by go_num, Lib.hid (by rw [List.length_set]; exact HSL.out), Lib.hid (by have h := Mb_step (z := p * q) HSB.out hpq; rw [HS.out]; exact h),
            Lib.hid (fun p' hp' => by rw [← HP.out] at hp'; subst hp'; exact rmul_step (by rw [HSL.out]; omega) HP.out HQ.out (by rw [HS.out]) (HSV.out _ HP.out)), (HO2.out _ (by rw [← Int.natCast_mul]; omega)).drew, (hbl.setCell (Nat.le_refl _) _).drew⟩
          case measure => simp [intOf]; omega
        · obtain rfl : j = y.length := by omega
          have hvn : vl 10 S = vl 10 (x.take (k + 1)) * vl 10 y := rmul_next rfl (HSV.out _ rfl)
          have HVN := Lib.hid hvn
          clear hvn
          go_wp2
          go_roundw
          case rel => exact ⟨k + 1, S, by omega, by go_num, HSL, Lib.hid (Mb_next HSB.out), HVN, hown, hbl⟩
          case measure => simp [intOf]; omega
    · obtain rfl : k = x.length := by omega
      have hsb := fun j => Mb_le HSB.out j
      have HSB2 := Lib.hid hsb
      clear hsb hown1 hb1
      have hrS := hown.rd
      have HRS := Lib.hid hrS
      clear hrS
      have hszr : w.heap.size < wr.heap.size := hown.ge.2
      have hIM : (N : Int) ≤ 2000001 := by omega
      go_wp2_with (at_make; refine wp_make wr rfl _ _ 54 rfl wr.heap.size 5 .u8 1 Tryd.underlying54 infoU8 _ _ _ _ N rfl rfl (by have := HIN.out; omega) (by have := HIN.out; omega) (by omega) (by unfold maxLen; omega) (Nat.le_refl _) ?_)
      intro w3 hown3 hb3
      have hr3 := HRS.out.below hb3
      have hbl3 := hbl.trans (hb3.mono hbl.size)
      have hap : Apart (some ⟨w.heap.size, 0, none⟩) wr.heap.size := by
        intro b off e; simp at e; omega
      have HAP := Lib.hid hap
      clear hap hown hb3 hbl
      generalize wr.heap.size = g at *
      go_wp2_with fail
      go_loopw [9, 10] (fun v9 i wt => ∃ (k c : Nat) (D : List Nat), k ≤ N ∧ i = .int .i64 k ∧ v9 = .int .i64 c ∧ c ≤ 81 * (x.length + 1) ∧ Hid (D.length = k) ∧ Hid (Lo 10 D) ∧ Hid (vl 10 (S.take k) = vl 10 D + 10 ^ k * c) ∧
          Own wt g 5 .u8 (some ⟨g, 0, none⟩) N (D ++ List.replicate (N - k) 0) ∧ Rd wt .i64 (some ⟨w.heap.size, 0, none⟩) S ∧ Below w.heap.size w wt) (fun _ i _ => N - (intOf i).toNat)
      case atStart => exact ⟨0, 0, [], Nat.zero_le _, rfl, rfl, Nat.zero_le _, (rfl : ([] : List Nat).length = 0), Lo_nil _, (by simp [vl] : vl 10 (S.take 0) = vl 10 [] + 10 ^ 0 * 0), by rw [Nat.sub_zero, List.nil_append]; exact hown3, hr3, hbl3⟩
      case round =>
        obtain ⟨k, c, D, hk, rfl, rfl, hc, HDL, HDLo, HV, hownr, hrr, hblr⟩ := hrel
        by_cases hlt : k < N
        · obtain ⟨b1, o1, e1, hcs⟩ := hrr k (by rw [HSL.out]; exact hlt)
          simp only [Option.some.injEq, Addr.mk.injEq, and_true] at e1
          obtain ⟨rfl, rfl⟩ := e1
          rw [Nat.zero_add] at hcs
          obtain ⟨s, hs⟩ : ∃ s, s = S[k]?.getD 0 := ⟨_, rfl⟩
          rw [← hs] at hcs
          have hs81 : s ≤ 81 * (x.length + 1) := by rw [hs]; exact HSB2.out k
          have hdl := HDL.out
          have hlen : (D ++ List.replicate (N - k) 0).length = N := by rw [List.length_append, List.length_replicate, hdl]; omega
          have hfr := hownr.frozen k
          have hcq := hownr.cell k (by omega)
          have hown4 : ∀ yv : Int, yv = (((c + s) % 10 : Nat) : Int) → Own (wr.setCell ⟨g, k, none⟩ (.int .u8 yv)) g 5 .u8 (some ⟨g, 0, none⟩) N ((D ++ [(c + s) % 10]) ++ List.replicate (N - (k + 1)) 0) := by
            intro yv hyv
            have h := hownr.set' k _ hyv
            rw [show N - k = (N - (k + 1)) + 1 by omega, ← hdl, fill_set] at h
            rw [← hdl]; exact h
          have HO4 := Lib.hid hown4
          have HV4 := Lib.hid (rcar_step HDL.out hs HV.out)
          have hrr4 : ∀ v, Rd (wr.setCell ⟨g, k, none⟩ v) .i64 (some ⟨w.heap.size, 0, none⟩) S := fun v => hrr.gb (gb_set (gb_refl wr (some g)) k v) HAP.out
          have HR4 := Lib.hid hrr4
          have hgw : w.heap.size ≤ g := by omega
          clear hs hdl hlen hown4 hownr hrr4
          go_wp2
          go_roundw
          case rel => exact ⟨k + 1, (c + s) / 10, D ++ [(c + s) % 10], by omega, by go_num, by go_num, by omega, Lib.hid (by rw [List.length_append, HDL.out]; rfl), Lib.hid (Lo_append HDLo.out (Lo_one (Nat.mod_lt _ (by decide)))), HV4, HO4.out _ (by omega), HR4.out _, hblr.setCell hgw _⟩
          case measure => simp [intOf]; omega
        · obtain rfl : k = N := by omega
          have htr := rcar_end HXL.out HYL.out HSL.out HN.out HDL.out HDLo.out HSV.out HV.out
          rw [Nat.sub_self, List.replicate_zero, List.append_nil] at hownr
          have hR := rtrim_any (some ⟨g, 0, none⟩) k D wr (by rw [HDL.out]; omega) hownr.rd hownr.cap.1
          have hown2 := hownr.take (tr D).length (by have := tr_take D; rw [this]; simp; omega)
          rw [← tr_take, htr] at hown2
          rw [htr, HDL.out] at hR
          have hown5 := hown2.mono (show w.heap.size ≤ g by omega)
          have hR2 : Calls Tryd.prog 79 #[.slice (some ⟨g, 0, none⟩) k k] wr fun e w' => e = .returned (.slice (some ⟨g, 0, none⟩) (dg 10 (vl 10 x * vl 10 y)).length k) ∧ wr = w' := hR
          have HR := Lib.hid hR2
          clear hR hR2 htr hownr hown2
          go_wp2_with fail
          refine HR.out.mono ?_
          rintro e w1 ⟨rfl, rfl⟩
          go_wp2
          go_ret
          exact ⟨_, _, rfl, hown5, hblr⟩
end Go.Proofs.YtofeckdhhaoobaaDoor
