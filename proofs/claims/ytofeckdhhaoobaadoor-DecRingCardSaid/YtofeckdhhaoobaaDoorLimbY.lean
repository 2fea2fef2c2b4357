/- Walks: the document's answer: Sub, Text. -/
import Derived.Test.YtofeckdhhaoobaaDoorLimbMaths
import Derived.Test.YtofeckdhhaoobaaDoorLimbV
import Derived.BigQuiet
namespace Go.Proofs.YtofeckdhhaoobaaDoor
open Go.RowKit LM

set_option maxHeartbeats 4000000 in
/-- the document's difference -/
theorem RSub_any (a b : Option Addr) (ca cb : Nat) (x y : List Nat) (w : World) (hl : x.length ≤ 1073741824) (hm : y.length ≤ x.length) (hxl : Lo 10 x) (hyl : Lo 10 y) (hle : vl 10 y ≤ vl 10 x) (ha : Rd w .u8 a x) (hb : Rd w .u8 b y) :
    Calls Tryd.prog 95 #[.slice a x.length ca, .slice b y.length cb] w fun e w' => ∃ a' cap', e = .returned (.slice a' (dg 10 (vl 10 x - vl 10 y)).length cap') ∧
      Own w' w.heap.size 5 .u8 a' cap' (dg 10 (vl 10 x - vl 10 y)) ∧ Below w.heap.size w w' := by
  have HXL := Lib.hid hxl; have HYL := Lib.hid hyl; have HLE := Lib.hid hle
  clear hxl hyl hle
  go_enter Tryd.func95, Tryd.ntmps95
  go_wp2
  go_loopw [5, 6, 7] (fun v5 v6 i wr => ∃ (k c q cap : Nat) (ao : Option Addr) (out : List Nat), k ≤ x.length ∧ i = .int .i64 k ∧ v6 = .int .i64 c ∧ c ≤ 1 ∧ v5 = .slice ao q cap ∧ Hid (q = out.length) ∧ Hid (out.length = k) ∧ Hid (Lo 10 out) ∧
      Hid (vl 10 (x.take k) + 10 ^ k * c = vl 10 out + vl 10 (y.take k)) ∧ Own wr w.heap.size 5 .u8 ao cap out ∧ Below w.heap.size w wr) (fun _ _ i _ => x.length - (intOf i).toNat)
  case atStart => exact ⟨0, 0, 0, 0, none, [], Nat.zero_le _, rfl, rfl, by omega, rfl, (rfl : (0 : Nat) = [].length), (rfl : ([] : List Nat).length = 0), Lo_nil _, (by simp [vl] : vl 10 (x.take 0) + 10 ^ 0 * 0 = vl 10 [] + vl 10 (y.take 0)), Own.nilNone _ _ _ _, Below.refl _ _⟩
  case round =>
    obtain ⟨k, c, q, cap, ao, out, hk, rfl, rfl, hc, rfl, HQ, HOL, HOLo, HV, hown, hbl⟩ := hrel
    by_cases hlt : k < x.length
    · obtain ⟨b1, o1, p, e1, HP, hp, cp⟩ := (ha.below hbl).get HXL.out k hlt
      subst e1
      obtain ⟨y1, hy1⟩ : ∃ y1, y1 = y[k]?.getD 0 := ⟨_, rfl⟩
      have hy : y1 < 10 := by rw [hy1]; exact Lo_get HYL.out (by omega) k
      have HY := Lib.hid hy1
      have hD : ∀ n, Calls Tryd.prog 99 #[.slice b y.length cb, .int .i64 k] (wr.drewN n) fun e u => e = .returned (.int .i64 y1) ∧ wr.drewN n = u := fun n =>
        (digit_any b cb k y (wr.drewN n) (by omega) (by omega) HYL.out ((hb.below hbl).dN n)).mono fun e u ⟨z, HZ, _, he, hw⟩ => ⟨by rw [he, HZ.out, HY.out], hw⟩
      have HD := Lib.hid hD
      clear hD hy1
      have hb1 : (out.length + 1) * 1 ≤ 140737488355328 := by rw [HOL.out]; omega
      have hb2 : out.length + 1 ≤ maxLen := by rw [HOL.out]; unfold maxLen; omega
      have HB1 := Lib.hid hb1; have HB2 := Lib.hid hb2
      clear hb1 hb2
      have fin : ∀ v c' : Nat, p + 10 * c' = v + (y1 + c) → Hid (vl 10 (x.take (k + 1)) + 10 ^ (k + 1) * c' = vl 10 (out ++ [v]) + vl 10 (y.take (k + 1))) :=
        fun v c' h => rsub_step HOL.out (by rw [← HP.out, ← HY.out]; exact h) HV.out
      have HFIN := Lib.hid fin
      clear fin
      by_cases hneg : p < y1 + c
      · have hI : (p : Int) - (y1 : Int) - (c : Int) < 0 := by omega
        go_wp2_with fail
        go_quiet ((go_at_call 99; first | exact still (HD.out _) | exact still2 (HD.out _)))
        go_wp2_with (at_builtin; refine wp_push _ rfl _ _ 54 rfl w.heap.size 5 .u8 1 Tryd.underlying54 infoU8 ao cap q out HQ.out rfl _ (p + 10 - (y1 + c)) (by omega) _ rfl (hown.dN _) HB1.out HB2.out (hbl.size) ?_)
        intro ao' cap' w2 hown2 hb2
        have hbl2 := (bdN hbl _).trans hb2
        have HK := HFIN.out (p + 10 - (y1 + c)) 1 (by omega)
        clear hb2
        go_wp2
        go_roundw
        case rel => exact ⟨k + 1, 1, q + 1, cap', ao', out ++ [p + 10 - (y1 + c)], by omega, by go_num, rfl, by omega, rfl, (by rw [HQ.out]; simp : q + 1 = (out ++ [p + 10 - (y1 + c)]).length), (by rw [List.length_append, HOL.out]; rfl : (out ++ [p + 10 - (y1 + c)]).length = k + 1), (Lo_append HOLo.out (Lo_one (by omega)) : Lo 10 (out ++ [p + 10 - (y1 + c)])), HK, hown2, hbl2⟩
        case measure => simp [intOf]; omega
      · have hI : ¬ (p : Int) - (y1 : Int) - (c : Int) < 0 := by omega
        go_wp2_with fail
        go_quiet ((go_at_call 99; first | exact still (HD.out _) | exact still2 (HD.out _)))
        go_wp2_with (at_builtin; refine wp_push _ rfl _ _ 54 rfl w.heap.size 5 .u8 1 Tryd.underlying54 infoU8 ao cap q out HQ.out rfl _ (p - (y1 + c)) (by omega) _ rfl (hown.dN _) HB1.out HB2.out (hbl.size) ?_)
        intro ao' cap' w2 hown2 hb2
        have hbl2 := (bdN hbl _).trans hb2
        have HK := HFIN.out (p - (y1 + c)) 0 (by omega)
        clear hb2
        go_wp2
        go_roundw
        case rel => exact ⟨k + 1, 0, q + 1, cap', ao', out ++ [p - (y1 + c)], by omega, by go_num, rfl, by omega, rfl, (by rw [HQ.out]; simp : q + 1 = (out ++ [p - (y1 + c)]).length), (by rw [List.length_append, HOL.out]; rfl : (out ++ [p - (y1 + c)]).length = k + 1), (Lo_append HOLo.out (Lo_one (by omega)) : Lo 10 (out ++ [p - (y1 + c)])), HK, hown2, hbl2⟩
        case measure => simp [intOf]; omega
    · obtain rfl : k = x.length := by omega
      have htr := rsub_end HOL.out HOLo.out hm HLE.out HV.out
      have hR := rtrim_any ao cap out wr (by rw [HOL.out]; omega) hown.rd hown.cap.1
      have hown2 := hown.take (tr out).length (by have := tr_take out; rw [this]; simp; omega)
      rw [← tr_take, htr] at hown2
      rw [htr, ← HQ.out] at hR
      have HR := Lib.hid hR
      clear hR htr hown
      go_wp2_with fail
      refine HR.out.mono ?_
      rintro e w1 ⟨rfl, rfl⟩
      go_wp2
      go_ret
      exact ⟨_, _, rfl, hown2, hbl⟩

set_option maxHeartbeats 4000000 in
/-- the document's text -/
theorem RText_any (a : Option Addr) (ca v : Nat) (w : World) (hl : (dg 10 v).length ≤ 1073741824) (hrd : Rd w .u8 a (dg 10 v)) :
    Calls Tryd.prog 50 #[.slice a (dg 10 v).length ca] w fun e w' => e = .returned (.string ⟨(Lib.decDigits v).toArray⟩) ∧ Below w.heap.size w w' := by
  rcases Nat.eq_zero_or_pos v with h0 | h0
  · subst h0
    rw [dg_zero]
    have hz : (⟨(Lib.decDigits 0).toArray⟩ : ByteArray) = ⟨#[48]⟩ := by rw [Lib.decDigits_one (by omega)]; rfl
    have HZ := Lib.hid hz
    clear hz hrd hl
    go_enter Tryd.func50, Tryd.ntmps50
    go_wp2
    go_ret
    exact ⟨by rw [HZ.out]; rfl, Below.refl _ _⟩
  · have hlo := Lo_dg (b := 10) (by omega) v
    have hpos : 0 < (dg 10 v).length := by rw [dg_pos (by omega) h0]; simp
    have hall := rsig_all h0
    have HLO := Lib.hid hlo; have HALL := Lib.hid hall
    have hlen : (dg 10 v).length = (Lib.decDigits v).length := by rw [Lib.decDigits_length, nDigits_len h0]
    have HLEN := Lib.hid hlen
    clear hlo hall h0 hlen
    generalize dg 10 v = x at *
    go_enter Tryd.func50, Tryd.ntmps50
    go_wp2_with (at_make; refine wp_make _ rfl _ _ 53 rfl w.heap.size 5 .u8 1 Tryd.underlying53 infoU8 _ _ _ _ x.length rfl rfl (by omega) (by omega) (by omega) (by unfold maxLen; omega) (Nat.le_refl _) ?_)
    intro w1 hown1 hb1
    go_wp2_with fail
    go_loopw [4] (fun i wr => ∃ k : Nat, k ≤ x.length ∧ i = .int .i64 k ∧ Own wr w.heap.size 5 .u8 (some ⟨w.heap.size, 0, none⟩) x.length (List.replicate (x.length - k) 0 ++ rsig x k) ∧ Below w.heap.size w wr) (fun i _ => x.length - (intOf i).toNat)
    case atStart => exact ⟨0, Nat.zero_le _, rfl, by rw [Nat.sub_zero, show rsig x 0 = [] from rfl, List.append_nil]; exact hown1, hb1⟩
    case round =>
      obtain ⟨k, hk, rfl, hown, hbl⟩ := hrel
      by_cases hlt : k < x.length
      · obtain ⟨b1, o1, p, e1, HP, hp, cp⟩ := (hrd.below hbl).get HLO.out k hlt
        subst e1
        have hlen2 : (List.replicate (x.length - k) 0 ++ rsig x k).length = x.length := by rw [List.length_append, List.length_replicate, rsig_length hk]; omega
        have hfr := hown.frozen (x.length - 1 - k)
        have hcq := hown.cell (x.length - 1 - k) (by omega)
        have hown2 : ∀ yv : Int, yv = ((48 + p : Nat) : Int) → Own (wr.setCell ⟨w.heap.size, x.length - 1 - k, none⟩ (.int .u8 yv)) w.heap.size 5 .u8 (some ⟨w.heap.size, 0, none⟩) x.length (List.replicate (x.length - (k + 1)) 0 ++ rsig x (k + 1)) := by
          intro yv hyv
          have := hown.set' (x.length - 1 - k) _ hyv
          rw [text_set hlt, HP.out] at this
          rw [rsig_step hlt]; exact this
        have HO2 := Lib.hid hown2
        clear hown2 hlen2 hown
        go_wp2
        go_roundw
        case rel => exact ⟨k + 1, by omega, by go_num, HO2.out _ (by omega), hbl.setCell (Nat.le_refl _) _⟩
        case measure => simp [intOf]; omega
      · obtain rfl : k = x.length := by omega
        rw [Nat.sub_self, List.replicate_zero, List.nil_append, HALL.out] at hown
        have hcv := conv_back (P := Tryd.prog) wr 53 9 5 w.heap.size w.heap.size x.length x.length (Lib.decDigits v) Tryd.underlying53 Tryd.underlying5 Tryd.underlying9 hown HLEN.out
        clear hown
        go_wp2
        go_ret
        exact ⟨rfl, hbl⟩

theorem Rd.drop {w : World} {k : IntKind} {b off : Nat} {l : List Nat} (h : Rd w k (some ⟨b, off, none⟩) l) (n : Nat) : Rd w k (some ⟨b, off + n, none⟩) (l.drop n) := by
  intro j hj
  rw [List.length_drop] at hj
  obtain ⟨b', o', e, hc⟩ := h (n + j) (by omega)
  simp only [Option.some.injEq, Addr.mk.injEq, and_true] at e
  obtain ⟨rfl, rfl⟩ := e
  refine ⟨b, off + n, rfl, ?_⟩
  rw [List.getElem?_drop, Nat.add_assoc]; exact hc

theorem ownLit0 (w : World) (e : TypeId) (k : IntKind) : Own (w.alloc (.cells #[] e)) w.heap.size e k (some ⟨w.heap.size, 0, none⟩) 0 [] :=
  ⟨by simp [cs], .inr ⟨w.heap.size, 0, #[], rfl, Nat.le_refl _, heap_alloc_new w _, Nat.le_refl _, by unfold maxLen; omega, rfl, rfl⟩⟩
theorem ownLit1 (w : World) (e : TypeId) (k : IntKind) (x : Nat) {xv : Int} (hx : xv = (x : Int)) : Own (w.alloc (.cells #[.int k xv] e)) w.heap.size e k (some ⟨w.heap.size, 0, none⟩) 1 [x] := by
  subst hx
  exact ⟨by simp [cs], .inr ⟨w.heap.size, 1, #[.int k (x : Int)], rfl, Nat.le_refl _, heap_alloc_new w _, Nat.le_refl _, by unfold maxLen; omega, rfl, rfl⟩⟩
end Go.Proofs.YtofeckdhhaoobaaDoor
