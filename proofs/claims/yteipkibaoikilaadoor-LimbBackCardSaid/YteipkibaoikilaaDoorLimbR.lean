/- Walks: shown. -/
import Derived.Test.YteipkibaoikilaaDoorLimbP
namespace Go.Proofs.YteipkibaoikilaaDoor
open Go.RowKit LM Go.Shelf

set_option maxHeartbeats 400000 in
theorem same_any (a b : Option Addr) (ca cb : Nat) (l m : List Nat) (w : World) (hl : l.length ≤ 9223372036854775807) (hm : m.length ≤ 9223372036854775807) (ha : Rd w .u32 a l) (hb : Rd w .u32 b m) :
    Calls Tryd.prog 16 #[.slice a l.length ca, .slice b m.length cb] w fun e w' => e = .returned (.bool (decide (l = m))) ∧ Below w.heap.size w w' := by
  have HS := Lib.hid (Same_any a b ca cb l m w hl hm ha hb)
  go_enter Tryd.func16, Tryd.ntmps16
  go_wp2_with fail
  refine HS.out.mono ?_
  rintro e w' ⟨rfl, hbl⟩
  go_wp2
  go_ret
  exact ⟨rfl, hbl⟩

theorem vl2 (x y : Nat) : vl 1000000000 [x, y] = x + 1000000000 * y := by simp [vl]
theorem dg1 {x : Nat} (h0 : 0 < x) (h : x < 1000000000) : dg 1000000000 x = [x] := by
  rw [dg_pos (by omega) h0, Nat.div_eq_of_lt h, dg_zero, Nat.mod_eq_of_lt h]
theorem dg2 {x y : Nat} (h : x < 1000000000) (h0 : 0 < y) (hy : y < 1000000000) : dg 1000000000 (x + 1000000000 * y) = [x, y] := by
  rw [dg_pos (by omega) (by omega), Nat.add_mul_mod_self_left, Nat.mod_eq_of_lt h, Nat.add_mul_div_left _ _ (by omega), Nat.div_eq_of_lt h, Nat.zero_add, dg1 h0 hy]
theorem Rd1 {w : World} {b x : Nat} (h : w.cell? ⟨b, 0, none⟩ = some (.int .u32 (x : Int))) : Rd w .u32 (some ⟨b, 0, none⟩) [x] := by
  refine Rd.mk fun j hj => ?_
  have : j = 0 := by simpa using hj
  subst this; simpa using h
theorem Rd2 {w : World} {b x y : Nat} (h : w.cell? ⟨b, 0, none⟩ = some (.int .u32 (x : Int))) (h2 : w.cell? ⟨b, 1, none⟩ = some (.int .u32 (y : Int))) : Rd w .u32 (some ⟨b, 0, none⟩) [x, y] := by
  refine Rd.mk fun j hj => ?_
  have : j = 0 ∨ j = 1 := by simp at hj; omega
  rcases this with rfl | rfl
  · simpa using h
  · simpa using h2

theorem Lo4 {l : List Nat} (h : l.all (fun x => decide (x < 4294967296)) = true) : Lo 4294967296 l := by
  intro x hx; simpa using List.all_eq_true.1 h x hx
theorem sDivMod (b b' : Nat) (w : World) (h1 : Rd w .u32 (some ⟨b, 0, none⟩) [7, 1]) (h2 : Rd w .u32 (some ⟨b', 0, none⟩) [10]) :
    Calls Tryd.prog 30 #[.slice (some ⟨b, 0, none⟩) 2 2, .slice (some ⟨b', 0, none⟩) 1 1] w fun e w' => ∃ a1 c1 a2 c2, e = .returned (.tuple #[.slice a1 1 c1, .slice a2 1 c2, .int .i64 0]) ∧ Rd w' .u32 a1 [100000000] ∧ Rd w' .u32 a2 [7] ∧ Below w.heap.size w w' := by
  have eX : vl 1000000000 [7, 1] = 1000000007 := by rw [vl2]
  have eY : vl 1000000000 [10] = 10 := vl_one _ _
  have dX : dg 1000000000 1000000007 = [7, 1] := dg2 (x := 7) (y := 1) (by omega) (by omega) (by omega)
  have dY : dg 1000000000 10 = [10] := dg1 (by omega) (by omega)
  have dQ : dg 1000000000 (1000000007 / 10) = [100000000] := dg1 (x := 100000000) (by omega) (by omega)
  have dR : dg 1000000000 (1000000007 % 10) = [7] := dg1 (x := 7) (by omega) (by omega)
  have h := DivMod_any 0 Div64_zero (some ⟨b, 0, none⟩) (some ⟨b', 0, none⟩) 2 1 [7, 1] [10] w (by simp) (by simp) (Lo4 (by decide)) (Lo4 (by decide)) h1 h2 0 (by rw [eY, dY]; rfl) (by rw [eX, eY, dX, dY]; simp) (Or.inr (by rw [eY, dY]; simp))
  rw [eX, eY, dQ, dR] at h
  exact h.mono fun e w' ⟨a1, c1, a2, c2, he, o1, o2, hb⟩ => ⟨a1, c1, a2, c2, he, o1.rd, o2.rd, hb⟩
def s007 : ByteArray := { data := #[48, 48, 55] }
theorem sParse (w : World) :
    Calls Tryd.prog 35 #[.string { data := #[48, 48, 55] }] w fun e w' => ∃ a1 c1, e = .returned (.tuple #[.slice a1 1 c1, .int .i64 0]) ∧ Rd w' .u32 a1 [7] ∧ Below w.heap.size w w' := by
  have h := Parse_ok s007 w (by decide) (by decide)
  rw [show dv s007.data.toList = 7 by decide, dg1 (x := 7) (by omega) (by omega)] at h
  exact h.mono fun e w' ⟨a1, c1, he, o1, hb⟩ => ⟨a1, c1, he, o1.rd, hb⟩
theorem sShift (b : Nat) (w : World) (h1 : Rd w .u32 (some ⟨b, 0, none⟩) [7]) :
    Calls Tryd.prog 37 #[.slice (some ⟨b, 0, none⟩) 1 1, .int .i64 9] w fun e w' => ∃ a1 c1, e = .returned (.tuple #[.slice a1 2 c1, .int .i64 0]) ∧ Rd w' .u32 a1 [0, 7] ∧ Below w.heap.size w w' := by
  have h := Shift_any (some ⟨b, 0, none⟩) 1 [7] 9 w (by omega) (by simp) (Lo4 (by decide)) h1
  rw [vl_one, show 7 * 10 ^ 9 = 0 + 1000000000 * 7 by decide, dg2 (x := 0) (y := 7) (by omega) (by omega) (by omega)] at h
  exact h.mono fun e w' ⟨a1, c1, he, o1, hb⟩ => ⟨a1, c1, he, o1.rd, hb⟩
theorem sSub (b b' : Nat) (w : World) (h1 : Rd w .u32 (some ⟨b, 0, none⟩) [1]) (h2 : Rd w .u32 (some ⟨b', 0, none⟩) [2]) :
    Calls Tryd.prog 24 #[.slice (some ⟨b, 0, none⟩) 1 1, .slice (some ⟨b', 0, none⟩) 1 1] w fun e w' => e = .returned (.tuple #[.slice none 0 0, .int .i64 1]) ∧ Below w.heap.size w w' :=
  Sub_less (some ⟨b, 0, none⟩) (some ⟨b', 0, none⟩) 1 1 [1] [2] w (by simp) (by simp) (Lo4 (by decide)) (Lo4 (by decide)) h1 h2 (by rw [vl_one, vl_one]; omega)
theorem sNorm (b : Nat) (w : World) (h1 : Rd w .u32 (some ⟨b, 0, none⟩) [2000000005, 0]) :
    Calls Tryd.prog 17 #[.slice (some ⟨b, 0, none⟩) 2 2] w fun e w' => ∃ a1 c1, e = .returned (.slice a1 2 c1) ∧ Rd w' .u32 a1 [5, 2] ∧ Below w.heap.size w w' := by
  have h := Norm_any (some ⟨b, 0, none⟩) 2 [2000000005, 0] w (by simp) (Lo4 (by decide)) h1
  rw [vl2, show 2000000005 + 1000000000 * 0 = 5 + 1000000000 * 2 by decide, dg2 (x := 5) (y := 2) (by omega) (by omega) (by omega)] at h
  exact h.mono fun e w' ⟨a1, c1, he, o1, hb⟩ => ⟨a1, c1, he, o1.rd, hb⟩
theorem sText (b : Nat) (w : World) (htab : Tab w) (h1 : Rd w .u32 (some ⟨b, 0, none⟩) [5, 2]) :
    Calls Tryd.prog 32 #[.slice (some ⟨b, 0, none⟩) 2 2] w fun e w' => e = .returned (.string { data := #[50, 48, 48, 48, 48, 48, 48, 48, 48, 53] }) ∧ Below w.heap.size w w' := by
  have h := Text_any (some ⟨b, 0, none⟩) 2 [5, 2] w (by simp) (Lo4 (by decide)) h1 htab
  have e1 : Lib.decDigits (5 + 1000000000 * 2) = [50, 48, 48, 48, 48, 48, 48, 48, 48, 53] := by
    have h9 := dec_pad 9 5 2 (by omega) (by decide)
    rw [show (10 : Nat) ^ 9 = 1000000000 by decide] at h9
    rw [h9, Lib.decDigits_one (by omega)]; decide
  rw [vl2, e1] at h
  exact h
theorem sSame (a b : Option Addr) (ca cb n : Nat) (l m : List Nat) (w : World) (hn : l.length = n) (hlm : l = m) (hn2 : n ≤ 40) (ha : Rd w .u32 a l) (hb : Rd w .u32 b m) :
    Calls Tryd.prog 16 #[.slice a n ca, .slice b n cb] w fun e w' => e = .returned (.bool true) ∧ Below w.heap.size w w' := by
  subst hlm hn
  have h := same_any a b ca cb l l w (by omega) (by omega) ha hb
  rw [decide_eq_true rfl] at h
  exact h

set_option maxHeartbeats 8000000 in
set_option maxRecDepth 100000 in
theorem shown_any (w : World) (htab : Tab w) :
    Calls Tryd.prog 14 #[] w fun e w' => e = .returned (.bool true) ∧ Below w.heap.size w w' := by
  have HT := Lib.hid htab
  clear htab
  go_enter Tryd.func14, Tryd.ntmps14
  go_wp2_with fail
  refine (sDivMod w.heap.size (w.heap.size + 1) _ (Rd2 (by simp) (by simp)) (Rd1 (by simp))).mono ?_
  rintro e w1 ⟨a1, c1, a2, c2, rfl, hq, hr, hb1⟩
  have b1 : Below w.heap.size w w1 := (((Below.refl w.heap.size w).alloc (Nat.le_refl _) _).alloc (by simp) _).trans (hb1.mono (by simp; omega))
  clear hb1
  go_wp2_with fail
  refine (sParse _).mono ?_
  rintro e w2 ⟨a3, c3, rfl, hp, hb2⟩
  have b2 := b1.trans (hb2.mono b1.size)
  have hq2 := hq.below hb2; have hr2 := hr.below hb2
  clear b1 hb2 hq hr
  go_wp2_with fail
  refine (sShift w2.heap.size _ (Rd1 (by simp))).mono ?_
  rintro e w3 ⟨a4, c4, rfl, hs, hb3⟩
  have b3 := b2.trans (((Below.refl w.heap.size w2).alloc b2.size _).trans (hb3.mono (by simp; have := b2.size; omega)))
  have hq3 := (hq2.alloc _).below hb3; have hr3 := (hr2.alloc _).below hb3; have hp3 := (hp.alloc _).below hb3
  clear b2 hb3 hq2 hr2 hp
  go_wp2_with fail
  refine (sSub w3.heap.size (w3.heap.size + 1) _ (Rd1 (by simp)) (Rd1 (by simp))).mono ?_
  rintro e w4 ⟨rfl, hb4⟩
  have b4 := b3.trans ((((Below.refl w.heap.size w3).alloc b3.size _).alloc (by simp; have := b3.size; omega) _).trans (hb4.mono (by simp; have := b3.size; omega)))
  have hq4 := ((hq3.alloc _).alloc _).below hb4; have hr4 := ((hr3.alloc _).alloc _).below hb4; have hp4 := ((hp3.alloc _).alloc _).below hb4; have hs4 := ((hs.alloc _).alloc _).below hb4
  clear b3 hb4 hq3 hr3 hp3 hs
  go_wp2_with fail
  refine (sNorm w4.heap.size _ (Rd2 (by simp) (by simp))).mono ?_
  rintro e w5 ⟨a5, c5, rfl, hn, hb5⟩
  have b5 := b4.trans (((Below.refl w.heap.size w4).alloc b4.size _).trans (hb5.mono (by simp; have := b4.size; omega)))
  have hq5 := (hq4.alloc _).below hb5; have hr5 := (hr4.alloc _).below hb5; have hp5 := (hp4.alloc _).below hb5; have hs5 := (hs4.alloc _).below hb5
  clear b4 hb5 hq4 hr4 hp4 hs4
  go_wp2_with fail
  refine (sSame a5 (some ⟨w5.heap.size, 0, none⟩) c5 2 2 [5, 2] [5, 2] _ rfl rfl (by omega) (hn.alloc _) (Rd2 (by simp) (by simp))).mono ?_
  rintro e w6 ⟨rfl, hb6⟩
  have b6 := b5.trans (((Below.refl w.heap.size w5).alloc b5.size _).trans (hb6.mono (by simp; have := b5.size; omega)))
  have hq6 := (hq5.alloc _).below hb6; have hr6 := (hr5.alloc _).below hb6; have hp6 := (hp5.alloc _).below hb6; have hs6 := (hs5.alloc _).below hb6
  clear b5 hb6 hq5 hr5 hp5 hs5 hn
  go_wp2_with fail
  refine (sSame a1 (some ⟨w6.heap.size, 0, none⟩) c1 1 1 [100000000] [100000000] _ rfl rfl (by omega) (hq6.alloc _) (Rd1 (by simp))).mono ?_
  rintro e w7 ⟨rfl, hb7⟩
  have b7 := b6.trans (((Below.refl w.heap.size w6).alloc b6.size _).trans (hb7.mono (by simp; have := b6.size; omega)))
  have hr7 := (hr6.alloc _).below hb7
  have hp7 := (hp6.alloc _).below hb7
  have hs7 := (hs6.alloc _).below hb7
  clear b6 hb7 hq6 hr6 hp6 hs6
  go_wp2_with fail
  refine (sSame a2 (some ⟨w7.heap.size, 0, none⟩) c2 1 1 [7] [7] _ rfl rfl (by omega) (hr7.alloc _) (Rd1 (by simp))).mono ?_
  rintro e w8 ⟨rfl, hb8⟩
  have b8 := b7.trans (((Below.refl w.heap.size w7).alloc b7.size _).trans (hb8.mono (by simp; have := b7.size; omega)))
  have hp8 := (hp7.alloc _).below hb8
  have hs8 := (hs7.alloc _).below hb8
  clear b7 hb8 hr7 hp7 hs7
  go_wp2_with fail
  refine (sText w8.heap.size _ ((HT.out.below b8).below ((Below.refl _ _).alloc (Nat.le_refl _) _)) (Rd2 (by simp) (by simp))).mono ?_
  rintro e w9 ⟨rfl, hb9⟩
  have b9 := b8.trans (((Below.refl w.heap.size w8).alloc b8.size _).trans (hb9.mono (by simp; have := b8.size; omega)))
  have hp9 := (hp8.alloc _).below hb9
  have hs9 := (hs8.alloc _).below hb9
  clear b8 hb9 hp8 hs8
  go_wp2_with fail
  refine (sSame a3 (some ⟨w9.heap.size, 0, none⟩) c3 1 1 [7] [7] _ rfl rfl (by omega) (hp9.alloc _) (Rd1 (by simp))).mono ?_
  rintro e w10 ⟨rfl, hb10⟩
  have b10 := b9.trans (((Below.refl w.heap.size w9).alloc b9.size _).trans (hb10.mono (by simp; have := b9.size; omega)))
  have hs10 := (hs9.alloc _).below hb10
  clear b9 hb10 hp9 hs9
  go_wp2_with fail
  refine (sSame a4 (some ⟨w10.heap.size, 0, none⟩) c4 2 2 [0, 7] [0, 7] _ rfl rfl (by omega) (hs10.alloc _) (Rd2 (by simp) (by simp))).mono ?_
  rintro e w11 ⟨rfl, hb11⟩
  have b11 := b10.trans (((Below.refl w.heap.size w10).alloc b10.size _).trans (hb11.mono (by simp; have := b10.size; omega)))
  clear b10 hb11 hs10
  go_wp2_with fail
  go_wp2
  go_ret
  exact ⟨rfl, b11⟩
end Go.Proofs.YteipkibaoikilaaDoor
