/- Walk of the law's shown. -/
import Derived.Test.YtofeckdhhaoobaaDoorDecPa
import Derived.Test.YtofeckdhhaoobaaDoorDecF
import Derived.Test.YtofeckdhhaoobaaDoorLimbJ
namespace Go.Proofs.YtofeckdhhaoobaaDoor
open Go.RowKit LM

theorem dg1 {x : Nat} (h0 : 0 < x) (h : x < 1000000000) : dg 1000000000 x = [x] := by
  rw [dg_pos (by omega) h0, Nat.div_eq_of_lt h, dg_zero, Nat.mod_eq_of_lt h]
theorem Rd1 {w : World} {b x : Nat} (h : w.cell? ⟨b, 0, none⟩ = some (.int .u32 (x : Int))) : Rd w .u32 (some ⟨b, 0, none⟩) [x] := by
  refine Rd.mk fun j hj => ?_
  have : j = 0 := by simpa using hj
  subst this; simpa using h
theorem Lo4 {l : List Nat} (h : l.all (fun x => decide (x < 4294967296)) = true) : Lo 4294967296 l := by
  intro x hx; simpa using List.all_eq_true.1 h x hx
theorem run1 : rrun ⟨#[45, 49, 50, 46, 53, 48, 101, 49]⟩ 8 0 rs0 = some ⟨9, true, [49, 50, 53, 48], 2, false, 1⟩ := by rfl
theorem run2 : rrun ⟨#[48, 49]⟩ 2 0 rs0 = none := by rfl

theorem dg10_125 : dg 10 125 = [5, 2, 1] := by rw [dg_pos (by omega) (by omega), dg_pos (by omega) (by omega), dg_pos (by omega) (by omega)]; simp [dg_zero]
theorem dg10_12 : dg 10 12 = [2, 1] := by rw [dg_pos (by omega) (by omega), dg_pos (by omega) (by omega)]; simp [dg_zero]
theorem pl_1250 : pl true 1250 (-1) = ⟨true, 125, 0⟩ := by
  have h : tz 1250 = 1 := by rw [tz_yes (by omega) (by omega), tz_no (by omega)]
  unfold pl core; rw [h]; rfl
theorem pl_125 : pl true 125 0 = ⟨true, 125, 0⟩ := by
  have h : tz 125 = 0 := tz_no (by omega)
  unfold pl core; rw [h]; rfl
theorem pl_12 : pl false 12 (-9) = ⟨false, 12, -9⟩ := by
  have h : tz 12 = 0 := tz_no (by omega)
  unfold pl core; rw [h]; rfl
theorem inR_125 : inR ⟨true, 125, 0⟩ = true := by unfold inR dl; rw [dg10_125]; decide
theorem inR_12 : inR ⟨false, 12, -9⟩ = true := by unfold inR dl; rw [dg10_12]; decide
def sA : ByteArray := ⟨#[45, 49, 50, 46, 53, 48, 101, 49]⟩
def sB : ByteArray := ⟨#[48, 49]⟩
theorem prs1 : prsA sA = ⟨0, ⟨true, 125, 0⟩⟩ := by
  have h : rrun sA sA.size 0 rs0 = some ⟨9, true, [49, 50, 53, 48], 2, false, 1⟩ := run1
  unfold prsA; rw [h]
  show (if endOk ⟨9, true, [49, 50, 53, 48], 2, false, 1⟩ = true then (if 1000 < sA.size then _ else tellA true (dv [49, 50, 53, 48]) (expo ⟨9, true, [49, 50, 53, 48], 2, false, 1⟩)) else _) = _
  rw [if_pos (by decide), if_neg (by decide), show dv [49, 50, 53, 48] = 1250 by decide, show expo ⟨9, true, [49, 50, 53, 48], 2, false, 1⟩ = -1 by decide]
  unfold tellA; rw [pl_1250, inR_125, if_pos rfl]
theorem prs2 : prsA sB = ⟨2, zP⟩ := by
  have h : rrun sB sB.size 0 rs0 = none := run2
  unfold prsA; rw [h]
theorem nrm1 : normA 1 true 125 0 = ⟨0, ⟨true, 125, 0⟩⟩ := by
  unfold normA; rw [if_pos (by decide)]; unfold tellA; rw [pl_125, inR_125, if_pos rfl]
theorem nrm2 : normA 1 false 12 (-9) = ⟨0, ⟨false, 12, -9⟩⟩ := by
  unfold normA; rw [if_pos (by decide)]; unfold tellA; rw [pl_12, inR_12, if_pos rfl]
theorem dec125 : Lib.decDigits 125 = [49, 50, 53] := by rw [dec_text, dg10_125]; decide
theorem dec12 : Lib.decDigits 12 = [49, 50] := by rw [dec_text, dg10_12]; decide
theorem itoa8 : Lib.itoa (-8) = [45, 56] := by simp [Lib.itoa, Lib.decDigits_one]
theorem wtx1 : wtx ⟨0, ⟨true, 125, 0⟩⟩ = [45, 49, 50, 53] := by
  unfold wtx; rw [if_pos rfl]; show (if true = true then _ else _) = _; rw [if_pos rfl]; show 45 :: wos (Lib.decDigits 125) 0 = _
  rw [dec125]; decide
theorem wtx2 : wtx ⟨0, ⟨false, 12, -9⟩⟩ = [49, 46, 50, 101, 45, 56] := by
  unfold wtx; rw [if_pos rfl]; show (if false = true then _ else wos (Lib.decDigits 12) (-9)) = _; rw [if_neg Bool.false_ne_true, dec12]
  unfold wos; rw [if_neg (by decide), if_neg (by decide)]; show wpow [49, 50] (-8) = _; unfold wpow; rw [itoa8]; decide

theorem sParse1 (w : World) (htab : Tab w) : Calls Tryd.prog 20 #[.string ⟨#[45, 49, 50, 46, 53, 48, 101, 49]⟩] w fun r w' => ∃ a c, r = .returned (.tuple #[.agg #[.bool true, .slice a 1 c, .int .i64 0], .int .i64 0]) ∧ Rd w' .u32 a [125] ∧ Below w.heap.size w w' := by
  have h := Parse_D sA w (by decide) htab
  rw [prs1] at h
  refine h.mono ?_
  rintro r w' ⟨a, c, he, ho, hb⟩
  have e : dg 1000000000 125 = [125] := dg1 (by omega) (by omega)
  have ho' : Own w' w.heap.size 50 .u32 a c (dg 1000000000 125) := ho
  rw [e] at ho'
  have he' : r = .returned (.tuple #[.agg #[.bool true, .slice a (dg 1000000000 125).length c, .int .i64 0], .int .i64 0]) := he
  rw [e] at he'
  exact ⟨a, c, he', ho'.rd, hb⟩
theorem sParse2 (w : World) (htab : Tab w) : Calls Tryd.prog 20 #[.string ⟨#[48, 49]⟩] w fun r w' => ∃ a c, r = .returned (.tuple #[.agg #[.bool false, .slice a 0 c, .int .i64 0], .int .i64 2]) ∧ Below w.heap.size w w' := by
  have h := Parse_D sB w (by decide) htab
  rw [prs2] at h
  refine h.mono ?_
  rintro r w' ⟨a, c, he, ho, hb⟩
  have ho' : Own w' w.heap.size 50 .u32 a c (dg 1000000000 0) := ho
  have he' : r = .returned (.tuple #[.agg #[.bool false, .slice a (dg 1000000000 0).length c, .int .i64 0], .int .i64 2]) := he
  rw [dg_zero] at ho' he'
  exact ⟨a, c, he', hb⟩
theorem sText1 (a : Option Addr) (c : Nat) (w : World) (htab : Tab w) (h1 : Rd w .u32 a [125]) : Calls Tryd.prog 22 #[.agg #[.bool true, .slice a 1 c, .int .i64 0]] w fun r w' => r = .returned (.tuple #[.string ⟨#[45, 49, 50, 53]⟩, .int .i64 0]) ∧ Below w.heap.size w w' := by
  have h := DText_any true a c [125] 0 w (by simp) (Lo4 (by decide)) h1 htab
  rw [vl_one, show [125].length = 1 from rfl, nrm1, wtx1] at h
  exact h
theorem sText2 (b : Nat) (w : World) (htab : Tab w) (h1 : Rd w .u32 (some ⟨b, 0, none⟩) [12]) : Calls Tryd.prog 22 #[.agg #[.bool false, .slice (some ⟨b, 0, none⟩) 1 1, .int .i64 (-9)]] w fun r w' => r = .returned (.tuple #[.string ⟨#[49, 46, 50, 101, 45, 56]⟩, .int .i64 0]) ∧ Below w.heap.size w w' := by
  have h := DText_any false (some ⟨b, 0, none⟩) 1 [12] (-9) w (by simp) (Lo4 (by decide)) h1 htab
  rw [vl_one, show [12].length = 1 from rfl, nrm2, wtx2] at h
  exact h
theorem sSameD (a1 a2 : Option Addr) (c1 c2 : Nat) (w : World) (r1 : Rd w .u32 a1 [125]) (r2 : Rd w .u32 a2 [125]) : Calls Tryd.prog 15 #[.agg #[.bool true, .slice a1 1 c1, .int .i64 0], .agg #[.bool true, .slice a2 1 c2, .int .i64 0]] w fun r w' => r = .returned (.bool true) ∧ Below w.heap.size w w' :=
  sameD_any true true a1 a2 c1 c2 [125] [125] 0 0 w (by simp) (by simp) r1 r2

set_option maxHeartbeats 8000000 in
theorem shown_any (w : World) (htab : Tab w) : Calls Tryd.prog 12 #[] w fun r w' => r = .returned (.bool true) ∧ Below w.heap.size w w' := by
  go_enter Tryd.func12, Tryd.ntmps12
  go_wp2_with fail
  refine (sParse1 _ htab).mono ?_
  rintro r w1 ⟨a1, c1, rfl, hr1, hb1⟩
  go_wp2_with fail
  refine (sText1 a1 c1 _ ((htab.below hb1).below ((Below.refl _ _).alloc (Nat.le_refl _) _)) (hr1.alloc _)).mono ?_
  rintro r w2 ⟨rfl, hb2⟩
  have b2 := (hb1.alloc hb1.size (.cells #[.bool true, .slice a1 1 c1, .int .i64 0] 24)).trans (hb2.mono (by simp; have := hb1.size; omega))
  have q0 : w2.cell? ⟨w1.heap.size, 0, none⟩ = some (.bool true) := by rw [hb2.cell (by simp)]; simp
  have q1 : w2.cell? ⟨w1.heap.size, 1, none⟩ = some (.slice a1 1 c1) := by rw [hb2.cell (by simp)]; simp
  have q2 : w2.cell? ⟨w1.heap.size, 2, none⟩ = some (.int .i64 0) := by rw [hb2.cell (by simp)]; simp
  have hr2 := (hr1.alloc (.cells #[.bool true, .slice a1 1 c1, .int .i64 0] 24)).below hb2
  clear hr1 hb1 hb2
  go_wp2_with fail
  refine (sText2 w2.heap.size _ ((htab.below b2).below ((Below.refl _ _).alloc (Nat.le_refl _) _)) (Rd1 (by simp))).mono ?_
  rintro r w3 ⟨rfl, hb3⟩
  have hb3' : Below w2.heap.size w2 w3 := ((Below.refl _ _).alloc (Nat.le_refl _) (.cells #[.int .u32 12] 50)).trans (hb3.mono (by simp))
  have b3 := b2.trans (hb3'.mono b2.size)
  have p0 := cellB q0 hb3'
  have p1 := cellB q1 hb3'
  have p2 := cellB q2 hb3'
  have hr3 := hr2.below hb3'
  clear hb3 hb3' hr2 q0 q1 q2 b2
  go_wp2_with fail
  refine (sParse2 _ (htab.below b3)).mono ?_
  rintro r w4 ⟨a4, c4, rfl, hb4⟩
  have b4 := b3.trans (hb4.mono b3.size)
  have q0 := cellB p0 hb4
  have q1 := cellB p1 hb4
  have q2 := cellB p2 hb4
  have hr4 := hr3.below hb4
  have hb5 := (Below.refl w4.heap.size w4).alloc (Nat.le_refl _) (.cells #[.bool false, .slice a4 0 c4, .int .i64 0] 24)
  have t0 := cellB q0 hb5
  have t1 := cellB q1 hb5
  have t2 := cellB q2 hb5
  have b5 := b4.trans (hb5.mono b4.size)
  have hr5 := hr4.below hb5
  have hz5 : (w4.alloc (.cells #[.bool false, .slice a4 0 c4, .int .i64 0] 24)).heap.size = w4.heap.size + 1 := by simp
  clear hb4 hr3 p0 p1 p2 b3 hb5 b4 hr4 q0 q1 q2
  go_wp2_with fail
  refine (sSameD a1 (some ⟨w4.heap.size + 1, 0, none⟩) c1 1 _ (hr5.alloc _) (Rd1 (by simp))).mono ?_
  rintro r w6 ⟨rfl, hb6⟩
  have b6 := (b5.alloc b5.size (.cells #[.int .u32 125] 50)).trans (hb6.mono (by simp; have := b5.size; simp at this; omega))
  go_wp2
  go_ret
  exact ⟨rfl, b6⟩
end Go.Proofs.YtofeckdhhaoobaaDoor
