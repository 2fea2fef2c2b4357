/- parens: the statements' common head walked. -/
import Derived.Test.YtelagemniheeoaaDoorParT
namespace Go.Proofs.YtelagemniheeoaaDoor
open Go.RowKit BM

def f11 : Nat → Bool := BM.wb [11#64]
set_option maxRecDepth 100000 in
theorem z1 : cls f11 6 0 = 5 := by decide +kernel
set_option maxRecDepth 100000 in
theorem z2 : cls f11 6 1 = 2 := by decide +kernel
set_option maxRecDepth 100000 in
theorem z3 : enc f11 6 3 = 0 := by decide +kernel
set_option maxRecDepth 100000 in
theorem z4 : siz f11 6 0 = 3 := by decide +kernel
set_option maxRecDepth 100000 in
theorem z5 : chl f11 6 0 1 = 3 := by decide +kernel
set_option maxRecDepth 100000 in
theorem z6 : sel f11 6 2 = 3 := by decide +kernel
set_option maxRecDepth 100000 in
theorem z7 : ex f11 2 = 2 := by decide +kernel
set_option maxRecDepth 20000 in
set_option maxHeartbeats 2000000 in
theorem shown_any (w : World) (hT : Tb w) : Calls Tryd.prog 9 #[] w (ResB true w) := by
  have bA := (Below.refl w.heap.size w).alloc (Nat.le_refl _) (.cells #[.int .u64 11] 27)
  have hr : RdV (w.alloc (.cells #[.int .u64 11] 27)) (some ⟨w.heap.size, 0, none⟩) (wv8 [11#64]) := fun j u hj => by
    have hj' : j < 1 := by have := (List.getElem?_eq_some_iff.1 hj).1; simpa [wv8] using this
    obtain rfl : j = 0 := by omega
    refine ⟨_, _, rfl, ?_⟩
    simp [wv8] at hj
    subst hj
    simp
    rfl
  have hN := New_any (some ⟨w.heap.size, 0, none⟩) 1 [11#64] 6 _ hr (fun h => by cases h) (by decide) (by decide) (by omega)
  have HN := Lib.hid hN
  have BA := Lib.hid bA
  have HT := Lib.hid hT
  clear hN hr bA hT
  go_enter Tryd.func9, Tryd.ntmps9
  go_wp2_with fail
  refine HN.out.mono ?_
  rintro r w1 ⟨b, v, rfl, hV, hn, hf, -, hb1, -⟩
  have hn6 : v.n = 6 := hn
  have hag : Agr v.f f11 6 := fun i hi => hf i (by omega)
  have HB1 := Lib.hid (BA.out.trans (hb1.mono BA.out.size))
  have HX := Lib.hid (fun W (hb : Below w1.heap.size w1 W) => (⟨hV.1.below hb, hV.2⟩ : VX0 W b v))
  have HL := Lib.hid (fun W hb => by have h := Len_any _ v.n W (HX.out W hb).1.len; rw [hn6] at h; exact h)
  have HC0 := Lib.hid (fun W hb => by have h := Close_any b v 0 W (HX.out W hb) (by omega); rw [hn6, hag.cls, z1] at h; exact h)
  have HC1 := Lib.hid (fun W hb => by have h := Close_any b v 1 W (HX.out W hb) (by omega); rw [hn6, hag.cls, z2] at h; exact h)
  have HE := Lib.hid (fun W hb => by have h := Enclose_any b v 3 W (HX.out W hb) (by omega); rw [hn6, hag.enc, z3] at h; exact h)
  have HS := Lib.hid (fun W hb => by have h := Size_any b v 0 W (HX.out W hb) (by omega); rw [hn6, hag.siz, z4] at h; exact h)
  have HCh := Lib.hid (fun W hb => by have h := Child_any b v 0 1 W (HX.out W hb) (by omega) (by omega); rw [hn6, hag.chl, z5] at h; exact h)
  have HSe := Lib.hid (fun W (hb : Below w1.heap.size w1 W) => by have h := Select_any b v 2 W (HT.out.below (HB1.out.trans (hb.mono HB1.out.size))) (HX.out W hb); rw [hn6, hag.sel, z6] at h; exact h)
  have HEx := Lib.hid (fun W hb => by have h := Excess_any b v 2 W (HX.out W hb).1 hV.2.1.1; rw [hn6, show clp 6 2 = 2 from rfl, hag.ex (by omega), z7] at h; exact h)
  clear hV hn hf hn6 hag hb1 HX HN
  have b0 := Below.refl w1.heap.size w1
  go_wp2_with fail
  refine (HL.out w1 b0).mono ?_
  rintro r w2 ⟨rfl, rfl⟩
  go_wp2_with fail
  refine (HC0.out w1 b0).mono ?_
  rintro r w2 ⟨rfl, h2⟩
  have b2 := b0.trans h2
  clear b0 h2
  go_wp2_with fail
  refine (HC1.out w2 b2).mono ?_
  rintro r w3 ⟨rfl, h3⟩
  have b3 := b2.trans (h3.mono b2.size)
  clear b2 h3
  go_wp2_with fail
  refine (HE.out w3 b3).mono ?_
  rintro r w4 ⟨rfl, h4⟩
  have b4 := b3.trans (h4.mono b3.size)
  clear b3 h4
  go_wp2_with fail
  refine (HS.out w4 b4).mono ?_
  rintro r w5 ⟨rfl, h5⟩
  have b5 := b4.trans (h5.mono b4.size)
  clear b4 h5
  go_wp2_with fail
  refine (HCh.out w5 b5).mono ?_
  rintro r w6 ⟨rfl, h6⟩
  have b6 := b5.trans (h6.mono b5.size)
  clear b5 h6
  go_wp2_with fail
  refine (HSe.out w6 b6).mono ?_
  rintro r w7 ⟨rfl, h7⟩
  have b7 := b6.trans (h7.mono b6.size)
  clear b6 h7
  go_wp2_with fail
  refine (HEx.out w7 b7).mono ?_
  rintro r w8 ⟨rfl, m, rfl⟩
  go_wp2
  go_ret
  exact ⟨rfl, HB1.out.trans ((bdN b7 m).mono HB1.out.size)⟩
def greatB (l : Nat) : Bool := decide (12 < l)
theorem great_any (a : Option Addr) (l c : Nat) (w : World) : Calls Tryd.prog 10 #[.slice a l c] w fun r w' => r = .returned (.bool (greatB l)) ∧ w = w' := by
  unfold greatB
  go_enter Tryd.func10, Tryd.ntmps10
  go_wp2
  all_goals go_ret
  all_goals exact ⟨ret_bool (by rw [Bool.eq_iff_iff, decide_eq_true_iff, decide_eq_true_iff]; omega), rfl⟩
end Go.Proofs.YtelagemniheeoaaDoor
