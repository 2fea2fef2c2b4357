/- Walk of the law DecParses. -/
import Derived.Test.YtofeckdhhaoobaaDoorDecU
import Derived.Test.YtofeckdhhaoobaaDoorDecL
import Derived.Test.YtofeckdhhaoobaaDoorDecCp
namespace Go.Proofs.YtofeckdhhaoobaaDoor
open Go.RowKit LM

theorem sameB_self3 (s : Bool) (e : Int) (l : List Nat) : sameB s s e e l l = true := by simp [sameB]
theorem litA_dl (n : Nat) (x : Option Lit) : (dg 10 (litA n x).p.m).length ≤ 1000000 := by
  have h : inR (litA n x).p = true := by
    unfold litA
    rcases x with _ | t
    · exact zP_in
    · simp only
      split
      · exact zP_in
      · exact tellA_in _ _ _
  have := (inR_bounds h).1
  unfold dl at this; omega

set_option maxHeartbeats 8000000 in
set_option maxRecDepth 20000 in
theorem dparses_main (s : ByteArray) (w : World) (hs : s.size ≤ 140737488351232) (htab : Tab w) :
    Calls Tryd.prog 5 #[.string s] w fun r w' => r = .returned (.bool true) ∧ Below w.heap.size w w' := by
  have hP := fun W ht => Parse_D s W hs ht
  have hR := fun W => RParseD_any s W hs
  have hdl : (dg 10 (prsA s).p.m).length ≤ 1000000 := by rw [prs_lit]; exact litA_dl _ _
  generalize prsA s = A at *
  have hlen : (dg 1000000000 A.p.m).length ≤ 9223372036854775807 := Nat.le_trans (dg_len_9 _) (Nat.le_trans hdl (by omega))
  have hS := fun a1 a4 c1 c4 W r1 r2 => sameD_any A.p.neg A.p.neg a1 a4 c1 c4 _ _ A.p.e A.p.e W hlen hlen r1 r2
  rw [sameB_self3] at hS
  have HP := Lib.hid hP; have HR := Lib.hid hR; have HS := Lib.hid hS
  clear hP hR hS hdl hlen hs
  go_enter Tryd.func5, Tryd.ntmps5
  go_wp2_with fail
  refine (shown_any _ htab).mono ?_
  rintro r w1 ⟨rfl, b1⟩
  go_wp2_with fail
  refine (HP.out _ (htab.below b1)).mono ?_
  rintro r w2 ⟨a1, c1, rfl, ho1, hb2⟩
  have b2 := b1.trans (hb2.mono b1.size)
  have hb3 := (Below.refl w2.heap.size w2).alloc (Nat.le_refl _) (.cells #[.bool A.p.neg, .slice a1 (dg 1000000000 A.p.m).length c1, .int .i64 A.p.e] 24)
  have m0 : (w2.alloc (.cells #[.bool A.p.neg, .slice a1 (dg 1000000000 A.p.m).length c1, .int .i64 A.p.e] 24)).cell? ⟨w2.heap.size, 0, none⟩ = some (.bool A.p.neg) := by simp
  have m1 : (w2.alloc (.cells #[.bool A.p.neg, .slice a1 (dg 1000000000 A.p.m).length c1, .int .i64 A.p.e] 24)).cell? ⟨w2.heap.size, 1, none⟩ = some (.slice a1 (dg 1000000000 A.p.m).length c1) := by simp
  have m2 : (w2.alloc (.cells #[.bool A.p.neg, .slice a1 (dg 1000000000 A.p.m).length c1, .int .i64 A.p.e] 24)).cell? ⟨w2.heap.size, 2, none⟩ = some (.int .i64 A.p.e) := by simp
  have b3 := b2.trans (hb3.mono b2.size)
  have hr1 := ho1.rd.below hb3
  clear b1 b2 hb2 hb3 ho1
  go_wp2_with fail
  refine (HR.out _).mono ?_
  rintro r w4 ⟨a4, c4, rfl, ho4, hb4⟩
  have b4 := b3.trans (hb4.mono b3.size)
  have n0 := cellB m0 hb4
  have n1 := cellB m1 hb4
  have n2 := cellB m2 hb4
  have hr2 := hr1.below hb4
  have hb5 := (Below.refl w4.heap.size w4).alloc (Nat.le_refl _) (.cells #[.bool A.p.neg, .slice a4 (dg 1000000000 A.p.m).length c4, .int .i64 A.p.e] 24)
  have b5 := b4.trans (hb5.mono b4.size)
  have m0 := cellB n0 hb5
  have m1 := cellB n1 hb5
  have m2 := cellB n2 hb5
  have hr3 := hr2.below hb5
  have hr4 := ho4.rd.below hb5
  have l0 : (w4.alloc (.cells #[.bool A.p.neg, .slice a4 (dg 1000000000 A.p.m).length c4, .int .i64 A.p.e] 24)).cell? ⟨w4.heap.size, 0, none⟩ = some (.bool A.p.neg) := by simp
  have l1 : (w4.alloc (.cells #[.bool A.p.neg, .slice a4 (dg 1000000000 A.p.m).length c4, .int .i64 A.p.e] 24)).cell? ⟨w4.heap.size, 1, none⟩ = some (.slice a4 (dg 1000000000 A.p.m).length c4) := by simp
  have l2 : (w4.alloc (.cells #[.bool A.p.neg, .slice a4 (dg 1000000000 A.p.m).length c4, .int .i64 A.p.e] 24)).cell? ⟨w4.heap.size, 2, none⟩ = some (.int .i64 A.p.e) := by simp
  have HS2 := Lib.hid (fun W hb => HS.out a1 a4 c1 c4 W (hr3.below (w' := W) hb) (hr4.below hb))
  clear hb4 hb5 n0 n1 n2 hr1 hr2 hr3 hr4 ho4 b4 b3 HS HP HR
  go_wp2_with fail
  refine (HS2.out _ (Below.refl _ _)).mono ?_
  rintro r w6 ⟨rfl, h6⟩
  have b8 := b5.trans (h6.mono b5.size)
  go_wp2
  go_ret
  exact ⟨rfl, b8⟩

theorem dparses_walk {s : ByteArray} (w : World) (htab : Tab w) (hs : s.data.toList.length ≤ reachBytes) :
    Calls Tryd.prog 5 #[.string s] w fun e w' => e = .returned (.bool true) ∧ Below w.heap.size w w' := by
  have h1 : s.size ≤ 140737488351232 := by
    have h2 : s.data.toList.length = s.size := by rw [Array.length_toList]; rfl
    rw [h2] at hs
    exact Nat.le_trans hs (by decide)
  exact dparses_main s w h1 htab
end Go.Proofs.YtofeckdhhaoobaaDoor
