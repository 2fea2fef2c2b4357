/- Walk of the law DecOrder. -/
import Derived.Test.YtofeckdhhaoobaaDoorDecOrn
import Derived.Test.YtofeckdhhaoobaaDoorDecOrz
import Derived.Test.YtofeckdhhaoobaaDoorDecOrp
namespace Go.Proofs.YtofeckdhhaoobaaDoor
open Go.RowKit LM

theorem cmpP_three {p q : Pl} (hp : PlainP p) (hq : PlainP q) : cmpP p q = -1 ∨ cmpP p q = 0 ∨ cmpP p q = 1 := by
  rcases cmp_sv hp hq (mn_le p q).1 (mn_le p q).2 with ⟨a, _⟩ | ⟨a, _⟩ | ⟨a, _⟩ <;> omega

set_option maxHeartbeats 16000000 in
set_option maxRecDepth 20000 in
theorem order2_bad (s1 s2 s3 : Bool) (a1 a2 a3 : Option Addr) (c1 c2 c3 : Nat) (l1 l2 l3 : List Nat) (e1 e2 e3 : Int) (w : World) (h1 : l1.length ≤ 9223372036854775807) (h2 : l2.length ≤ 9223372036854775807) (hlo1 : Lo 4294967296 l1) (hlo2 : Lo 4294967296 l2) (hr1 : Rd w .u32 a1 l1) (hr2 : Rd w .u32 a2 l2) (htab : Tab w) (hbad : ¬ ((normA l1.length s1 (vl 1000000000 l1) e1).err = 0 ∧ (normA l2.length s2 (vl 1000000000 l2) e2).err = 0)) :
    Calls Tryd.prog 11 #[.agg #[.bool s1, .slice a1 l1.length c1, .int .i64 e1], .agg #[.bool s2, .slice a2 l2.length c2, .int .i64 e2], .agg #[.bool s3, .slice a3 l3.length c3, .int .i64 e3]] w fun r w' => r = .returned (.bool true) ∧ Below w.heap.size w w' := by
  have tA := normA_err l1.length s1 (vl 1000000000 l1) e1
  have tB := normA_err l2.length s2 (vl 1000000000 l2) e2
  have hC1 := fun W hb => (DCmp_any s1 s2 a1 a2 c1 c2 l1 l2 e1 e2 W h1 h2 hlo1 hlo2 (hr1.below' (w' := W) hb (Nat.le_refl _)) (hr2.below' (w' := W) hb (Nat.le_refl _)) (htab.below hb)).mono fun _ _ h => ResCm.num h
  have hC2 := fun W hb => (DCmp_any s2 s1 a2 a1 c2 c1 l2 l1 e2 e1 W h2 h1 hlo2 hlo1 (hr2.below' (w' := W) hb (Nat.le_refl _)) (hr1.below' (w' := W) hb (Nat.le_refl _)) (htab.below hb)).mono fun _ _ h => ResCm.num h
  generalize normA l1.length s1 (vl 1000000000 l1) e1 = A at *
  generalize normA l2.length s2 (vl 1000000000 l2) e2 = B at *
  have u1 : cmU A B = 0 := by unfold cmU; rw [if_neg (show ¬ okP A B from hbad)]
  have u2 : cmU B A = 0 := by unfold cmU; rw [if_neg (show ¬ okP B A from fun h => hbad ⟨h.2, h.1⟩)]
  have he : pairE A B ≠ 0 := pairE_bad hbad
  rw [u1] at hC1
  rw [u2, pairE_turn tB tA] at hC2
  generalize pairE A B = E at *
  have g1 : ((E : Int) == 0) = false := by simp; omega
  have g2 : ((E : Int) != 0) = true := by simp; omega
  have HC1 := Lib.hid hC1; have HC2 := Lib.hid hC2; have HTAB := Lib.hid htab
  clear hC1 hC2 u1 u2 he hbad tA tB hlo1 hlo2 hr1 hr2 htab
  go_enter Tryd.func11, Tryd.ntmps11
  have b1 := (((Below.refl w.heap.size w).alloc (Nat.le_refl _) (.cells #[.bool s1, .slice a1 l1.length c1, .int .i64 e1] 24)).alloc (by simp) (.cells #[.bool s2, .slice a2 l2.length c2, .int .i64 e2] 24)).alloc (by simp; omega) (.cells #[.bool s3, .slice a3 l3.length c3, .int .i64 e3] 24)
  have X_a := Bx.below (Bx.below (Bx.new w s1 a1 l1.length c1 e1 24) ((Below.refl _ _).alloc (Nat.le_refl _) (.cells #[.bool s2, .slice a2 l2.length c2, .int .i64 e2] 24))) ((Below.refl _ _).alloc (Nat.le_refl _) (.cells #[.bool s3, .slice a3 l3.length c3, .int .i64 e3] 24))
  have X_b := Bx.below (Bx.new (w.alloc (.cells #[.bool s1, .slice a1 l1.length c1, .int .i64 e1] 24)) s2 a2 l2.length c2 e2 24) ((Below.refl _ _).alloc (Nat.le_refl _) (.cells #[.bool s3, .slice a3 l3.length c3, .int .i64 e3] 24))
  have z1 : (w.alloc (.cells #[.bool s1, .slice a1 l1.length c1, .int .i64 e1] 24)).heap.size = w.heap.size + 1 := by simp
  rw [z1] at X_b
  clear z1
  go_wp2_with fail
  refine (shown_any _ (HTAB.out.below b1)).mono ?_
  rintro r w2 ⟨rfl, hc⟩
  have b2 := b1.trans (hc.mono b1.size)
  replace X_a := Bx.below X_a hc
  replace X_b := Bx.below X_b hc
  clear hc b1
  obtain ⟨ka0, ka1, ka2⟩ := X_a.out
  obtain ⟨kb0, kb1, kb2⟩ := X_b.out
  go_wp2_with fail
  refine (HC1.out _ b2).mono ?_
  rintro r w3 ⟨rfl, hc⟩
  clear ka0 ka1 ka2 kb0 kb1 kb2
  have b3 := b2.trans (hc.mono b2.size)
  replace X_a := Bx.below X_a hc
  replace X_b := Bx.below X_b hc
  clear hc b2
  obtain ⟨ka0, ka1, ka2⟩ := X_a.out
  obtain ⟨kb0, kb1, kb2⟩ := X_b.out
  go_wp2_with fail
  refine (HC2.out _ b3).mono ?_
  rintro r w4 ⟨rfl, hc⟩
  clear ka0 ka1 ka2 kb0 kb1 kb2 X_a X_b
  have b4 := b3.trans (hc.mono b3.size)
  have B_ := Lib.hid b4
  clear hc b3 b4
  go_wp2
  go_ret
  exact ⟨rfl, B_.out⟩

theorem order2_walk {s1 s2 s3 : Bool} {a1 a2 a3 : Option Addr} {n1 n2 n3 ca1 ca2 ca3 : Nat} {e1 e2 e3 : Int} (w : World) (htab : Tab w) (ha : IsRow w a1 n1 ca1) (_ : (Lit.int .i64 e1).wf = true) (hb : IsRow w a2 n2 ca2) (_ : (Lit.int .i64 e2).wf = true) (hc : IsRow w a3 n3 ca3) (_ : (Lit.int .i64 e3).wf = true) :
    Calls Tryd.prog 11 #[.agg #[.bool s1, .slice a1 n1 ca1, .int .i64 e1], .agg #[.bool s2, .slice a2 n2 ca2, .int .i64 e2], .agg #[.bool s3, .slice a3 n3 ca3, .int .i64 e3]] w fun r w' => r = .returned (.bool true) ∧ Below w.heap.size w w' := by
  obtain ⟨l1, rfl, lo1, rd1, hm1⟩ := ha
  obtain ⟨l2, rfl, lo2, rd2, hm2⟩ := hb
  obtain ⟨l3, rfl, lo3, rd3, hm3⟩ := hc
  unfold maxLen at hm1 hm2 hm3
  by_cases hok : (normA l1.length s1 (vl 1000000000 l1) e1).err = 0 ∧ (normA l2.length s2 (vl 1000000000 l2) e2).err = 0
  · rcases cmpP_three (normA_plain l1.length s1 (vl 1000000000 l1) e1) (normA_plain l2.length s2 (vl 1000000000 l2) e2) with h | h | h
    · exact order2_n s1 s2 s3 a1 a2 a3 ca1 ca2 ca3 l1 l2 l3 e1 e2 e3 w (by omega) (by omega) (by omega) lo1 lo2 lo3 rd1 rd2 rd3 htab hok.1 hok.2 h
    · exact order2_z s1 s2 s3 a1 a2 a3 ca1 ca2 ca3 l1 l2 l3 e1 e2 e3 w (by omega) (by omega) (by omega) lo1 lo2 lo3 rd1 rd2 rd3 htab hok.1 hok.2 h
    · exact order2_p s1 s2 s3 a1 a2 a3 ca1 ca2 ca3 l1 l2 l3 e1 e2 e3 w (by omega) (by omega) (by omega) lo1 lo2 lo3 rd1 rd2 rd3 htab hok.1 hok.2 h
  · exact order2_bad s1 s2 s3 a1 a2 a3 ca1 ca2 ca3 l1 l2 l3 e1 e2 e3 w (by omega) (by omega) lo1 lo2 rd1 rd2 htab hok
end Go.Proofs.YtofeckdhhaoobaaDoor
