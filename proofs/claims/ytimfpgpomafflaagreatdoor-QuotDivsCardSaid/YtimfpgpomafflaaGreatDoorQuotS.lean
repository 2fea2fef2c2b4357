/- law03's examples: Of, Div, Text, Parse, Rem, Round, Int at constants. -/
import Derived.Test.YtimfpgpomafflaaGreatDoorQuotBx
import Derived.Test.YtimfpgpomafflaaGreatDoorDecTs
import Derived.Test.YtimfpgpomafflaaGreatDoorDecRs
import Derived.Test.YtimfpgpomafflaaGreatDoorDecEs
namespace Go.Proofs.YtimfpgpomafflaaGreatDoor
open Go.RowKit LM

/-- an answer without an error -/
def ResP0 (p : Pl) (w : World) (r : Ending) (w' : World) : Prop := ∃ a' c', r = .returned (.tuple #[.agg #[.bool p.neg, .slice a' (dg 1000000000 p.m).length c', .int .i64 p.e], .int .i64 0]) ∧ Rd w' .u32 a' (dg 1000000000 p.m) ∧ Below w.heap.size w w'
theorem ResY.ok {p : Pl} {w w' : World} {r : Ending} (h : ResY ⟨0, p⟩ w r w') : ResP0 p w r w' := h
def ResV0 (p : Pl) (w : World) (r : Ending) (w' : World) : Prop := ∃ a' c', r = .returned (.agg #[.bool p.neg, .slice a' (dg 1000000000 p.m).length c', .int .i64 p.e]) ∧ Rd w' .u32 a' (dg 1000000000 p.m) ∧ Below w.heap.size w w'
theorem ResV.r {p : Pl} {w w' : World} {r : Ending} (h : ResV p w r w') : ResV0 p w r w' := by
  obtain ⟨a, c, h1, h2, h3⟩ := h
  exact ⟨a, c, h1, h2.rd, h3⟩

/-! contracts at plain numbers -/
theorem okP0 (p q : Pl) : okP ⟨0, p⟩ ⟨0, q⟩ := ⟨rfl, rfl⟩
theorem divA_pp (p q : Pl) : divA ⟨0, p⟩ ⟨0, q⟩ = divV p q := if_pos (okP0 p q)
theorem remA_pp (p q : Pl) : remA ⟨0, p⟩ ⟨0, q⟩ = remV (cutP 0 p) (cutP 0 q) := if_pos (okP0 p q)
section
variable {p q : Pl} (hp : PlainP p) (ip : inR p = true) (hq : PlainP q) (iq : inR q = true)
include hp ip hq iq
theorem cDivPP (a b : Option Addr) (c d : Nat) (w : World) (ra : Rd w .u32 a (dg 1000000000 p.m)) (rb : Rd w .u32 b (dg 1000000000 q.m)) (htab : Tab w) :
    Calls Tryz.prog 11 #[.agg #[.bool p.neg, .slice a (dg 1000000000 p.m).length c, .int .i64 p.e], .agg #[.bool q.neg, .slice b (dg 1000000000 q.m).length d, .int .i64 q.e]] w (ResY (divV p q) w) := by
  have h := Div_any p.neg q.neg a b c d _ _ p.e q.e w (few_pl ip) (few_pl iq) (lo_pl p) (lo_pl q) ra rb htab
  rw [norm_plain' hp ip, norm_plain' hq iq, divA_pp] at h
  exact h
theorem cRemPP (a b : Option Addr) (c d : Nat) (w : World) (ra : Rd w .u32 a (dg 1000000000 p.m)) (rb : Rd w .u32 b (dg 1000000000 q.m)) (htab : Tab w) :
    Calls Tryz.prog 14 #[.agg #[.bool p.neg, .slice a (dg 1000000000 p.m).length c, .int .i64 p.e], .agg #[.bool q.neg, .slice b (dg 1000000000 q.m).length d, .int .i64 q.e]] w (ResY (remV (cutP 0 p) (cutP 0 q)) w) := by
  have h := Rem_any p.neg q.neg a b c d _ _ p.e q.e w (few_pl ip) (few_pl iq) (lo_pl p) (lo_pl q) ra rb htab
  rw [norm_plain' hp ip, norm_plain' hq iq, remA_pp] at h
  exact h
end
theorem same03_any (s1 s2 : Bool) (a1 a2 : Option Addr) (c1 c2 : Nat) (l1 l2 : List Nat) (e1 e2 : Int) (w : World) (h1 : l1.length ≤ 9223372036854775807) (h2 : l2.length ≤ 9223372036854775807) (r1 : Rd w .u32 a1 l1) (r2 : Rd w .u32 a2 l2) :
    Calls Tryz.prog 13 #[.agg #[.bool s1, .slice a1 l1.length c1, .int .i64 e1], .agg #[.bool s2, .slice a2 l2.length c2, .int .i64 e2]] w fun r w' => r = .returned (.bool (sameB s1 s2 e1 e2 l1 l2)) ∧ Below w.heap.size w w' := by
  have hS := fun W hb => SameD_any s1 s2 a1 a2 c1 c2 l1 l2 e1 e2 W h1 h2 (r1.below' (w' := W) hb (Nat.le_refl _)) (r2.below' hb (Nat.le_refl _))
  have HS := Lib.hid hS
  clear hS r1 r2
  go_enter Tryz.func13, Tryz.ntmps13
  go_wp2_with fail
  refine (HS.out _ (((Below.refl _ _).alloc (Nat.le_refl _) _).alloc (by simp) _)).mono ?_
  rintro r w1 ⟨rfl, hb⟩
  have bb := (((Below.refl w.heap.size w).alloc (Nat.le_refl _) (.cells #[.bool s1, .slice a1 l1.length c1, .int .i64 e1] 24)).alloc (by simp) (.cells #[.bool s2, .slice a2 l2.length c2, .int .i64 e2] 24)).trans (hb.mono (by simp; omega))
  clear hb
  go_wp2
  go_ret
  exact ⟨rfl, bb⟩
/-- two plain numbers: are they one? -/
theorem cSamePP {p q : Pl} (ip : inR p = true) (iq : inR q = true) (x y : Option Addr) (c d : Nat) (W : World) (r1 : Rd W .u32 x (dg 1000000000 p.m)) (r2 : Rd W .u32 y (dg 1000000000 q.m)) :
    Calls Tryz.prog 13 #[.agg #[.bool p.neg, .slice x (dg 1000000000 p.m).length c, .int .i64 p.e], .agg #[.bool q.neg, .slice y (dg 1000000000 q.m).length d, .int .i64 q.e]] W fun r w' => r = .returned (.bool (decide (p = q))) ∧ Below W.heap.size W w' := by
  have k := same03_any p.neg q.neg x y c d _ _ p.e q.e W (few_pl ip) (few_pl iq) r1 r2
  rw [sameB_pl] at k
  exact k

/-! the numbers of the examples -/
def rp : Nat → Nat | 0 => 0 | n + 1 => 10 * rp n + 3
theorem dg_rp : ∀ n, dg 10 (rp n) = List.replicate n 3 := by
  intro n
  induction n with
  | zero => exact dg_zero 10
  | succ n ih =>
    rw [show rp (n + 1) = 10 * rp n + 3 from rfl, dg_pos (by omega) (by omega), show (10 * rp n + 3) % 10 = 3 by omega, show (10 * rp n + 3) / 10 = rp n by omega, ih]; rfl
theorem plain_pl {s : Bool} {v : Nat} {e : Int} (h : v % 10 ≠ 0) : pl s v e = ⟨s, v, e⟩ := pl_of_plain (p := ⟨s, v, e⟩) (.inr h)
theorem dl_1 : dl 1 = 1 := by unfold dl; rw [dg_pos (by omega) (by omega)]; simp [dg_zero]
theorem dl_3 : dl 3 = 1 := by unfold dl; rw [dg_pos (by omega) (by omega)]; simp [dg_zero]
theorem dl_two {v : Nat} (h : 10 ≤ v) (h2 : v < 100) : dl v = 2 := by
  unfold dl
  rw [dg_pos (by omega) (by omega), dg_pos (by omega) (by omega), show v / 10 / 10 = 0 by omega, dg_zero]; rfl
theorem dl_one {v : Nat} (h : 0 < v) (h2 : v < 10) : dl v = 1 := by
  unfold dl
  rw [dg_pos (by omega) (by omega), show v / 10 = 0 by omega, dg_zero]; rfl
theorem lqE_13 : lqE 1 3 = -34 := by
  have hF : lqF 1 3 = -34 := by unfold lqF; rw [dl_1, dl_3]; rfl
  unfold lqE
  rw [hF, if_neg]
  rw [dl_gt]
  unfold lqU lqD
  decide
theorem lqV_13 : lqV 1 3 (-34) = rp 34 := by decide +kernel
theorem dl_rp (n : Nat) : dl (rp n) = n := by unfold dl; rw [dg_rp]; simp
theorem rp_mod : rp 34 % 10 ≠ 0 := by decide +kernel
def pT : Pl := ⟨false, rp 34, -34⟩
theorem pT_in : inR pT = true := by
  unfold inR
  rw [show dl pT.m = 34 from dl_rp 34]
  decide
theorem div_13 : divV ⟨false, 1, 0⟩ ⟨false, 3, 0⟩ = ⟨0, pT⟩ := by
  unfold divV
  rw [if_neg (by decide), if_neg (by decide)]
  show tellA (!(false == false)) (lqV 1 3 (lqE 1 3)) (0 - 0 + lqE 1 3) = _
  rw [lqE_13, lqV_13]
  unfold tellA
  rw [show (!(false == false)) = false from rfl, show (0 : Int) - 0 + -34 = -34 by decide, plain_pl rp_mod]
  exact if_pos pT_in
theorem dec_rp : Lib.decDigits (rp 34) = List.replicate 34 51 := by
  rw [dec_text, dg_rp, if_neg (by decide +kernel)]
  decide
theorem wtx_T : wtx ⟨0, pT⟩ = 48 :: 46 :: List.replicate 34 51 := by
  unfold wtx
  rw [if_pos rfl]
  show (if false = true then _ else wos (Lib.decDigits (rp 34)) (-34)) = _
  rw [if_neg Bool.false_ne_true, dec_rp]
  decide
theorem tell_small2 {s : Bool} {v : Nat} {e : Int} (h10 : v % 10 ≠ 0) (hv : v < 100) (h1 : -100 ≤ e) (h2 : e ≤ 100) : tellA s v e = ⟨0, ⟨s, v, e⟩⟩ ∧ inR ⟨s, v, e⟩ = true := by
  have hd : dl v ≤ 2 := dl_lt (by omega)
  have hd1 : 1 ≤ dl v := dl_pos (by omega)
  have hi : inR ⟨s, v, e⟩ = true := by unfold inR; exact decide_eq_true ⟨by simp only; omega, by simp only; omega, by simp only; omega⟩
  refine ⟨?_, hi⟩
  unfold tellA
  rw [plain_pl h10, if_pos hi]
theorem nrm_small {s : Bool} {v : Nat} {e : Int} (h10 : v % 10 ≠ 0) (hv : v < 100) (h1 : -100 ≤ e) (h2 : e ≤ 100) : normA 1 s v e = ⟨0, ⟨s, v, e⟩⟩ := by
  have hn : nearB 1 e = true := decide_eq_true (by omega)
  unfold normA
  rw [if_pos hn, (tell_small2 h10 hv h1 h2).1]
def sP : ByteArray := ⟨#[45, 55, 46, 57]⟩
def sQ : ByteArray := ⟨#[50, 46, 53]⟩
theorem prsP : prsA sP = ⟨0, ⟨true, 79, -1⟩⟩ := by
  have h : rrun sP sP.size 0 rs0 = some ⟨6, true, [55, 57], 1, false, 0⟩ := by rfl
  unfold prsA; rw [h]
  show (if endOk ⟨6, true, [55, 57], 1, false, 0⟩ = true then (if 1000 < sP.size then _ else tellA true (dv [55, 57]) (expo ⟨6, true, [55, 57], 1, false, 0⟩)) else _) = _
  rw [if_pos (by decide), if_neg (by decide), show dv [55, 57] = 79 by decide, show expo ⟨6, true, [55, 57], 1, false, 0⟩ = -1 by decide]
  exact (tell_small2 (by decide) (by decide) (by decide) (by decide)).1
theorem prsQ : prsA sQ = ⟨0, ⟨false, 25, -1⟩⟩ := by
  have h : rrun sQ sQ.size 0 rs0 = some ⟨6, false, [50, 53], 1, false, 0⟩ := by rfl
  unfold prsA; rw [h]
  show (if endOk ⟨6, false, [50, 53], 1, false, 0⟩ = true then (if 1000 < sQ.size then _ else tellA false (dv [50, 53]) (expo ⟨6, false, [50, 53], 1, false, 0⟩)) else _) = _
  rw [if_pos (by decide), if_neg (by decide), show dv [50, 53] = 25 by decide, show expo ⟨6, false, [50, 53], 1, false, 0⟩ = -1 by decide]
  exact (tell_small2 (by decide) (by decide) (by decide) (by decide)).1
theorem cut_small {way : Nat} {s : Bool} {m v : Nat} (h : rnd way s (m / 10) (m % 10) 10 = v) (h10 : v % 10 ≠ 0) : cutP way ⟨s, m, -1⟩ = ⟨s, v, 0⟩ := by
  unfold cutP
  rw [if_neg (show ¬ (0 : Int) ≤ -1 by decide)]
  show pl s (rnd way s (m / 10 ^ 1) (m % 10 ^ 1) (10 ^ 1)) 0 = _
  rw [Nat.pow_one, h, plain_pl h10]
theorem rem_ex : remV (cutP 0 ⟨true, 79, -1⟩) (cutP 0 ⟨false, 25, -1⟩) = ⟨0, ⟨true, 1, 0⟩⟩ := by
  rw [cut_small (v := 7) (by decide) (by decide), cut_small (v := 2) (by decide) (by decide)]
  unfold remV
  rw [if_neg, if_neg (by decide)]
  · show (⟨0, pl true (7 * 10 ^ 0 % (2 * 10 ^ 0)) 0⟩ : Ans) = _
    rw [show 7 * 10 ^ 0 % (2 * 10 ^ 0) = 1 by decide, plain_pl (by decide)]
  · unfold hd
    rw [show dl (Pl.mk true 7 0).m = 1 from dl_one (v := 7) (by decide) (by decide), show dl (Pl.mk false 2 0).m = 1 from dl_one (v := 2) (by decide) (by decide)]
    decide
theorem round_ex : toWA 3 (normA 1 true 25 (-1)) = ⟨0, ⟨true, 3, 0⟩⟩ := by
  rw [nrm_small (by decide) (by decide) (by decide) (by decide)]
  unfold toWA
  rw [if_pos rfl, cut_small (v := 3) (by decide) (by decide)]
theorem int_ex : intB (normA 1 false 1 3) = (1000, 0) := by
  rw [nrm_small (by decide) (by decide) (by decide) (by decide)]
  decide
theorem of_1 : pl (decide ((1 : Int) < 0)) (1 : Int).natAbs 0 = ⟨false, 1, 0⟩ := plain_pl (by decide)
theorem of_3 : pl (decide ((3 : Int) < 0)) (3 : Int).natAbs 0 = ⟨false, 3, 0⟩ := plain_pl (by decide)
theorem of_m1 : pl (decide ((-1 : Int) < 0)) (-1 : Int).natAbs 0 = ⟨true, 1, 0⟩ := plain_pl (by decide)
theorem of_m3 : pl (decide ((-3 : Int) < 0)) (-3 : Int).natAbs 0 = ⟨true, 3, 0⟩ := plain_pl (by decide)
end Go.Proofs.YtimfpgpomafflaaGreatDoor
