/- Walks: the laws LimbBack. -/
import Derived.Test.YteipkibaoikilaaDoorLimbWd
namespace Go.Proofs.YteipkibaoikilaaDoor
open Go.RowKit LM

theorem dv_map (l : List Nat) (h : Lo 10 l) : dv (l.reverse.map (fun d => UInt8.ofNat (48 + d))) = vl 10 l := by
  induction l with
  | nil => rfl
  | cons x t ih =>
    have hx := h x (List.mem_cons_self ..)
    rw [List.reverse_cons, List.map_append, List.map_cons, List.map_nil, dv_snoc, ih (fun z hz => h z (List.mem_cons_of_mem _ hz)), vl]
    have e : (UInt8.ofNat (48 + x)).toNat = 48 + x := by simp; omega
    rw [e]; omega
theorem dv_dec (v : Nat) : dv (Lib.decDigits v) = v := by
  rw [dec_text]
  by_cases h : v = 0
  · subst h; rfl
  · rw [if_neg h, dv_map _ (Lo_dg (by omega) v), vl_dg (by omega)]
theorem dec_isD (v : Nat) : ∀ c ∈ Lib.decDigits v, isD c = true := by
  rw [dec_text]
  by_cases h : v = 0
  · rw [if_pos h]; intro c hc; simp at hc; subst hc; decide
  · rw [if_neg h]
    intro c hc
    obtain ⟨d, hd, rfl⟩ := List.mem_map.1 hc
    have := Lo_dg (b := 10) (by omega) v d (List.mem_reverse.1 hd)
    have e : (UInt8.ofNat (48 + d)).toNat = 48 + d := by simp; omega
    unfold isD
    rw [e]
    simp; omega
theorem dec_len (v : Nat) : (Lib.decDigits v).length = max 1 (dg 10 v).length := by
  rw [Lib.decDigits_length]
  rcases Nat.eq_zero_or_pos v with e | e
  · subst e; rw [Lib.nDigits_small (by omega), dg_zero]; rfl
  · rw [nDigits_len e]
    have : (dg 10 v).length ≠ 0 := by rw [dg_pos (by omega) e]; simp
    omega
theorem dec_ok (v : Nat) : okD ⟨(Lib.decDigits v).toArray⟩ = true := by
  unfold okD
  have e : (⟨(Lib.decDigits v).toArray⟩ : ByteArray).data.toList = Lib.decDigits v := rfl
  rw [e, List.all_eq_true.2 (dec_isD v), Bool.true_and]
  cases h : Lib.decDigits v with
  | nil => have := dec_len v; rw [h] at this; simp at this; omega
  | cons _ _ => rfl
theorem nParse {v K : Nat} (w : World) (h : v < 1000000000 ^ K) (h1 : 1 ≤ K) (h2 : K ≤ 100000) : Calls Tryd.prog 35 #[.string ⟨(Lib.decDigits v).toArray⟩] w (ResS v K w) := by
  have hl : (Lib.decDigits v).length ≤ 900000 := by
    rw [dec_len]
    have : (dg 10 v).length ≤ 9 * K := dg_len_of_lt (by omega) (by rw [Nat.pow_mul]; exact h)
    omega
  have hs : (⟨(Lib.decDigits v).toArray⟩ : ByteArray).size = (Lib.decDigits v).length := by simp [ByteArray.size]
  have hp := Parse_ok ⟨(Lib.decDigits v).toArray⟩ w (by rw [hs]; omega) (dec_ok v)
  have e : dv (⟨(Lib.decDigits v).toArray⟩ : ByteArray).data.toList = v := dv_dec v
  rw [e] at hp
  exact hp.mono fun e w' ⟨a', c', he, ho, hb⟩ => ⟨a', c', _, he, Pn.ofOwn ho h h1 h2, hb⟩
theorem nCutBack {w : World} {a : Option Addr} {k v K : Nat} (ca n : Nat) (ha : Nm w a k (v * 10 ^ n) K) (hn : n ≤ 30000) : Calls Tryd.prog 38 #[.slice a k ca, .int .i64 n] w (ResS2 v 0 K w) := by
  have h := nCut ca n ha hn
  rw [Nat.mul_div_cancel _ (Nat.pow_pos (by omega)), Nat.mul_mod_left] at h
  exact h
theorem nCmpLt {w : World} {a b : Option Addr} {n m v u K L : Nat} (ca cb : Nat) (ha : Nm w a n v K) (hb : Nm w b m u L) (h : v < u) : Calls Tryd.prog 22 #[.slice a n ca, .slice b m cb] w fun e w' => e = .returned (.int .i64 (-1)) ∧ Below w.heap.size w w' := by
  have := nCmp ca cb ha hb
  rw [cmpN_lt h] at this; exact this
theorem nCmp0 {w : World} {a : Option Addr} {n K : Nat} (ca : Nat) (ha : Nm w a n 0 K) : Calls Tryd.prog 22 #[.slice a n ca, .slice none 0 0] w fun e w' => e = .returned (.int .i64 0) ∧ Below w.heap.size w w' := by
  have hz : Nm w none 0 0 1 := ⟨[], rfl, Lo_nil _, Rd.nil _ _ _, rfl, by omega, by decide, by omega, by omega⟩
  have := nCmp ca 0 ha hz
  rw [cmpN_eq] at this; exact this

set_option maxHeartbeats 16000000 in
set_option maxRecDepth 100000 in
theorem back_main (aA aB : Option Addr) (nA nB cA cB vA vB x : Nat) (w : World) (htab : Tab w) (has : nA ≤ 40) (hbs : nB ≤ 40) (hA : Nm w aA nA vA 41) (hB : Nm w aB nB vB 41) (hpos : 0 < vB) :
    Calls Tryd.prog 12 #[.slice aA nA cA, .slice aB nB cB, .int .u16 x] w fun e w' => e = .returned (.bool true) ∧ Below w.heap.size w w' := by
  have hkI : (x : Int) % 300 = ((x % 300 : Nat) : Int) := by omega
  obtain ⟨k, hk⟩ : ∃ k, k = x % 300 := ⟨_, rfl⟩
  rw [← hk] at hkI
  have hk9 : k ≤ 299 := by omega
  clear hk
  have hAlt : vA < 1000000000 ^ 41 := by obtain ⟨_, _, _, _, _, _, h, _⟩ := hA; exact h
  have HALT := Lib.hid hAlt
  have hdl := dec_len vA
  have HDL := Lib.hid hdl
  clear hAlt hdl
  have HT := Lib.hid htab
  clear htab
  go_enter Tryd.func12, Tryd.ntmps12
  go_wp2_with fail
  refine (shown_any _ HT.out).mono ?_
  rintro e x1 ⟨rfl, hb1⟩
  replace hA := hA.below hb1
  replace hB := hB.below hb1
  have bb := hb1
  clear hb1
  go_wp2_with fail
  refine (great_no aA nA cA _ has).mono ?_
  rintro e wq ⟨rfl, rfl⟩
  go_wp2_with fail
  refine (great_no aB nB cB _ hbs).mono ?_
  rintro e wq ⟨rfl, rfl⟩
  go_wp2_with fail
  refine (nNorm cA hA).mono ?_
  rintro e x4 ⟨aX, cX, nX, rfl, hX, hb4⟩
  replace hA := hA.below hb4
  replace hB := hB.below hb4
  replace bb := bb.trans (hb4.mono bb.size)
  clear hb4
  go_wp2_with fail
  refine (nText cA hA (HT.out.below bb)).mono ?_
  rintro e x5 ⟨rfl, hb5⟩
  replace hA := hA.below hb5
  replace hB := hB.below hb5
  replace hX := hX.below hb5
  replace bb := bb.trans (hb5.mono bb.size)
  clear hb5
  go_wp2_with fail
  refine (nParse _ HALT.out (by omega) (by omega)).mono ?_
  rintro e x6 ⟨aP, cP, nP, rfl, hP, hb6⟩
  replace hA := hA.below hb6
  replace hB := hB.below hb6
  replace hX := hX.below hb6
  replace bb := bb.trans (hb6.mono bb.size)
  clear hb6
  go_wp2_with fail
  refine (nShift cA k hA (by omega) (by omega)).mono ?_
  rintro e x7 ⟨aS, cS, nS, rfl, hS, hb7⟩
  replace hA := hA.below hb7
  replace hB := hB.below hb7
  replace hX := hX.below hb7
  replace hP := hP.below hb7
  replace bb := bb.trans (hb7.mono bb.size)
  clear hb7
  go_wp2_with fail
  refine (nCutBack cS k hS.1 (by omega)).mono ?_
  rintro e x8 ⟨aQ, cQ, nQ, aR, cR, nR, rfl, hQ, hR, hb8⟩
  replace hA := hA.below hb8
  replace hB := hB.below hb8
  replace hX := hX.below hb8
  replace hP := hP.below hb8
  replace bb := bb.trans (hb8.mono bb.size)
  clear hb8 hS
  go_wp2_with fail
  refine (nSameT cP cX hP hX rfl).mono ?_
  rintro e x9 ⟨rfl, hb9⟩
  replace hA := hA.below hb9
  replace hB := hB.below hb9
  replace hX := hX.below hb9
  replace hQ := hQ.below hb9
  replace hR := hR.below hb9
  replace bb := bb.trans (hb9.mono bb.size)
  clear hb9 hP
  go_wp2_with fail
  refine (nSameT cQ cX hQ hX rfl).mono ?_
  rintro e x10 ⟨rfl, hb10⟩
  replace hA := hA.below hb10
  replace hB := hB.below hb10
  replace hX := hX.below hb10
  replace hR := hR.below hb10
  replace bb := bb.trans (hb10.mono bb.size)
  clear hb10 hQ
  have hr0 : ((nR : Int) == 0) = true := by
    have h1 := hR.2.2
    rw [dg_zero] at h1
    simp at h1
    simp [h1]
  go_wp2_with fail
  refine (nText cA hA (HT.out.below bb)).mono ?_
  rintro e x11 ⟨rfl, hb11⟩
  replace hA := hA.below hb11
  replace hB := hB.below hb11
  replace hX := hX.below hb11
  replace hR := hR.below hb11
  replace bb := bb.trans (hb11.mono bb.size)
  clear hb11
  go_wp2_with fail
  refine (nDigits cA hA (HT.out.below bb)).mono ?_
  rintro e x12 ⟨rfl, hb12⟩
  replace hA := hA.below hb12
  replace hB := hB.below hb12
  replace hX := hX.below hb12
  replace hR := hR.below hb12
  replace bb := bb.trans (hb12.mono bb.size)
  clear hb12
  have hmx : ((Lib.decDigits vA).length : Int) = max 1 ((dg 10 vA).length : Int) := by have := HDL.out; omega
  go_wp2_with fail
  refine (nDiv cA cB hA hB hpos (by omega)).mono ?_
  rintro e x13 ⟨aT, cT, nT, aU, cU, nU, rfl, hT, hU, hb13⟩
  replace hB := hB.below hb13
  replace hX := hX.below hb13
  replace bb := bb.trans (hb13.mono bb.size)
  clear hb13 hA hR
  go_wp2_with fail
  refine (nCmpLt cU cB hU.1 hB (Nat.mod_lt _ hpos)).mono ?_
  rintro e x14 ⟨rfl, hb14⟩
  replace hB := hB.below hb14
  replace hX := hX.below hb14
  replace hT := hT.below hb14
  replace hU := hU.below hb14
  replace bb := bb.trans (hb14.mono bb.size)
  clear hb14
  go_wp2_with fail
  refine (nMul cT cB hT.1 hB (by omega)).mono ?_
  rintro e x15 ⟨aM, cM, nM, rfl, hM, hb15⟩
  replace hX := hX.below hb15
  replace hU := hU.below hb15
  replace bb := bb.trans (hb15.mono bb.size)
  clear hb15 hT hB
  go_wp2_with fail
  refine (nAdd cM cU hM.1 hU.1 (by omega)).mono ?_
  rintro e x16 ⟨aD, cD, nD, rfl, hD, hb16⟩
  replace hX := hX.below hb16
  replace bb := bb.trans (hb16.mono bb.size)
  clear hb16 hM hU
  go_wp2_with fail
  refine (nSameT cD cX hD hX (by rw [Nat.mul_comm]; exact Nat.div_add_mod vA vB)).mono ?_
  rintro e x17 ⟨rfl, hb17⟩
  replace bb := bb.trans (hb17.mono bb.size)
  clear hb17 hD hX
  go_wp2
  go_ret
  exact ⟨rfl, bb⟩

set_option maxHeartbeats 16000000 in
set_option maxRecDepth 100000 in
theorem back_zero (aA aB : Option Addr) (nA nB cA cB vA x : Nat) (w : World) (htab : Tab w) (has : nA ≤ 40) (hbs : nB ≤ 40) (hA : Nm w aA nA vA 41) (hB : Nm w aB nB 0 41) :
    Calls Tryd.prog 12 #[.slice aA nA cA, .slice aB nB cB, .int .u16 x] w fun e w' => e = .returned (.bool true) ∧ Below w.heap.size w w' := by
  have hkI : (x : Int) % 300 = ((x % 300 : Nat) : Int) := by omega
  obtain ⟨k, hk⟩ : ∃ k, k = x % 300 := ⟨_, rfl⟩
  rw [← hk] at hkI
  have hk9 : k ≤ 299 := by omega
  clear hk
  have hAlt : vA < 1000000000 ^ 41 := by obtain ⟨_, _, _, _, _, _, h, _⟩ := hA; exact h
  have HALT := Lib.hid hAlt
  have hdl := dec_len vA
  have HDL := Lib.hid hdl
  clear hAlt hdl
  have HT := Lib.hid htab
  clear htab
  go_enter Tryd.func12, Tryd.ntmps12
  go_wp2_with fail
  refine (shown_any _ HT.out).mono ?_
  rintro e x1 ⟨rfl, hb1⟩
  replace hA := hA.below hb1
  replace hB := hB.below hb1
  have bb := hb1
  clear hb1
  go_wp2_with fail
  refine (great_no aA nA cA _ has).mono ?_
  rintro e wq ⟨rfl, rfl⟩
  go_wp2_with fail
  refine (great_no aB nB cB _ hbs).mono ?_
  rintro e wq ⟨rfl, rfl⟩
  go_wp2_with fail
  refine (nNorm cA hA).mono ?_
  rintro e x4 ⟨aX, cX, nX, rfl, hX, hb4⟩
  replace hA := hA.below hb4
  replace hB := hB.below hb4
  replace bb := bb.trans (hb4.mono bb.size)
  clear hb4
  go_wp2_with fail
  refine (nText cA hA (HT.out.below bb)).mono ?_
  rintro e x5 ⟨rfl, hb5⟩
  replace hA := hA.below hb5
  replace hB := hB.below hb5
  replace hX := hX.below hb5
  replace bb := bb.trans (hb5.mono bb.size)
  clear hb5
  go_wp2_with fail
  refine (nParse _ HALT.out (by omega) (by omega)).mono ?_
  rintro e x6 ⟨aP, cP, nP, rfl, hP, hb6⟩
  replace hA := hA.below hb6
  replace hB := hB.below hb6
  replace hX := hX.below hb6
  replace bb := bb.trans (hb6.mono bb.size)
  clear hb6
  go_wp2_with fail
  refine (nShift cA k hA (by omega) (by omega)).mono ?_
  rintro e x7 ⟨aS, cS, nS, rfl, hS, hb7⟩
  replace hA := hA.below hb7
  replace hB := hB.below hb7
  replace hX := hX.below hb7
  replace hP := hP.below hb7
  replace bb := bb.trans (hb7.mono bb.size)
  clear hb7
  go_wp2_with fail
  refine (nCutBack cS k hS.1 (by omega)).mono ?_
  rintro e x8 ⟨aQ, cQ, nQ, aR, cR, nR, rfl, hQ, hR, hb8⟩
  replace hA := hA.below hb8
  replace hB := hB.below hb8
  replace hX := hX.below hb8
  replace hP := hP.below hb8
  replace bb := bb.trans (hb8.mono bb.size)
  clear hb8 hS
  go_wp2_with fail
  refine (nSameT cP cX hP hX rfl).mono ?_
  rintro e x9 ⟨rfl, hb9⟩
  replace hA := hA.below hb9
  replace hB := hB.below hb9
  replace hX := hX.below hb9
  replace hQ := hQ.below hb9
  replace hR := hR.below hb9
  replace bb := bb.trans (hb9.mono bb.size)
  clear hb9 hP
  go_wp2_with fail
  refine (nSameT cQ cX hQ hX rfl).mono ?_
  rintro e x10 ⟨rfl, hb10⟩
  replace hA := hA.below hb10
  replace hB := hB.below hb10
  replace hX := hX.below hb10
  replace hR := hR.below hb10
  replace bb := bb.trans (hb10.mono bb.size)
  clear hb10 hQ
  have hr0 : ((nR : Int) == 0) = true := by
    have h1 := hR.2.2
    rw [dg_zero] at h1
    simp at h1
    simp [h1]
  go_wp2_with fail
  refine (nText cA hA (HT.out.below bb)).mono ?_
  rintro e x11 ⟨rfl, hb11⟩
  replace hA := hA.below hb11
  replace hB := hB.below hb11
  replace hX := hX.below hb11
  replace hR := hR.below hb11
  replace bb := bb.trans (hb11.mono bb.size)
  clear hb11
  go_wp2_with fail
  refine (nDigits cA hA (HT.out.below bb)).mono ?_
  rintro e x12 ⟨rfl, hb12⟩
  replace hA := hA.below hb12
  replace hB := hB.below hb12
  replace hX := hX.below hb12
  replace hR := hR.below hb12
  replace bb := bb.trans (hb12.mono bb.size)
  clear hb12
  have hmx : ((Lib.decDigits vA).length : Int) = max 1 ((dg 10 vA).length : Int) := by have := HDL.out; omega
  go_wp2_with fail
  refine (nDivZero cA cB hA hB).mono ?_
  rintro e x13 ⟨rfl, hb13⟩
  replace hB := hB.below hb13
  replace bb := bb.trans (hb13.mono bb.size)
  clear hb13 hA hR hX
  go_wp2_with fail
  refine (nCmp0 cB hB).mono ?_
  rintro e x14 ⟨rfl, hb14⟩
  replace hB := hB.below hb14
  replace bb := bb.trans (hb14.mono bb.size)
  clear hb14
  go_wp2
  go_ret
  exact ⟨rfl, bb⟩

set_option maxHeartbeats 16000000 in
set_option maxRecDepth 100000 in
theorem back_g1 (aA aB : Option Addr) (nA nB cA cB : Nat) (x : Int) (w : World) (htab : Tab w) (has : 40 < nA) :
    Calls Tryd.prog 12 #[.slice aA nA cA, .slice aB nB cB, .int .u16 x] w fun e w' => e = .returned (.bool true) ∧ Below w.heap.size w w' := by
  have HT := Lib.hid htab
  clear htab
  go_enter Tryd.func12, Tryd.ntmps12
  go_wp2_with fail
  refine (shown_any _ HT.out).mono ?_
  rintro e x1 ⟨rfl, hb1⟩
  have bb := hb1
  clear hb1
  go_wp2_with fail
  refine (great_yes aA nA cA _ has).mono ?_
  rintro e wq ⟨rfl, rfl⟩
  go_wp2
  go_ret
  exact ⟨rfl, bb⟩

set_option maxHeartbeats 16000000 in
set_option maxRecDepth 100000 in
theorem back_g2 (aA aB : Option Addr) (nA nB cA cB : Nat) (x : Int) (w : World) (htab : Tab w) (has : nA ≤ 40) (hbs : 40 < nB) :
    Calls Tryd.prog 12 #[.slice aA nA cA, .slice aB nB cB, .int .u16 x] w fun e w' => e = .returned (.bool true) ∧ Below w.heap.size w w' := by
  have HT := Lib.hid htab
  clear htab
  go_enter Tryd.func12, Tryd.ntmps12
  go_wp2_with fail
  refine (shown_any _ HT.out).mono ?_
  rintro e x1 ⟨rfl, hb1⟩
  have bb := hb1
  clear hb1
  go_wp2_with fail
  refine (great_no aA nA cA _ has).mono ?_
  rintro e wq ⟨rfl, rfl⟩
  go_wp2_with fail
  refine (great_yes aB nB cB _ hbs).mono ?_
  rintro e wq ⟨rfl, rfl⟩
  go_wp2
  go_ret
  exact ⟨rfl, bb⟩

theorem back_walk {a b : Option Addr} {n m ca cb : Nat} {z : Int} (w : World) (htab : Tab w) (ha : IsRow w a n ca) (hb : IsRow w b m cb) (hz : (Lit.int .u16 z).wf = true) :
    Calls Tryd.prog 12 #[.slice a n ca, .slice b m cb, .int .u16 z] w fun e w' => e = .returned (.bool true) ∧ Below w.heap.size w w' := by
  obtain ⟨l1, rfl, lo1, rd1, _⟩ := ha
  obtain ⟨l2, rfl, lo2, rd2, _⟩ := hb
  have hzb := bounds_u16 hz
  rcases Nat.lt_or_ge 40 l1.length with h1 | h1
  · exact back_g1 _ _ _ _ _ _ _ w htab h1
  rcases Nat.lt_or_ge 40 l2.length with h2 | h2
  · exact back_g2 _ _ _ _ _ _ _ w htab h1 h2
  obtain ⟨x, rfl⟩ : ∃ x : Nat, z = x := ⟨z.toNat, by omega⟩
  have hB := Nm.ofRow lo2 rd2 h2
  rcases Nat.eq_zero_or_pos (vl 1000000000 l2) with h | h
  · rw [h] at hB
    exact back_zero _ _ _ _ _ _ _ _ w htab h1 h2 (Nm.ofRow lo1 rd1 h1) hB
  · exact back_main _ _ _ _ _ _ _ _ _ w htab h1 h2 (Nm.ofRow lo1 rd1 h1) hB h
end Go.Proofs.YteipkibaoikilaaDoor
