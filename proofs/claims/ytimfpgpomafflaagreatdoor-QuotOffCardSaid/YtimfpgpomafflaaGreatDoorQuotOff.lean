/- Walk of the law QuotOff. -/
import Derived.Test.YtimfpgpomafflaaGreatDoorQuotMo
import Derived.Test.YtimfpgpomafflaaGreatDoorQuotT
namespace Go.Proofs.YtimfpgpomafflaaGreatDoor
open Go.RowKit LM

theorem divA_ok {A B : Ans} (h : (divA A B).err = 0) : A.err = 0 ∧ B.err = 0 ∧ 0 < B.p.m ∧ divA A B = divV A.p B.p := by
  unfold divA at h ⊢
  by_cases hk : okP A B
  · rw [if_pos hk] at h ⊢
    refine ⟨hk.1, hk.2, ?_, rfl⟩
    unfold divV at h
    by_cases h2 : B.p.m = 0
    · rw [if_pos h2] at h; cases h
    · omega
  · rw [if_neg hk] at h
    exact absurd h (pairE_bad hk)
def pm33 : Pl := ⟨false, 1, -33⟩
theorem nrm33 : normA 1 false 1 (-33) = ⟨0, pm33⟩ := nrm_small (by decide) (by decide) (by decide) (by decide)
theorem divV_in (p q : Pl) : inR (divV p q).p = true := by
  unfold divV
  split
  · exact zP_in
  · split
    · exact zP_in
    · exact tellA_in _ _ _
theorem divV_plain (p q : Pl) : PlainP (divV p q).p := by
  unfold divV
  split
  · exact zP_plain
  · split
    · exact zP_plain
    · exact tellA_plain _ _ _
theorem ans_ok {A : Ans} (h : A.err = 0) : A = ⟨0, A.p⟩ := by
  cases A with
  | mk er pp => cases h; rfl
set_option maxHeartbeats 16000000 in
set_option maxRecDepth 20000 in
theorem off_no (s1 s2 : Bool) (a1 a2 : Option Addr) (c1 c2 : Nat) (l1 l2 : List Nat) (e1 e2 : Int) (w : World) (h1 : l1.length ≤ 9223372036854775807) (h2 : l2.length ≤ 9223372036854775807) (hlo1 : Lo 4294967296 l1) (hlo2 : Lo 4294967296 l2) (hr1 : Rd w .u32 a1 l1) (hr2 : Rd w .u32 a2 l2) (htab : Tab w) (h0 : ¬ (divA (normA l1.length s1 (vl 1000000000 l1) e1) (normA l2.length s2 (vl 1000000000 l2) e2)).err = 0) :
    Calls Tryz.prog 7 #[.agg #[.bool s1, .slice a1 l1.length c1, .int .i64 e1], .agg #[.bool s2, .slice a2 l2.length c2, .int .i64 e2]] w fun r w' => r = .returned (.bool true) ∧ Below w.heap.size w w' := by
  have hS := fun W (hb : Below w.heap.size w W) => shown_any W (htab.below hb)
  have hD := fun W (hb : Below w.heap.size w W) => Div_any s1 s2 a1 a2 c1 c2 l1 l2 e1 e2 W h1 h2 hlo1 hlo2 (hr1.below' (w' := W) hb (Nat.le_refl _)) (hr2.below' (w' := W) hb (Nat.le_refl _)) (htab.below hb)
  generalize divA (normA l1.length s1 (vl 1000000000 l1) e1) (normA l2.length s2 (vl 1000000000 l2) e2) = D at *
  have t0 : ((D.err : Int) != 0) = true := by simp [h0]
  have HS := Lib.hid hS; have HD := Lib.hid hD
  clear hS hD htab hr1 hr2 hlo1 hlo2 h0
  go_enter Tryz.func7, Tryz.ntmps7
  have b1 := (((Below.refl w.heap.size w).alloc (Nat.le_refl _) (.cells #[.bool s1, .slice a1 l1.length c1, .int .i64 e1] 24)).alloc (by simp) (.cells #[.bool s2, .slice a2 l2.length c2, .int .i64 e2] 24))
  have X_a := (Qx.below (Qx.new w (.bool s1) (.slice a1 l1.length c1) (.int .i64 e1) 24) ((Below.refl _ _).alloc (Nat.le_refl _) (.cells #[.bool s2, .slice a2 l2.length c2, .int .i64 e2] 24)))
  have F_a := (Qf.below (Qf.new w (.bool s1) (.slice a1 l1.length c1) (.int .i64 e1) 24) (Qx.lt (Qx.new w (.bool s1) (.slice a1 l1.length c1) (.int .i64 e1) 24)) ((Below.refl _ _).alloc (Nat.le_refl _) (.cells #[.bool s2, .slice a2 l2.length c2, .int .i64 e2] 24)))
  have X_b := (Qx.new (w.alloc (.cells #[.bool s1, .slice a1 l1.length c1, .int .i64 e1] 24)) (.bool s2) (.slice a2 l2.length c2) (.int .i64 e2) 24)
  have F_b := (Qf.new (w.alloc (.cells #[.bool s1, .slice a1 l1.length c1, .int .i64 e1] 24)) (.bool s2) (.slice a2 l2.length c2) (.int .i64 e2) 24)
  have z : (w.alloc (.cells #[.bool s1, .slice a1 l1.length c1, .int .i64 e1] 24)).heap.size = w.heap.size + 1 := by simp
  rw [z] at X_b F_b
  clear z
  go_wp2_with fail
  refine (HS.out _ b1).mono ?_
  rintro r w2 ⟨rfl, hc⟩
  have b2 := b1.trans (hc.mono b1.size)
  replace F_a := Qf.below F_a (Qx.lt X_a) hc
  replace X_a := Qx.below X_a hc
  replace F_b := Qf.below F_b (Qx.lt X_b) hc
  replace X_b := Qx.below X_b hc
  clear hc b1
  obtain ⟨ka0, ka1, ka2⟩ := X_a.out
  obtain ⟨kb0, kb1, kb2⟩ := X_b.out
  go_wp2_with fail
  clear ka0 ka1 ka2 kb0 kb1 kb2
  refine (HD.out _ b2).mono ?_
  rintro r w3 ⟨xq, yq, rfl, ho, hc⟩
  have b3 := b2.trans (hc.mono b2.size)
  replace F_a := Qf.below F_a (Qx.lt X_a) hc
  replace X_a := Qx.below X_a hc
  replace F_b := Qf.below F_b (Qx.lt X_b) hc
  replace X_b := Qx.below X_b hc
  clear hc b2
  have R_q := Lib.hid ho
  clear ho
  have z_q := b3.size
  have hd := (Below.refl w3.heap.size w3).alloc (Nat.le_refl _) (.cells #[.bool D.p.neg, .slice xq (dg 1000000000 D.p.m).length yq, .int .i64 D.p.e] 24)
  have b4 := b3.trans (hd.mono b3.size)
  have l_a_q := Qx.lt X_a
  have m_a_q := not_eq_lt l_a_q
  have m_q_a := not_eq_gt l_a_q
  clear l_a_q
  have l_b_q := Qx.lt X_b
  have m_b_q := not_eq_lt l_b_q
  have m_q_b := not_eq_gt l_b_q
  clear l_b_q
  replace F_a := Qf.below F_a (Qx.lt X_a) hd
  replace X_a := Qx.below X_a hd
  replace F_b := Qf.below F_b (Qx.lt X_b) hd
  replace X_b := Qx.below X_b hd
  replace R_q := Lib.hid (R_q.out.below hd)
  have X_q := Qx.new w3 (.bool D.p.neg) (.slice xq (dg 1000000000 D.p.m).length yq) (.int .i64 D.p.e) 24
  have F_q := Qf.new w3 (.bool D.p.neg) (.slice xq (dg 1000000000 D.p.m).length yq) (.int .i64 D.p.e) 24
  clear hd b3
  clear X_q F_q
  clear R_q
  clear X_a F_a
  clear X_b F_b
  have B_ := Lib.hid b4
  clear b4
  go_wp2
  go_ret
  exact ⟨rfl, B_.out⟩
set_option maxHeartbeats 16000000 in
set_option maxRecDepth 20000 in
theorem off_err (s1 s2 : Bool) (a1 a2 : Option Addr) (c1 c2 : Nat) (l1 l2 : List Nat) (e1 e2 : Int) (w : World) (h1 : l1.length ≤ 9223372036854775807) (h2 : l2.length ≤ 9223372036854775807) (hlo1 : Lo 4294967296 l1) (hlo2 : Lo 4294967296 l2) (hr1 : Rd w .u32 a1 l1) (hr2 : Rd w .u32 a2 l2) (htab : Tab w) (h0 : (divA (normA l1.length s1 (vl 1000000000 l1) e1) (normA l2.length s2 (vl 1000000000 l2) e2)).err = 0) (h9 : ¬ ((mulV (divV (normA l1.length s1 (vl 1000000000 l1) e1).p (normA l2.length s2 (vl 1000000000 l2) e2).p).p (normA l2.length s2 (vl 1000000000 l2) e2).p).err = 0 ∧ (addV (normA l1.length s1 (vl 1000000000 l1) e1).p (flipP (mulV (divV (normA l1.length s1 (vl 1000000000 l1) e1).p (normA l2.length s2 (vl 1000000000 l2) e2).p).p (normA l2.length s2 (vl 1000000000 l2) e2).p).p)).err = 0 ∧ (mulV (absP (normA l1.length s1 (vl 1000000000 l1) e1).p) pm33).err = 0)) :
    Calls Tryz.prog 7 #[.agg #[.bool s1, .slice a1 l1.length c1, .int .i64 e1], .agg #[.bool s2, .slice a2 l2.length c2, .int .i64 e2]] w fun r w' => r = .returned (.bool true) ∧ Below w.heap.size w w' := by
  have hS := fun W (hb : Below w.heap.size w W) => shown_any W (htab.below hb)
  have hD := fun W (hb : Below w.heap.size w W) => Div_any s1 s2 a1 a2 c1 c2 l1 l2 e1 e2 W h1 h2 hlo1 hlo2 (hr1.below' (w' := W) hb (Nat.le_refl _)) (hr2.below' (w' := W) hb (Nat.le_refl _)) (htab.below hb)
  have hSa := fun W (hb : Below w.heap.size w W) => Abs_any s1 a1 c1 l1 e1 W h1 hlo1 (hr1.below' (w' := W) hb (Nat.le_refl _)) (htab.below hb)
  have pA := normA_plain l1.length s1 (vl 1000000000 l1) e1
  have pB := normA_plain l2.length s2 (vl 1000000000 l2) e2
  have iA := normA_in l1.length s1 (vl 1000000000 l1) e1
  have iB := normA_in l2.length s2 (vl 1000000000 l2) e2
  have hMu := fun (p : Pl) (hp : PlainP p) (ip : inR p = true) a c W (hb : Below w.heap.size w W) ra => cMulPR (p := p) hp ip a c W ra (htab.below hb) s2 a2 c2 l2 e2 h2 hlo2 (hr2.below' (w' := W) hb (Nat.le_refl _))
  have hAd := fun (p : Pl) (hp : PlainP p) (ip : inR p = true) a c W (hb : Below w.heap.size w W) ra => cAddRP (p := p) hp ip a c W ra (htab.below hb) s1 a1 c1 l1 e1 h1 hlo1 (hr1.below' (w' := W) hb (Nat.le_refl _))
  obtain ⟨hA, hB, hqm, hDe⟩ := divA_ok h0
  have hSz : normA l1.length false (vl 1000000000 l1) e1 = ⟨0, absP (normA l1.length s1 (vl 1000000000 l1) e1).p⟩ := by
    have hn : nearB l1.length e1 = true := by
      cases hq : nearB l1.length e1 with
      | true => rfl
      | false => have := normA_far (s := s1) (v := vl 1000000000 l1) hq; omega
    unfold normA at hA ⊢
    rw [if_pos hn] at hA ⊢
    rw [if_pos hn, tellA_ok hA]
    have hi := tellA_in s1 (vl 1000000000 l1) e1
    rw [tellA_ok hA] at hi
    have hi : inR (pl s1 (vl 1000000000 l1) e1) = true := hi
    have hab : absP (pl s1 (vl 1000000000 l1) e1) = pl false (vl 1000000000 l1) e1 := absP_pl _ _ _
    unfold tellA
    rw [← hab, absP_in, if_pos hi]
  rw [hSz] at hSa
  generalize (normA l1.length s1 (vl 1000000000 l1) e1) = A at *
  generalize (normA l2.length s2 (vl 1000000000 l2) e2) = B at *
  rw [hDe] at hD h0
  have pQ := divV_plain A.p B.p
  have iQ := divV_in A.p B.p
  have hMu := hMu (divV A.p B.p).p pQ iQ
  rw [show mulA ⟨0, (divV A.p B.p).p⟩ B = mulV (divV A.p B.p).p B.p by unfold mulA; rw [if_pos (show okP ⟨0, (divV A.p B.p).p⟩ B from ⟨rfl, hB⟩)]; rfl] at hMu
  have pP := mulV_plain (divV A.p B.p).p B.p
  have iP : inR (mulV (divV A.p B.p).p B.p).p = true := tellA_in _ _ _
  have pF := flip_plain pP
  have iF : inR (flipP (mulV (divV A.p B.p).p B.p).p) = true := by rw [inR_flip]; exact iP
  have hNg := fun a c W r ht => DNeg_any (mulV (divV A.p B.p).p B.p).p.neg a c (dg 1000000000 (mulV (divV A.p B.p).p B.p).p.m) (mulV (divV A.p B.p).p B.p).p.e W (few_pl iP) (lo_pl _) r ht
  rw [norm_flip pP iP] at hNg
  have hNg := fun a c W r ht => (hNg a c W r ht).mono fun _ _ h => (ResA.y h).ok
  have hAd := hAd (flipP (mulV (divV A.p B.p).p B.p).p) pF iF
  rw [show addA A ⟨0, flipP (mulV (divV A.p B.p).p B.p).p⟩ = addV A.p (flipP (mulV (divV A.p B.p).p B.p).p) by unfold addA; rw [if_pos (show okP A ⟨0, _⟩ from ⟨hA, rfl⟩)]] at hAd
  have pDf := addV_plain A.p (flipP (mulV (divV A.p B.p).p B.p).p)
  have iDf := (by have h := addA_in' ⟨0, A.p⟩ ⟨0, flipP (mulV (divV A.p B.p).p B.p).p⟩; unfold addA at h; rw [if_pos (okP0 _ _)] at h; exact h : inR (addV A.p (flipP (mulV (divV A.p B.p).p B.p).p)).p = true)
  have hAb := fun a c W r ht => Abs_any (addV A.p (flipP (mulV (divV A.p B.p).p B.p).p)).p.neg a c (dg 1000000000 (addV A.p (flipP (mulV (divV A.p B.p).p B.p).p)).p.m) (addV A.p (flipP (mulV (divV A.p B.p).p B.p).p)).p.e W (few_pl iDf) (lo_pl _) r ht
  rw [norm_abs pDf iDf] at hAb
  have hAb := fun a c W r ht => (hAb a c W r ht).mono fun _ _ h => ResY.ok h
  have hSa := fun W hb => (hSa W hb).mono fun _ _ h => ResY.ok h
  have pS := absP_plain pA
  have iS : inR (absP A.p) = true := iA
  have hMo := fun a c W r ht b (hc : W.cell? ⟨b, 0, none⟩ = some (.int .u32 1)) => cMulPR (p := absP A.p) pS iS a c W r ht false (some ⟨b, 0, none⟩) 1 [1] (-33) (by simp) (by intro x hx; rw [List.mem_singleton.1 hx]; omega) (Rd_1 hc)
  rw [show mulA ⟨0, absP A.p⟩ (normA [1].length false (vl 1000000000 [1]) (-33)) = mulV (absP A.p) pm33 by rw [vl_one, show [1].length = 1 from rfl, nrm33]; unfold mulA; rw [if_pos (okP0 _ _)]; rfl] at hMo
  have hMo : ∀ a c W (r : Rd W .u32 a (dg 1000000000 (absP A.p).m)) (ht : Tab W) b (hc : W.cell? ⟨b, 0, none⟩ = some (.int .u32 1)), Calls Tryz.prog 27 #[.agg #[.bool (absP A.p).neg, .slice a (dg 1000000000 (absP A.p).m).length c, .int .i64 (absP A.p).e], .agg #[.bool false, .slice (some ⟨b, 0, none⟩) 1 1, .int .i64 (-33)]] W (ResA (mulV (absP A.p) pm33) W) := hMo
  have pMo := mulV_plain (absP A.p) pm33
  have iMo : inR (mulV (absP A.p) pm33).p = true := tellA_in _ _ _
  have hCm := fun a c b d W r1 ht r2 => cCmpPP (absP_plain pDf) iDf a c W r1 ht pMo iMo b d r2
  have hD := fun W hb => (hD W hb).mono fun _ _ h => (h : ResY _ _ _ _)
  rw [ans_ok h0] at hD
  have hD := fun W hb => (hD W hb).mono fun _ _ h => ResY.ok h
  have x1 : (mulV (divV A.p B.p).p B.p).err ≤ 3 := tellA_err _ _ _
  have x2 := addV_err A.p (flipP (mulV (divV A.p B.p).p B.p).p)
  have x3 : (mulV (absP A.p) pm33).err ≤ 3 := tellA_err _ _ _
  generalize (divV A.p B.p).p = Q at *
  generalize mulV Q B.p = P at *
  generalize flipP P.p = FP at *
  generalize addV A.p FP = D at *
  generalize mulV (absP A.p) pm33 = M at *
  generalize absP D.p = OF at *
  generalize absP A.p = SZ at *
  have y1 : ((P.err : Int) + (D.err : Int) + (M.err : Int) != 0) = true := by simp; omega
  have y2 : ¬ (P.err : Int) + (D.err : Int) + (M.err : Int) = 0 := by omega
  have y3 : (0 : Int) ≤ (P.err : Int) := by omega
  have y4 : (0 : Int) ≤ (D.err : Int) := by omega
  have y5 : (0 : Int) ≤ (M.err : Int) := by omega
  have y6 : (P.err : Int) ≤ 3 := by omega
  have y7 : (D.err : Int) ≤ 3 := by omega
  have y8 : (M.err : Int) ≤ 3 := by omega
  have HS := Lib.hid hS; have HD := Lib.hid hD; have HMu := Lib.hid hMu; have HNg := Lib.hid hNg; have HAd := Lib.hid hAd; have HAb := Lib.hid hAb; have HSa := Lib.hid hSa; have HMo := Lib.hid hMo; have HCm := Lib.hid hCm; have HT := Lib.hid htab
  clear hS hD hMu hNg hAd hAb hSa hMo hCm htab hr1 hr2 hlo1 hlo2 pA pB iA iB hA hB hqm hDe h0 hSz pQ iQ pP iP pF iF pDf iDf pS iS pMo iMo
  clear h9 x1 x2 x3
  go_enter Tryz.func7, Tryz.ntmps7
  have b1 := (((Below.refl w.heap.size w).alloc (Nat.le_refl _) (.cells #[.bool s1, .slice a1 l1.length c1, .int .i64 e1] 24)).alloc (by simp) (.cells #[.bool s2, .slice a2 l2.length c2, .int .i64 e2] 24))
  have X_a := (Qx.below (Qx.new w (.bool s1) (.slice a1 l1.length c1) (.int .i64 e1) 24) ((Below.refl _ _).alloc (Nat.le_refl _) (.cells #[.bool s2, .slice a2 l2.length c2, .int .i64 e2] 24)))
  have F_a := (Qf.below (Qf.new w (.bool s1) (.slice a1 l1.length c1) (.int .i64 e1) 24) (Qx.lt (Qx.new w (.bool s1) (.slice a1 l1.length c1) (.int .i64 e1) 24)) ((Below.refl _ _).alloc (Nat.le_refl _) (.cells #[.bool s2, .slice a2 l2.length c2, .int .i64 e2] 24)))
  have X_b := (Qx.new (w.alloc (.cells #[.bool s1, .slice a1 l1.length c1, .int .i64 e1] 24)) (.bool s2) (.slice a2 l2.length c2) (.int .i64 e2) 24)
  have F_b := (Qf.new (w.alloc (.cells #[.bool s1, .slice a1 l1.length c1, .int .i64 e1] 24)) (.bool s2) (.slice a2 l2.length c2) (.int .i64 e2) 24)
  have z : (w.alloc (.cells #[.bool s1, .slice a1 l1.length c1, .int .i64 e1] 24)).heap.size = w.heap.size + 1 := by simp
  rw [z] at X_b F_b
  clear z
  go_wp2_with fail
  refine (HS.out _ b1).mono ?_
  rintro r w2 ⟨rfl, hc⟩
  have b2 := b1.trans (hc.mono b1.size)
  replace F_a := Qf.below F_a (Qx.lt X_a) hc
  replace X_a := Qx.below X_a hc
  replace F_b := Qf.below F_b (Qx.lt X_b) hc
  replace X_b := Qx.below X_b hc
  clear hc b1
  obtain ⟨ka0, ka1, ka2⟩ := X_a.out
  obtain ⟨kb0, kb1, kb2⟩ := X_b.out
  go_wp2_with fail
  clear ka0 ka1 ka2 kb0 kb1 kb2
  refine (HD.out _ b2).mono ?_
  rintro r w3 ⟨xq, yq, rfl, ho, hc⟩
  have b3 := b2.trans (hc.mono b2.size)
  replace F_a := Qf.below F_a (Qx.lt X_a) hc
  replace X_a := Qx.below X_a hc
  replace F_b := Qf.below F_b (Qx.lt X_b) hc
  replace X_b := Qx.below X_b hc
  clear hc b2
  have R_q := Lib.hid ho
  clear ho
  have z_q := b3.size
  have hd := (Below.refl w3.heap.size w3).alloc (Nat.le_refl _) (.cells #[.bool Q.neg, .slice xq (dg 1000000000 Q.m).length yq, .int .i64 Q.e] 24)
  have b4 := b3.trans (hd.mono b3.size)
  have l_a_q := Qx.lt X_a
  have m_a_q := not_eq_lt l_a_q
  have m_q_a := not_eq_gt l_a_q
  clear l_a_q
  have l_b_q := Qx.lt X_b
  have m_b_q := not_eq_lt l_b_q
  have m_q_b := not_eq_gt l_b_q
  clear l_b_q
  replace F_a := Qf.below F_a (Qx.lt X_a) hd
  replace X_a := Qx.below X_a hd
  replace F_b := Qf.below F_b (Qx.lt X_b) hd
  replace X_b := Qx.below X_b hd
  replace R_q := Lib.hid (R_q.out.below hd)
  have X_q := Qx.new w3 (.bool Q.neg) (.slice xq (dg 1000000000 Q.m).length yq) (.int .i64 Q.e) 24
  have F_q := Qf.new w3 (.bool Q.neg) (.slice xq (dg 1000000000 Q.m).length yq) (.int .i64 Q.e) 24
  clear hd b3
  obtain ⟨kq0, kq1, kq2⟩ := X_q.out
  obtain ⟨kb0, kb1, kb2⟩ := X_b.out
  go_wp2_with fail
  clear kq0 kq1 kq2 kb0 kb1 kb2
  refine (HMu.out _ _ _ b4 R_q.out).mono ?_
  rintro r w5 ⟨xp, yp, rfl, ho, hc⟩
  have b5 := b4.trans (hc.mono b4.size)
  replace F_a := Qf.below F_a (Qx.lt X_a) hc
  replace X_a := Qx.below X_a hc
  replace F_b := Qf.below F_b (Qx.lt X_b) hc
  replace X_b := Qx.below X_b hc
  replace F_q := Qf.below F_q (Qx.lt X_q) hc
  replace X_q := Qx.below X_q hc
  replace R_q := Lib.hid (R_q.out.below hc)
  clear hc b4
  have R_p := Lib.hid ho.rd
  clear ho
  have z_p := b5.size
  have hd := (Below.refl w5.heap.size w5).alloc (Nat.le_refl _) (.cells #[.bool P.p.neg, .slice xp (dg 1000000000 P.p.m).length yp, .int .i64 P.p.e] 24)
  have b6 := b5.trans (hd.mono b5.size)
  have l_a_p := Qx.lt X_a
  have m_a_p := not_eq_lt l_a_p
  have m_p_a := not_eq_gt l_a_p
  clear l_a_p
  have l_b_p := Qx.lt X_b
  have m_b_p := not_eq_lt l_b_p
  have m_p_b := not_eq_gt l_b_p
  clear l_b_p
  have l_q_p := Qx.lt X_q
  have m_q_p := not_eq_lt l_q_p
  have m_p_q := not_eq_gt l_q_p
  clear l_q_p
  replace F_a := Qf.below F_a (Qx.lt X_a) hd
  replace X_a := Qx.below X_a hd
  replace F_b := Qf.below F_b (Qx.lt X_b) hd
  replace X_b := Qx.below X_b hd
  replace F_q := Qf.below F_q (Qx.lt X_q) hd
  replace X_q := Qx.below X_q hd
  replace R_q := Lib.hid (R_q.out.below hd)
  replace R_p := Lib.hid (R_p.out.below hd)
  have X_p := Qx.new w5 (.bool P.p.neg) (.slice xp (dg 1000000000 P.p.m).length yp) (.int .i64 P.p.e) 24
  have F_p := Qf.new w5 (.bool P.p.neg) (.slice xp (dg 1000000000 P.p.m).length yp) (.int .i64 P.p.e) 24
  clear hd b5
  clear X_q F_q
  clear R_q
  clear X_b F_b
  obtain ⟨kp0, kp1, kp2⟩ := X_p.out
  go_wp2_with fail
  clear kp0 kp1 kp2
  refine (HNg.out _ _ _ R_p.out (HT.out.below b6)).mono ?_
  rintro r w7 ⟨xn, yn, rfl, ho, hc⟩
  have b7 := b6.trans (hc.mono b6.size)
  replace F_a := Qf.below F_a (Qx.lt X_a) hc
  replace X_a := Qx.below X_a hc
  replace F_p := Qf.below F_p (Qx.lt X_p) hc
  replace X_p := Qx.below X_p hc
  replace R_p := Lib.hid (R_p.out.below hc)
  clear hc b6
  have R_n := Lib.hid ho
  clear ho
  have z_n := b7.size
  have hd := (Below.refl w7.heap.size w7).alloc (Nat.le_refl _) (.cells #[.bool FP.neg, .slice xn (dg 1000000000 FP.m).length yn, .int .i64 FP.e] 24)
  have b8 := b7.trans (hd.mono b7.size)
  have l_a_n := Qx.lt X_a
  have m_a_n := not_eq_lt l_a_n
  have m_n_a := not_eq_gt l_a_n
  clear l_a_n
  have l_p_n := Qx.lt X_p
  have m_p_n := not_eq_lt l_p_n
  have m_n_p := not_eq_gt l_p_n
  clear l_p_n
  replace F_a := Qf.below F_a (Qx.lt X_a) hd
  replace X_a := Qx.below X_a hd
  replace F_p := Qf.below F_p (Qx.lt X_p) hd
  replace X_p := Qx.below X_p hd
  replace R_p := Lib.hid (R_p.out.below hd)
  replace R_n := Lib.hid (R_n.out.below hd)
  have X_n := Qx.new w7 (.bool FP.neg) (.slice xn (dg 1000000000 FP.m).length yn) (.int .i64 FP.e) 24
  have F_n := Qf.new w7 (.bool FP.neg) (.slice xn (dg 1000000000 FP.m).length yn) (.int .i64 FP.e) 24
  clear hd b7
  clear X_p F_p
  clear R_p
  obtain ⟨ka0, ka1, ka2⟩ := X_a.out
  obtain ⟨kn0, kn1, kn2⟩ := X_n.out
  go_wp2_with fail
  clear ka0 ka1 ka2 kn0 kn1 kn2
  refine (HAd.out _ _ _ b8 R_n.out).mono ?_
  rintro r w9 ⟨xd, yd, rfl, ho, hc⟩
  have b9 := b8.trans (hc.mono b8.size)
  replace F_a := Qf.below F_a (Qx.lt X_a) hc
  replace X_a := Qx.below X_a hc
  replace F_n := Qf.below F_n (Qx.lt X_n) hc
  replace X_n := Qx.below X_n hc
  replace R_n := Lib.hid (R_n.out.below hc)
  clear hc b8
  have R_d := Lib.hid ho.rd
  clear ho
  have z_d := b9.size
  have hd := (Below.refl w9.heap.size w9).alloc (Nat.le_refl _) (.cells #[.bool D.p.neg, .slice xd (dg 1000000000 D.p.m).length yd, .int .i64 D.p.e] 24)
  have b10 := b9.trans (hd.mono b9.size)
  have l_a_d := Qx.lt X_a
  have m_a_d := not_eq_lt l_a_d
  have m_d_a := not_eq_gt l_a_d
  clear l_a_d
  have l_n_d := Qx.lt X_n
  have m_n_d := not_eq_lt l_n_d
  have m_d_n := not_eq_gt l_n_d
  clear l_n_d
  replace F_a := Qf.below F_a (Qx.lt X_a) hd
  replace X_a := Qx.below X_a hd
  replace F_n := Qf.below F_n (Qx.lt X_n) hd
  replace X_n := Qx.below X_n hd
  replace R_n := Lib.hid (R_n.out.below hd)
  replace R_d := Lib.hid (R_d.out.below hd)
  have X_d := Qx.new w9 (.bool D.p.neg) (.slice xd (dg 1000000000 D.p.m).length yd) (.int .i64 D.p.e) 24
  have F_d := Qf.new w9 (.bool D.p.neg) (.slice xd (dg 1000000000 D.p.m).length yd) (.int .i64 D.p.e) 24
  clear hd b9
  clear X_n F_n
  clear R_n
  obtain ⟨kd0, kd1, kd2⟩ := X_d.out
  go_wp2_with fail
  clear kd0 kd1 kd2
  refine (HAb.out _ _ _ R_d.out (HT.out.below b10)).mono ?_
  rintro r w11 ⟨xo, yo, rfl, ho, hc⟩
  have b11 := b10.trans (hc.mono b10.size)
  replace F_a := Qf.below F_a (Qx.lt X_a) hc
  replace X_a := Qx.below X_a hc
  replace F_d := Qf.below F_d (Qx.lt X_d) hc
  replace X_d := Qx.below X_d hc
  replace R_d := Lib.hid (R_d.out.below hc)
  clear hc b10
  have R_o := Lib.hid ho
  clear ho
  have z_o := b11.size
  have hd := (Below.refl w11.heap.size w11).alloc (Nat.le_refl _) (.cells #[.bool OF.neg, .slice xo (dg 1000000000 OF.m).length yo, .int .i64 OF.e] 24)
  have b12 := b11.trans (hd.mono b11.size)
  have l_a_o := Qx.lt X_a
  have m_a_o := not_eq_lt l_a_o
  have m_o_a := not_eq_gt l_a_o
  clear l_a_o
  have l_d_o := Qx.lt X_d
  have m_d_o := not_eq_lt l_d_o
  have m_o_d := not_eq_gt l_d_o
  clear l_d_o
  replace F_a := Qf.below F_a (Qx.lt X_a) hd
  replace X_a := Qx.below X_a hd
  replace F_d := Qf.below F_d (Qx.lt X_d) hd
  replace X_d := Qx.below X_d hd
  replace R_d := Lib.hid (R_d.out.below hd)
  replace R_o := Lib.hid (R_o.out.below hd)
  have X_o := Qx.new w11 (.bool OF.neg) (.slice xo (dg 1000000000 OF.m).length yo) (.int .i64 OF.e) 24
  have F_o := Qf.new w11 (.bool OF.neg) (.slice xo (dg 1000000000 OF.m).length yo) (.int .i64 OF.e) 24
  clear hd b11
  clear X_d F_d
  clear R_d
  obtain ⟨ka0, ka1, ka2⟩ := X_a.out
  go_wp2_with fail
  clear ka0 ka1 ka2
  refine (HSa.out _ b12).mono ?_
  rintro r w13 ⟨xs, ys, rfl, ho, hc⟩
  have b13 := b12.trans (hc.mono b12.size)
  replace F_a := Qf.below F_a (Qx.lt X_a) hc
  replace X_a := Qx.below X_a hc
  replace F_o := Qf.below F_o (Qx.lt X_o) hc
  replace X_o := Qx.below X_o hc
  replace R_o := Lib.hid (R_o.out.below hc)
  clear hc b12
  have R_s := Lib.hid ho
  clear ho
  have z_s := b13.size
  have hd := (Below.refl w13.heap.size w13).alloc (Nat.le_refl _) (.cells #[.bool SZ.neg, .slice xs (dg 1000000000 SZ.m).length ys, .int .i64 SZ.e] 24)
  have b14 := b13.trans (hd.mono b13.size)
  have l_a_s := Qx.lt X_a
  have m_a_s := not_eq_lt l_a_s
  have m_s_a := not_eq_gt l_a_s
  clear l_a_s
  have l_o_s := Qx.lt X_o
  have m_o_s := not_eq_lt l_o_s
  have m_s_o := not_eq_gt l_o_s
  clear l_o_s
  replace F_a := Qf.below F_a (Qx.lt X_a) hd
  replace X_a := Qx.below X_a hd
  replace F_o := Qf.below F_o (Qx.lt X_o) hd
  replace X_o := Qx.below X_o hd
  replace R_o := Lib.hid (R_o.out.below hd)
  replace R_s := Lib.hid (R_s.out.below hd)
  have X_s := Qx.new w13 (.bool SZ.neg) (.slice xs (dg 1000000000 SZ.m).length ys) (.int .i64 SZ.e) 24
  have F_s := Qf.new w13 (.bool SZ.neg) (.slice xs (dg 1000000000 SZ.m).length ys) (.int .i64 SZ.e) 24
  clear hd b13
  clear X_a F_a
  have hl := (Below.refl (w13.alloc (.cells #[.bool SZ.neg, .slice xs (dg 1000000000 SZ.m).length ys, .int .i64 SZ.e] 24)).heap.size (w13.alloc (.cells #[.bool SZ.neg, .slice xs (dg 1000000000 SZ.m).length ys, .int .i64 SZ.e] 24))).alloc (Nat.le_refl _) (.cells #[.int .u32 1] 40)
  obtain ⟨ks0, ks1, ks2⟩ := X_s.out
  have b15 := b14.trans (hl.mono b14.size)
  replace F_o := Qf.below F_o (Qx.lt X_o) hl
  replace X_o := Qx.below X_o hl
  replace F_s := Qf.below F_s (Qx.lt X_s) hl
  replace X_s := Qx.below X_s hl
  replace R_o := Lib.hid (R_o.out.below hl)
  replace R_s := Lib.hid (R_s.out.below hl)
  clear hl b14
  clear ks0 ks1 ks2
  obtain ⟨ks0, ks1, ks2⟩ := X_s.out
  go_wp2_with fail
  clear ks0 ks1 ks2
  refine (HMo.out _ _ _ R_s.out (HT.out.below b15) _ (by simp)).mono ?_
  rintro r w16 ⟨xm, ym, rfl, ho, hc⟩
  have b16 := b15.trans (hc.mono b15.size)
  replace F_o := Qf.below F_o (Qx.lt X_o) hc
  replace X_o := Qx.below X_o hc
  replace F_s := Qf.below F_s (Qx.lt X_s) hc
  replace X_s := Qx.below X_s hc
  replace R_o := Lib.hid (R_o.out.below hc)
  replace R_s := Lib.hid (R_s.out.below hc)
  clear hc b15
  have R_m := Lib.hid ho.rd
  clear ho
  clear X_s F_s
  clear R_s
  have z_m := b16.size
  have hd := (Below.refl w16.heap.size w16).alloc (Nat.le_refl _) (.cells #[.bool M.p.neg, .slice xm (dg 1000000000 M.p.m).length ym, .int .i64 M.p.e] 24)
  have b17 := b16.trans (hd.mono b16.size)
  have l_o_m := Qx.lt X_o
  have m_o_m := not_eq_lt l_o_m
  have m_m_o := not_eq_gt l_o_m
  clear l_o_m
  replace F_o := Qf.below F_o (Qx.lt X_o) hd
  replace X_o := Qx.below X_o hd
  replace R_o := Lib.hid (R_o.out.below hd)
  replace R_m := Lib.hid (R_m.out.below hd)
  have X_m := Qx.new w16 (.bool M.p.neg) (.slice xm (dg 1000000000 M.p.m).length ym) (.int .i64 M.p.e) 24
  have F_m := Qf.new w16 (.bool M.p.neg) (.slice xm (dg 1000000000 M.p.m).length ym) (.int .i64 M.p.e) 24
  clear hd b16
  clear X_o F_o
  clear R_o
  clear X_m F_m
  clear R_m
  have B_ := Lib.hid b17
  clear b17
  go_wp2
  go_ret
  exact ⟨rfl, B_.out⟩
set_option maxHeartbeats 16000000 in
set_option maxRecDepth 20000 in
theorem off_ok (s1 s2 : Bool) (a1 a2 : Option Addr) (c1 c2 : Nat) (l1 l2 : List Nat) (e1 e2 : Int) (w : World) (h1 : l1.length ≤ 9223372036854775807) (h2 : l2.length ≤ 9223372036854775807) (hlo1 : Lo 4294967296 l1) (hlo2 : Lo 4294967296 l2) (hr1 : Rd w .u32 a1 l1) (hr2 : Rd w .u32 a2 l2) (htab : Tab w) (h0 : (divA (normA l1.length s1 (vl 1000000000 l1) e1) (normA l2.length s2 (vl 1000000000 l2) e2)).err = 0) (h9 : (mulV (divV (normA l1.length s1 (vl 1000000000 l1) e1).p (normA l2.length s2 (vl 1000000000 l2) e2).p).p (normA l2.length s2 (vl 1000000000 l2) e2).p).err = 0 ∧ (addV (normA l1.length s1 (vl 1000000000 l1) e1).p (flipP (mulV (divV (normA l1.length s1 (vl 1000000000 l1) e1).p (normA l2.length s2 (vl 1000000000 l2) e2).p).p (normA l2.length s2 (vl 1000000000 l2) e2).p).p)).err = 0 ∧ (mulV (absP (normA l1.length s1 (vl 1000000000 l1) e1).p) pm33).err = 0) :
    Calls Tryz.prog 7 #[.agg #[.bool s1, .slice a1 l1.length c1, .int .i64 e1], .agg #[.bool s2, .slice a2 l2.length c2, .int .i64 e2]] w fun r w' => r = .returned (.bool true) ∧ Below w.heap.size w w' := by
  have hS := fun W (hb : Below w.heap.size w W) => shown_any W (htab.below hb)
  have hD := fun W (hb : Below w.heap.size w W) => Div_any s1 s2 a1 a2 c1 c2 l1 l2 e1 e2 W h1 h2 hlo1 hlo2 (hr1.below' (w' := W) hb (Nat.le_refl _)) (hr2.below' (w' := W) hb (Nat.le_refl _)) (htab.below hb)
  have hSa := fun W (hb : Below w.heap.size w W) => Abs_any s1 a1 c1 l1 e1 W h1 hlo1 (hr1.below' (w' := W) hb (Nat.le_refl _)) (htab.below hb)
  have pA := normA_plain l1.length s1 (vl 1000000000 l1) e1
  have pB := normA_plain l2.length s2 (vl 1000000000 l2) e2
  have iA := normA_in l1.length s1 (vl 1000000000 l1) e1
  have iB := normA_in l2.length s2 (vl 1000000000 l2) e2
  have hMu := fun (p : Pl) (hp : PlainP p) (ip : inR p = true) a c W (hb : Below w.heap.size w W) ra => cMulPR (p := p) hp ip a c W ra (htab.below hb) s2 a2 c2 l2 e2 h2 hlo2 (hr2.below' (w' := W) hb (Nat.le_refl _))
  have hAd := fun (p : Pl) (hp : PlainP p) (ip : inR p = true) a c W (hb : Below w.heap.size w W) ra => cAddRP (p := p) hp ip a c W ra (htab.below hb) s1 a1 c1 l1 e1 h1 hlo1 (hr1.below' (w' := W) hb (Nat.le_refl _))
  obtain ⟨hA, hB, hqm, hDe⟩ := divA_ok h0
  have hSz : normA l1.length false (vl 1000000000 l1) e1 = ⟨0, absP (normA l1.length s1 (vl 1000000000 l1) e1).p⟩ := by
    have hn : nearB l1.length e1 = true := by
      cases hq : nearB l1.length e1 with
      | true => rfl
      | false => have := normA_far (s := s1) (v := vl 1000000000 l1) hq; omega
    unfold normA at hA ⊢
    rw [if_pos hn] at hA ⊢
    rw [if_pos hn, tellA_ok hA]
    have hi := tellA_in s1 (vl 1000000000 l1) e1
    rw [tellA_ok hA] at hi
    have hi : inR (pl s1 (vl 1000000000 l1) e1) = true := hi
    have hab : absP (pl s1 (vl 1000000000 l1) e1) = pl false (vl 1000000000 l1) e1 := absP_pl _ _ _
    unfold tellA
    rw [← hab, absP_in, if_pos hi]
  rw [hSz] at hSa
  generalize (normA l1.length s1 (vl 1000000000 l1) e1) = A at *
  generalize (normA l2.length s2 (vl 1000000000 l2) e2) = B at *
  rw [hDe] at hD h0
  have pQ := divV_plain A.p B.p
  have iQ := divV_in A.p B.p
  have hMu := hMu (divV A.p B.p).p pQ iQ
  rw [show mulA ⟨0, (divV A.p B.p).p⟩ B = mulV (divV A.p B.p).p B.p by unfold mulA; rw [if_pos (show okP ⟨0, (divV A.p B.p).p⟩ B from ⟨rfl, hB⟩)]; rfl] at hMu
  have pP := mulV_plain (divV A.p B.p).p B.p
  have iP : inR (mulV (divV A.p B.p).p B.p).p = true := tellA_in _ _ _
  have pF := flip_plain pP
  have iF : inR (flipP (mulV (divV A.p B.p).p B.p).p) = true := by rw [inR_flip]; exact iP
  have hNg := fun a c W r ht => DNeg_any (mulV (divV A.p B.p).p B.p).p.neg a c (dg 1000000000 (mulV (divV A.p B.p).p B.p).p.m) (mulV (divV A.p B.p).p B.p).p.e W (few_pl iP) (lo_pl _) r ht
  rw [norm_flip pP iP] at hNg
  have hNg := fun a c W r ht => (hNg a c W r ht).mono fun _ _ h => (ResA.y h).ok
  have hAd := hAd (flipP (mulV (divV A.p B.p).p B.p).p) pF iF
  rw [show addA A ⟨0, flipP (mulV (divV A.p B.p).p B.p).p⟩ = addV A.p (flipP (mulV (divV A.p B.p).p B.p).p) by unfold addA; rw [if_pos (show okP A ⟨0, _⟩ from ⟨hA, rfl⟩)]] at hAd
  have pDf := addV_plain A.p (flipP (mulV (divV A.p B.p).p B.p).p)
  have iDf := (by have h := addA_in' ⟨0, A.p⟩ ⟨0, flipP (mulV (divV A.p B.p).p B.p).p⟩; unfold addA at h; rw [if_pos (okP0 _ _)] at h; exact h : inR (addV A.p (flipP (mulV (divV A.p B.p).p B.p).p)).p = true)
  have hAb := fun a c W r ht => Abs_any (addV A.p (flipP (mulV (divV A.p B.p).p B.p).p)).p.neg a c (dg 1000000000 (addV A.p (flipP (mulV (divV A.p B.p).p B.p).p)).p.m) (addV A.p (flipP (mulV (divV A.p B.p).p B.p).p)).p.e W (few_pl iDf) (lo_pl _) r ht
  rw [norm_abs pDf iDf] at hAb
  have hAb := fun a c W r ht => (hAb a c W r ht).mono fun _ _ h => ResY.ok h
  have hSa := fun W hb => (hSa W hb).mono fun _ _ h => ResY.ok h
  have pS := absP_plain pA
  have iS : inR (absP A.p) = true := iA
  have hMo := fun a c W r ht b (hc : W.cell? ⟨b, 0, none⟩ = some (.int .u32 1)) => cMulPR (p := absP A.p) pS iS a c W r ht false (some ⟨b, 0, none⟩) 1 [1] (-33) (by simp) (by intro x hx; rw [List.mem_singleton.1 hx]; omega) (Rd_1 hc)
  rw [show mulA ⟨0, absP A.p⟩ (normA [1].length false (vl 1000000000 [1]) (-33)) = mulV (absP A.p) pm33 by rw [vl_one, show [1].length = 1 from rfl, nrm33]; unfold mulA; rw [if_pos (okP0 _ _)]; rfl] at hMo
  have hMo : ∀ a c W (r : Rd W .u32 a (dg 1000000000 (absP A.p).m)) (ht : Tab W) b (hc : W.cell? ⟨b, 0, none⟩ = some (.int .u32 1)), Calls Tryz.prog 27 #[.agg #[.bool (absP A.p).neg, .slice a (dg 1000000000 (absP A.p).m).length c, .int .i64 (absP A.p).e], .agg #[.bool false, .slice (some ⟨b, 0, none⟩) 1 1, .int .i64 (-33)]] W (ResA (mulV (absP A.p) pm33) W) := hMo
  have pMo := mulV_plain (absP A.p) pm33
  have iMo : inR (mulV (absP A.p) pm33).p = true := tellA_in _ _ _
  have hCm := fun a c b d W r1 ht r2 => cCmpPP (absP_plain pDf) iDf a c W r1 ht pMo iMo b d r2
  have hD := fun W hb => (hD W hb).mono fun _ _ h => (h : ResY _ _ _ _)
  rw [ans_ok h0] at hD
  have hD := fun W hb => (hD W hb).mono fun _ _ h => ResY.ok h
  obtain ⟨z1, z2, z3⟩ := h9
  have hmain : cmpP (absP (addV A.p (flipP (mulV (divV A.p B.p).p B.p).p)).p) (mulV (absP A.p) pm33).p < 0 ∨ (absP (addV A.p (flipP (mulV (divV A.p B.p).p B.p).p)).p).m = 0 := by
    by_cases hm : A.p.m = 0
    · exact .inr (off_zero pA hm hqm)
    · exact .inl (off_less pA pB iA iB (by omega) hqm (t := pm33) rfl h0 z1 z2 z3)
  generalize (divV A.p B.p).p = Q at *
  generalize mulV Q B.p = P at *
  generalize flipP P.p = FP at *
  generalize addV A.p FP = D at *
  generalize mulV (absP A.p) pm33 = M at *
  generalize absP D.p = OF at *
  generalize absP A.p = SZ at *
  rw [ans_ok z1] at hMu
  rw [ans_ok z2] at hAd
  rw [ans_ok z3] at hMo
  have hMu := fun a c W hb ra => (hMu a c W hb ra).mono fun _ _ h => (ResA.y h).ok
  have hAd := fun a c W hb ra => (hAd a c W hb ra).mono fun _ _ h => (ResA.y h).ok
  have hMo := fun a c W r ht b hc => (hMo a c W r ht b hc).mono fun _ _ h => (ResA.y h).ok
  have hF : cmpP OF M.p < 0 ∨ (¬ cmpP OF M.p < 0 ∧ (((dg 1000000000 OF.m).length : Int) == 0) = true) := by
    rcases hmain with h | h
    · exact .inl h
    · by_cases k : cmpP OF M.p < 0
      · exact .inl k
      · exact .inr ⟨k, by rw [h, dg_zero]; rfl⟩
  clear hmain z1 z2 z3
  generalize cmpP OF M.p = cm at *
  have HF := Lib.hid hF
  clear hF
  have HS := Lib.hid hS; have HD := Lib.hid hD; have HMu := Lib.hid hMu; have HNg := Lib.hid hNg; have HAd := Lib.hid hAd; have HAb := Lib.hid hAb; have HSa := Lib.hid hSa; have HMo := Lib.hid hMo; have HCm := Lib.hid hCm; have HT := Lib.hid htab
  clear hS hD hMu hNg hAd hAb hSa hMo hCm htab hr1 hr2 hlo1 hlo2 pA pB iA iB hA hB hqm hDe h0 hSz pQ iQ pP iP pF iF pDf iDf pS iS pMo iMo
  go_enter Tryz.func7, Tryz.ntmps7
  have b1 := (((Below.refl w.heap.size w).alloc (Nat.le_refl _) (.cells #[.bool s1, .slice a1 l1.length c1, .int .i64 e1] 24)).alloc (by simp) (.cells #[.bool s2, .slice a2 l2.length c2, .int .i64 e2] 24))
  have X_a := (Qx.below (Qx.new w (.bool s1) (.slice a1 l1.length c1) (.int .i64 e1) 24) ((Below.refl _ _).alloc (Nat.le_refl _) (.cells #[.bool s2, .slice a2 l2.length c2, .int .i64 e2] 24)))
  have F_a := (Qf.below (Qf.new w (.bool s1) (.slice a1 l1.length c1) (.int .i64 e1) 24) (Qx.lt (Qx.new w (.bool s1) (.slice a1 l1.length c1) (.int .i64 e1) 24)) ((Below.refl _ _).alloc (Nat.le_refl _) (.cells #[.bool s2, .slice a2 l2.length c2, .int .i64 e2] 24)))
  have X_b := (Qx.new (w.alloc (.cells #[.bool s1, .slice a1 l1.length c1, .int .i64 e1] 24)) (.bool s2) (.slice a2 l2.length c2) (.int .i64 e2) 24)
  have F_b := (Qf.new (w.alloc (.cells #[.bool s1, .slice a1 l1.length c1, .int .i64 e1] 24)) (.bool s2) (.slice a2 l2.length c2) (.int .i64 e2) 24)
  have z : (w.alloc (.cells #[.bool s1, .slice a1 l1.length c1, .int .i64 e1] 24)).heap.size = w.heap.size + 1 := by simp
  rw [z] at X_b F_b
  clear z
  go_wp2_with fail
  refine (HS.out _ b1).mono ?_
  rintro r w2 ⟨rfl, hc⟩
  have b2 := b1.trans (hc.mono b1.size)
  replace F_a := Qf.below F_a (Qx.lt X_a) hc
  replace X_a := Qx.below X_a hc
  replace F_b := Qf.below F_b (Qx.lt X_b) hc
  replace X_b := Qx.below X_b hc
  clear hc b1
  obtain ⟨ka0, ka1, ka2⟩ := X_a.out
  obtain ⟨kb0, kb1, kb2⟩ := X_b.out
  go_wp2_with fail
  clear ka0 ka1 ka2 kb0 kb1 kb2
  refine (HD.out _ b2).mono ?_
  rintro r w3 ⟨xq, yq, rfl, ho, hc⟩
  have b3 := b2.trans (hc.mono b2.size)
  replace F_a := Qf.below F_a (Qx.lt X_a) hc
  replace X_a := Qx.below X_a hc
  replace F_b := Qf.below F_b (Qx.lt X_b) hc
  replace X_b := Qx.below X_b hc
  clear hc b2
  have R_q := Lib.hid ho
  clear ho
  have z_q := b3.size
  have hd := (Below.refl w3.heap.size w3).alloc (Nat.le_refl _) (.cells #[.bool Q.neg, .slice xq (dg 1000000000 Q.m).length yq, .int .i64 Q.e] 24)
  have b4 := b3.trans (hd.mono b3.size)
  have l_a_q := Qx.lt X_a
  have m_a_q := not_eq_lt l_a_q
  have m_q_a := not_eq_gt l_a_q
  clear l_a_q
  have l_b_q := Qx.lt X_b
  have m_b_q := not_eq_lt l_b_q
  have m_q_b := not_eq_gt l_b_q
  clear l_b_q
  replace F_a := Qf.below F_a (Qx.lt X_a) hd
  replace X_a := Qx.below X_a hd
  replace F_b := Qf.below F_b (Qx.lt X_b) hd
  replace X_b := Qx.below X_b hd
  replace R_q := Lib.hid (R_q.out.below hd)
  have X_q := Qx.new w3 (.bool Q.neg) (.slice xq (dg 1000000000 Q.m).length yq) (.int .i64 Q.e) 24
  have F_q := Qf.new w3 (.bool Q.neg) (.slice xq (dg 1000000000 Q.m).length yq) (.int .i64 Q.e) 24
  clear hd b3
  obtain ⟨kq0, kq1, kq2⟩ := X_q.out
  obtain ⟨kb0, kb1, kb2⟩ := X_b.out
  go_wp2_with fail
  clear kq0 kq1 kq2 kb0 kb1 kb2
  refine (HMu.out _ _ _ b4 R_q.out).mono ?_
  rintro r w5 ⟨xp, yp, rfl, ho, hc⟩
  have b5 := b4.trans (hc.mono b4.size)
  replace F_a := Qf.below F_a (Qx.lt X_a) hc
  replace X_a := Qx.below X_a hc
  replace F_b := Qf.below F_b (Qx.lt X_b) hc
  replace X_b := Qx.below X_b hc
  replace F_q := Qf.below F_q (Qx.lt X_q) hc
  replace X_q := Qx.below X_q hc
  replace R_q := Lib.hid (R_q.out.below hc)
  clear hc b4
  have R_p := Lib.hid ho
  clear ho
  have z_p := b5.size
  have hd := (Below.refl w5.heap.size w5).alloc (Nat.le_refl _) (.cells #[.bool P.p.neg, .slice xp (dg 1000000000 P.p.m).length yp, .int .i64 P.p.e] 24)
  have b6 := b5.trans (hd.mono b5.size)
  have l_a_p := Qx.lt X_a
  have m_a_p := not_eq_lt l_a_p
  have m_p_a := not_eq_gt l_a_p
  clear l_a_p
  have l_b_p := Qx.lt X_b
  have m_b_p := not_eq_lt l_b_p
  have m_p_b := not_eq_gt l_b_p
  clear l_b_p
  have l_q_p := Qx.lt X_q
  have m_q_p := not_eq_lt l_q_p
  have m_p_q := not_eq_gt l_q_p
  clear l_q_p
  replace F_a := Qf.below F_a (Qx.lt X_a) hd
  replace X_a := Qx.below X_a hd
  replace F_b := Qf.below F_b (Qx.lt X_b) hd
  replace X_b := Qx.below X_b hd
  replace F_q := Qf.below F_q (Qx.lt X_q) hd
  replace X_q := Qx.below X_q hd
  replace R_q := Lib.hid (R_q.out.below hd)
  replace R_p := Lib.hid (R_p.out.below hd)
  have X_p := Qx.new w5 (.bool P.p.neg) (.slice xp (dg 1000000000 P.p.m).length yp) (.int .i64 P.p.e) 24
  have F_p := Qf.new w5 (.bool P.p.neg) (.slice xp (dg 1000000000 P.p.m).length yp) (.int .i64 P.p.e) 24
  clear hd b5
  clear X_q F_q
  clear R_q
  clear X_b F_b
  obtain ⟨kp0, kp1, kp2⟩ := X_p.out
  go_wp2_with fail
  clear kp0 kp1 kp2
  refine (HNg.out _ _ _ R_p.out (HT.out.below b6)).mono ?_
  rintro r w7 ⟨xn, yn, rfl, ho, hc⟩
  have b7 := b6.trans (hc.mono b6.size)
  replace F_a := Qf.below F_a (Qx.lt X_a) hc
  replace X_a := Qx.below X_a hc
  replace F_p := Qf.below F_p (Qx.lt X_p) hc
  replace X_p := Qx.below X_p hc
  replace R_p := Lib.hid (R_p.out.below hc)
  clear hc b6
  have R_n := Lib.hid ho
  clear ho
  have z_n := b7.size
  have hd := (Below.refl w7.heap.size w7).alloc (Nat.le_refl _) (.cells #[.bool FP.neg, .slice xn (dg 1000000000 FP.m).length yn, .int .i64 FP.e] 24)
  have b8 := b7.trans (hd.mono b7.size)
  have l_a_n := Qx.lt X_a
  have m_a_n := not_eq_lt l_a_n
  have m_n_a := not_eq_gt l_a_n
  clear l_a_n
  have l_p_n := Qx.lt X_p
  have m_p_n := not_eq_lt l_p_n
  have m_n_p := not_eq_gt l_p_n
  clear l_p_n
  replace F_a := Qf.below F_a (Qx.lt X_a) hd
  replace X_a := Qx.below X_a hd
  replace F_p := Qf.below F_p (Qx.lt X_p) hd
  replace X_p := Qx.below X_p hd
  replace R_p := Lib.hid (R_p.out.below hd)
  replace R_n := Lib.hid (R_n.out.below hd)
  have X_n := Qx.new w7 (.bool FP.neg) (.slice xn (dg 1000000000 FP.m).length yn) (.int .i64 FP.e) 24
  have F_n := Qf.new w7 (.bool FP.neg) (.slice xn (dg 1000000000 FP.m).length yn) (.int .i64 FP.e) 24
  clear hd b7
  clear X_p F_p
  clear R_p
  obtain ⟨ka0, ka1, ka2⟩ := X_a.out
  obtain ⟨kn0, kn1, kn2⟩ := X_n.out
  go_wp2_with fail
  clear ka0 ka1 ka2 kn0 kn1 kn2
  refine (HAd.out _ _ _ b8 R_n.out).mono ?_
  rintro r w9 ⟨xd, yd, rfl, ho, hc⟩
  have b9 := b8.trans (hc.mono b8.size)
  replace F_a := Qf.below F_a (Qx.lt X_a) hc
  replace X_a := Qx.below X_a hc
  replace F_n := Qf.below F_n (Qx.lt X_n) hc
  replace X_n := Qx.below X_n hc
  replace R_n := Lib.hid (R_n.out.below hc)
  clear hc b8
  have R_d := Lib.hid ho
  clear ho
  have z_d := b9.size
  have hd := (Below.refl w9.heap.size w9).alloc (Nat.le_refl _) (.cells #[.bool D.p.neg, .slice xd (dg 1000000000 D.p.m).length yd, .int .i64 D.p.e] 24)
  have b10 := b9.trans (hd.mono b9.size)
  have l_a_d := Qx.lt X_a
  have m_a_d := not_eq_lt l_a_d
  have m_d_a := not_eq_gt l_a_d
  clear l_a_d
  have l_n_d := Qx.lt X_n
  have m_n_d := not_eq_lt l_n_d
  have m_d_n := not_eq_gt l_n_d
  clear l_n_d
  replace F_a := Qf.below F_a (Qx.lt X_a) hd
  replace X_a := Qx.below X_a hd
  replace F_n := Qf.below F_n (Qx.lt X_n) hd
  replace X_n := Qx.below X_n hd
  replace R_n := Lib.hid (R_n.out.below hd)
  replace R_d := Lib.hid (R_d.out.below hd)
  have X_d := Qx.new w9 (.bool D.p.neg) (.slice xd (dg 1000000000 D.p.m).length yd) (.int .i64 D.p.e) 24
  have F_d := Qf.new w9 (.bool D.p.neg) (.slice xd (dg 1000000000 D.p.m).length yd) (.int .i64 D.p.e) 24
  clear hd b9
  clear X_n F_n
  clear R_n
  obtain ⟨kd0, kd1, kd2⟩ := X_d.out
  go_wp2_with fail
  clear kd0 kd1 kd2
  refine (HAb.out _ _ _ R_d.out (HT.out.below b10)).mono ?_
  rintro r w11 ⟨xo, yo, rfl, ho, hc⟩
  have b11 := b10.trans (hc.mono b10.size)
  replace F_a := Qf.below F_a (Qx.lt X_a) hc
  replace X_a := Qx.below X_a hc
  replace F_d := Qf.below F_d (Qx.lt X_d) hc
  replace X_d := Qx.below X_d hc
  replace R_d := Lib.hid (R_d.out.below hc)
  clear hc b10
  have R_o := Lib.hid ho
  clear ho
  have z_o := b11.size
  have hd := (Below.refl w11.heap.size w11).alloc (Nat.le_refl _) (.cells #[.bool OF.neg, .slice xo (dg 1000000000 OF.m).length yo, .int .i64 OF.e] 24)
  have b12 := b11.trans (hd.mono b11.size)
  have l_a_o := Qx.lt X_a
  have m_a_o := not_eq_lt l_a_o
  have m_o_a := not_eq_gt l_a_o
  clear l_a_o
  have l_d_o := Qx.lt X_d
  have m_d_o := not_eq_lt l_d_o
  have m_o_d := not_eq_gt l_d_o
  clear l_d_o
  replace F_a := Qf.below F_a (Qx.lt X_a) hd
  replace X_a := Qx.below X_a hd
  replace F_d := Qf.below F_d (Qx.lt X_d) hd
  replace X_d := Qx.below X_d hd
  replace R_d := Lib.hid (R_d.out.below hd)
  replace R_o := Lib.hid (R_o.out.below hd)
  have X_o := Qx.new w11 (.bool OF.neg) (.slice xo (dg 1000000000 OF.m).length yo) (.int .i64 OF.e) 24
  have F_o := Qf.new w11 (.bool OF.neg) (.slice xo (dg 1000000000 OF.m).length yo) (.int .i64 OF.e) 24
  clear hd b11
  clear X_d F_d
  clear R_d
  obtain ⟨ka0, ka1, ka2⟩ := X_a.out
  go_wp2_with fail
  clear ka0 ka1 ka2
  refine (HSa.out _ b12).mono ?_
  rintro r w13 ⟨xs, ys, rfl, ho, hc⟩
  have b13 := b12.trans (hc.mono b12.size)
  replace F_a := Qf.below F_a (Qx.lt X_a) hc
  replace X_a := Qx.below X_a hc
  replace F_o := Qf.below F_o (Qx.lt X_o) hc
  replace X_o := Qx.below X_o hc
  replace R_o := Lib.hid (R_o.out.below hc)
  clear hc b12
  have R_s := Lib.hid ho
  clear ho
  have z_s := b13.size
  have hd := (Below.refl w13.heap.size w13).alloc (Nat.le_refl _) (.cells #[.bool SZ.neg, .slice xs (dg 1000000000 SZ.m).length ys, .int .i64 SZ.e] 24)
  have b14 := b13.trans (hd.mono b13.size)
  have l_a_s := Qx.lt X_a
  have m_a_s := not_eq_lt l_a_s
  have m_s_a := not_eq_gt l_a_s
  clear l_a_s
  have l_o_s := Qx.lt X_o
  have m_o_s := not_eq_lt l_o_s
  have m_s_o := not_eq_gt l_o_s
  clear l_o_s
  replace F_a := Qf.below F_a (Qx.lt X_a) hd
  replace X_a := Qx.below X_a hd
  replace F_o := Qf.below F_o (Qx.lt X_o) hd
  replace X_o := Qx.below X_o hd
  replace R_o := Lib.hid (R_o.out.below hd)
  replace R_s := Lib.hid (R_s.out.below hd)
  have X_s := Qx.new w13 (.bool SZ.neg) (.slice xs (dg 1000000000 SZ.m).length ys) (.int .i64 SZ.e) 24
  have F_s := Qf.new w13 (.bool SZ.neg) (.slice xs (dg 1000000000 SZ.m).length ys) (.int .i64 SZ.e) 24
  clear hd b13
  clear X_a F_a
  have hl := (Below.refl (w13.alloc (.cells #[.bool SZ.neg, .slice xs (dg 1000000000 SZ.m).length ys, .int .i64 SZ.e] 24)).heap.size (w13.alloc (.cells #[.bool SZ.neg, .slice xs (dg 1000000000 SZ.m).length ys, .int .i64 SZ.e] 24))).alloc (Nat.le_refl _) (.cells #[.int .u32 1] 40)
  obtain ⟨ks0, ks1, ks2⟩ := X_s.out
  have b15 := b14.trans (hl.mono b14.size)
  replace F_o := Qf.below F_o (Qx.lt X_o) hl
  replace X_o := Qx.below X_o hl
  replace F_s := Qf.below F_s (Qx.lt X_s) hl
  replace X_s := Qx.below X_s hl
  replace R_o := Lib.hid (R_o.out.below hl)
  replace R_s := Lib.hid (R_s.out.below hl)
  clear hl b14
  clear ks0 ks1 ks2
  obtain ⟨ks0, ks1, ks2⟩ := X_s.out
  go_wp2_with fail
  clear ks0 ks1 ks2
  refine (HMo.out _ _ _ R_s.out (HT.out.below b15) _ (by simp)).mono ?_
  rintro r w16 ⟨xm, ym, rfl, ho, hc⟩
  have b16 := b15.trans (hc.mono b15.size)
  replace F_o := Qf.below F_o (Qx.lt X_o) hc
  replace X_o := Qx.below X_o hc
  replace F_s := Qf.below F_s (Qx.lt X_s) hc
  replace X_s := Qx.below X_s hc
  replace R_o := Lib.hid (R_o.out.below hc)
  replace R_s := Lib.hid (R_s.out.below hc)
  clear hc b15
  have R_m := Lib.hid ho
  clear ho
  clear X_s F_s
  clear R_s
  have z_m := b16.size
  have hd := (Below.refl w16.heap.size w16).alloc (Nat.le_refl _) (.cells #[.bool M.p.neg, .slice xm (dg 1000000000 M.p.m).length ym, .int .i64 M.p.e] 24)
  have b17 := b16.trans (hd.mono b16.size)
  have l_o_m := Qx.lt X_o
  have m_o_m := not_eq_lt l_o_m
  have m_m_o := not_eq_gt l_o_m
  clear l_o_m
  replace F_o := Qf.below F_o (Qx.lt X_o) hd
  replace X_o := Qx.below X_o hd
  replace R_o := Lib.hid (R_o.out.below hd)
  replace R_m := Lib.hid (R_m.out.below hd)
  have X_m := Qx.new w16 (.bool M.p.neg) (.slice xm (dg 1000000000 M.p.m).length ym) (.int .i64 M.p.e) 24
  have F_m := Qf.new w16 (.bool M.p.neg) (.slice xm (dg 1000000000 M.p.m).length ym) (.int .i64 M.p.e) 24
  clear hd b16
  obtain ⟨ko0, ko1, ko2⟩ := X_o.out
  obtain ⟨km0, km1, km2⟩ := X_m.out
  go_wp2_with fail
  clear ko0 ko1 ko2 km0 km1 km2
  refine (HCm.out _ _ _ _ _ R_o.out (HT.out.below b17) R_m.out).mono ?_
  rintro r w18 ⟨rfl, hc⟩
  have b18 := b17.trans (hc.mono b17.size)
  replace F_o := Qf.below F_o (Qx.lt X_o) hc
  replace X_o := Qx.below X_o hc
  replace F_m := Qf.below F_m (Qx.lt X_m) hc
  replace X_m := Qx.below X_m hc
  replace R_o := Lib.hid (R_o.out.below hc)
  replace R_m := Lib.hid (R_m.out.below hc)
  clear hc b17
  clear X_m F_m
  clear R_m
  have F1 := HF.out
  generalize (dg 1000000000 OF.m).length = nO at *
  obtain ⟨ko0, ko1, ko2⟩ := X_o.out
  have B_ := Lib.hid b18
  clear b18
  rcases F1 with j1 | ⟨j1, j2⟩
  all_goals
    go_wp2
    go_ret
    exact ⟨rfl, B_.out⟩
theorem off_walk {s1 s2 : Bool} {a1 a2 : Option Addr} {n1 n2 ca1 ca2 : Nat} {e1 e2 : Int} (w : World) (htab : Tab w) (ha : IsRow w a1 n1 ca1) (_ : (Lit.int .i64 e1).wf = true) (hb : IsRow w a2 n2 ca2) (_ : (Lit.int .i64 e2).wf = true) :
    Calls Tryz.prog 7 #[.agg #[.bool s1, .slice a1 n1 ca1, .int .i64 e1], .agg #[.bool s2, .slice a2 n2 ca2, .int .i64 e2]] w fun r w' => r = .returned (.bool true) ∧ Below w.heap.size w w' := by
  obtain ⟨l1, rfl, lo1, rd1, hm1⟩ := ha
  obtain ⟨l2, rfl, lo2, rd2, hm2⟩ := hb
  unfold maxLen at hm1 hm2
  by_cases h0 : (divA (normA l1.length s1 (vl 1000000000 l1) e1) (normA l2.length s2 (vl 1000000000 l2) e2)).err = 0
  · by_cases h9 : (mulV (divV (normA l1.length s1 (vl 1000000000 l1) e1).p (normA l2.length s2 (vl 1000000000 l2) e2).p).p (normA l2.length s2 (vl 1000000000 l2) e2).p).err = 0 ∧ (addV (normA l1.length s1 (vl 1000000000 l1) e1).p (flipP (mulV (divV (normA l1.length s1 (vl 1000000000 l1) e1).p (normA l2.length s2 (vl 1000000000 l2) e2).p).p (normA l2.length s2 (vl 1000000000 l2) e2).p).p)).err = 0 ∧ (mulV (absP (normA l1.length s1 (vl 1000000000 l1) e1).p) pm33).err = 0
    · exact off_ok s1 s2 a1 a2 ca1 ca2 l1 l2 e1 e2 w (by omega) (by omega) lo1 lo2 rd1 rd2 htab h0 h9
    · exact off_err s1 s2 a1 a2 ca1 ca2 l1 l2 e1 e2 w (by omega) (by omega) lo1 lo2 rd1 rd2 htab h0 h9
  · exact off_no s1 s2 a1 a2 ca1 ca2 l1 l2 e1 e2 w (by omega) (by omega) lo1 lo2 rd1 rd2 htab h0
end Go.Proofs.YtimfpgpomafflaaGreatDoor
