/- Walk of the document's Cut, without a sign, more digits than one. Made by gencut.py. -/
import Derived.Test.YtofeckdhhaoobaaDoorDecCx
namespace Go.Proofs.YtofeckdhhaoobaaDoor
open Go.RowKit LM

set_option maxHeartbeats 40000000 in
set_option maxRecDepth 20000 in
theorem Cut_0b (s : ByteArray) (w : World) (hs : s.size ≤ 140737488351232) (h0 : 0 < s.size) (h45 : ¬ s[0].toNat = 45) (hn1 : 1 < (dgs (s.data.toList.drop 0)).length) : Calls Tryd.prog 45 #[.string s] w (ResC s w) := by
  have hR := fun a A W hA ha => run_int s (A := A) a hA W hs ha
  have HR := Lib.hid hR
  clear hR
  have h45I : ¬ ((s[0]).toNat : Int) = 45 := by omega
  obtain ⟨hm, hu⟩ := sign_no s (fun _ => h45)
  have ha : aft (unsig s.data.toList) = s.data.toList.drop (0 + (dgs (s.data.toList.drop 0)).length) := by rw [hu]; exact aft_drop s 0
  have HM := Lib.hid hm; have HU := Lib.hid hu
  clear hm hu
  have hl0 := dgs_le s 0 (by omega)
  have hx0 := ext_dgs s 0
  go_enter Tryd.func45, Tryd.ntmps45
  go_wp2_with fail
  refine (HR.out 0 _ _ (by omega) (by omega)).mono ?_
  rintro r w1 ⟨rfl, hw1⟩
  have ci1 : CI w w1 false (⟨#[]⟩ : ByteArray) (⟨#[]⟩ : ByteArray) (⟨#[]⟩ : ByteArray) false := by rw [← hw1]; exact CI.new
  clear hw1
  have HBM := Lib.hid (fun h1 h2 => good_1 (s := s) (a := 0) HU.out h1 h2)
  have HB0 := Lib.hid (fun h => bad_0 (l := s.data.toList) (by rw [HU.out]; exact h))
  have HB8 := Lib.hid (fun h1 h2 h3 => bad_48 (s := s) (a := 0) HU.out h1 h2 h3)
  have hx1 : (s.extract 0 (0 + (dgs (s.data.toList.drop 0)).length)).data.toList = dgs (unsig s.data.toList) := by rw [HU.out]; exact hx0
  generalize hn : (dgs (s.data.toList.drop 0)).length = n at *
  rw [Nat.zero_add] at hl0 hx1 ha
  have XN := Lib.hid hx1.symm; have HA := Lib.hid ha; have HN := Lib.hid hn
  clear hx0 hx1 ha hn
  have cix := ci1
  obtain ⟨c0, c1, c2, c3, c4, q0, q1, q2, q3, q4, f1, f0, bw⟩ := cix
  have nB : ((n : Int) == 0) = false := by simp <;> omega
  have hgt : (1 : Int) < (n : Int) := by omega
  have hlt : 0 < s.size := by omega
  by_cases h48 : (s[0]).toNat = 48
  · have h48I : (((s[0]).toNat : Int) == 48) = true := by simp; omega
    have HQ := Lib.hid (HB8.out hn1 hlt h48)
    clear h48
    go_wp2
    refine bodyPost_ret (v := .tuple #[.agg #[.bool false, .string (⟨#[]⟩ : ByteArray), .string (⟨#[]⟩ : ByteArray), .string (⟨#[]⟩ : ByteArray), .bool false], .bool false]) (by simp [results, Tryd.results45, go_sem, q0, q1, q2, q3, q4]) rfl ?_
    exact ⟨bw5 bw _ _ _ _ _, _, _, _, _, _, _, rfl, (fun h => by cases h), (fun _ => by exact HQ.out)⟩
  · have h48I : (((s[0]).toNat : Int) == 48) = false := by simp; omega
    have HBW := Lib.hid (HBM.out (by omega) (fun _ _ => h48))
    clear h48
    have hs1 := slice_at (P := Tryd.prog) 9 Tryd.underlying9 (s := s) (A := (0 : Int)) (E := (n : Int)) (by omega) (by omega) (by omega)
    rw [show ((0 : Int)).toNat = 0 by omega, show ((n : Int)).toNat = n by omega] at hs1
    by_cases p : n < s.size
    · have pI : (n : Int) < (s.size : Int) := by omega
      by_cases p1 : (s[n]).toNat = 46
      · have p1I : ((s[n]).toNat : Int) = 46 := by omega
        go_wp2_with fail
        refine (HR.out (n + 1) _ _ (by omega) (by omega)).mono ?_
        rintro r w1 ⟨rfl, hw3⟩
        have ci2 : CI w w1 false (s.extract (0) (n)) (⟨#[]⟩ : ByteArray) (⟨#[]⟩ : ByteArray) false := by rw [← hw3]; exact (ci1.set1 (s.extract (0) (n)))
        clear c0 c1 c2 c3 c4 q0 q1 q2 q3 q4 f1 f0 bw hw3
        have lm := dgs_le s (n + 1) (by omega)
        have xm := ext_dgs s (n + 1)
        generalize hm : (dgs (s.data.toList.drop (n + 1))).length = m at *
        have Hm := Lib.hid hm; have Xm := Lib.hid xm
        clear hm xm
        have cix := ci2
        obtain ⟨c0, c1, c2, c3, c4, q0, q1, q2, q3, q4, f1, f0, bw⟩ := cix
        by_cases m0 : m = 0
        · have mB : ((m : Int) == 0) = true := by simp <;> omega
          have HQ := Lib.hid (cut_fn HBW.out (by rw [HA.out]; exact frac_bad p p1 (Hm.out.trans m0)))
          clear m0
          go_wp2
          refine bodyPost_ret (v := .tuple #[.agg #[.bool false, .string (s.extract (0) (n)), .string (⟨#[]⟩ : ByteArray), .string (⟨#[]⟩ : ByteArray), .bool false], .bool false]) (by simp [results, Tryd.results45, go_sem, q0, q1, q2, q3, q4]) rfl ?_
          exact ⟨bw5 bw _ _ _ _ _, _, _, _, _, _, _, rfl, (fun h => by cases h), (fun _ => by exact HQ.out)⟩
        · have mB : ((m : Int) == 0) = false := by simp <;> omega
          have hs2 := slice_at (P := Tryd.prog) 9 Tryd.underlying9 (s := s) (A := (n : Int) + 1) (E := (n : Int) + 1 + (m : Int)) (by omega) (by omega) (by omega)
          rw [show ((n : Int) + 1).toNat = n + 1 by omega, show ((n : Int) + 1 + (m : Int)).toNat = n + 1 + m by omega] at hs2
          have hf := frac_yes p p1 (by rw [Hm.out]; exact m0)
          rw [Hm.out, ← Xm.out, ← HA.out] at hf
          have HF := Lib.hid hf
          clear hf m0
          by_cases z : n + 1 + m < s.size
          · have zI : (n : Int) + 1 + (m : Int) < (s.size : Int) := by omega
            by_cases x1 : (s[n + 1 + m]).toNat = 101
            · have x1I : ((s[n + 1 + m]).toNat : Int) = 101 := by omega
              have HC := Lib.hid (show (s[n + 1 + m]).toNat = 101 ∨ (s[n + 1 + m]).toNat = 69 from .inl x1)
              by_cases y : n + 1 + m + 1 < s.size
              · have yI : (n : Int) + 1 + (m : Int) + 1 < (s.size : Int) := by omega
                by_cases y1 : (s[n + 1 + m + 1]).toNat = 43
                · have y1I : ((s[n + 1 + m + 1]).toNat : Int) = 43 := by omega
                  have hd : (((s[n + 1 + m + 1]).toNat : Int) == 45) = false := by simp; omega
                  have HG := Lib.hid (sg_up y y1)
                  go_wp2_with fail
                  refine (HR.out (n + 1 + m + 1 + 1) _ _ (by omega) (by omega)).mono ?_
                  rintro r w4 ⟨rfl, hw6⟩
                  have ci5 : CI w w4 false (s.extract (0) (n)) (s.extract (n + 1) (n + 1 + m)) (⟨#[]⟩ : ByteArray) false := by rw [← hw6]; exact ((ci2.set2 (s.extract (n + 1) (n + 1 + m))).set4 false)
                  clear c0 c1 c2 c3 c4 q0 q1 q2 q3 q4 f1 f0 bw hw6
                  have lk := dgs_le s (n + 1 + m + 1 + 1) (by omega)
                  have xk := ext_dgs s (n + 1 + m + 1 + 1)
                  generalize hk : (dgs (s.data.toList.drop (n + 1 + m + 1 + 1))).length = k at *
                  have Hk := Lib.hid hk; have Xk := Lib.hid xk
                  clear hk xk
                  have cix := ci5
                  obtain ⟨c0, c1, c2, c3, c4, q0, q1, q2, q3, q4, f1, f0, bw⟩ := cix
                  by_cases k0 : k = 0
                  · have kB : ((k : Int) == 0) = true := by simp <;> omega
                    have HQ := Lib.hid (cut_en HBW.out HF.out (exp_bad z HC.out HG.out (Hk.out.trans k0)))
                    clear k0
                    go_wp2
                    refine bodyPost_ret (v := .tuple #[.agg #[.bool false, .string (s.extract (0) (n)), .string (s.extract (n + 1) (n + 1 + m)), .string (⟨#[]⟩ : ByteArray), .bool false], .bool false]) (by simp [results, Tryd.results45, go_sem, q0, q1, q2, q3, q4]) rfl ?_
                    exact ⟨bw5 bw _ _ _ _ _, _, _, _, _, _, _, rfl, (fun h => by cases h), (fun _ => by exact HQ.out)⟩
                  · have kB : ((k : Int) == 0) = false := by simp <;> omega
                    have hsl := slice_at (P := Tryd.prog) 9 Tryd.underlying9 (s := s) (A := (n : Int) + 1 + (m : Int) + 1 + 1) (E := (n : Int) + 1 + (m : Int) + 1 + 1 + (k : Int)) (by omega) (by omega) (by omega)
                    rw [show ((n : Int) + 1 + (m : Int) + 1 + 1).toNat = n + 1 + m + 1 + 1 by omega, show ((n : Int) + 1 + (m : Int) + 1 + 1 + (k : Int)).toNat = n + 1 + m + 1 + 1 + k by omega] at hsl
                    have he := exp_yes z HC.out HG.out (by rw [Hk.out]; exact k0)
                    rw [Hk.out, ← Xk.out] at he
                    have HQ := Lib.hid (cut_some HBW.out HF.out he)
                    clear he
                    by_cases ke : n + 1 + m + 1 + 1 + k = s.size
                    · have HQ2 := Lib.hid (HQ.out.trans (if_pos ((nil_iff s (n + 1 + m + 1 + 1 + k) (by omega)).2 ke)))
                      have hfe : ((n : Int) + 1 + (m : Int) + 1 + 1 + (k : Int) == (s.size : Int)) = true := by simp <;> omega
                      clear HQ ke
                      go_wp2
                      refine bodyPost_ret (v := .tuple #[.agg #[.bool false, .string (s.extract (0) (n)), .string (s.extract (n + 1) (n + 1 + m)), .string (s.extract (n + 1 + m + 1 + 1) (n + 1 + m + 1 + 1 + k)), .bool false], .bool true]) (by simp [results, Tryd.results45, go_sem, q0, q1, q2, q3, q4]) rfl ?_
                      exact ⟨bw5 (Below.setCell bw (Nat.le_succ _) _) _ _ _ _ _, _, _, _, _, _, _, rfl, (fun _ => by rw [HQ2.out, HM.out, XN.out]), (fun h => by cases h)⟩
                    · have HQ2 := Lib.hid (HQ.out.trans (if_neg (fun h => ke ((nil_iff s (n + 1 + m + 1 + 1 + k) (by omega)).1 h))))
                      have hfe : ((n : Int) + 1 + (m : Int) + 1 + 1 + (k : Int) == (s.size : Int)) = false := by simp <;> omega
                      clear HQ ke
                      go_wp2
                      refine bodyPost_ret (v := .tuple #[.agg #[.bool false, .string (s.extract (0) (n)), .string (s.extract (n + 1) (n + 1 + m)), .string (s.extract (n + 1 + m + 1 + 1) (n + 1 + m + 1 + 1 + k)), .bool false], .bool false]) (by simp [results, Tryd.results45, go_sem, q0, q1, q2, q3, q4]) rfl ?_
                      exact ⟨bw5 (Below.setCell bw (Nat.le_succ _) _) _ _ _ _ _, _, _, _, _, _, _, rfl, (fun h => by cases h), (fun _ => by exact HQ2.out)⟩
                · have y1I : ¬ ((s[n + 1 + m + 1]).toNat : Int) = 43 := by omega
                  have y1B : (((s[n + 1 + m + 1]).toNat : Int) == 43) = false := by simp <;> omega
                  by_cases y2 : (s[n + 1 + m + 1]).toNat = 45
                  · have y2I : ((s[n + 1 + m + 1]).toNat : Int) = 45 := by omega
                    have hd : (((s[n + 1 + m + 1]).toNat : Int) == 45) = true := by simp; omega
                    have HG := Lib.hid (sg_down y y2)
                    go_wp2_with fail
                    refine (HR.out (n + 1 + m + 1 + 1) _ _ (by omega) (by omega)).mono ?_
                    rintro r w7 ⟨rfl, hw9⟩
                    have ci8 : CI w w7 false (s.extract (0) (n)) (s.extract (n + 1) (n + 1 + m)) (⟨#[]⟩ : ByteArray) true := by rw [← hw9]; exact ((ci2.set2 (s.extract (n + 1) (n + 1 + m))).set4 true)
                    clear c0 c1 c2 c3 c4 q0 q1 q2 q3 q4 f1 f0 bw hw9
                    have lk := dgs_le s (n + 1 + m + 1 + 1) (by omega)
                    have xk := ext_dgs s (n + 1 + m + 1 + 1)
                    generalize hk : (dgs (s.data.toList.drop (n + 1 + m + 1 + 1))).length = k at *
                    have Hk := Lib.hid hk; have Xk := Lib.hid xk
                    clear hk xk
                    have cix := ci8
                    obtain ⟨c0, c1, c2, c3, c4, q0, q1, q2, q3, q4, f1, f0, bw⟩ := cix
                    by_cases k0 : k = 0
                    · have kB : ((k : Int) == 0) = true := by simp <;> omega
                      have HQ := Lib.hid (cut_en HBW.out HF.out (exp_bad z HC.out HG.out (Hk.out.trans k0)))
                      clear k0
                      go_wp2
                      refine bodyPost_ret (v := .tuple #[.agg #[.bool false, .string (s.extract (0) (n)), .string (s.extract (n + 1) (n + 1 + m)), .string (⟨#[]⟩ : ByteArray), .bool true], .bool false]) (by simp [results, Tryd.results45, go_sem, q0, q1, q2, q3, q4]) rfl ?_
                      exact ⟨bw5 bw _ _ _ _ _, _, _, _, _, _, _, rfl, (fun h => by cases h), (fun _ => by exact HQ.out)⟩
                    · have kB : ((k : Int) == 0) = false := by simp <;> omega
                      have hsl := slice_at (P := Tryd.prog) 9 Tryd.underlying9 (s := s) (A := (n : Int) + 1 + (m : Int) + 1 + 1) (E := (n : Int) + 1 + (m : Int) + 1 + 1 + (k : Int)) (by omega) (by omega) (by omega)
                      rw [show ((n : Int) + 1 + (m : Int) + 1 + 1).toNat = n + 1 + m + 1 + 1 by omega, show ((n : Int) + 1 + (m : Int) + 1 + 1 + (k : Int)).toNat = n + 1 + m + 1 + 1 + k by omega] at hsl
                      have he := exp_yes z HC.out HG.out (by rw [Hk.out]; exact k0)
                      rw [Hk.out, ← Xk.out] at he
                      have HQ := Lib.hid (cut_some HBW.out HF.out he)
                      clear he
                      by_cases ke : n + 1 + m + 1 + 1 + k = s.size
                      · have HQ2 := Lib.hid (HQ.out.trans (if_pos ((nil_iff s (n + 1 + m + 1 + 1 + k) (by omega)).2 ke)))
                        have hfe : ((n : Int) + 1 + (m : Int) + 1 + 1 + (k : Int) == (s.size : Int)) = true := by simp <;> omega
                        clear HQ ke
                        go_wp2
                        refine bodyPost_ret (v := .tuple #[.agg #[.bool false, .string (s.extract (0) (n)), .string (s.extract (n + 1) (n + 1 + m)), .string (s.extract (n + 1 + m + 1 + 1) (n + 1 + m + 1 + 1 + k)), .bool true], .bool true]) (by simp [results, Tryd.results45, go_sem, q0, q1, q2, q3, q4]) rfl ?_
                        exact ⟨bw5 (Below.setCell bw (Nat.le_succ _) _) _ _ _ _ _, _, _, _, _, _, _, rfl, (fun _ => by rw [HQ2.out, HM.out, XN.out]), (fun h => by cases h)⟩
                      · have HQ2 := Lib.hid (HQ.out.trans (if_neg (fun h => ke ((nil_iff s (n + 1 + m + 1 + 1 + k) (by omega)).1 h))))
                        have hfe : ((n : Int) + 1 + (m : Int) + 1 + 1 + (k : Int) == (s.size : Int)) = false := by simp <;> omega
                        clear HQ ke
                        go_wp2
                        refine bodyPost_ret (v := .tuple #[.agg #[.bool false, .string (s.extract (0) (n)), .string (s.extract (n + 1) (n + 1 + m)), .string (s.extract (n + 1 + m + 1 + 1) (n + 1 + m + 1 + 1 + k)), .bool true], .bool false]) (by simp [results, Tryd.results45, go_sem, q0, q1, q2, q3, q4]) rfl ?_
                        exact ⟨bw5 (Below.setCell bw (Nat.le_succ _) _) _ _ _ _ _, _, _, _, _, _, _, rfl, (fun h => by cases h), (fun _ => by exact HQ2.out)⟩
                  · have y2I : ¬ ((s[n + 1 + m + 1]).toNat : Int) = 45 := by omega
                    have y2B : (((s[n + 1 + m + 1]).toNat : Int) == 45) = false := by simp <;> omega
                    have HG := Lib.hid (sg_no (fun (_ : n + 1 + m + 1 < s.size) => ⟨y1, y2⟩))
                    go_wp2_with fail
                    refine (HR.out (n + 1 + m + 1) _ _ (by omega) (by omega)).mono ?_
                    rintro r w10 ⟨rfl, hw12⟩
                    have ci11 : CI w w10 false (s.extract (0) (n)) (s.extract (n + 1) (n + 1 + m)) (⟨#[]⟩ : ByteArray) false := by rw [← hw12]; exact (ci2.set2 (s.extract (n + 1) (n + 1 + m)))
                    clear c0 c1 c2 c3 c4 q0 q1 q2 q3 q4 f1 f0 bw hw12
                    have lk := dgs_le s (n + 1 + m + 1) (by omega)
                    have xk := ext_dgs s (n + 1 + m + 1)
                    generalize hk : (dgs (s.data.toList.drop (n + 1 + m + 1))).length = k at *
                    have Hk := Lib.hid hk; have Xk := Lib.hid xk
                    clear hk xk
                    have cix := ci11
                    obtain ⟨c0, c1, c2, c3, c4, q0, q1, q2, q3, q4, f1, f0, bw⟩ := cix
                    by_cases k0 : k = 0
                    · have kB : ((k : Int) == 0) = true := by simp <;> omega
                      have HQ := Lib.hid (cut_en HBW.out HF.out (exp_bad z HC.out HG.out (Hk.out.trans k0)))
                      clear k0
                      go_wp2
                      refine bodyPost_ret (v := .tuple #[.agg #[.bool false, .string (s.extract (0) (n)), .string (s.extract (n + 1) (n + 1 + m)), .string (⟨#[]⟩ : ByteArray), .bool false], .bool false]) (by simp [results, Tryd.results45, go_sem, q0, q1, q2, q3, q4]) rfl ?_
                      exact ⟨bw5 bw _ _ _ _ _, _, _, _, _, _, _, rfl, (fun h => by cases h), (fun _ => by exact HQ.out)⟩
                    · have kB : ((k : Int) == 0) = false := by simp <;> omega
                      have hsl := slice_at (P := Tryd.prog) 9 Tryd.underlying9 (s := s) (A := (n : Int) + 1 + (m : Int) + 1) (E := (n : Int) + 1 + (m : Int) + 1 + (k : Int)) (by omega) (by omega) (by omega)
                      rw [show ((n : Int) + 1 + (m : Int) + 1).toNat = n + 1 + m + 1 by omega, show ((n : Int) + 1 + (m : Int) + 1 + (k : Int)).toNat = n + 1 + m + 1 + k by omega] at hsl
                      have he := exp_yes z HC.out HG.out (by rw [Hk.out]; exact k0)
                      rw [Hk.out, ← Xk.out] at he
                      have HQ := Lib.hid (cut_some HBW.out HF.out he)
                      clear he
                      by_cases ke : n + 1 + m + 1 + k = s.size
                      · have HQ2 := Lib.hid (HQ.out.trans (if_pos ((nil_iff s (n + 1 + m + 1 + k) (by omega)).2 ke)))
                        have hfe : ((n : Int) + 1 + (m : Int) + 1 + (k : Int) == (s.size : Int)) = true := by simp <;> omega
                        clear HQ ke
                        go_wp2
                        refine bodyPost_ret (v := .tuple #[.agg #[.bool false, .string (s.extract (0) (n)), .string (s.extract (n + 1) (n + 1 + m)), .string (s.extract (n + 1 + m + 1) (n + 1 + m + 1 + k)), .bool false], .bool true]) (by simp [results, Tryd.results45, go_sem, q0, q1, q2, q3, q4]) rfl ?_
                        exact ⟨bw5 (Below.setCell bw (Nat.le_succ _) _) _ _ _ _ _, _, _, _, _, _, _, rfl, (fun _ => by rw [HQ2.out, HM.out, XN.out]), (fun h => by cases h)⟩
                      · have HQ2 := Lib.hid (HQ.out.trans (if_neg (fun h => ke ((nil_iff s (n + 1 + m + 1 + k) (by omega)).1 h))))
                        have hfe : ((n : Int) + 1 + (m : Int) + 1 + (k : Int) == (s.size : Int)) = false := by simp <;> omega
                        clear HQ ke
                        go_wp2
                        refine bodyPost_ret (v := .tuple #[.agg #[.bool false, .string (s.extract (0) (n)), .string (s.extract (n + 1) (n + 1 + m)), .string (s.extract (n + 1 + m + 1) (n + 1 + m + 1 + k)), .bool false], .bool false]) (by simp [results, Tryd.results45, go_sem, q0, q1, q2, q3, q4]) rfl ?_
                        exact ⟨bw5 (Below.setCell bw (Nat.le_succ _) _) _ _ _ _ _, _, _, _, _, _, _, rfl, (fun h => by cases h), (fun _ => by exact HQ2.out)⟩
              · have yI : ¬ (n : Int) + 1 + (m : Int) + 1 < (s.size : Int) := by omega
                have HG := Lib.hid (sg_no (fun (h : n + 1 + m + 1 < s.size) => absurd h y))
                go_wp2_with fail
                refine (HR.out (n + 1 + m + 1) _ _ (by omega) (by omega)).mono ?_
                rintro r w13 ⟨rfl, hw15⟩
                have ci14 : CI w w13 false (s.extract (0) (n)) (s.extract (n + 1) (n + 1 + m)) (⟨#[]⟩ : ByteArray) false := by rw [← hw15]; exact (ci2.set2 (s.extract (n + 1) (n + 1 + m)))
                clear c0 c1 c2 c3 c4 q0 q1 q2 q3 q4 f1 f0 bw hw15
                have lk := dgs_le s (n + 1 + m + 1) (by omega)
                have xk := ext_dgs s (n + 1 + m + 1)
                generalize hk : (dgs (s.data.toList.drop (n + 1 + m + 1))).length = k at *
                have Hk := Lib.hid hk; have Xk := Lib.hid xk
                clear hk xk
                have cix := ci14
                obtain ⟨c0, c1, c2, c3, c4, q0, q1, q2, q3, q4, f1, f0, bw⟩ := cix
                by_cases k0 : k = 0
                · have kB : ((k : Int) == 0) = true := by simp <;> omega
                  have HQ := Lib.hid (cut_en HBW.out HF.out (exp_bad z HC.out HG.out (Hk.out.trans k0)))
                  clear k0
                  go_wp2
                  refine bodyPost_ret (v := .tuple #[.agg #[.bool false, .string (s.extract (0) (n)), .string (s.extract (n + 1) (n + 1 + m)), .string (⟨#[]⟩ : ByteArray), .bool false], .bool false]) (by simp [results, Tryd.results45, go_sem, q0, q1, q2, q3, q4]) rfl ?_
                  exact ⟨bw5 bw _ _ _ _ _, _, _, _, _, _, _, rfl, (fun h => by cases h), (fun _ => by exact HQ.out)⟩
                · exact absurd (show k = 0 by omega) k0
            · have x1I : ¬ ((s[n + 1 + m]).toNat : Int) = 101 := by omega
              have x1B : (((s[n + 1 + m]).toNat : Int) == 101) = false := by simp <;> omega
              by_cases x2 : (s[n + 1 + m]).toNat = 69
              · have x2I : ((s[n + 1 + m]).toNat : Int) = 69 := by omega
                have HC := Lib.hid (show (s[n + 1 + m]).toNat = 101 ∨ (s[n + 1 + m]).toNat = 69 from .inr x2)
                by_cases y : n + 1 + m + 1 < s.size
                · have yI : (n : Int) + 1 + (m : Int) + 1 < (s.size : Int) := by omega
                  by_cases y1 : (s[n + 1 + m + 1]).toNat = 43
                  · have y1I : ((s[n + 1 + m + 1]).toNat : Int) = 43 := by omega
                    have hd : (((s[n + 1 + m + 1]).toNat : Int) == 45) = false := by simp; omega
                    have HG := Lib.hid (sg_up y y1)
                    go_wp2_with fail
                    refine (HR.out (n + 1 + m + 1 + 1) _ _ (by omega) (by omega)).mono ?_
                    rintro r w16 ⟨rfl, hw18⟩
                    have ci17 : CI w w16 false (s.extract (0) (n)) (s.extract (n + 1) (n + 1 + m)) (⟨#[]⟩ : ByteArray) false := by rw [← hw18]; exact ((ci2.set2 (s.extract (n + 1) (n + 1 + m))).set4 false)
                    clear c0 c1 c2 c3 c4 q0 q1 q2 q3 q4 f1 f0 bw hw18
                    have lk := dgs_le s (n + 1 + m + 1 + 1) (by omega)
                    have xk := ext_dgs s (n + 1 + m + 1 + 1)
                    generalize hk : (dgs (s.data.toList.drop (n + 1 + m + 1 + 1))).length = k at *
                    have Hk := Lib.hid hk; have Xk := Lib.hid xk
                    clear hk xk
                    have cix := ci17
                    obtain ⟨c0, c1, c2, c3, c4, q0, q1, q2, q3, q4, f1, f0, bw⟩ := cix
                    by_cases k0 : k = 0
                    · have kB : ((k : Int) == 0) = true := by simp <;> omega
                      have HQ := Lib.hid (cut_en HBW.out HF.out (exp_bad z HC.out HG.out (Hk.out.trans k0)))
                      clear k0
                      go_wp2
                      refine bodyPost_ret (v := .tuple #[.agg #[.bool false, .string (s.extract (0) (n)), .string (s.extract (n + 1) (n + 1 + m)), .string (⟨#[]⟩ : ByteArray), .bool false], .bool false]) (by simp [results, Tryd.results45, go_sem, q0, q1, q2, q3, q4]) rfl ?_
                      exact ⟨bw5 bw _ _ _ _ _, _, _, _, _, _, _, rfl, (fun h => by cases h), (fun _ => by exact HQ.out)⟩
                    · have kB : ((k : Int) == 0) = false := by simp <;> omega
                      have hsl := slice_at (P := Tryd.prog) 9 Tryd.underlying9 (s := s) (A := (n : Int) + 1 + (m : Int) + 1 + 1) (E := (n : Int) + 1 + (m : Int) + 1 + 1 + (k : Int)) (by omega) (by omega) (by omega)
                      rw [show ((n : Int) + 1 + (m : Int) + 1 + 1).toNat = n + 1 + m + 1 + 1 by omega, show ((n : Int) + 1 + (m : Int) + 1 + 1 + (k : Int)).toNat = n + 1 + m + 1 + 1 + k by omega] at hsl
                      have he := exp_yes z HC.out HG.out (by rw [Hk.out]; exact k0)
                      rw [Hk.out, ← Xk.out] at he
                      have HQ := Lib.hid (cut_some HBW.out HF.out he)
                      clear he
                      by_cases ke : n + 1 + m + 1 + 1 + k = s.size
                      · have HQ2 := Lib.hid (HQ.out.trans (if_pos ((nil_iff s (n + 1 + m + 1 + 1 + k) (by omega)).2 ke)))
                        have hfe : ((n : Int) + 1 + (m : Int) + 1 + 1 + (k : Int) == (s.size : Int)) = true := by simp <;> omega
                        clear HQ ke
                        go_wp2
                        refine bodyPost_ret (v := .tuple #[.agg #[.bool false, .string (s.extract (0) (n)), .string (s.extract (n + 1) (n + 1 + m)), .string (s.extract (n + 1 + m + 1 + 1) (n + 1 + m + 1 + 1 + k)), .bool false], .bool true]) (by simp [results, Tryd.results45, go_sem, q0, q1, q2, q3, q4]) rfl ?_
                        exact ⟨bw5 (Below.setCell bw (Nat.le_succ _) _) _ _ _ _ _, _, _, _, _, _, _, rfl, (fun _ => by rw [HQ2.out, HM.out, XN.out]), (fun h => by cases h)⟩
                      · have HQ2 := Lib.hid (HQ.out.trans (if_neg (fun h => ke ((nil_iff s (n + 1 + m + 1 + 1 + k) (by omega)).1 h))))
                        have hfe : ((n : Int) + 1 + (m : Int) + 1 + 1 + (k : Int) == (s.size : Int)) = false := by simp <;> omega
                        clear HQ ke
                        go_wp2
                        refine bodyPost_ret (v := .tuple #[.agg #[.bool false, .string (s.extract (0) (n)), .string (s.extract (n + 1) (n + 1 + m)), .string (s.extract (n + 1 + m + 1 + 1) (n + 1 + m + 1 + 1 + k)), .bool false], .bool false]) (by simp [results, Tryd.results45, go_sem, q0, q1, q2, q3, q4]) rfl ?_
                        exact ⟨bw5 (Below.setCell bw (Nat.le_succ _) _) _ _ _ _ _, _, _, _, _, _, _, rfl, (fun h => by cases h), (fun _ => by exact HQ2.out)⟩
                  · have y1I : ¬ ((s[n + 1 + m + 1]).toNat : Int) = 43 := by omega
                    have y1B : (((s[n + 1 + m + 1]).toNat : Int) == 43) = false := by simp <;> omega
                    by_cases y2 : (s[n + 1 + m + 1]).toNat = 45
                    · have y2I : ((s[n + 1 + m + 1]).toNat : Int) = 45 := by omega
                      have hd : (((s[n + 1 + m + 1]).toNat : Int) == 45) = true := by simp; omega
                      have HG := Lib.hid (sg_down y y2)
                      go_wp2_with fail
                      refine (HR.out (n + 1 + m + 1 + 1) _ _ (by omega) (by omega)).mono ?_
                      rintro r w19 ⟨rfl, hw21⟩
                      have ci20 : CI w w19 false (s.extract (0) (n)) (s.extract (n + 1) (n + 1 + m)) (⟨#[]⟩ : ByteArray) true := by rw [← hw21]; exact ((ci2.set2 (s.extract (n + 1) (n + 1 + m))).set4 true)
                      clear c0 c1 c2 c3 c4 q0 q1 q2 q3 q4 f1 f0 bw hw21
                      have lk := dgs_le s (n + 1 + m + 1 + 1) (by omega)
                      have xk := ext_dgs s (n + 1 + m + 1 + 1)
                      generalize hk : (dgs (s.data.toList.drop (n + 1 + m + 1 + 1))).length = k at *
                      have Hk := Lib.hid hk; have Xk := Lib.hid xk
                      clear hk xk
                      have cix := ci20
                      obtain ⟨c0, c1, c2, c3, c4, q0, q1, q2, q3, q4, f1, f0, bw⟩ := cix
                      by_cases k0 : k = 0
                      · have kB : ((k : Int) == 0) = true := by simp <;> omega
                        have HQ := Lib.hid (cut_en HBW.out HF.out (exp_bad z HC.out HG.out (Hk.out.trans k0)))
                        clear k0
                        go_wp2
                        refine bodyPost_ret (v := .tuple #[.agg #[.bool false, .string (s.extract (0) (n)), .string (s.extract (n + 1) (n + 1 + m)), .string (⟨#[]⟩ : ByteArray), .bool true], .bool false]) (by simp [results, Tryd.results45, go_sem, q0, q1, q2, q3, q4]) rfl ?_
                        exact ⟨bw5 bw _ _ _ _ _, _, _, _, _, _, _, rfl, (fun h => by cases h), (fun _ => by exact HQ.out)⟩
                      · have kB : ((k : Int) == 0) = false := by simp <;> omega
                        have hsl := slice_at (P := Tryd.prog) 9 Tryd.underlying9 (s := s) (A := (n : Int) + 1 + (m : Int) + 1 + 1) (E := (n : Int) + 1 + (m : Int) + 1 + 1 + (k : Int)) (by omega) (by omega) (by omega)
                        rw [show ((n : Int) + 1 + (m : Int) + 1 + 1).toNat = n + 1 + m + 1 + 1 by omega, show ((n : Int) + 1 + (m : Int) + 1 + 1 + (k : Int)).toNat = n + 1 + m + 1 + 1 + k by omega] at hsl
                        have he := exp_yes z HC.out HG.out (by rw [Hk.out]; exact k0)
                        rw [Hk.out, ← Xk.out] at he
                        have HQ := Lib.hid (cut_some HBW.out HF.out he)
                        clear he
                        by_cases ke : n + 1 + m + 1 + 1 + k = s.size
                        · have HQ2 := Lib.hid (HQ.out.trans (if_pos ((nil_iff s (n + 1 + m + 1 + 1 + k) (by omega)).2 ke)))
                          have hfe : ((n : Int) + 1 + (m : Int) + 1 + 1 + (k : Int) == (s.size : Int)) = true := by simp <;> omega
                          clear HQ ke
                          go_wp2
                          refine bodyPost_ret (v := .tuple #[.agg #[.bool false, .string (s.extract (0) (n)), .string (s.extract (n + 1) (n + 1 + m)), .string (s.extract (n + 1 + m + 1 + 1) (n + 1 + m + 1 + 1 + k)), .bool true], .bool true]) (by simp [results, Tryd.results45, go_sem, q0, q1, q2, q3, q4]) rfl ?_
                          exact ⟨bw5 (Below.setCell bw (Nat.le_succ _) _) _ _ _ _ _, _, _, _, _, _, _, rfl, (fun _ => by rw [HQ2.out, HM.out, XN.out]), (fun h => by cases h)⟩
                        · have HQ2 := Lib.hid (HQ.out.trans (if_neg (fun h => ke ((nil_iff s (n + 1 + m + 1 + 1 + k) (by omega)).1 h))))
                          have hfe : ((n : Int) + 1 + (m : Int) + 1 + 1 + (k : Int) == (s.size : Int)) = false := by simp <;> omega
                          clear HQ ke
                          go_wp2
                          refine bodyPost_ret (v := .tuple #[.agg #[.bool false, .string (s.extract (0) (n)), .string (s.extract (n + 1) (n + 1 + m)), .string (s.extract (n + 1 + m + 1 + 1) (n + 1 + m + 1 + 1 + k)), .bool true], .bool false]) (by simp [results, Tryd.results45, go_sem, q0, q1, q2, q3, q4]) rfl ?_
                          exact ⟨bw5 (Below.setCell bw (Nat.le_succ _) _) _ _ _ _ _, _, _, _, _, _, _, rfl, (fun h => by cases h), (fun _ => by exact HQ2.out)⟩
                    · have y2I : ¬ ((s[n + 1 + m + 1]).toNat : Int) = 45 := by omega
                      have y2B : (((s[n + 1 + m + 1]).toNat : Int) == 45) = false := by simp <;> omega
                      have HG := Lib.hid (sg_no (fun (_ : n + 1 + m + 1 < s.size) => ⟨y1, y2⟩))
                      go_wp2_with fail
                      refine (HR.out (n + 1 + m + 1) _ _ (by omega) (by omega)).mono ?_
                      rintro r w22 ⟨rfl, hw24⟩
                      have ci23 : CI w w22 false (s.extract (0) (n)) (s.extract (n + 1) (n + 1 + m)) (⟨#[]⟩ : ByteArray) false := by rw [← hw24]; exact (ci2.set2 (s.extract (n + 1) (n + 1 + m)))
                      clear c0 c1 c2 c3 c4 q0 q1 q2 q3 q4 f1 f0 bw hw24
                      have lk := dgs_le s (n + 1 + m + 1) (by omega)
                      have xk := ext_dgs s (n + 1 + m + 1)
                      generalize hk : (dgs (s.data.toList.drop (n + 1 + m + 1))).length = k at *
                      have Hk := Lib.hid hk; have Xk := Lib.hid xk
                      clear hk xk
                      have cix := ci23
                      obtain ⟨c0, c1, c2, c3, c4, q0, q1, q2, q3, q4, f1, f0, bw⟩ := cix
                      by_cases k0 : k = 0
                      · have kB : ((k : Int) == 0) = true := by simp <;> omega
                        have HQ := Lib.hid (cut_en HBW.out HF.out (exp_bad z HC.out HG.out (Hk.out.trans k0)))
                        clear k0
                        go_wp2
                        refine bodyPost_ret (v := .tuple #[.agg #[.bool false, .string (s.extract (0) (n)), .string (s.extract (n + 1) (n + 1 + m)), .string (⟨#[]⟩ : ByteArray), .bool false], .bool false]) (by simp [results, Tryd.results45, go_sem, q0, q1, q2, q3, q4]) rfl ?_
                        exact ⟨bw5 bw _ _ _ _ _, _, _, _, _, _, _, rfl, (fun h => by cases h), (fun _ => by exact HQ.out)⟩
                      · have kB : ((k : Int) == 0) = false := by simp <;> omega
                        have hsl := slice_at (P := Tryd.prog) 9 Tryd.underlying9 (s := s) (A := (n : Int) + 1 + (m : Int) + 1) (E := (n : Int) + 1 + (m : Int) + 1 + (k : Int)) (by omega) (by omega) (by omega)
                        rw [show ((n : Int) + 1 + (m : Int) + 1).toNat = n + 1 + m + 1 by omega, show ((n : Int) + 1 + (m : Int) + 1 + (k : Int)).toNat = n + 1 + m + 1 + k by omega] at hsl
                        have he := exp_yes z HC.out HG.out (by rw [Hk.out]; exact k0)
                        rw [Hk.out, ← Xk.out] at he
                        have HQ := Lib.hid (cut_some HBW.out HF.out he)
                        clear he
                        by_cases ke : n + 1 + m + 1 + k = s.size
                        · have HQ2 := Lib.hid (HQ.out.trans (if_pos ((nil_iff s (n + 1 + m + 1 + k) (by omega)).2 ke)))
                          have hfe : ((n : Int) + 1 + (m : Int) + 1 + (k : Int) == (s.size : Int)) = true := by simp <;> omega
                          clear HQ ke
                          go_wp2
                          refine bodyPost_ret (v := .tuple #[.agg #[.bool false, .string (s.extract (0) (n)), .string (s.extract (n + 1) (n + 1 + m)), .string (s.extract (n + 1 + m + 1) (n + 1 + m + 1 + k)), .bool false], .bool true]) (by simp [results, Tryd.results45, go_sem, q0, q1, q2, q3, q4]) rfl ?_
                          exact ⟨bw5 (Below.setCell bw (Nat.le_succ _) _) _ _ _ _ _, _, _, _, _, _, _, rfl, (fun _ => by rw [HQ2.out, HM.out, XN.out]), (fun h => by cases h)⟩
                        · have HQ2 := Lib.hid (HQ.out.trans (if_neg (fun h => ke ((nil_iff s (n + 1 + m + 1 + k) (by omega)).1 h))))
                          have hfe : ((n : Int) + 1 + (m : Int) + 1 + (k : Int) == (s.size : Int)) = false := by simp <;> omega
                          clear HQ ke
                          go_wp2
                          refine bodyPost_ret (v := .tuple #[.agg #[.bool false, .string (s.extract (0) (n)), .string (s.extract (n + 1) (n + 1 + m)), .string (s.extract (n + 1 + m + 1) (n + 1 + m + 1 + k)), .bool false], .bool false]) (by simp [results, Tryd.results45, go_sem, q0, q1, q2, q3, q4]) rfl ?_
                          exact ⟨bw5 (Below.setCell bw (Nat.le_succ _) _) _ _ _ _ _, _, _, _, _, _, _, rfl, (fun h => by cases h), (fun _ => by exact HQ2.out)⟩
                · have yI : ¬ (n : Int) + 1 + (m : Int) + 1 < (s.size : Int) := by omega
                  have HG := Lib.hid (sg_no (fun (h : n + 1 + m + 1 < s.size) => absurd h y))
                  go_wp2_with fail
                  refine (HR.out (n + 1 + m + 1) _ _ (by omega) (by omega)).mono ?_
                  rintro r w25 ⟨rfl, hw27⟩
                  have ci26 : CI w w25 false (s.extract (0) (n)) (s.extract (n + 1) (n + 1 + m)) (⟨#[]⟩ : ByteArray) false := by rw [← hw27]; exact (ci2.set2 (s.extract (n + 1) (n + 1 + m)))
                  clear c0 c1 c2 c3 c4 q0 q1 q2 q3 q4 f1 f0 bw hw27
                  have lk := dgs_le s (n + 1 + m + 1) (by omega)
                  have xk := ext_dgs s (n + 1 + m + 1)
                  generalize hk : (dgs (s.data.toList.drop (n + 1 + m + 1))).length = k at *
                  have Hk := Lib.hid hk; have Xk := Lib.hid xk
                  clear hk xk
                  have cix := ci26
                  obtain ⟨c0, c1, c2, c3, c4, q0, q1, q2, q3, q4, f1, f0, bw⟩ := cix
                  by_cases k0 : k = 0
                  · have kB : ((k : Int) == 0) = true := by simp <;> omega
                    have HQ := Lib.hid (cut_en HBW.out HF.out (exp_bad z HC.out HG.out (Hk.out.trans k0)))
                    clear k0
                    go_wp2
                    refine bodyPost_ret (v := .tuple #[.agg #[.bool false, .string (s.extract (0) (n)), .string (s.extract (n + 1) (n + 1 + m)), .string (⟨#[]⟩ : ByteArray), .bool false], .bool false]) (by simp [results, Tryd.results45, go_sem, q0, q1, q2, q3, q4]) rfl ?_
                    exact ⟨bw5 bw _ _ _ _ _, _, _, _, _, _, _, rfl, (fun h => by cases h), (fun _ => by exact HQ.out)⟩
                  · exact absurd (show k = 0 by omega) k0
              · have x2I : ¬ ((s[n + 1 + m]).toNat : Int) = 69 := by omega
                have x2B : (((s[n + 1 + m]).toNat : Int) == 69) = false := by simp <;> omega
                have HQ := Lib.hid (cut_some HBW.out HF.out (exp_no (fun _ => ⟨x1, x2⟩)))
                have HQ2 := Lib.hid (HQ.out.trans (if_neg (fun h => by have := (nil_iff s (n + 1 + m) (by omega)).1 h; omega)))
                have hfe : ((n : Int) + 1 + (m : Int) == (s.size : Int)) = false := by simp <;> omega
                clear x1 x2 HQ
                go_wp2
                refine bodyPost_ret (v := .tuple #[.agg #[.bool false, .string (s.extract (0) (n)), .string (s.extract (n + 1) (n + 1 + m)), .string (⟨#[]⟩ : ByteArray), .bool false], .bool false]) (by simp [results, Tryd.results45, go_sem, q0, q1, q2, q3, q4]) rfl ?_
                exact ⟨bw5 (Below.setCell bw (Nat.le_succ _) _) _ _ _ _ _, _, _, _, _, _, _, rfl, (fun h => by cases h), (fun _ => by exact HQ2.out)⟩
          · have zI : ¬ (n : Int) + 1 + (m : Int) < (s.size : Int) := by omega
            have HQ := Lib.hid (cut_some HBW.out HF.out (exp_no (fun h => absurd h z)))
            have HQ2 := Lib.hid (HQ.out.trans (if_pos ((nil_iff s (n + 1 + m) (by omega)).2 (by omega))))
            have hfe : ((n : Int) + 1 + (m : Int) == (s.size : Int)) = true := by simp <;> omega
            clear HQ
            go_wp2
            refine bodyPost_ret (v := .tuple #[.agg #[.bool false, .string (s.extract (0) (n)), .string (s.extract (n + 1) (n + 1 + m)), .string (⟨#[]⟩ : ByteArray), .bool false], .bool true]) (by simp [results, Tryd.results45, go_sem, q0, q1, q2, q3, q4]) rfl ?_
            exact ⟨bw5 (Below.setCell bw (Nat.le_succ _) _) _ _ _ _ _, _, _, _, _, _, _, rfl, (fun _ => by rw [HQ2.out, HM.out, XN.out]), (fun h => by cases h)⟩
      · have p1I : ¬ ((s[n]).toNat : Int) = 46 := by omega
        have HF := Lib.hid (show frac (aft (unsig s.data.toList)) = some ((⟨#[]⟩ : ByteArray).data.toList, s.data.toList.drop (n)) by rw [HA.out]; exact frac_no (fun _ => p1))
        by_cases z : n < s.size
        · have zI : (n : Int) < (s.size : Int) := by omega
          by_cases x1 : (s[n]).toNat = 101
          · have x1I : ((s[n]).toNat : Int) = 101 := by omega
            have HC := Lib.hid (show (s[n]).toNat = 101 ∨ (s[n]).toNat = 69 from .inl x1)
            by_cases y : n + 1 < s.size
            · have yI : (n : Int) + 1 < (s.size : Int) := by omega
              by_cases y1 : (s[n + 1]).toNat = 43
              · have y1I : ((s[n + 1]).toNat : Int) = 43 := by omega
                have hd : (((s[n + 1]).toNat : Int) == 45) = false := by simp; omega
                have HG := Lib.hid (sg_up y y1)
                go_wp2_with fail
                refine (HR.out (n + 1 + 1) _ _ (by omega) (by omega)).mono ?_
                rintro r w28 ⟨rfl, hw30⟩
                have ci29 : CI w w28 false (s.extract (0) (n)) (⟨#[]⟩ : ByteArray) (⟨#[]⟩ : ByteArray) false := by rw [← hw30]; exact ((ci1.set1 (s.extract (0) (n))).set4 false)
                clear c0 c1 c2 c3 c4 q0 q1 q2 q3 q4 f1 f0 bw hw30
                have lk := dgs_le s (n + 1 + 1) (by omega)
                have xk := ext_dgs s (n + 1 + 1)
                generalize hk : (dgs (s.data.toList.drop (n + 1 + 1))).length = k at *
                have Hk := Lib.hid hk; have Xk := Lib.hid xk
                clear hk xk
                have cix := ci29
                obtain ⟨c0, c1, c2, c3, c4, q0, q1, q2, q3, q4, f1, f0, bw⟩ := cix
                by_cases k0 : k = 0
                · have kB : ((k : Int) == 0) = true := by simp <;> omega
                  have HQ := Lib.hid (cut_en HBW.out HF.out (exp_bad z HC.out HG.out (Hk.out.trans k0)))
                  clear k0
                  go_wp2
                  refine bodyPost_ret (v := .tuple #[.agg #[.bool false, .string (s.extract (0) (n)), .string (⟨#[]⟩ : ByteArray), .string (⟨#[]⟩ : ByteArray), .bool false], .bool false]) (by simp [results, Tryd.results45, go_sem, q0, q1, q2, q3, q4]) rfl ?_
                  exact ⟨bw5 bw _ _ _ _ _, _, _, _, _, _, _, rfl, (fun h => by cases h), (fun _ => by exact HQ.out)⟩
                · have kB : ((k : Int) == 0) = false := by simp <;> omega
                  have hsl := slice_at (P := Tryd.prog) 9 Tryd.underlying9 (s := s) (A := (n : Int) + 1 + 1) (E := (n : Int) + 1 + 1 + (k : Int)) (by omega) (by omega) (by omega)
                  rw [show ((n : Int) + 1 + 1).toNat = n + 1 + 1 by omega, show ((n : Int) + 1 + 1 + (k : Int)).toNat = n + 1 + 1 + k by omega] at hsl
                  have he := exp_yes z HC.out HG.out (by rw [Hk.out]; exact k0)
                  rw [Hk.out, ← Xk.out] at he
                  have HQ := Lib.hid (cut_some HBW.out HF.out he)
                  clear he
                  by_cases ke : n + 1 + 1 + k = s.size
                  · have HQ2 := Lib.hid (HQ.out.trans (if_pos ((nil_iff s (n + 1 + 1 + k) (by omega)).2 ke)))
                    have hfe : ((n : Int) + 1 + 1 + (k : Int) == (s.size : Int)) = true := by simp <;> omega
                    clear HQ ke
                    go_wp2
                    refine bodyPost_ret (v := .tuple #[.agg #[.bool false, .string (s.extract (0) (n)), .string (⟨#[]⟩ : ByteArray), .string (s.extract (n + 1 + 1) (n + 1 + 1 + k)), .bool false], .bool true]) (by simp [results, Tryd.results45, go_sem, q0, q1, q2, q3, q4]) rfl ?_
                    exact ⟨bw5 (Below.setCell bw (Nat.le_succ _) _) _ _ _ _ _, _, _, _, _, _, _, rfl, (fun _ => by rw [HQ2.out, HM.out, XN.out]), (fun h => by cases h)⟩
                  · have HQ2 := Lib.hid (HQ.out.trans (if_neg (fun h => ke ((nil_iff s (n + 1 + 1 + k) (by omega)).1 h))))
                    have hfe : ((n : Int) + 1 + 1 + (k : Int) == (s.size : Int)) = false := by simp <;> omega
                    clear HQ ke
                    go_wp2
                    refine bodyPost_ret (v := .tuple #[.agg #[.bool false, .string (s.extract (0) (n)), .string (⟨#[]⟩ : ByteArray), .string (s.extract (n + 1 + 1) (n + 1 + 1 + k)), .bool false], .bool false]) (by simp [results, Tryd.results45, go_sem, q0, q1, q2, q3, q4]) rfl ?_
                    exact ⟨bw5 (Below.setCell bw (Nat.le_succ _) _) _ _ _ _ _, _, _, _, _, _, _, rfl, (fun h => by cases h), (fun _ => by exact HQ2.out)⟩
              · have y1I : ¬ ((s[n + 1]).toNat : Int) = 43 := by omega
                have y1B : (((s[n + 1]).toNat : Int) == 43) = false := by simp <;> omega
                by_cases y2 : (s[n + 1]).toNat = 45
                · have y2I : ((s[n + 1]).toNat : Int) = 45 := by omega
                  have hd : (((s[n + 1]).toNat : Int) == 45) = true := by simp; omega
                  have HG := Lib.hid (sg_down y y2)
                  go_wp2_with fail
                  refine (HR.out (n + 1 + 1) _ _ (by omega) (by omega)).mono ?_
                  rintro r w31 ⟨rfl, hw33⟩
                  have ci32 : CI w w31 false (s.extract (0) (n)) (⟨#[]⟩ : ByteArray) (⟨#[]⟩ : ByteArray) true := by rw [← hw33]; exact ((ci1.set1 (s.extract (0) (n))).set4 true)
                  clear c0 c1 c2 c3 c4 q0 q1 q2 q3 q4 f1 f0 bw hw33
                  have lk := dgs_le s (n + 1 + 1) (by omega)
                  have xk := ext_dgs s (n + 1 + 1)
                  generalize hk : (dgs (s.data.toList.drop (n + 1 + 1))).length = k at *
                  have Hk := Lib.hid hk; have Xk := Lib.hid xk
                  clear hk xk
                  have cix := ci32
                  obtain ⟨c0, c1, c2, c3, c4, q0, q1, q2, q3, q4, f1, f0, bw⟩ := cix
                  by_cases k0 : k = 0
                  · have kB : ((k : Int) == 0) = true := by simp <;> omega
                    have HQ := Lib.hid (cut_en HBW.out HF.out (exp_bad z HC.out HG.out (Hk.out.trans k0)))
                    clear k0
                    go_wp2
                    refine bodyPost_ret (v := .tuple #[.agg #[.bool false, .string (s.extract (0) (n)), .string (⟨#[]⟩ : ByteArray), .string (⟨#[]⟩ : ByteArray), .bool true], .bool false]) (by simp [results, Tryd.results45, go_sem, q0, q1, q2, q3, q4]) rfl ?_
                    exact ⟨bw5 bw _ _ _ _ _, _, _, _, _, _, _, rfl, (fun h => by cases h), (fun _ => by exact HQ.out)⟩
                  · have kB : ((k : Int) == 0) = false := by simp <;> omega
                    have hsl := slice_at (P := Tryd.prog) 9 Tryd.underlying9 (s := s) (A := (n : Int) + 1 + 1) (E := (n : Int) + 1 + 1 + (k : Int)) (by omega) (by omega) (by omega)
                    rw [show ((n : Int) + 1 + 1).toNat = n + 1 + 1 by omega, show ((n : Int) + 1 + 1 + (k : Int)).toNat = n + 1 + 1 + k by omega] at hsl
                    have he := exp_yes z HC.out HG.out (by rw [Hk.out]; exact k0)
                    rw [Hk.out, ← Xk.out] at he
                    have HQ := Lib.hid (cut_some HBW.out HF.out he)
                    clear he
                    by_cases ke : n + 1 + 1 + k = s.size
                    · have HQ2 := Lib.hid (HQ.out.trans (if_pos ((nil_iff s (n + 1 + 1 + k) (by omega)).2 ke)))
                      have hfe : ((n : Int) + 1 + 1 + (k : Int) == (s.size : Int)) = true := by simp <;> omega
                      clear HQ ke
                      go_wp2
                      refine bodyPost_ret (v := .tuple #[.agg #[.bool false, .string (s.extract (0) (n)), .string (⟨#[]⟩ : ByteArray), .string (s.extract (n + 1 + 1) (n + 1 + 1 + k)), .bool true], .bool true]) (by simp [results, Tryd.results45, go_sem, q0, q1, q2, q3, q4]) rfl ?_
                      exact ⟨bw5 (Below.setCell bw (Nat.le_succ _) _) _ _ _ _ _, _, _, _, _, _, _, rfl, (fun _ => by rw [HQ2.out, HM.out, XN.out]), (fun h => by cases h)⟩
                    · have HQ2 := Lib.hid (HQ.out.trans (if_neg (fun h => ke ((nil_iff s (n + 1 + 1 + k) (by omega)).1 h))))
                      have hfe : ((n : Int) + 1 + 1 + (k : Int) == (s.size : Int)) = false := by simp <;> omega
                      clear HQ ke
                      go_wp2
                      refine bodyPost_ret (v := .tuple #[.agg #[.bool false, .string (s.extract (0) (n)), .string (⟨#[]⟩ : ByteArray), .string (s.extract (n + 1 + 1) (n + 1 + 1 + k)), .bool true], .bool false]) (by simp [results, Tryd.results45, go_sem, q0, q1, q2, q3, q4]) rfl ?_
                      exact ⟨bw5 (Below.setCell bw (Nat.le_succ _) _) _ _ _ _ _, _, _, _, _, _, _, rfl, (fun h => by cases h), (fun _ => by exact HQ2.out)⟩
                · have y2I : ¬ ((s[n + 1]).toNat : Int) = 45 := by omega
                  have y2B : (((s[n + 1]).toNat : Int) == 45) = false := by simp <;> omega
                  have HG := Lib.hid (sg_no (fun (_ : n + 1 < s.size) => ⟨y1, y2⟩))
                  go_wp2_with fail
                  refine (HR.out (n + 1) _ _ (by omega) (by omega)).mono ?_
                  rintro r w34 ⟨rfl, hw36⟩
                  have ci35 : CI w w34 false (s.extract (0) (n)) (⟨#[]⟩ : ByteArray) (⟨#[]⟩ : ByteArray) false := by rw [← hw36]; exact (ci1.set1 (s.extract (0) (n)))
                  clear c0 c1 c2 c3 c4 q0 q1 q2 q3 q4 f1 f0 bw hw36
                  have lk := dgs_le s (n + 1) (by omega)
                  have xk := ext_dgs s (n + 1)
                  generalize hk : (dgs (s.data.toList.drop (n + 1))).length = k at *
                  have Hk := Lib.hid hk; have Xk := Lib.hid xk
                  clear hk xk
                  have cix := ci35
                  obtain ⟨c0, c1, c2, c3, c4, q0, q1, q2, q3, q4, f1, f0, bw⟩ := cix
                  by_cases k0 : k = 0
                  · have kB : ((k : Int) == 0) = true := by simp <;> omega
                    have HQ := Lib.hid (cut_en HBW.out HF.out (exp_bad z HC.out HG.out (Hk.out.trans k0)))
                    clear k0
                    go_wp2
                    refine bodyPost_ret (v := .tuple #[.agg #[.bool false, .string (s.extract (0) (n)), .string (⟨#[]⟩ : ByteArray), .string (⟨#[]⟩ : ByteArray), .bool false], .bool false]) (by simp [results, Tryd.results45, go_sem, q0, q1, q2, q3, q4]) rfl ?_
                    exact ⟨bw5 bw _ _ _ _ _, _, _, _, _, _, _, rfl, (fun h => by cases h), (fun _ => by exact HQ.out)⟩
                  · have kB : ((k : Int) == 0) = false := by simp <;> omega
                    have hsl := slice_at (P := Tryd.prog) 9 Tryd.underlying9 (s := s) (A := (n : Int) + 1) (E := (n : Int) + 1 + (k : Int)) (by omega) (by omega) (by omega)
                    rw [show ((n : Int) + 1).toNat = n + 1 by omega, show ((n : Int) + 1 + (k : Int)).toNat = n + 1 + k by omega] at hsl
                    have he := exp_yes z HC.out HG.out (by rw [Hk.out]; exact k0)
                    rw [Hk.out, ← Xk.out] at he
                    have HQ := Lib.hid (cut_some HBW.out HF.out he)
                    clear he
                    by_cases ke : n + 1 + k = s.size
                    · have HQ2 := Lib.hid (HQ.out.trans (if_pos ((nil_iff s (n + 1 + k) (by omega)).2 ke)))
                      have hfe : ((n : Int) + 1 + (k : Int) == (s.size : Int)) = true := by simp <;> omega
                      clear HQ ke
                      go_wp2
                      refine bodyPost_ret (v := .tuple #[.agg #[.bool false, .string (s.extract (0) (n)), .string (⟨#[]⟩ : ByteArray), .string (s.extract (n + 1) (n + 1 + k)), .bool false], .bool true]) (by simp [results, Tryd.results45, go_sem, q0, q1, q2, q3, q4]) rfl ?_
                      exact ⟨bw5 (Below.setCell bw (Nat.le_succ _) _) _ _ _ _ _, _, _, _, _, _, _, rfl, (fun _ => by rw [HQ2.out, HM.out, XN.out]), (fun h => by cases h)⟩
                    · have HQ2 := Lib.hid (HQ.out.trans (if_neg (fun h => ke ((nil_iff s (n + 1 + k) (by omega)).1 h))))
                      have hfe : ((n : Int) + 1 + (k : Int) == (s.size : Int)) = false := by simp <;> omega
                      clear HQ ke
                      go_wp2
                      refine bodyPost_ret (v := .tuple #[.agg #[.bool false, .string (s.extract (0) (n)), .string (⟨#[]⟩ : ByteArray), .string (s.extract (n + 1) (n + 1 + k)), .bool false], .bool false]) (by simp [results, Tryd.results45, go_sem, q0, q1, q2, q3, q4]) rfl ?_
                      exact ⟨bw5 (Below.setCell bw (Nat.le_succ _) _) _ _ _ _ _, _, _, _, _, _, _, rfl, (fun h => by cases h), (fun _ => by exact HQ2.out)⟩
            · have yI : ¬ (n : Int) + 1 < (s.size : Int) := by omega
              have HG := Lib.hid (sg_no (fun (h : n + 1 < s.size) => absurd h y))
              go_wp2_with fail
              refine (HR.out (n + 1) _ _ (by omega) (by omega)).mono ?_
              rintro r w37 ⟨rfl, hw39⟩
              have ci38 : CI w w37 false (s.extract (0) (n)) (⟨#[]⟩ : ByteArray) (⟨#[]⟩ : ByteArray) false := by rw [← hw39]; exact (ci1.set1 (s.extract (0) (n)))
              clear c0 c1 c2 c3 c4 q0 q1 q2 q3 q4 f1 f0 bw hw39
              have lk := dgs_le s (n + 1) (by omega)
              have xk := ext_dgs s (n + 1)
              generalize hk : (dgs (s.data.toList.drop (n + 1))).length = k at *
              have Hk := Lib.hid hk; have Xk := Lib.hid xk
              clear hk xk
              have cix := ci38
              obtain ⟨c0, c1, c2, c3, c4, q0, q1, q2, q3, q4, f1, f0, bw⟩ := cix
              by_cases k0 : k = 0
              · have kB : ((k : Int) == 0) = true := by simp <;> omega
                have HQ := Lib.hid (cut_en HBW.out HF.out (exp_bad z HC.out HG.out (Hk.out.trans k0)))
                clear k0
                go_wp2
                refine bodyPost_ret (v := .tuple #[.agg #[.bool false, .string (s.extract (0) (n)), .string (⟨#[]⟩ : ByteArray), .string (⟨#[]⟩ : ByteArray), .bool false], .bool false]) (by simp [results, Tryd.results45, go_sem, q0, q1, q2, q3, q4]) rfl ?_
                exact ⟨bw5 bw _ _ _ _ _, _, _, _, _, _, _, rfl, (fun h => by cases h), (fun _ => by exact HQ.out)⟩
              · exact absurd (show k = 0 by omega) k0
          · have x1I : ¬ ((s[n]).toNat : Int) = 101 := by omega
            have x1B : (((s[n]).toNat : Int) == 101) = false := by simp <;> omega
            by_cases x2 : (s[n]).toNat = 69
            · have x2I : ((s[n]).toNat : Int) = 69 := by omega
              have HC := Lib.hid (show (s[n]).toNat = 101 ∨ (s[n]).toNat = 69 from .inr x2)
              by_cases y : n + 1 < s.size
              · have yI : (n : Int) + 1 < (s.size : Int) := by omega
                by_cases y1 : (s[n + 1]).toNat = 43
                · have y1I : ((s[n + 1]).toNat : Int) = 43 := by omega
                  have hd : (((s[n + 1]).toNat : Int) == 45) = false := by simp; omega
                  have HG := Lib.hid (sg_up y y1)
                  go_wp2_with fail
                  refine (HR.out (n + 1 + 1) _ _ (by omega) (by omega)).mono ?_
                  rintro r w40 ⟨rfl, hw42⟩
                  have ci41 : CI w w40 false (s.extract (0) (n)) (⟨#[]⟩ : ByteArray) (⟨#[]⟩ : ByteArray) false := by rw [← hw42]; exact ((ci1.set1 (s.extract (0) (n))).set4 false)
                  clear c0 c1 c2 c3 c4 q0 q1 q2 q3 q4 f1 f0 bw hw42
                  have lk := dgs_le s (n + 1 + 1) (by omega)
                  have xk := ext_dgs s (n + 1 + 1)
                  generalize hk : (dgs (s.data.toList.drop (n + 1 + 1))).length = k at *
                  have Hk := Lib.hid hk; have Xk := Lib.hid xk
                  clear hk xk
                  have cix := ci41
                  obtain ⟨c0, c1, c2, c3, c4, q0, q1, q2, q3, q4, f1, f0, bw⟩ := cix
                  by_cases k0 : k = 0
                  · have kB : ((k : Int) == 0) = true := by simp <;> omega
                    have HQ := Lib.hid (cut_en HBW.out HF.out (exp_bad z HC.out HG.out (Hk.out.trans k0)))
                    clear k0
                    go_wp2
                    refine bodyPost_ret (v := .tuple #[.agg #[.bool false, .string (s.extract (0) (n)), .string (⟨#[]⟩ : ByteArray), .string (⟨#[]⟩ : ByteArray), .bool false], .bool false]) (by simp [results, Tryd.results45, go_sem, q0, q1, q2, q3, q4]) rfl ?_
                    exact ⟨bw5 bw _ _ _ _ _, _, _, _, _, _, _, rfl, (fun h => by cases h), (fun _ => by exact HQ.out)⟩
                  · have kB : ((k : Int) == 0) = false := by simp <;> omega
                    have hsl := slice_at (P := Tryd.prog) 9 Tryd.underlying9 (s := s) (A := (n : Int) + 1 + 1) (E := (n : Int) + 1 + 1 + (k : Int)) (by omega) (by omega) (by omega)
                    rw [show ((n : Int) + 1 + 1).toNat = n + 1 + 1 by omega, show ((n : Int) + 1 + 1 + (k : Int)).toNat = n + 1 + 1 + k by omega] at hsl
                    have he := exp_yes z HC.out HG.out (by rw [Hk.out]; exact k0)
                    rw [Hk.out, ← Xk.out] at he
                    have HQ := Lib.hid (cut_some HBW.out HF.out he)
                    clear he
                    by_cases ke : n + 1 + 1 + k = s.size
                    · have HQ2 := Lib.hid (HQ.out.trans (if_pos ((nil_iff s (n + 1 + 1 + k) (by omega)).2 ke)))
                      have hfe : ((n : Int) + 1 + 1 + (k : Int) == (s.size : Int)) = true := by simp <;> omega
                      clear HQ ke
                      go_wp2
                      refine bodyPost_ret (v := .tuple #[.agg #[.bool false, .string (s.extract (0) (n)), .string (⟨#[]⟩ : ByteArray), .string (s.extract (n + 1 + 1) (n + 1 + 1 + k)), .bool false], .bool true]) (by simp [results, Tryd.results45, go_sem, q0, q1, q2, q3, q4]) rfl ?_
                      exact ⟨bw5 (Below.setCell bw (Nat.le_succ _) _) _ _ _ _ _, _, _, _, _, _, _, rfl, (fun _ => by rw [HQ2.out, HM.out, XN.out]), (fun h => by cases h)⟩
                    · have HQ2 := Lib.hid (HQ.out.trans (if_neg (fun h => ke ((nil_iff s (n + 1 + 1 + k) (by omega)).1 h))))
                      have hfe : ((n : Int) + 1 + 1 + (k : Int) == (s.size : Int)) = false := by simp <;> omega
                      clear HQ ke
                      go_wp2
                      refine bodyPost_ret (v := .tuple #[.agg #[.bool false, .string (s.extract (0) (n)), .string (⟨#[]⟩ : ByteArray), .string (s.extract (n + 1 + 1) (n + 1 + 1 + k)), .bool false], .bool false]) (by simp [results, Tryd.results45, go_sem, q0, q1, q2, q3, q4]) rfl ?_
                      exact ⟨bw5 (Below.setCell bw (Nat.le_succ _) _) _ _ _ _ _, _, _, _, _, _, _, rfl, (fun h => by cases h), (fun _ => by exact HQ2.out)⟩
                · have y1I : ¬ ((s[n + 1]).toNat : Int) = 43 := by omega
                  have y1B : (((s[n + 1]).toNat : Int) == 43) = false := by simp <;> omega
                  by_cases y2 : (s[n + 1]).toNat = 45
                  · have y2I : ((s[n + 1]).toNat : Int) = 45 := by omega
                    have hd : (((s[n + 1]).toNat : Int) == 45) = true := by simp; omega
                    have HG := Lib.hid (sg_down y y2)
                    go_wp2_with fail
                    refine (HR.out (n + 1 + 1) _ _ (by omega) (by omega)).mono ?_
                    rintro r w43 ⟨rfl, hw45⟩
                    have ci44 : CI w w43 false (s.extract (0) (n)) (⟨#[]⟩ : ByteArray) (⟨#[]⟩ : ByteArray) true := by rw [← hw45]; exact ((ci1.set1 (s.extract (0) (n))).set4 true)
                    clear c0 c1 c2 c3 c4 q0 q1 q2 q3 q4 f1 f0 bw hw45
                    have lk := dgs_le s (n + 1 + 1) (by omega)
                    have xk := ext_dgs s (n + 1 + 1)
                    generalize hk : (dgs (s.data.toList.drop (n + 1 + 1))).length = k at *
                    have Hk := Lib.hid hk; have Xk := Lib.hid xk
                    clear hk xk
                    have cix := ci44
                    obtain ⟨c0, c1, c2, c3, c4, q0, q1, q2, q3, q4, f1, f0, bw⟩ := cix
                    by_cases k0 : k = 0
                    · have kB : ((k : Int) == 0) = true := by simp <;> omega
                      have HQ := Lib.hid (cut_en HBW.out HF.out (exp_bad z HC.out HG.out (Hk.out.trans k0)))
                      clear k0
                      go_wp2
                      refine bodyPost_ret (v := .tuple #[.agg #[.bool false, .string (s.extract (0) (n)), .string (⟨#[]⟩ : ByteArray), .string (⟨#[]⟩ : ByteArray), .bool true], .bool false]) (by simp [results, Tryd.results45, go_sem, q0, q1, q2, q3, q4]) rfl ?_
                      exact ⟨bw5 bw _ _ _ _ _, _, _, _, _, _, _, rfl, (fun h => by cases h), (fun _ => by exact HQ.out)⟩
                    · have kB : ((k : Int) == 0) = false := by simp <;> omega
                      have hsl := slice_at (P := Tryd.prog) 9 Tryd.underlying9 (s := s) (A := (n : Int) + 1 + 1) (E := (n : Int) + 1 + 1 + (k : Int)) (by omega) (by omega) (by omega)
                      rw [show ((n : Int) + 1 + 1).toNat = n + 1 + 1 by omega, show ((n : Int) + 1 + 1 + (k : Int)).toNat = n + 1 + 1 + k by omega] at hsl
                      have he := exp_yes z HC.out HG.out (by rw [Hk.out]; exact k0)
                      rw [Hk.out, ← Xk.out] at he
                      have HQ := Lib.hid (cut_some HBW.out HF.out he)
                      clear he
                      by_cases ke : n + 1 + 1 + k = s.size
                      · have HQ2 := Lib.hid (HQ.out.trans (if_pos ((nil_iff s (n + 1 + 1 + k) (by omega)).2 ke)))
                        have hfe : ((n : Int) + 1 + 1 + (k : Int) == (s.size : Int)) = true := by simp <;> omega
                        clear HQ ke
                        go_wp2
                        refine bodyPost_ret (v := .tuple #[.agg #[.bool false, .string (s.extract (0) (n)), .string (⟨#[]⟩ : ByteArray), .string (s.extract (n + 1 + 1) (n + 1 + 1 + k)), .bool true], .bool true]) (by simp [results, Tryd.results45, go_sem, q0, q1, q2, q3, q4]) rfl ?_
                        exact ⟨bw5 (Below.setCell bw (Nat.le_succ _) _) _ _ _ _ _, _, _, _, _, _, _, rfl, (fun _ => by rw [HQ2.out, HM.out, XN.out]), (fun h => by cases h)⟩
                      · have HQ2 := Lib.hid (HQ.out.trans (if_neg (fun h => ke ((nil_iff s (n + 1 + 1 + k) (by omega)).1 h))))
                        have hfe : ((n : Int) + 1 + 1 + (k : Int) == (s.size : Int)) = false := by simp <;> omega
                        clear HQ ke
                        go_wp2
                        refine bodyPost_ret (v := .tuple #[.agg #[.bool false, .string (s.extract (0) (n)), .string (⟨#[]⟩ : ByteArray), .string (s.extract (n + 1 + 1) (n + 1 + 1 + k)), .bool true], .bool false]) (by simp [results, Tryd.results45, go_sem, q0, q1, q2, q3, q4]) rfl ?_
                        exact ⟨bw5 (Below.setCell bw (Nat.le_succ _) _) _ _ _ _ _, _, _, _, _, _, _, rfl, (fun h => by cases h), (fun _ => by exact HQ2.out)⟩
                  · have y2I : ¬ ((s[n + 1]).toNat : Int) = 45 := by omega
                    have y2B : (((s[n + 1]).toNat : Int) == 45) = false := by simp <;> omega
                    have HG := Lib.hid (sg_no (fun (_ : n + 1 < s.size) => ⟨y1, y2⟩))
                    go_wp2_with fail
                    refine (HR.out (n + 1) _ _ (by omega) (by omega)).mono ?_
                    rintro r w46 ⟨rfl, hw48⟩
                    have ci47 : CI w w46 false (s.extract (0) (n)) (⟨#[]⟩ : ByteArray) (⟨#[]⟩ : ByteArray) false := by rw [← hw48]; exact (ci1.set1 (s.extract (0) (n)))
                    clear c0 c1 c2 c3 c4 q0 q1 q2 q3 q4 f1 f0 bw hw48
                    have lk := dgs_le s (n + 1) (by omega)
                    have xk := ext_dgs s (n + 1)
                    generalize hk : (dgs (s.data.toList.drop (n + 1))).length = k at *
                    have Hk := Lib.hid hk; have Xk := Lib.hid xk
                    clear hk xk
                    have cix := ci47
                    obtain ⟨c0, c1, c2, c3, c4, q0, q1, q2, q3, q4, f1, f0, bw⟩ := cix
                    by_cases k0 : k = 0
                    · have kB : ((k : Int) == 0) = true := by simp <;> omega
                      have HQ := Lib.hid (cut_en HBW.out HF.out (exp_bad z HC.out HG.out (Hk.out.trans k0)))
                      clear k0
                      go_wp2
                      refine bodyPost_ret (v := .tuple #[.agg #[.bool false, .string (s.extract (0) (n)), .string (⟨#[]⟩ : ByteArray), .string (⟨#[]⟩ : ByteArray), .bool false], .bool false]) (by simp [results, Tryd.results45, go_sem, q0, q1, q2, q3, q4]) rfl ?_
                      exact ⟨bw5 bw _ _ _ _ _, _, _, _, _, _, _, rfl, (fun h => by cases h), (fun _ => by exact HQ.out)⟩
                    · have kB : ((k : Int) == 0) = false := by simp <;> omega
                      have hsl := slice_at (P := Tryd.prog) 9 Tryd.underlying9 (s := s) (A := (n : Int) + 1) (E := (n : Int) + 1 + (k : Int)) (by omega) (by omega) (by omega)
                      rw [show ((n : Int) + 1).toNat = n + 1 by omega, show ((n : Int) + 1 + (k : Int)).toNat = n + 1 + k by omega] at hsl
                      have he := exp_yes z HC.out HG.out (by rw [Hk.out]; exact k0)
                      rw [Hk.out, ← Xk.out] at he
                      have HQ := Lib.hid (cut_some HBW.out HF.out he)
                      clear he
                      by_cases ke : n + 1 + k = s.size
                      · have HQ2 := Lib.hid (HQ.out.trans (if_pos ((nil_iff s (n + 1 + k) (by omega)).2 ke)))
                        have hfe : ((n : Int) + 1 + (k : Int) == (s.size : Int)) = true := by simp <;> omega
                        clear HQ ke
                        go_wp2
                        refine bodyPost_ret (v := .tuple #[.agg #[.bool false, .string (s.extract (0) (n)), .string (⟨#[]⟩ : ByteArray), .string (s.extract (n + 1) (n + 1 + k)), .bool false], .bool true]) (by simp [results, Tryd.results45, go_sem, q0, q1, q2, q3, q4]) rfl ?_
                        exact ⟨bw5 (Below.setCell bw (Nat.le_succ _) _) _ _ _ _ _, _, _, _, _, _, _, rfl, (fun _ => by rw [HQ2.out, HM.out, XN.out]), (fun h => by cases h)⟩
                      · have HQ2 := Lib.hid (HQ.out.trans (if_neg (fun h => ke ((nil_iff s (n + 1 + k) (by omega)).1 h))))
                        have hfe : ((n : Int) + 1 + (k : Int) == (s.size : Int)) = false := by simp <;> omega
                        clear HQ ke
                        go_wp2
                        refine bodyPost_ret (v := .tuple #[.agg #[.bool false, .string (s.extract (0) (n)), .string (⟨#[]⟩ : ByteArray), .string (s.extract (n + 1) (n + 1 + k)), .bool false], .bool false]) (by simp [results, Tryd.results45, go_sem, q0, q1, q2, q3, q4]) rfl ?_
                        exact ⟨bw5 (Below.setCell bw (Nat.le_succ _) _) _ _ _ _ _, _, _, _, _, _, _, rfl, (fun h => by cases h), (fun _ => by exact HQ2.out)⟩
              · have yI : ¬ (n : Int) + 1 < (s.size : Int) := by omega
                have HG := Lib.hid (sg_no (fun (h : n + 1 < s.size) => absurd h y))
                go_wp2_with fail
                refine (HR.out (n + 1) _ _ (by omega) (by omega)).mono ?_
                rintro r w49 ⟨rfl, hw51⟩
                have ci50 : CI w w49 false (s.extract (0) (n)) (⟨#[]⟩ : ByteArray) (⟨#[]⟩ : ByteArray) false := by rw [← hw51]; exact (ci1.set1 (s.extract (0) (n)))
                clear c0 c1 c2 c3 c4 q0 q1 q2 q3 q4 f1 f0 bw hw51
                have lk := dgs_le s (n + 1) (by omega)
                have xk := ext_dgs s (n + 1)
                generalize hk : (dgs (s.data.toList.drop (n + 1))).length = k at *
                have Hk := Lib.hid hk; have Xk := Lib.hid xk
                clear hk xk
                have cix := ci50
                obtain ⟨c0, c1, c2, c3, c4, q0, q1, q2, q3, q4, f1, f0, bw⟩ := cix
                by_cases k0 : k = 0
                · have kB : ((k : Int) == 0) = true := by simp <;> omega
                  have HQ := Lib.hid (cut_en HBW.out HF.out (exp_bad z HC.out HG.out (Hk.out.trans k0)))
                  clear k0
                  go_wp2
                  refine bodyPost_ret (v := .tuple #[.agg #[.bool false, .string (s.extract (0) (n)), .string (⟨#[]⟩ : ByteArray), .string (⟨#[]⟩ : ByteArray), .bool false], .bool false]) (by simp [results, Tryd.results45, go_sem, q0, q1, q2, q3, q4]) rfl ?_
                  exact ⟨bw5 bw _ _ _ _ _, _, _, _, _, _, _, rfl, (fun h => by cases h), (fun _ => by exact HQ.out)⟩
                · exact absurd (show k = 0 by omega) k0
            · have x2I : ¬ ((s[n]).toNat : Int) = 69 := by omega
              have x2B : (((s[n]).toNat : Int) == 69) = false := by simp <;> omega
              have HQ := Lib.hid (cut_some HBW.out HF.out (exp_no (fun _ => ⟨x1, x2⟩)))
              have HQ2 := Lib.hid (HQ.out.trans (if_neg (fun h => by have := (nil_iff s (n) (by omega)).1 h; omega)))
              have hfe : ((n : Int) == (s.size : Int)) = false := by simp <;> omega
              clear x1 x2 HQ
              go_wp2
              refine bodyPost_ret (v := .tuple #[.agg #[.bool false, .string (s.extract (0) (n)), .string (⟨#[]⟩ : ByteArray), .string (⟨#[]⟩ : ByteArray), .bool false], .bool false]) (by simp [results, Tryd.results45, go_sem, q0, q1, q2, q3, q4]) rfl ?_
              exact ⟨bw5 (Below.setCell bw (Nat.le_succ _) _) _ _ _ _ _, _, _, _, _, _, _, rfl, (fun h => by cases h), (fun _ => by exact HQ2.out)⟩
        · exact absurd p z
    · have pI : ¬ (n : Int) < (s.size : Int) := by omega
      have HF := Lib.hid (show frac (aft (unsig s.data.toList)) = some ((⟨#[]⟩ : ByteArray).data.toList, s.data.toList.drop (n)) by rw [HA.out]; exact frac_no (fun h => absurd h p))
      have HQ := Lib.hid (cut_some HBW.out HF.out (exp_no (fun h => absurd h p)))
      have HQ2 := Lib.hid (HQ.out.trans (if_pos ((nil_iff s (n) (by omega)).2 (by omega))))
      have hfe : ((n : Int) == (s.size : Int)) = true := by simp <;> omega
      clear HQ
      go_wp2
      refine bodyPost_ret (v := .tuple #[.agg #[.bool false, .string (s.extract (0) (n)), .string (⟨#[]⟩ : ByteArray), .string (⟨#[]⟩ : ByteArray), .bool false], .bool true]) (by simp [results, Tryd.results45, go_sem, q0, q1, q2, q3, q4]) rfl ?_
      exact ⟨bw5 (Below.setCell bw (Nat.le_succ _) _) _ _ _ _ _, _, _, _, _, _, _, rfl, (fun _ => by rw [HQ2.out, HM.out, XN.out]), (fun h => by cases h)⟩
end Go.Proofs.YtofeckdhhaoobaaDoor
