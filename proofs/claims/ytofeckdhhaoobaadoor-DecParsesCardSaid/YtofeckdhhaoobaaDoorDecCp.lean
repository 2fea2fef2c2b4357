/- Walk of the document's Parse. -/
import Derived.Test.YtofeckdhhaoobaaDoorDecC0a
import Derived.Test.YtofeckdhhaoobaaDoorDecC0b
import Derived.Test.YtofeckdhhaoobaaDoorDecC1a
import Derived.Test.YtofeckdhhaoobaaDoorDecC1b
import Derived.Test.YtofeckdhhaoobaaDoorDecTl
import Derived.Test.YtofeckdhhaoobaaDoorLimbZp
namespace Go.Proofs.YtofeckdhhaoobaaDoor
open Go.RowKit LM

set_option maxHeartbeats 8000000 in
set_option maxRecDepth 20000 in
theorem Cut_nil (w : World) : Calls Tryd.prog 45 #[.string ⟨#[]⟩] w (ResC ⟨#[]⟩ w) := by
  have hR := fun W => run_int ⟨#[]⟩ (A := 0) 0 rfl W (by decide) (by decide)
  have HR := Lib.hid hR
  clear hR
  go_enter Tryd.func45, Tryd.ntmps45
  go_wp2_with fail
  refine (HR.out _).mono ?_
  rintro r w1 ⟨rfl, hw1⟩
  have ci1 : CI w w1 false ⟨#[]⟩ ⟨#[]⟩ ⟨#[]⟩ false := by rw [← hw1]; exact CI.new
  clear hw1
  obtain ⟨c0, c1, c2, c3, c4, q0, q1, q2, q3, q4, f1, f0, bw⟩ := ci1
  have hn : (dgs ((⟨#[]⟩ : ByteArray).data.toList.drop 0)).length = 0 := rfl
  rw [hn]
  go_wp2
  refine bodyPost_ret (v := .tuple #[.agg #[.bool false, .string ⟨#[]⟩, .string ⟨#[]⟩, .string ⟨#[]⟩, .bool false], .bool false]) (by simp [results, Tryd.results45, go_sem, q0, q1, q2, q3, q4]) rfl ?_
  exact ⟨bw5 bw _ _ _ _ _, _, _, _, _, _, _, rfl, (fun h => by cases h), (fun _ => rfl)⟩

theorem CutD_any (s : ByteArray) (w : World) (hs : s.size ≤ 140737488351232) : Calls Tryd.prog 45 #[.string s] w (ResC s w) := by
  rcases Nat.eq_zero_or_pos s.size with h0 | h0
  · obtain rfl : s = ⟨#[]⟩ := by
      cases s with | mk d => congr 1; exact Array.eq_empty_of_size_eq_zero h0
    exact Cut_nil w
  · by_cases h45 : s[0].toNat = 45
    · rcases Nat.lt_or_ge 1 (dgs (s.data.toList.drop 1)).length with h | h
      · exact Cut_1b s w hs h0 h45 h
      · exact Cut_1a s w hs h0 h45 h
    · rcases Nat.lt_or_ge 1 (dgs (s.data.toList.drop 0)).length with h | h
      · exact Cut_0b s w hs h0 h45 h
      · exact Cut_0a s w hs h0 h45 h

theorem frac_facts {l B l3 : List UInt8} (h : frac l = some (B, l3)) : (∀ c ∈ B, isD c = true) ∧ B.length + l3.length ≤ l.length := by
  unfold frac at h
  split at h
  · cases h; simp
  · split at h
    · split at h
      · cases h
      · rename_i t _ _
        cases h
        have : (dgs t).length + (aft t).length = t.length := by rw [← List.length_append, dgs_aft]
        exact ⟨dgs_isD t, by simp; omega⟩
    · cases h; simp
theorem sgn_le (t : List UInt8) : (sgn t).2.length ≤ t.length := by
  unfold sgn
  split
  · simp
  · split <;> simp
theorem expn_facts {l P l4 : List UInt8} {d : Bool} (h : expn l = some (d, P, l4)) : (∀ c ∈ P, isD c = true) ∧ P.length ≤ l.length := by
  unfold expn at h
  split at h
  · cases h; simp
  · split at h
    · split at h
      · cases h
      · rename_i t _ _
        cases h
        have h1 : (dgs (sgn t).2).length + (aft (sgn t).2).length = (sgn t).2.length := by rw [← List.length_append, dgs_aft]
        have h2 := sgn_le t
        exact ⟨dgs_isD _, by simp; omega⟩
    · cases h; simp
theorem cutZ_facts {l : List UInt8} {t : Lit} (h : cutZ l = some t) : (∀ c ∈ t.W ++ t.B, isD c = true) ∧ (∀ c ∈ t.P, isD c = true) ∧ t.W ≠ [] ∧ t.W.length ≤ l.length ∧ t.B.length ≤ l.length ∧ t.P.length ≤ l.length ∧ t.W.length + t.B.length ≤ l.length := by
  unfold cutZ at h
  split at h
  · cases h
  · rename_i hb
    have hu : (unsig l).length ≤ l.length := by
      unfold unsig
      split
      · simp
      · split <;> simp
    have hd1 : (dgs (unsig l)).length + (aft (unsig l)).length = (unsig l).length := by rw [← List.length_append, dgs_aft]
    rcases hfr : frac (aft (unsig l)) with _ | ⟨B, l3⟩
    · rw [hfr] at h; cases h
    · rw [hfr] at h
      simp only at h
      obtain ⟨f1, f2⟩ := frac_facts hfr
      rcases hex : expn l3 with _ | ⟨d, P, l4⟩
      · rw [hex] at h; cases h
      · rw [hex] at h
        simp only at h
        obtain ⟨g1, g2⟩ := expn_facts hex
        split at h
        · cases h
          refine ⟨fun c hc => ?_, g1, ?_, ?_, ?_, ?_, ?_⟩
          · rcases List.mem_append.1 hc with h | h
            · exact dgs_isD _ c h
            · exact f1 c h
          · intro e; apply hb; show badW (dgs (unsig l)) = true; rw [show dgs (unsig l) = [] from e]; rfl
          all_goals simp only
          all_goals omega
        · cases h

theorem pl_e2 {s : Bool} {v : Nat} {e : Int} (h1 : -900000 ≤ e) (h2 : e ≤ 900000) (hz : tz v ≤ 30000) : -1000000 ≤ (pl s v e).e ∧ (pl s v e).e ≤ 1000000 := by
  unfold pl
  split
  · exact ⟨by show (-1000000 : Int) ≤ 0; omega, by show (0 : Int) ≤ 1000000; omega⟩
  · simp only; omega
theorem min_step {p d : Nat} (h : min p 100000 = min p 100000) : min (10 * min p 100000 + d) 100000 = min (10 * p + d) 100000 := by omega
theorem litA_none {n : Nat} : litA n none = ⟨2, zP⟩ := rfl
theorem litA_long {n : Nat} {t : Lit} (h : 1000 < n) : litA n (some t) = ⟨3, zP⟩ := by unfold litA; simp only [if_pos h]
theorem litA_some {n : Nat} {t : Lit} (h : ¬ 1000 < n) : litA n (some t) = tellP (pl t.neg (dv (t.W ++ t.B)) ((if t.down then -((min (dv t.P) 100000 : Nat) : Int) else ((min (dv t.P) 100000 : Nat) : Int)) - t.B.length)) := by unfold litA; simp only [if_neg h]; rfl

theorem resN_err {A : Ans} {n : Nat} (hA : A = ⟨n, zP⟩) {w w' : World} (hb : Below w.heap.size w w') : ResN A w (.returned (.tuple #[.agg #[.bool false, .slice none 0 0, .int .i64 0], .int .i64 (n : Nat)])) w' := resA_err hA hb

set_option maxHeartbeats 8000000 in
set_option maxRecDepth 20000 in
theorem RParseD_any (s : ByteArray) (w : World) (hs : s.size ≤ 140737488351232) : Calls Tryd.prog 21 #[.string s] w (ResN (prsA s) w) := by
  rw [prs_lit]
  have hC := fun W => CutD_any s W hs
  have HC := Lib.hid hC
  clear hC
  go_enter Tryd.func21, Tryd.ntmps21
  go_wp2_with fail
  refine (HC.out _).mono ?_
  rintro r w1 ⟨hb, b, W, B, P, d, ok, rfl, hok, hno⟩
  have bb := ((Below.refl w.heap.size w).alloc (Nat.le_refl _) (.cells #[.bool false, .slice none 0 0, .int .i64 0] 24)).trans (hb.mono (by simp))
  have k0 : w1.cell? ⟨w.heap.size, 0, none⟩ = some (.bool false) := by rw [hb.cell (by simp)]; simp
  have k1 : w1.cell? ⟨w.heap.size, 1, none⟩ = some (.slice none 0 0) := by rw [hb.cell (by simp)]; simp
  have k2 : w1.cell? ⟨w.heap.size, 2, none⟩ = some (.int .i64 0) := by rw [hb.cell (by simp)]; simp
  have kf : ∀ j, w1.frozen? ⟨w.heap.size, j, none⟩ = false := fun j => by rw [hb.frozen (by simp)]; simp
  have hsz : w.heap.size < w1.heap.size := lt_of_cell k0
  clear hb
  have hq := (Below.refl w1.heap.size w1).alloc (Nat.le_refl _) (.cells #[.bool b, .string W, .string B, .string P, .bool d] 71)
  obtain ⟨z0, z1, z2⟩ := valRes k0 k1 k2 (.bool false) (.slice none 0 0) (.int .i64 0) (.cells #[.bool b, .string W, .string B, .string P, .bool d] 71)
  have u0 := cellB k0 hq
  have u1 := cellB k1 hq
  have u2 := cellB k2 hq
  have uf := fun j => (hq.frozen (p := ⟨w.heap.size, j, none⟩) hsz).trans (kf j)
  clear hq
  cases ok with
  | false =>
    have hA : litA s.size (cutZ s.data.toList) = ⟨2, zP⟩ := by rw [hno rfl]; rfl
    have HA := Lib.hid hA
    clear hA hok hno
    go_wp2
    refine bodyPost_ret (v := .tuple #[.agg #[.bool false, .slice none 0 0, .int .i64 0], .int .i64 2]) (by simp [results, Tryd.results21, go_sem, z0, z1, z2]) rfl ?_
    exact resN_err HA.out ((((bb.setCell (Nat.le_refl _) _).setCell (Nat.le_refl _) _).setCell (Nat.le_refl _) _).alloc (by simp; omega) _)
  | true =>
    have hcz := hok rfl
    by_cases hlong : 1000 < s.size
    · have hA : litA s.size (cutZ s.data.toList) = ⟨3, zP⟩ := by rw [hcz, litA_long hlong]
      have HA := Lib.hid hA
      clear hA hok hno hcz
      go_wp2
      refine bodyPost_ret (v := .tuple #[.agg #[.bool false, .slice none 0 0, .int .i64 0], .int .i64 3]) (by simp [results, Tryd.results21, go_sem, z0, z1, z2]) rfl ?_
      exact resN_err HA.out ((((bb.setCell (Nat.le_refl _) _).setCell (Nat.le_refl _) _).setCell (Nat.le_refl _) _).alloc (by simp; omega) _)
    · have hA := litA_some (n := s.size) (t := ⟨b, W.data.toList, B.data.toList, d, P.data.toList⟩) hlong
      rw [← hcz] at hA
      obtain ⟨g1, g2, g3, g4, g5, g6, g7⟩ := cutZ_facts hcz
      simp only at g1 g2 g3 g4 g5 g6 g7 hA
      have HA := Lib.hid hA
      have hln : s.data.toList.length = s.size := by rw [Array.length_toList]; rfl
      have hW : W.data.toList.length = W.size := by rw [Array.length_toList]; rfl
      have hB : B.data.toList.length = B.size := by rw [Array.length_toList]; rfl
      have hP : P.data.toList.length = P.size := by rw [Array.length_toList]; rfl
      have hI : ¬ (1000 : Int) < (s.size : Int) := by omega
      have hWs : W.size ≤ 1000 := by omega
      have hBs : B.size ≤ 1000 := by omega
      have hPs : P.size ≤ 1000 := by omega
      have hWB : W.size + B.size ≤ 1000 := by omega
      have HD := Lib.hid g2
      have hwb : (W ++ B).data.toList = W.data.toList ++ B.data.toList := ba_app W B
      have hsz2 : (W ++ B).size ≤ 1000 := by rw [ByteArray.size_append]; omega
      have hokd : okD (W ++ B) = true := by
        unfold okD; rw [hwb, List.all_eq_true.2 g1]
        cases hd : W.data.toList with
        | nil => exact absurd hd g3
        | cons x t => rfl
      have hvl : (dg 10 (dv (W.data.toList ++ B.data.toList))).length ≤ 1000 := by
        have h1 := dg_len_of_lt (b := 10) (by omega) (dv_lt g1)
        rw [List.length_append] at h1; omega
      have hRP : ∀ W', Calls Tryd.prog 46 #[.string (W ++ B)] W' fun e w' => ∃ a' c', e = .returned (.tuple #[.slice a' (dg 10 (dv (W.data.toList ++ B.data.toList))).length c', .int .i64 0]) ∧ RdC w' a' c' (dv (W.data.toList ++ B.data.toList)) ∧ Below W'.heap.size W' w' := fun W' =>
        (RParse_any (W ++ B) W' (by omega)).mono fun e w' ⟨a', c', v, h, ho, hb⟩ => by
          rcases h with ⟨_, h2, h3⟩ | ⟨h2, _, _⟩
          · rw [hwb] at h2; subst h2; exact ⟨a', c', h3, RdC.ofOwn ho, hb⟩
          · rw [hokd] at h2; cases h2
      generalize hvv : dv (W.data.toList ++ B.data.toList) = v at *
      have hM := fun a c W' E h1 h2 hr => Make_any b a c v E W' (by omega) h1 h2 hr
      have hT := fun p a c W' h1 h2 h3 h4 hr => Tell_any p a c W' h1 h2 h3 h4 hr
      have HRP := Lib.hid hRP; have HM := Lib.hid hM; have HT := Lib.hid hT
      clear hok hno hcz hA hln hW hB hP g1 g2 g3 g4 g5 g6 g7 hokd hRP hM hT hwb hvv hlong
      have bb2 := bb.alloc bb.size (.cells #[.bool b, .string W, .string B, .string P, .bool d] 71)
      have l0 : (w1.alloc (.cells #[.bool b, .string W, .string B, .string P, .bool d] 71)).cell? ⟨w1.heap.size, 0, none⟩ = some (.bool b) := by simp
      have l1 : (w1.alloc (.cells #[.bool b, .string W, .string B, .string P, .bool d] 71)).cell? ⟨w1.heap.size, 1, none⟩ = some (.string W) := by simp
      have l2 : (w1.alloc (.cells #[.bool b, .string W, .string B, .string P, .bool d] 71)).cell? ⟨w1.heap.size, 2, none⟩ = some (.string B) := by simp
      have l3 : (w1.alloc (.cells #[.bool b, .string W, .string B, .string P, .bool d] 71)).cell? ⟨w1.heap.size, 3, none⟩ = some (.string P) := by simp
      have l4 : (w1.alloc (.cells #[.bool b, .string W, .string B, .string P, .bool d] 71)).cell? ⟨w1.heap.size, 4, none⟩ = some (.bool d) := by simp
      clear z0 z1 z2
      have hw2 : w.heap.size < (w1.alloc (.cells #[.bool b, .string W, .string B, .string P, .bool d] 71)).heap.size := lt_of_cell u0
      clear k0 k1 k2 kf hsz
      go_wp2_with fail
      generalize w1.alloc (.cells #[.bool b, .string W, .string B, .string P, .bool d] 71) = w2 at *
      go_loop [6, 7] (fun e i => ∃ k q : Nat, k ≤ P.size ∧ i = .int .i64 k ∧ e = .int .i64 q ∧ q ≤ 100000 ∧ Hid (q = min (dv (P.data.toList.take k)) 100000)) (fun _ i => P.size - (intOf i).toNat)
      case atStart => exact ⟨0, 0, Nat.zero_le _, rfl, rfl, by omega, rfl⟩
      case round =>
        obtain ⟨k, q, hk, rfl, rfl, hq, HQ⟩ := hrel
        by_cases hlt : k < P.size
        · have hb := HD.out P[k] (by have : P[k] = P.data.toList[k]'(by simpa using hlt) := rfl; rw [this]; exact List.getElem_mem _)
          simp [isD] at hb
          obtain ⟨hb1, hb2⟩ := hb
          have hstep : dv (P.data.toList.take (k + 1)) = 10 * dv (P.data.toList.take k) + (P[k].toNat - 48) := by rw [take_snocB P k hlt, dv_snoc]
          by_cases hbig : 100000 < 10 * q + (P[k].toNat - 48)
          · have hbI : 100000 < 10 * (q : Int) + ((P[k].toNat : Int) - 48) := by omega
            have HQ2 := Lib.hid (show 100000 = min (dv (P.data.toList.take (k + 1))) 100000 by have := HQ.out; rw [hstep]; omega)
            clear hstep
            go_wp2
            go_round
            case rel => exact ⟨k + 1, 100000, by omega, by go_num, rfl, by omega, HQ2⟩
            case measure => simp [intOf]; omega
          · have hbI : ¬ 100000 < 10 * (q : Int) + ((P[k].toNat : Int) - 48) := by omega
            have HQ2 := Lib.hid (show 10 * q + (P[k].toNat - 48) = min (dv (P.data.toList.take (k + 1))) 100000 by have := HQ.out; rw [hstep]; omega)
            clear hstep
            go_wp2
            go_round
            case rel => exact ⟨k + 1, 10 * q + (P[k].toNat - 48), by omega, by go_num, by go_num, by omega, HQ2⟩
            case measure => simp [intOf]; omega
        · obtain rfl : k = P.size := by omega
          have h := HQ.out
          rw [List.take_of_length_le (by simp)] at h
          rw [← h] at HA
          clear h HQ hlt hk
          cases d with
          | false =>
            have hpl := pl_plain b v ((q : Int) - (B.size : Int))
            have hpd := pl_len (s := b) (v := v) (e := (q : Int) - (B.size : Int))
            have hpe : -1000000 ≤ (pl b v ((q : Int) - (B.size : Int))).e ∧ (pl b v ((q : Int) - (B.size : Int))).e ≤ 1000000 := pl_e2 (by omega) (by omega) (by
              rcases Nat.eq_zero_or_pos v with e0 | e0
              · rw [e0, tz_zero]; omega
              · have := tz_len e0; omega)
            have HA2 := Lib.hid (show litA s.size (cutZ s.data.toList) = tellP (pl b v ((q : Int) - (B.size : Int))) by rw [HA.out]; simp [Array.length_toList])
            clear HA
            go_wp2_with fail
            refine (HRP.out _).mono ?_
            rintro r w3 ⟨a3, c3, rfl, hr3, hb3⟩
            have b3 := bb2.trans (hb3.mono bb2.size)
            have m0 := cellB l0 hb3
            have m1 := cellB l1 hb3
            have m2 := cellB l2 hb3
            have t0 := cellB u0 hb3
            have t1 := cellB u1 hb3
            have t2 := cellB u2 hb3
            have tf : ∀ j, w3.frozen? ⟨w.heap.size, j, none⟩ = false := fun j => by rw [hb3.frozen (p := ⟨w.heap.size, j, none⟩) hw2]; exact uf j
            have hw3 := lt_of_cell t0
            have HR3 := Lib.hid hr3
            clear hb3 bb2 l0 l1 l2 l3 l4 u0 u1 u2 uf hw2 hr3
            go_wp2_with fail
            refine (HM.out a3 c3 _ ((q : Int) - (B.size : Int)) (by omega) (by omega) HR3.out).mono ?_
            rintro r w4 ⟨a4, c4, rfl, hr4, hb4⟩
            have b4 := b3.trans (hb4.mono b3.size)
            have u0 := cellB t0 hb4
            have u1 := cellB t1 hb4
            have u2 := cellB t2 hb4
            have uf : ∀ j, w4.frozen? ⟨w.heap.size, j, none⟩ = false := fun j => by rw [hb4.frozen (p := ⟨w.heap.size, j, none⟩) hw3]; exact tf j
            have hw4 := lt_of_cell u0
            have HR4 := Lib.hid hr4
            clear hb4 b3 m0 m1 m2 t0 t1 t2 tf hw3 hr4
            generalize pl b v ((q : Int) - (B.size : Int)) = p at *
            go_wp2_with fail
            refine (HT.out p a4 c4 _ hpl (by unfold dl; omega) hpe.1 hpe.2 HR4.out).mono ?_
            rintro r w5 ⟨a5, c5, rfl, ho5, hb5⟩
            have b5 := b4.trans (hb5.mono b4.size)
            have t0 := cellB u0 hb5
            have t1 := cellB u1 hb5
            have t2 := cellB u2 hb5
            have tf : ∀ j, w5.frozen? ⟨w.heap.size, j, none⟩ = false := fun j => by rw [hb5.frozen (p := ⟨w.heap.size, j, none⟩) hw4]; exact uf j
            have ap := ho5.apart hw4
            have hown := ho5.mono b4.size
            clear hb5 ho5 b4 u0 u1 u2 uf
            generalize hA : tellP p = A at *
            go_wp2
            refine bodyPost_ret (v := .tuple #[.agg #[.bool A.p.neg, .slice a5 (dg 1000000000 A.p.m).length c5, .int .i64 A.p.e], .int .i64 (A.err : Nat)]) (by simp [results, Tryd.results21, go_sem, t0, t1, t2]) rfl ?_
            rw [HA2.out]
            exact ⟨a5, c5, rfl, ((hown.setFar ap _ _).setFar ap _ _).setFar ap _ _, ((b5.setCell (Nat.le_refl _) _).setCell (Nat.le_refl _) _).setCell (Nat.le_refl _) _⟩
          | true =>
            have hpl := pl_plain b v (-(q : Int) - (B.size : Int))
            have hpd := pl_len (s := b) (v := v) (e := -(q : Int) - (B.size : Int))
            have hpe : -1000000 ≤ (pl b v (-(q : Int) - (B.size : Int))).e ∧ (pl b v (-(q : Int) - (B.size : Int))).e ≤ 1000000 := pl_e2 (by omega) (by omega) (by
              rcases Nat.eq_zero_or_pos v with e0 | e0
              · rw [e0, tz_zero]; omega
              · have := tz_len e0; omega)
            have HA2 := Lib.hid (show litA s.size (cutZ s.data.toList) = tellP (pl b v (-(q : Int) - (B.size : Int))) by rw [HA.out]; simp [Array.length_toList])
            clear HA
            go_wp2_with fail
            refine (HRP.out _).mono ?_
            rintro r w3 ⟨a3, c3, rfl, hr3, hb3⟩
            have b3 := bb2.trans (hb3.mono bb2.size)
            have m0 := cellB l0 hb3
            have m1 := cellB l1 hb3
            have m2 := cellB l2 hb3
            have t0 := cellB u0 hb3
            have t1 := cellB u1 hb3
            have t2 := cellB u2 hb3
            have tf : ∀ j, w3.frozen? ⟨w.heap.size, j, none⟩ = false := fun j => by rw [hb3.frozen (p := ⟨w.heap.size, j, none⟩) hw2]; exact uf j
            have hw3 := lt_of_cell t0
            have HR3 := Lib.hid hr3
            clear hb3 bb2 l0 l1 l2 l3 l4 u0 u1 u2 uf hw2 hr3
            go_wp2_with fail
            refine (HM.out a3 c3 _ (-(q : Int) - (B.size : Int)) (by omega) (by omega) HR3.out).mono ?_
            rintro r w4 ⟨a4, c4, rfl, hr4, hb4⟩
            have b4 := b3.trans (hb4.mono b3.size)
            have u0 := cellB t0 hb4
            have u1 := cellB t1 hb4
            have u2 := cellB t2 hb4
            have uf : ∀ j, w4.frozen? ⟨w.heap.size, j, none⟩ = false := fun j => by rw [hb4.frozen (p := ⟨w.heap.size, j, none⟩) hw3]; exact tf j
            have hw4 := lt_of_cell u0
            have HR4 := Lib.hid hr4
            clear hb4 b3 m0 m1 m2 t0 t1 t2 tf hw3 hr4
            generalize pl b v (-(q : Int) - (B.size : Int)) = p at *
            go_wp2_with fail
            refine (HT.out p a4 c4 _ hpl (by unfold dl; omega) hpe.1 hpe.2 HR4.out).mono ?_
            rintro r w5 ⟨a5, c5, rfl, ho5, hb5⟩
            have b5 := b4.trans (hb5.mono b4.size)
            have t0 := cellB u0 hb5
            have t1 := cellB u1 hb5
            have t2 := cellB u2 hb5
            have tf : ∀ j, w5.frozen? ⟨w.heap.size, j, none⟩ = false := fun j => by rw [hb5.frozen (p := ⟨w.heap.size, j, none⟩) hw4]; exact uf j
            have ap := ho5.apart hw4
            have hown := ho5.mono b4.size
            clear hb5 ho5 b4 u0 u1 u2 uf
            generalize hA : tellP p = A at *
            go_wp2
            refine bodyPost_ret (v := .tuple #[.agg #[.bool A.p.neg, .slice a5 (dg 1000000000 A.p.m).length c5, .int .i64 A.p.e], .int .i64 (A.err : Nat)]) (by simp [results, Tryd.results21, go_sem, t0, t1, t2]) rfl ?_
            rw [HA2.out]
            exact ⟨a5, c5, rfl, ((hown.setFar ap _ _).setFar ap _ _).setFar ap _ _, ((b5.setCell (Nat.le_refl _) _).setCell (Nat.le_refl _) _).setCell (Nat.le_refl _) _⟩
end Go.Proofs.YtofeckdhhaoobaaDoor
