/- syntax: depthUpTo walked. -/
import Derived.Test.YtpgiljibicigeaaGreatDoorSynShs
import Derived.Deep.RegionHeld3
import Derived.Test.YtpgiljibicigeaaGreatDoorLexRisesMs
set_option linter.unusedVariables false
set_option linter.unusedSimpArgs false
namespace Go.Proofs.YtpgiljibicigeaaGreatDoor
open Go.RowKit SX

/-- the greatest of the kids' depths, m levels being asked at most -/
def gA : Nat → List An → Nat → Nat
  | 0, _, d => d
  | m + 1, ks, d => dAs m ks d
theorem dA_gA (m : Nat) (k : Int) (s : ByteArray) (ks : List An) : dA m (.mk k s ks) = gA m ks 0 + 1 := by
  cases m <;> rfl
theorem gA_nil (m d : Nat) : gA m [] d = d := by cases m <;> rfl
theorem gA_full (m : Nat) (ks : List An) : gA m ks m = m := by
  cases m with
  | zero => rfl
  | succ m => exact dAs_full ks
theorem gA_cons (m : Nat) (x : An) (ks : List An) (d : Nat) : gA (m + 1) (x :: ks) d = gA (m + 1) ks (max d (dA m x)) := rfl

set_option maxRecDepth 100000 in
set_option maxHeartbeats 8000000 in
theorem depthD (m : Nat) (hm : m ≤ 1000) (IH : Hid (∀ m', m = m' + 1 → ∀ (x : An) (w : World) (u : Value), AN w x u → Calls Tryz.prog 17 #[u, .int .i64 (m : Int)] w fun e w' => e = .returned (.int .i64 (dA m' x : Int)) ∧ Below w.heap.size w w')) (k : Int) (s : ByteArray) (ks : List An) (w : World) (u : Value) (hn : AN w (.mk k s ks) u) :
    Calls Tryz.prog 17 #[u, .int .i64 ((m : Int) + 1)] w fun e w' => e = .returned (.int .i64 ((gA m ks 0 : Int) + 1)) ∧ Below w.heap.size w w' := by
  unfold AN at hn
  obtain ⟨ao, cap, rfl, hkl, hs⟩ := hn
  obtain ⟨nb, hnb⟩ : ∃ n, w.heap.size = n := ⟨_, rfl⟩
  obtain ⟨w1, hw1⟩ : ∃ W, w.alloc (.cells #[.int .i64 k, .string s, .slice ao ks.length cap] 24) = W := ⟨_, rfl⟩
  have hb1 : Below nb w w1 := by rw [← hw1]; exact (Below.refl _ _).alloc (by omega) _
  have k2 : w1.cell? ⟨nb, 2, none⟩ = some (.slice ao ks.length cap) := by rw [← hw1]; exact cell_new hnb.symm
  have HB1 : Hid (Below nb w w1 ∧ w1.heap.size = nb + 1) := Lib.hid ⟨hb1, by rw [← hw1, ← hnb]; simp⟩
  have HKL := Lib.hid hkl
  have HM := Lib.hid hm
  have HS := Lib.hid hs; have HW1 := Lib.hid hw1; have HNB := Lib.hid hnb
  have e0 : wrap64 (m : Int) = (m : Int) := by rw [← IntWalk.i64_left]; exact IntWalk.i64_in _ (by omega)
  clear hs hw1 hnb hb1 hkl hm
  go_enter Tryz.func17, Tryz.ntmps17
  go_wp2_with fail
  rw [HW1.out, HNB.out]
  go_wp2_with fail
  go_loopg [5, 11] ks.length (fun gk s5 s11 wr => ∃ (i d : Nat), i + gk = ks.length ∧ s5 = .int .i64 (d : Int) ∧ s11 = .int .i64 (i : Int) ∧ Hid (d ≤ m ∧ gA m (ks.drop i) d = gA m ks 0) ∧ Hid (Below (nb + 1) w1 wr))
  case atStart => exact ⟨0, 0, by omega, rfl, rfl, Lib.hid ⟨Nat.zero_le _, by rw [List.drop_zero]⟩, Lib.hid (Below.refl _ _)⟩
  case round =>
    obtain ⟨i, d, hi, rfl, rfl, HD, HB⟩ := hrel
    have e1 : wrap64 ((d : Int) + 1) = (d : Int) + 1 := by have := HD.out.1; have := HM.out; rw [← IntWalk.i64_left]; exact IntWalk.i64_in _ (by omega)
    by_cases hlt : i < ks.length
    · obtain ⟨f, rfl⟩ : ∃ f, gk = f + 1 := ⟨gk - 1, by omega⟩
      have hltI : (i : Int) < (ks.length : Int) := by omega
      have hib : (i : Int) ≤ 9223372036854775806 := by have := HKL.out; unfold maxLen at this; omega
      obtain ⟨x, hx⟩ : ∃ x, ks[i]? = some x := ⟨_, List.getElem?_eq_getElem hlt⟩
      obtain ⟨q, o, c0, c1, c2, rfl, h0, h1, h2, hnx⟩ := HS.out.get hx
      rw [Nat.zero_add] at h0 h1 h2
      have hnx2 := hnx
      obtain ⟨kx, sx, jx⟩ := x
      unfold AN at hnx2
      obtain ⟨ax, cx, ex, _⟩ := hnx2
      simp only [Value.agg.injEq, Array.mk.injEq, List.cons.injEq, and_true] at ex
      obtain ⟨rfl, rfl, rfl⟩ := ex
      have hql := lt_of_cell h0
      simp only [HNB.out] at hql
      have hbw : Below nb w wr := HB1.out.1.trans (HB.out.mono (by omega))
      have j0 : wr.cell? ⟨q, o + i * 3, none⟩ = some (.int .i64 kx) := (hbw.cell (p := ⟨q, o + i * 3, none⟩) hql).trans h0
      have j1 : wr.cell? ⟨q, o + i * 3 + 1, none⟩ = some (.string sx) := (hbw.cell (p := ⟨q, o + i * 3 + 1, none⟩) hql).trans h1
      have j2 : wr.cell? ⟨q, o + i * 3 + 2, none⟩ = some (.slice ax jx.length cx) := (hbw.cell (p := ⟨q, o + i * 3 + 2, none⟩) hql).trans h2
      have hdr : ks.drop i = .mk kx sx jx :: ks.drop (i + 1) := (List.drop_eq_getElem_cons hlt).trans (by rw [(List.getElem?_eq_some_iff.1 hx).2])
      by_cases hdm : d = m
      · have hdI : ((d : Int) == (m : Int)) = true := by rw [beq_iff_eq]; omega
        have HDM := Lib.hid hdm
        clear hdm h0 h1 h2 hnx hx hql hbw hlt hi hdr
        have HGM : Hid (gA m ks 0 = m) := Lib.hid (by rw [← HD.out.2, HDM.out, gA_full])
        have HBE : Hid (Below w.heap.size w wr) := Lib.hid (by rw [HNB.out]; exact HB1.out.1.trans (HB.out.mono (by omega)))
        go_wp2
        go_ret
        exact ⟨by show Ending.returned (Value.int .i64 (wrap64 ((d : Int) + 1))) = _; rw [e1, HGM.out, HDM.out], HBE.out.trans ((Below.refl _ _).alloc HBE.out.size _)⟩
      · obtain ⟨m', hm'⟩ : ∃ m', m = m' + 1 := ⟨m - 1, by have := HD.out.1; omega⟩
        have hdI : ((d : Int) == (m : Int)) = false := by rw [beq_eq_false_iff_ne]; omega
        have HC := Lib.hid (fun W (hb : Below wr.heap.size wr W) => IH.out m' hm' (.mk kx sx jx) W _ (AN.be hb (AN.to (fun k hk => hbw.block k (by rw [← HNB.out]; exact hk)) hnx)))
        have HX := Lib.hid hx; have HI := Lib.hid hi; have HMM := Lib.hid hm'; have HDR := Lib.hid hdr
        have HWS : Hid (nb + 1 ≤ wr.heap.size) := Lib.hid (by have := HB.out.size; have := HB1.out.2; omega)
        clear hdm h0 h1 h2 hnx hx hql hbw hlt hi hdr hm'
        go_wp2_with fail
        obtain ⟨W, hW⟩ : ∃ W, wr.alloc (.cells #[.int .i64 kx, .string sx, .slice ax jx.length cx] 24) = W := ⟨_, rfl⟩
        have hbW : Below wr.heap.size wr W := by rw [← hW]; exact (Below.refl _ _).alloc (Nat.le_refl _) _
        rw [hW]
        refine (HC.out W hbW).mono ?_
        rintro e w4 ⟨rfl, hb⟩
        have HB4 : Hid (Below (nb + 1) w1 w4) := Lib.hid (HB.out.trans ((hbW.trans (hb.mono hbW.size)).mono HWS.out))
        have HY := Lib.hid (dA_le m' (.mk kx sx jx))
        have HN : Hid (gA m (ks.drop (i + 1)) (max d (dA m' (.mk kx sx jx))) = gA m ks 0) := Lib.hid (by rw [← HD.out.2, HDR.out, HMM.out, gA_cons])
        generalize dA m' (.mk kx sx jx) = y at *
        clear hb hbW hW HC
        go_wp2
        go_roundg f
        case measure => omega
        case rel => exact ⟨i + 1, max d y, by have := HI.out; omega, by rw [show ((max d y : Nat) : Int) = max (d : Int) (y : Int) by omega], rfl, Lib.hid ⟨by have := HY.out; have := HMM.out; have := HD.out.1; omega, HN.out⟩, HB4⟩
    · have hltI : ¬ (i : Int) < (ks.length : Int) := by omega
      have HI : Hid (i = ks.length) := Lib.hid (by omega)
      have HG : Hid (gA m ks 0 = d) := Lib.hid (by rw [← HD.out.2, HI.out, List.drop_length, gA_nil])
      clear hlt
      go_wp2
      go_ret
      exact ⟨by rw [HG.out]; rfl, by rw [HNB.out]; exact HB1.out.1.trans (HB.out.mono (by omega))⟩
theorem depthUpTo_any : ∀ (m : Nat), m ≤ 1000 → ∀ (x : An) (w : World) (u : Value), AN w x u → Calls Tryz.prog 17 #[u, .int .i64 ((m : Int) + 1)] w fun e w' => e = .returned (.int .i64 (dA m x : Int)) ∧ Below w.heap.size w w'
  | 0, hm, .mk k s ks, w, u, hn => by
    refine (depthD 0 hm (Lib.hid (fun m' h => by omega)) k s ks w u hn).mono fun e w' h => ?_
    rw [dA_gA]
    exact ⟨h.1.trans (by rw [show ((gA 0 ks 0 + 1 : Nat) : Int) = (gA 0 ks 0 : Int) + 1 by omega]), h.2⟩
  | m + 1, hm, .mk k s ks, w, u, hn => by
    refine (depthD (m + 1) hm (Lib.hid (fun m' h x w u hn => ?_)) k s ks w u hn).mono fun e w' h => ?_
    · obtain rfl : m = m' := by omega
      have := depthUpTo_any m (by omega) x w u hn
      rwa [show ((m + 1 : Nat) : Int) = (m : Int) + 1 by omega]
    · rw [dA_gA]
      exact ⟨h.1.trans (by rw [show ((gA (m + 1) ks 0 + 1 : Nat) : Int) = (gA (m + 1) ks 0 : Int) + 1 by omega]), h.2⟩
/-- syntax.Depth -/
theorem Depth_any (x : An) (w : World) (u : Value) (hn : AN w x u) : Calls Tryz.prog 10 #[u] w fun e w' => e = .returned (.int .i64 (dA 200 x : Int)) ∧ Below w.heap.size w w' := by
  have HN := Lib.hid hn
  obtain ⟨k, s, ks⟩ := x
  unfold AN at hn
  obtain ⟨ao, cap, rfl, hkl, hs⟩ := hn
  obtain ⟨w1, hw1⟩ : ∃ W, w.alloc (.cells #[.int .i64 k, .string s, .slice ao ks.length cap] 24) = W := ⟨_, rfl⟩
  have hb1 : Below w.heap.size w w1 := by rw [← hw1]; exact (Below.refl _ _).alloc (Nat.le_refl _) _
  have k0 : w1.cell? ⟨w.heap.size, 0, none⟩ = some (.int .i64 k) := by rw [← hw1]; exact cell_new (W := w) rfl
  have k1 : w1.cell? ⟨w.heap.size, 1, none⟩ = some (.string s) := by rw [← hw1]; exact cell_new (W := w) rfl
  have k2 : w1.cell? ⟨w.heap.size, 2, none⟩ = some (.slice ao ks.length cap) := by rw [← hw1]; exact cell_new (W := w) rfl
  have HC := Lib.hid (depthUpTo_any 200 (by omega) (.mk k s ks) w1 _ (AN.be hb1 HN.out))
  have HW1 := Lib.hid hw1; have HB1 := Lib.hid hb1
  clear hs hkl hw1 hb1 HN
  go_enter Tryz.func10, Tryz.ntmps10
  go_wp2_with fail
  rw [HW1.out]
  go_wp2_with fail
  refine HC.out.mono ?_
  rintro e w4 ⟨rfl, hb⟩
  have HB4 := Lib.hid (HB1.out.trans (hb.mono HB1.out.size))
  clear hb HC
  go_wp2
  go_ret
  exact ⟨rfl, HB4.out⟩
end Go.Proofs.YtpgiljibicigeaaGreatDoor

/- syntax: the document's Depth walked. -/
namespace Go.Proofs.YtpgiljibicigeaaGreatDoor
open Go.RowKit SX

set_option maxRecDepth 100000 in
set_option maxHeartbeats 8000000 in
theorem rdepthD (m : Nat) (hm : m ≤ 1000) (IH : Hid (∀ (x : An) (w : World) (u : Value), AN w x u → Calls Tryz.prog 11 #[u, .int .i64 (m : Int)] w fun e w' => e = .returned (.int .i64 (dA m x : Int)) ∧ Below w.heap.size w w')) (k : Int) (s : ByteArray) (ks : List An) (w : World) (u : Value) (hn : AN w (.mk k s ks) u) :
    Calls Tryz.prog 11 #[u, .int .i64 ((m : Int) + 1)] w fun e w' => e = .returned (.int .i64 ((dAs m ks 0 : Int) + 1)) ∧ Below w.heap.size w w' := by
  unfold AN at hn
  obtain ⟨ao, cap, rfl, hkl, hs⟩ := hn
  obtain ⟨nb, hnb⟩ : ∃ n, w.heap.size = n := ⟨_, rfl⟩
  obtain ⟨w1, hw1⟩ : ∃ W, w.alloc (.cells #[.int .i64 k, .string s, .slice ao ks.length cap] 24) = W := ⟨_, rfl⟩
  have hb1 : Below nb w w1 := by rw [← hw1]; exact (Below.refl _ _).alloc (by omega) _
  have k2 : w1.cell? ⟨nb, 2, none⟩ = some (.slice ao ks.length cap) := by rw [← hw1]; exact cell_new hnb.symm
  have HB1 : Hid (Below nb w w1 ∧ w1.heap.size = nb + 1) := Lib.hid ⟨hb1, by rw [← hw1, ← hnb]; simp⟩
  have HK2 := Lib.hid k2
  have HKL := Lib.hid hkl
  have HM := Lib.hid hm
  have HS := Lib.hid hs; have HW1 := Lib.hid hw1; have HNB := Lib.hid hnb
  have e0 : wrap64 (m : Int) = (m : Int) := by rw [← IntWalk.i64_left]; exact IntWalk.i64_in _ (by omega)
  have en : ((m : Int) + 1 == 0) = false := by rw [beq_eq_false_iff_ne]; omega
  clear hs hw1 hnb hb1 hkl hm
  go_enter Tryz.func11, Tryz.ntmps11
  go_wp2_with fail
  rw [HW1.out, HNB.out]
  go_wp2_with fail
  go_loopg [5, 6] ks.length (fun gk s5 s6 wr => ∃ (i d : Nat), i + gk = ks.length ∧ s5 = .int .i64 (d : Int) ∧ s6 = .int .i64 (i : Int) ∧ Hid (d ≤ m + 1 ∧ dAs m (ks.drop i) d = dAs m ks 0) ∧ Hid (Below (nb + 1) w1 wr))
  case atStart => exact ⟨0, 0, by omega, rfl, rfl, Lib.hid ⟨Nat.zero_le _, by rw [List.drop_zero]⟩, Lib.hid (Below.refl _ _)⟩
  case round =>
    obtain ⟨i, d, hi, rfl, rfl, HD, HB⟩ := hrel
    have m2 : wr.cell? ⟨nb, 2, none⟩ = some (.slice ao ks.length cap) := (HB.out.cell (p := ⟨nb, 2, none⟩) (Nat.lt_succ_self _)).trans HK2.out
    have e1 : wrap64 ((d : Int) + 1) = (d : Int) + 1 := by have := HD.out.1; have := HM.out; rw [← IntWalk.i64_left]; exact IntWalk.i64_in _ (by omega)
    by_cases hlt : i < ks.length
    · obtain ⟨f, rfl⟩ : ∃ f, gk = f + 1 := ⟨gk - 1, by omega⟩
      have hltI : (i : Int) < (ks.length : Int) := by omega
      have hib : (i : Int) ≤ 9223372036854775806 := by have := HKL.out; unfold maxLen at this; omega
      obtain ⟨x, hx⟩ : ∃ x, ks[i]? = some x := ⟨_, List.getElem?_eq_getElem hlt⟩
      obtain ⟨q, o, c0, c1, c2, rfl, h0, h1, h2, hnx⟩ := HS.out.get hx
      rw [Nat.zero_add] at h0 h1 h2
      have hql := lt_of_cell h0
      simp only [HNB.out] at hql
      have hbw : Below nb w wr := HB1.out.1.trans (HB.out.mono (by omega))
      have j0 : wr.cell? ⟨q, o + i * 3, none⟩ = some c0 := (hbw.cell (p := ⟨q, o + i * 3, none⟩) hql).trans h0
      have j1 : wr.cell? ⟨q, o + i * 3 + 1, none⟩ = some c1 := (hbw.cell (p := ⟨q, o + i * 3 + 1, none⟩) hql).trans h1
      have j2 : wr.cell? ⟨q, o + i * 3 + 2, none⟩ = some c2 := (hbw.cell (p := ⟨q, o + i * 3 + 2, none⟩) hql).trans h2
      have hdr : ks.drop i = x :: ks.drop (i + 1) := (List.drop_eq_getElem_cons hlt).trans (by rw [(List.getElem?_eq_some_iff.1 hx).2])
      have HC := Lib.hid (IH.out x wr (.agg #[c0, c1, c2]) (AN.to (fun k hk => hbw.block k (by rw [← HNB.out]; exact hk)) hnx))
      have HI := Lib.hid hi; have HDR := Lib.hid hdr
      have HWS : Hid (nb + 1 ≤ wr.heap.size) := Lib.hid (by have := HB.out.size; have := HB1.out.2; omega)
      clear h0 h1 h2 hnx hx hql hbw hlt hi hdr
      go_wp2_with fail
      refine HC.out.mono ?_
      rintro e w4 ⟨rfl, hb⟩
      have HB4 : Hid (Below (nb + 1) w1 w4) := Lib.hid (HB.out.trans (hb.mono HWS.out))
      have HY := Lib.hid (dA_le m x)
      have HN : Hid (dAs m (ks.drop (i + 1)) (max d (dA m x)) = dAs m ks 0) := Lib.hid (by rw [← HD.out.2, HDR.out, dAs_cons])
      generalize dA m x = y at *
      clear hb HC
      by_cases hyd : d < y
      · have h1 : (d : Int) < (y : Int) := by omega
        have HYD := Lib.hid hyd
        clear hyd
        go_wp2
        go_roundg f
        case measure => omega
        case rel => exact ⟨i + 1, y, by have := HI.out; omega, rfl, rfl, Lib.hid ⟨HY.out, by have := HN.out; rwa [Nat.max_eq_right (Nat.le_of_lt HYD.out)] at this⟩, HB4⟩
      · have h1 : ¬ (d : Int) < (y : Int) := by omega
        have HYD := Lib.hid hyd
        clear hyd
        go_wp2
        go_roundg f
        case measure => omega
        case rel => exact ⟨i + 1, d, by have := HI.out; omega, rfl, rfl, Lib.hid ⟨HD.out.1, by have := HN.out; rwa [Nat.max_eq_left (by have := HYD.out; omega)] at this⟩, HB4⟩
    · have hltI : ¬ (i : Int) < (ks.length : Int) := by omega
      have HI : Hid (i = ks.length) := Lib.hid (by omega)
      have HG : Hid (dAs m ks 0 = d) := Lib.hid (by rw [← HD.out.2, HI.out, List.drop_length]; rfl)
      clear hlt
      go_wp2
      go_ret
      exact ⟨by rw [HG.out]; rfl, by rw [HNB.out]; exact HB1.out.1.trans (HB.out.mono (by omega))⟩
set_option maxRecDepth 100000 in
theorem rdepth0 (k : Int) (s : ByteArray) (ks : List An) (w : World) (u : Value) (hn : AN w (.mk k s ks) u) :
    Calls Tryz.prog 11 #[u, .int .i64 0] w fun e w' => e = .returned (.int .i64 1) ∧ Below w.heap.size w w' := by
  unfold AN at hn
  obtain ⟨ao, cap, rfl, hkl, hs⟩ := hn
  clear hkl hs
  go_enter Tryz.func11, Tryz.ntmps11
  go_wp2
  go_ret
  exact ⟨rfl, (Below.refl _ _).alloc (Nat.le_refl _) _⟩
theorem rDepth_any : ∀ (m : Nat), m ≤ 1000 → ∀ (x : An) (w : World) (u : Value), AN w x u → Calls Tryz.prog 11 #[u, .int .i64 (m : Int)] w fun e w' => e = .returned (.int .i64 (dA m x : Int)) ∧ Below w.heap.size w w'
  | 0, _, .mk k s ks, w, u, hn => rdepth0 k s ks w u hn
  | m + 1, hm, .mk k s ks, w, u, hn => by
    have := rdepthD m (by omega) (Lib.hid (rDepth_any m (by omega))) k s ks w u hn
    rw [show ((m + 1 : Nat) : Int) = (m : Int) + 1 by omega]
    refine this.mono fun e w' h => ⟨h.1.trans ?_, h.2⟩
    rw [dA_succ, show ((dAs m ks 0 + 1 : Nat) : Int) = (dAs m ks 0 : Int) + 1 by omega]
end Go.Proofs.YtpgiljibicigeaaGreatDoor

/- the law SyntaxPlaces walked. -/
namespace Go.Proofs.YtpgiljibicigeaaGreatDoor
open Go.RowKit UM QM LX SX

theorem parF_ok {s : ByteArray} {x : Nd} {j : Nat} (h : parF s = .ok x j) : dpt x ≤ 200 ∧ siz x ≤ 44739242 ∧ rgt x = true := by
  unfold parF at h
  split at h
  · rename_i h0
    have hq := allF_iv (evS_ok s h0).q
    cases hR : allF (evS s) with
    | err a e => rw [hR] at h; simp [Rs.bind] at h
    | ok y k =>
      rw [hR] at h hq
      simp only [Rs.bind] at h
      split at h
      · cases h
      split at h
      · cases h
      injection h with h1 h2
      subst h1
      have hp : P1 (evS s) 0 0 y k := hq
      exact ⟨by omega, by omega, hp.2.2.2⟩
  · cases h
theorem parF_err {s : ByteArray} {a er : Nat} (h : parF s = .err a er) : a ≤ s.size ∧ er ≠ 0 ∧ (er = 5 → a = s.size) := by
  unfold parF at h
  split at h
  · rename_i h0
    have hq := allF_iv (evS_ok s h0).q
    cases hR : allF (evS s) with
    | err b e =>
      rw [hR] at h hq
      simp only [Rs.bind] at h
      injection h with h1 h2
      subst h1 h2
      exact hq
    | ok y k =>
      rw [hR] at h
      simp only [Rs.bind] at h
      split at h
      · injection h with h1 h2; subst h1 h2; exact ⟨Nat.zero_le _, by decide, fun h => by cases h⟩
      split at h
      · injection h with h1 h2; subst h1 h2; exact ⟨Nat.zero_le _, by decide, fun h => by cases h⟩
      cases h
  · rename_i h0
    injection h with h1 h2
    subst h1 h2
    have hb := bl_len s
    have := ((tkF_ck (bl s)).2 h0).2
    exact ⟨by omega, h0, fun h5 => by rw [tk_5 _ h5, hb]⟩
set_option maxRecDepth 100000 in
set_option maxHeartbeats 1000000 in
theorem great15_any (s : ByteArray) (w : World) : Calls Tryz.prog 8 #[.string s] w fun e w' => e = .returned (.bool (gre s.size)) ∧ w = w' := by
  unfold gre
  by_cases h1 : 3000 < s.size
  · by_cases h2 : s.size ≤ 100000
    · have h1' : (3000 : Int) < (s.size : Int) := by omega
      have h2' : (s.size : Int) ≤ 100000 := by omega
      rw [decide_eq_true h1, decide_eq_true h2]
      go_enter Tryz.func8, Tryz.ntmps8
      go_wp2
      go_ret
      exact ⟨rfl, rfl⟩
    · have h1' : (3000 : Int) < (s.size : Int) := by omega
      have h2' : ¬ (s.size : Int) ≤ 100000 := by omega
      rw [decide_eq_true h1, decide_eq_false h2]
      go_enter Tryz.func8, Tryz.ntmps8
      go_wp2
      go_ret
      exact ⟨rfl, rfl⟩
  · have h1' : ¬ (3000 : Int) < (s.size : Int) := by omega
    rw [decide_eq_false h1, Bool.false_and]
    go_enter Tryz.func8, Tryz.ntmps8
    go_wp2
    go_ret
    exact ⟨rfl, rfl⟩
end Go.Proofs.YtpgiljibicigeaaGreatDoor
