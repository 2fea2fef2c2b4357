/- Walks of the document's answer for dec: To, Norm, Same. -/
import Derived.Test.YtofeckdhhaoobaaDoorDecE
namespace Go.Proofs.YtofeckdhhaoobaaDoor
open Go.RowKit LM

def ResV (p : Pl) (w : World) (r : Ending) (w' : World) : Prop := ∃ a' c', r = .returned (.agg #[.bool p.neg, .slice a' (dg 1000000000 p.m).length c', .int .i64 p.e]) ∧ Own w' w.heap.size 50 .u32 a' c' (dg 1000000000 p.m) ∧ Below w.heap.size w w'

set_option maxHeartbeats 4000000 in
theorem ToD_any (p : Pl) (a : Option Addr) (c : Nat) (w : World) (hl : (dg 10 p.m).length ≤ 1000000) (hr : RdC w a c p.m) :
    Calls Tryd.prog 36 #[.agg #[.bool p.neg, .slice a (dg 10 p.m).length c, .int .i64 p.e]] w (ResV p w) := by
  have hT := fun W hb => To_any a c p.m W (by omega) (hr.1.below' (w' := W) hb (Nat.le_refl _))
  have HT := Lib.hid hT
  obtain ⟨s, m, e⟩ := p
  simp only at hl HT ⊢
  obtain ⟨n, hn⟩ : ∃ n, n = (dg 10 m).length := ⟨_, rfl⟩
  rw [← hn] at hT ⊢
  have HT := Lib.hid hT
  clear hT hn hr
  go_enter Tryd.func36, Tryd.ntmps36
  go_wp2_with fail
  have bb := ((Below.refl w.heap.size w).alloc (Nat.le_refl _) (.cells #[.bool s, .slice a n c, .int .i64 e] 56)).alloc (by simp) (.cells #[.bool false, .slice none 0 0, .int .i64 0] 24)
  have k0 : ((w.alloc (.cells #[.bool s, .slice a n c, .int .i64 e] 56)).alloc (.cells #[.bool false, .slice none 0 0, .int .i64 0] 24)).cell? ⟨w.heap.size, 0, none⟩ = some (.bool s) := by simp
  have k1 : ((w.alloc (.cells #[.bool s, .slice a n c, .int .i64 e] 56)).alloc (.cells #[.bool false, .slice none 0 0, .int .i64 0] 24)).cell? ⟨w.heap.size, 1, none⟩ = some (.slice a n c) := by simp
  have k2 : ((w.alloc (.cells #[.bool s, .slice a n c, .int .i64 e] 56)).alloc (.cells #[.bool false, .slice none 0 0, .int .i64 0] 24)).cell? ⟨w.heap.size, 2, none⟩ = some (.int .i64 e) := by simp
  have K3 := Lib.hid (show ((w.alloc (.cells #[.bool s, .slice a n c, .int .i64 e] 56)).alloc (.cells #[.bool false, .slice none 0 0, .int .i64 0] 24)).cell? ⟨w.heap.size + 1, 0, none⟩ = some (.bool false) by simp)
  have K4 := Lib.hid (show ((w.alloc (.cells #[.bool s, .slice a n c, .int .i64 e] 56)).alloc (.cells #[.bool false, .slice none 0 0, .int .i64 0] 24)).cell? ⟨w.heap.size + 1, 1, none⟩ = some (.slice none 0 0) by simp)
  have K5 := Lib.hid (show ((w.alloc (.cells #[.bool s, .slice a n c, .int .i64 e] 56)).alloc (.cells #[.bool false, .slice none 0 0, .int .i64 0] 24)).cell? ⟨w.heap.size + 1, 2, none⟩ = some (.int .i64 0) by simp)
  have K6 := Lib.hid (show ∀ j, ((w.alloc (.cells #[.bool s, .slice a n c, .int .i64 e] 56)).alloc (.cells #[.bool false, .slice none 0 0, .int .i64 0] 24)).frozen? ⟨w.heap.size + 1, j, none⟩ = false by intro j; simp)
  generalize ((w.alloc (.cells #[.bool s, .slice a n c, .int .i64 e] 56)).alloc (.cells #[.bool false, .slice none 0 0, .int .i64 0] 24)) = w1 at *
  have m1 : w.heap.size + 1 < w1.heap.size := lt_of_cell K3.out
  go_region_held3 (fun w' => w'.cell? ⟨w.heap.size, 0, none⟩ = some (.bool s) ∧ w'.cell? ⟨w.heap.size, 1, none⟩ = some (.slice a n c) ∧ w'.cell? ⟨w.heap.size, 2, none⟩ = some (.int .i64 e)) (first | go_keep | exact ⟨i0, i1, i2⟩)
    ((go_at_call 70; refine (HT.out _ bb.drew).mono ?_; rintro e w2 ⟨a1, c1, rfl, ho1, hb1⟩; have hb2 := (Below.refl w1.heap.size w1).drew.trans hb1; have i0 := cellB k0 hb2; have i1 := cellB k1 hb2; have i2 := cellB k2 hb2; have u0 := cellB K3.out hb2; have u1 := cellB K4.out hb2; have u2 := cellB K5.out hb2; have uf : ∀ j, w2.frozen? ⟨w.heap.size + 1, j, none⟩ = false := (fun j => by rw [hb2.frozen (p := ⟨w.heap.size + 1, j, none⟩) m1]; exact K6.out j)))
  have ap := ho1.apart m1
  have b2 := bb.trans (hb2.mono bb.size)
  have hown := ho1.mono bb.size
  go_wp2
  refine bodyPost_ret (v := .agg #[.bool s, .slice a1 (dg 1000000000 m).length c1, .int .i64 e]) (by simp [results, Tryd.results36, go_sem, u0, u1, u2]) rfl ?_
  exact ⟨a1, c1, rfl, ((hown.setFar ap _ _).setFar ap _ _).setFar ap _ _, ((b2.setCell (Nat.le_succ _) _).setCell (Nat.le_succ _) _).setCell (Nat.le_succ _) _⟩

theorem normA_dl (n : Nat) (s : Bool) (v : Nat) (e : Int) : (dg 10 (normA n s v e).p.m).length ≤ 1000000 := by
  have := (inR_bounds (normA_in n s v e)).1
  unfold dl at this; omega
def ResN (A : Ans) (w : World) (r : Ending) (w' : World) : Prop := ∃ a' c', r = .returned (.tuple #[.agg #[.bool A.p.neg, .slice a' (dg 1000000000 A.p.m).length c', .int .i64 A.p.e], .int .i64 (A.err : Nat)]) ∧ Own w' w.heap.size 50 .u32 a' c' (dg 1000000000 A.p.m) ∧ Below w.heap.size w w'

set_option maxHeartbeats 4000000 in
theorem RNorm_any (s : Bool) (a : Option Addr) (c : Nat) (l : List Nat) (e : Int) (w : World) (hl : l.length ≤ 9223372036854775807) (hlo : Lo 4294967296 l) (hrd : Rd w .u32 a l) :
    Calls Tryd.prog 14 #[.agg #[.bool s, .slice a l.length c, .int .i64 e]] w (ResN (normA l.length s (vl 1000000000 l) e) w) := by
  have hT := fun W hb => Take_any s a c l e W hl hlo (hrd.below' (w' := W) hb (Nat.le_refl _))
  have hdl := normA_dl l.length s (vl 1000000000 l) e
  have hz : (normA l.length s (vl 1000000000 l) e).err ≠ 0 → (normA l.length s (vl 1000000000 l) e).p = zP := fun h => Ans.z_of_err h
  generalize normA l.length s (vl 1000000000 l) e = A at *
  have HT := Lib.hid hT; have HZ := Lib.hid hz
  clear hT hz hlo hrd
  go_enter Tryd.func14, Tryd.ntmps14
  go_wp2_with fail
  refine (HT.out _ (((Below.refl _ _).alloc (Nat.le_refl _) _).alloc (by simp) _)).mono ?_
  rintro r w2 ⟨a1, c1, rfl, hr1, hb1⟩
  have bb := (((Below.refl w.heap.size w).alloc (Nat.le_refl _) (.cells #[.bool s, .slice a l.length c, .int .i64 e] 24)).alloc (by simp) (.cells #[.bool false, .slice none 0 0, .int .i64 0] 24)).trans (hb1.mono (by simp; omega))
  have u0 : w2.cell? ⟨w.heap.size + 1, 0, none⟩ = some (.bool false) := by rw [hb1.cell (by simp)]; simp
  have u1 : w2.cell? ⟨w.heap.size + 1, 1, none⟩ = some (.slice none 0 0) := by rw [hb1.cell (by simp)]; simp
  have u2 : w2.cell? ⟨w.heap.size + 1, 2, none⟩ = some (.int .i64 0) := by rw [hb1.cell (by simp)]; simp
  have uf : ∀ j, w2.frozen? ⟨w.heap.size + 1, j, none⟩ = false := fun j => by rw [hb1.frozen (by simp)]; simp
  have m1 : w.heap.size + 1 < w2.heap.size := lt_of_cell u0
  clear hb1
  by_cases h0 : A.err = 0
  · have hB : ((A.err : Int) != 0) = false := by simp [h0]
    have HE := Lib.hid h0
    have hD := fun W hb => ToD_any A.p a1 c1 W hdl (hr1.below (w' := W) hb)
    have HD := Lib.hid hD
    clear h0 hD hr1
    go_wp2_with fail
    refine (HD.out _ ((Below.refl _ _).alloc (Nat.le_refl _) _)).mono ?_
    rintro r w3 ⟨a3, c3, rfl, ho3, hb3⟩
    have hb4 := ((Below.refl w2.heap.size w2).alloc (Nat.le_refl _) (.cells #[.bool A.p.neg, .slice a1 (dg 10 A.p.m).length c1, .int .i64 A.p.e] 56)).trans (hb3.mono (by simp))
    have t0 := cellB u0 hb4
    have t1 := cellB u1 hb4
    have t2 := cellB u2 hb4
    have tf : ∀ j, w3.frozen? ⟨w.heap.size + 1, j, none⟩ = false := fun j => by rw [hb4.frozen (p := ⟨w.heap.size + 1, j, none⟩) m1]; exact uf j
    have ap := ho3.apart (show w.heap.size + 1 < _ by simp; omega)
    have hown := ho3.mono (show w.heap.size ≤ _ by simp; omega)
    have b4 := bb.trans (hb4.mono bb.size)
    clear hb3 ho3 bb hb4
    go_wp2
    refine bodyPost_ret (v := .tuple #[.agg #[.bool A.p.neg, .slice a3 (dg 1000000000 A.p.m).length c3, .int .i64 A.p.e], .int .i64 0]) (by simp [results, Tryd.results14, go_sem, t0, t1, t2]) rfl ?_
    exact ⟨a3, c3, by rw [HE.out]; rfl, ((hown.setFar ap _ _).setFar ap _ _).setFar ap _ _, ((b4.setCell (Nat.le_succ _) _).setCell (Nat.le_succ _) _).setCell (Nat.le_succ _) _⟩
  · have hB : ((A.err : Int) != 0) = true := by simp [h0]
    have hp := HZ.out h0
    have HP := Lib.hid hp
    clear hp hr1 h0
    go_wp2
    refine bodyPost_ret (v := .tuple #[.agg #[.bool false, .slice none 0 0, .int .i64 0], .int .i64 (A.err : Nat)]) (by
      have s0 : (((w2.setCell ⟨w.heap.size + 1, 0, none⟩ (.bool false)).setCell ⟨w.heap.size + 1, 1, none⟩ (.slice none 0 0)).setCell ⟨w.heap.size + 1, 2, none⟩ (.int .i64 0)).cell? ⟨w.heap.size + 1, 0, none⟩ = some (.bool false) := by simp [go_sem, u0]
      have s1 : (((w2.setCell ⟨w.heap.size + 1, 0, none⟩ (.bool false)).setCell ⟨w.heap.size + 1, 1, none⟩ (.slice none 0 0)).setCell ⟨w.heap.size + 1, 2, none⟩ (.int .i64 0)).cell? ⟨w.heap.size + 1, 1, none⟩ = some (.slice none 0 0) := by simp [go_sem, u1]
      have s2 : (((w2.setCell ⟨w.heap.size + 1, 0, none⟩ (.bool false)).setCell ⟨w.heap.size + 1, 1, none⟩ (.slice none 0 0)).setCell ⟨w.heap.size + 1, 2, none⟩ (.int .i64 0)).cell? ⟨w.heap.size + 1, 2, none⟩ = some (.int .i64 0) := by simp [go_sem, u2]
      have r0 := fun o => cellB s0 ((Below.refl _ _).alloc (Nat.le_refl _) o)
      have r1 := fun o => cellB s1 ((Below.refl _ _).alloc (Nat.le_refl _) o)
      have r2 := fun o => cellB s2 ((Below.refl _ _).alloc (Nat.le_refl _) o)
      simp [results, Tryd.results14, go_sem, r0, r1, r2]) rfl ?_
    refine ⟨none, 0, ?_, ?_, ?_⟩
    · rw [HP.out]
      show _ = Ending.returned (.tuple #[.agg #[.bool false, .slice none (dg 1000000000 0).length 0, .int .i64 0], .int .i64 (A.err : Nat)])
      rw [dg_zero]; rfl
    · rw [HP.out]; show Own _ _ _ .u32 none 0 (dg 1000000000 0); rw [dg_zero]; exact Own.nilNone _ _ _ _
    · exact (((bb.setCell (Nat.le_succ _) _).setCell (Nat.le_succ _) _).setCell (Nat.le_succ _) _).alloc (by simpa using bb.size) _

def sameB (s1 s2 : Bool) (e1 e2 : Int) (l1 l2 : List Nat) : Bool := s1 == s2 && (decide (e1 = e2) && decide (l1 = l2))

set_option maxHeartbeats 4000000 in
theorem SameD_any (s1 s2 : Bool) (a1 a2 : Option Addr) (c1 c2 : Nat) (l1 l2 : List Nat) (e1 e2 : Int) (w : World) (h1 : l1.length ≤ 9223372036854775807) (h2 : l2.length ≤ 9223372036854775807) (r1 : Rd w .u32 a1 l1) (r2 : Rd w .u32 a2 l2) :
    Calls Tryd.prog 37 #[.agg #[.bool s1, .slice a1 l1.length c1, .int .i64 e1], .agg #[.bool s2, .slice a2 l2.length c2, .int .i64 e2]] w fun r w' => r = .returned (.bool (sameB s1 s2 e1 e2 l1 l2)) ∧ Below w.heap.size w w' := by
  have hS := fun W hb => Same_any a1 a2 c1 c2 l1 l2 W h1 h2 (r1.below' (w' := W) hb (Nat.le_refl _)) (r2.below' hb (Nat.le_refl _))
  have hV : sameB s1 s2 e1 e2 l1 l2 = (s1 == s2 && (decide (e1 = e2) && decide (l1 = l2))) := rfl
  have HS := Lib.hid hS
  clear hS r1 r2
  by_cases hs : s1 = s2
  · subst hs
    by_cases he : e1 = e2
    · subst he
      have hv : sameB s1 s1 e1 e1 l1 l2 = decide (l1 = l2) := by rw [hV]; simp
      have HV := Lib.hid hv
      clear hv hV
      go_enter Tryd.func37, Tryd.ntmps37
      go_wp2_with fail
      refine (HS.out _ (((Below.refl _ _).alloc (Nat.le_refl _) _).alloc (by simp) _)).mono ?_
      rintro r w1 ⟨rfl, hb⟩
      have bb := (((Below.refl w.heap.size w).alloc (Nat.le_refl _) (.cells #[.bool s1, .slice a1 l1.length c1, .int .i64 e1] 24)).alloc (by simp) (.cells #[.bool s1, .slice a2 l2.length c2, .int .i64 e1] 24)).trans (hb.mono (by simp; omega))
      clear hb
      go_wp2
      go_ret
      exact ⟨ret_bool HV.out.symm, bb⟩
    · have hv : sameB s1 s1 e1 e2 l1 l2 = false := by rw [hV]; simp [he]
      have heB : (e1 == e2) = false := by simpa using he
      have HV := Lib.hid hv
      clear hv hV
      go_enter Tryd.func37, Tryd.ntmps37
      go_wp2
      go_ret
      exact ⟨ret_bool HV.out.symm, ((Below.refl _ _).alloc (Nat.le_refl _) _).alloc (by simp) _⟩
  · have hv : sameB s1 s2 e1 e2 l1 l2 = false := by rw [hV]; simp [hs]
    have hsB : (s1 == s2) = false := by simpa using hs
    have HV := Lib.hid hv
    clear hv hV
    go_enter Tryd.func37, Tryd.ntmps37
    go_wp2
    go_ret
    exact ⟨ret_bool HV.out.symm, ((Below.refl _ _).alloc (Nat.le_refl _) _).alloc (by simp) _⟩

/-- the law's own -/
theorem sameD_any (s1 s2 : Bool) (a1 a2 : Option Addr) (c1 c2 : Nat) (l1 l2 : List Nat) (e1 e2 : Int) (w : World) (h1 : l1.length ≤ 9223372036854775807) (h2 : l2.length ≤ 9223372036854775807) (r1 : Rd w .u32 a1 l1) (r2 : Rd w .u32 a2 l2) :
    Calls Tryd.prog 15 #[.agg #[.bool s1, .slice a1 l1.length c1, .int .i64 e1], .agg #[.bool s2, .slice a2 l2.length c2, .int .i64 e2]] w fun r w' => r = .returned (.bool (sameB s1 s2 e1 e2 l1 l2)) ∧ Below w.heap.size w w' := by
  have hS := fun W hb => SameD_any s1 s2 a1 a2 c1 c2 l1 l2 e1 e2 W h1 h2 (r1.below' (w' := W) hb (Nat.le_refl _)) (r2.below' hb (Nat.le_refl _))
  have HS := Lib.hid hS
  clear hS r1 r2
  go_enter Tryd.func15, Tryd.ntmps15
  go_wp2_with fail
  refine (HS.out _ (((Below.refl _ _).alloc (Nat.le_refl _) _).alloc (by simp) _)).mono ?_
  rintro r w1 ⟨rfl, hb⟩
  have bb := (((Below.refl w.heap.size w).alloc (Nat.le_refl _) (.cells #[.bool s1, .slice a1 l1.length c1, .int .i64 e1] 24)).alloc (by simp) (.cells #[.bool s2, .slice a2 l2.length c2, .int .i64 e2] 24)).trans (hb.mono (by simp; omega))
  clear hb
  go_wp2
  go_ret
  exact ⟨rfl, bb⟩
end Go.Proofs.YtofeckdhhaoobaaDoor
