/- Walks of dec.Neg and the document's Neg. -/
import Derived.Test.YtofeckdhhaoobaaDoorDecQs
namespace Go.Proofs.YtofeckdhhaoobaaDoor
open Go.RowKit LM

set_option maxHeartbeats 4000000 in
theorem DNeg_any (s : Bool) (a : Option Addr) (c : Nat) (l : List Nat) (e : Int) (w : World) (hl : l.length ≤ 9223372036854775807) (hlo : Lo 4294967296 l) (hrd : Rd w .u32 a l) (htab : Tab w) :
    Calls Tryd.prog 26 #[.agg #[.bool s, .slice a l.length c, .int .i64 e]] w (ResA (normA l.length (!s) (vl 1000000000 l) e) w) := by
  rcases hnr : nearB l.length e with _ | _
  · have hA : normA l.length (!s) (vl 1000000000 l) e = ⟨1, zP⟩ := by unfold normA; rw [if_neg (by rw [hnr]; exact Bool.false_ne_true)]
    rw [hA]
    have hI := fun W => isNear_any s a l.length c e W
    rw [hnr] at hI
    have HI := Lib.hid hI
    clear hI hnr hA hlo hrd htab
    go_enter Tryd.func26, Tryd.ntmps26
    go_wp2_with fail
    refine (HI.out _).mono ?_
    rintro r w1 ⟨rfl, hb⟩
    obtain ⟨hc, hf⟩ := bcell hb
    have bb := (((Below.refl w.heap.size w).alloc (Nat.le_refl _) (.cells #[.bool s, .slice a l.length c, .int .i64 e] 24)).alloc (by simp) (.cells #[.bool false, .slice none 0 0, .int .i64 0] 24)).trans (hb.mono (by simp; omega))
    clear hb
    go_wp2
    refine bodyPost_ret (v := .tuple #[.agg #[.bool false, .slice none 0 0, .int .i64 0], .int .i64 1]) (by simp [results, Tryd.results26, go_sem, hc, hf]) rfl ?_
    exact ⟨none, 0, by show _ = Ending.returned (.tuple #[.agg #[.bool false, .slice none (dg 1000000000 0).length 0, .int .i64 0], .int .i64 1]); rw [dg_zero]; rfl, by show Own _ _ _ .u32 none 0 (dg 1000000000 0); rw [dg_zero]; exact Own.nilNone _ _ _ _, ((bb.setCell (Nat.le_succ _) _).setCell (Nat.le_succ _) _).setCell (Nat.le_succ _) _⟩
  · have hI := fun W => isNear_any s a l.length c e W
    rw [hnr] at hI
    have HI := Lib.hid hI
    have hA : normA l.length (!s) (vl 1000000000 l) e = tellA (!s) (vl 1000000000 l) e := by unfold normA; rw [if_pos hnr]
    rw [hA]
    have hn := of_decide_eq_true hnr
    have hN := fun W hb => Norm_any a c l W (by omega) hlo (hrd.below' (w' := W) hb (Nat.le_refl _))
    have HN := Lib.hid hN
    obtain ⟨hv1, hv2⟩ := near_few hlo hn.1
    have hTL := fun a1 c1 W hr ht => tell_any (!s) a1 c1 (vl 1000000000 l) e W hv1 hv2 (by omega) (by omega) hr ht
    have HTL := Lib.hid hTL
    clear hI hnr hA hN hTL hv1 hv2
    go_enter Tryd.func26, Tryd.ntmps26
    go_wp2_with fail
    refine (HI.out _).mono ?_
    rintro r w1 ⟨rfl, hb⟩
    obtain ⟨hc, hf⟩ := bcell hb
    have bb := (((Below.refl w.heap.size w).alloc (Nat.le_refl _) (.cells #[.bool s, .slice a l.length c, .int .i64 e] 24)).alloc (by simp) (.cells #[.bool false, .slice none 0 0, .int .i64 0] 24)).trans (hb.mono (by simp; omega))
    have k0 : w1.cell? ⟨w.heap.size, 0, none⟩ = some (.bool s) := by rw [hb.cell (by simp; omega)]; simp
    have k1 : w1.cell? ⟨w.heap.size, 1, none⟩ = some (.slice a l.length c) := by rw [hb.cell (by simp; omega)]; simp
    have k2 : w1.cell? ⟨w.heap.size, 2, none⟩ = some (.int .i64 e) := by rw [hb.cell (by simp; omega)]; simp
    have k3 : ∀ j, j < 3 → ∃ x, w1.cell? ⟨w.heap.size + 1, j, none⟩ = some x := fun j hj => ⟨(#[Value.bool false, .slice none 0 0, .int .i64 0])[j]'(by simpa using hj), by rw [hb.cell (by simp)]; simp⟩
    have k6 : ∀ j, w1.frozen? ⟨w.heap.size + 1, j, none⟩ = false := fun j => by rw [hb.frozen (by simp)]; simp
    clear hb hc hf
    have K3 := Lib.hid k3; have K6 := Lib.hid k6
    clear k3 k6
    go_wp2_with fail
    go_region_held3 (fun w' => w'.cell? ⟨w.heap.size, 0, none⟩ = some (.bool s) ∧ w'.cell? ⟨w.heap.size, 1, none⟩ = some (.slice a l.length c) ∧ w'.cell? ⟨w.heap.size, 2, none⟩ = some (.int .i64 e)) (first | go_keep | exact ⟨j0, j1, j2⟩ | exact ⟨i0, i1, i2⟩)
      (first
        | (go_at_call 34; refine (HN.out _ bb.drew).mono ?_; rintro e w2 ⟨a1, c1, rfl, ho1, hb1⟩; have bb2 := bb.drew.trans (hb1.mono bb.size); have j0 : w2.cell? ⟨w.heap.size, 0, none⟩ = some (.bool s) := (by rw [hb1.cell (lt_of_cell k0)]; exact k0); have j1 : w2.cell? ⟨w.heap.size, 1, none⟩ = some (.slice a l.length c) := (by rw [hb1.cell (lt_of_cell k1)]; exact k1); have j2 : w2.cell? ⟨w.heap.size, 2, none⟩ = some (.int .i64 e) := (by rw [hb1.cell (lt_of_cell k2)]; exact k2))
        | (go_at_call 33; refine (HTL.out a1 c1 _ ho1.rd (htab.below bb2)).mono ?_; rintro e w3 ⟨a3, c3, rfl, hr3, hb3⟩; have i0 : w3.cell? ⟨w.heap.size, 0, none⟩ = some (.bool s) := (by rw [hb3.cell (lt_of_cell j0)]; exact j0); have i1 : w3.cell? ⟨w.heap.size, 1, none⟩ = some (.slice a l.length c) := (by rw [hb3.cell (lt_of_cell j1)]; exact j1); have i2 : w3.cell? ⟨w.heap.size, 2, none⟩ = some (.int .i64 e) := (by rw [hb3.cell (lt_of_cell j2)]; exact j2); obtain ⟨o0, o1, o2, hofr⟩ := res3 (w1 := w1.drew) K3.out K6.out hb1 hb3; obtain ⟨x0, i3⟩ := o0; obtain ⟨x1, i4⟩ := o1; obtain ⟨x2, i5⟩ := o2))
    have hg1 : w.heap.size + 1 < w2.heap.size := Nat.lt_of_lt_of_le (lt_of_cell (K3.out 0 (by omega)).choose_spec) hb1.size
    have ap := hr3.apart hg1
    have bb3 := bb2.trans (hb3.mono bb2.size)
    have hown := hr3.mono bb2.size
    clear hr3 hb3 hb1
    go_wp2
    refine bodyPost_ret (v := .tuple #[.agg #[.bool (tellA (!s) (vl 1000000000 l) e).p.neg, .slice a3 (dg 1000000000 (tellA (!s) (vl 1000000000 l) e).p.m).length c3, .int .i64 (tellA (!s) (vl 1000000000 l) e).p.e], .int .i64 ((tellA (!s) (vl 1000000000 l) e).err : Nat)]) (by simp [results, Tryd.results26, go_sem, i3, i4, i5]) rfl ?_
    exact ⟨a3, c3, rfl, ((hown.setFar ap _ _).setFar ap _ _).setFar ap _ _, ((bb3.setCell (Nat.le_succ _) _).setCell (Nat.le_succ _) _).setCell (Nat.le_succ _) _⟩

def flipP (p : Pl) : Pl := if 0 < p.m then ⟨!p.neg, p.m, p.e⟩ else p
theorem pl_flip (s : Bool) (v : Nat) (e : Int) : pl (!s) v e = flipP (pl s v e) := by
  unfold flipP
  rcases Nat.eq_zero_or_pos v with h | h
  · subst h; rfl
  · have hp : ∀ s, pl s v e = ⟨s, core v, e + tz v⟩ := fun s => by unfold pl; rw [if_neg (by omega)]
    rw [hp, hp, if_pos (core_pos h)]
theorem inR_flip (p : Pl) : inR (flipP p) = inR p := by
  unfold flipP
  split <;> rfl
theorem normA_flip (n : Nat) (s : Bool) (v : Nat) (e : Int) : normA n (!s) v e = ⟨(normA n s v e).err, if (normA n s v e).err = 0 then flipP (normA n s v e).p else zP⟩ := by
  unfold normA
  by_cases h : nearB n e = true
  · rw [if_pos h, if_pos h]
    unfold tellA
    rw [pl_flip, inR_flip]
    by_cases h2 : inR (pl s v e) = true
    · rw [if_pos h2, if_pos h2]; rfl
    · rw [if_neg h2, if_neg h2]; rfl
  · rw [if_neg h, if_neg h]; rfl

theorem resN_err0 {n : Nat} {w w' : World} (hb : Below w.heap.size w w') : ResN ⟨n, zP⟩ w (.returned (.tuple #[.agg #[.bool false, .slice none 0 0, .int .i64 0], .int .i64 (n : Nat)])) w' :=
  ⟨none, 0, by show _ = Ending.returned (.tuple #[.agg #[.bool false, .slice none (dg 1000000000 0).length 0, .int .i64 0], .int .i64 (n : Nat)]); rw [dg_zero]; rfl, by show Own _ _ _ .u32 none 0 (dg 1000000000 0); rw [dg_zero]; exact Own.nilNone _ _ _ _, hb⟩

set_option maxHeartbeats 8000000 in
set_option maxRecDepth 20000 in
theorem RNeg_any (s : Bool) (a : Option Addr) (c : Nat) (l : List Nat) (e : Int) (w : World) (hl : l.length ≤ 9223372036854775807) (hlo : Lo 4294967296 l) (hrd : Rd w .u32 a l) :
    Calls Tryd.prog 27 #[.agg #[.bool s, .slice a l.length c, .int .i64 e]] w (ResN (normA l.length (!s) (vl 1000000000 l) e) w) := by
  have hok : (normA l.length s (vl 1000000000 l) e).err = 0 → normA l.length (!s) (vl 1000000000 l) e = ⟨0, flipP (normA l.length s (vl 1000000000 l) e).p⟩ := fun h => by rw [normA_flip, if_pos h, h]
  have hbad : (normA l.length s (vl 1000000000 l) e).err ≠ 0 → normA l.length (!s) (vl 1000000000 l) e = ⟨(normA l.length s (vl 1000000000 l) e).err, zP⟩ := fun h => by rw [normA_flip, if_neg h]
  generalize normA l.length (!s) (vl 1000000000 l) e = N at *
  have hT := fun W hb => Take_any s a c l e W hl hlo (hrd.below' (w' := W) hb (Nat.le_refl _))
  have hdl := normA_dl l.length s (vl 1000000000 l) e
  generalize normA l.length s (vl 1000000000 l) e = A at *
  have HT := Lib.hid hT; have HOK := Lib.hid hok; have HBD := Lib.hid hbad
  clear hT hlo hrd hok hbad
  go_enter Tryd.func27, Tryd.ntmps27
  go_wp2_with fail
  refine (HT.out _ (((Below.refl _ _).alloc (Nat.le_refl _) _).alloc (by simp) _)).mono ?_
  rintro r w2 ⟨a1, c1, rfl, hr1, hb1⟩
  have bb := (((Below.refl w.heap.size w).alloc (Nat.le_refl _) (.cells #[.bool s, .slice a l.length c, .int .i64 e] 24)).alloc (by simp) (.cells #[.bool false, .slice none 0 0, .int .i64 0] 24)).trans (hb1.mono (by simp; omega))
  have u0 : w2.cell? ⟨w.heap.size + 1, 0, none⟩ = some (.bool false) := by rw [hb1.cell (by simp)]; simp
  have u1 : w2.cell? ⟨w.heap.size + 1, 1, none⟩ = some (.slice none 0 0) := by rw [hb1.cell (by simp)]; simp
  have u2 : w2.cell? ⟨w.heap.size + 1, 2, none⟩ = some (.int .i64 0) := by rw [hb1.cell (by simp)]; simp
  have uf : ∀ j, w2.frozen? ⟨w.heap.size + 1, j, none⟩ = false := fun j => by rw [hb1.frozen (by simp)]; simp
  have m1 : w.heap.size + 1 < w2.heap.size := lt_of_cell u0
  clear hb1
  by_cases h0 : A.err = 0
  · have hB : ((A.err : Int) != 0) = false := by simp [h0]
    have HE := Lib.hid h0
    obtain ⟨er, p⟩ := A
    obtain ⟨sg, m, x⟩ := p
    simp only at h0 hB hdl hr1 HE HOK ⊢
    have hN := HOK.out h0
    subst h0
    have hq := (Below.refl w2.heap.size w2).alloc (Nat.le_refl _) (.cells #[.bool sg, .slice a1 (dg 10 m).length c1, .int .i64 x] 56)
    have bb2 := bb.alloc bb.size (.cells #[.bool sg, .slice a1 (dg 10 m).length c1, .int .i64 x] 56)
    have t0 := cellB u0 hq
    have t1 := cellB u1 hq
    have t2 := cellB u2 hq
    have tf := fun j => (hq.frozen (p := ⟨w.heap.size + 1, j, none⟩) m1).trans (uf j)
    rcases Nat.eq_zero_or_pos m with hm | hm
    · have hf : flipP ⟨sg, m, x⟩ = ⟨sg, m, x⟩ := by unfold flipP; rw [if_neg (by simp only; omega)]
      rw [hf] at hN
      have hI : ¬ (0 : Int) < ((dg 10 m).length : Int) := by rw [hm, dg_zero]; simp
      have hD := fun W hb => ToD_any ⟨sg, m, x⟩ a1 c1 W hdl (hr1.below (w' := W) hb)
      simp only at hD
      have HD := Lib.hid hD
      have hqq := hq
      clear hD hf hm hr1
      go_wp2_with fail
      refine (HD.out _ (by first | exact (Below.refl _ _).alloc (Nat.le_refl _) _ | exact ((Below.refl _ _).alloc (Nat.le_refl _) _).setCell (Nat.le_refl _) _)).mono ?_
      rintro r w3 ⟨a3, c3, rfl, ho3, hb3⟩
      have hb4 := hqq.trans (hb3.mono hqq.size)
      have v0 := cellB u0 hb4
      have v1 := cellB u1 hb4
      have v2 := cellB u2 hb4
      have vf : ∀ j, w3.frozen? ⟨w.heap.size + 1, j, none⟩ = false := fun j => by rw [hb4.frozen (p := ⟨w.heap.size + 1, j, none⟩) m1]; exact uf j
      have ap := ho3.apart (show w.heap.size + 1 < _ by simp; omega)
      have hown := ho3.mono (show w.heap.size ≤ _ by simp; omega)
      have b4 := bb.trans (hb4.mono bb.size)
      have HN := Lib.hid hN
      clear hb3 ho3 bb hb4 bb2 hN hq hqq t0 t1 t2 tf u0 u1 u2 uf
      go_wp2
      refine bodyPost_ret (v := .tuple #[.agg #[.bool sg, .slice a3 (dg 1000000000 m).length c3, .int .i64 x], .int .i64 0]) (by simp [results, Tryd.results27, go_sem, v0, v1, v2]) rfl ?_
      exact ⟨a3, c3, by rw [HN.out]; rfl, by rw [HN.out]; exact ((hown.setFar ap _ _).setFar ap _ _).setFar ap _ _, ((b4.setCell (Nat.le_succ _) _).setCell (Nat.le_succ _) _).setCell (Nat.le_succ _) _⟩
    · have hf : flipP ⟨sg, m, x⟩ = ⟨!sg, m, x⟩ := by unfold flipP; rw [if_pos hm]
      rw [hf] at hN
      have hI : (0 : Int) < ((dg 10 m).length : Int) := by rw [dg_pos (by omega) hm]; simp
      have hD := fun W hb => ToD_any ⟨!sg, m, x⟩ a1 c1 W hdl (hr1.below (w' := W) hb)
      simp only at hD
      have HD := Lib.hid hD
      have hqq := (Below.refl w2.heap.size w2).alloc (Nat.le_refl _) (.cells #[.bool (!sg), .slice a1 (dg 10 m).length c1, .int .i64 x] 56)
      clear hD hf hm hr1
      go_wp2_with fail
      refine (HD.out _ (by first | exact (Below.refl _ _).alloc (Nat.le_refl _) _ | exact ((Below.refl _ _).alloc (Nat.le_refl _) _).setCell (Nat.le_refl _) _)).mono ?_
      rintro r w3 ⟨a3, c3, rfl, ho3, hb3⟩
      have hb4 := hqq.trans (hb3.mono hqq.size)
      have v0 := cellB u0 hb4
      have v1 := cellB u1 hb4
      have v2 := cellB u2 hb4
      have vf : ∀ j, w3.frozen? ⟨w.heap.size + 1, j, none⟩ = false := fun j => by rw [hb4.frozen (p := ⟨w.heap.size + 1, j, none⟩) m1]; exact uf j
      have ap := ho3.apart (show w.heap.size + 1 < _ by simp; omega)
      have hown := ho3.mono (show w.heap.size ≤ _ by simp; omega)
      have b4 := bb.trans (hb4.mono bb.size)
      have HN := Lib.hid hN
      clear hb3 ho3 bb hb4 bb2 hN hq hqq t0 t1 t2 tf u0 u1 u2 uf
      go_wp2
      refine bodyPost_ret (v := .tuple #[.agg #[.bool (!sg), .slice a3 (dg 1000000000 m).length c3, .int .i64 x], .int .i64 0]) (by simp [results, Tryd.results27, go_sem, v0, v1, v2]) rfl ?_
      exact ⟨a3, c3, by rw [HN.out]; rfl, by rw [HN.out]; exact ((hown.setFar ap _ _).setFar ap _ _).setFar ap _ _, ((b4.setCell (Nat.le_succ _) _).setCell (Nat.le_succ _) _).setCell (Nat.le_succ _) _⟩
  · have hB : ((A.err : Int) != 0) = true := by simp [h0]
    have HN := Lib.hid (HBD.out h0)
    obtain ⟨z0, z1, z2⟩ := valRes u0 u1 u2 (.bool false) (.slice none 0 0) (.int .i64 0) (.cells #[.bool A.p.neg, .slice a1 (dg 10 A.p.m).length c1, .int .i64 A.p.e] 56)
    clear hr1 h0
    go_wp2
    refine bodyPost_ret (v := .tuple #[.agg #[.bool false, .slice none 0 0, .int .i64 0], .int .i64 (A.err : Nat)]) (by simp [results, Tryd.results27, go_sem, z0, z1, z2]) rfl ?_
    rw [HN.out]
    exact resN_err0 (((bb.setCell (Nat.le_succ _) _).setCell (Nat.le_succ _) _).setCell (Nat.le_succ _) _ |>.alloc (by simpa using bb.size) _)
end Go.Proofs.YtofeckdhhaoobaaDoor
